/-
  The walks of the cursor's methods: a text is taken, a number is read, or a part lacks and the method panics. Condition: the error of a part that lacks stands in its variable.
-/
import Derived.Test.YtogebppolkfldaaGreatDoorRdVars
namespace Go.Proofs.YtogebppolkfldaaGreatDoor.Rd
open Go.RowKit Go.Proofs.YtogebppolkfldaaGreatDoor.Mem
set_option linter.unusedVariables false

/-- A cursor in block c, with r left. -/
def Cur (w : World) (c : Nat) (r : ByteArray) : Prop := w.heap[c]? = some (.cells #[.string r] 192 (0, 0))

theorem Cur.cell {w : World} {c : Nat} {r : ByteArray} (h : Cur w c r) : w.cell? ⟨c, 0, none⟩ = some (.string r) := by rw [cell_of_row w c 0 _ _ (0, 0) h]; rfl
theorem Cur.fr {w : World} {c : Nat} {r : ByteArray} (h : Cur w c r) : w.frozen? ⟨c, 0, none⟩ = false := frozen_of_row w c 0 _ _ h
theorem Cur.lt {w : World} {c : Nat} {r : ByteArray} (h : Cur w c r) : c < w.heap.size := World.block_lt_of_cell? w _ h.cell
theorem Cur.set {w : World} {c : Nat} {r : ByteArray} (h : Cur w c r) (r' : ByteArray) : Cur (w.setCell ⟨c, 0, none⟩ (.string r')) c r' := by
  have := heap_setCell_same w c 0 _ _ (.string r') h
  simpa [Cur] using this
theorem Cur.below {w w' : World} {c : Nat} {r : ByteArray} (h : Cur w c r) (b : Below w.heap.size w w') : Cur w' c r := by
  unfold Cur; rw [b.block c h.lt]; exact h

/-- The error that a cursor panics with. -/
def Lacks (w : World) (u : TypeId) (pv : Value) : Prop := w.cell? ⟨1, 0, none⟩ = some (.iface u pv)

theorem Lacks.lt {w : World} {u : TypeId} {pv : Value} (h : Lacks w u pv) : 1 < w.heap.size := World.block_lt_of_cell? w _ h
theorem Lacks.kept {w w' : World} {u : TypeId} {pv : Value} {S : Nat → Prop} (h : Lacks w u pv) (k : Kept S w w') (hn : ¬ S 1) : Lacks w' u pv := by
  unfold Lacks; rw [cell_block (p := ⟨1, 0, none⟩) (k.block _ h.lt hn)]; exact h

/-- The panic of a part that lacks. -/
def lack (u : TypeId) (pv : Value) : Ending := .panicked [{ v := .iface u pv, recovered := false }]

theorem rest_rest (s : ByteArray) (i q : Nat) : (rest s i).extract q (rest s i).size = rest s (i + q) := by
  unfold rest
  apply ByteArray.ext
  simp [ByteArray.data_extract, Array.extract_extract]
  congr 1
  omega

set_option maxRecDepth 100000 in
set_option maxHeartbeats 1000000 in
theorem take_yes (w : World) (c : Nat) (r : ByteArray) (n : Nat) (h : Cur w c r) (hn : n ≤ r.size) (hr : r.size ≤ 1048576) :
    Calls Tryz.prog 125 #[.pointer (some ⟨c, 0, none⟩), .int .i64 (n : Int)] w fun e w' => e = .returned (.string (r.extract 0 n)) ∧ w' = w.setCell ⟨c, 0, none⟩ (.string (r.extract n r.size)) := by
  have k0 := h.cell
  have f0 := h.fr
  have s1 : ∀ wx : World, (Instr.slice 9 (.string r) none (some (.int .i64 (n : Int))) none).run Tryz.prog wx = .ok (.string (r.extract 0 n)) wx := fun wx => by
    have := run_slice_string_h (P := Tryz.prog) wx 9 r Tryz.underlying9 .i64 (n : Int) (by omega) (by omega)
    simpa using this
  have s2 : ∀ wx : World, (Instr.slice 9 (.string r) (some (.int .i64 (n : Int))) none none).run Tryz.prog wx = .ok (.string (r.extract n r.size)) wx := fun wx => by
    have := run_slice_string_l (P := Tryz.prog) wx 9 r Tryz.underlying9 .i64 (n : Int) (by omega) (by omega)
    simpa using this
  clear h
  generalize r.extract 0 n = a at *
  generalize r.extract n r.size = b at *
  go_enter Tryz.func125, Tryz.ntmps125
  go_wp2
  go_ret
  exact ⟨rfl, rfl⟩

set_option maxRecDepth 100000 in
set_option maxHeartbeats 1000000 in
theorem take_no (w : World) (c : Nat) (r : ByteArray) (n : Int) (h : Cur w c r) (hn : (r.size : Int) < n) (u : TypeId) (pv : Value) (hL : Lacks w u pv) :
    Calls Tryz.prog 125 #[.pointer (some ⟨c, 0, none⟩), .int .i64 n] w fun e w' => e = lack u pv ∧ w' = w := by
  have k0 := h.cell
  have g0 : w.cell? ⟨1, 0, none⟩ = some (.iface u pv) := hL
  unfold lack
  clear h hL
  go_enter Tryz.func125, Tryz.ntmps125
  go_wp2
  exact ⟨rfl, rfl, rfl⟩

/-- What a step of a cursor leaves: the cursor moved alone, or a panic. -/
def Moved (w w' : World) (c : Nat) (r : ByteArray) : Prop := Cur w' c r ∧ Kept (fun b => b = c) w w'

theorem moved_set {w : World} {c : Nat} {r : ByteArray} (h : Cur w c r) (r' : ByteArray) : Moved w (w.setCell ⟨c, 0, none⟩ (.string r')) c r' := ⟨h.set r', kept_set w c 0 _⟩

theorem Moved.trans {w w1 w2 : World} {c : Nat} {r r' : ByteArray} (h : Moved w w1 c r) (k : Moved w1 w2 c r') : Moved w w2 c r' :=
  ⟨k.1, (h.2.trans k.2).mono (fun b _ x => by rcases x with x | x <;> exact x)⟩

theorem Moved.below {w w1 w2 : World} {c : Nat} {r : ByteArray} (h : Moved w w1 c r) (b : Below w1.heap.size w1 w2) : Moved w w2 c r :=
  ⟨h.1.below b, (h.2.trans (Kept.of_below (S := fun _ => False) b)).mono (fun b _ x => by rcases x with x | x; exact x; cases x)⟩

set_option maxRecDepth 100000 in
set_option maxHeartbeats 1000000 in
theorem number_yes (R : ByteArray → Int × Nat) (hR : Reads R) (s : ByteArray) (hs : s.size ≤ 1048576) (i : Nat) (w : World) (c : Nat) (h : Cur w c (rest s i)) (hq : (R (rest s i)).2 ≠ 0) :
    Calls Tryz.prog 154 #[.pointer (some ⟨c, 0, none⟩)] w fun e w' => e = .returned (.int .i64 (R (rest s i)).1) ∧ Moved w w' c (rest s (i + (R (rest s i)).2)) := by
  have k0 := h.cell
  have hRV := hR (rest s i) (by rw [rest_size]; unfold maxLen; omega)
  have hsz : (rest s i).size ≤ 1048576 := by rw [rest_size]; omega
  have HRV := hid hRV
  have hle := hRV.le
  have HRR := hid (rest_rest s i (R (rest s i)).2)
  have HH := hid h
  generalize hg : rest s i = r at *
  generalize R r = p at *
  obtain ⟨x, q⟩ := p
  simp only [] at hq hle HRR
  have hq0 : ((q : Int) == 0) = false := by simpa using hq
  clear hRV h hR hg
  go_enter Tryz.func154, Tryz.ntmps154
  go_wp2_with fail
  refine (HRV.out.im w).mono ?_
  rintro e w1 ⟨rfl, hw⟩
  obtain rfl := hw.symm
  go_wp2_with fail
  refine (take_yes w c r q HH.out hle hsz).mono ?_
  rintro e w1 ⟨rfl, hw⟩
  have HM : Hid (Moved w w1 c (rest s (i + q))) := by rw [Hid, hw, HRR.out]; exact moved_set HH.out _
  clear hw k0
  go_wp2
  go_ret
  exact ⟨rfl, HM.out⟩

set_option maxRecDepth 100000 in
set_option maxHeartbeats 1000000 in
theorem number_no (R : ByteArray → Int × Nat) (hR : Reads R) (s : ByteArray) (hs : s.size ≤ 1048576) (i : Nat) (w : World) (c : Nat) (h : Cur w c (rest s i)) (hq : (R (rest s i)).2 = 0) (u : TypeId) (pv : Value) (hL : Lacks w u pv) :
    Calls Tryz.prog 154 #[.pointer (some ⟨c, 0, none⟩)] w fun e w' => e = lack u pv ∧ w' = w := by
  have k0 := h.cell
  have hRV := hR (rest s i) (by rw [rest_size]; unfold maxLen; omega)
  have HRV := hid hRV
  have g0 : w.cell? ⟨1, 0, none⟩ = some (.iface u pv) := hL
  unfold lack
  generalize rest s i = r at *
  generalize R r = p at *
  obtain ⟨x, q⟩ := p
  simp only [] at hq
  subst hq
  clear hRV h hR hL
  go_enter Tryz.func154, Tryz.ntmps154
  go_wp2_with fail
  refine (HRV.out.im w).mono ?_
  rintro e w1 ⟨rfl, hw⟩
  obtain rfl := hw.symm
  go_wp2
  exact ⟨rfl, rfl, rfl⟩

/-- A number, in one word: it is read, or a part lacks. -/
theorem number (R : ByteArray → Int × Nat) (hR : Reads R) (s : ByteArray) (hs : s.size ≤ 1048576) (i : Nat) (w : World) (c : Nat) (h : Cur w c (rest s i)) (u : TypeId) (pv : Value) (hL : Lacks w u pv) :
    Calls Tryz.prog 154 #[.pointer (some ⟨c, 0, none⟩)] w fun e w' => ((R (rest s i)).2 ≠ 0 ∧ e = .returned (.int .i64 (R (rest s i)).1) ∧ Moved w w' c (rest s (i + (R (rest s i)).2))) ∨ ((R (rest s i)).2 = 0 ∧ e = lack u pv ∧ w' = w) := by
  by_cases hq : (R (rest s i)).2 = 0
  · exact (number_no R hR s hs i w c h hq u pv hL).mono fun _ _ ⟨a, b⟩ => Or.inr ⟨hq, a, b⟩
  · exact (number_yes R hR s hs i w c h hq).mono fun _ _ ⟨a, b⟩ => Or.inl ⟨hq, a, b⟩

set_option maxRecDepth 100000 in
set_option maxHeartbeats 2000000 in
/-- A lease: two numbers, or a part lacks. -/
theorem lease (R : ByteArray → Int × Nat) (hR : Reads R) (s : ByteArray) (hs : s.size ≤ 1048576) (i : Nat) (w : World) (c : Nat) (h : Cur w c (rest s i)) (u : TypeId) (pv : Value) (hL : Lacks w u pv) (hc : 1 < c) :
    Calls Tryz.prog 126 #[.pointer (some ⟨c, 0, none⟩)] w fun e w' => (∃ x y z, nums R s i 2 = some ([x, y], z) ∧ e = .returned (.agg #[.int .i64 (x - 1), .int .i64 y]) ∧ Moved w w' c (rest s z)) ∨ (nums R s i 2 = none ∧ e = lack u pv ∧ Kept (fun b => b = c) w w') := by
  have HR := hid hR
  have HH := hid h
  have HL := hid hL
  have hlt := h.lt
  have HX0 : Hid ((R (rest s i)).2 ≠ 0 → 0 ≤ (R (rest s i)).1 ∧ (R (rest s i)).1 ≤ 562949953421311) := fun _ => by
    have := hR (rest s i) (by rw [rest_size]; unfold maxLen; omega)
    exact ⟨this.x0, this.x1⟩
  clear hR h hL
  have HN1 := hid (nums_step (R := R) (s := s) (i := i) (k := 0) (l := []) (e := i) rfl)
  go_enter Tryz.func126, Tryz.ntmps126
  go_wp2_with fail
  obtain ⟨wl, hwl, ez, A0, B0⟩ := one_new w [.int .i64 0, .int .i64 0] 53
  simp only [hwl]
  have HA := hid A0
  have HB := hid B0
  have HKl : Hid (Kept (fun b => b = c) w wl) := (Kept.of_below B0)
  have HLl := hid (HL.out.kept (Kept.of_below (S := fun _ => False) B0) (fun x => x))
  have HHl := hid (HH.out.below B0)
  clear hwl A0 B0
  refine (number R HR.out s hs i wl c HHl.out u pv HLl.out).mono ?_
  rintro e w1 (⟨hq, rfl, M1⟩ | ⟨hq, rfl, hw⟩)
  · have hx0 := HX0.out hq
    have HN1' : Hid (nums R s i 1 = some ([(R (rest s i)).1], i + (R (rest s i)).2)) := by rw [Hid, HN1.out, if_neg hq]; rfl
    have HN2 := hid (nums_step HN1'.out)
    have HM1 := hid M1
    have HL1 := hid (HLl.out.kept M1.2 (by omega))
    have HA1 := hid (HA.out.kept M1.2 (by omega))
    have HK1 : Hid (Kept (fun b => b = c) w w1) := (HKl.out.trans M1.2).mono (fun b _ x => by rcases x with x | x <;> exact x)
    have hs1 := M1.2.size
    clear M1 hq HX0 HN1
    generalize (R (rest s i)).1 = x at *
    generalize i + (R (rest s i)).2 = i2 at *
    have HX1 : Hid (0 ≤ (R (rest s i2)).1) := (HR.out (rest s i2) (by rw [rest_size]; unfold maxLen; omega)).x0
    go_wp2_with fail
    refine (number R HR.out s hs i2 w1 c HM1.out.1 u pv HL1.out).mono ?_
    rintro e w2 (⟨hq, rfl, M2⟩ | ⟨hq, rfl, hw⟩)
    · have HN2' : Hid (nums R s i 2 = some ([x, (R (rest s i2)).1], i2 + (R (rest s i2)).2)) := by rw [Hid, HN2.out, if_neg hq]; rfl
      have HA2 := hid (HA1.out.kept M2.2 (by omega))
      have HM2 := hid M2
      have HK2 : Hid (Kept (fun b => b = c) w w2) := (HK1.out.trans M2.2).mono (fun b _ x => by rcases x with x | x <;> exact x)
      clear M2 hq HN2
      generalize (R (rest s i2)).1 = y at *
      generalize i2 + (R (rest s i2)).2 = z at *
      have c0 := HA2.out.c 0 rfl
      have c1 := HA2.out.c 1 rfl
      have f0 := HA2.out.f 0
      have f1 := HA2.out.f 1
      have HRw := hid ((HA2.out.set 0 (.int .i64 (x - 1))).set 1 (.int .i64 y))
      have HCu : Hid (Cur ((w2.setCell ⟨w.heap.size, 0, none⟩ (.int .i64 (x - 1))).setCell ⟨w.heap.size, 1, none⟩ (.int .i64 y)) c (rest s z)) := by
        unfold Hid Cur
        rw [heap_setCell_other _ ⟨w.heap.size, 1, none⟩ c _ (by show c ≠ w.heap.size; omega), heap_setCell_other _ ⟨w.heap.size, 0, none⟩ c _ (by show c ≠ w.heap.size; omega)]
        exact HM2.out.1
      have HKf : Hid (Kept (fun b => b = c) w ((w2.setCell ⟨w.heap.size, 0, none⟩ (.int .i64 (x - 1))).setCell ⟨w.heap.size, 1, none⟩ (.int .i64 y))) :=
        ((HK2.out.trans (kept_set _ _ _ _)).trans (kept_set _ _ _ _)).mono (fun b hb x => by rcases x with (x | x) | x; exact x; omega; omega)
      go_wp2
      refine bodyPost_ret (results_row rfl _ _ w.heap.size [.int .i64 (x - 1), .int .i64 y] _ rfl HRw.out Tryz.underlying53 rfl (by kernel_rfl)) rfl ?_
      exact Or.inl ⟨x, y, z, HN2'.out, rfl, HCu.out, HKf.out⟩
    · have HN2' : Hid (nums R s i 2 = none) := by rw [Hid, HN2.out, if_pos hq]
      obtain rfl := hw.symm
      clear hq hw
      unfold lack
      go_wp2
      exact ⟨rfl, Or.inr ⟨HN2'.out, rfl, HK1.out⟩⟩
  · have HN2' : Hid (nums R s i 2 = none) := nums_none (k := 1) (by rw [HN1.out, if_pos hq]) 1
    obtain rfl := hw.symm
    clear hq hw
    unfold lack
    go_wp2
    exact ⟨rfl, Or.inr ⟨HN2'.out, rfl, HKl.out⟩⟩

end Go.Proofs.YtogebppolkfldaaGreatDoor.Rd
