/-
  The walks of the cursor's methods: a text is taken, a number is read, or a part lacks and the method panics. Condition: the error of a part that lacks stands in its variable.
-/
import Derived.Test.YtfbnnhgaedficafDoorRdVars
namespace Go.Proofs.YtfbnnhgaedficafDoor.Rd
open Go.RowKit Go.Proofs.YtfbnnhgaedficafDoor.Mem
set_option linter.unusedVariables false

/-- A cursor in block c, with r left. -/
def Cur (w : World) (c : Nat) (r : ByteArray) : Prop := w.heap[c]? = some (.cells #[.string r] 110 (0, 0))

theorem Cur.cell {w : World} {c : Nat} {r : ByteArray} (h : Cur w c r) : w.cell? ⟨c, 0, none⟩ = some (.string r) := by rw [cell_of_row w c 0 _ _ (0, 0) h]; rfl
theorem Cur.fr {w : World} {c : Nat} {r : ByteArray} (h : Cur w c r) : w.frozen? ⟨c, 0, none⟩ = false := frozen_of_row w c 0 _ _ h
theorem Cur.lt {w : World} {c : Nat} {r : ByteArray} (h : Cur w c r) : c < w.heap.size := World.block_lt_of_cell? w _ h.cell
theorem Cur.set {w : World} {c : Nat} {r : ByteArray} (h : Cur w c r) (r' : ByteArray) : Cur (w.setCell ⟨c, 0, none⟩ (.string r')) c r' := by
  have := heap_setCell_same w c 0 _ _ (.string r') h
  simpa [Cur] using this
theorem Cur.below {w w' : World} {c : Nat} {r : ByteArray} (h : Cur w c r) (b : Below w.heap.size w w') : Cur w' c r := by
  unfold Cur; rw [b.block c h.lt]; exact h

/-- The error that a cursor panics with. -/
def Lacks (w : World) (u : TypeId) (pv : Value) : Prop := w.cell? ⟨1, 0, none⟩ = some (.iface u pv)

theorem Lacks.lt {w : World} {u : TypeId} {pv : Value} (h : Lacks w u pv) : 1 < w.heap.size := World.block_lt_of_cell? w _ h
theorem Lacks.kept {w w' : World} {u : TypeId} {pv : Value} {S : Nat → Prop} (h : Lacks w u pv) (k : Kept S w w') (hn : ¬ S 1) : Lacks w' u pv := by
  unfold Lacks; rw [cell_block (p := ⟨1, 0, none⟩) (k.block _ h.lt hn)]; exact h

/-- The panic of a part that lacks. -/
def lack (u : TypeId) (pv : Value) : Ending := .panicked [{ v := .iface u pv, recovered := false }]

theorem rest_rest (s : ByteArray) (i q : Nat) : (rest s i).extract q (rest s i).size = rest s (i + q) := by
  unfold rest
  apply ByteArray.ext
  simp [ByteArray.data_extract, Array.extract_extract]
  congr 1
  omega

set_option maxRecDepth 100000 in
set_option maxHeartbeats 1000000 in
theorem take_yes (w : World) (c : Nat) (r : ByteArray) (n : Nat) (h : Cur w c r) (hn : n ≤ r.size) (hr : r.size ≤ 1048576) :
    Calls Tryd.prog 77 #[.pointer (some ⟨c, 0, none⟩), .int .i64 (n : Int)] w fun e w' => e = .returned (.string (r.extract 0 n)) ∧ w' = w.setCell ⟨c, 0, none⟩ (.string (r.extract n r.size)) := by
  have k0 := h.cell
  have f0 := h.fr
  have s1 : ∀ wx : World, (Instr.slice 9 (.string r) none (some (.int .i64 (n : Int))) none).run Tryd.prog wx = .ok (.string (r.extract 0 n)) wx := fun wx => by
    have := run_slice_string_h (P := Tryd.prog) wx 9 r Tryd.underlying9 .i64 (n : Int) (by omega) (by omega)
    simpa using this
  have s2 : ∀ wx : World, (Instr.slice 9 (.string r) (some (.int .i64 (n : Int))) none none).run Tryd.prog wx = .ok (.string (r.extract n r.size)) wx := fun wx => by
    have := run_slice_string_l (P := Tryd.prog) wx 9 r Tryd.underlying9 .i64 (n : Int) (by omega) (by omega)
    simpa using this
  clear h
  generalize r.extract 0 n = a at *
  generalize r.extract n r.size = b at *
  go_enter Tryd.func77, Tryd.ntmps77
  go_wp2
  go_ret
  exact ⟨rfl, rfl⟩

set_option maxRecDepth 100000 in
set_option maxHeartbeats 1000000 in
theorem take_no (w : World) (c : Nat) (r : ByteArray) (n : Int) (h : Cur w c r) (hn : (r.size : Int) < n) (u : TypeId) (pv : Value) (hL : Lacks w u pv) :
    Calls Tryd.prog 77 #[.pointer (some ⟨c, 0, none⟩), .int .i64 n] w fun e w' => e = lack u pv ∧ w' = w := by
  have k0 := h.cell
  have g0 : w.cell? ⟨1, 0, none⟩ = some (.iface u pv) := hL
  unfold lack
  clear h hL
  go_enter Tryd.func77, Tryd.ntmps77
  go_wp2
  exact ⟨rfl, rfl, rfl⟩

/-- What a step of a cursor leaves: the cursor moved alone, or a panic. -/
def Moved (w w' : World) (c : Nat) (r : ByteArray) : Prop := Cur w' c r ∧ Kept (fun b => b = c) w w'

theorem moved_set {w : World} {c : Nat} {r : ByteArray} (h : Cur w c r) (r' : ByteArray) : Moved w (w.setCell ⟨c, 0, none⟩ (.string r')) c r' := ⟨h.set r', kept_set w c 0 _⟩

theorem Moved.trans {w w1 w2 : World} {c : Nat} {r r' : ByteArray} (h : Moved w w1 c r) (k : Moved w1 w2 c r') : Moved w w2 c r' :=
  ⟨k.1, (h.2.trans k.2).mono (fun b _ x => by rcases x with x | x <;> exact x)⟩

theorem Moved.below {w w1 w2 : World} {c : Nat} {r : ByteArray} (h : Moved w w1 c r) (b : Below w1.heap.size w1 w2) : Moved w w2 c r :=
  ⟨h.1.below b, (h.2.trans (Kept.of_below (S := fun _ => False) b)).mono (fun b _ x => by rcases x with x | x; exact x; cases x)⟩

set_option maxRecDepth 100000 in
set_option maxHeartbeats 1000000 in
theorem number_yes (R : ByteArray → Int × Nat) (hR : Reads R) (s : ByteArray) (hs : s.size ≤ 1048576) (i : Nat) (w : World) (c : Nat) (h : Cur w c (rest s i)) (hq : (R (rest s i)).2 ≠ 0) :
    Calls Tryd.prog 89 #[.pointer (some ⟨c, 0, none⟩)] w fun e w' => e = .returned (.int .i64 (R (rest s i)).1) ∧ Moved w w' c (rest s (i + (R (rest s i)).2)) := by
  have k0 := h.cell
  have hRV := hR (rest s i) (by rw [rest_size]; unfold maxLen; omega)
  have hsz : (rest s i).size ≤ 1048576 := by rw [rest_size]; omega
  have HRV := hid hRV
  have hle := hRV.le
  have HRR := hid (rest_rest s i (R (rest s i)).2)
  have HH := hid h
  generalize hg : rest s i = r at *
  generalize R r = p at *
  obtain ⟨x, q⟩ := p
  simp only [] at hq hle HRR
  have hq0 : ((q : Int) == 0) = false := by simpa using hq
  clear hRV h hR hg
  go_enter Tryd.func89, Tryd.ntmps89
  go_wp2_with fail
  refine (HRV.out.im w).mono ?_
  rintro e w1 ⟨rfl, hw⟩
  obtain rfl := hw.symm
  go_wp2_with fail
  refine (take_yes w c r q HH.out hle hsz).mono ?_
  rintro e w1 ⟨rfl, hw⟩
  have HM : Hid (Moved w w1 c (rest s (i + q))) := by rw [Hid, hw, HRR.out]; exact moved_set HH.out _
  clear hw k0
  go_wp2
  go_ret
  exact ⟨rfl, HM.out⟩

set_option maxRecDepth 100000 in
set_option maxHeartbeats 1000000 in
theorem number_no (R : ByteArray → Int × Nat) (hR : Reads R) (s : ByteArray) (hs : s.size ≤ 1048576) (i : Nat) (w : World) (c : Nat) (h : Cur w c (rest s i)) (hq : (R (rest s i)).2 = 0) (u : TypeId) (pv : Value) (hL : Lacks w u pv) :
    Calls Tryd.prog 89 #[.pointer (some ⟨c, 0, none⟩)] w fun e w' => e = lack u pv ∧ w' = w := by
  have k0 := h.cell
  have hRV := hR (rest s i) (by rw [rest_size]; unfold maxLen; omega)
  have HRV := hid hRV
  have g0 : w.cell? ⟨1, 0, none⟩ = some (.iface u pv) := hL
  unfold lack
  generalize rest s i = r at *
  generalize R r = p at *
  obtain ⟨x, q⟩ := p
  simp only [] at hq
  subst hq
  clear hRV h hR hL
  go_enter Tryd.func89, Tryd.ntmps89
  go_wp2_with fail
  refine (HRV.out.im w).mono ?_
  rintro e w1 ⟨rfl, hw⟩
  obtain rfl := hw.symm
  go_wp2
  exact ⟨rfl, rfl, rfl⟩

/-- A number, in one word: it is read, or a part lacks. -/
theorem number (R : ByteArray → Int × Nat) (hR : Reads R) (s : ByteArray) (hs : s.size ≤ 1048576) (i : Nat) (w : World) (c : Nat) (h : Cur w c (rest s i)) (u : TypeId) (pv : Value) (hL : Lacks w u pv) :
    Calls Tryd.prog 89 #[.pointer (some ⟨c, 0, none⟩)] w fun e w' => ((R (rest s i)).2 ≠ 0 ∧ e = .returned (.int .i64 (R (rest s i)).1) ∧ Moved w w' c (rest s (i + (R (rest s i)).2))) ∨ ((R (rest s i)).2 = 0 ∧ e = lack u pv ∧ w' = w) := by
  by_cases hq : (R (rest s i)).2 = 0
  · exact (number_no R hR s hs i w c h hq u pv hL).mono fun _ _ ⟨a, b⟩ => Or.inr ⟨hq, a, b⟩
  · exact (number_yes R hR s hs i w c h hq).mono fun _ _ ⟨a, b⟩ => Or.inl ⟨hq, a, b⟩

end Go.Proofs.YtfbnnhgaedficafDoor.Rd
