/-
  The walks of impl.freesParts, impl.readKind at a list of numbers, and impl.ReadFrees. Condition: the table of sixteen sums and the error of a part that lacks stand in their variables.
-/
import Derived.Test.YtogebppolkfldaaGreatDoorRdNums
import Derived.Test.YtogebppolkfldaaGreatDoorSecFrees
import Derived.Tactics
import Derived.Tactics2
import Derived.Defers
import Derived.Recover
namespace Go.Proofs.YtogebppolkfldaaGreatDoor.Rd
open Go.RowKit Go.Proofs.YtogebppolkfldaaGreatDoor.Mem Go.Proofs.YtogebppolkfldaaGreatDoor.Sec
set_option linter.unusedVariables false

set_option maxRecDepth 100000 in
set_option maxHeartbeats 1000000 in
/-- A count: a number that is not above its limit, or a part lacks. -/
theorem count (R : ByteArray → Int × Nat) (hR : Reads R) (s : ByteArray) (hs : s.size ≤ 1048576) (i : Nat) (lim : Int) (w : World) (c : Nat) (h : Cur w c (rest s i)) (u : TypeId) (pv : Value) (hL : Lacks w u pv) (hc : 1 < c) :
    Calls Tryz.prog 155 #[.pointer (some ⟨c, 0, none⟩), .int .i64 lim] w fun e w' => ((R (rest s i)).2 ≠ 0 ∧ (R (rest s i)).1 ≤ lim ∧ e = .returned (.int .i64 (R (rest s i)).1) ∧ Moved w w' c (rest s (i + (R (rest s i)).2))) ∨ (((R (rest s i)).2 = 0 ∨ lim < (R (rest s i)).1) ∧ e = lack u pv ∧ Kept (fun b => b = c) w w') := by
  have HR := hid hR
  have HH := hid h
  have HL := hid hL
  clear hR h hL
  go_enter Tryz.func155, Tryz.ntmps155
  go_wp2_with fail
  refine (number R HR.out s hs i w c HH.out u pv HL.out).mono ?_
  rintro e w1 (⟨hq, rfl, M1⟩ | ⟨hq, rfl, hw⟩)
  · have HM := hid M1
    have g0 : w1.cell? ⟨1, 0, none⟩ = some (.iface u pv) := HL.out.kept M1.2 (by omega)
    have HQ := hid hq
    clear M1 hq
    by_cases hl : lim < (R (rest s i)).1
    · have HX := hid hl
      generalize (R (rest s i)).1 = x at hl
      go_wp2
      exact ⟨rfl, Or.inr ⟨Or.inr HX.out, rfl, HM.out.2⟩⟩
    · have HX := hid hl
      have hgo : ∀ x, (R (rest s i)).1 = x → ¬ lim < x → True := fun _ _ _ => trivial
      generalize hx : (R (rest s i)).1 = x at hl
      have HE := hid hx
      clear hx
      go_wp2
      go_ret
      exact Or.inl ⟨HQ.out, by have := HX.out; omega, by rw [HE.out]; rfl, HM.out⟩
  · obtain rfl := hw.symm
    have HQ := hid hq
    clear hq hw
    unfold lack
    go_wp2
    exact ⟨rfl, Or.inr ⟨Or.inl HQ.out, rfl, Kept.refl _ _⟩⟩

/-- The numbers of a frees' text: how many, then they. -/
def freesNums (R : ByteArray → Int × Nat) (s : ByteArray) : Option (List Int × Nat) :=
  if (R (rest s 5)).2 = 0 ∨ 12 < (R (rest s 5)).1 then none else nums R s (5 + (R (rest s 5)).2) (R (rest s 5)).1.toNat

theorem map_zero (l : List Int) : l.map (· + 0) = l := by simp

set_option maxRecDepth 100000 in
set_option maxHeartbeats 1000000 in
theorem freesParts (R : ByteArray → Int × Nat) (hR : Reads R) (s : ByteArray) (hs : s.size ≤ 1048576) (w : World) (c : Nat) (h : Cur w c (rest s 5)) (u : TypeId) (pv : Value) (hL : Lacks w u pv) (hc : 1 < c) :
    Calls Tryz.prog 150 #[.pointer (some ⟨c, 0, none⟩)] w fun e w' => ((∃ l z v, freesNums R s = some (l, z) ∧ e = .returned v ∧ Ir w' w.heap.size v l) ∨ (freesNums R s = none ∧ e = lack u pv)) ∧ Kept (fun b => b = c) w w' := by
  have HR := hid hR
  have HH := hid h
  have HL := hid hL
  have hcl := h.lt
  have hx0 : 0 ≤ (R (rest s 5)).1 := (hR (rest s 5) (by rw [rest_size]; unfold maxLen; omega)).x0
  clear hR h hL
  go_enter Tryz.func150, Tryz.ntmps150
  go_wp2_with fail
  refine (count R HR.out s hs 5 12 w c HH.out u pv HL.out hc).mono ?_
  rintro e w1 (⟨hq, hm, rfl, M1⟩ | ⟨hq, rfl, k1⟩)
  · have HF : Hid (freesNums R s = nums R s (5 + (R (rest s 5)).2) (R (rest s 5)).1.toNat) := by
      unfold Hid freesNums; rw [if_neg (by omega)]
    have HM := hid M1
    have HL1 := hid (HL.out.kept M1.2 (by omega))
    clear M1 hq
    generalize 5 + (R (rest s 5)).2 = i2 at *
    obtain ⟨n, hn⟩ : ∃ n : Nat, (R (rest s 5)).1 = (n : Int) := Int.eq_ofNat_of_zero_le hx0
    rw [hn] at HF hm
    rw [Int.toNat_natCast] at HF
    rw [hn]
    clear hn hx0
    go_wp2_with fail
    refine (numbers R HR.out s hs i2 n (by omega) 0 (by decide) w1 c HM.out.1 u pv HL1.out hc).mono ?_
    rintro e w2 ⟨hg, k2⟩
    have HK : Hid (Kept (fun b => b = c) w w2) := (HM.out.2.trans k2).mono (fun b _ x => by rcases x with x | x <;> exact x)
    have hs1 := HM.out.2.size
    clear k2
    cases hnu : nums R s i2 n with
    | none =>
      rw [hnu] at hg HF
      have hg' : e = lack u pv := hg
      subst hg'
      clear hnu hg
      unfold lack
      go_wp2
      exact ⟨rfl, Or.inr ⟨HF.out, rfl⟩, HK.out⟩
    | some p =>
      obtain ⟨l, z⟩ := p
      rw [hnu] at hg HF
      obtain ⟨v, rfl, hI, _⟩ := hg
      rw [map_zero] at hI
      have HI := hid (RowO.mono hI hs1)
      obtain ⟨a, cap, rfl, _⟩ := hI.w
      clear hnu hI
      go_wp2
      go_ret
      exact ⟨Or.inl ⟨l, z, _, HF.out, rfl, HI.out⟩, HK.out⟩
  · have HF : Hid (freesNums R s = none) := by unfold Hid freesNums; rw [if_pos hq]
    have HK := hid k1
    clear hq k1
    unfold lack
    go_wp2
    exact ⟨rfl, Or.inr ⟨HF.out, rfl⟩, HK.out⟩

/-- What frees are read as. -/
def readFrees (R : ByteArray → Int × Nat) (s : ByteArray) : Option (List Int) :=
  match freesNums R s with
  | some (l, _) => if showFrees l = s then some l else none
  | none => none

set_option maxRecDepth 100000 in
set_option maxHeartbeats 1000000 in
theorem fcatch_some (p q : Nat) (u : TypeId) (pv : Value) (older : List PanicEntry) (w : World) (a0 b0 : Value) (hp : Row w p [a0]) (hq : Row w q [b0]) (hpq : p ≠ q) :
    CallsD Tryz.prog 172 #[.pointer (some ⟨p, 0, none⟩), .pointer (some ⟨q, 0, none⟩)] (.panicking ({ v := .iface u pv, recovered := false } :: older)) w fun e u' w' =>
      e = .returned (.tuple #[]) ∧ u' = .panicking ({ v := .iface u pv, recovered := true } :: older) ∧ Row w' p [.slice none 0 0] ∧ Row w' q [.bool false] ∧ Kept (fun b => b = p ∨ b = q) w w' := by
  refine callsD_of_wpS Tryz.func172 rfl fun c₀ cs hu => ?_
  have hpl := hp.lt
  have hql := hq.lt
  have p0 := hp.c 0 rfl
  have q0 := hq.c 0 rfl
  have f0 := hp.f 0
  have g0 := hq.f 0
  have HP := hid ((hp.set 0 (.slice none 0 0)).other (p := ⟨q, 0, none⟩) (by show p ≠ q; exact hpq) (.bool false))
  have HQ := hid ((hq.other (p := ⟨p, 0, none⟩) (by show q ≠ p; exact fun e => hpq e.symm) (.slice none 0 0)).set 0 (.bool false))
  have HK : Hid (Kept (fun b => b = p ∨ b = q) w ((w.setCell ⟨p, 0, none⟩ (.slice none 0 0)).setCell ⟨q, 0, none⟩ (.bool false))) :=
    ((kept_set _ _ _ _).trans (kept_set _ _ _ _)).mono (fun b _ x => x)
  clear hp hq
  apply wpS_seq
  apply wpS_region
  simp [wpOpsS, go_sem, recoverD, hu, Tryz.ntmps172, Exit.thenS]
  refine wpS_cond (t := true) (by simp [Act.eval, Array.replicate]) ?_
  simp only [if_true]
  refine wpS_of_wp ?_
  go_wp2
  simp [bodyPostS, results, Tryz.results172]
  exact ⟨HP.out, HQ.out, HK.out⟩

set_option maxRecDepth 100000 in
set_option maxHeartbeats 1000000 in
theorem fcatch_none (p q : Addr) (w : World) :
    CallsD Tryz.prog 172 #[.pointer (some p), .pointer (some q)] .returning w fun e u' w' => e = .returned (.tuple #[]) ∧ u' = .returning ∧ w' = w := by
  refine callsD_of_wpS Tryz.func172 rfl fun c₀ cs hu => ?_
  apply wpS_seq
  apply wpS_region
  simp [wpOpsS, go_sem, recoverD, hu, Tryz.ntmps172, Exit.thenS]
  refine wpS_cond (t := false) (by simp [Act.eval, Array.replicate]) ?_
  simp only [Bool.false_eq_true, if_false]
  refine wpS_of_wp (wp_skip ?_)
  cases c₀
  simp_all [bodyPostS, results, Tryz.results172]

theorem load_flag {w : World} {k : Nat} {b : Bool} (hb : Row w k [.bool b]) : (loadVar 4 ⟨k, 0, none⟩).run Tryz.prog w = .ok (.bool b) w := by
  have hc := hb.c 0 rfl
  simp [go_sem, hc]

theorem load_list {w : World} {k : Nat} {v : Value} (hb : Row w k [v]) : (loadVar 23 ⟨k, 0, none⟩).run Tryz.prog w = .ok v w := by
  have hc := hb.c 0 rfl
  simp [go_sem, hc]

/-- Two results that are handed back out of their own blocks. -/
theorem results_cells {fn : Func} {p q : Tmp} {ty tb : TypeId} (h : fn.results = #[.cell p ty, .cell q tb]) (tmps : Array Value) (w : World) (g k : Nat) (v b : Value)
    (hp : tmps.getD p undef = .pointer (some ⟨g, 0, none⟩)) (hq : tmps.getD q undef = .pointer (some ⟨k, 0, none⟩)) (h1 : (loadVar ty ⟨g, 0, none⟩).run Tryz.prog w = .ok v w) (h2 : (loadVar tb ⟨k, 0, none⟩).run Tryz.prog w = .ok b w) :
    (results fn tmps).run Tryz.prog w = .ok (.tuple #[v, b]) w := by
  have hp' : tmps[p]?.getD undef = .pointer (some ⟨g, 0, none⟩) := by simpa using hp
  have hq' : tmps[q]?.getD undef = .pointer (some ⟨k, 0, none⟩) := by simpa using hq
  simp [results, h, hp', hq', asAddr, h1, h2]

theorem three_blocks (w : World) (xs ys zs : List Value) (t u v : TypeId) :
    ∃ wc, ((w.alloc (.cells xs.toArray t)).alloc (.cells ys.toArray u)).alloc (.cells zs.toArray v) = wc ∧ wc.heap.size = w.heap.size + 1 + 1 + 1 ∧
      Row wc w.heap.size xs ∧ Row wc (w.heap.size + 1) ys ∧ wc.heap[w.heap.size + 1 + 1]? = some (.cells zs.toArray v (0, 0)) ∧ Below w.heap.size w wc := by
  have e0 : (w.alloc (.cells xs.toArray t)).heap.size = w.heap.size + 1 := by simp
  have e1 : ((w.alloc (.cells xs.toArray t)).alloc (.cells ys.toArray u)).heap.size = w.heap.size + 1 + 1 := by simp
  have r1 := Row.new (w.alloc (.cells xs.toArray t)) ys u
  have r2 := heap_alloc_new ((w.alloc (.cells xs.toArray t)).alloc (.cells ys.toArray u)) (.cells zs.toArray v (0, 0))
  rw [e0] at r1
  rw [e1] at r2
  exact ⟨_, rfl, by simp, ((Row.new w xs t).alloc _).alloc _, r1.alloc _, r2, (((Below.refl _ _).alloc (Nat.le_refl _) _).alloc (by omega) _).alloc (by omega) _⟩

theorem first_none {R : ByteArray → Int × Nat} (hR : Reads R) {s : ByteArray} (h : s.size ≤ 5) : (R (rest s 5)).2 = 0 := by
  have := (hR (rest s 5) (by rw [rest_size]; unfold maxLen; omega)).le
  rw [rest_size] at this; omega

theorem readFrees_short (R : ByteArray → Int × Nat) (hR : Reads R) (s : ByteArray) (h : s.size ≤ 5) : readFrees R s = none := by
  unfold readFrees freesNums; rw [if_pos (Or.inl (first_none hR h))]

/-- What both sides answer: a list of its own, or none. -/
def FreesOut (R : ByteArray → Int × Nat) (s : ByteArray) (w w' : World) (e : Ending) : Prop :=
  ∃ v l ok, (readFrees R s = some l ∧ ok = true ∨ readFrees R s = none ∧ l = [] ∧ ok = false) ∧ e = .returned (.tuple #[v, .bool ok]) ∧ Ir w' w.heap.size v l ∧ Below w.heap.size w w'

theorem frees_short_len {R : ByteArray → Int × Nat} (hR : Reads R) {s : ByteArray} (hs : s.size ≤ 1048576) {l : List Int} {z : Nat} (h : freesNums R s = some (l, z)) : l.length ≤ 12 := by
  unfold freesNums at h
  split at h
  · cases h
  · have := nums_len h
    have hx := (hR (rest s 5) (by rw [rest_size]; unfold maxLen; omega)).x0
    omega

set_option maxRecDepth 100000 in
set_option maxHeartbeats 2000000 in
theorem readKindFrees (R : ByteArray → Int × Nat) (hR : Reads R) (s : ByteArray) (hs : s.size ≤ 1048576) (w : World) (u : TypeId) (pv : Value) (hL : Lacks w u pv) (T : Sums w) :
    Calls Tryz.prog 149 #[.string s, .func (.func 150) #[] #[], .func (.func 151) #[] #[]] w fun e w' => FreesOut R s w w' e := by
  have hmf : ∀ (fn : Fn) (first cap : Array Value) (w : World), (Instr.makeFunc fn first cap).run Tryz.prog w = .ok (.func fn first cap) w := fun _ _ _ _ => rfl
  have HR := hid hR
  have HL := hid hL
  have HT := hid T
  clear hR hL T
  go_enter_defers Tryz.func149, Tryz.ntmps149
  go_wp2_with fail
  obtain ⟨wc, hwc, ec, A0, B0, C0, K0⟩ := three_blocks w [.slice none 0 0] [.bool false] [.string s] 23 4 192
  simp only [hwc]
  clear hwc
  have HA := hid A0
  have HBq := hid B0
  have HKc := hid K0
  have HLc := hid (HL.out.kept (Kept.of_below (S := fun _ => False) K0) (fun x => x))
  have HCu : Hid (Cur wc (w.heap.size + 1 + 1) s) := C0
  have hgl := HL.out.lt
  clear A0 B0 C0 K0
  by_cases h5 : (s.size : Int) < 5
  · have HN := hid (readFrees_short R HR.out s (by omega))
    refine (take_no wc (w.heap.size + 1 + 1) s 5 HCu.out h5 u pv HLc.out).mono ?_
    rintro e w1 ⟨rfl, hw⟩
    obtain rfl := hw.symm
    unfold lack
    go_wp2
    refine leaves_cons (f := 172) (args := #[.pointer (some ⟨w.heap.size, 0, none⟩), .pointer (some ⟨w.heap.size + 1, 0, none⟩)]) (by simp) (by simp [go_sem]) ?_
    refine (fcatch_some w.heap.size (w.heap.size + 1) u pv [] _ _ _ HA.out HBq.out (by omega)).mono ?_
    rintro e u' w2 ⟨rfl, rfl, RA, RB, k2⟩
    refine ⟨_, results_cells rfl _ w2 w.heap.size (w.heap.size + 1) _ _ rfl rfl (load_list RA) (load_flag RB), ?_⟩
    exact ⟨_, [], false, Or.inr ⟨HN.out, rfl, rfl⟩, rfl, Or.inl ⟨none, rfl, rfl, rfl⟩, HKc.out.trans (k2.below HKc.out.size (fun b hb x => by rcases x with x | x <;> omega))⟩
  · have h5n : 5 ≤ s.size := by omega
    have HRR : Hid (s.extract 5 s.size = rest s 5) := rfl
    refine (take_yes wc (w.heap.size + 1 + 1) s 5 HCu.out h5n hs).mono ?_
    rintro e w1 ⟨rfl, hw⟩
    have M1 : Moved wc w1 (w.heap.size + 1 + 1) (rest s 5) := by rw [hw, ← HRR.out]; exact moved_set HCu.out _
    have HA1 := hid (HA.out.kept M1.2 (by omega))
    have HB1 := hid (HBq.out.kept M1.2 (by omega))
    have HL1 := hid (HLc.out.kept M1.2 (by omega))
    have HM1 := hid M1
    clear hw M1
    go_wp2_with fail
    refine (freesParts R HR.out s hs w1 (w.heap.size + 1 + 1) HM1.out.1 u pv HL1.out (by omega)).mono ?_
    rintro e w2 ⟨hg, k2⟩
    have HA2 := hid (HA1.out.kept k2 (by omega))
    have HB2 := hid (HB1.out.kept k2 (by omega))
    have k12 : Kept (fun b => b = w.heap.size + 1 + 1) wc w2 := (HM1.out.2.trans k2).mono (fun b _ x => by rcases x with x | x <;> exact x)
    have HBw : Hid (Below w.heap.size w w2) := HKc.out.trans (k12.below HKc.out.size (fun b hb x => by omega))
    have HT2 := hid (HT.out.below HBw.out)
    have hs2 : w.heap.size + 1 + 1 < w2.heap.size := by have := k12.size; omega
    have hs1 : w.heap.size + 1 + 1 < w1.heap.size := HM1.out.1.lt
    clear k2 k12 HM1 HL1 HA1 HB1
    rcases hg with ⟨l, z, v, hn, rfl, hI⟩ | ⟨hn, rfl⟩
    · have HN := hid hn
      have hlen : l.length ≤ 12 := frees_short_len HR.out hs hn
      have HI := hid hI
      obtain ⟨a, cap, rfl, hW⟩ := hI.w
      have HS2 := hid hW.sl
      have hrb : ∀ b, rb (.slice a l.length cap) = some b → w1.heap.size ≤ b := fun b hb => (RowO.lt HI.out hb).1
      clear hn hI hW
      go_wp2_with fail
      refine (iShowFrees w2 a cap l HS2.out (by omega) HT2.out).mono ?_
      rintro e w4 ⟨rfl, b4⟩
      have HA4 := hid (HA2.out.below b4 HA2.out.lt)
      have HB4 := hid (HB2.out.below b4 HB2.out.lt)
      have HI4 := hid (RowO.below HI.out b4)
      have HBw4 := hid (HBw.out.trans (b4.mono HBw.out.size))
      clear b4 HA2 HB2 HBw HI HS2
      have a0 := HA4.out.c 0 rfl
      have q0 := HB4.out.c 0 rfl
      have fa0 := HA4.out.f 0
      have fq := HB4.out.f 0
      by_cases hsh : showFrees l = s
      · have HN2 : Hid (readFrees R s = some l) := by unfold Hid readFrees; rw [HN.out]; simp only []; rw [if_pos hsh]
        have hne := Own.eqS_yes hsh
        generalize showFrees l = sh at *
        have HRA := hid ((HA4.out.set 0 (.slice a l.length cap)).other (p := ⟨w.heap.size + 1, 0, none⟩) (by show w.heap.size ≠ w.heap.size + 1; omega) (.bool true))
        have HRB := hid ((HB4.out.other (p := ⟨w.heap.size, 0, none⟩) (by show w.heap.size + 1 ≠ w.heap.size; omega) (.slice a l.length cap)).set 0 (.bool true))
        have HBf := hid (below_set (below_set HBw4.out w.heap.size 0 (.slice a l.length cap) (Nat.le_refl _)) (w.heap.size + 1) 0 (.bool true) (by omega))
        have HIf : Hid (Ir ((w4.setCell ⟨w.heap.size, 0, none⟩ (.slice a l.length cap)).setCell ⟨w.heap.size + 1, 0, none⟩ (.bool true)) w.heap.size (.slice a l.length cap) l) :=
          RowO.mono (RowO.kept HI4.out ((kept_set _ _ _ _).trans (kept_set _ _ _ _)) (fun b hb x => by have := hrb b hb; rcases x with x | x <;> omega)) (by omega)
        go_wp2
        refine leaves_cons (f := 172) (args := #[.pointer (some ⟨w.heap.size, 0, none⟩), .pointer (some ⟨w.heap.size + 1, 0, none⟩)]) (by simp) (by simp [go_sem]) ?_
        refine (fcatch_none ⟨w.heap.size, 0, none⟩ ⟨w.heap.size + 1, 0, none⟩ _).mono ?_
        rintro e u' w5 ⟨rfl, rfl, rfl⟩
        refine ⟨_, results_cells rfl _ _ w.heap.size (w.heap.size + 1) _ _ rfl rfl (load_list HRA.out) (load_flag HRB.out), ?_⟩
        exact ⟨_, l, true, Or.inl ⟨HN2.out, rfl⟩, rfl, HIf.out, HBf.out⟩
      · have HN2 : Hid (readFrees R s = none) := by unfold Hid readFrees; rw [HN.out]; simp only []; rw [if_neg hsh]
        have hne := Own.eqS_no hsh
        generalize showFrees l = sh at *
        have HRA := hid ((HA4.out.set 0 (.slice none 0 0)).other (p := ⟨w.heap.size + 1, 0, none⟩) (by show w.heap.size ≠ w.heap.size + 1; omega) (.bool false))
        have HRB := hid ((HB4.out.other (p := ⟨w.heap.size, 0, none⟩) (by show w.heap.size + 1 ≠ w.heap.size; omega) (.slice none 0 0)).set 0 (.bool false))
        have HBf := hid (below_set (below_set HBw4.out w.heap.size 0 (.slice none 0 0) (Nat.le_refl _)) (w.heap.size + 1) 0 (.bool false) (by omega))
        go_wp2
        refine leaves_cons (f := 172) (args := #[.pointer (some ⟨w.heap.size, 0, none⟩), .pointer (some ⟨w.heap.size + 1, 0, none⟩)]) (by simp) (by simp [go_sem]) ?_
        refine (fcatch_none ⟨w.heap.size, 0, none⟩ ⟨w.heap.size + 1, 0, none⟩ _).mono ?_
        rintro e u' w5 ⟨rfl, rfl, rfl⟩
        refine ⟨_, results_cells rfl _ _ w.heap.size (w.heap.size + 1) _ _ rfl rfl (load_list HRA.out) (load_flag HRB.out), ?_⟩
        exact ⟨_, [], false, Or.inr ⟨HN2.out, rfl, rfl⟩, rfl, Or.inl ⟨none, rfl, rfl, rfl⟩, HBf.out⟩
    · have HN : Hid (readFrees R s = none) := by unfold Hid readFrees; rw [hn]
      clear hn
      unfold lack
      go_wp2
      refine leaves_cons (f := 172) (args := #[.pointer (some ⟨w.heap.size, 0, none⟩), .pointer (some ⟨w.heap.size + 1, 0, none⟩)]) (by simp) (by simp [go_sem]) ?_
      refine (fcatch_some w.heap.size (w.heap.size + 1) u pv [] _ _ _ HA2.out HB2.out (by omega)).mono ?_
      rintro e u' w3 ⟨rfl, rfl, RA, RB, k3⟩
      refine ⟨_, results_cells rfl _ w3 w.heap.size (w.heap.size + 1) _ _ rfl rfl (load_list RA) (load_flag RB), ?_⟩
      exact ⟨_, [], false, Or.inr ⟨HN.out, rfl, rfl⟩, rfl, Or.inl ⟨none, rfl, rfl, rfl⟩, HBw.out.trans (k3.below HBw.out.size (fun b hb x => by rcases x with x | x <;> omega))⟩

set_option maxRecDepth 100000 in
set_option maxHeartbeats 1000000 in
theorem iReadFrees (R : ByteArray → Int × Nat) (hR : Reads R) (s : ByteArray) (hs : s.size ≤ 1048576) (w : World) (u : TypeId) (pv : Value) (hL : Lacks w u pv) (T : Sums w) :
    Calls Tryz.prog 118 #[.string s] w fun e w' => FreesOut R s w w' e := by
  have HR := hid hR
  have HL := hid hL
  have HT := hid T
  clear hR hL T
  go_enter Tryz.func118, Tryz.ntmps118
  go_wp2_with fail
  refine (readKindFrees R HR.out s hs w u pv HL.out HT.out).mono ?_
  rintro e w1 ⟨v, l, ok, ho, rfl, hI, b1⟩
  have HO := hid (show FreesOut R s w w1 (.returned (.tuple #[v, .bool ok])) from ⟨v, l, ok, ho, rfl, hI, b1⟩)
  obtain ⟨a, cap, rfl, _⟩ := hI.w
  clear ho hI b1
  go_wp2
  go_ret2
  exact HO.out

end Go.Proofs.YtogebppolkfldaaGreatDoor.Rd
