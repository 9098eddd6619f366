/-
  The walks of spec.ReadFrees and laws.FnExactReadFrees: the law answers true, and nothing that was there is changed. Condition: the table of sixteen sums and the error of a part that lacks stand in their variables.
-/
import Derived.Test.YtaefafcecnpdaamDoorRdFrees
import Derived.Test.YtaefafcecnpdaamDoorEqDisk
import Derived.Test.YtaefafcecnpdaamDoorMarkRows
namespace Go.Proofs.YtaefafcecnpdaamDoor.Rd
open Go.RowKit Go.Proofs.YtaefafcecnpdaamDoor.Mem Go.Proofs.YtaefafcecnpdaamDoor.Sec Classical
set_option linter.unusedVariables false

theorem nums_one {R : ByteArray → Int × Nat} {s : ByteArray} {i : Nat} : nums R s i 1 = if (R (rest s i)).2 = 0 then none else some ([(R (rest s i)).1], i + (R (rest s i)).2) := nums_step (l := []) (e := i) rfl

theorem none_row (w : World) (B : Nat) (b : Option Addr) : Ir w B (.slice b 0 0) [] := Or.inl ⟨b, rfl, rfl, rfl⟩

set_option maxRecDepth 100000 in
set_option maxHeartbeats 2000000 in
theorem sReadFrees (R : ByteArray → Int × Nat) (hR : Reads R) (s : ByteArray) (hs : s.size ≤ 1048576) (w : World) :
    Calls Tryd.prog 7 #[.string s] w fun e w' => FreesOut R s w w' e := by
  have HR := hid hR
  have hRV := hR (rest s 5) (by rw [rest_size]; unfold maxLen; omega)
  have hx0 := hRV.x0
  have hle := hRV.le
  rw [rest_size] at hle
  clear hR hRV
  go_enter Tryd.func7, Tryd.ntmps7
  go_wp2_with fail
  refine (l4Vars R HR.out s hs 5 1 (by decide) (by decide) w).mono ?_
  rintro e w1 ⟨hg, b1⟩
  have HB1 := hid b1
  clear b1
  rw [nums_one] at hg
  by_cases hq : (R (rest s 5)).2 = 0
  · rw [if_pos hq] at hg
    obtain ⟨v, rfl⟩ := hg
    have HN : Hid (readFrees R s = none) := by unfold Hid readFrees freesNums; rw [if_pos (Or.inl hq)]
    have HBf := hid (HB1.out.alloc HB1.out.size (.cells #[] 3))
    clear hq hx0 hle
    go_wp2
    go_ret2
    exact ⟨_, [], false, Or.inr ⟨HN.out, rfl, rfl⟩, rfl, none_row _ _ _, HBf.out⟩
  · rw [if_neg hq] at hg
    obtain ⟨v, rfl, hI⟩ := hg
    have HF : Hid (∀ h : ¬ 12 < (R (rest s 5)).1, freesNums R s = nums R s (5 + (R (rest s 5)).2) (R (rest s 5)).1.toNat) := fun h => by
      unfold freesNums; rw [if_neg (by omega)]
    have HF2 : Hid (12 < (R (rest s 5)).1 → freesNums R s = none) := fun h => by unfold freesNums; rw [if_pos (Or.inr h)]
    generalize (R (rest s 5)).1 = x at *
    obtain ⟨a, cap, rfl, hW⟩ := hI.w
    obtain ⟨g, off, rfl, c0⟩ := hW.sl 0 (by simp)
    replace c0 : w1.cell? ⟨g, off + 0, none⟩ = some (.int .i64 x) := c0
    rw [Nat.add_zero] at c0
    have hi2 : 5 + (R (rest s 5)).2 ≤ 1048576 := by omega
    generalize 5 + (R (rest s 5)).2 = i2 at *
    have hi20 : (0 : Int) ≤ (i2 : Int) := by omega
    simp only [List.length_cons, List.length_nil]
    clear hI hW hq
    by_cases hm : 12 < x
    · have HN : Hid (readFrees R s = none) := by unfold Hid readFrees; rw [HF2.out hm]
      have HBf := hid (HB1.out.alloc HB1.out.size (.cells #[] 3))
      go_wp2
      go_ret2
      exact ⟨_, [], false, Or.inr ⟨HN.out, rfl, rfl⟩, rfl, none_row _ _ _, HBf.out⟩
    · have HFn := hid (HF.out hm)
      obtain ⟨n, rfl⟩ : ∃ n : Nat, x = (n : Int) := Int.eq_ofNat_of_zero_le hx0
      rw [Int.toNat_natCast] at HFn
      clear HF HF2 hx0
      go_wp2_with fail
      refine (l4Vars R HR.out s hs i2 n hi2 (by omega) w1).mono ?_
      rintro e w2 ⟨hg, b2⟩
      have HB2 := hid (HB1.out.trans (b2.mono HB1.out.size))
      have hs1 := HB1.out.size
      clear b2 c0
      cases hnu : nums R s i2 n with
      | none =>
        rw [hnu] at hg HFn
        obtain ⟨v2, rfl⟩ := hg
        have HN : Hid (readFrees R s = none) := by unfold Hid readFrees; rw [HFn.out]
        have HBf := hid (HB2.out.alloc HB2.out.size (.cells #[] 3))
        clear hnu
        go_wp2
        go_ret2
        exact ⟨_, [], false, Or.inr ⟨HN.out, rfl, rfl⟩, rfl, none_row _ _ _, HBf.out⟩
      | some p =>
        obtain ⟨l, z⟩ := p
        rw [hnu] at hg HFn
        obtain ⟨v2, rfl, hI⟩ := hg
        have hll : l.length ≤ 12 := by have := nums_len hnu; omega
        have hz0 : (0 : Int) ≤ (z : Int) := by omega
        have HI := hid (RowO.mono hI hs1)
        obtain ⟨a2, cap2, rfl, hW⟩ := hI.w
        have HS2 := hid hW.sl
        clear hnu hI hW
        go_wp2_with fail
        refine (sShowFrees w2 a2 cap2 l HS2.out (by omega)).mono ?_
        rintro e w3 ⟨rfl, b3⟩
        have HB3 := hid (HB2.out.trans (b3.mono HB2.out.size))
        have HI3 := hid (RowO.below HI.out b3)
        clear b3
        by_cases hsh : showFrees l = s
        · have HN2 : Hid (readFrees R s = some l) := by unfold Hid readFrees; rw [HFn.out]; simp only []; rw [if_pos hsh]
          have hne := Own.eqS_yes hsh
          generalize showFrees l = sh at *
          go_wp2
          go_ret2
          exact ⟨_, l, true, Or.inl ⟨HN2.out, rfl⟩, rfl, HI3.out, HB3.out⟩
        · have HN2 : Hid (readFrees R s = none) := by unfold Hid readFrees; rw [HFn.out]; simp only []; rw [if_neg hsh]
          have hne := Own.eqS_no hsh
          have HBf := hid (HB3.out.alloc HB3.out.size (.cells #[] 3))
          generalize showFrees l = sh at *
          go_wp2
          go_ret2
          exact ⟨_, [], false, Or.inr ⟨HN2.out, rfl, rfl⟩, rfl, none_row _ _ _, HBf.out⟩

/-- Two answers are alike. -/
theorem out_alike {R : ByteArray → Int × Nat} {s : ByteArray} {l l' : List Int} {ok ok' : Bool} (h : readFrees R s = some l ∧ ok = true ∨ readFrees R s = none ∧ l = [] ∧ ok = false) (h' : readFrees R s = some l' ∧ ok' = true ∨ readFrees R s = none ∧ l' = [] ∧ ok' = false) : l' = l ∧ ok' = ok := by
  rcases h with ⟨a, b⟩ | ⟨a, b, c⟩ <;> rcases h' with ⟨a', b'⟩ | ⟨a', b', c'⟩
  · rw [a] at a'; cases a'; exact ⟨rfl, by rw [b, b']⟩
  · rw [a] at a'; cases a'
  · rw [a] at a'; cases a'
  · exact ⟨by rw [b, b'], by rw [c, c']⟩

theorem out_len {R : ByteArray → Int × Nat} (hR : Reads R) {s : ByteArray} (hs : s.size ≤ 1048576) {l : List Int} {ok : Bool} (h : readFrees R s = some l ∧ ok = true ∨ readFrees R s = none ∧ l = [] ∧ ok = false) : l.length ≤ 12 := by
  rcases h with ⟨a, _⟩ | ⟨_, b, _⟩
  · unfold readFrees at a
    cases hf : freesNums R s with
    | none => rw [hf] at a; cases a
    | some p =>
      obtain ⟨m, z⟩ := p
      rw [hf] at a
      simp only [] at a
      split at a
      · cases a; exact frees_short_len hR hs hf
      · cases a
  · rw [b]; simp

set_option maxRecDepth 100000 in
set_option maxHeartbeats 2000000 in
theorem lawReadFrees (s : ByteArray) (hs : s.size ≤ maxLen) (w : World) (u : TypeId) (pv : Value) (hL : Lacks w u pv) (T : Sums w) :
    Calls Tryd.prog 3 #[.string s] w fun e w' => e = .returned (.bool true) ∧ Below w.heap.size w w' := by
  unfold maxLen at hs
  by_cases hg : 1048576 < (s.size : Int)
  · go_enter Tryd.func3, Tryd.ntmps3
    go_wp2
    go_ret
    exact ⟨rfl, Below.refl _ _⟩
  obtain ⟨R, hR⟩ := reads_ex
  have HR := hid hR
  have HL := hid hL
  have HT := hid T
  have hs' : s.size ≤ 1048576 := by omega
  clear hR hL T
  go_enter Tryd.func3, Tryd.ntmps3
  go_wp2_with fail
  refine (sReadFrees R HR.out s hs' w).mono ?_
  rintro e w1 ⟨v0, l, ok, ho, rfl, hI, b1⟩
  have HO := hid ho
  have hlen : l.length ≤ 12 := out_len HR.out hs' ho
  have HM : Hid (l.length ≤ maxLen) := by unfold Hid maxLen; omega
  have HB1 := hid b1
  obtain ⟨a, cap, rfl, hW⟩ := hI.w
  have HS1 := hid hW.sl
  have HF1 : Hid (∀ b, foot a l.length b → b < w1.heap.size) := fun b hb => hW.sl.lt hb
  clear ho hI b1 hW
  go_wp2_with fail
  refine (iReadFrees R HR.out s hs' w1 u pv (HL.out.kept (Kept.of_below (S := fun _ => False) HB1.out) (fun x => x)) (HT.out.below HB1.out)).mono ?_
  rintro e w2 ⟨v1, l1, ok1, ho1, rfl, hI1, b2⟩
  obtain ⟨rfl, rfl⟩ := out_alike HO.out ho1
  have HB2 := hid (HB1.out.trans (b2.mono HB1.out.size))
  obtain ⟨a1, cap1, rfl, hW1⟩ := hI1.w
  have HS12 := hid (HS1.out.below b2)
  have HW2 := hid hW1
  clear ho1 hI1 b2 hW1
  go_wp2_with fail
  refine (eqIntS w2 a1 a cap1 cap l1 l1 HW2.out.sl HS12.out HM.out HM.out).mono ?_
  rintro e w3 ⟨rfl, b3⟩
  have hdd : decide (l1 = l1) = true := decide_eq_true rfl
  rw [hdd]
  have HB3 := hid (HB2.out.trans (b3.mono HB2.out.size))
  have HS3 := hid (HS12.out.below b3)
  have HW3 := hid (HW2.out.below b3)
  clear b3 HS12 HW2
  have hkk : (((1 : Nat) : Int)) = 1 := rfl
  go_wp2_with fail
  refine (markIntS w3 w1.heap.size a1 l1.length cap1 1 _ HW3.out (by omega)).mono ?_
  rintro e w4 ⟨rfl, hW4, k4⟩
  have HK4 := hid k4
  have hge : ∀ b, foot a1 l1.length b → w1.heap.size ≤ b := fun b hb => HW3.out.foot_ge hb
  have HB4 : Hid (Below w.heap.size w w4) := HB3.out.trans (k4.below HB3.out.size (fun b hb x => by have := hge b x; have := HB1.out.size; omega))
  have HS4 : Hid (Ints w4 a l1) := Sl.move HS3.out k4 (fun b hb x => by have := hge b x; have := HF1.out b hb; omega)
  have HW4 := hid hW4
  clear hW4 k4 hge
  obtain ⟨m, hm⟩ : ∃ m : Nat, m = 1 + l1.length := ⟨_, rfl⟩
  have hm1 : (0 : Int) ≤ (m : Int) := by omega
  have hmb : m ≤ 100 := by omega
  have HMe := hid hm
  rw [← hm]
  clear hm
  go_wp2_with fail
  refine (heldIntS w4 a1 l1.length cap1 1 HW4.out.sl (by omega)).mono ?_
  rintro e w5 ⟨rfl, b5⟩
  rw [← HMe.out]
  have HB5 := hid (HB4.out.trans (b5.mono HB4.out.size))
  have HS5 := hid (HS4.out.below b5)
  have HW5 := hid (HW4.out.below b5)
  clear b5 HS4 HW4
  go_wp2_with fail
  refine (iReadFrees R HR.out s hs' w5 u pv (HL.out.kept (Kept.of_below (S := fun _ => False) HB5.out) (fun x => x)) (HT.out.below HB5.out)).mono ?_
  rintro e w6 ⟨v2, l2, ok2, ho2, rfl, hI2, b6⟩
  obtain ⟨rfl, rfl⟩ := out_alike HO.out ho2
  have HB6 := hid (HB5.out.trans (b6.mono HB5.out.size))
  have HS6 := hid (HS5.out.below b6)
  have HW6 := hid (HW5.out.below b6)
  obtain ⟨a2, cap2, rfl, hW2⟩ := hI2.w
  have HS2 := hid hW2.sl
  clear ho2 hI2 b6 hW2 HS5 HW5
  go_wp2_with fail
  refine (eqIntS w6 a2 a cap2 cap l2 l2 HS2.out HS6.out HM.out HM.out).mono ?_
  rintro e w7 ⟨rfl, b7⟩
  have hdd2 : decide (l2 = l2) = true := decide_eq_true rfl
  rw [hdd2]
  have HB7 := hid (HB6.out.trans (b7.mono HB6.out.size))
  have HW7 := hid (HW6.out.below b7)
  clear b7 HS2 HS6 HW6
  go_wp2_with fail
  refine (heldIntS w7 a1 l2.length cap1 1 HW7.out.sl (by omega)).mono ?_
  rintro e w8 ⟨rfl, b8⟩
  rw [← HMe.out]
  have HB8 := hid (HB7.out.trans (b8.mono HB7.out.size))
  clear b8
  go_wp2
  go_ret
  exact ⟨rfl, HB8.out⟩

end Go.Proofs.YtaefafcecnpdaamDoor.Rd
