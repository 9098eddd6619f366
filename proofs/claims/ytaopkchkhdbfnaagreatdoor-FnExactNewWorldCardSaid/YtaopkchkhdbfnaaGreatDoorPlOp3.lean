/-
  The walk of spec.OpOk at calls that name a place, a copy, nothing; and whole. No condition but texts of at most 2^20 bytes.
-/
import Derived.Test.YtaopkchkhdbfnaaGreatDoorPlOp2
namespace Go.Proofs.YtaopkchkhdbfnaaGreatDoor.Pl
open Go.RowKit Go.Proofs.YtaopkchkhdbfnaaGreatDoor.Mem
set_option linter.unusedVariables false

set_option maxRecDepth 100000 in
set_option maxHeartbeats 4000000 in
theorem sOp_write (k v t a : Int) (s : ByteArray) (w : World) (hs : s.size ≤ 1048576) (hk : k = 3) :
    Calls Tryz.prog 33 #[opV k v t a s] w fun e w' => e = .returned (.bool (opRight k v t a s)) ∧ Below w.heap.size w w' := by
  unfold opV
  have hgo := guardOpT
  obtain ⟨q, hq⟩ : ∃ q, decide (k = k ∧ v = v ∧ (0 : Int) = t ∧ a = a ∧ s = s) = q := ⟨_, rfl⟩
  have heq := eql_is hq
  have HQ : Hid (decide (k = k ∧ nmv k v = v ∧ nmt k t = t ∧ nma k a = a ∧ nms k s = s) = q) := by
    rw [Hid, ← hq]
    subst hk; rfl
  clear hq
  have HE : Hid (good k v t a s = decide ((0 ≤ v ∧ v < 4) ∧ (0 ≤ a ∧ a < 4) ∧ (s.size : Int) ≤ 16)) := by subst hk; rfl
  by_cases hv : 0 ≤ v ∧ v < 4
  · have hv' := decide_eq_true hv
    by_cases h0 : 0 ≤ a
    · by_cases h4 : a < 4
      · by_cases hl : (s.size : Int) ≤ 16
        · have HR := hid ((right_yes (HE.out.trans (decide_eq_true ⟨hv, ⟨h0, h4⟩, hl⟩))).trans HQ.out)
          generalize opRight k v t a s = x at *
          clear hv HE HQ
          subst hk; (
            go_enter Tryz.func33, Tryz.ntmps33
            go_wp2_with fail
            refine (hv' ▸ l5Vol v _).mono ?_
            rintro r w1 ⟨rfl, hw⟩
            subst hw
            go_wp2
            go_ret
            exact ⟨by rw [HR.out]; rfl, by go_grown⟩)
        · have HR := hid (right_no (HE.out.trans (decide_eq_false (fun h => hl h.2.2))))
          generalize opRight k v t a s = x at *
          clear hv HE HQ heq
          subst hk; (
            go_enter Tryz.func33, Tryz.ntmps33
            go_wp2_with fail
            refine (hv' ▸ l5Vol v _).mono ?_
            rintro r w1 ⟨rfl, hw⟩
            subst hw
            go_wp2
            go_ret
            exact ⟨by rw [HR.out]; rfl, by go_grown⟩)
      · have HR := hid (right_no (HE.out.trans (decide_eq_false (fun h => h4 h.2.1.2))))
        generalize opRight k v t a s = x at *
        clear hv HE HQ heq
        subst hk; (
          go_enter Tryz.func33, Tryz.ntmps33
          go_wp2_with fail
          refine (hv' ▸ l5Vol v _).mono ?_
          rintro r w1 ⟨rfl, hw⟩
          subst hw
          go_wp2
          go_ret
          exact ⟨by rw [HR.out]; rfl, by go_grown⟩)
    · have HR := hid (right_no (HE.out.trans (decide_eq_false (fun h => h0 h.2.1.1))))
      generalize opRight k v t a s = x at *
      clear hv HE HQ heq
      subst hk; (
        go_enter Tryz.func33, Tryz.ntmps33
        go_wp2_with fail
        refine (hv' ▸ l5Vol v _).mono ?_
        rintro r w1 ⟨rfl, hw⟩
        subst hw
        go_wp2
        go_ret
        exact ⟨by rw [HR.out]; rfl, by go_grown⟩)
  · have hv' := decide_eq_false hv
    have HR := hid (right_no (HE.out.trans (decide_eq_false (fun h => hv h.1))))
    generalize opRight k v t a s = x at *
    clear hv HE HQ heq
    subst hk; (
      go_enter Tryz.func33, Tryz.ntmps33
      go_wp2_with fail
      refine (hv' ▸ l5Vol v _).mono ?_
      rintro r w1 ⟨rfl, hw⟩
      subst hw
      go_wp2
      go_ret
      exact ⟨by rw [HR.out]; rfl, by go_grown⟩)

set_option maxRecDepth 100000 in
set_option maxHeartbeats 4000000 in
theorem sOp_place (k v t a : Int) (s : ByteArray) (w : World) (hs : s.size ≤ 1048576) (hk : k = 4 ∨ k = 7) :
    Calls Tryz.prog 33 #[opV k v t a s] w fun e w' => e = .returned (.bool (opRight k v t a s)) ∧ Below w.heap.size w w' := by
  unfold opV
  have hgo := guardOpT
  obtain ⟨q, hq⟩ : ∃ q, decide (k = k ∧ v = v ∧ (0 : Int) = t ∧ a = a ∧ (⟨#[]⟩ : ByteArray) = s) = q := ⟨_, rfl⟩
  have heq := eql_is hq
  have HQ : Hid (decide (k = k ∧ nmv k v = v ∧ nmt k t = t ∧ nma k a = a ∧ nms k s = s) = q) := by
    rw [Hid, ← hq]
    rcases hk with rfl | rfl <;> rfl
  clear hq
  have HE : Hid (good k v t a s = decide ((0 ≤ v ∧ v < 4) ∧ (0 ≤ a ∧ a < 4) ∧ (s.size : Int) ≤ 16)) := by rcases hk with rfl | rfl <;> rfl
  by_cases hv : 0 ≤ v ∧ v < 4
  · have hv' := decide_eq_true hv
    by_cases h0 : 0 ≤ a
    · by_cases h4 : a < 4
      · by_cases hl : (s.size : Int) ≤ 16
        · have HR := hid ((right_yes (HE.out.trans (decide_eq_true ⟨hv, ⟨h0, h4⟩, hl⟩))).trans HQ.out)
          generalize opRight k v t a s = x at *
          clear hv HE HQ
          rcases hk with rfl | rfl <;> (
            go_enter Tryz.func33, Tryz.ntmps33
            go_wp2_with fail
            refine (hv' ▸ l5Vol v _).mono ?_
            rintro r w1 ⟨rfl, hw⟩
            subst hw
            go_wp2
            go_ret
            exact ⟨by rw [HR.out]; rfl, by go_grown⟩)
        · have HR := hid (right_no (HE.out.trans (decide_eq_false (fun h => hl h.2.2))))
          generalize opRight k v t a s = x at *
          clear hv HE HQ heq
          rcases hk with rfl | rfl <;> (
            go_enter Tryz.func33, Tryz.ntmps33
            go_wp2_with fail
            refine (hv' ▸ l5Vol v _).mono ?_
            rintro r w1 ⟨rfl, hw⟩
            subst hw
            go_wp2
            go_ret
            exact ⟨by rw [HR.out]; rfl, by go_grown⟩)
      · have HR := hid (right_no (HE.out.trans (decide_eq_false (fun h => h4 h.2.1.2))))
        generalize opRight k v t a s = x at *
        clear hv HE HQ heq
        rcases hk with rfl | rfl <;> (
          go_enter Tryz.func33, Tryz.ntmps33
          go_wp2_with fail
          refine (hv' ▸ l5Vol v _).mono ?_
          rintro r w1 ⟨rfl, hw⟩
          subst hw
          go_wp2
          go_ret
          exact ⟨by rw [HR.out]; rfl, by go_grown⟩)
    · have HR := hid (right_no (HE.out.trans (decide_eq_false (fun h => h0 h.2.1.1))))
      generalize opRight k v t a s = x at *
      clear hv HE HQ heq
      rcases hk with rfl | rfl <;> (
        go_enter Tryz.func33, Tryz.ntmps33
        go_wp2_with fail
        refine (hv' ▸ l5Vol v _).mono ?_
        rintro r w1 ⟨rfl, hw⟩
        subst hw
        go_wp2
        go_ret
        exact ⟨by rw [HR.out]; rfl, by go_grown⟩)
  · have hv' := decide_eq_false hv
    have HR := hid (right_no (HE.out.trans (decide_eq_false (fun h => hv h.1))))
    generalize opRight k v t a s = x at *
    clear hv HE HQ heq
    rcases hk with rfl | rfl <;> (
      go_enter Tryz.func33, Tryz.ntmps33
      go_wp2_with fail
      refine (hv' ▸ l5Vol v _).mono ?_
      rintro r w1 ⟨rfl, hw⟩
      subst hw
      go_wp2
      go_ret
      exact ⟨by rw [HR.out]; rfl, by go_grown⟩)

set_option maxRecDepth 100000 in
set_option maxHeartbeats 4000000 in
theorem sOp_snap (k v t a : Int) (s : ByteArray) (w : World) (hs : s.size ≤ 1048576) (hk : k = 5) :
    Calls Tryz.prog 33 #[opV k v t a s] w fun e w' => e = .returned (.bool (opRight k v t a s)) ∧ Below w.heap.size w w' := by
  unfold opV
  have hgo := guardOpT
  obtain ⟨q, hq⟩ : ∃ q, decide (k = k ∧ v = v ∧ t = t ∧ (0 : Int) = a ∧ (⟨#[]⟩ : ByteArray) = s) = q := ⟨_, rfl⟩
  have heq := eql_is hq
  have HQ : Hid (decide (k = k ∧ nmv k v = v ∧ nmt k t = t ∧ nma k a = a ∧ nms k s = s) = q) := by
    rw [Hid, ← hq]
    subst hk; rfl
  clear hq
  have HE : Hid (good k v t a s = decide ((0 ≤ v ∧ v < 4) ∧ (0 ≤ t ∧ t < 4) ∧ ¬ v = t)) := by subst hk; rfl
  by_cases hv : 0 ≤ v ∧ v < 4
  · have hv' := decide_eq_true hv
    by_cases ht : 0 ≤ t ∧ t < 4
    · have ht' := decide_eq_true ht
      by_cases hn : v = t
      · have HR := hid (right_no (HE.out.trans (decide_eq_false (fun h => h.2.2 hn))))
        have hb : (v != t) = false := by simpa using hn
        generalize opRight k v t a s = x at *
        clear hv ht HE HQ heq hn
        subst hk
        go_enter Tryz.func33, Tryz.ntmps33
        go_wp2_with fail
        refine (hv' ▸ l5Vol v _).mono ?_
        rintro r w1 ⟨rfl, hw⟩
        subst hw
        go_wp2_with fail
        refine (ht' ▸ l5Vol t _).mono ?_
        rintro r w1 ⟨rfl, hw⟩
        subst hw
        go_wp2
        go_ret
        exact ⟨by rw [HR.out]; rfl, by go_grown⟩
      · have HR := hid ((right_yes (HE.out.trans (decide_eq_true ⟨hv, ht, hn⟩))).trans HQ.out)
        have hb : (v != t) = true := by simpa using hn
        generalize opRight k v t a s = x at *
        clear hv ht HE HQ hn
        subst hk
        go_enter Tryz.func33, Tryz.ntmps33
        go_wp2_with fail
        refine (hv' ▸ l5Vol v _).mono ?_
        rintro r w1 ⟨rfl, hw⟩
        subst hw
        go_wp2_with fail
        refine (ht' ▸ l5Vol t _).mono ?_
        rintro r w1 ⟨rfl, hw⟩
        subst hw
        go_wp2
        go_ret
        exact ⟨by rw [HR.out]; rfl, by go_grown⟩
    · have ht' := decide_eq_false ht
      have HR := hid (right_no (HE.out.trans (decide_eq_false (fun h => ht h.2.1))))
      generalize opRight k v t a s = x at *
      clear hv ht HE HQ heq
      subst hk
      go_enter Tryz.func33, Tryz.ntmps33
      go_wp2_with fail
      refine (hv' ▸ l5Vol v _).mono ?_
      rintro r w1 ⟨rfl, hw⟩
      subst hw
      go_wp2_with fail
      refine (ht' ▸ l5Vol t _).mono ?_
      rintro r w1 ⟨rfl, hw⟩
      subst hw
      go_wp2
      go_ret
      exact ⟨by rw [HR.out]; rfl, by go_grown⟩
  · have hv' := decide_eq_false hv
    have HR := hid (right_no (HE.out.trans (decide_eq_false (fun h => hv h.1))))
    generalize opRight k v t a s = x at *
    clear hv HE HQ heq
    subst hk; (
      go_enter Tryz.func33, Tryz.ntmps33
      go_wp2_with fail
      refine (hv' ▸ l5Vol v _).mono ?_
      rintro r w1 ⟨rfl, hw⟩
      subst hw
      go_wp2
      go_ret
      exact ⟨by rw [HR.out]; rfl, by go_grown⟩)

set_option maxRecDepth 100000 in
set_option maxHeartbeats 4000000 in
theorem sOp_drain (k v t a : Int) (s : ByteArray) (w : World) (hs : s.size ≤ 1048576) (hk : k = 6) :
    Calls Tryz.prog 33 #[opV k v t a s] w fun e w' => e = .returned (.bool (opRight k v t a s)) ∧ Below w.heap.size w w' := by
  unfold opV
  have hgo := guardOpT
  obtain ⟨q, hq⟩ : ∃ q, decide (k = k ∧ (0 : Int) = v ∧ (0 : Int) = t ∧ (0 : Int) = a ∧ (⟨#[]⟩ : ByteArray) = s) = q := ⟨_, rfl⟩
  have heq := eql_is hq
  have HQ : Hid (decide (k = k ∧ nmv k v = v ∧ nmt k t = t ∧ nma k a = a ∧ nms k s = s) = q) := by
    rw [Hid, ← hq]
    subst hk; rfl
  clear hq
  have HE : Hid (good k v t a s = true) := by subst hk; rfl
  have HR := hid ((right_yes HE.out).trans HQ.out)
  generalize opRight k v t a s = x at *
  clear HE HQ
  subst hk
  go_enter Tryz.func33, Tryz.ntmps33
  go_wp2
  go_ret
  exact ⟨by rw [HR.out]; rfl, by go_grown⟩

set_option maxRecDepth 100000 in
set_option maxHeartbeats 4000000 in
theorem sOpOk (k v t a : Int) (s : ByteArray) (w : World) (hs : s.size ≤ 1048576) :
    Calls Tryz.prog 33 #[opV k v t a s] w fun e w' => e = .returned (.bool (opRight k v t a s)) ∧ Below w.heap.size w w' := by
  by_cases h1 : k = 1 ∨ k = 2 ∨ k = 8 ∨ k = 9
  · exact sOp_vol k v t a s w hs h1
  by_cases h2 : k = 3
  · exact sOp_write k v t a s w hs h2
  by_cases h3 : k = 4 ∨ k = 7
  · exact sOp_place k v t a s w hs h3
  by_cases h4 : k = 5
  · exact sOp_snap k v t a s w hs h4
  by_cases h5 : k = 6
  · exact sOp_drain k v t a s w hs h5
  by_cases h6 : k = 10 ∨ k = 11
  · exact sOp_group k v t a s w hs h6
  by_cases h7 : k = 12
  · exact sOp_host k v t a s w hs h7
  have HR : Hid (opRight k v t a s = false) := right_no (by unfold good; rw [if_neg h1, if_neg (by omega), if_neg h4, if_neg h5, if_neg (by omega)])
  unfold opV
  generalize opRight k v t a s = x at *
  have b1 : (k == 1) = false := beq_no (by omega)
  have b2 : (k == 2) = false := beq_no (by omega)
  have b3 : (k == 3) = false := beq_no (by omega)
  have b4 : (k == 4) = false := beq_no (by omega)
  have b5 : (k == 5) = false := beq_no (by omega)
  have b6 : (k == 6) = false := beq_no (by omega)
  have b7 : (k == 7) = false := beq_no (by omega)
  have b8 : (k == 8) = false := beq_no (by omega)
  have b9 : (k == 9) = false := beq_no (by omega)
  have b10 : (k == 10) = false := beq_no (by omega)
  have b11 : (k == 11) = false := beq_no (by omega)
  have b12 : (k == 12) = false := beq_no (by omega)
  clear h1 h2 h3 h4 h5 h6 h7
  go_enter Tryz.func33, Tryz.ntmps33
  go_wp2
  go_ret
  exact ⟨by rw [HR.out]; rfl, by go_grown⟩

end Go.Proofs.YtaopkchkhdbfnaaGreatDoor.Pl
