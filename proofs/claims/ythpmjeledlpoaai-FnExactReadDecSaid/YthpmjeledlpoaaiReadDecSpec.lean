/-
  The walks of spec.ReadDec: it takes a text that is what Dec makes of the number of its digits, of which there are at most nine. No condition.
-/
import Derived.Test.YthpmjeledlpoaaiDecNeg
namespace Go.Proofs.Ythpmjeledlpoaai.Dec
open Go.RowKit
open Go.Proofs.Ythpmjeledlpoaai.Var (bl bl_length bl_getD bl_bd bl_inj bl_str)
open Go.Proofs.Ythpmjeledlpoaai.Hex (bt bt_eq bt_bd)
set_option linter.unusedVariables false

set_option maxRecDepth 100000 in
set_option maxHeartbeats 2000000 in
theorem spec_read (s : ByteArray) (w : World) (hs : s.size ≤ maxLen) (x : Int) (t : Bool) (hx : (SpTake s ∧ x = spN s ∧ t = true) ∨ (¬ SpTake s ∧ x = 0 ∧ t = false)) :
    Calls Try.prog 16 #[.string s] w fun e w' => e = .returned (.tuple #[.int .i64 x, .bool t]) ∧ Below w.heap.size w w' := by
  unfold maxLen at hs
  have HT : Hid (SpTake s → x = spN s ∧ t = true) := by
    intro h
    rcases hx with ⟨_, h1, h2⟩ | ⟨h1, _⟩
    · exact ⟨h1, h2⟩
    · exact absurd h h1
  have HF : Hid (¬ SpTake s → x = 0 ∧ t = false) := by
    intro h
    rcases hx with ⟨h1, _⟩ | ⟨_, h1, h2⟩
    · exact absurd h1 h
    · exact ⟨h1, h2⟩
  clear hx
  go_enter Try.func16, Try.ntmps16
  go_wp2
  go_loop [4, 5, 6] (fun n c i => ∃ k : Nat, k ≤ 11 ∧ k ≤ s.size ∧ i = .int .i64 (k : Int) ∧ n = .int .i64 ((sn s k : Nat) : Int) ∧ c = .int .i64 ((sk s k : Nat) : Int)) (fun _ _ i => 11 - (intOf i).toNat)
  case atStart => exact ⟨0, Nat.zero_le _, Nat.zero_le _, rfl, rfl, rfl⟩
  case round =>
    obtain ⟨k, hk11, hks, rfl, rfl, rfl⟩ := hrel
    have hv := sn_small s k hk11
    have hc := sk_le s k
    by_cases hlt : k < s.size ∧ k < 11
    · obtain ⟨hlt, h11⟩ := hlt
      have e0 := bt_eq s k hlt
      by_cases hdg : 48 ≤ bt s k ∧ bt s k ≤ 57
      · have HS : Hid (((sn s (k + 1) : Nat) : Int) = ((sn s k : Nat) : Int) * 10 + (bt s k - 48)) := by show _ = _; rw [sn, if_pos hdg]; omega
        have HK : Hid (((sk s (k + 1) : Nat) : Int) = ((sk s k : Nat) : Int) + 1) := by show _ = _; rw [sk, if_pos hdg]; omega
        obtain ⟨hd1, hd2⟩ := hdg
        go_wp2
        go_round
        case rel => exact ⟨k + 1, by omega, by omega, by go_num, by rw [HS.out], by rw [HK.out]⟩
        case measure => simp [intOf]; omega
      · have HS : Hid (sn s (k + 1) = sn s k) := by show _ = _; rw [sn, if_neg hdg]
        have HK : Hid (sk s (k + 1) = sk s k) := by show _ = _; rw [sk, if_neg hdg]
        by_cases hd1 : 48 ≤ bt s k
        · have hd2 : ¬ bt s k ≤ 57 := by omega
          clear hdg
          go_wp2
          go_round
          case rel => exact ⟨k + 1, by omega, by omega, by go_num, by rw [HS.out], by rw [HK.out]⟩
          case measure => simp [intOf]; omega
        · clear hdg
          go_wp2
          go_round
          case rel => exact ⟨k + 1, by omega, by omega, by go_num, by rw [HS.out], by rw [HK.out]⟩
          case measure => simp [intOf]; omega
    · have Hkm : Hid (k = min s.size 11) := by show k = _; omega
      have hmin : s.size = 0 ∨ (0 < s.size ∧ (bt s 0 == 45) = false) ∨ (0 < s.size ∧ (bt s 0 == 45) = true) := by
        by_cases h0 : s.size = 0
        · exact Or.inl h0
        · cases h45 : (bt s 0 == 45)
          · exact Or.inr (Or.inl ⟨by omega, rfl⟩)
          · exact Or.inr (Or.inr ⟨by omega, rfl⟩)
      by_cases hex : (k : Int) < (s.size : Int)
      · have hex2 : ¬ (k : Int) < 11 := by omega
        clear hlt
        rcases hmin with hm | ⟨hm, hm2⟩ | ⟨hm, hm2⟩
        · omega
        · have e00 := bt_eq s 0 hm
          have hm0 : (0 : Int) < (s.size : Int) := by omega
          by_cases h9 : 9 < ((sk s k : Nat) : Int)
          · have hx0 := HF.out (fun h => by have := h.1; rw [← Hkm.out] at this; omega)
            have Hx0 : Hid (x = 0 ∧ t = false) := hx0
            clear hx0
            go_wp2
            go_ret2
            exact ⟨by rw [Hx0.out.1, Hx0.out.2]; rfl, Below.refl _ _⟩
          · by_cases h10 : 10 < (s.size : Int)
            · have hx0 := HF.out (fun h => by have := h.2.1; omega)
              have Hx0 : Hid (x = 0 ∧ t = false) := hx0
              clear hx0
              go_wp2
              go_ret2
              exact ⟨by rw [Hx0.out.1, Hx0.out.2]; rfl, Below.refl _ _⟩
            · omega
        · have e00 := bt_eq s 0 hm
          have hm0 : (0 : Int) < (s.size : Int) := by omega
          by_cases h9 : 9 < ((sk s k : Nat) : Int)
          · have hx0 := HF.out (fun h => by have := h.1; rw [← Hkm.out] at this; omega)
            have Hx0 : Hid (x = 0 ∧ t = false) := hx0
            clear hx0
            go_wp2
            go_ret2
            exact ⟨by rw [Hx0.out.1, Hx0.out.2]; rfl, Below.refl _ _⟩
          · by_cases h10 : 10 < (s.size : Int)
            · have hx0 := HF.out (fun h => by have := h.2.1; omega)
              have Hx0 : Hid (x = 0 ∧ t = false) := hx0
              clear hx0
              go_wp2
              go_ret2
              exact ⟨by rw [Hx0.out.1, Hx0.out.2]; rfl, Below.refl _ _⟩
            · omega
      · skip
        clear hlt
        rcases hmin with hm | ⟨hm, hm2⟩ | ⟨hm, hm2⟩
        · have hm0 : (s.size : Int) ≤ 0 := by omega
          by_cases h9 : 9 < ((sk s k : Nat) : Int)
          · omega
          · by_cases h10 : 10 < (s.size : Int)
            · omega
            · have HN : Hid (spN s = ((sn s k : Nat) : Int)) := by show _ = _; unfold spN; rw [if_neg (fun h => by have := h.1; omega), ← Hkm.out]
              by_cases hd : decS ((sn s k : Nat) : Int) = s
              · have ht := Own.eqS_yes hd
                have Hx0 : Hid (x = spN s ∧ t = true) := HT.out ⟨by rw [← Hkm.out]; omega, by omega, by rw [HN.out]; exact hd⟩
                clear hd
                go_wp2_with (go_at_call 22; refine (dec_any ((sn s k : Nat) : Int) _ (by omega) (by omega)).mono ?_; rintro e w1 ⟨rfl, hb1⟩)
                go_ret2
                exact ⟨by rw [Hx0.out.1, Hx0.out.2, HN.out]; rfl, hb1⟩
              · have ht := Own.eqS_no hd
                have Hx0 : Hid (x = 0 ∧ t = false) := HF.out (fun h => hd (by have := h.2.2; rw [HN.out] at this; exact this))
                clear hd
                go_wp2_with (go_at_call 22; refine (dec_any ((sn s k : Nat) : Int) _ (by omega) (by omega)).mono ?_; rintro e w1 ⟨rfl, hb1⟩)
                go_ret2
                exact ⟨by rw [Hx0.out.1, Hx0.out.2]; rfl, hb1⟩
        · have e00 := bt_eq s 0 hm
          have hm0 : (0 : Int) < (s.size : Int) := by omega
          by_cases h9 : 9 < ((sk s k : Nat) : Int)
          · have hx0 := HF.out (fun h => by have := h.1; rw [← Hkm.out] at this; omega)
            have Hx0 : Hid (x = 0 ∧ t = false) := hx0
            clear hx0
            go_wp2
            go_ret2
            exact ⟨by rw [Hx0.out.1, Hx0.out.2]; rfl, Below.refl _ _⟩
          · by_cases h10 : 10 < (s.size : Int)
            · have hx0 := HF.out (fun h => by have := h.2.1; omega)
              have Hx0 : Hid (x = 0 ∧ t = false) := hx0
              clear hx0
              go_wp2
              go_ret2
              exact ⟨by rw [Hx0.out.1, Hx0.out.2]; rfl, Below.refl _ _⟩
            · have HN : Hid (spN s = ((sn s k : Nat) : Int)) := by show _ = _; unfold spN; rw [if_neg (fun h => by have := h.2; simp at hm2; exact hm2 this), ← Hkm.out]
              by_cases hd : decS ((sn s k : Nat) : Int) = s
              · have ht := Own.eqS_yes hd
                have Hx0 : Hid (x = spN s ∧ t = true) := HT.out ⟨by rw [← Hkm.out]; omega, by omega, by rw [HN.out]; exact hd⟩
                clear hd
                go_wp2_with (go_at_call 22; refine (dec_any ((sn s k : Nat) : Int) _ (by omega) (by omega)).mono ?_; rintro e w1 ⟨rfl, hb1⟩)
                go_ret2
                exact ⟨by rw [Hx0.out.1, Hx0.out.2, HN.out]; rfl, hb1⟩
              · have ht := Own.eqS_no hd
                have Hx0 : Hid (x = 0 ∧ t = false) := HF.out (fun h => hd (by have := h.2.2; rw [HN.out] at this; exact this))
                clear hd
                go_wp2_with (go_at_call 22; refine (dec_any ((sn s k : Nat) : Int) _ (by omega) (by omega)).mono ?_; rintro e w1 ⟨rfl, hb1⟩)
                go_ret2
                exact ⟨by rw [Hx0.out.1, Hx0.out.2]; rfl, hb1⟩
        · have e00 := bt_eq s 0 hm
          have hm0 : (0 : Int) < (s.size : Int) := by omega
          by_cases h9 : 9 < ((sk s k : Nat) : Int)
          · have hx0 := HF.out (fun h => by have := h.1; rw [← Hkm.out] at this; omega)
            have Hx0 : Hid (x = 0 ∧ t = false) := hx0
            clear hx0
            go_wp2
            go_ret2
            exact ⟨by rw [Hx0.out.1, Hx0.out.2]; rfl, Below.refl _ _⟩
          · by_cases h10 : 10 < (s.size : Int)
            · have hx0 := HF.out (fun h => by have := h.2.1; omega)
              have Hx0 : Hid (x = 0 ∧ t = false) := hx0
              clear hx0
              go_wp2
              go_ret2
              exact ⟨by rw [Hx0.out.1, Hx0.out.2]; rfl, Below.refl _ _⟩
            · have HN : Hid (spN s = (-((sn s k : Nat) : Int))) := by show _ = _; unfold spN; rw [if_pos ⟨hm, by simpa using hm2⟩, ← Hkm.out]
              by_cases hd : decS (-((sn s k : Nat) : Int)) = s
              · have ht := Own.eqS_yes hd
                have Hx0 : Hid (x = spN s ∧ t = true) := HT.out ⟨by rw [← Hkm.out]; omega, by omega, by rw [HN.out]; exact hd⟩
                clear hd
                go_wp2_with (go_at_call 22; refine (dec_any (-((sn s k : Nat) : Int)) _ (by omega) (by omega)).mono ?_; rintro e w1 ⟨rfl, hb1⟩)
                go_ret2
                exact ⟨by rw [Hx0.out.1, Hx0.out.2, HN.out]; rfl, hb1⟩
              · have ht := Own.eqS_no hd
                have Hx0 : Hid (x = 0 ∧ t = false) := HF.out (fun h => hd (by have := h.2.2; rw [HN.out] at this; exact this))
                clear hd
                go_wp2_with (go_at_call 22; refine (dec_any (-((sn s k : Nat) : Int)) _ (by omega) (by omega)).mono ?_; rintro e w1 ⟨rfl, hb1⟩)
                go_ret2
                exact ⟨by rw [Hx0.out.1, Hx0.out.2]; rfl, hb1⟩

end Go.Proofs.Ythpmjeledlpoaai.Dec
