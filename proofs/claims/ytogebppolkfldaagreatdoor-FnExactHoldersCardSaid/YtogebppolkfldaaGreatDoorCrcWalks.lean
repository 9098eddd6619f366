/-
  The walk of spec.Crc: it gives the sum, halving by halving. No condition but a text of at most 2^47 bytes.
-/
import Derived.Test.YtogebppolkfldaaGreatDoorRows
import Derived.WalkKit
import Derived.WalkSpells
import Derived.WalkLawsBesides
import Derived.Test.YtogebppolkfldaaGreatDoorCrcNum
namespace Go.Proofs.YtogebppolkfldaaGreatDoor.Crc
open Go.RowKit Go.Proofs.YtogebppolkfldaaGreatDoor.CrcNum
set_option linter.unusedVariables false

theorem hid {p : Prop} (h : p) : Hid p := h

/-- The running sum behind the first k bytes. -/
def sumAt (s : ByteArray) (k : Nat) : Nat := run 4294967295 ((s.data.toList.take k).map UInt8.toNat)

theorem sumAt_succ (s : ByteArray) (k : Nat) (h : k < s.size) : sumAt s (k + 1) = halves 8 (sumAt s k ^^^ s[k].toNat) := by
  have e : s.data.toList[k]? = some s[k] := by
    have h' : k < s.data.toList.length := h
    rw [List.getElem?_eq_getElem h']; rfl
  unfold sumAt
  rw [List.take_add_one, e, List.map_append, run_append]
  rfl

theorem sumAt_lt (s : ByteArray) (k : Nat) : sumAt s k < 4294967296 := by
  refine run_lt _ _ (by omega) fun b hb => ?_
  obtain ⟨x, _, rfl⟩ := List.mem_map.mp hb
  exact x.toNat_lt

theorem halves_succ (n c : Nat) : halves (n + 1) c = half (halves n c) := halves_add n 1 c

theorem half_odd (c : Nat) (h : c < 4294967296) (ho : c % 2 = 1) : bits .xor .i64 ((c : Int) / 2) 2197175160 = (half c : Int) := by
  have e := xor_i64 (c / 2) 2197175160 (by omega) (by omega)
  unfold half
  rw [if_pos ho, ← e]
  rfl

theorem half_even (c : Nat) (ho : ¬ c % 2 = 1) : (c : Int) / 2 = (half c : Int) := by
  unfold half
  rw [if_neg ho]
  rfl

set_option maxRecDepth 100000 in
set_option maxHeartbeats 1000000 in
theorem spec_crc (s : ByteArray) (w : World) (hs : s.size ≤ maxLen) :
    Calls Tryz.prog 114 #[.string s] w fun e w' => e = .returned (.int .i64 ((4294967295 - sumAt s s.size : Nat) : Int)) ∧ w' = w := by
  unfold maxLen at hs
  go_enter Tryz.func114, Tryz.ntmps114
  go_wp2
  go_loop [3, 4] (fun x i => ∃ k : Nat, k ≤ s.size ∧ i = .int .i64 (k : Int) ∧ x = .int .i64 (sumAt s k : Int)) (fun _ i => s.size - (intOf i).toNat)
  case atStart => exact ⟨0, Nat.zero_le _, rfl, rfl⟩
  case round =>
    obtain ⟨k, hk, rfl, rfl⟩ := hrel
    by_cases hlt : k < s.size
    · have hc := sumAt_lt s k
      have hb : s[k].toNat < 256 := s[k].toNat_lt
      have hx := xor_i64 (sumAt s k) s[k].toNat (by omega) (by omega)
      have HS := hid (sumAt_succ s k hlt)
      have HL := hid (Nat.xor_lt_two_pow (n := 32) (x := sumAt s k) (y := s[k].toNat) (by omega) (by omega))
      go_wp2
      go_loop [3, 5] (fun x j => ∃ m : Nat, m ≤ 8 ∧ j = .int .i64 (m : Int) ∧ x = .int .i64 (halves m (sumAt s k ^^^ s[k].toNat) : Int)) (fun _ j => 8 - (intOf j).toNat)
      case atStart => exact ⟨0, by omega, rfl, rfl⟩
      case round =>
        obtain ⟨m, hm, rfl, rfl⟩ := hrel
        have HH := hid (halves_succ m (sumAt s k ^^^ s[k].toNat))
        have hcl := halves_lt m (sumAt s k ^^^ s[k].toNat) HL.out
        by_cases h8 : m < 8
        · generalize halves m (sumAt s k ^^^ s[k].toNat) = c at *
          by_cases ho : c % 2 = 1
          · go_wp2
            go_round
            case rel => exact ⟨m + 1, by omega, by go_num, by rw [HH.out, half_odd c hcl ho]⟩
            case measure => simp [intOf]; omega
          · go_wp2
            go_round
            case rel => exact ⟨m + 1, by omega, by go_num, by rw [HH.out, half_even c ho]⟩
            case measure => simp [intOf]; omega
        · obtain rfl : m = 8 := by omega
          go_wp2
          go_round
          case rel => exact ⟨k + 1, by omega, by go_num, by rw [HS.out]⟩
          case measure => simp [intOf]; omega
    · obtain rfl : k = s.size := by omega
      have hc := sumAt_lt s s.size
      go_wp2
      go_ret
      refine ⟨?_, rfl⟩
      show Ending.returned (.int .i64 (4294967295 - (sumAt s s.size : Int))) = _
      rw [show ((4294967295 - sumAt s s.size : Nat) : Int) = 4294967295 - (sumAt s s.size : Int) by omega]

end Go.Proofs.YtogebppolkfldaaGreatDoor.Crc
