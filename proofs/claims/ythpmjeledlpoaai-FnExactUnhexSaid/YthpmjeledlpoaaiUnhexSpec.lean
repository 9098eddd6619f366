/-
  The walks of spec.Unhex: an odd length, all pairs digits, a first pair that is none. No condition but a length of at most 1048576.
-/
import Derived.Test.YthpmjeledlpoaaiUnhexWalks
namespace Go.Proofs.Ythpmjeledlpoaai.Hex
open Go.RowKit
open Go.Proofs.Ythpmjeledlpoaai.Var (bl bl_length bl_getD)
set_option linter.unusedVariables false

set_option maxHeartbeats 400000 in
theorem spec_odd (s : ByteArray) (w : World) (hs : s.size ≤ 1048576) (ho : s.size % 2 = 1) :
    Calls Try.prog 14 #[.string s] w fun e w' => e = .returned (.tuple #[.string ⟨#[]⟩, .bool false]) ∧ Below w.heap.size w w' := by
  have ho' : ((s.size : Int) % 2 == 1) = true := by simp; omega
  go_enter Try.func14, Try.ntmps14
  go_wp2
  go_ret2
  exact ⟨rfl, (Below.refl _ _).alloc (Nat.le_refl _) _⟩

set_option maxRecDepth 100000 in
set_option maxHeartbeats 1000000 in
theorem spec_all (s : ByteArray) (n : Nat) (w : World) (hs : s.size ≤ 1048576) (hn : s.size = 2 * n) (hall : ∀ j, j < n → okp s j) :
    Calls Try.prog 14 #[.string s] w fun e w' => e = .returned (.tuple #[.string (strOfNums (uL s n)), .bool true]) ∧ Below w.heap.size w w' := by
  have ho' : ((s.size : Int) % 2 == 1) = false := by simp; omega
  have Hall : Hid (∀ j, j < n → okp s j) := hall
  have Hn : Hid (s.size = 2 * n) := hn
  clear hall hn
  go_enter Try.func14, Try.ntmps14
  go_wp2
  go_loopw [4, 5] (fun v i wr => ∃ k j : Nat, k ≤ n ∧ j = 2 * k ∧ i = .int .i64 j ∧ wr.ownsRow w.heap.size 5 1 v k ((uL s k).map (.int .u8)) ∧ Below w.heap.size w wr) (fun _ i _ => s.size - (intOf i).toNat)
  case atStart => exact ⟨0, 0, Nat.zero_le _, rfl, rfl, World.ownsRow_made w #[] 0 (Nat.le_refl _) (by decide) rfl, (Below.refl _ _).alloc (Nat.le_refl _) _⟩
  case round =>
    obtain ⟨k, j, hk, hj, rfl, hown, hbel⟩ := hrel
    have hsz := hbel.size
    have Hj : Hid (j = 2 * k) := hj
    have hnn := Hn.out
    by_cases hlt : k < n
    · have hj0 : j < s.size := by omega
      have hj1 : j + 1 < s.size := by omega
      have hj1' : (j : Int) + 1 < (s.size : Int) := by omega
      have hok := Hall.out k hlt
      unfold okp at hok
      rw [← Hj.out] at hok
      have e0 := bt_eq s j hj0
      have e1 := bt_eq s (j + 1) hj1
      have hu0 := ud_bd (bt s j)
      have hu1 := ud_bd (bt s (j + 1))
      have HS : Hid (uL s k ++ [16 * ud (bt s j) + ud (bt s (j + 1))] = uL s (k + 1)) := by show _ = uL s (k + 1); rw [uL, Hj.out]
      have hkb : k + 1 ≤ 1048576 := by omega
      clear hj hnn
      go_wp2_with (first
        | (go_at_call 20; refine (from_any _ _).mono ?_; rintro e w' ⟨rfl, hw⟩; obtain rfl := hw)
        | (at_builtin; refine Own.wpList_app1 33 Try.underlying33 info5 _ _ rfl _ _ rfl w.heap.size _ k (uL s k) rfl hown rfl (by omega) hsz ?_; intro v1 w1 hown1 hbel1))
      rw [HS.out] at hown1
      have hb2 := hbel.trans hbel1
      go_roundw
      case rel => exact ⟨k + 1, j + 2, by omega, by rw [Hj.out]; omega, by go_num, hown1, hb2⟩
      case measure => simp [intOf]; omega
    · obtain rfl : k = n := by omega
      have hje : (s.size : Int) ≤ (j : Int) := by omega
      have hcv := Own.conv_any 33 Try.underlying33 Try.underlying5 Try.underlying9 hown (uL_length s k)
      clear hj hnn
      go_wp2
      go_ret2
      exact ⟨rfl, hbel⟩

set_option maxRecDepth 100000 in
set_option maxHeartbeats 1000000 in
/-- Pair m is the first that is none. -/
theorem spec_bad (s : ByteArray) (n m : Nat) (w : World) (hs : s.size ≤ 1048576) (hn : s.size = 2 * n) (hm : m < n) (hbad : ¬ okp s m) (hall : ∀ j, j < m → okp s j) :
    Calls Try.prog 14 #[.string s] w fun e w' => e = .returned (.tuple #[.string ⟨#[]⟩, .bool false]) ∧ Below w.heap.size w w' := by
  have ho' : ((s.size : Int) % 2 == 1) = false := by simp; omega
  have Hall : Hid (∀ j, j < m → okp s j) := hall
  have Hbad : Hid (¬ okp s m) := hbad
  have Hn : Hid (s.size = 2 * n) := hn
  clear hall hn hbad
  go_enter Try.func14, Try.ntmps14
  go_wp2
  go_loopw [4, 5] (fun v i wr => ∃ k j : Nat, k ≤ m ∧ j = 2 * k ∧ i = .int .i64 j ∧ wr.ownsRow w.heap.size 5 1 v k ((uL s k).map (.int .u8)) ∧ Below w.heap.size w wr) (fun _ i _ => s.size - (intOf i).toNat)
  case atStart => exact ⟨0, 0, Nat.zero_le _, rfl, rfl, World.ownsRow_made w #[] 0 (Nat.le_refl _) (by decide) rfl, (Below.refl _ _).alloc (Nat.le_refl _) _⟩
  case round =>
    obtain ⟨k, j, hk, hj, rfl, hown, hbel⟩ := hrel
    have hsz := hbel.size
    have Hj : Hid (j = 2 * k) := hj
    have hnn := Hn.out
    have hj0 : j < s.size := by omega
    have hj1 : j + 1 < s.size := by omega
    have hj1' : (j : Int) + 1 < (s.size : Int) := by omega
    have e0 := bt_eq s j hj0
    have e1 := bt_eq s (j + 1) hj1
    have hu0 := ud_bd (bt s j)
    have hu1 := ud_bd (bt s (j + 1))
    have hkb : k + 1 ≤ 1048576 := by omega
    by_cases hlt : k < m
    · have hok := Hall.out k hlt
      unfold okp at hok
      rw [← Hj.out] at hok
      have HS : Hid (uL s k ++ [16 * ud (bt s j) + ud (bt s (j + 1))] = uL s (k + 1)) := by show _ = uL s (k + 1); rw [uL, Hj.out]
      clear hj hnn
      go_wp2_with (first
        | (go_at_call 20; refine (from_any _ _).mono ?_; rintro e w' ⟨rfl, hw⟩; obtain rfl := hw)
        | (at_builtin; refine Own.wpList_app1 33 Try.underlying33 info5 _ _ rfl _ _ rfl w.heap.size _ k (uL s k) rfl hown rfl (by omega) hsz ?_; intro v1 w1 hown1 hbel1))
      rw [HS.out] at hown1
      have hb2 := hbel.trans hbel1
      go_roundw
      case rel => exact ⟨k + 1, j + 2, by omega, by rw [Hj.out]; omega, by go_num, hown1, hb2⟩
      case measure => simp [intOf]; omega
    · obtain rfl : k = m := by omega
      have hb := Hbad.out
      unfold okp at hb
      rw [← Hj.out] at hb
      clear hj hnn
      by_cases hz : ud (bt s j) < 0
      · clear hb
        go_wp2_with (go_at_call 20; refine (from_any _ _).mono ?_; rintro e w' ⟨rfl, hw⟩; obtain rfl := hw)
        go_ret2
        exact ⟨rfl, hbel⟩
      · have hz1 : ud (bt s (j + 1)) < 0 := by omega
        clear hb
        go_wp2_with (go_at_call 20; refine (from_any _ _).mono ?_; rintro e w' ⟨rfl, hw⟩; obtain rfl := hw)
        go_ret2
        exact ⟨rfl, hbel⟩

end Go.Proofs.Ythpmjeledlpoaai.Hex
