/-
  The walks of impl.Unhex: an odd length, all pairs digits, a first pair that is none. No condition but a length of at most 1048576.
-/
import Derived.Test.YthpmjeledlpoaabDoorUnhexSpec
namespace Go.Proofs.YthpmjeledlpoaabDoor.Hex
open Go.RowKit
open Go.Proofs.YthpmjeledlpoaabDoor.Var (bl bl_length bl_getD)
set_option linter.unusedVariables false

set_option maxHeartbeats 400000 in
theorem impl_odd (s : ByteArray) (w : World) (hs : s.size ≤ 1048576) (ho : s.size % 2 = 1) :
    Calls Tryd.prog 13 #[.string s] w fun e w' => e = .returned (.tuple #[.string ⟨#[]⟩, .bool false]) ∧ Below w.heap.size w w' := by
  have ho' : ((s.size : Int) % 2 != 0) = true := by simp; omega
  go_enter Tryd.func13, Tryd.ntmps13
  go_wp2
  go_ret2
  exact ⟨rfl, Below.refl _ _⟩

set_option maxRecDepth 100000 in
set_option maxHeartbeats 1000000 in
theorem impl_all (s : ByteArray) (n : Nat) (w : World) (hs : s.size ≤ 1048576) (hn : s.size = 2 * n) (hall : ∀ j, j < n → okp s j) :
    Calls Tryd.prog 13 #[.string s] w fun e w' => e = .returned (.tuple #[.string (strOfNums (uL s n)), .bool true]) ∧ Below w.heap.size w w' := by
  have ho' : ((s.size : Int) % 2 != 0) = false := by simp; omega
  have hh : (s.size : Int) / 2 = (n : Int) := by omega
  have hnb : n ≤ 1048576 := by omega
  have Hall : Hid (∀ j, j < n → okp s j) := hall
  have Hn : Hid (s.size = 2 * n) := hn
  clear hall hn
  obtain ⟨i5, j1, j2, j3, j4⟩ := info_parts info5
  go_enter Tryd.func13, Tryd.ntmps13
  go_wp2_with (at_make; refine wpList_make_own _ rfl _ _ 22 rfl w.heap.size 5 i5 (.int .u8 0) 1 Tryd.underlying22 j1 j2 j3 .i64 .i64 _ n rfl rfl (by omega) ?b2 ?b3 ?b4 ?_)
  case b2 => rw [j4]; omega
  case b3 => unfold maxLen; omega
  case b4 => omega
  intro w1 hown hgr
  have hbel1 : Below w.heap.size w w1 := (Below.refl _ _).grown hgr (Nat.le_refl _) (by simp)
  clear hgr
  go_wp2
  go_loopw [4, 19] (fun v i wr => ∃ k : Nat, k ≤ n ∧ i = .int .i64 k ∧ wr.ownsRow w.heap.size 5 1 v k ((uL s k).map (.int .u8)) ∧ Below w.heap.size w wr) (fun _ i _ => n - (intOf i).toNat)
  case atStart => exact ⟨0, Nat.zero_le _, rfl, hown, hbel1⟩
  case round =>
    clear hown hbel1
    obtain ⟨k, hk, rfl, hown, hbel⟩ := hrel
    have hsz := hbel.size
    have hnn := Hn.out
    by_cases hlt : k < n
    · have hj0 : 2 * k < s.size := by omega
      have hj1 : 2 * k + 1 < s.size := by omega
      have hj0' : 2 * (k : Int) < (s.size : Int) := by omega
      have hj1' : 2 * (k : Int) + 1 < (s.size : Int) := by omega
      have hok := Hall.out k hlt
      unfold okp at hok
      have e0 := bt_eq s (2 * k) hj0
      have e1 := bt_eq s (2 * k + 1) hj1
      have hb0 := bt_bd s (2 * k)
      have hb1 := bt_bd s (2 * k + 1)
      have hu0 := ud_bd (bt s (2 * k))
      have hu1 := ud_bd (bt s (2 * k + 1))
      clear hnn
      go_wp2_with (first
        | (go_at_call 22; refine (ib_any _ hb0.1 hb0.2 _).mono ?_; rintro e w' ⟨rfl, hw⟩; obtain rfl := hw)
        | (go_at_call 22; refine (ib_any _ hb1.1 hb1.2 _).mono ?_; rintro e w' ⟨rfl, hw⟩; obtain rfl := hw)
        | (at_builtin; refine Own.wpList_app1 22 Tryd.underlying22 info5 _ _ rfl _ _ rfl w.heap.size _ k (uL s k) rfl hown rfl (by omega) hsz ?_; intro v1 w1 hown1 hbel1))
      have hb2 := hbel.trans hbel1
      rw [Int.mul_comm (ud (bt s (2 * k))) 16] at hown1
      go_roundw
      case rel => exact ⟨k + 1, by omega, by go_num, hown1, hb2⟩
      case measure => simp [intOf]; omega
    · obtain rfl : k = n := by omega
      have hcv := Own.conv_any 22 Tryd.underlying22 Tryd.underlying5 Tryd.underlying9 hown (uL_length s k)
      clear hnn
      go_wp2
      go_ret2
      exact ⟨rfl, hbel⟩

set_option maxRecDepth 100000 in
set_option maxHeartbeats 1000000 in
theorem impl_bad (s : ByteArray) (n m : Nat) (w : World) (hs : s.size ≤ 1048576) (hn : s.size = 2 * n) (hm : m < n) (hbad : ¬ okp s m) (hall : ∀ j, j < m → okp s j) :
    Calls Tryd.prog 13 #[.string s] w fun e w' => e = .returned (.tuple #[.string ⟨#[]⟩, .bool false]) ∧ Below w.heap.size w w' := by
  have ho' : ((s.size : Int) % 2 != 0) = false := by simp; omega
  have hh : (s.size : Int) / 2 = (n : Int) := by omega
  have hnb : n ≤ 1048576 := by omega
  have Hall : Hid (∀ j, j < m → okp s j) := hall
  have Hbad : Hid (¬ okp s m) := hbad
  have Hn : Hid (s.size = 2 * n) := hn
  clear hall hn hbad
  obtain ⟨i5, j1, j2, j3, j4⟩ := info_parts info5
  go_enter Tryd.func13, Tryd.ntmps13
  go_wp2_with (at_make; refine wpList_make_own _ rfl _ _ 22 rfl w.heap.size 5 i5 (.int .u8 0) 1 Tryd.underlying22 j1 j2 j3 .i64 .i64 _ n rfl rfl (by omega) ?b2 ?b3 ?b4 ?_)
  case b2 => rw [j4]; omega
  case b3 => unfold maxLen; omega
  case b4 => omega
  intro w1 hown hgr
  have hbel1 : Below w.heap.size w w1 := (Below.refl _ _).grown hgr (Nat.le_refl _) (by simp)
  clear hgr
  go_wp2
  go_loopw [4, 19] (fun v i wr => ∃ k : Nat, k ≤ m ∧ i = .int .i64 k ∧ wr.ownsRow w.heap.size 5 1 v k ((uL s k).map (.int .u8)) ∧ Below w.heap.size w wr) (fun _ i _ => n - (intOf i).toNat)
  case atStart => exact ⟨0, Nat.zero_le _, rfl, hown, hbel1⟩
  case round =>
    clear hown hbel1
    obtain ⟨k, hk, rfl, hown, hbel⟩ := hrel
    have hsz := hbel.size
    have hnn := Hn.out
    have hj0 : 2 * k < s.size := by omega
    have hj1 : 2 * k + 1 < s.size := by omega
    have hj0' : 2 * (k : Int) < (s.size : Int) := by omega
    have hj1' : 2 * (k : Int) + 1 < (s.size : Int) := by omega
    have hkn : (k : Int) < (n : Int) := by omega
    have e0 := bt_eq s (2 * k) hj0
    have e1 := bt_eq s (2 * k + 1) hj1
    have hb0 := bt_bd s (2 * k)
    have hb1 := bt_bd s (2 * k + 1)
    have hu0 := ud_bd (bt s (2 * k))
    have hu1 := ud_bd (bt s (2 * k + 1))
    clear hnn
    by_cases hlt : k < m
    · have hok := Hall.out k hlt
      unfold okp at hok
      go_wp2_with (first
        | (go_at_call 22; refine (ib_any _ hb0.1 hb0.2 _).mono ?_; rintro e w' ⟨rfl, hw⟩; obtain rfl := hw)
        | (go_at_call 22; refine (ib_any _ hb1.1 hb1.2 _).mono ?_; rintro e w' ⟨rfl, hw⟩; obtain rfl := hw)
        | (at_builtin; refine Own.wpList_app1 22 Tryd.underlying22 info5 _ _ rfl _ _ rfl w.heap.size _ k (uL s k) rfl hown rfl (by omega) hsz ?_; intro v1 w1 hown1 hbel1))
      have hb2 := hbel.trans hbel1
      rw [Int.mul_comm (ud (bt s (2 * k))) 16] at hown1
      go_roundw
      case rel => exact ⟨k + 1, by omega, by go_num, hown1, hb2⟩
      case measure => simp [intOf]; omega
    · obtain rfl : k = m := by omega
      have hb := Hbad.out
      unfold okp at hb
      by_cases hz : ud (bt s (2 * k)) < 0
      · clear hb
        go_wp2_with (first
          | (go_at_call 22; refine (ib_any _ hb0.1 hb0.2 _).mono ?_; rintro e w' ⟨rfl, hw⟩; obtain rfl := hw)
          | (go_at_call 22; refine (ib_any _ hb1.1 hb1.2 _).mono ?_; rintro e w' ⟨rfl, hw⟩; obtain rfl := hw))
        go_ret2
        exact ⟨rfl, hbel⟩
      · have hz1 : ud (bt s (2 * k + 1)) < 0 := by omega
        clear hb
        go_wp2_with (first
          | (go_at_call 22; refine (ib_any _ hb0.1 hb0.2 _).mono ?_; rintro e w' ⟨rfl, hw⟩; obtain rfl := hw)
          | (go_at_call 22; refine (ib_any _ hb1.1 hb1.2 _).mono ?_; rintro e w' ⟨rfl, hw⟩; obtain rfl := hw))
        go_ret2
        exact ⟨rfl, hbel⟩

end Go.Proofs.YthpmjeledlpoaabDoor.Hex
