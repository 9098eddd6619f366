/-
  The walks of spec.Hex and impl.Hex.
-/
import Derived.Test.YthpmjeledlpoaabDoorHexWalks
import Derived.Deep.RegionLaw
import Derived.Deep.RegionWith
namespace Go.Proofs.YthpmjeledlpoaabDoor.Hex
open Go.RowKit
open Go.Proofs.YthpmjeledlpoaabDoor.Var (bl bl_length bl_getD)
set_option linter.unusedVariables false

theorem byte_at (s : ByteArray) (k : Nat) (h : k < s.size) : (0 : Int) ≤ (s[k].toNat : Int) ∧ (s[k].toNat : Int) ≤ 255 := by have := s[k].toNat_lt; omega

set_option maxRecDepth 100000 in
set_option maxHeartbeats 1000000 in
theorem impl_any (s : ByteArray) (w : World) (hs : s.size ≤ 1048576) :
    Calls Tryd.prog 14 #[.string s] w fun e w' => e = .returned (.string (hexS s)) ∧ Below w.heap.size w w' := by
  obtain ⟨i5, j1, j2, j3, j4⟩ := info_parts info5
  go_enter Tryd.func14, Tryd.ntmps14
  go_wp2_with (at_make; refine wpList_make_own _ rfl _ _ 22 rfl w.heap.size 5 i5 (.int .u8 0) 1 Tryd.underlying22 j1 j2 j3 .i64 .i64 _ (2 * s.size) rfl rfl (by omega) ?b2 ?b3 ?b4 ?_)
  case b2 => rw [j4]; omega
  case b3 => unfold maxLen; omega
  case b4 => omega
  intro w1 hown hgr
  have hbel1 : Below w.heap.size w w1 := (Below.refl _ _).grown hgr (Nat.le_refl _) (by simp)
  clear hgr
  go_wp2
  go_loopw [3, 11] (fun v i wr => ∃ k : Nat, k ≤ s.size ∧ i = .int .i64 k ∧ wr.ownsRow w.heap.size 5 1 v (2 * k) ((hexL ((bl s).take k)).map (.int .u8)) ∧ Below w.heap.size w wr) (fun _ i _ => s.size - (intOf i).toNat)
  case atStart => exact ⟨0, Nat.zero_le _, rfl, hown, hbel1⟩
  case round =>
    clear hown hbel1
    obtain ⟨k, hk, rfl, hown, hbel⟩ := hrel
    have hsz := hbel.size
    by_cases hlt : k < s.size
    · have hb := byte_at s k hlt
      have ha := and15 (s[k].toNat : Int) hb.1 hb.2
      have i1 := index_dg .u8 (Or.inr rfl) ((s[k].toNat : Int) / 16) (by omega) (by omega)
      have i2 := index_dg .u8 (Or.inr rfl) ((s[k].toNat : Int) % 16) (by omega) (by omega)
      have HS : Hid (hexL ((bl s).take k) ++ [dg ((s[k].toNat : Int) / 16), dg ((s[k].toNat : Int) % 16)] = hexL ((bl s).take (k + 1))) := hexL_step s k hlt
      go_wp2
      go_region_law (refine Own.step_app 22 Tryd.underlying22 info5 rfl (.tmp 14) (.tmp 25) rfl w.heap.size _ (2 * k) _ [dg ((s[k].toNat : Int) / 16), dg ((s[k].toNat : Int) % 16)] ⟨wr.heap.size, 0, none⟩ 2 rfl rfl rfl (hown.alloc _) (Own.two_cells _ _ _) (by omega) (by simp; omega) ?_; intro v1 w1 hown1 hbel1)
      all_goals
        have hb2 : Below w.heap.size w w1 := hbel.trans ((((Below.refl _ wr).alloc hsz _).drew).trans hbel1)
        rw [HS.out] at hown1
        clear hbel1 ha i1 i2 hown
        go_wp2
        go_roundw
        case rel => exact ⟨k + 1, by omega, by go_num, hown1, hb2⟩
        case measure => simp [intOf]; omega
    · rw [take_all s k (by omega)] at hown
      have hcv := Own.conv_any 22 Tryd.underlying22 Tryd.underlying5 Tryd.underlying9 hown (by rw [hexL_length, bl_length]; omega)
      go_wp2
      go_ret
      exact ⟨rfl, hbel⟩

end Go.Proofs.YthpmjeledlpoaabDoor.Hex
