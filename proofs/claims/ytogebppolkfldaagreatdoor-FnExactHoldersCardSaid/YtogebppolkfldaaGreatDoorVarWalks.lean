/-
  The walks of spec.Var and impl.Var: both give the bytes of n, seven bits to a byte, the lowest first; the empty text out of the bounds. No condition.
-/
import Derived.Test.YtogebppolkfldaaGreatDoorRows
import Derived.WalkKit
import Derived.WalkSpells
import Derived.WalkLawsBesides
import Derived.Outline
import Derived.Test.YtogebppolkfldaaGreatDoorOwn
import Derived.Test.YtogebppolkfldaaGreatDoorVarNum
namespace Go.Proofs.YtogebppolkfldaaGreatDoor.Var
open Go.RowKit
set_option linter.unusedVariables false
theorem info5 : (Tryz.prog.info? 5).map (fun i => (i.zero, i.size, i.bytes)) = some (some (.int .u8 0), 1, 1) := by kernel_rfl

set_option maxHeartbeats 400000 in
theorem in_yes (x lo hi : Int) (w : World) (h1 : lo ≤ x) (h2 : x ≤ hi) :
    Calls Tryz.prog 42 #[.int .i64 x, .int .i64 lo, .int .i64 hi] w fun e w' => e = .returned (.bool true) ∧ w' = w := by
  go_enter Tryz.func42, Tryz.ntmps42
  go_wp2
  go_ret
  exact ⟨rfl, rfl⟩

set_option maxHeartbeats 400000 in
theorem spec_no (N : Int) (w : World) (h : N < 0 ∨ 562949953421311 < N) :
    Calls Tryz.prog 82 #[.int .i64 N] w fun e w' => e = .returned (.string ⟨#[]⟩) ∧ Below w.heap.size w w' := by
  by_cases h1 : N < 0
  · have h1' : ¬ 0 ≤ N := by omega
    go_enter Tryz.func82, Tryz.ntmps82
    go_wp2
    go_ret
    exact ⟨rfl, Below.refl _ _⟩
  · have h1' : 0 ≤ N := by omega
    have h2' : ¬ N ≤ 562949953421311 := by omega
    go_enter Tryz.func82, Tryz.ntmps82
    go_wp2
    go_ret
    exact ⟨rfl, Below.refl _ _⟩

set_option maxHeartbeats 400000 in
theorem impl_no (N : Int) (w : World) (h : N < 0 ∨ 562949953421311 < N) :
    Calls Tryz.prog 159 #[.int .i64 N] w fun e w' => e = .returned (.string ⟨#[]⟩) ∧ Below w.heap.size w w' := by
  by_cases h1 : N < 0
  · go_enter Tryz.func159, Tryz.ntmps159
    go_wp2
    go_ret
    exact ⟨rfl, Below.refl _ _⟩
  · have h1' : 0 ≤ N := by omega
    have h2' : 562949953421311 < N := by omega
    go_enter Tryz.func159, Tryz.ntmps159
    go_wp2
    go_ret
    exact ⟨rfl, Below.refl _ _⟩

set_option maxHeartbeats 400000 in
theorem spec_yes (N : Int) (w : World) (h0 : 0 ≤ N) (h1 : N ≤ 562949953421311) :
    Calls Tryz.prog 82 #[.int .i64 N] w fun e w' => e = .returned (.string (varS N)) ∧ Below w.heap.size w w' := by
  go_enter Tryz.func82, Tryz.ntmps82
  go_wp2_with (go_at_call 42; refine (in_yes N 0 562949953421311 _ h0 h1).mono ?_; rintro e w' ⟨rfl, hw⟩; obtain rfl : w = w' := hw.symm)
  go_loopw [0, 3] (fun x v wr => ∃ (l : List Int) (q : Int) (f : Nat), Inv N l q f ∧ x = .int .i64 q ∧ wr.ownsRow w.heap.size 5 1 v l.length (l.map (.int .u8)) ∧ Below w.heap.size w wr) (fun x _ _ => (intOf x).toNat)
  case atStart => exact ⟨[], N, 6, inv_start N h0 h1, rfl, World.ownsRow_made w #[] 0 (Nat.le_refl _) (by decide) rfl, (Below.refl _ _).alloc (Nat.le_refl _) _⟩
  case round =>
    obtain ⟨l, q, f, hI, rfl, hown, hbel⟩ := hrel
    have hq := inv_q hI
    have hl := inv_len hI
    have hsz := hbel.size
    by_cases hlt : 128 ≤ q
    · obtain ⟨g, rfl, hI'⟩ := inv_more hI hlt
      go_wp2_with (at_builtin; refine Own.wpList_app1 184 Tryz.underlying184 info5 wr _ rfl _ _ rfl w.heap.size _ l.length l rfl hown rfl (by omega) hsz ?_; intro v1 w1 hown1 hbel1)
      go_roundw
      case rel => exact ⟨l ++ [128 + q % 128], q / 128, g, hI', rfl, by simpa using hown1, hbel.trans hbel1⟩
      case measure => simp [intOf]; omega
    · have Hf : Hid (strOfNums (l ++ [q]) = varS N) := inv_last hI (by omega)
      go_wp2_with (first
        | (at_builtin; refine Own.wpList_app1 184 Tryz.underlying184 info5 wr _ rfl _ _ rfl w.heap.size _ l.length l rfl hown rfl (by omega) hsz ?_; intro v1 w1 hown1 hbel1; have hcv := Own.conv_any 184 Tryz.underlying184 Tryz.underlying5 Tryz.underlying9 hown1 (by simp)))
      go_ret
      exact ⟨Own.ret_str Hf.out, hbel.trans hbel1⟩

set_option maxHeartbeats 400000 in
theorem impl_yes (N : Int) (w : World) (h0 : 0 ≤ N) (h1 : N ≤ 562949953421311) :
    Calls Tryz.prog 159 #[.int .i64 N] w fun e w' => e = .returned (.string (varS N)) ∧ Below w.heap.size w w' := by
  have hmk : ∀ w : World, (Instr.makeSlice 184 (.int .i64 0) (.int .i64 7)).run Tryz.prog w = .ok (.slice (some ⟨w.heap.size, 0, none⟩) 0 7) (w.alloc (.cells #[.int .u8 0, .int .u8 0, .int .u8 0, .int .u8 0, .int .u8 0, .int .u8 0, .int .u8 0] 5)) := fun _ => by kernel_rfl
  go_enter Tryz.func159, Tryz.ntmps159
  go_wp2
  go_loopw [0, 3] (fun x v wr => ∃ (l : List Int) (q : Int) (f : Nat), Inv N l q f ∧ x = .int .i64 q ∧ wr.ownsRow w.heap.size 5 1 v l.length (l.map (.int .u8)) ∧ Below w.heap.size w wr) (fun x _ _ => (intOf x).toNat)
  case atStart => exact ⟨[], N, 6, inv_start N h0 h1, rfl, World.ownsRow_made w _ 7 (Nat.le_refl _) (by decide) rfl, (Below.refl _ _).alloc (Nat.le_refl _) _⟩
  case round =>
    clear hmk
    obtain ⟨l, q, f, hI, rfl, hown, hbel⟩ := hrel
    have hq := inv_q hI
    have hl := inv_len hI
    have hsz := hbel.size
    by_cases hlt : 128 ≤ q
    · obtain ⟨g, rfl, hI'⟩ := inv_more hI hlt
      go_wp2_with (at_builtin; refine Own.wpList_app1 184 Tryz.underlying184 info5 wr _ rfl _ _ rfl w.heap.size _ l.length l rfl hown rfl (by omega) hsz ?_; intro v1 w1 hown1 hbel1)
      go_roundw
      case rel => exact ⟨l ++ [128 + q % 128], q / 128, g, hI', rfl, by simpa using hown1, hbel.trans hbel1⟩
      case measure => simp [intOf]; omega
    · have Hf : Hid (strOfNums (l ++ [q]) = varS N) := inv_last hI (by omega)
      go_wp2_with (first
        | (at_builtin; refine Own.wpList_app1 184 Tryz.underlying184 info5 wr _ rfl _ _ rfl w.heap.size _ l.length l rfl hown rfl (by omega) hsz ?_; intro v1 w1 hown1 hbel1; have hcv := Own.conv_any 184 Tryz.underlying184 Tryz.underlying5 Tryz.underlying9 hown1 (by simp)))
      go_ret
      exact ⟨Own.ret_str Hf.out, hbel.trans hbel1⟩

end Go.Proofs.YtogebppolkfldaaGreatDoor.Var
