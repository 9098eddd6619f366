/-
  The walks of spec.l4Vars at no place and of spec.l4Take. No condition but texts of at most 2^20 bytes.
-/
import Derived.Test.YtfbnnhgaedficafDoorRdJn4
namespace Go.Proofs.YtfbnnhgaedficafDoor.Rd
open Go.RowKit Go.Proofs.YtfbnnhgaedficafDoor.Mem Go.Proofs.YtfbnnhgaedficafDoor.Sec
set_option linter.unusedVariables false

set_option maxRecDepth 100000 in
set_option maxHeartbeats 1000000 in
theorem l4VarsNeg (s : ByteArray) (w : World) :
    Calls Tryd.prog 37 #[.string s, .int .i64 (-1), .int .i64 1] w fun e w' => ∃ v, e = .returned (.tuple #[v, .int .i64 (-1)]) ∧ Below w.heap.size w w' := by
  go_enter Tryd.func37, Tryd.ntmps37
  go_wp2
  go_loopw [1, 8, 9] (fun z v j wr => z = .int .i64 (-1) ∧ j = .int .i64 0 ∧ Hid (Below w.heap.size w wr)) (fun _ _ _ _ => 0)
  case atStart => exact ⟨rfl, rfl, (Below.refl _ _).alloc (Nat.le_refl _) _⟩
  case round =>
    obtain ⟨rfl, rfl, HB⟩ := hrel
    go_wp2
    go_ret2
    exact ⟨_, rfl, HB.out⟩

theorem nums_one (R : ByteArray → Int × Nat) (s : ByteArray) (i : Nat) : nums R s i 1 = if (R (rest s i)).2 = 0 then none else some ([(R (rest s i)).1], i + (R (rest s i)).2) := by
  rw [nums_step (R := R) (s := s) (i := i) (k := 0) (l := []) (e := i) rfl]
  rfl

theorem ext_rest (s : ByteArray) (i n : Nat) : (rest s i).extract 0 n = s.extract i (min s.size (i + n)) := by
  unfold rest
  apply ByteArray.ext
  simp [ByteArray.data_extract, Array.extract_extract]
  congr 1
  have : s.data.size = s.size := rfl
  omega

/-- What l4Take gives. -/
def TakeGive (e : Ending) : Option (ByteArray × Nat) → Prop
  | some (t, z) => e = .returned (.tuple #[.string t, .int .i64 (z : Int)])
  | none => e = .returned (.tuple #[.string ⟨#[]⟩, .int .i64 (-1)])

set_option maxRecDepth 100000 in
set_option maxHeartbeats 1000000 in
theorem l4TakeNeg (s : ByteArray) (w : World) :
    Calls Tryd.prog 53 #[.string s, .int .i64 (-1)] w fun e w' => TakeGive e none ∧ Below w.heap.size w w' := by
  go_enter Tryd.func53, Tryd.ntmps53
  go_wp2_with fail
  refine (l4VarsNeg s w).mono ?_
  rintro e w1 ⟨v, rfl, b1⟩
  have HB := hid b1
  clear b1
  go_wp2
  go_ret2
  exact ⟨rfl, HB.out⟩

set_option maxRecDepth 100000 in
set_option maxHeartbeats 2000000 in
theorem l4Take (R : ByteArray → Int × Nat) (hR : Reads R) (s : ByteArray) (hs : s.size ≤ 1048576) (i : Nat) (hi : i ≤ 1048576) (w : World) :
    Calls Tryd.prog 53 #[.string s, .int .i64 (i : Int)] w fun e w' => TakeGive e (pieceAt R s i) ∧ Below w.heap.size w w' := by
  have hRV := hR (rest s i) (by rw [rest_size]; unfold maxLen; omega)
  have hle := hRV.le
  have hx0 := hRV.x0
  have hx1 := hRV.x1
  rw [rest_size] at hle
  have HR := hid hR
  clear hR hRV
  go_enter Tryd.func53, Tryd.ntmps53
  go_wp2_with fail
  refine (l4Vars R HR.out s hs i 1 hi (by decide) w).mono ?_
  rintro e w1 ⟨hg, b1⟩
  have HB := hid b1
  clear b1
  by_cases hq : (R (rest s i)).2 = 0
  · have hn : nums R s i 1 = none := by rw [nums_one, if_pos hq]
    have HP : Hid (pieceAt R s i = none) := by unfold Hid pieceAt; rw [if_pos hq]
    rw [hn] at hg
    obtain ⟨v, rfl⟩ := hg
    clear hn hq hle hx0 hx1
    go_wp2
    go_ret2
    exact ⟨by rw [HP.out]; rfl, HB.out⟩
  · have hn : nums R s i 1 = some ([(R (rest s i)).1], i + (R (rest s i)).2) := by rw [nums_one, if_neg hq]
    obtain ⟨n, hnn⟩ : ∃ n : Nat, (R (rest s i)).1 = (n : Int) := Int.eq_ofNat_of_zero_le hx0
    have HP : Hid (pieceAt R s i = if ((rest s (i + (R (rest s i)).2)).size : Int) < (n : Int) then none else some ((rest s (i + (R (rest s i)).2)).extract 0 n, i + (R (rest s i)).2 + n)) := by
      unfold Hid pieceAt; rw [if_neg hq, hnn, Int.toNat_natCast]
    rw [hn, hnn] at hg
    rw [hnn] at hx1
    obtain ⟨v, rfl, hI⟩ := hg
    have hz : i + (R (rest s i)).2 ≤ s.size := by omega
    clear hn hnn hq hle hx0
    generalize i + (R (rest s i)).2 = z at *
    obtain ⟨g, off, cap, rfl, _, hgl, hcell⟩ := ir_cells hI (by simp)
    have c0 := hcell 0 n rfl
    rw [Nat.add_zero] at c0
    have hrs : (rest s z).size = s.size - z := rest_size s z
    rw [hrs] at HP
    clear hI hcell hrs
    have hz0 : ¬ ((z : Int) < 0) := by omega
    have hsub : IntKind.i64.wrap ((s.size : Int) - (z : Int)) = (s.size : Int) - (z : Int) := by rw [IntWalk.i64_left, IntWalk.wrap64_in _ (by omega)]
    by_cases hlt : (s.size : Int) - (z : Int) < (n : Int)
    · have HN : Hid (pieceAt R s i = none) := by rw [Hid, HP.out, if_pos (by omega)]
      go_wp2
      go_ret2
      exact ⟨by rw [HN.out]; rfl, HB.out⟩
    · have HN : Hid (pieceAt R s i = some ((rest s z).extract 0 n, z + n)) := by rw [Hid, HP.out, if_neg (by omega)]
      have hadd : IntKind.i64.wrap ((z : Int) + (n : Int)) = ((z + n : Nat) : Int) := by rw [IntWalk.i64_left, IntWalk.wrap64_in _ (by omega)]; omega
      have hzn : z + n ≤ s.size := by omega
      have hsl : ∀ wx : World, (Instr.slice 9 (.string s) (some (.int .i64 (z : Int))) (some (.int .i64 ((z + n : Nat) : Int))) none).run Tryd.prog wx = .ok (.string ((rest s z).extract 0 n)) wx := fun wx => by
        have h1 := run_slice_string (P := Tryd.prog) wx 9 s .i64 .i64 (z : Int) ((z + n : Nat) : Int) Tryd.underlying9 (by omega) (by omega) (by omega)
        rw [ext_rest, Nat.min_eq_right hzn]
        rw [Int.toNat_natCast, Int.toNat_natCast] at h1
        exact h1
      generalize (rest s z).extract 0 n = tx at *
      obtain ⟨y, hy⟩ : ∃ y : Nat, y = z + n := ⟨_, rfl⟩
      rw [← hy] at HN hadd hsl
      have hy0 : ¬ ((y : Int) < 0) := by omega
      clear HP hlt hy hx1
      go_wp2
      go_region
      all_goals (go_wp2; go_ret2; exact ⟨by rw [HN.out]; rfl, HB.out.drew⟩)

end Go.Proofs.YtfbnnhgaedficafDoor.Rd
