/-
  The walk of spec.Dec below 0. No condition but that n is an int.
-/
import Derived.Test.YthpmjeledlpoaaiDoorDecWalks
namespace Go.Proofs.YthpmjeledlpoaaiDoor.Dec
open Go.RowKit
set_option linter.unusedVariables false

theorem tmod_neg (q : Nat) : (-(q : Int)).tmod 10 = -((q : Int) % 10) := by
  rw [Int.neg_tmod, Int.tmod_eq_emod_of_nonneg (by omega)]
theorem tdiv_neg (q : Nat) : (-(q : Int)).tdiv 10 = -((q : Int) / 10) := by
  rw [Int.neg_tdiv, Int.tdiv_eq_ediv_of_nonneg (by omega)]

set_option maxRecDepth 100000 in
set_option maxHeartbeats 1000000 in
theorem dec_neg (M : Nat) (w : World) (h0 : 0 < M) (h1 : -9223372036854775808 ≤ -(M : Int)) :
    Calls Tryd.prog 4 #[.int .i64 (-(M : Int))] w fun e w' => e = .returned (.string (decS (-(M : Int)))) ∧ Below w.heap.size w w' := by
  have Hd : Hid (decS (-(M : Int)) = strOfNums (45 :: ddF 20 M)) := by
    show decS _ = _
    unfold decS decL
    rw [if_neg (by omega), if_pos (by omega)]; simp
  have hz : (-(M : Int) == 0) = false := by simp; omega
  have hneg : -(M : Int) < 0 := by omega
  go_enter Tryd.func4, Tryd.ntmps4
  go_wp2
  go_loopw [0, 3] (fun x s wr => ∃ (l : List Int) (q f : Nat), Hid (Inv M l q f) ∧ -9223372036854775808 ≤ -(q : Int) ∧ x = .int .i64 (-(q : Int)) ∧ s = .string (strOfNums l) ∧ Below w.heap.size w wr) (fun x _ _ => (-(intOf x)).toNat)
  case atStart => exact ⟨[], M, 20, inv_start M (by omega), h1, rfl, rfl, Below.refl _ _⟩
  case round =>
    obtain ⟨l, q, f, hI, hq, rfl, rfl, hbel⟩ := hrel
    have hl := inv_len hI.out
    have hls := strOfNums_size l
    by_cases hlt : q = 0
    · subst hlt
      have he := inv_end hI.out
      have Hf : Hid ({ data := #[45] } ++ strOfNums l = decS (-(M : Int))) := by show _ = _; rw [Hd.out, he, ← str_cons]; rfl
      have h45 : ({ data := #[45] } : ByteArray).size = 1 := rfl
      clear he
      go_wp2
      go_ret
      exact ⟨Own.ret_str Hf.out, hbel⟩
    · obtain ⟨g, rfl, hI'⟩ := inv_more hI.out hlt
      have hne : (-(q : Int) != 0) = true := by simp; omega
      have HS : Hid (strOfNums [48 + (q : Int) % 10] ++ strOfNums l = strOfNums ((48 + (q : Int) % 10) :: l)) := str_cons _ _
      have Hn : Hid (((q / 10 : Nat) : Int) = (q : Int) / 10) := by show _ = _; omega
      have hone := str_one (48 + (q : Int) % 10)
      have HI : Hid (Inv M ((48 + (q : Int) % 10) :: l) (q / 10) g) := hI'
      have hcv := fun (b len : Nat) (x : Int) (wx : World) (hc : wx.cell? ⟨b, 0, none⟩ = some (.int .u8 x)) => run_convert_bytes_arg (P := Tryd.prog) wx 24 5 Tryd.underlying24 Tryd.underlying5 b 0 1 len [x] rfl (fun i hi => by obtain rfl : i = 0 := (by omega); simpa using hc) 9 Tryd.underlying9
      have t1 := tmod_neg q
      have t2 := tdiv_neg q
      clear hI'
      by_cases hm : (q : Int) % 10 = 0
      · have hm' : ¬ -((q : Int) % 10) < 0 := by omega
        have Hm : Hid (48 + -((q : Int) % 10) = 48 + (q : Int) % 10) := by show _ = _; omega
        have hone' := str_one (48 + -((q : Int) % 10))
        clear hm
        go_wp2
        go_roundw
        case rel => exact ⟨(48 + (q : Int) % 10) :: l, q / 10, g, HI, by rw [Hn.out]; omega, by rw [Hn.out], by rw [Hm.out, HS.out], hbel.alloc hbel.size _⟩
        case measure => simp [intOf]; omega
      · have hm' : -((q : Int) % 10) < 0 := by omega
        clear hm
        go_wp2
        go_roundw
        case rel => exact ⟨(48 + (q : Int) % 10) :: l, q / 10, g, HI, by rw [Hn.out]; omega, by rw [Hn.out], by rw [HS.out], hbel.alloc hbel.size _⟩
        case measure => simp [intOf]; omega

theorem dec_any (N : Int) (w : World) (h0 : -9223372036854775808 ≤ N) (h1 : N ≤ 9223372036854775807) :
    Calls Tryd.prog 4 #[.int .i64 N] w fun e w' => e = .returned (.string (decS N)) ∧ Below w.heap.size w w' := by
  by_cases hz : N = 0
  · subst hz; exact dec_zero w
  · by_cases hn : N < 0
    · obtain ⟨M, rfl⟩ : ∃ M : Nat, N = -(M : Int) := ⟨(-N).toNat, by omega⟩
      exact dec_neg M w (by omega) h0
    · obtain ⟨M, rfl⟩ : ∃ M : Nat, N = (M : Int) := ⟨N.toNat, by omega⟩
      exact dec_pos M w (by omega) h1

end Go.Proofs.YthpmjeledlpoaaiDoor.Dec
