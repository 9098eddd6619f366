/-
  The walk of spec.Dec: it gives the decimal digits of n. No condition but that n is an int.
-/
import Derived.Test.YthpmjeledlpoaaiDoorRows
import Derived.WalkKit
import Derived.WalkSpells
import Derived.WalkLawsBesides
import Derived.Outline
import Derived.Laws.BytesArg
import Derived.Test.YthpmjeledlpoaaiDoorOwn
import Derived.Test.YthpmjeledlpoaaiDoorDecNum
namespace Go.Proofs.YthpmjeledlpoaaiDoor.Dec
open Go.RowKit
open Go.Proofs.YthpmjeledlpoaaiDoor.Var (bl bl_length bl_getD bl_bd bl_inj bl_str)
set_option linter.unusedVariables false

/-- Behind some rounds: l is made, q is left. -/
def Inv (M : Nat) (l : List Int) (q f : Nat) : Prop := q < 10 ^ f ∧ l.length + f = 20 ∧ ddF f q ++ l = ddF 20 M

theorem inv_start (M : Nat) (h : M < 100000000000000000000) : Inv M [] M 20 := ⟨by show M < 100000000000000000000; exact h, rfl, by simp⟩

theorem inv_more {M : Nat} {l : List Int} {q f : Nat} (h : Inv M l q f) (hq : q ≠ 0) : ∃ g, f = g + 1 ∧ Inv M ((48 + (q : Int) % 10) :: l) (q / 10) g := by
  obtain ⟨h1, h2, h3⟩ := h
  cases f with
  | zero => simp at h1; omega
  | succ g =>
    refine ⟨g, rfl, by rw [Nat.pow_succ] at h1; omega, by simp; omega, ?_⟩
    rw [ddF_pos g q hq] at h3
    rw [← h3]; simp

theorem inv_end {M : Nat} {l : List Int} {f : Nat} (h : Inv M l 0 f) : l = ddF 20 M := by
  have := h.2.2
  rw [ddF_zero] at this
  exact this

theorem inv_len {M : Nat} {l : List Int} {q f : Nat} (h : Inv M l q f) : l.length ≤ 20 := by have := h.2.1; omega

theorem str_cons (x : Int) (l : List Int) : strOfNums [x] ++ strOfNums l = strOfNums (x :: l) := by
  apply ByteArray.ext
  simp [strOfNums, ByteArray.data_append]

theorem str_one (x : Int) : (strOfNums [x]).size = 1 := rfl

set_option maxHeartbeats 400000 in
theorem dec_zero (w : World) : Calls Tryd.prog 4 #[.int .i64 0] w fun e w' => e = .returned (.string (decS 0)) ∧ Below w.heap.size w w' := by
  go_enter Tryd.func4, Tryd.ntmps4
  go_wp2
  go_ret
  exact ⟨rfl, Below.refl _ _⟩

set_option maxRecDepth 100000 in
set_option maxHeartbeats 1000000 in
theorem dec_pos (M : Nat) (w : World) (h0 : 0 < M) (h1 : (M : Int) ≤ 9223372036854775807) :
    Calls Tryd.prog 4 #[.int .i64 (M : Int)] w fun e w' => e = .returned (.string (decS (M : Int))) ∧ Below w.heap.size w w' := by
  have Hd : Hid (decS (M : Int) = strOfNums (ddF 20 M)) := by
    show decS _ = _
    unfold decS decL
    rw [if_neg (by omega), if_neg (by omega)]; simp
  have hz : ((M : Int) == 0) = false := by simp; omega
  have hneg : ¬ (M : Int) < 0 := by omega
  go_enter Tryd.func4, Tryd.ntmps4
  go_wp2
  go_loopw [0, 3] (fun x s wr => ∃ (l : List Int) (q f : Nat), Hid (Inv M l q f) ∧ (q : Int) ≤ 9223372036854775807 ∧ x = .int .i64 (q : Int) ∧ s = .string (strOfNums l) ∧ Below w.heap.size w wr) (fun x _ _ => (intOf x).toNat)
  case atStart => exact ⟨[], M, 20, inv_start M (by omega), h1, rfl, rfl, Below.refl _ _⟩
  case round =>
    obtain ⟨l, q, f, hI, hq, rfl, rfl, hbel⟩ := hrel
    have hl := inv_len hI.out
    have hls := strOfNums_size l
    by_cases hlt : q = 0
    · subst hlt
      have he := inv_end hI.out
      have Hf : Hid (strOfNums l = decS (M : Int)) := by show _ = _; rw [Hd.out, he]
      clear he
      go_wp2
      go_ret
      exact ⟨Own.ret_str Hf.out, hbel⟩
    · obtain ⟨g, rfl, hI'⟩ := inv_more hI.out hlt
      have hne : ((q : Int) != 0) = true := by simp; omega
      have HS : Hid (strOfNums [48 + (q : Int) % 10] ++ strOfNums l = strOfNums ((48 + (q : Int) % 10) :: l)) := str_cons _ _
      have Hn : Hid (((q / 10 : Nat) : Int) = (q : Int) / 10) := by show _ = _; omega
      have hone := str_one (48 + (q : Int) % 10)
      have HI : Hid (Inv M ((48 + (q : Int) % 10) :: l) (q / 10) g) := hI'
      have hcv := fun (b len : Nat) (x : Int) (wx : World) (hc : wx.cell? ⟨b, 0, none⟩ = some (.int .u8 x)) => run_convert_bytes_arg (P := Tryd.prog) wx 24 5 Tryd.underlying24 Tryd.underlying5 b 0 1 len [x] rfl (fun i hi => by obtain rfl : i = 0 := (by omega); simpa using hc) 9 Tryd.underlying9
      clear hI'
      go_wp2
      go_roundw
      case rel => exact ⟨(48 + (q : Int) % 10) :: l, q / 10, g, HI, by rw [Hn.out]; omega, by rw [Hn.out], by rw [HS.out], hbel.alloc hbel.size _⟩
      case measure => simp [intOf]; omega

end Go.Proofs.YthpmjeledlpoaaiDoor.Dec
