/-
  The walks of spec.ShowFrees and impl.ShowFrees: both give the text of freed blocks. Condition for impl's: the table of sixteen sums holds what the program's text lays.
-/
import Derived.Test.YteaiciofcffkgaaDoorSecRows
namespace Go.Proofs.YteaiciofcffkgaaDoor.Sec
open Go.RowKit Go.Proofs.YteaiciofcffkgaaDoor.Mem
set_option linter.unusedVariables false

theorem freesOk_long (l : List Int) (h : ¬ l.length ≤ 12) : freesOk l = false := by unfold freesOk; rw [decide_eq_false h]; rfl
theorem freesOk_short (l : List Int) (h : l.length ≤ 12) : freesOk l = between 0 17 l := by unfold freesOk; rw [decide_eq_true h]; rfl
theorem frees_no {l : List Int} (h : freesOk l = false) : showFrees l = ⟨#[]⟩ := by unfold showFrees; rw [h]; rfl
theorem frees_yes {l : List Int} (h : freesOk l = true) : summed (⟨#[102]⟩ ++ vr (l.length : Int) ++ vrs 0 l) = showFrees l := by unfold showFrees; rw [h]; rfl
theorem frees_len {l : List Int} (h : freesOk l = true) : l.length ≤ 12 := by
  unfold freesOk at h; rw [Bool.and_eq_true] at h; exact of_decide_eq_true h.1
theorem frees_bd {l : List Int} (h : freesOk l = true) : ∀ k, k < l.length → 0 ≤ l.getD k 0 ∧ l.getD k 0 ≤ 17 := fun k hk => by
  unfold freesOk at h; rw [Bool.and_eq_true] at h; exact between_getD h.2 k hk

theorem frees_size (l : List Int) (h : l.length ≤ 12) : ((⟨#[102]⟩ : ByteArray) ++ vr (l.length : Int) ++ vrs 0 l).size ≤ 1048576 := by
  have h1 := vr_size (l.length : Int)
  have h2 := vrs_size 0 l
  rw [ByteArray.size_append, ByteArray.size_append]
  have : (⟨#[102]⟩ : ByteArray).size = 1 := rfl
  omega

theorem step_str (p s v : ByteArray) : p ++ s ++ v = p ++ (s ++ v) := append_assoc p s v

end Go.Proofs.YteaiciofcffkgaaDoor.Sec
