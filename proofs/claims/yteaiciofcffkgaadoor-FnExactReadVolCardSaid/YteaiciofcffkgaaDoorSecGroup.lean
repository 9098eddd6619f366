/-
  The walks of spec.ShowGroup and impl.ShowGroup: both give a group's text. Condition for impl's: the table of sixteen sums holds what the program's text lays.
-/
import Derived.Test.YteaiciofcffkgaaDoorSecRows
namespace Go.Proofs.YteaiciofcffkgaaDoor.Sec
open Go.RowKit Go.Proofs.YteaiciofcffkgaaDoor.Mem
set_option linter.unusedVariables false

/-- A group's value. -/
def gpV (h e : Int) (a : Option Addr) (n cap : Nat) : Value := .agg #[.int .i64 h, .int .i64 e, .slice a n cap]

theorem groupOk_no1 (h e : Int) (l : List Int) (x : lsOk h e = false) : groupOk h e l = false := by unfold groupOk; rw [x]; rfl
theorem groupOk_no2 (h e : Int) (l : List Int) (x : ¬ l.length = 6) : groupOk h e l = false := by unfold groupOk; rw [decide_eq_false x]; cases lsOk h e <;> rfl
theorem groupOk_more (h e : Int) (l : List Int) (x : lsOk h e = true) (y : l.length = 6) : groupOk h e l = between 0 16 l := by unfold groupOk; rw [x, decide_eq_true y]; rfl
theorem group_no {h e : Int} {l : List Int} (x : groupOk h e l = false) : showGroup h e l = ⟨#[]⟩ := by unfold showGroup; rw [x]; rfl
theorem group_yes {h e : Int} {l : List Int} (x : groupOk h e l = true) : summed (⟨#[103]⟩ ++ showLs h e ++ vrs 0 l) = showGroup h e l := by unfold showGroup; rw [x]; rfl
theorem group_parts {h e : Int} {l : List Int} (x : groupOk h e l = true) : lsOk h e = true ∧ l.length = 6 ∧ between 0 16 l = true := by
  unfold groupOk at x
  rw [Bool.and_eq_true, Bool.and_eq_true] at x
  exact ⟨x.1.1, of_decide_eq_true x.1.2, x.2⟩

theorem group_size (h e : Int) (l : List Int) (x : l.length = 6) : ((⟨#[103]⟩ : ByteArray) ++ showLs h e ++ vrs 0 l).size ≤ 1048576 := by
  have h1 := showLs_size h e
  have h2 := vrs_size 0 l
  rw [ByteArray.size_append, ByteArray.size_append]
  have : (⟨#[103]⟩ : ByteArray).size = 1 := rfl
  omega

end Go.Proofs.YteaiciofcffkgaaDoor.Sec
