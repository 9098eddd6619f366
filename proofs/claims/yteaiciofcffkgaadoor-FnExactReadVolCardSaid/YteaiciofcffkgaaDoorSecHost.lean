/-
  The walks of spec.ShowHost and impl.ShowHost: both give a host's text. Condition for impl's: the table of sixteen sums holds what the program's text lays.
-/
import Derived.Test.YteaiciofcffkgaaDoorSecLease2
namespace Go.Proofs.YteaiciofcffkgaaDoor.Sec
open Go.RowKit Go.Proofs.YteaiciofcffkgaaDoor.Mem
set_option linter.unusedVariables false

/-- A host's value. -/
def hsV (b h e : Int) : Value := .agg #[.int .i64 b, .int .i64 h, .int .i64 e]

theorem host_no1 (b h e : Int) (x : ¬ (0 ≤ b ∧ b ≤ 1000000)) : showHost b h e = ⟨#[]⟩ := by
  unfold showHost hostOk; rw [decide_eq_false x]; rfl
theorem host_no2 (b h e : Int) (x : lsOk h e = false) : showHost b h e = ⟨#[]⟩ := by
  unfold showHost hostOk; rw [x, Bool.and_false]; rfl
theorem host_yes (b h e : Int) (x : 0 ≤ b ∧ b ≤ 1000000) (y : lsOk h e = true) : summed (⟨#[104]⟩ ++ vr b ++ showLs h e) = showHost b h e := by
  unfold showHost hostOk; rw [decide_eq_true x, y]; rfl

theorem host_size (b h e : Int) : ((⟨#[104]⟩ : ByteArray) ++ vr b ++ showLs h e).size ≤ 1048576 := by
  have h1 := vr_size b
  have h2 := showLs_size h e
  rw [ByteArray.size_append, ByteArray.size_append]
  have : (⟨#[104]⟩ : ByteArray).size = 1 := rfl
  omega

end Go.Proofs.YteaiciofcffkgaaDoor.Sec
