/-
  The walks of impl.ShowHost and of laws.FnExactShowHost: the law answers true, and nothing that was there is changed. Condition: the table of sixteen sums holds what the program's text lays.
-/
import Derived.Test.YteaiciofcffkgaaDoorSecHost
namespace Go.Proofs.YteaiciofcffkgaaDoor.Sec
open Go.RowKit Go.Proofs.YteaiciofcffkgaaDoor.Mem
set_option linter.unusedVariables false

/-- What impl's sums want of a world. -/
structure Sums (w : World) : Prop where
  tab : Crc.Tab w
  lt : 1 < w.heap.size

theorem Sums.below {w w' : World} (h : Sums w) (b : Below w.heap.size w w') : Sums w' :=
  ⟨fun k hk => by rw [b.cell (p := ⟨1, k, none⟩) h.lt]; exact h.tab k hk, Nat.lt_of_lt_of_le h.lt b.size⟩

theorem withSum' (s : ByteArray) (w : World) (hs : s.size ≤ 1048576) (T : Sums w) :
    Calls Tryd.prog 30 #[.string s] w fun e w' => e = .returned (.string (summed s)) ∧ Below w.heap.size w w' := withSum s w hs T.tab T.lt

theorem hostOk_yes {b h e : Int} (x : hostOk b h e = true) : (0 ≤ b ∧ b ≤ 1000000) ∧ lsOk h e = true := by
  unfold hostOk at x
  rw [Bool.and_eq_true] at x
  exact ⟨of_decide_eq_true x.1, x.2⟩
theorem host_no {b h e : Int} (x : hostOk b h e = false) : showHost b h e = ⟨#[]⟩ := by
  unfold showHost; rw [x]; rfl

end Go.Proofs.YteaiciofcffkgaaDoor.Sec
