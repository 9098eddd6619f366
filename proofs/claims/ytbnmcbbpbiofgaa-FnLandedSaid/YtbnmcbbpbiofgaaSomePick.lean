/-
  The walk of spec.l1PickInt at any cursor: one of the list. No condition but a list that is small.
-/
import Derived.Test.YtbnmcbbpbiofgaaSomeParts
namespace Go.Proofs.Ytbnmcbbpbiofgaa.Mem
open Go.RowKit
set_option linter.unusedVariables false

set_option maxRecDepth 100000 in
set_option maxHeartbeats 1000000 in
theorem pickX (w : World) (cb : Nat) (a : Option Addr) (len cap : Nat) (zs : List Int) (lb c : Nat) (l : List Int) (h0 : 0 < l.length) (h1 : l.length ≤ 1000) (E : EnvX w cb a len cap zs) (hne : lb ≠ cb)
    (hs : ∀ j, j < l.length → w.cell? ⟨lb, j, none⟩ = some (.int .i64 (l.getD j 0))) :
    Calls Try.prog 14 #[.pointer (some ⟨cb, 0, none⟩), .slice (some ⟨lb, 0, none⟩) l.length c] w fun e w' => ∃ j : Nat, j < l.length ∧ e = .returned (.int .i64 (l.getD j 0)) ∧ EnvX w' cb a len cap zs ∧ w.grownBy w' (some cb) := by
  have h1' : (l.length : Int) ≤ 9223372036854775807 := by omega
  have HB := hid (belowX w cb a len cap zs (l.length : Int) (by omega) (by omega) E)
  clear E
  go_enter Try.func14, Try.ntmps14
  go_wp2_with fail
  refine Calls.mono HB.out ?_
  rintro e w1 ⟨x, hx, rfl, hE, hg⟩
  have HE := hid hE
  have hk : w1.cell? ⟨lb, x, none⟩ = some (.int .i64 (l.getD x 0)) := hg.cell (hs x (by omega)) (by simpa using hne)
  generalize hy : l.getD x 0 = y at hk
  have HY := hid hy
  clear hE hs hy
  go_wp2
  go_ret
  exact ⟨x, by omega, by rw [HY.out]; rfl, HE.out, hg⟩

end Go.Proofs.Ytbnmcbbpbiofgaa.Mem
