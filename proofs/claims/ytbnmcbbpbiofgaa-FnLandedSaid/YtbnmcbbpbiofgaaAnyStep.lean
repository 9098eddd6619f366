/-
  A draw as one step of a region that draws its order. No condition.
-/
import Derived.Test.YtbnmcbbpbiofgaaAnyParts
namespace Go.Proofs.Ytbnmcbbpbiofgaa.Mem
open Go.RowKit
set_option linter.unusedVariables false

theorem enters_below (a : Act) (o : Oper) (w : World) (xs : Array Operand) (ts : Array TypeId) (ho : o.op = .call { callee := .value (.func 28), args := xs, argTypes := ts }) (u v : Value) (hv : xs.map a.eval = #[u, v]) :
    (execOp a.eval o).run Try.prog w = .ok (.enter 28 #[u, v]) w := by
  unfold execOp
  simp [ho, hv, go_sem, resolve, invoke]

theorem step_below {ops : Array Oper} {o : Oper} {a : Act} {w : World} {K : Act → World → Prop} {Q : Exit → Act → World → Prop} {E : Prop} (hgd : o.guard = none) (x y : Operand) (ts : Array TypeId)
    (ho : o.op = .call { callee := .value (.func 28), args := #[x, y], argTypes := ts }) (cb : Nat) (al : Option Addr) (len cap : Nat) (zs : List Int) (n : Int) (hu : a.eval x = .pointer (some ⟨cb, 0, none⟩)) (hv : a.eval y = .int .i64 n) (h0 : 0 < n) (h1 : n ≤ 1000000000) (Ev : EnvX w cb al len cap zs)
    (hK : ∀ x : Nat, (x : Int) < n → ∀ w', EnvX w' cb al len cap zs → w.grownBy w' (some cb) → K (a.put o.dst (.int .i64 (x : Int))) w') :
    if Region.wanted o (yielded ops a.tmps) = true then Oper.wp Try.prog o a w K Q else E := by
  have hw : Region.wanted o (yielded ops a.tmps) = true := by simp [Region.wanted, hgd]
  have hm : (#[x, y] : Array Operand).map a.eval = #[.pointer (some ⟨cb, 0, none⟩), .int .i64 n] := by simp only [List.map_toArray, List.map_cons, List.map_nil, hu, hv]
  rw [if_pos hw]
  unfold Oper.wp
  rw [enters_below a o w #[x, y] ts ho _ _ hm, Oper.upon_enter]
  refine (belowX w cb al len cap zs n h0 h1 Ev).mono ?_
  rintro e w' ⟨x, hx, rfl, E', g'⟩
  exact hK x hx w' E' g'

end Go.Proofs.Ytbnmcbbpbiofgaa.Mem
