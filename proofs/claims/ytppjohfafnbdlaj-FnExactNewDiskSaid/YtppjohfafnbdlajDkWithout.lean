/-
  The walk of spec.l3Without: a list of writes without one of them, in a row of its own. No condition but a length of at most 2^19.
-/
import Derived.Test.YtppjohfafnbdlajDkSwap
namespace Go.Proofs.Ytppjohfafnbdlaj.Mem
open Go.RowKit
set_option linter.unusedVariables false

/-- 'append' on an empty slice without room, at the list of a plain region's operations. -/
theorem wpList_app_empty {P : Program} (t e : TypeId) (z : Value) (k bytes : Nat) (ht : P.underlying t = some (.slice e)) (hinfo : (P.info? e).map (fun i => (i.zero, i.size, i.bytes)) = some (some z, k, bytes)) (hzs : z.cells.size = k) (hk : 0 < k) (hby : bytes ≤ 1048576)
    {ops : Array Oper} {rest : List Oper} {o : Oper} {a : Act} {Q : Exit → Act → World → Prop} (w : World) (hgd : o.guard = none) (s x : Operand)
    (ho : o.op = .call { callee := .builtin .append, args := #[s, x], argTypes := #[t, t] })
    (b : Option Addr) (hs : a.eval s = .slice b 0 0) (ad : Option Addr) (m c : Nat) (news : List Value) (hx : a.eval x = .slice ad m c) (hl : news.length = m * k) (hS : Sl w ad (m * k) (fun i => news.getD i undef)) (h1 : ∀ u ∈ news, u.oneCell' = true) (hm : m ≤ 1048576)
    (hK : ∀ v' w', RowO w' w.heap.size e k v' m news → Below w.heap.size w w' → wpList P ops Q rest (a.put o.dst v') w') :
    wpList P ops Q (o :: rest) a w := by
  refine wpList_plain hgd fun K hK' => ?_
  obtain ⟨v', w', hr, h2, h3, _, _⟩ := run_app_empty (P := P) w t o.type e z k bytes ht hinfo hzs hk b ad m c news hl hS h1 hm hby
  unfold Oper.wp execOp
  simp only [ho, resolve, invoke, builtin, Sem.run_bind, Sem.run_pure, Result.andThen_ok, List.map_toArray, List.map_cons, List.map_nil, hs, hx, hr]
  exact hK' _ _ (hK v' w' h2 h3)

theorem wcell_take (l : List Wt) (n i : Nat) (h : i < n * 4) : wcell (l.take n) i = wcell l i := by
  unfold wcell
  have : i / 4 < n := by omega
  simp [List.getD_eq_getElem?_getD, this]
theorem wcell_drop (l : List Wt) (n i : Nat) : wcell (l.drop n) i = wcell l (n * 4 + i) := by
  unfold wcell
  rw [show (n * 4 + i) / 4 = n + i / 4 by omega, show (n * 4 + i) % 4 = i % 4 by omega]
  simp [List.getD_eq_getElem?_getD, List.getElem?_drop]

theorem wts_take {w : World} {a : Option Addr} {l : List Wt} (h : Wts w a l) (n : Nat) (hn : n ≤ l.length) : Sl w a (n * 4) (fun i => (wCells (l.take n)).getD i undef) := fun i hi => by
  obtain ⟨b, off, e, hc⟩ := h i (by omega)
  refine ⟨b, off, e, ?_⟩
  show _ = some ((wCells (l.take n)).getD i undef)
  rw [wCells_at _ _ (by rw [List.length_take]; omega), wcell_take l n i hi]
  exact hc
theorem wts_drop {w : World} {b off : Nat} {l : List Wt} (h : Wts w (some ⟨b, off, none⟩) l) (n : Nat) (hn : n ≤ l.length) : Sl w (some ⟨b, off + n * 4, none⟩) ((l.length - n) * 4) (fun i => (wCells (l.drop n)).getD i undef) := fun i hi => by
  obtain ⟨b', off', e, hc⟩ := h (n * 4 + i) (by omega)
  cases e
  refine ⟨b, off + n * 4, rfl, ?_⟩
  show _ = some ((wCells (l.drop n)).getD i undef)
  rw [wCells_at _ _ (by rw [List.length_drop]; omega), wcell_drop l n i, Nat.add_assoc]
  exact hc

theorem wCells_append (l m : List Wt) : wCells (l ++ m) = wCells l ++ wCells m := by unfold wCells; rw [List.flatMap_append]

end Go.Proofs.Ytppjohfafnbdlaj.Mem
