/-
  The walk of spec.l3Without: a list of writes without one of them, in a row of its own. No condition but a length of at most 2^19.
-/
import Derived.Test.YtbnmcbbpbiofgaaDkSwap
namespace Go.Proofs.Ytbnmcbbpbiofgaa.Mem
open Go.RowKit
set_option linter.unusedVariables false

/-- 'append' on an empty slice without room, at the list of a plain region's operations. -/
theorem wpList_app_empty {P : Program} (t e : TypeId) (z : Value) (k bytes : Nat) (ht : P.underlying t = some (.slice e)) (hinfo : (P.info? e).map (fun i => (i.zero, i.size, i.bytes)) = some (some z, k, bytes)) (hzs : z.cells.size = k) (hk : 0 < k) (hby : bytes ≤ 1048576)
    {ops : Array Oper} {rest : List Oper} {o : Oper} {a : Act} {Q : Exit → Act → World → Prop} (w : World) (hgd : o.guard = none) (s x : Operand)
    (ho : o.op = .call { callee := .builtin .append, args := #[s, x], argTypes := #[t, t] })
    (b : Option Addr) (hs : a.eval s = .slice b 0 0) (ad : Option Addr) (m c : Nat) (news : List Value) (hx : a.eval x = .slice ad m c) (hl : news.length = m * k) (hS : Sl w ad (m * k) (fun i => news.getD i undef)) (h1 : ∀ u ∈ news, u.oneCell' = true) (hm : m ≤ 1048576)
    (hK : ∀ v' w', RowO w' w.heap.size e k v' m news → Below w.heap.size w w' → wpList P ops Q rest (a.put o.dst v') w') :
    wpList P ops Q (o :: rest) a w := by
  refine wpList_plain hgd fun K hK' => ?_
  obtain ⟨v', w', hr, h2, h3, _, _⟩ := run_app_empty (P := P) w t o.type e z k bytes ht hinfo hzs hk b ad m c news hl hS h1 hm hby
  unfold Oper.wp execOp
  simp only [ho, resolve, invoke, builtin, Sem.run_bind, Sem.run_pure, Result.andThen_ok, List.map_toArray, List.map_cons, List.map_nil, hs, hx, hr]
  exact hK' _ _ (hK v' w' h2 h3)

theorem wcell_take (l : List Wt) (n i : Nat) (h : i < n * 4) : wcell (l.take n) i = wcell l i := by
  unfold wcell
  have : i / 4 < n := by omega
  simp [List.getD_eq_getElem?_getD, this]
theorem wcell_drop (l : List Wt) (n i : Nat) : wcell (l.drop n) i = wcell l (n * 4 + i) := by
  unfold wcell
  rw [show (n * 4 + i) / 4 = n + i / 4 by omega, show (n * 4 + i) % 4 = i % 4 by omega]
  simp [List.getD_eq_getElem?_getD, List.getElem?_drop]

theorem wts_take {w : World} {a : Option Addr} {l : List Wt} (h : Wts w a l) (n : Nat) (hn : n ≤ l.length) : Sl w a (n * 4) (fun i => (wCells (l.take n)).getD i undef) := fun i hi => by
  obtain ⟨b, off, e, hc⟩ := h i (by omega)
  refine ⟨b, off, e, ?_⟩
  show _ = some ((wCells (l.take n)).getD i undef)
  rw [wCells_at _ _ (by rw [List.length_take]; omega), wcell_take l n i hi]
  exact hc
theorem wts_drop {w : World} {b off : Nat} {l : List Wt} (h : Wts w (some ⟨b, off, none⟩) l) (n : Nat) (hn : n ≤ l.length) : Sl w (some ⟨b, off + n * 4, none⟩) ((l.length - n) * 4) (fun i => (wCells (l.drop n)).getD i undef) := fun i hi => by
  obtain ⟨b', off', e, hc⟩ := h (n * 4 + i) (by omega)
  cases e
  refine ⟨b, off + n * 4, rfl, ?_⟩
  show _ = some ((wCells (l.drop n)).getD i undef)
  rw [wCells_at _ _ (by rw [List.length_drop]; omega), wcell_drop l n i, Nat.add_assoc]
  exact hc

theorem wCells_append (l m : List Wt) : wCells (l ++ m) = wCells l ++ wCells m := by unfold wCells; rw [List.flatMap_append]

set_option maxRecDepth 100000 in
set_option maxHeartbeats 2000000 in
theorem l3Without (w : World) (b off cap : Nat) (l : List Wt) (at_ : Nat) (S : Wts w (some ⟨b, off, none⟩) l) (ha : at_ < l.length) (hl : l.length ≤ 524288) (hc : l.length ≤ cap) (hcm : cap ≤ maxLen) :
    Calls Try.prog 44 #[.slice (some ⟨b, off, none⟩) l.length cap, .int .i64 (at_ : Int)] w fun e w' => ∃ v', e = .returned v' ∧ RowO w' w.heap.size 36 4 v' (l.eraseIdx at_).length (wCells (l.eraseIdx at_)) ∧ Below w.heap.size w w' := by
  have HS := hid S
  have hcm' : cap ≤ 9223372036854775807 := hcm
  have h1 : (at_ : Int) ≤ (cap : Int) := by omega
  have h2 : (at_ : Int) + 1 ≤ (l.length : Int) := by omega
  have h3 : (0 : Int) ≤ (at_ : Int) := by omega
  have HS1 : Hid (∀ o, Sl (w.alloc o) (some ⟨b, off, none⟩) (at_ * 4) (fun i => (wCells (l.take at_)).getD i undef)) := fun o => (wts_take S at_ (by omega)).below ((Below.refl _ _).alloc (Nat.le_refl _) o)
  have HL1 := hid (show (wCells (l.take at_)).length = at_ * 4 by rw [wCells_length, List.length_take]; congr 1; omega)
  clear S
  have HL2 := hid (show (wCells (l.drop (at_ + 1))).length = (l.length - (at_ + 1)) * 4 by rw [wCells_length, List.length_drop])
  have HS2 := hid (show ∀ wx, Below w.heap.size w wx → Sl wx (some ⟨b, off + (at_ + 1) * 4, none⟩) ((l.length - (at_ + 1)) * 4) (fun i => (wCells (l.drop (at_ + 1))).getD i undef) from fun wx hb => (wts_drop HS.out (at_ + 1) (by omega)).below hb)
  have HZ := hid (show ∀ (wx : World) (v : Value) (B : Nat), RowO wx B 36 4 v (at_ + (l.length - (at_ + 1))) (wCells (l.take at_) ++ wCells (l.drop (at_ + 1))) → RowO wx B 36 4 v (l.eraseIdx at_).length (wCells (l.eraseIdx at_)) from fun wx v B h => by
    have e : (l.eraseIdx at_).length = at_ + (l.length - (at_ + 1)) := by rw [List.length_eraseIdx]; rw [if_pos ha]; omega
    rw [e, List.eraseIdx_eq_take_drop_succ, wCells_append]
    exact h)
  have HZ0 := hid (show l.length ≤ at_ + 1 → ∀ (wx : World) (v : Value) (B : Nat), RowO wx B 36 4 v (at_ + 0) (wCells (l.take at_) ++ []) → RowO wx B 36 4 v (l.eraseIdx at_).length (wCells (l.eraseIdx at_)) from fun hh wx v B h => by
    have e : (l.eraseIdx at_).length = at_ + 0 := by rw [List.length_eraseIdx, if_pos ha]; omega
    rw [e, List.eraseIdx_eq_take_drop_succ, wCells_append, List.drop_eq_nil_of_le hh]
    exact h)
  by_cases hq : cap = at_ + 1
  · subst hq
    go_enter Try.func44, Try.ntmps44
    go_wp2_with (first
      | (at_builtin; refine wpList_app_empty 26 36 Wt.none.val 4 40 Try.underlying26 infoW rfl (by decide) (by decide) _ rfl (.tmp 6) (.tmp 9) rfl _ rfl _ at_ _ (wCells (l.take at_)) rfl HL1.out (HS1.out _) (wCells_one _) (by omega) ?_; intro v1 w1 r1 b1; obtain ⟨p1, d1, e1, _⟩ := r1.wr; subst e1; have HR1 := hid (r1.mono (B' := w.heap.size) (Nat.le_of_lt (lt_alloc _ _))); have HB1 := hid (below_a1 b1); clear r1 b1)
      | (at_builtin; refine wpList_app 26 36 Wt.none.val 4 40 Try.underlying26 infoW rfl (by decide) (by decide) _ rfl (.tmp 11) (.tmp 15) rfl w.heap.size _ at_ (wCells (l.take at_)) rfl HR1.out ⟨b, off, none⟩ 0 _ [] rfl rfl (fun i hi => by omega) (fun u hu => by cases hu) (by omega) HB1.out.size ?_; intro v2 w2 r2 kk hi; obtain ⟨p2, d2, e2, _⟩ := r2.wr; subst e2; have HR2 := hid (HZ0.out hc _ _ _ r2); have HB2 := hid (HB1.out.trans (kk.below HB1.out.size (fun x hx e => by have := (HR1.out.lt e).1; omega))); clear r2 kk hi))
    go_ret
    exact ⟨_, rfl, HR2.out, HB2.out⟩
  · go_enter Try.func44, Try.ntmps44
    go_wp2_with (first
      | (at_builtin; refine wpList_app_empty 26 36 Wt.none.val 4 40 Try.underlying26 infoW rfl (by decide) (by decide) _ rfl (.tmp 6) (.tmp 9) rfl _ rfl _ at_ _ (wCells (l.take at_)) rfl HL1.out (HS1.out _) (wCells_one _) (by omega) ?_; intro v1 w1 r1 b1; obtain ⟨p1, d1, e1, _⟩ := r1.wr; subst e1; have HR1 := hid (r1.mono (B' := w.heap.size) (Nat.le_of_lt (lt_alloc _ _))); have HB1 := hid (below_a1 b1); clear r1 b1)
      | (at_builtin; refine wpList_app 26 36 Wt.none.val 4 40 Try.underlying26 infoW rfl (by decide) (by decide) _ rfl (.tmp 11) (.tmp 15) rfl w.heap.size _ at_ (wCells (l.take at_)) rfl HR1.out ⟨b, off + (at_ + 1) * 4, none⟩ (l.length - (at_ + 1)) _ (wCells (l.drop (at_ + 1))) rfl HL2.out (HS2.out _ HB1.out) (wCells_one _) (by omega) HB1.out.size ?_; intro v2 w2 r2 kk hi; obtain ⟨p2, d2, e2, _⟩ := r2.wr; subst e2; have HR2 := hid (HZ.out _ _ _ r2); have HB2 := hid (HB1.out.trans (kk.below HB1.out.size (fun x hx e => by have := (HR1.out.lt e).1; omega))); clear r2 kk hi))
    go_ret
    exact ⟨_, rfl, HR2.out, HB2.out⟩

end Go.Proofs.Ytbnmcbbpbiofgaa.Mem
