/-
  A row that a call owns, and what append makes of it. No condition.
-/
import Derived.Test.YtogebppolkfldaaGreatDoorMem
import Derived.Deep.AppendSrc
import Derived.Maps.AppendAt
namespace Go.Proofs.YtogebppolkfldaaGreatDoor.Mem
open Go.RowKit
set_option linter.unusedVariables false

/-- v is a slice of n elements, k cells each, that hold xs: empty and without room, or a block of the call's own from B on. -/
def RowO (w : World) (B : Nat) (e : TypeId) (k : Nat) (v : Value) (n : Nat) (xs : List Value) : Prop :=
  (∃ b, v = .slice b 0 0 ∧ n = 0 ∧ xs = []) ∨ (w.ownsRow B e k v n xs ∧ ∃ a c, v = .slice (some a) n (c + 1))

/-- The block of a slice that has room. -/
def rb : Value → Option Nat
  | .slice (some a) _ (_ + 1) => some a.block
  | _ => none

theorem rb_bare (b : Option Addr) (n : Nat) : rb (.slice b n 0) = none := by cases b <;> rfl

theorem rowO_of {w : World} {B : Nat} {e : TypeId} {k : Nat} {v : Value} {n : Nat} {xs : List Value} (h : w.ownsRow B e k v n xs) : RowO w B e k v n xs := by
  rcases h.2 with ⟨rfl, rfl⟩ | ⟨g, cap, cur, rfl, r⟩
  · exact Or.inl ⟨none, rfl, rfl, List.eq_nil_of_length_eq_zero (by simpa using h.1)⟩
  · cases cap with
    | zero =>
      have hn : n = 0 := by have := r.2.2.1; omega
      subst hn
      exact Or.inl ⟨_, rfl, rfl, List.eq_nil_of_length_eq_zero (by simpa using h.1)⟩
    | succ c => exact Or.inr ⟨h, _, c, rfl⟩

theorem rb_own {v : Value} {b : Nat} (h : rb v = some b) : v.ownBlock = some b := by
  unfold rb at h
  split at h
  · exact h
  · cases h

theorem RowO.len {w : World} {B : Nat} {e : TypeId} {k : Nat} {v : Value} {n : Nat} {xs : List Value} (h : RowO w B e k v n xs) : xs.length = n * k := by
  rcases h with ⟨_, _, rfl, rfl⟩ | ⟨h, _⟩
  · simp
  · exact h.1

theorem RowO.wr {w : World} {B : Nat} {e : TypeId} {k : Nat} {v : Value} {n : Nat} {xs : List Value} (h : RowO w B e k v n xs) :
    ∃ a cap, v = .slice a n cap ∧ Wr w B a (n * k) (fun i => xs.getD i undef) := by
  rcases h with ⟨b, rfl, rfl, rfl⟩ | ⟨h, hne⟩
  · exact ⟨b, 0, rfl, fun i hi => by omega⟩
  · obtain ⟨hl, h⟩ := h
    rcases h with ⟨rfl, _⟩ | ⟨g, cap, cur, rfl, hB, hg, hn, hm, hs, ht⟩
    · obtain ⟨_, _, e⟩ := hne; cases e
    · refine ⟨_, cap, rfl, fun i hi => ⟨g, 0, rfl, hB, ?_, frozen_of_row w g _ _ _ hg⟩⟩
      rw [cell_of_row w g (0 + i) _ _ (0, 0) hg, Nat.zero_add]
      have e1 : xs[i]? = cur.toList[i]? := by rw [← ht, List.getElem?_take, if_pos hi]
      have hi' : i < xs.length := by omega
      rw [List.getElem?_eq_getElem hi'] at e1
      show cur[i]? = some (xs.getD i undef)
      rw [List.getD_eq_getElem?_getD, List.getElem?_eq_getElem hi', ← Array.getElem?_toList, ← e1]
      rfl

theorem RowO.kept {S : Nat → Prop} {w w' : World} {B : Nat} {e : TypeId} {k : Nat} {v : Value} {n : Nat} {xs : List Value} (h : RowO w B e k v n xs) (hk : Kept S w w') (hn : ∀ b, rb v = some b → ¬ S b) : RowO w' B e k v n xs := by
  rcases h with h | ⟨h, hne⟩
  · exact Or.inl h
  · refine Or.inr ⟨⟨h.1, ?_⟩, hne⟩
    rcases h.2 with h2 | ⟨g, cap, cur, rfl, hB, hg, r⟩
    · exact Or.inl h2
    · refine Or.inr ⟨g, cap, cur, rfl, hB, ?_, r⟩
      have hlt : g < w.heap.size := by
        rcases Nat.lt_or_ge g w.heap.size with x | x
        · exact x
        · rw [Array.getElem?_eq_none x] at hg; cases hg
      obtain ⟨_, c, e⟩ := hne
      cases e
      rw [hk.block g hlt (hn g rfl)]
      exact hg

theorem RowO.below {w w' : World} {B : Nat} {e : TypeId} {k : Nat} {v : Value} {n : Nat} {xs : List Value} (h : RowO w B e k v n xs) (hb : Below w.heap.size w w') : RowO w' B e k v n xs :=
  h.kept (Kept.of_below (S := fun _ => False) hb) (fun _ _ x => x)

theorem RowO.mono {w : World} {B B' : Nat} {e : TypeId} {k : Nat} {v : Value} {n : Nat} {xs : List Value} (h : RowO w B e k v n xs) (hb : B' ≤ B) : RowO w B' e k v n xs := by
  rcases h with h | ⟨⟨h1, h2⟩, hne⟩
  · exact Or.inl h
  · refine Or.inr ⟨⟨h1, ?_⟩, hne⟩
    rcases h2 with h2 | ⟨g, cap, cur, rfl, hB, r⟩
    · exact Or.inl h2
    · exact Or.inr ⟨g, cap, cur, rfl, Nat.le_trans hb hB, r⟩

/-- The block of an owned row that isn't empty. -/
theorem RowO.foot {w : World} {B : Nat} {e : TypeId} {k : Nat} {v : Value} {n : Nat} {xs : List Value} (h : RowO w B e k v n xs) {a : Option Addr} {cap : Nat} (hv : v = .slice a n cap) {b : Nat} (hb : foot a (n * k) b) : rb v = some b := by
  obtain ⟨h0, off, rfl⟩ := hb
  subst hv
  rcases h with ⟨_, e, rfl, _⟩ | ⟨_, _, c, e⟩
  · omega
  · cases e; rfl

theorem RowO.lt {w : World} {B : Nat} {e : TypeId} {k : Nat} {v : Value} {n : Nat} {xs : List Value} (h : RowO w B e k v n xs) {b : Nat} (hb : rb v = some b) : B ≤ b ∧ b < w.heap.size := by
  rcases h with ⟨_, rfl, rfl, _⟩ | ⟨h, _⟩
  · rw [rb_bare] at hb; cases hb
  · exact h.lt b (rb_own hb)

theorem src_of {P : Program} {w : World} {k : Nat} {t e : TypeId} (ht : P.underlying t = some (.slice e)) {a : Option Addr} {m c : Nat} {news : List Value} (hl : news.length = m * k) (hk : 0 < k) (hS : Sl w a (m * k) (fun i => news.getD i undef)) (h1 : ∀ u ∈ news, u.oneCell' = true) :
    Src P k t (.slice a m c) m news w := by
  cases a with
  | none =>
    have hm : m = 0 := by
      rcases Nat.eq_zero_or_pos m with h | h
      · exact h
      · obtain ⟨_, _, e, _⟩ := hS 0 (Nat.mul_pos h hk)
        cases e
    subst hm
    have : news = [] := List.eq_nil_of_length_eq_zero (by simpa using hl)
    subst this
    exact Src.ofNil w ht c
  | some ad =>
    refine Src.ofSlice w ht ad m c news hl (fun j u hj => ?_) h1
    have hjl : j < news.length := (List.getElem?_eq_some_iff.1 hj).1
    obtain ⟨b, off, e, hc⟩ := hS j (by omega)
    cases e
    rw [Addr.add_mid, hc]
    show some (news.getD j undef) = some u
    rw [List.getD_eq_getElem?_getD, hj]
    rfl

/-- 'append' on an empty slice without room: nothing, or a new block. -/
theorem run_app_empty {P : Program} (w : World) (t ty e : TypeId) (z : Value) (k bytes : Nat) (ht : P.underlying t = some (.slice e)) (hinfo : (P.info? e).map (fun i => (i.zero, i.size, i.bytes)) = some (some z, k, bytes)) (hzs : z.cells.size = k) (hk : 0 < k)
    (b a : Option Addr) (m c : Nat) (news : List Value) (hl : news.length = m * k) (hS : Sl w a (m * k) (fun i => news.getD i undef)) (h1 : ∀ u ∈ news, u.oneCell' = true) (hm : m ≤ 1048576) (hby : bytes ≤ 1048576) :
    ∃ v' w', (Builtin.append_ #[t, t] ty #[.slice b 0 0, .slice a m c]).run P w = .ok v' w' ∧ RowO w' w.heap.size e k v' m news ∧ Below w.heap.size w w' ∧ (0 < m → rb v' = some w.heap.size ∧ w.heap.size < w'.heap.size) ∧ (m = 0 → v' = .slice b 0 0) := by
  obtain ⟨i, hi, hzz⟩ := Option.map_eq_some_iff.1 hinfo
  simp only [Prod.mk.injEq] at hzz
  obtain ⟨hz, rfl, rfl⟩ := hzz
  have hs := src_of (P := P) (c := c) ht hl hk hS h1
  rcases Nat.eq_zero_or_pos m with rfl | hpos
  · have hn : news = [] := List.eq_nil_of_length_eq_zero (by simpa using hl)
    subst hn
    refine ⟨.slice b 0 0, w, ?_, Or.inl ⟨b, rfl, rfl, rfl⟩, Below.refl _ _, fun h => absurd h (by omega), fun _ => rfl⟩
    cases b with
    | none => simp [Builtin.append_, run_underlying ht, sizeOf, typeInfo, hi, hs.cells, Builtin.lenOf]
    | some ad => simp [Builtin.append_, run_underlying ht, sizeOf, typeInfo, hi, hs.cells, Builtin.lenOf, storeCells]
  · have hb2 : (0 + m) * i.bytes ≤ 140737488355328 := by
      have := Nat.mul_le_mul hm hby
      simp only [Nat.zero_add]
      omega
    have hold : (Builtin.firstCells i.size 0 (.slice b 0 0)).run P w.drew = .ok ([] : List Value).toArray w.drew := by
      cases b with
      | none => exact run_firstCells_none w.drew i.size 0 0 0
      | some ad => exact run_firstCells_some w.drew i.size 0 ad 0 0 [] (by simp) (fun j u hj => by simp at hj)
    have hr := run_append_grow_src (P := P) w t t ty e i z ht hi hz b 0 0 [] hold (.slice a m c) m news hs (by omega) (by omega) (growslice_fits (by omega) hb2)
    have hge := grownCap_ge w (0 + m) 0 e
    have hcm : grownCap w (0 + m) 0 e ≤ maxLen := grownCap_le_maxLen w (0 + m) 0 e (by unfold maxLen; omega)
    simp only [Nat.zero_add, List.nil_append] at hr hge hcm
    obtain ⟨c', hc'⟩ : ∃ c', grownCap w m 0 e = c' + 1 := ⟨grownCap w m 0 e - 1, by omega⟩
    rw [hc'] at hr hge hcm
    refine ⟨_, _, hr, Or.inr ⟨⟨hl, Or.inr ⟨w.heap.size, _, _, rfl, Nat.le_refl _, heap_alloc_new w.drew _, hge, hcm, ?_, ?_⟩⟩, _, c', rfl⟩, ⟨rfl, rfl, rfl, by simp, fun k hk => heap_alloc_old w.drew _ hk⟩, fun _ => ⟨rfl, by simp⟩, fun h => absurd h (by omega)⟩
    · simp only [Array.size_append, List.size_toArray, size_zeroCells, hzs, hl, ← Nat.add_mul]
      congr 1
      omega
    · simp only [Array.toList_append]
      rw [← hl]
      exact List.take_left

/-- 'append' on an owned row. -/
theorem run_app {P : Program} (w : World) (B : Nat) (t ty e : TypeId) (z : Value) (k bytes : Nat) (ht : P.underlying t = some (.slice e)) (hinfo : (P.info? e).map (fun i => (i.zero, i.size, i.bytes)) = some (some z, k, bytes)) (hzs : z.cells.size = k) (hk : 0 < k)
    (v : Value) (n : Nat) (xs : List Value) (h : RowO w B e k v n xs) (ad : Addr) (m c : Nat) (news : List Value) (hl : news.length = m * k) (hS : Sl w (some ad) (m * k) (fun i => news.getD i undef)) (h1 : ∀ u ∈ news, u.oneCell' = true) (hm : n + m ≤ 1048576) (hby : bytes ≤ 1048576) (hB : B ≤ w.heap.size) :
    ∃ v' w', (Builtin.append_ #[t, t] ty #[v, .slice (some ad) m c]).run P w = .ok v' w' ∧ RowO w' B e k v' (n + m) (xs ++ news) ∧ Kept (fun b => rb v = some b) w w' ∧ (rb v' = none ∨ rb v' = rb v ∨ (rb v' = some w.heap.size ∧ w.heap.size < w'.heap.size)) := by
  rcases h with ⟨b, rfl, rfl, rfl⟩ | ⟨h, hne⟩
  · obtain ⟨v', w', hr, h2, h3, h4, h5⟩ := run_app_empty (P := P) w t ty e z k bytes ht hinfo hzs hk b (some ad) m c news hl hS h1 (by omega) hby
    refine ⟨v', w', hr, ?_, Kept.of_below h3, ?_⟩
    · simp only [Nat.zero_add, List.nil_append]
      exact h2.mono hB
    · rcases Nat.eq_zero_or_pos m with rfl | hpos
      · rw [h5 rfl]; exact Or.inl (rb_bare b 0)
      · exact Or.inr (Or.inr (h4 hpos))
  · obtain ⟨i, hi, hzz⟩ := Option.map_eq_some_iff.1 hinfo
    simp only [Prod.mk.injEq] at hzz
    obtain ⟨hz, hsz, hb⟩ := hzz
    have hnews : ∀ j u, news[j]? = some u → w.cell? (ad.add j) = some u := fun j u hj => by
      have hjl : j < news.length := (List.getElem?_eq_some_iff.1 hj).1
      obtain ⟨b, off, e, hc⟩ := hS j (by omega)
      cases e
      rw [Addr.add_mid, hc]
      show some (news.getD j undef) = some u
      rw [List.getD_eq_getElem?_getD, hj]
      rfl
    have hb2 : (n + m) * bytes ≤ 140737488355328 := by
      have := Nat.mul_le_mul hm hby
      omega
    obtain ⟨v', w', hr, h2, h3, h4, h5⟩ := run_append_own_at (P := P) w B t ty e i z k bytes ht hi hz hsz hb hzs hk v n xs h ad m c news hl hnews h1 (by unfold maxLen; omega) hb2 hB
    obtain ⟨a0, c0, hv⟩ := hne
    have hrb : rb v = v.ownBlock := by rw [hv]; rfl
    refine ⟨v', w', hr, rowO_of h2, ⟨h3.os, h3.tape, h3.output, h3.size, fun k hk hn => h3.block k hk (fun e => hn (by rw [hrb]; exact e.symm))⟩, ?_⟩
    cases hq : rb v' with
    | none => exact Or.inl rfl
    | some b =>
      have hb' := rb_own hq
      rcases h5 with h5 | h5
      · exact Or.inr (Or.inl (by rw [hrb, ← h5, hb']))
      · rw [hb'] at h5
        cases h5
        exact Or.inr (Or.inr ⟨rfl, (h2.lt _ hb').2⟩)

/-- 'append' on an empty slice without room, as one step of a region that draws its order. -/
theorem step_app_empty {P : Program} (t e : TypeId) (z : Value) (k bytes : Nat) (ht : P.underlying t = some (.slice e)) (hinfo : (P.info? e).map (fun i => (i.zero, i.size, i.bytes)) = some (some z, k, bytes)) (hzs : z.cells.size = k) (hk : 0 < k) (hby : bytes ≤ 1048576)
    {ops : Array Oper} {o : Oper} {a : Act} {w : World} {K : Act → World → Prop} {Q : Exit → Act → World → Prop} {E : Prop} (hgd : o.guard = none) (s x : Operand)
    (ho : o.op = .call { callee := .builtin .append, args := #[s, x], argTypes := #[t, t] })
    (b : Option Addr) (hs : a.eval s = .slice b 0 0) (ad : Option Addr) (m c : Nat) (news : List Value) (hx : a.eval x = .slice ad m c) (hl : news.length = m * k) (hS : Sl w ad (m * k) (fun i => news.getD i undef)) (h1 : ∀ u ∈ news, u.oneCell' = true) (hm : m ≤ 1048576)
    (hK : ∀ v' w', RowO w' w.heap.size e k v' m news → Below w.heap.size w w' → (m = 0 → rb v' = none) → (0 < m → rb v' = some w.heap.size ∧ w.heap.size < w'.heap.size) → K (a.put o.dst v') w') :
    if Region.wanted o (yielded ops a.tmps) = true then Oper.wp P o a w K Q else E := by
  have hw : Region.wanted o (yielded ops a.tmps) = true := by simp [Region.wanted, hgd]
  rw [if_pos hw]
  obtain ⟨v', w', hr, h2, h3, h4, h5⟩ := run_app_empty (P := P) w t o.type e z k bytes ht hinfo hzs hk b ad m c news hl hS h1 hm hby
  unfold Oper.wp execOp
  simp only [ho, resolve, invoke, builtin, Sem.run_bind, Sem.run_pure, Result.andThen_ok, List.map_toArray, List.map_cons, List.map_nil, hs, hx, hr]
  exact hK v' w' h2 h3 (fun h => by rw [h5 h]; exact rb_bare b 0) h4

/-- 'append' on an owned row, at the list of a plain region's operations. -/
theorem wpList_app {P : Program} (t e : TypeId) (z : Value) (k bytes : Nat) (ht : P.underlying t = some (.slice e)) (hinfo : (P.info? e).map (fun i => (i.zero, i.size, i.bytes)) = some (some z, k, bytes)) (hzs : z.cells.size = k) (hk : 0 < k) (hby : bytes ≤ 1048576)
    {ops : Array Oper} {rest : List Oper} {o : Oper} {a : Act} {Q : Exit → Act → World → Prop} (w : World) (hgd : o.guard = none) (s x : Operand)
    (ho : o.op = .call { callee := .builtin .append, args := #[s, x], argTypes := #[t, t] })
    (B : Nat) (v : Value) (n : Nat) (xs : List Value) (hs : a.eval s = v) (h : RowO w B e k v n xs) (ad : Addr) (m c : Nat) (news : List Value) (hx : a.eval x = .slice (some ad) m c) (hl : news.length = m * k) (hS : Sl w (some ad) (m * k) (fun i => news.getD i undef)) (h1 : ∀ u ∈ news, u.oneCell' = true)
    (hm : n + m ≤ 1048576) (hB : B ≤ w.heap.size)
    (hK : ∀ v' w', RowO w' B e k v' (n + m) (xs ++ news) → Kept (fun b => rb v = some b) w w' → (rb v' = none ∨ rb v' = rb v ∨ (rb v' = some w.heap.size ∧ w.heap.size < w'.heap.size)) → wpList P ops Q rest (a.put o.dst v') w') :
    wpList P ops Q (o :: rest) a w := by
  refine wpList_plain hgd fun K hK' => ?_
  obtain ⟨v', w', hr, h2, h3, h4⟩ := run_app (P := P) w B t o.type e z k bytes ht hinfo hzs hk v n xs h ad m c news hl hS h1 hm hby hB
  unfold Oper.wp execOp
  simp only [ho, resolve, invoke, builtin, Sem.run_bind, Sem.run_pure, Result.andThen_ok, List.map_toArray, List.map_cons, List.map_nil, hs, hx, hr]
  exact hK' _ _ (hK v' w' h2 h3 h4)

end Go.Proofs.YtogebppolkfldaaGreatDoor.Mem
