/-
  Plain: what is collected of queues, sorted, is told in the order of the numbers. No condition.
-/
import Derived.Test.YtppjohfafnbdlakImplTake
namespace Go.Proofs.Ytppjohfafnbdlak.Mem
open Go.RowKit Go.Maps
set_option linter.unusedVariables false

/-- Each number in a queue is that of a write of that host to that sector; no number stands twice. -/
structure QOk (l : List Wt) (Q : Int → Int → List Nat) : Prop where
  mem : ∀ h s, OkK h s → ∀ i, i ∈ Q h s → i < l.length ∧ (l.getD i Wt.none).host = h ∧ (l.getD i Wt.none).sector = s
  nodup : ∀ h s, OkK h s → (Q h s).Nodup

theorem nodup_filter {α : Type} {l : List α} {p : α → Bool} (h : l.Nodup) : (l.filter p).Nodup := List.Pairwise.filter _ h

theorem qOk_at (l : List Wt) : QOk l (qAt l l.length) := ⟨fun h s _ i hi => qAt_mem hi, fun h s _ => nodup_filter List.nodup_range⟩

theorem QOk.erase {l : List Wt} {Q : Int → Int → List Nat} (q : QOk l Q) (h s : Int) (zs : List Nat) (hz : ∀ x ∈ zs, x ∈ Q h s) (hn : OkK h s → zs.Nodup) : QOk l (upd Q h s zs) := by
  refine ⟨fun h' s' hk i hi => ?_, fun h' s' hk => ?_⟩
  · by_cases e : h' = h ∧ s' = s
    · obtain ⟨rfl, rfl⟩ := e
      rw [upd_same] at hi
      exact q.mem h' s' hk i (hz i hi)
    · rw [upd_other _ _ e] at hi
      exact q.mem h' s' hk i hi
  · by_cases e : h' = h ∧ s' = s
    · obtain ⟨rfl, rfl⟩ := e
      rw [upd_same]
      exact hn hk
    · rw [upd_other _ _ e]
      exact q.nodup h' s' hk

/-- What was collected while 'left' tells the keys still to come. -/
structure Col (Q : Int → Int → List Nat) (left : Lit → Bool) (L : List Nat) : Prop where
  nodup : L.Nodup
  mem : ∀ x, x ∈ L ↔ ∃ h s, OkK h s ∧ left (klq h s) = false ∧ x ∈ Q h s

theorem Col.start {Q : Int → Int → List Nat} {D : DataW Value} (h : ∀ h s, OkK h s → (Maps.has D (klq h s) = true ↔ Q h s ≠ [])) : Col Q (Maps.has D) [] :=
  ⟨List.nodup_nil, fun x => ⟨fun hx => absurd hx (by simp), fun ⟨h', s', hk, hl, hx⟩ => by
    have := (h h' s' hk).2 (fun e => by rw [e] at hx; simp at hx)
    rw [this] at hl
    cases hl⟩⟩

theorem Col.step {l : List Wt} {Q : Int → Int → List Nat} {left : Lit → Bool} {L : List Nat} (c : Col Q left L) (q : QOk l Q) {h s : Int} (hk : OkK h s) (hl : left (klq h s) = true) : Col Q (fun z => left z && !z.sameKey (klq h s)) (L ++ Q h s) := by
  have kl := keyedQ.key (key_of hk)
  refine ⟨List.nodup_append.2 ⟨c.nodup, q.nodup h s hk, fun a ha b hb e => ?_⟩, fun x => ?_⟩
  · subst e
    obtain ⟨h', s', hk', hl', hx⟩ := (c.mem a).1 ha
    have m1 := q.mem h s hk a hb
    have m2 := q.mem h' s' hk' a hx
    have e1 : h' = h := m2.2.1.symm.trans m1.2.1
    have e2 : s' = s := m2.2.2.symm.trans m1.2.2
    subst e1; subst e2
    rw [hl] at hl'
    cases hl'
  · rw [List.mem_append]
    constructor
    · rintro (hx | hx)
      · obtain ⟨h', s', hk', hl', hx⟩ := (c.mem x).1 hx
        exact ⟨h', s', hk', by simp [hl'], hx⟩
      · exact ⟨h, s, hk, by simp [WideAt.sameKey_self kl], hx⟩
    · rintro ⟨h', s', hk', hl', hx⟩
      by_cases e : h' = h ∧ s' = s
      · obtain ⟨rfl, rfl⟩ := e
        exact Or.inr hx
      · refine Or.inl ((c.mem x).2 ⟨h', s', hk', ?_, hx⟩)
        have : (klq h' s').sameKey (klq h s) = false := sameKey_ne (fun e' => e (klq_inj hk' hk e'))
        simpa [this] using hl'

/-- The numbers that are still in a queue, in their order. -/
def keptQ (l : List Wt) (Q : Int → Int → List Nat) : List Nat := (List.range l.length).filter (fun i => decide (i ∈ Q (l.getD i Wt.none).host (l.getD i Wt.none).sector))
/-- .. and their writes. -/
def leftW (l : List Wt) (Q : Int → Int → List Nat) : List Wt := (keptQ l Q).map (fun i => l.getD i Wt.none)

theorem Col.perm {l : List Wt} {Q : Int → Int → List Nat} {left : Lit → Bool} {L : List Nat} (c : Col Q left L) (q : QOk l Q) (ok : ∀ j, j < l.length → OkK (l.getD j Wt.none).host (l.getD j Wt.none).sector) (hl : ∀ kl, left kl = false) : L.Perm (keptQ l Q) := by
  refine (List.perm_ext_iff_of_nodup c.nodup (nodup_filter List.nodup_range)).2 (fun x => ?_)
  rw [c.mem, List.mem_filter]
  constructor
  · rintro ⟨h, s, hk, _, hx⟩
    have m := q.mem h s hk x hx
    exact ⟨by simpa using m.1, decide_eq_true (by rw [m.2.1, m.2.2]; exact hx)⟩
  · rintro ⟨h1, h2⟩
    exact ⟨_, _, ok x (by simpa using h1), hl _, of_decide_eq_true h2⟩

theorem Col.lt {l : List Wt} {Q : Int → Int → List Nat} {left : Lit → Bool} {L : List Nat} (c : Col Q left L) (q : QOk l Q) : ∀ x ∈ L, x < l.length := fun x hx => by
  obtain ⟨h, s, hk, _, hx⟩ := (c.mem x).1 hx
  exact (q.mem h s hk x hx).1

theorem nodup_le {n : Nat} {L : List Nat} (h : L.Nodup) (hx : ∀ x ∈ L, x < n) : L.length ≤ n := by
  have hp : L.Perm ((List.range n).filter (fun i => decide (i ∈ L))) := (List.perm_ext_iff_of_nodup h (nodup_filter List.nodup_range)).2 (fun x => by
    rw [List.mem_filter]
    exact ⟨fun h => ⟨by simpa using hx x h, decide_eq_true h⟩, fun h => of_decide_eq_true h.2⟩)
  rw [hp.length_eq]
  have := List.length_filter_le (fun i => decide (i ∈ L)) (List.range n)
  simpa using this

/-- Sorted, it is the numbers in their order. -/
theorem sorted_kept {l : List Wt} {Q : Int → Int → List Nat} {L : List Nat} (h : L.Perm (keptQ l Q)) : (zOf L).mergeSort (fun x y => decide (x ≤ y)) = zOf (keptQ l Q) := by
  have tr : ∀ a b c : Int, decide (a ≤ b) = true → decide (b ≤ c) = true → decide (a ≤ c) = true := fun a b c h1 h2 => by simp only [decide_eq_true_eq] at *; omega
  have to : ∀ a b : Int, (decide (a ≤ b) || decide (b ≤ a)) = true := fun a b => by simp only [Bool.or_eq_true, decide_eq_true_eq]; omega
  refine List.Perm.eq_of_pairwise (le := fun a b => decide (a ≤ b) = true) (fun a b _ _ h1 h2 => by simp only [decide_eq_true_eq] at h1 h2; omega) (List.pairwise_mergeSort tr to _) ?_ ((List.mergeSort_perm _ _).trans (h.map _))
  unfold zOf keptQ
  refine List.Pairwise.map (R := fun x y => x < y) _ (fun a b hab => by simp only [decide_eq_true_eq]; omega) (List.Pairwise.filter _ List.pairwise_lt_range)

end Go.Proofs.Ytppjohfafnbdlak.Mem
