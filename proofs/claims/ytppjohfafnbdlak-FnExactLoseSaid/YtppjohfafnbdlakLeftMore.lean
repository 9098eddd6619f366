/-
  Plain: what is left of the writes when one number is struck, or all of one host's. No condition.
-/
import Derived.Test.YtppjohfafnbdlakLeftNum
import Derived.Test.YtppjohfafnbdlakDkFence
namespace Go.Proofs.Ytppjohfafnbdlak.Mem
open Go.RowKit
set_option linter.unusedVariables false

theorem range_getD (l : List Wt) : (List.range l.length).map (fun i => l.getD i Wt.none) = l := by
  apply List.ext_getElem (by simp)
  intro i h1 h2
  simp [List.getD, h2]

theorem range'_getD (l : List Wt) : ∀ (n k : Nat), k + n = l.length → (List.range' k n).map (fun i => l.getD i Wt.none) = l.drop k
  | 0, k, h => by rw [List.drop_eq_nil_of_le (by omega)]; rfl
  | n + 1, k, h => by
    have hk : k < l.length := by omega
    rw [List.range'_succ, List.map_cons, range'_getD l n (k + 1) (by omega), List.drop_eq_getElem_cons hk]
    simp [List.getD, hk]

theorem split_range (n i : Nat) (h : i < n) : List.range n = List.range i ++ i :: List.range' (i + 1) (n - i - 1) := by
  rw [List.range_eq_range', List.range_eq_range', show n = i + ((n - i - 1) + 1) from by omega, List.range'_append_1.symm, Nat.zero_add, List.range'_succ]
  congr 3
  omega

/-- All but number i. -/
theorem but_one (l : List Wt) (i : Nat) (h : i < l.length) : ((List.range l.length).filter (fun j => decide (j ≠ i))).map (fun j => l.getD j Wt.none) = l.eraseIdx i := by
  have f1 : (List.range i).filter (fun j => decide (j ≠ i)) = List.range i := List.filter_eq_self.2 (fun j hj => by have := List.mem_range.1 hj; simp; omega)
  have f2 : (List.range' (i + 1) (l.length - i - 1)).filter (fun j => decide (j ≠ i)) = List.range' (i + 1) (l.length - i - 1) := List.filter_eq_self.2 (fun j hj => by have := (List.mem_range'_1.1 hj).1; simp; omega)
  have f3 : decide (i ≠ i) = false := by simp
  rw [split_range l.length i h, List.filter_append, List.filter_cons, f3, f1, f2, List.map_append, if_neg (by simp), range'_getD l _ _ (by omega), List.eraseIdx_eq_take_drop_succ]
  congr 1
  apply List.ext_getElem (by simp; omega)
  intro j h1 h2
  have hj : j < l.length := by simp at h1; omega
  simp [List.getD, hj]

theorem mem_qAt {l : List Wt} {i : Nat} (h : i < l.length) : i ∈ qAt l l.length (l.getD i Wt.none).host (l.getD i Wt.none).sector := by
  unfold qAt
  exact List.mem_filter.2 ⟨List.mem_range.2 h, decide_eq_true ⟨rfl, rfl⟩⟩

theorem qAt_lt (l : List Wt) (h s : Int) : (qAt l l.length h s).Pairwise (fun a b => a < b) := List.Pairwise.filter _ List.pairwise_lt_range
theorem qAt_nodup (l : List Wt) (h s : Int) : (qAt l l.length h s).Nodup := nodup_filter List.nodup_range

theorem erase_mem {Z : List Nat} (hn : Z.Nodup) (p : Nat) (hp : p < Z.length) (x : Nat) : x ∈ Z.eraseIdx p ↔ x ∈ Z ∧ x ≠ Z.getD p 0 := by
  have e : Z.getD p 0 = Z[p] := by simp [List.getD, hp]
  rw [e]
  have hz := List.getElem_cons_drop hp
  have hs : Z = Z.take p ++ Z[p] :: Z.drop (p + 1) := by rw [hz, List.take_append_drop]
  have hne : ∀ a ∈ Z.take p ++ Z.drop (p + 1), a ≠ Z[p] := by
    rw [hs] at hn
    obtain ⟨h1, h2, h3⟩ := List.nodup_append.1 hn
    intro a ha
    rcases List.mem_append.1 ha with ha | ha
    · exact h3 a ha _ List.mem_cons_self
    · exact fun e => (List.nodup_cons.1 h2).1 (by rw [← e]; exact ha)
  rw [List.eraseIdx_eq_take_drop_succ]
  constructor
  · intro hx
    refine ⟨?_, hne x hx⟩
    rcases List.mem_append.1 hx with hx | hx
    · exact List.mem_of_mem_take hx
    · exact List.mem_of_mem_drop hx
  · rintro ⟨hx, hn2⟩
    rw [hs] at hx
    rcases List.mem_append.1 hx with hx | hx
    · exact List.mem_append.2 (Or.inl hx)
    · rcases List.mem_cons.1 hx with hx | hx
      · exact absurd hx hn2
      · exact List.mem_append.2 (Or.inr hx)

/-- One number is struck from its queue. -/
theorem left_erase (l : List Wt) (i p : Nat) (hi : i < l.length) (hp : p < (qAt l l.length (l.getD i Wt.none).host (l.getD i Wt.none).sector).length) (he : (qAt l l.length (l.getD i Wt.none).host (l.getD i Wt.none).sector).getD p 0 = i) :
    leftW l (upd (qAt l l.length) (l.getD i Wt.none).host (l.getD i Wt.none).sector ((qAt l l.length (l.getD i Wt.none).host (l.getD i Wt.none).sector).eraseIdx p)) = l.eraseIdx i := by
  rw [← but_one l i hi]
  unfold leftW keptQ
  congr 1
  apply List.filter_congr
  intro j hj
  have hj := List.mem_range.1 hj
  apply decide_eq_decide.2
  by_cases e : (l.getD j Wt.none).host = (l.getD i Wt.none).host ∧ (l.getD j Wt.none).sector = (l.getD i Wt.none).sector
  · rw [e.1, e.2, upd_same, erase_mem (qAt_nodup _ _ _) p hp, he]
    have hm := mem_qAt hj
    rw [e.1, e.2] at hm
    exact ⟨fun h => h.2, fun h => ⟨hm, h⟩⟩
  · rw [upd_other _ _ e]
    exact ⟨fun _ e' => e (by rw [e']; exact ⟨rfl, rfl⟩), fun _ => mem_qAt hj⟩

theorem qOk_erase (l : List Wt) (h s : Int) (p : Nat) : QOk l (upd (qAt l l.length) h s ((qAt l l.length h s).eraseIdx p)) :=
  (qOk_at l).erase h s _ (fun x hx => List.mem_of_mem_eraseIdx hx) (fun _ => List.Pairwise.sublist (List.eraseIdx_sublist _ _) (qAt_nodup l h s))

/-- The first of a queue. -/
theorem first_q (l : List Wt) (i : Nat) (hi : i < l.length) : (qAt l l.length (l.getD i Wt.none).host (l.getD i Wt.none).sector).getD 0 0 = i ↔ ∀ j, j < i → ¬ ((l.getD j Wt.none).host = (l.getD i Wt.none).host ∧ (l.getD j Wt.none).sector = (l.getD i Wt.none).sector) := by
  have hm := mem_qAt hi
  have hlt := qAt_lt l (l.getD i Wt.none).host (l.getD i Wt.none).sector
  have hmem : ∀ x, x ∈ qAt l l.length (l.getD i Wt.none).host (l.getD i Wt.none).sector ↔ x < l.length ∧ (l.getD x Wt.none).host = (l.getD i Wt.none).host ∧ (l.getD x Wt.none).sector = (l.getD i Wt.none).sector := fun x =>
    ⟨fun h => qAt_mem h, fun h => by have := mem_qAt h.1; rw [h.2.1, h.2.2] at this; exact this⟩
  generalize qAt l l.length (l.getD i Wt.none).host (l.getD i Wt.none).sector = Z at *
  match Z, hm, hlt, hmem with
  | z :: r, hm, hlt, hmem =>
    have hmin : ∀ x ∈ z :: r, z ≤ x := fun x hx => by
      rcases List.mem_cons.1 hx with h | h
      · omega
      · exact Nat.le_of_lt ((List.pairwise_cons.1 hlt).1 x h)
    show z = i ↔ _
    constructor
    · rintro rfl j hj hs
      have := hmin j ((hmem j).2 ⟨by omega, hs⟩)
      omega
    · intro h
      have h1 := hmin i hm
      have h2 := (hmem z).1 (by simp)
      rcases Nat.lt_or_ge z i with h3 | h3
      · exact absurd h2.2 (h z h3)
      · omega

/-- The queues without those of host x to the first k sectors. -/
def qBut (Q : Int → Int → List Nat) (x : Int) (k : Nat) (h s : Int) : List Nat := if h = x ∧ s < (k : Int) then [] else Q h s

theorem qBut_succ (Q : Int → Int → List Nat) (x : Int) (k : Nat) (h s : Int) (h0 : OkK h s) : qBut Q x (k + 1) h s = upd (qBut Q x k) x (k : Int) [] h s := by
  unfold qBut upd
  by_cases e : h = x ∧ s = (k : Int)
  · rw [if_pos e, if_pos ⟨e.1, by omega⟩]
  · rw [if_neg e]
    show (if h = x ∧ s < ((k + 1 : Nat) : Int) then [] else Q h s) = (if h = x ∧ s < (k : Int) then [] else Q h s)
    by_cases e2 : h = x ∧ s < (k : Int)
    · rw [if_pos e2, if_pos ⟨e2.1, by omega⟩]
    · rw [if_neg e2, if_neg (fun q => e ⟨q.1, by have := q.2; have : ¬ s < (k : Int) := fun z => e2 ⟨q.1, z⟩; omega⟩)]

theorem qOk_but (l : List Wt) (x : Int) (k : Nat) : QOk l (qBut (qAt l l.length) x k) := by
  refine ⟨fun h s hk i hi => ?_, fun h s hk => ?_⟩
  · unfold qBut at hi
    split at hi
    · simp at hi
    · exact qAt_mem hi
  · unfold qBut
    split
    · exact List.nodup_nil
    · exact qAt_nodup l h s

/-- All of one host's are struck. -/
theorem left_but (l : List Wt) (x : Int) (n : Nat) (hs : ∀ j, j < l.length → (l.getD j Wt.none).sector < (n : Int)) : leftW l (qBut (qAt l l.length) x n) = others l x := by
  have e : keptQ l (qBut (qAt l l.length) x n) = (List.range l.length).filter (fun i => decide ((l.getD i Wt.none).host ≠ x)) := by
    unfold keptQ
    apply List.filter_congr
    intro j hj
    have hj := List.mem_range.1 hj
    apply decide_eq_decide.2
    unfold qBut
    by_cases e : (l.getD j Wt.none).host = x
    · rw [if_pos ⟨e, hs j hj⟩]
      exact ⟨fun h => absurd h (by simp), fun h => absurd e h⟩
    · rw [if_neg (fun q => e q.1)]
      exact ⟨fun _ => e, fun _ => mem_qAt hj⟩
  unfold leftW others
  rw [e]
  conv => rhs; rw [← range_getD l]
  rw [List.filter_map]
  congr 1

end Go.Proofs.Ytppjohfafnbdlak.Mem
