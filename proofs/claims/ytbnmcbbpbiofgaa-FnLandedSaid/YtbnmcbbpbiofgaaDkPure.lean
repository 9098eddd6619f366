/-
  Plain facts on disks: whatever lands of a host's writes, all of them landed are what a flush makes; what a host sees is what it last put. No condition.
-/
import Derived.Test.YtbnmcbbpbiofgaaDkFlush
namespace Go.Proofs.Ytbnmcbbpbiofgaa.Mem
set_option linter.unusedVariables false

theorem lands_append (s : List ByteArray) (l m : List Wt) (h : Int) : lands s (l ++ m) h = lands (lands s l h) m h := by unfold lands; rw [List.foldl_append]
theorem lands_cons (s : List ByteArray) (x : Wt) (l : List Wt) (h : Int) : lands s (x :: l) h = lands (if x.host = h then s.set x.sector.toNat x.text else s) l h := rfl

/-- A sector to which none of the writes goes may be set ahead of them. -/
theorem lands_set (c : Nat) (t : ByteArray) (h : Int) : ∀ (l : List Wt) (s : List ByteArray), (∀ x ∈ l, ¬ (x.host = h ∧ x.sector.toNat = c)) → lands (s.set c t) l h = (lands s l h).set c t
  | [], _, _ => rfl
  | x :: l, s, hn => by
    rw [lands_cons, lands_cons]
    have ih := fun s => lands_set c t h l s (fun y hy => hn y (List.mem_cons_of_mem _ hy))
    by_cases hx : x.host = h
    · rw [if_pos hx, if_pos hx]
      have hc : c ≠ x.sector.toNat := fun e => hn x (List.mem_cons_self ..) ⟨hx, e.symm⟩
      rw [List.set_comm t x.text hc, ih]
    · rw [if_neg hx, if_neg hx, ih]

theorem split_at (l : List Wt) (i : Nat) (hi : i < l.length) : l = l.take i ++ l.getD i Wt.none :: l.drop (i + 1) := by
  conv => lhs; rw [← List.take_append_drop i l]
  rw [List.drop_eq_getElem_cons hi, List.getD_eq_getElem?_getD, List.getElem?_eq_getElem hi]
  rfl

theorem erase_at (l : List Wt) (i : Nat) : l.eraseIdx i = l.take i ++ l.drop (i + 1) := List.eraseIdx_eq_take_drop_succ l i

theorem mem_take_getD {l : List Wt} {i : Nat} {x : Wt} (hi : i ≤ l.length) (hx : x ∈ l.take i) : ∃ j, j < i ∧ l.getD j Wt.none = x := by
  obtain ⟨j, hj, rfl⟩ := List.getElem_of_mem hx
  rw [List.length_take] at hj
  refine ⟨j, by omega, ?_⟩
  rw [List.getD_eq_getElem?_getD, List.getElem?_eq_getElem (by omega), List.getElem_take]
  rfl

theorem others_append (l m : List Wt) (h : Int) : others (l ++ m) h = others l h ++ others m h := by unfold others; rw [List.filter_append]

/-- A write of the host lands: what a flush makes behind it is what it made ahead of it. -/
theorem land_flush (s : List ByteArray) (l : List Wt) (h : Int) (i : Nat) (hi : i < l.length) (hh : (l.getD i Wt.none).host = h) (hs : ∀ j, j < l.length → 0 ≤ (l.getD j Wt.none).sector)
    (hn : ∀ j, j < i → ¬ ((l.getD j Wt.none).host = (l.getD i Wt.none).host ∧ (l.getD j Wt.none).sector = (l.getD i Wt.none).sector)) :
    lands (s.set (l.getD i Wt.none).sector.toNat (l.getD i Wt.none).text) (l.eraseIdx i) h = lands s l h ∧ others (l.eraseIdx i) h = others l h := by
  have hsp := split_at l i hi
  have h0 := hs i hi
  have hl : ∀ x ∈ l.take i, ¬ (x.host = h ∧ x.sector.toNat = (l.getD i Wt.none).sector.toNat) := fun x hx ⟨e1, e2⟩ => by
    obtain ⟨j, hj, rfl⟩ := mem_take_getD (by omega) hx
    exact hn j hj ⟨by rw [e1, hh], by have := hs j (by omega); omega⟩
  generalize l.getD i Wt.none = x at *
  constructor
  · conv => rhs; rw [hsp]
    rw [erase_at, lands_append, lands_append, lands_set _ _ _ _ _ hl, lands_cons, if_pos hh]
  · conv => rhs; rw [hsp]
    rw [erase_at, others_append, others_append]
    congr 1
    unfold others
    simp [hh]

/-- Where no write of the host is under way a flush changes nothing. -/
theorem flush_none (s : List ByteArray) (l : List Wt) (h : Int) (hn : ∀ x ∈ l, x.host ≠ h) : lands s l h = s ∧ others l h = l := by
  induction l with
  | nil => exact ⟨rfl, rfl⟩
  | cons x l ih =>
    obtain ⟨i1, i2⟩ := ih (fun y hy => hn y (List.mem_cons_of_mem _ hy))
    have hx := hn x (List.mem_cons_self ..)
    refine ⟨by rw [lands_cons, if_neg hx, i1], ?_⟩
    unfold others at i2 ⊢
    rw [List.filter_cons, if_pos (by simpa using hx), i2]

/-- How many writes of the host are under way. -/
def mine (l : List Wt) (h : Int) : Nat := (l.filter (fun x => decide (x.host = h))).length

theorem mine_erase (l : List Wt) (h : Int) (i : Nat) (hi : i < l.length) (hh : (l.getD i Wt.none).host = h) : mine l h = mine (l.eraseIdx i) h + 1 := by
  have hsp := split_at l i hi
  generalize l.getD i Wt.none = x at *
  unfold mine
  conv => lhs; rw [hsp]
  rw [erase_at, List.filter_append, List.filter_append, List.filter_cons, if_pos (by simpa using hh)]
  simp only [List.length_append, List.length_cons]
  omega

theorem mine_le (l : List Wt) (h : Int) : mine l h ≤ l.length := List.length_filter_le _ _

theorem mine_zero (l : List Wt) (h : Int) (h0 : mine l h = 0) : ∀ x ∈ l, x.host ≠ h := fun x hx e => by
  unfold mine at h0
  have := List.length_eq_zero_iff.1 h0
  have hm : x ∈ l.filter (fun x => decide (x.host = h)) := List.mem_filter.2 ⟨hx, by simpa using e⟩
  rw [this] at hm
  cases hm

/-- The first write of the host may land. -/
theorem first_lands (D : Dk) (h : Int) (i : Nat) (hi : i < D.pe.length) (hh : (D.pe.getD i Wt.none).host = h) (hf : ∀ j, j < i → (D.pe.getD j Wt.none).host ≠ h) : D.CanLand i :=
  ⟨by omega, by omega, fun j hj ⟨e, _⟩ => by
    rw [Int.toNat_natCast] at hj e
    exact hf j hj (by rw [e, hh])⟩

end Go.Proofs.Ytbnmcbbpbiofgaa.Mem
