/-
  Plain: what a flush leaves in each sector: the last of the host's writes to it, or what stood there. No condition.
-/
import Derived.Test.YtppjohfafnbdlajLeftMore
import Derived.Test.YtppjohfafnbdlajDkRight
namespace Go.Proofs.Ytppjohfafnbdlaj.Mem
open Go.RowKit
set_option linter.unusedVariables false

theorem getD_set_eq (l : List ByteArray) (i : Nat) (t : ByteArray) (c : Nat) (hc : c < l.length) : (l.set i t).getD c ByteArray.empty = if i = c then t else l.getD c ByteArray.empty := by
  rw [List.getD_eq_getElem?_getD, List.getElem?_set, List.getD_eq_getElem?_getD]
  by_cases e : i = c
  · subst e
    simp [hc]
  · simp [e]

theorem lands_getD (h : Int) (c : Nat) : ∀ (l : List Wt) (s : List ByteArray), (∀ x ∈ l, 0 ≤ x.sector) → c < s.length → (lands s l h).getD c ByteArray.empty = seeL (s.getD c ByteArray.empty) l h (c : Int)
  | [], s, _, _ => rfl
  | x :: r, s, hp, hc => by
    have hx := hp x (by simp)
    have ih := lands_getD h c r (if x.host = h then s.set x.sector.toNat x.text else s) (fun y hy => hp y (by simp [hy])) (by split <;> simpa using hc)
    rw [lands_cons, ih]
    show seeL _ r h (c : Int) = seeL (if x.host = h ∧ x.sector = (c : Int) then x.text else s.getD c ByteArray.empty) r h (c : Int)
    congr 1
    by_cases e1 : x.host = h
    · rw [if_pos e1, getD_set_eq s _ _ c hc]
      by_cases e2 : x.sector.toNat = c
      · rw [if_pos e2, if_pos ⟨e1, by omega⟩]
      · rw [if_neg e2, if_neg (fun q => e2 (by omega))]
    · rw [if_neg e1, if_neg (fun q => e1 q.1)]

/-- The sectors of which the first k were flushed. -/
structure SecK (D : Dk) (x : Int) (k : Nat) (l : List ByteArray) : Prop where
  len : l.length = D.sec.length
  done : ∀ c, c < k → l.getD c ByteArray.empty = D.see x (c : Int) D.pe.length
  todo : ∀ c, k ≤ c → l.getD c ByteArray.empty = D.sec.getD c ByteArray.empty

theorem SecK.start (D : Dk) (x : Int) : SecK D x 0 D.sec := ⟨rfl, fun c h => by omega, fun c _ => rfl⟩

theorem SecK.all {D : Dk} {x : Int} {l : List ByteArray} (h : SecK D x D.sec.length l) (hp : ∀ y ∈ D.pe, 0 ≤ y.sector) : l = lands D.sec D.pe x := by
  apply List.ext_getElem (by rw [h.len, lands_length])
  intro c h1 h2
  have hc : c < D.sec.length := by rw [← h.len]; exact h1
  have e1 := h.done c hc
  have e2 := lands_getD x c D.pe D.sec hp hc
  have e3 := see_all D x (c : Int)
  rw [Int.toNat_natCast] at e3
  rw [← e3, ← e1] at e2
  rw [List.getD_eq_getElem?_getD, List.getElem?_eq_getElem h2, List.getD_eq_getElem?_getD, List.getElem?_eq_getElem h1] at e2
  exact e2.symm

/-- Sector k behind the first j of its queue. -/
def secAt (D : Dk) (Z : List Nat) (k j : Nat) : ByteArray := if j = 0 then D.sec.getD k ByteArray.empty else (D.pe.getD (Z.getD (j - 1) 0) Wt.none).text

theorem secAt_zero (D : Dk) (Z : List Nat) (k : Nat) : secAt D Z k 0 = D.sec.getD k ByteArray.empty := if_pos rfl
theorem secAt_succ (D : Dk) (Z : List Nat) (k j : Nat) : secAt D Z k (j + 1) = (D.pe.getD (Z.getD j 0) Wt.none).text := by unfold secAt; rw [if_neg (by omega)]; rfl
theorem secAt_all (D : Dk) (x : Int) (k : Nat) : secAt D (qAt D.pe D.pe.length x (k : Int)) k (qAt D.pe D.pe.length x (k : Int)).length = D.see x (k : Int) D.pe.length := by
  rw [see_q]
  generalize qAt D.pe D.pe.length x (k : Int) = Z
  by_cases hZ : Z = []
  · subst hZ
    rfl
  · obtain ⟨Z', i, rfl⟩ : ∃ Z' i, Z = Z' ++ [i] := ⟨Z.dropLast, Z.getLast hZ, (List.dropLast_concat_getLast hZ).symm⟩
    rw [List.length_append]
    show secAt D (Z' ++ [i]) k (Z'.length + 1) = _
    rw [secAt_succ]
    simp

/-- Sector k is stored while it is flushed. -/
structure SecJ (D : Dk) (x : Int) (k : Nat) (t : ByteArray) (l : List ByteArray) : Prop where
  len : l.length = D.sec.length
  done : ∀ c, c < k → l.getD c ByteArray.empty = D.see x (c : Int) D.pe.length
  here : l.getD k ByteArray.empty = t
  todo : ∀ c, k < c → l.getD c ByteArray.empty = D.sec.getD c ByteArray.empty

theorem SecK.begin_ {D : Dk} {x : Int} {k : Nat} {l : List ByteArray} (h : SecK D x k l) : SecJ D x k (D.sec.getD k ByteArray.empty) l := ⟨h.len, h.done, h.todo k (Nat.le_refl _), fun c hc => h.todo c (by omega)⟩
theorem SecJ.end_ {D : Dk} {x : Int} {k : Nat} {l : List ByteArray} (h : SecJ D x k (D.see x (k : Int) D.pe.length) l) : SecK D x (k + 1) l :=
  ⟨h.len, fun c hc => by by_cases e : c = k; · rw [e]; exact h.here
                         · exact h.done c (by omega), fun c hc => h.todo c (by omega)⟩
theorem SecJ.set {D : Dk} {x : Int} {k : Nat} {t t' : ByteArray} {l : List ByteArray} (h : SecJ D x k t l) (hk : k < D.sec.length) : SecJ D x k t' (l.set k t') := by
  have hl := h.len
  have none_ : ∀ c, ¬ c < l.length → (l.set k t').getD c ByteArray.empty = l.getD c ByteArray.empty := fun c hc => by
    rw [List.getD_eq_getElem?_getD, List.getElem?_eq_none (by simp; omega), List.getD_eq_getElem?_getD, List.getElem?_eq_none (by omega)]
  have ne : ∀ c, c ≠ k → (l.set k t').getD c ByteArray.empty = l.getD c ByteArray.empty := fun c hc => by
    by_cases e : c < l.length
    · rw [getD_set_eq l k t' c e, if_neg (fun q => hc q.symm)]
    · exact none_ c e
  refine ⟨by rw [List.length_set]; exact h.len, fun c hc => by rw [ne c (by omega)]; exact h.done c hc, ?_, fun c hc => by rw [ne c (by omega)]; exact h.todo c hc⟩
  rw [getD_set_eq l k t' k (by omega), if_pos rfl]

/-- The queues while sector k is flushed: j of its queue are gone. -/
theorem qBut_here (Q : Int → Int → List Nat) (x : Int) (k : Nat) : qBut Q x k x (k : Int) = Q x (k : Int) := if_neg (fun q => by have := q.2; omega)

end Go.Proofs.Ytppjohfafnbdlaj.Mem
