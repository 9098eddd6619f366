/-
  Plain: what the calls of a log make of a new pool, one behind the other. No condition.
-/
import Derived.Test.YtbnpnhcegoanmaaPpDoLaw
import Derived.Test.YtbnpnhcegoanmaaEv
namespace Go.Proofs.Ytbnpnhcegoanmaa.Pl
open Go.RowKit Go.Proofs.Ytbnpnhcegoanmaa.Mem
set_option linter.unusedVariables false

def stepD (st : List Dt × Bool) (e : Ev) : List Dt × Bool := ((doD st.1 e.k e.v e.t e.a e.s).1, st.2 && (doD st.1 e.k e.v e.t e.a e.s).2)
def foldD (l : List Ev) : List Dt × Bool := l.foldl stepD (List.replicate 4 noneD, true)

theorem fold_nil : foldD [] = (List.replicate 4 noneD, true) := rfl
theorem fold_snoc (l : List Ev) (e : Ev) : foldD (l ++ [e]) = stepD (foldD l) e := by simp [foldD]
theorem fold_more (l : List Ev) (k : Nat) (hk : k < l.length) : foldD (l.take (k + 1)) = stepD (foldD (l.take k)) (l.getD k Ev.none) := by
  rw [List.take_add_one, List.getElem?_eq_getElem hk, Option.toList_some, fold_snoc]
  congr 1
  simp [List.getD, hk]

/-- Four volumes of four places each, of small texts. -/
def FourD (D : List Dt) : Prop := D.length = 4 ∧ ∀ d ∈ D, (d.2.1.length = 4 ∧ d.2.2.length = 4) ∧ Sm d

theorem four_getD {D : List Dt} (h : ∀ d ∈ D, d.2.1.length = 4 ∧ d.2.2.length = 4) (n : Nat) : (D.getD n noneD).2.1.length = 4 ∧ (D.getD n noneD).2.2.length = 4 := by
  by_cases hn : n < D.length
  · simp only [List.getD, List.getElem?_eq_getElem hn, Option.getD_some]; exact h _ (List.getElem_mem hn)
  · simp only [List.getD, List.getElem?_eq_none (Nat.le_of_not_lt hn), Option.getD_none]; exact ⟨rfl, rfl⟩
theorem four_set {D : List Dt} (h : ∀ d ∈ D, d.2.1.length = 4 ∧ d.2.2.length = 4) (n : Nat) {x : Dt} (hx : x.2.1.length = 4 ∧ x.2.2.length = 4) : ∀ d ∈ D.set n x, d.2.1.length = 4 ∧ d.2.2.length = 4 := fun d hd => by
  rcases List.mem_or_eq_of_mem_set hd with h1 | h1
  · exact h d h1
  · subst h1; exact hx
theorem do_four {D : List Dt} (h : ∀ d ∈ D, d.2.1.length = 4 ∧ d.2.2.length = 4) (k v t a : Int) (s : ByteArray) : ∀ d ∈ (doD D k v t a s).1, d.2.1.length = 4 ∧ d.2.2.length = 4 := by
  unfold doD
  split
  · split
    · exact h
    split
    · exact h
    split
    · exact four_set h _ (four_getD h _)
    split
    · exact four_set h _ ⟨rfl, rfl⟩
    split
    · exact four_set h _ (by simpa using four_getD h _)
    split
    · exact four_set h _ (by simpa using four_getD h _)
    split
    · exact h
    · exact four_set h _ (four_getD h _)
  · exact h
theorem four_none : FourD (List.replicate 4 noneD) := ⟨by simp, fun d hd => by rw [List.eq_of_mem_replicate hd]; exact ⟨⟨rfl, rfl⟩, none_sm⟩⟩
theorem four_do {D : List Dt} (h : FourD D) (k v t a : Int) {s : ByteArray} (hs : s.size ≤ 1048576) : FourD (doD D k v t a s).1 := by
  have h1 := do_sm (fun d hd => (h.2 d hd).2) k v t a (s := s) (by omega)
  have h2 := do_four (fun d hd => (h.2 d hd).1) k v t a s
  exact ⟨by rw [h1.1]; exact h.1, fun d hd => ⟨h2 d hd, h1.2 d hd⟩⟩
theorem four_fold (l : List Ev) (h : ∀ e ∈ l, e.s.size ≤ 1048576) : FourD (foldD l).1 := by
  suffices ∀ (l : List Ev), (∀ e ∈ l, e.s.size ≤ 1048576) → ∀ st : List Dt × Bool, FourD st.1 → FourD (l.foldl stepD st).1 from this l h _ four_none
  intro l
  induction l with
  | nil => exact fun _ _ h => h
  | cons e l ih => exact fun hl st hst => ih (fun x hx => hl x (by simp [hx])) _ (four_do hst _ _ _ _ (hl e (by simp)))
theorem four_pool {M : List Pv} {D : List Dt} (h : FourD D) (e : M.map Pv.data = D) : M.length = 4 ∧ (∀ x ∈ M, x.hs.length = 4 ∧ x.ts.length = 4) ∧ ∀ x ∈ M, x.Upto 1048576 := by
  subst e
  exact ⟨by simpa using h.1, fun x hx => (h.2 _ (List.mem_map_of_mem hx)).1, fun x hx => (h.2 _ (List.mem_map_of_mem hx)).2⟩

/-- What FoldPool answers. -/
def foldAns (l : List Ev) (n : Int) : List Dt × Bool :=
  if (0 ≤ n ∧ n ≤ (l.length : Int)) ∧ l.length ≤ 400 ∧ ∀ e ∈ l, opRight e.k e.v e.t e.a e.s = true then foldD (l.take n.toNat) else ([], false)

end Go.Proofs.Ytbnpnhcegoanmaa.Pl
