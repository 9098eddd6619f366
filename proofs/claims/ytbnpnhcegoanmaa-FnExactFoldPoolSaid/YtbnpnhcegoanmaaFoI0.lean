/-
  What impl.FoldPool's loop keeps. No condition but small texts.
-/
import Derived.Test.YtbnpnhcegoanmaaFoA
import Derived.Test.YtbnpnhcegoanmaaFoS2
import Derived.Test.YtbnpnhcegoanmaaPpChK
import Derived.Test.YtbnpnhcegoanmaaPpDoI
import Derived.Test.YtbnpnhcegoanmaaPpPo
namespace Go.Proofs.Ytbnpnhcegoanmaa.Pl
open Go.RowKit Go.Shelf Go.Proofs.Ytbnpnhcegoanmaa.Mem
set_option linter.unusedVariables false
attribute [local go_sem] Oper.semAt_some

/-- A piece of code that ends normally has no need of what stands behind a panic. -/
theorem then_quiet {F : Fence} {n : Nat} {P : Program} {c : Code} {K : Act → World → Prop} {Q : Exit → Act → World → Prop} {a : Act} {w : World} (h : c.wpIn F n P (Exit.then K (fun _ _ _ => False)) a w) : c.wpIn F n P (Exit.then K Q) a w :=
  Code.wpIn_mono (fun e a w h => by cases e <;> first | exact h | exact h.elim) h

theorem kept_putObj (W : World) (l : Nat) (o : Obj) : Kept (fun b => b = l) W (W.putObj l o) := ⟨rfl, rfl, rfl, by simp, fun k _ hk => World.putObj_heap_other (fun e => hk (by rw [e]))⟩

theorem row_grown {A B : World} {row : Option Nat} {g : Nat} {xs : List Value} (h : Row A g xs) (hg : A.grownBy B row) (hr : ∀ r, row = some r → ∃ o : Obj, A.heap[r]? = some o ∧ o.isCells = false) : Row B g xs := by
  obtain ⟨t, ht⟩ := h
  refine ⟨t, (hg.block g (Array.getElem?_eq_some_iff.1 ht).1 (fun e => ?_)).trans ht⟩
  obtain ⟨o', ho', hc'⟩ := hr g e.symm
  rw [ht] at ho'
  cases ho'
  cases hc'

theorem ivs_grown {A B : World} {row : Option Nat} {a : Option Addr} {G : List Nat} {D : List Iv} (h : Ivs A a G D) (hg : A.grownBy B row) (hr : ∀ r, row = some r → ∃ o : Obj, A.heap[r]? = some o ∧ o.isCells = false) : Ivs B a G D :=
  ⟨h.len, fun i hi => by
    obtain ⟨b, off, e, hc⟩ := h.row i hi
    exact ⟨b, off, e, cell_kept hc hg hr⟩, fun i hi => row_grown (h.each i hi) hg hr⟩

theorem ivs_kept {S : Nat → Prop} {w w' : World} {a : Option Addr} {G : List Nat} {D : List Iv} (h : Ivs w a G D) (k : Kept S w w') (hg : ∀ g ∈ G, ¬ S g) (ha : ∀ b off, a = some ⟨b, off, none⟩ → ¬ S b) : Ivs w' a G D :=
  ⟨h.len, fun i hi => by
    obtain ⟨b, off, e, hc⟩ := h.row i hi
    exact ⟨b, off, e, (cell_block (k.block _ (World.block_lt_of_cell? w _ hc) (ha b off e))).trans hc⟩, fun i hi => (h.each i hi).kept k (hg _ (by simp [List.getD, hi]))⟩

theorem evs_take {w : World} {a : Option Addr} {l : List Ev} (h : Evs w a l) (m : Nat) : Evs w a (l.take m) := fun i hi => by
  rw [List.length_take] at hi
  obtain ⟨b, off, e, hc⟩ := h i (by omega)
  refine ⟨b, off, e, ?_⟩
  rw [hc]
  unfold evcell
  have : (l.take m).getD (i / 7) Ev.none = l.getD (i / 7) Ev.none := by
    have h7 : i / 7 < m := by omega
    simp [List.getD, h7]
  rw [this]

theorem take_small {l : List Ev} (hs : ∀ j, (l.getD j Ev.none).s.size ≤ 1048576) (m : Nat) : ∀ j, ((l.take m).getD j Ev.none).s.size ≤ 1048576 := fun j => by
  by_cases hj : j < m
  · have := hs j
    simpa [List.getD, List.getElem?_take, hj] using this
  · simp [List.getD, List.getElem?_take, hj, Ev.none]

theorem upto_vals (l : List Ev) (hs : ∀ j, (l.getD j Ev.none).s.size ≤ 1048576) : (uptoE (evS l hs) l.length).map Subtype.val = l := by
  apply List.ext_getElem
  · simp [uptoE]
  · intro i h1 h2
    simp [uptoE, evS, List.getD, h2]

end Go.Proofs.Ytbnpnhcegoanmaa.Pl
