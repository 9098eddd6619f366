/-
  How a function that hands a disk back ends: the disk lies in the result's block. No condition.
-/
import Derived.Test.YtbnmcbbpbiofgaaDkPut
namespace Go.Proofs.Ytbnmcbbpbiofgaa.Mem
open Go.RowKit
set_option linter.unusedVariables false

def Dk.nil : Dk := ⟨[], [], []⟩

theorem Dk.of_right {D : Dk} (h : D.right = true) : D.Right := by
  obtain ⟨a, b, c, d, e, f, g⟩ := of_decide_eq_true h
  exact ⟨a, b, c, d, e, f, g⟩

theorem Dk.Right.fit {D : Dk} (h : D.Right) : D.Fit := ⟨by have := h.n2; omega, h.e3, by have := h.p40; omega⟩

theorem DkO.mono {w : World} {B B' : Nat} {v : Value} {D : Dk} (h : DkO w B v D) (hb : B' ≤ B) : DkO w B' v D := by
  obtain ⟨v1, v2, v3, e, r1, r2, r3, f1, f2⟩ := h
  exact ⟨v1, v2, v3, e, r1.mono hb, r2.mono hb, r3.mono hb, f1, f2⟩

theorem dkW_nil (w : World) (B : Nat) : DkW w B (.agg #[.slice none 0 0, .slice none 0 0, .slice none 0 0]) Dk.nil :=
  ⟨none, 0, none, 0, none, 0, rfl, fun i hi => by simp [Dk.nil] at hi, fun i hi => by simp [Dk.nil] at hi, fun i hi => by simp [Dk.nil] at hi, fun b hb => by have := hb.1; simp [Dk.nil] at this, fun b hb => by have := hb.1; simp [Dk.nil] at this⟩

/-- A disk without anything is handed back. -/
theorem wrap_bad {w w1 : World} (hB : Below w.heap.size w w1) (R : Row w1 (w.heap.size + 1) [.slice none 0 0, .slice none 0 0, .slice none 0 0]) :
    DkW (((w1.setCell ⟨w.heap.size + 1, 0, none⟩ (.slice none 0 0)).setCell ⟨w.heap.size + 1, 1, none⟩ (.slice none 0 0)).setCell ⟨w.heap.size + 1, 2, none⟩ (.slice none 0 0)) w.heap.size (.agg #[.slice none 0 0, .slice none 0 0, .slice none 0 0]) Dk.nil ∧
    Below w.heap.size w (((w1.setCell ⟨w.heap.size + 1, 0, none⟩ (.slice none 0 0)).setCell ⟨w.heap.size + 1, 1, none⟩ (.slice none 0 0)).setCell ⟨w.heap.size + 1, 2, none⟩ (.slice none 0 0)) ∧
    Row (((w1.setCell ⟨w.heap.size + 1, 0, none⟩ (.slice none 0 0)).setCell ⟨w.heap.size + 1, 1, none⟩ (.slice none 0 0)).setCell ⟨w.heap.size + 1, 2, none⟩ (.slice none 0 0)) (w.heap.size + 1) [.slice none 0 0, .slice none 0 0, .slice none 0 0] :=
  ⟨dkW_nil _ _, below_set (below_set (below_set hB _ _ _ (by omega)) _ _ _ (by omega)) _ _ _ (by omega), ((R.set 0 (.slice none 0 0)).set 1 (.slice none 0 0)).set 2 (.slice none 0 0)⟩

/-- A disk of the call's own is handed back. -/
theorem wrap_end {w w3 wx : World} {B : Nat} {u1 u2 u3 : Value} {E : Dk} (hl : w.heap.size + 1 < B) (hb : Below w.heap.size w w3) (O : DkO w3 B (.agg #[u1, u2, u3]) E) (hx : Below w3.heap.size w3 wx) (R : Row wx (w.heap.size + 1) [.slice none 0 0, .slice none 0 0, .slice none 0 0]) :
    DkW (((wx.setCell ⟨w.heap.size + 1, 0, none⟩ u1).setCell ⟨w.heap.size + 1, 1, none⟩ u2).setCell ⟨w.heap.size + 1, 2, none⟩ u3) w.heap.size (.agg #[u1, u2, u3]) E ∧
    Below w.heap.size w (((wx.setCell ⟨w.heap.size + 1, 0, none⟩ u1).setCell ⟨w.heap.size + 1, 1, none⟩ u2).setCell ⟨w.heap.size + 1, 2, none⟩ u3) ∧
    Row (((wx.setCell ⟨w.heap.size + 1, 0, none⟩ u1).setCell ⟨w.heap.size + 1, 1, none⟩ u2).setCell ⟨w.heap.size + 1, 2, none⟩ u3) (w.heap.size + 1) [u1, u2, u3] := by
  have P := put_end (w := w) (w2 := wx) (B := w.heap.size) R.lt (hb.trans (hx.mono hb.size)) (Nat.le_refl _) ((O.below hx).mono (by omega)) (fun b hB => by have := (O.lt hB).1; omega) R
  exact ⟨P.1.w, P.2.1, P.2.2⟩

end Go.Proofs.Ytbnmcbbpbiofgaa.Mem
