/-
  The walk of spec.l3Copy: a disk laid anew, with rows of its own. No condition but lengths of at most 2^20.
-/
import Derived.Test.YtbnpnhcegoanmaaToDisk
import Derived.Test.YtbnpnhcegoanmaaAppRow
import Derived.RegionTactic
import Derived.BigRegion
import Derived.Deep.RegionWith
import Derived.Deep.RegionLaw
import Derived.Deep.RegionHeldLaw
namespace Go.Proofs.Ytbnpnhcegoanmaa.Mem
open Go.RowKit
set_option linter.unusedVariables false

/-- The cells of a disk's three lists. -/
def sCells (l : List ByteArray) : List Value := l.map .string
def iCells (l : List Int) : List Value := l.map (.int .i64)
def wCells (l : List Wt) : List Value := l.flatMap Wt.cells

theorem wCells_length (l : List Wt) : (wCells l).length = l.length * 4 := by
  induction l with
  | nil => rfl
  | cons x l ih =>
    show (x.cells ++ wCells l).length = _
    rw [List.length_append, ih]
    simp [Wt.cells]; omega

theorem wCells_at (l : List Wt) (i : Nat) (h : i < l.length * 4) : (wCells l).getD i undef = wcell l i := by
  induction l generalizing i with
  | nil => simp at h
  | cons x l ih =>
    show (x.cells ++ wCells l).getD i undef = _
    have hx : x.cells.length = 4 := rfl
    rw [List.getD_eq_getElem?_getD]
    by_cases h4 : i < 4
    · rw [List.getElem?_append_left (by omega)]
      unfold wcell
      rw [show i / 4 = 0 by omega, show i % 4 = i by omega]
      rw [List.getD_eq_getElem?_getD]
      rfl
    · rw [List.getElem?_append_right (by omega), hx, ← List.getD_eq_getElem?_getD, ih (i - 4) (by simp at h; omega)]
      unfold wcell
      rw [show (i - 4) % 4 = i % 4 by omega]
      obtain ⟨q, hq⟩ : ∃ q, i / 4 = q + 1 := ⟨i / 4 - 1, by omega⟩
      rw [hq, show (i - 4) / 4 = q by omega]
      rfl

theorem sCells_at (l : List ByteArray) (i : Nat) (h : i < l.length) : (sCells l).getD i undef = .string (l.getD i ByteArray.empty) := by
  unfold sCells
  simp [List.getD_eq_getElem?_getD, h]
theorem iCells_at (l : List Int) (i : Nat) (h : i < l.length) : (iCells l).getD i undef = .int .i64 (l.getD i 0) := by
  unfold iCells
  simp [List.getD_eq_getElem?_getD, h]

theorem strs_sl {w : World} {a : Option Addr} {l : List ByteArray} (h : Strs w a l) : Sl w a (l.length * 1) (fun i => (sCells l).getD i undef) := by
  rw [Nat.mul_one]; exact Sl.congr h (fun i hi => (sCells_at l i hi).symm)
theorem ints_sl {w : World} {a : Option Addr} {l : List Int} (h : Ints w a l) : Sl w a (l.length * 1) (fun i => (iCells l).getD i undef) := by
  rw [Nat.mul_one]; exact Sl.congr h (fun i hi => (iCells_at l i hi).symm)
theorem wts_sl {w : World} {a : Option Addr} {l : List Wt} (h : Wts w a l) : Sl w a (l.length * 4) (fun i => (wCells l).getD i undef) :=
  Sl.congr h (fun i hi => (wCells_at l i hi).symm)
theorem sCells_one (l : List ByteArray) : ∀ u ∈ sCells l, u.oneCell' = true := fun u hu => by
  obtain ⟨x, _, rfl⟩ := List.mem_map.1 hu; rfl
theorem iCells_one (l : List Int) : ∀ u ∈ iCells l, u.oneCell' = true := fun u hu => by
  obtain ⟨x, _, rfl⟩ := List.mem_map.1 hu; rfl
theorem wCells_one (l : List Wt) : ∀ u ∈ wCells l, u.oneCell' = true := fun u hu => by
  obtain ⟨x, _, hx⟩ := List.mem_flatMap.1 hu
  unfold Wt.cells at hx
  simp only [List.mem_cons, List.not_mem_nil, or_false] at hx
  rcases hx with rfl | rfl | rfl | rfl <;> rfl

theorem info9' : (Try.prog.info? 9).map (fun i => (i.zero, i.size, i.bytes)) = some (some (.string ByteArray.empty), 1, 16) := by kernel_rfl
theorem info3' : (Try.prog.info? 3).map (fun i => (i.zero, i.size, i.bytes)) = some (some (.int .i64 0), 1, 8) := by kernel_rfl

/-- What stays while a disk is copied, beside the argument's three cells: all up to block n, and that the result's three cells may be written. -/
structure CpRest (wc : World) (n : Nat) (w : World) : Prop where
  bel : Below (n + 1) wc w
  s : ∀ j, j < 3 → ∃ u, w.cell? ⟨n + 1, j, none⟩ = some u
  f : ∀ j, j < 3 → w.frozen? ⟨n + 1, j, none⟩ = false

theorem CpRest.below {wc w w' : World} {n : Nat} (h : CpRest wc n w) (b : Below w.heap.size w w') (hn : n + 1 ≤ wc.heap.size) : CpRest wc n w' :=
  ⟨h.bel.trans (b.mono (Nat.le_trans hn h.bel.size)), fun j hj => by
    obtain ⟨u, hu⟩ := h.s j hj
    exact ⟨u, (b.cell (p := ⟨n + 1, j, none⟩) (World.block_lt_of_cell? w _ hu)).trans hu⟩, fun j hj => by
    obtain ⟨u, hu⟩ := h.s j hj
    exact (b.frozen (p := ⟨n + 1, j, none⟩) (World.block_lt_of_cell? w _ hu)).trans (h.f j hj)⟩

theorem CpRest.set {wc w : World} {n : Nat} (h : CpRest wc n w) (i : Nat) (v : Value) : CpRest wc n (w.setCell ⟨n + 1, i, none⟩ v) :=
  ⟨h.bel.setCell (Nat.le_refl _) v, fun j hj => by
    obtain ⟨u, hu⟩ := h.s j hj
    exact cell?_setCell_some hu, fun j hj => by rw [World.frozen?_setCell]; exact h.f j hj⟩

theorem cp_below {wc w w' : World} {n : Nat} {x0 x1 x2 : Value} (hn : n + 1 ≤ wc.heap.size) (b : Below w.heap.size w w') (h : w.cell? ⟨n, 0, none⟩ = some x0 ∧ w.cell? ⟨n, 1, none⟩ = some x1 ∧ w.cell? ⟨n, 2, none⟩ = some x2 ∧ CpRest wc n w) : w'.cell? ⟨n, 0, none⟩ = some x0 ∧ w'.cell? ⟨n, 1, none⟩ = some x1 ∧ w'.cell? ⟨n, 2, none⟩ = some x2 ∧ CpRest wc n w' := by
  obtain ⟨h0, h1, h2, hb⟩ := h
  exact ⟨(b.cell (p := ⟨n, 0, none⟩) (World.block_lt_of_cell? w _ h0)).trans h0, (b.cell (p := ⟨n, 1, none⟩) (World.block_lt_of_cell? w _ h1)).trans h1, (b.cell (p := ⟨n, 2, none⟩) (World.block_lt_of_cell? w _ h2)).trans h2, hb.below b hn⟩

theorem cp_alloc {wc w : World} {n : Nat} {x0 x1 x2 : Value} (hn : n + 1 ≤ wc.heap.size) (h : w.cell? ⟨n, 0, none⟩ = some x0 ∧ w.cell? ⟨n, 1, none⟩ = some x1 ∧ w.cell? ⟨n, 2, none⟩ = some x2 ∧ CpRest wc n w) (o : Obj) : (w.alloc o).cell? ⟨n, 0, none⟩ = some x0 ∧ (w.alloc o).cell? ⟨n, 1, none⟩ = some x1 ∧ (w.alloc o).cell? ⟨n, 2, none⟩ = some x2 ∧ CpRest wc n (w.alloc o) :=
  cp_below hn ((Below.refl _ _).alloc (Nat.le_refl _) o) h

theorem cp_alloc_drew {wc w : World} {n : Nat} {x0 x1 x2 : Value} (hn : n + 1 ≤ wc.heap.size) (h : w.drew.cell? ⟨n, 0, none⟩ = some x0 ∧ w.drew.cell? ⟨n, 1, none⟩ = some x1 ∧ w.drew.cell? ⟨n, 2, none⟩ = some x2 ∧ CpRest wc n (w.drew)) (o : Obj) : (w.alloc o).drew.cell? ⟨n, 0, none⟩ = some x0 ∧ (w.alloc o).drew.cell? ⟨n, 1, none⟩ = some x1 ∧ (w.alloc o).drew.cell? ⟨n, 2, none⟩ = some x2 ∧ CpRest wc n ((w.alloc o).drew) := cp_alloc (w := w.drew) hn h o

theorem cp_set {wc w : World} {n : Nat} {x0 x1 x2 : Value} (h : w.cell? ⟨n, 0, none⟩ = some x0 ∧ w.cell? ⟨n, 1, none⟩ = some x1 ∧ w.cell? ⟨n, 2, none⟩ = some x2 ∧ CpRest wc n w) (i : Nat) (v : Value) : (w.setCell ⟨n + 1, i, none⟩ v).cell? ⟨n, 0, none⟩ = some x0 ∧ (w.setCell ⟨n + 1, i, none⟩ v).cell? ⟨n, 1, none⟩ = some x1 ∧ (w.setCell ⟨n + 1, i, none⟩ v).cell? ⟨n, 2, none⟩ = some x2 ∧ CpRest wc n (w.setCell ⟨n + 1, i, none⟩ v) := by
  obtain ⟨h0, h1, h2, hb⟩ := h
  have ne : ∀ j, (⟨n + 1, i, none⟩ : Addr) ≠ ⟨n, j, none⟩ := fun j e => by injection e; omega
  exact ⟨by rw [World.cell?_setCell_other _ _ _ _ (ne 0)]; exact h0, by rw [World.cell?_setCell_other _ _ _ _ (ne 1)]; exact h1, by rw [World.cell?_setCell_other _ _ _ _ (ne 2)]; exact h2, hb.set i v⟩

theorem cp_sl {w0 wc w : World} {n : Nat} {x0 x1 x2 : Value} {a : Option Addr} {m : Nat} {f : Nat → Value} (hS : Sl w0 a m f) (hB : Below w0.heap.size w0 wc) (hn : w0.heap.size = n) (h : w.cell? ⟨n, 0, none⟩ = some x0 ∧ w.cell? ⟨n, 1, none⟩ = some x1 ∧ w.cell? ⟨n, 2, none⟩ = some x2 ∧ CpRest wc n w) : Sl w a m f :=
  hS.below (hB.trans (h.2.2.2.bel.mono (by omega)))

theorem below_a1 {w w' : World} {o : Obj} (b : Below (w.alloc o).heap.size (w.alloc o) w') : Below w.heap.size w w' :=
  ((Below.refl _ _).alloc (Nat.le_refl _) o).trans (b.mono (Nat.le_of_lt (lt_alloc w o)))
theorem below_a2 {w w' : World} {o p : Obj} (b : Below ((w.alloc o).alloc p).heap.size ((w.alloc o).alloc p) w') : Below w.heap.size w w' := below_a1 (below_a1 b)

/-- Rows that were laid one after the other lie in blocks of their own. -/
theorem apart_fresh {v1 v2 : Value} {n1 n2 s1 s2 z : Nat} {p2 : Prop} (z1 : n1 = 0 → rb v1 = none) (y1 : 0 < n1 → rb v1 = some s1 ∧ s1 < z) (z2 : n2 = 0 → rb v2 = none) (y2 : 0 < n2 → rb v2 = some s2 ∧ p2) (h : z ≤ s2) : ∀ b, rb v1 = some b → rb v2 ≠ some b := by
  intro b h1 h2
  rcases Nat.eq_zero_or_pos n1 with e | e
  · rw [z1 e] at h1; cases h1
  rcases Nat.eq_zero_or_pos n2 with e' | e'
  · rw [z2 e'] at h2; cases h2
  have q1 := (y1 e).1.symm.trans h1
  have q2 := (y2 e').1.symm.trans h2
  have := (y1 e).2
  cases q1
  cases q2
  omega

/-- A struct that is handed back out of cells that are known. -/
theorem results_mid {P : Program} {fn : Func} {p : Tmp} {ty : TypeId} (h : fn.results = #[.cell p ty]) (tmps : Array Value) (w : World) (g : Nat) (xs : List Value) (d : TypeDesc)
    (hp : tmps.getD p undef = .pointer (some ⟨g, 0, none⟩)) (hr : w.rangeAt g 0 xs)
    (hu : P.underlying ty = some d) (hd : d.isRow = true) (hi : (P.info? ty).map (·.size) = some xs.length) :
    (results fn tmps).run P w = .ok (.agg xs.toArray) w := by
  have hp' : tmps[p]?.getD undef = .pointer (some ⟨g, 0, none⟩) := by simpa using hp
  simp [results, h, hp', asAddr, run_loadVar_mid w g 0 ty xs d hr hu hd hi]

theorem range3 {w : World} {g : Nat} {x0 x1 x2 u0 u1 u2 : Value} (h0 : w.cell? ⟨g, 0, none⟩ = some u0) (h1 : w.cell? ⟨g, 1, none⟩ = some u1) (h2 : w.cell? ⟨g, 2, none⟩ = some u2) :
    (((w.setCell ⟨g, 0, none⟩ x0).setCell ⟨g, 1, none⟩ x1).setCell ⟨g, 2, none⟩ x2).rangeAt g 0 [x0, x1, x2] := by
  have ne : ∀ i j, i ≠ j → (⟨g, i, none⟩ : Addr) ≠ ⟨g, j, none⟩ := fun i j h e => h (by injection e)
  intro j v hv
  match j, hv with
  | 0, hv =>
    cases hv
    rw [World.cell?_setCell_other _ _ _ _ (ne 2 (0 + 0) (by omega)), World.cell?_setCell_other _ _ _ _ (ne 1 (0 + 0) (by omega))]
    exact World.cell?_setCell_same _ _ _ h0
  | 1, hv =>
    cases hv
    rw [World.cell?_setCell_other _ _ _ _ (ne 2 (0 + 1) (by omega))]
    exact World.cell?_setCell_same _ _ _ (u := u1) (by rw [World.cell?_setCell_other _ _ _ _ (ne 0 1 (by omega))]; exact h1)
  | 2, hv =>
    cases hv
    exact World.cell?_setCell_same _ _ _ (u := u2) (by rw [World.cell?_setCell_other _ _ _ _ (ne 1 2 (by omega)), World.cell?_setCell_other _ _ _ _ (ne 0 2 (by omega))]; exact h2)

theorem kept3 (w : World) (g : Nat) (x0 x1 x2 : Value) : Kept (fun b => b = g) w (((w.setCell ⟨g, 0, none⟩ x0).setCell ⟨g, 1, none⟩ x1).setCell ⟨g, 2, none⟩ x2) :=
  (((kept_set _ _ _ _).trans (kept_set _ _ _ _)).trans (kept_set _ _ _ _)).mono (fun b _ h => by rcases h with (h | h) | h <;> exact h)

theorem cp_size {wc w : World} {n : Nat} {x0 x1 x2 : Value} (h : w.cell? ⟨n, 0, none⟩ = some x0 ∧ w.cell? ⟨n, 1, none⟩ = some x1 ∧ w.cell? ⟨n, 2, none⟩ = some x2 ∧ CpRest wc n w) : wc.heap.size ≤ w.heap.size := h.2.2.2.bel.size

end Go.Proofs.Ytbnpnhcegoanmaa.Mem
