/-
  The walk of spec.l3Copy: a disk laid anew, with rows of its own. No condition but lengths of at most 2^20.
-/
import Derived.Test.YtbnmcbbpbiofgaaToDisk
import Derived.Test.YtbnmcbbpbiofgaaAppRow
import Derived.RegionTactic
import Derived.BigRegion
import Derived.Deep.RegionWith
import Derived.Deep.RegionLaw
import Derived.Deep.RegionHeldLaw
namespace Go.Proofs.Ytbnmcbbpbiofgaa.Mem
open Go.RowKit
set_option linter.unusedVariables false

/-- The cells of a disk's three lists. -/
def sCells (l : List ByteArray) : List Value := l.map .string
def iCells (l : List Int) : List Value := l.map (.int .i64)
def wCells (l : List Wt) : List Value := l.flatMap Wt.cells

theorem wCells_length (l : List Wt) : (wCells l).length = l.length * 4 := by
  induction l with
  | nil => rfl
  | cons x l ih =>
    show (x.cells ++ wCells l).length = _
    rw [List.length_append, ih]
    simp [Wt.cells]; omega

theorem wCells_at (l : List Wt) (i : Nat) (h : i < l.length * 4) : (wCells l).getD i undef = wcell l i := by
  induction l generalizing i with
  | nil => simp at h
  | cons x l ih =>
    show (x.cells ++ wCells l).getD i undef = _
    have hx : x.cells.length = 4 := rfl
    rw [List.getD_eq_getElem?_getD]
    by_cases h4 : i < 4
    · rw [List.getElem?_append_left (by omega)]
      unfold wcell
      rw [show i / 4 = 0 by omega, show i % 4 = i by omega]
      rw [List.getD_eq_getElem?_getD]
      rfl
    · rw [List.getElem?_append_right (by omega), hx, ← List.getD_eq_getElem?_getD, ih (i - 4) (by simp at h; omega)]
      unfold wcell
      rw [show (i - 4) % 4 = i % 4 by omega]
      obtain ⟨q, hq⟩ : ∃ q, i / 4 = q + 1 := ⟨i / 4 - 1, by omega⟩
      rw [hq, show (i - 4) / 4 = q by omega]
      rfl

theorem sCells_at (l : List ByteArray) (i : Nat) (h : i < l.length) : (sCells l).getD i undef = .string (l.getD i ByteArray.empty) := by
  unfold sCells
  simp [List.getD_eq_getElem?_getD, h]
theorem iCells_at (l : List Int) (i : Nat) (h : i < l.length) : (iCells l).getD i undef = .int .i64 (l.getD i 0) := by
  unfold iCells
  simp [List.getD_eq_getElem?_getD, h]

theorem strs_sl {w : World} {a : Option Addr} {l : List ByteArray} (h : Strs w a l) : Sl w a (l.length * 1) (fun i => (sCells l).getD i undef) := by
  rw [Nat.mul_one]; exact Sl.congr h (fun i hi => (sCells_at l i hi).symm)
theorem ints_sl {w : World} {a : Option Addr} {l : List Int} (h : Ints w a l) : Sl w a (l.length * 1) (fun i => (iCells l).getD i undef) := by
  rw [Nat.mul_one]; exact Sl.congr h (fun i hi => (iCells_at l i hi).symm)
theorem wts_sl {w : World} {a : Option Addr} {l : List Wt} (h : Wts w a l) : Sl w a (l.length * 4) (fun i => (wCells l).getD i undef) :=
  Sl.congr h (fun i hi => (wCells_at l i hi).symm)
theorem sCells_one (l : List ByteArray) : ∀ u ∈ sCells l, u.oneCell' = true := fun u hu => by
  obtain ⟨x, _, rfl⟩ := List.mem_map.1 hu; rfl
theorem iCells_one (l : List Int) : ∀ u ∈ iCells l, u.oneCell' = true := fun u hu => by
  obtain ⟨x, _, rfl⟩ := List.mem_map.1 hu; rfl
theorem wCells_one (l : List Wt) : ∀ u ∈ wCells l, u.oneCell' = true := fun u hu => by
  obtain ⟨x, _, hx⟩ := List.mem_flatMap.1 hu
  unfold Wt.cells at hx
  simp only [List.mem_cons, List.not_mem_nil, or_false] at hx
  rcases hx with rfl | rfl | rfl | rfl <;> rfl

/-- A disk of the call's own: three rows, no two in one block. -/
def DkO (w : World) (B : Nat) (v : Value) (D : Dk) : Prop := ∃ v1 v2 v3, v = .agg #[v1, v2, v3] ∧ RowO w B 9 1 v1 D.sec.length (sCells D.sec) ∧ RowO w B 3 1 v2 D.ep.length (iCells D.ep) ∧ RowO w B 36 4 v3 D.pe.length (wCells D.pe) ∧
  (∀ b, rb v1 = some b → rb v2 ≠ some b ∧ rb v3 ≠ some b) ∧ (∀ b, rb v2 = some b → rb v3 ≠ some b)

theorem DkO.w {w : World} {B : Nat} {v : Value} {D : Dk} (h : DkO w B v D) : DkW w B v D := by
  obtain ⟨v1, v2, v3, rfl, r1, r2, r3, f1, f2⟩ := h
  obtain ⟨a1, c1, e1, w1⟩ := r1.wr
  obtain ⟨a2, c2, e2, w2⟩ := r2.wr
  obtain ⟨a3, c3, e3, w3⟩ := r3.wr
  refine ⟨a1, c1, a2, c2, a3, c3, by rw [e1, e2, e3], ?_, ?_, ?_, ?_, ?_⟩
  · rw [Nat.mul_one] at w1; exact w1.congr (fun i hi => sCells_at _ i hi)
  · rw [Nat.mul_one] at w2; exact w2.congr (fun i hi => iCells_at _ i hi)
  · exact w3.congr (fun i hi => wCells_at _ i hi)
  · intro b hb
    have hb1 := r1.foot e1 (b := b) (by rw [Nat.mul_one]; exact hb)
    exact ⟨fun h2 => (f1 b hb1).1 (r2.foot e2 (by rw [Nat.mul_one]; exact h2)), fun h3 => (f1 b hb1).2 (r3.foot e3 h3)⟩
  · intro b hb h3
    exact f2 b (r2.foot e2 (by rw [Nat.mul_one]; exact hb)) (r3.foot e3 h3)

theorem DkO.below {w w' : World} {B : Nat} {v : Value} {D : Dk} (h : DkO w B v D) (b : Below w.heap.size w w') : DkO w' B v D := by
  obtain ⟨v1, v2, v3, e, r1, r2, r3, f1, f2⟩ := h
  exact ⟨v1, v2, v3, e, r1.below b, r2.below b, r3.below b, f1, f2⟩

theorem info9' : (Try.prog.info? 9).map (fun i => (i.zero, i.size, i.bytes)) = some (some (.string ByteArray.empty), 1, 16) := by kernel_rfl
theorem info3' : (Try.prog.info? 3).map (fun i => (i.zero, i.size, i.bytes)) = some (some (.int .i64 0), 1, 8) := by kernel_rfl

/-- What stays while a disk is copied, beside the argument's three cells: all up to block n, and that the result's three cells may be written. -/
structure CpRest (wc : World) (n : Nat) (w : World) : Prop where
  bel : Below (n + 1) wc w
  s : ∀ j, j < 3 → ∃ u, w.cell? ⟨n + 1, j, none⟩ = some u
  f : ∀ j, j < 3 → w.frozen? ⟨n + 1, j, none⟩ = false

theorem CpRest.below {wc w w' : World} {n : Nat} (h : CpRest wc n w) (b : Below w.heap.size w w') (hn : n + 1 ≤ wc.heap.size) : CpRest wc n w' :=
  ⟨h.bel.trans (b.mono (Nat.le_trans hn h.bel.size)), fun j hj => by
    obtain ⟨u, hu⟩ := h.s j hj
    exact ⟨u, (b.cell (p := ⟨n + 1, j, none⟩) (World.block_lt_of_cell? w _ hu)).trans hu⟩, fun j hj => by
    obtain ⟨u, hu⟩ := h.s j hj
    exact (b.frozen (p := ⟨n + 1, j, none⟩) (World.block_lt_of_cell? w _ hu)).trans (h.f j hj)⟩

theorem CpRest.set {wc w : World} {n : Nat} (h : CpRest wc n w) (i : Nat) (v : Value) : CpRest wc n (w.setCell ⟨n + 1, i, none⟩ v) :=
  ⟨h.bel.setCell (Nat.le_refl _) v, fun j hj => by
    obtain ⟨u, hu⟩ := h.s j hj
    exact cell?_setCell_some hu, fun j hj => by rw [World.frozen?_setCell]; exact h.f j hj⟩

theorem cp_below {wc w w' : World} {n : Nat} {x0 x1 x2 : Value} (hn : n + 1 ≤ wc.heap.size) (b : Below w.heap.size w w') (h : w.cell? ⟨n, 0, none⟩ = some x0 ∧ w.cell? ⟨n, 1, none⟩ = some x1 ∧ w.cell? ⟨n, 2, none⟩ = some x2 ∧ CpRest wc n w) : w'.cell? ⟨n, 0, none⟩ = some x0 ∧ w'.cell? ⟨n, 1, none⟩ = some x1 ∧ w'.cell? ⟨n, 2, none⟩ = some x2 ∧ CpRest wc n w' := by
  obtain ⟨h0, h1, h2, hb⟩ := h
  exact ⟨(b.cell (p := ⟨n, 0, none⟩) (World.block_lt_of_cell? w _ h0)).trans h0, (b.cell (p := ⟨n, 1, none⟩) (World.block_lt_of_cell? w _ h1)).trans h1, (b.cell (p := ⟨n, 2, none⟩) (World.block_lt_of_cell? w _ h2)).trans h2, hb.below b hn⟩

theorem cp_alloc {wc w : World} {n : Nat} {x0 x1 x2 : Value} (hn : n + 1 ≤ wc.heap.size) (h : w.cell? ⟨n, 0, none⟩ = some x0 ∧ w.cell? ⟨n, 1, none⟩ = some x1 ∧ w.cell? ⟨n, 2, none⟩ = some x2 ∧ CpRest wc n w) (o : Obj) : (w.alloc o).cell? ⟨n, 0, none⟩ = some x0 ∧ (w.alloc o).cell? ⟨n, 1, none⟩ = some x1 ∧ (w.alloc o).cell? ⟨n, 2, none⟩ = some x2 ∧ CpRest wc n (w.alloc o) :=
  cp_below hn ((Below.refl _ _).alloc (Nat.le_refl _) o) h

theorem cp_alloc_drew {wc w : World} {n : Nat} {x0 x1 x2 : Value} (hn : n + 1 ≤ wc.heap.size) (h : w.drew.cell? ⟨n, 0, none⟩ = some x0 ∧ w.drew.cell? ⟨n, 1, none⟩ = some x1 ∧ w.drew.cell? ⟨n, 2, none⟩ = some x2 ∧ CpRest wc n (w.drew)) (o : Obj) : (w.alloc o).drew.cell? ⟨n, 0, none⟩ = some x0 ∧ (w.alloc o).drew.cell? ⟨n, 1, none⟩ = some x1 ∧ (w.alloc o).drew.cell? ⟨n, 2, none⟩ = some x2 ∧ CpRest wc n ((w.alloc o).drew) := cp_alloc (w := w.drew) hn h o

theorem cp_set {wc w : World} {n : Nat} {x0 x1 x2 : Value} (h : w.cell? ⟨n, 0, none⟩ = some x0 ∧ w.cell? ⟨n, 1, none⟩ = some x1 ∧ w.cell? ⟨n, 2, none⟩ = some x2 ∧ CpRest wc n w) (i : Nat) (v : Value) : (w.setCell ⟨n + 1, i, none⟩ v).cell? ⟨n, 0, none⟩ = some x0 ∧ (w.setCell ⟨n + 1, i, none⟩ v).cell? ⟨n, 1, none⟩ = some x1 ∧ (w.setCell ⟨n + 1, i, none⟩ v).cell? ⟨n, 2, none⟩ = some x2 ∧ CpRest wc n (w.setCell ⟨n + 1, i, none⟩ v) := by
  obtain ⟨h0, h1, h2, hb⟩ := h
  have ne : ∀ j, (⟨n + 1, i, none⟩ : Addr) ≠ ⟨n, j, none⟩ := fun j e => by injection e; omega
  exact ⟨by rw [World.cell?_setCell_other _ _ _ _ (ne 0)]; exact h0, by rw [World.cell?_setCell_other _ _ _ _ (ne 1)]; exact h1, by rw [World.cell?_setCell_other _ _ _ _ (ne 2)]; exact h2, hb.set i v⟩

theorem cp_sl {w0 wc w : World} {n : Nat} {x0 x1 x2 : Value} {a : Option Addr} {m : Nat} {f : Nat → Value} (hS : Sl w0 a m f) (hB : Below w0.heap.size w0 wc) (hn : w0.heap.size = n) (h : w.cell? ⟨n, 0, none⟩ = some x0 ∧ w.cell? ⟨n, 1, none⟩ = some x1 ∧ w.cell? ⟨n, 2, none⟩ = some x2 ∧ CpRest wc n w) : Sl w a m f :=
  hS.below (hB.trans (h.2.2.2.bel.mono (by omega)))

theorem below_a1 {w w' : World} {o : Obj} (b : Below (w.alloc o).heap.size (w.alloc o) w') : Below w.heap.size w w' :=
  ((Below.refl _ _).alloc (Nat.le_refl _) o).trans (b.mono (Nat.le_of_lt (lt_alloc w o)))
theorem below_a2 {w w' : World} {o p : Obj} (b : Below ((w.alloc o).alloc p).heap.size ((w.alloc o).alloc p) w') : Below w.heap.size w w' := below_a1 (below_a1 b)

/-- Rows that were laid one after the other lie in blocks of their own. -/
theorem apart_fresh {v1 v2 : Value} {n1 n2 s1 s2 z : Nat} {p2 : Prop} (z1 : n1 = 0 → rb v1 = none) (y1 : 0 < n1 → rb v1 = some s1 ∧ s1 < z) (z2 : n2 = 0 → rb v2 = none) (y2 : 0 < n2 → rb v2 = some s2 ∧ p2) (h : z ≤ s2) : ∀ b, rb v1 = some b → rb v2 ≠ some b := by
  intro b h1 h2
  rcases Nat.eq_zero_or_pos n1 with e | e
  · rw [z1 e] at h1; cases h1
  rcases Nat.eq_zero_or_pos n2 with e' | e'
  · rw [z2 e'] at h2; cases h2
  have q1 := (y1 e).1.symm.trans h1
  have q2 := (y2 e').1.symm.trans h2
  have := (y1 e).2
  cases q1
  cases q2
  omega

/-- A struct that is handed back out of cells that are known. -/
theorem results_mid {P : Program} {fn : Func} {p : Tmp} {ty : TypeId} (h : fn.results = #[.cell p ty]) (tmps : Array Value) (w : World) (g : Nat) (xs : List Value) (d : TypeDesc)
    (hp : tmps.getD p undef = .pointer (some ⟨g, 0, none⟩)) (hr : w.rangeAt g 0 xs)
    (hu : P.underlying ty = some d) (hd : d.isRow = true) (hi : (P.info? ty).map (·.size) = some xs.length) :
    (results fn tmps).run P w = .ok (.agg xs.toArray) w := by
  have hp' : tmps[p]?.getD undef = .pointer (some ⟨g, 0, none⟩) := by simpa using hp
  simp [results, h, hp', asAddr, run_loadVar_mid w g 0 ty xs d hr hu hd hi]

theorem range3 {w : World} {g : Nat} {x0 x1 x2 u0 u1 u2 : Value} (h0 : w.cell? ⟨g, 0, none⟩ = some u0) (h1 : w.cell? ⟨g, 1, none⟩ = some u1) (h2 : w.cell? ⟨g, 2, none⟩ = some u2) :
    (((w.setCell ⟨g, 0, none⟩ x0).setCell ⟨g, 1, none⟩ x1).setCell ⟨g, 2, none⟩ x2).rangeAt g 0 [x0, x1, x2] := by
  have ne : ∀ i j, i ≠ j → (⟨g, i, none⟩ : Addr) ≠ ⟨g, j, none⟩ := fun i j h e => h (by injection e)
  intro j v hv
  match j, hv with
  | 0, hv =>
    cases hv
    rw [World.cell?_setCell_other _ _ _ _ (ne 2 (0 + 0) (by omega)), World.cell?_setCell_other _ _ _ _ (ne 1 (0 + 0) (by omega))]
    exact World.cell?_setCell_same _ _ _ h0
  | 1, hv =>
    cases hv
    rw [World.cell?_setCell_other _ _ _ _ (ne 2 (0 + 1) (by omega))]
    exact World.cell?_setCell_same _ _ _ (u := u1) (by rw [World.cell?_setCell_other _ _ _ _ (ne 0 1 (by omega))]; exact h1)
  | 2, hv =>
    cases hv
    exact World.cell?_setCell_same _ _ _ (u := u2) (by rw [World.cell?_setCell_other _ _ _ _ (ne 1 2 (by omega)), World.cell?_setCell_other _ _ _ _ (ne 0 2 (by omega))]; exact h2)

theorem kept3 (w : World) (g : Nat) (x0 x1 x2 : Value) : Kept (fun b => b = g) w (((w.setCell ⟨g, 0, none⟩ x0).setCell ⟨g, 1, none⟩ x1).setCell ⟨g, 2, none⟩ x2) :=
  (((kept_set _ _ _ _).trans (kept_set _ _ _ _)).trans (kept_set _ _ _ _)).mono (fun b _ h => by rcases h with (h | h) | h <;> exact h)

theorem cp_size {wc w : World} {n : Nat} {x0 x1 x2 : Value} (h : w.cell? ⟨n, 0, none⟩ = some x0 ∧ w.cell? ⟨n, 1, none⟩ = some x1 ∧ w.cell? ⟨n, 2, none⟩ = some x2 ∧ CpRest wc n w) : wc.heap.size ≤ w.heap.size := h.2.2.2.bel.size

theorem copy_end {w wc w3 : World} {v1 v2 v3 : Value} {D : Dk} (ec : wc.heap.size = w.heap.size + 1 + 1) (hB : Below w.heap.size w wc) (hb : Below (w.heap.size + 1) wc w3)
    (r1 : RowO w3 wc.heap.size 9 1 v1 D.sec.length (sCells D.sec)) (r2 : RowO w3 wc.heap.size 3 1 v2 D.ep.length (iCells D.ep)) (r3 : RowO w3 wc.heap.size 36 4 v3 D.pe.length (wCells D.pe))
    (s12 : ∀ b, rb v1 = some b → rb v2 ≠ some b) (s13 : ∀ b, rb v1 = some b → rb v3 ≠ some b) (s23 : ∀ b, rb v2 = some b → rb v3 ≠ some b) :
    DkO (((w3.setCell ⟨w.heap.size + 1, 0, none⟩ v1).setCell ⟨w.heap.size + 1, 1, none⟩ v2).setCell ⟨w.heap.size + 1, 2, none⟩ v3) w.heap.size (.agg [v1, v2, v3].toArray) D ∧
    Below w.heap.size w (((w3.setCell ⟨w.heap.size + 1, 0, none⟩ v1).setCell ⟨w.heap.size + 1, 1, none⟩ v2).setCell ⟨w.heap.size + 1, 2, none⟩ v3) := by
  have k := kept3 w3 (w.heap.size + 1) v1 v2 v3
  refine ⟨⟨v1, v2, v3, rfl, ?_, ?_, ?_, fun b h => ⟨s12 b h, s13 b h⟩, s23⟩, ?_⟩
  · exact (r1.kept k (fun b h e => by have := (r1.lt h).1; omega)).mono (by omega)
  · exact (r2.kept k (fun b h e => by have := (r2.lt h).1; omega)).mono (by omega)
  · exact (r3.kept k (fun b h e => by have := (r3.lt h).1; omega)).mono (by omega)
  · exact below_set (below_set (below_set (hB.trans (hb.mono (by omega))) _ _ _ (by omega)) _ _ _ (by omega)) _ _ _ (by omega)

set_option maxRecDepth 100000 in
set_option maxHeartbeats 2000000 in
theorem l3Copy (w : World) (v : Value) (D : Dk) (h : DkR w v D) (h1 : D.sec.length ≤ 1048576) (h2 : D.ep.length ≤ 1048576) (h3 : D.pe.length ≤ 1048576) :
    Calls Try.prog 40 #[v] w fun e w' => ∃ v', e = .returned v' ∧ DkO w' w.heap.size v' D ∧ Below w.heap.size w w' := by
  obtain ⟨a1, c1, a2, c2, a3, c3, rfl, s1, s2, s3⟩ := h
  have HS1 := hid (strs_sl s1)
  have HS2 := hid (ints_sl s2)
  have HS3 := hid (wts_sl s3)
  clear s1 s2 s3
  go_enter Try.func40, Try.ntmps40
  go_wp2
  obtain ⟨wc, hwc, ec, A0, R0, B0⟩ := two_new w [.slice a1 D.sec.length c1, .slice a2 D.ep.length c2, .slice a3 D.pe.length c3] [.slice none 0 0, .slice none 0 0, .slice none 0 0] 28 28
  simp only [hwc]
  clear hwc
  have k0 := A0.c 0 rfl
  have k1 := A0.c 1 rfl
  have k2 := A0.c 2 rfl
  have HB := hid B0
  have hn : w.heap.size + 1 ≤ wc.heap.size := by omega
  have hcp : CpRest wc w.heap.size wc.drew := ⟨(Below.refl _ wc).drew, fun j hj => by
    match j, hj with
    | 0, _ => exact ⟨_, R0.c 0 rfl⟩
    | 1, _ => exact ⟨_, R0.c 1 rfl⟩
    | 2, _ => exact ⟨_, R0.c 2 rfl⟩, fun j _ => R0.f j⟩
  have Q0 := hid (show wc.drew.cell? ⟨w.heap.size, 0, none⟩ = some (.slice a1 D.sec.length c1) ∧ wc.drew.cell? ⟨w.heap.size, 1, none⟩ = some (.slice a2 D.ep.length c2) ∧ wc.drew.cell? ⟨w.heap.size, 2, none⟩ = some (.slice a3 D.pe.length c3) ∧ CpRest wc w.heap.size wc.drew from ⟨k0, k1, k2, hcp⟩)
  clear A0 R0 B0 hcp k0 k1 k2
  go_region_held_law (fun w' => w'.cell? ⟨w.heap.size, 0, none⟩ = some (.slice a1 D.sec.length c1) ∧ w'.cell? ⟨w.heap.size, 1, none⟩ = some (.slice a2 D.ep.length c2) ∧ w'.cell? ⟨w.heap.size, 2, none⟩ = some (.slice a3 D.pe.length c3) ∧ CpRest wc w.heap.size w')
    (first | with_reducible exact Q0.out | with_reducible exact Q3.out | with_reducible exact Q2.out | with_reducible exact Q1.out | (with_reducible refine cp_alloc_drew hn ?_ _; with_reducible assumption) | (with_reducible refine cp_alloc hn ?_ _; with_reducible assumption) | (with_reducible refine cp_set (cp_set (cp_set ?_ 0 _) 1 _) 2 _; with_reducible assumption))
    (first
      | (refine step_app_empty 24 9 (.string ByteArray.empty) 1 16 Try.underlying24 info9' rfl (by decide) (by decide) rfl (.tmp 3) (.tmp 5) rfl _ rfl a1 D.sec.length c1 (sCells D.sec) rfl (by simp [sCells]) (cp_sl HS1.out HB.out rfl (by with_reducible assumption)) (sCells_one _) h1 ?_; intro v1 w1 r1 b1 z1 y1; replace r1 := r1.mono (cp_size (wc := wc) (n := w.heap.size) (x0 := .slice a1 D.sec.length c1) (x1 := .slice a2 D.ep.length c2) (x2 := .slice a3 D.pe.length c3) (by with_reducible assumption)); obtain ⟨p1, d1, e1, _⟩ := r1.wr; subst e1; have Q1 := hid (cp_below (wc := wc) (n := w.heap.size) (x0 := .slice a1 D.sec.length c1) (x1 := .slice a2 D.ep.length c2) (x2 := .slice a3 D.pe.length c3) hn b1 (by with_reducible assumption)); have R1 := hid r1; have Z1 := hid z1; have Y1 := hid y1; clear r1 b1 z1 y1)
      | (refine step_app_empty 26 36 Wt.none.val 4 40 Try.underlying26 infoW rfl (by decide) (by decide) rfl (.tmp 11) (.tmp 13) rfl _ rfl a3 D.pe.length c3 (wCells D.pe) rfl (wCells_length _) (cp_sl HS3.out HB.out rfl (by with_reducible assumption)) (wCells_one _) h3 ?_; intro v3 w3 r3 b3 z3 y3; replace r3 := r3.mono (cp_size (wc := wc) (n := w.heap.size) (x0 := .slice a1 D.sec.length c1) (x1 := .slice a2 D.ep.length c2) (x2 := .slice a3 D.pe.length c3) (by with_reducible assumption)); obtain ⟨p3, d3, e3, _⟩ := r3.wr; subst e3; have Q3 := hid (cp_below (wc := wc) (n := w.heap.size) (x0 := .slice a1 D.sec.length c1) (x1 := .slice a2 D.ep.length c2) (x2 := .slice a3 D.pe.length c3) hn b3 (by with_reducible assumption)); have T23 := hid (show Below w2.heap.size w2 w3 from (by first | with_reducible exact b3 | with_reducible exact below_a1 b3 | with_reducible exact below_a2 b3)); have R1'' := hid (R1'.out.below T23.out); have R2' := hid (R2.out.below T23.out); have S23 := hid (apart_fresh Z2.out Y2.out z3 y3 (by first | with_reducible exact Nat.le_refl _ | with_reducible exact Nat.le_of_lt (lt_alloc _ _) | with_reducible exact Nat.le_of_lt (Nat.lt_trans (lt_alloc _ _) (lt_alloc _ _)))); have S13 := hid (apart_fresh Z1.out Y1.out z3 y3 (Nat.le_trans T12.out.size (by first | with_reducible exact Nat.le_refl _ | with_reducible exact Nat.le_of_lt (lt_alloc _ _) | with_reducible exact Nat.le_of_lt (Nat.lt_trans (lt_alloc _ _) (lt_alloc _ _))))); obtain ⟨u0, g0⟩ := Q3.out.2.2.2.s 0 (by decide); obtain ⟨u1, g1⟩ := Q3.out.2.2.2.s 1 (by decide); obtain ⟨u2, g2⟩ := Q3.out.2.2.2.s 2 (by decide); have f0 := Q3.out.2.2.2.f 0 (by decide); have f1 := Q3.out.2.2.2.f 1 (by decide); have f2 := Q3.out.2.2.2.f 2 (by decide); have R3 := hid r3; have Z3 := hid z3; have Y3 := hid y3; clear r3 b3 z3 y3)
      | (refine step_app_empty 25 3 (.int .i64 0) 1 8 Try.underlying25 info3' rfl (by decide) (by decide) rfl (.tmp 7) (.tmp 9) rfl _ rfl a2 D.ep.length c2 (iCells D.ep) rfl (by simp [iCells]) (cp_sl HS2.out HB.out rfl (by with_reducible assumption)) (iCells_one _) h2 ?_; intro v2 w2 r2 b2 z2 y2; replace r2 := r2.mono (cp_size (wc := wc) (n := w.heap.size) (x0 := .slice a1 D.sec.length c1) (x1 := .slice a2 D.ep.length c2) (x2 := .slice a3 D.pe.length c3) (by with_reducible assumption)); obtain ⟨p2, d2, e2, _⟩ := r2.wr; subst e2; have Q2 := hid (cp_below (wc := wc) (n := w.heap.size) (x0 := .slice a1 D.sec.length c1) (x1 := .slice a2 D.ep.length c2) (x2 := .slice a3 D.pe.length c3) hn b2 (by with_reducible assumption)); have T12 := hid (show Below w1.heap.size w1 w2 from (by first | with_reducible exact b2 | with_reducible exact below_a1 b2 | with_reducible exact below_a2 b2)); have R1' := hid (R1.out.below T12.out); have S12 := hid (apart_fresh Z1.out Y1.out z2 y2 (by first | with_reducible exact Nat.le_refl _ | with_reducible exact Nat.le_of_lt (lt_alloc _ _) | with_reducible exact Nat.le_of_lt (Nat.lt_trans (lt_alloc _ _) (lt_alloc _ _)))); have R2 := hid r2; have Z2 := hid z2; have Y2 := hid y2; clear r2 b2 z2 y2))
  all_goals clear Q0
  all_goals (go_wp2; refine bodyPost_ret (results_mid rfl _ _ (w.heap.size + 1) [.slice p1 D.sec.length d1, .slice p2 D.ep.length d2, .slice p3 D.pe.length d3] _ rfl (range3 g0 g1 g2) Try.underlying28 rfl (by kernel_rfl)) rfl ?_; exact ⟨_, rfl, copy_end ec HB.out Q3.out.2.2.2.bel R1''.out R2'.out R3.out S12.out S13.out S23.out⟩)

end Go.Proofs.Ytbnmcbbpbiofgaa.Mem
