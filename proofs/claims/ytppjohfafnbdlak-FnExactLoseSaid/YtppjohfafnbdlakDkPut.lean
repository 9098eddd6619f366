/-
  The walk of spec.l3Put: one write more on a disk of the call's own, or a refusal. No condition but three epochs and lengths of at most 2^19.
-/
import Derived.Test.YtppjohfafnbdlakDkCopy
import Derived.Test.YtppjohfafnbdlakDiskPeek
import Derived.Laws.ResultCell
namespace Go.Proofs.Ytppjohfafnbdlak.Mem
open Go.RowKit Classical
set_option linter.unusedVariables false

/-- The blocks of a disk's rows that have room. -/
def DkB (v : Value) (b : Nat) : Prop := ∃ v1 v2 v3, v = .agg #[v1, v2, v3] ∧ (rb v1 = some b ∨ rb v2 = some b ∨ rb v3 = some b)

theorem DkO.lt {w : World} {B : Nat} {v : Value} {D : Dk} (h : DkO w B v D) {b : Nat} (hb : DkB v b) : B ≤ b ∧ b < w.heap.size := by
  obtain ⟨v1, v2, v3, rfl, r1, r2, r3, _, _⟩ := h
  obtain ⟨_, _, _, e, hb⟩ := hb
  cases e
  rcases hb with hb | hb | hb
  · exact r1.lt hb
  · exact r2.lt hb
  · exact r3.lt hb

theorem DkO.kept {S : Nat → Prop} {w w' : World} {B : Nat} {v : Value} {D : Dk} (h : DkO w B v D) (k : Kept S w w') (hn : ∀ b, DkB v b → ¬ S b) : DkO w' B v D := by
  obtain ⟨v1, v2, v3, rfl, r1, r2, r3, f1, f2⟩ := h
  exact ⟨v1, v2, v3, rfl, r1.kept k (fun b hb => hn b ⟨_, _, _, rfl, Or.inl hb⟩), r2.kept k (fun b hb => hn b ⟨_, _, _, rfl, Or.inr (Or.inl hb)⟩), r3.kept k (fun b hb => hn b ⟨_, _, _, rfl, Or.inr (Or.inr hb)⟩), f1, f2⟩

theorem DkO.read {w : World} {B : Nat} {v : Value} {D : Dk} (h : DkO w B v D) : DkR w v D := h.w.read

/-- A struct out of its own block, and one temporary, handed back. -/
theorem results_row2 {P : Program} {fn : Func} {p u : Tmp} {ty : TypeId} (h : fn.results = #[.cell p ty, .tmp u]) (tmps : Array Value) (w : World) (g : Nat) (xs : List Value) (d : TypeDesc)
    (hp : tmps.getD p undef = .pointer (some ⟨g, 0, none⟩)) (hr : Row w g xs)
    (hu : P.underlying ty = some d) (hd : (match d with | .struct _ | .array _ _ => true | _ => false) = true) (hi : (P.info? ty).map (·.size) = some xs.length) :
    (results fn tmps).run P w = .ok (.tuple #[.agg xs.toArray, tmps.getD u undef]) w := by
  obtain ⟨t, hb⟩ := hr
  rw [results_cell_tmp h, hp]
  have hl := run_loadVar_row (P := P) w g t ty xs.toArray (0, 0) d hb hu hd (by simpa using hi)
  simp [asAddr, Result.andThen, hl]

/-- What Put makes of a right disk. -/
def Dk.put (D : Dk) (h e s : Int) (t : ByteArray) : Dk × Int :=
  if ((0 ≤ h ∧ h < 3) ∧ 0 ≤ s ∧ s < (D.sec.length : Int)) ∧ (t.size : Int) ≤ 700 then (if D.ep.getD h.toNat 0 = e then (if (D.pe.length : Int) < 40 then (⟨D.sec, D.ep, D.pe ++ [⟨h, e, s, t⟩]⟩, 0) else (D, 3)) else (D, 2)) else (D, 1)

/-- The sizes of a disk on which spec's own functions work. -/
structure Dk.Fit (D : Dk) : Prop where
  h1 : D.sec.length ≤ 524288
  h2 : D.ep.length = 3
  h3 : D.pe.length ≤ 524288

/-- The end of a function that hands its own disk back: the disk is laid into the result's block. -/
theorem put_end {w w2 : World} {B : Nat} {v1 v2 v3 : Value} {D : Dk} (hw : w.heap.size + 1 < w2.heap.size) (hb : Below B w w2) (hB : B ≤ w.heap.size) (O : DkO w2 B (.agg #[v1, v2, v3]) D) (hl : ∀ b, DkB (.agg #[v1, v2, v3]) b → b ≠ w.heap.size + 1) (R : Row w2 (w.heap.size + 1) [.slice none 0 0, .slice none 0 0, .slice none 0 0]) :
    DkO (((w2.setCell ⟨w.heap.size + 1, 0, none⟩ v1).setCell ⟨w.heap.size + 1, 1, none⟩ v2).setCell ⟨w.heap.size + 1, 2, none⟩ v3) B (.agg #[v1, v2, v3]) D ∧
    Below B w (((w2.setCell ⟨w.heap.size + 1, 0, none⟩ v1).setCell ⟨w.heap.size + 1, 1, none⟩ v2).setCell ⟨w.heap.size + 1, 2, none⟩ v3) ∧
    Row (((w2.setCell ⟨w.heap.size + 1, 0, none⟩ v1).setCell ⟨w.heap.size + 1, 1, none⟩ v2).setCell ⟨w.heap.size + 1, 2, none⟩ v3) (w.heap.size + 1) [v1, v2, v3] :=
  ⟨O.kept (kept3 w2 (w.heap.size + 1) v1 v2 v3) hl, below_set (below_set (below_set hb _ _ _ (by omega)) _ _ _ (by omega)) _ _ _ (by omega), ((R.set 0 v1).set 1 v2).set 2 v3⟩

theorem wCells_snoc (l : List Wt) (x : Wt) : wCells (l ++ [x]) = wCells l ++ x.cells := by
  unfold wCells
  rw [List.flatMap_append]
  simp

/-- A disk whose third list was appended to. -/
theorem DkO.more {w1 wa w2 : World} {B : Nat} {v1 v2 v3 v3' : Value} {D : Dk} {l : List Wt} (O : DkO w1 B (.agg #[v1, v2, v3]) D) (b' : Below w1.heap.size w1 wa) (k : Kept (fun b => rb v3 = some b) wa w2)
    (r : RowO w2 B 72 4 v3' l.length (wCells l)) (hi : rb v3' = none ∨ rb v3' = rb v3 ∨ (rb v3' = some wa.heap.size ∧ wa.heap.size < w2.heap.size)) : DkO w2 B (.agg #[v1, v2, v3']) ⟨D.sec, D.ep, l⟩ := by
  have hlt := fun b hb => O.lt (b := b) hb
  obtain ⟨_, _, _, e, r1, r2, r3, f1, f2⟩ := O
  cases e
  have far : ∀ b, (rb v1 = some b ∨ rb v2 = some b) → rb v3' ≠ some b := fun b hb hx => by
    have hb' : b < w1.heap.size := (hlt b ⟨_, _, _, rfl, by rcases hb with h | h; exact Or.inl h; exact Or.inr (Or.inl h)⟩).2
    rcases hi with h | h | h
    · rw [h] at hx; cases hx
    · rw [h] at hx
      rcases hb with hb | hb
      · exact (f1 b hb).2 hx
      · exact f2 b hb hx
    · rw [h.1] at hx
      cases hx
      have := b'.size
      omega
  refine ⟨v1, v2, v3', rfl, (r1.below b').kept k (fun b h1 h3 => (f1 b h1).2 h3), (r2.below b').kept k (fun b h2 h3 => f2 b h2 h3), r, fun b hb => ⟨(f1 b hb).1, far b (Or.inl hb)⟩, fun b hb => far b (Or.inr hb)⟩

theorem DkO.more1 {w1 wa w2 : World} {B : Nat} {v1 v2 v3 v3' : Value} {D : Dk} {x : Wt} (O : DkO w1 B (.agg #[v1, v2, v3]) D) (b : Below w1.heap.size w1 wa) (k : Kept (fun b => rb v3 = some b) wa w2)
    (r : RowO w2 B 72 4 v3' (D.pe.length + 1) (wCells D.pe ++ x.cells)) (hi : rb v3' = none ∨ rb v3' = rb v3 ∨ (rb v3' = some wa.heap.size ∧ wa.heap.size < w2.heap.size)) : DkO w2 B (.agg #[v1, v2, v3']) ⟨D.sec, D.ep, D.pe ++ [x]⟩ := by
  rw [← wCells_snoc] at r
  exact O.more b k (by rw [List.length_append]; exact r) hi

/-- Where the blocks of a disk lie whose third list was appended to. -/
theorem more_far {w wa w2 : World} {B n : Nat} {v1 v2 v3 v3' : Value} {D : Dk} (O : DkO w B (.agg #[v1, v2, v3]) D) (hn : w.heap.size ≤ n) (hw : n < wa.heap.size) (hi : rb v3' = none ∨ rb v3' = rb v3 ∨ (rb v3' = some wa.heap.size ∧ wa.heap.size < w2.heap.size)) :
    ∀ b, DkB (.agg #[v1, v2, v3']) b → b ≠ n := by
  rintro b ⟨_, _, _, e, hb⟩ rfl
  cases e
  rcases hb with hb | hb | hb
  · have := (O.lt ⟨_, _, _, rfl, Or.inl hb⟩).2; omega
  · have := (O.lt ⟨_, _, _, rfl, Or.inr (Or.inl hb)⟩).2; omega
  · rcases hi with h | h | h
    · rw [h] at hb; cases hb
    · rw [h] at hb
      have := (O.lt ⟨_, _, _, rfl, Or.inr (Or.inr hb)⟩).2; omega
    · rw [h.1] at hb; cases hb; omega

theorem sl_lit (w : World) (cs : List Value) (t : TypeId) (m : Nat) (h : cs.length = m) : Sl (w.alloc (.cells cs.toArray t)) (some ⟨w.heap.size, 0, none⟩) m (fun i => cs.getD i undef) :=
  (wr_new w cs.toArray t m _ (fun i hi => by
    have hi' : i < cs.length := by omega
    rw [List.getElem?_toArray, List.getElem?_eq_getElem hi', List.getD_eq_getElem?_getD, List.getElem?_eq_getElem hi']
    rfl)).sl

end Go.Proofs.Ytppjohfafnbdlak.Mem
