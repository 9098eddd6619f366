/-
  A list of volumes that a call makes by append, each with two lists of its own. No condition.
-/
import Derived.Test.YtbnpnhcegoanmaaPpMk
import Derived.Test.YtbnpnhcegoanmaaAppRow
namespace Go.Proofs.Ytbnpnhcegoanmaa.Pl
open Go.RowKit Go.Proofs.Ytbnpnhcegoanmaa.Mem
set_option linter.unusedVariables false

theorem sl_cells (w : World) (cs : List Value) (t : TypeId) (m : Nat) (h : cs.length = m) : Sl (w.alloc (.cells cs.toArray t)) (some ⟨w.heap.size, 0, none⟩) m (fun i => cs.getD i undef) :=
  (wr_new w cs.toArray t m _ (fun i hi => by
    have hi' : i < cs.length := by omega
    rw [List.getElem?_toArray, List.getElem?_eq_getElem hi', List.getD_eq_getElem?_getD, List.getElem?_eq_getElem hi']
    rfl)).sl

def pcs (l : List Pv) : List Value := l.flatMap Pv.cells
theorem pcs_length (l : List Pv) : (pcs l).length = l.length * 3 := by
  induction l with
  | nil => rfl
  | cons x l ih =>
    show (x.cells ++ pcs l).length = _
    rw [List.length_append, ih]
    simp [Pv.cells]; omega
theorem pcs_at (l : List Pv) (i : Nat) (h : i < l.length * 3) : (pcs l).getD i undef = pcell l i := by
  induction l generalizing i with
  | nil => simp at h
  | cons x l ih =>
    show (x.cells ++ pcs l).getD i undef = _
    have hx : x.cells.length = 3 := rfl
    rw [List.getD_eq_getElem?_getD]
    by_cases h4 : i < 3
    · rw [List.getElem?_append_left (by omega)]
      unfold pcell
      rw [show i / 3 = 0 by omega, show i % 3 = i by omega]
      rw [List.getD_eq_getElem?_getD]
      rfl
    · rw [List.getElem?_append_right (by omega), hx, ← List.getD_eq_getElem?_getD, ih (i - 3) (by simp at h; omega)]
      unfold pcell
      rw [show (i - 3) % 3 = i % 3 by omega]
      congr 2
      rw [show i / 3 = (i - 3) / 3 + 1 by omega]
      rfl
theorem pcs_more (l : List Pv) (x : Pv) : pcs (l ++ [x]) = pcs l ++ x.cells := by simp [pcs]

/-- The list so far: its row and what it holds in blocks from C on, apart from one another. -/
structure Grw (C : Nat) (M : List Pv) (v : Value) (w : World) : Prop where
  row : RowO w C 67 3 v M.length (pcs M)
  laid : PvLaid w C M
  off : ∀ x ∈ M, ∀ b, x.foot b → ¬ rb v = some b
  ge : C ≤ w.heap.size

theorem grw_none (C : Nat) (b : Option Addr) (w : World) (h : C ≤ w.heap.size) : Grw C [] (.slice b 0 0) w :=
  ⟨Or.inl ⟨b, rfl, rfl, rfl⟩, ⟨fun x hx => by simp at hx, fun x hx => by simp at hx, List.Pairwise.nil⟩, fun x hx => by simp at hx, h⟩

theorem Grw.below {C : Nat} {M : List Pv} {v : Value} {w w' : World} (h : Grw C M v w) (k : Below w.heap.size w w') : Grw C M v w' :=
  ⟨RowO.below h.row k, h.laid.below k, h.off, Nat.le_trans h.ge k.size⟩
theorem Grw.alloc {C : Nat} {M : List Pv} {v : Value} {w : World} (h : Grw C M v w) (o : Obj) : Grw C M v (w.alloc o) := h.below ((Below.refl _ _).alloc (Nat.le_refl _) o)
theorem Grw.kept {S : Nat → Prop} {C : Nat} {M : List Pv} {v : Value} {w w' : World} (h : Grw C M v w) (k : Kept S w w') (hn : ∀ b, C ≤ b → ¬ S b) : Grw C M v w' :=
  ⟨RowO.kept h.row k (fun b hb => hn b (RowO.lt h.row hb).1), h.laid.kept k hn, h.off, Nat.le_trans h.ge k.size⟩

/-- A volume of its own: two lists in blocks from C on, apart. -/
structure Two (C : Nat) (x : Pv) (w : World) : Prop where
  has : BlsW w C x.ha x.hs
  txt : StrsW w C x.ta x.ts
  own : ∀ b, foot x.ha x.hs.length b → ¬ foot x.ta x.ts.length b
theorem Two.below {C : Nat} {x : Pv} {w w' : World} (h : Two C x w) (k : Below w.heap.size w w') : Two C x w' := ⟨Wr.below h.has k, Wr.below h.txt k, h.own⟩
theorem Two.mono {C C' : Nat} {x : Pv} {w : World} (h : Two C x w) (hc : C' ≤ C) : Two C' x w := ⟨Wr.mono h.has hc, Wr.mono h.txt hc, h.own⟩
theorem Two.foot {C : Nat} {x : Pv} {w : World} (h : Two C x w) {b : Nat} (hb : x.foot b) : C ≤ b ∧ b < w.heap.size := by
  rcases hb with hb | hb
  · exact ⟨Wr.foot_ge h.has hb, Sl.lt h.has.sl hb⟩
  · exact ⟨Wr.foot_ge h.txt hb, Sl.lt h.txt.sl hb⟩
theorem Two.kept {S : Nat → Prop} {C : Nat} {x : Pv} {w w' : World} (h : Two C x w) (k : Kept S w w') (hn : ∀ b, C ≤ b → ¬ S b) : Two C x w' :=
  ⟨Wr.move h.has k (fun b hb => hn b (Wr.foot_ge h.has hb)), Wr.move h.txt k (fun b hb => hn b (Wr.foot_ge h.txt hb)), h.own⟩

/-- One more: the list was made when the blocks ended at E, the volume lies from E on. -/
theorem Grw.more {C E : Nat} {M : List Pv} {v v' : Value} {x : Pv} {w0 w w1 : World} (h0 : Grw C M v w0) (hE : w0.heap.size ≤ E) (hb : Below w0.heap.size w0 w) (hx : Two E x w)
    (r : RowO w1 C 67 3 v' (M.length + 1) (pcs M ++ x.cells)) (k : Kept (fun b => rb v = some b) w w1) (t : rb v' = none ∨ rb v' = rb v ∨ (rb v' = some w.heap.size ∧ w.heap.size < w1.heap.size)) : Grw C (M ++ [x]) v' w1 := by
  have h := h0.below hb
  have hv : ∀ b, rb v = some b → b < w0.heap.size := fun b e => (RowO.lt h0.row e).2
  have hsz := hb.size
  refine ⟨by rw [pcs_more, List.length_append]; exact r, ⟨fun y hy => ?_, fun y hy => ?_, ?_⟩, fun y hy b hb1 hb2 => ?_, Nat.le_trans h.ge k.size⟩
  · rcases List.mem_append.1 hy with hy | hy
    · exact ⟨Wr.move (h.laid.each y hy).1 k (fun b hb1 => h.off y hy b (Or.inl hb1)), Wr.move (h.laid.each y hy).2 k (fun b hb1 => h.off y hy b (Or.inr hb1))⟩
    · obtain rfl : y = x := by simpa using hy
      have hn : ∀ b, y.foot b → ¬ rb v = some b := fun b hb1 hb2 => by
        have := (hx.foot hb1).1
        have := hv b hb2
        omega
      have hCE : C ≤ E := Nat.le_trans h0.ge hE
      exact ⟨Wr.mono (Wr.move hx.has k (fun b hb1 => hn b (Or.inl hb1))) hCE, Wr.mono (Wr.move hx.txt k (fun b hb1 => hn b (Or.inr hb1))) hCE⟩
  · rcases List.mem_append.1 hy with hy | hy
    · exact h.laid.own y hy
    · obtain rfl : y = x := by simpa using hy
      exact hx.own
  · refine List.pairwise_append.2 ⟨h.laid.two, List.pairwise_singleton _ _, fun y hy z hz b hb1 hb2 => ?_⟩
    obtain rfl : z = x := by simpa using hz
    have h1 := (h0.laid.foot_lt hy hb1).2
    have h2 := (hx.foot hb2).1
    omega
  · rcases List.mem_append.1 hy with hy | hy
    · rcases t with t | t | ⟨t, _⟩
      · rw [t] at hb2; cases hb2
      · rw [t] at hb2; exact h.off y hy b hb1 hb2
      · rw [t] at hb2
        cases hb2
        have := (h.laid.foot_lt hy hb1).2
        omega
    · obtain rfl : y = x := by simpa using hy
      have h2 := hx.foot hb1
      rcases t with t | t | ⟨t, _⟩
      · rw [t] at hb2; cases hb2
      · rw [t] at hb2; have := hv b hb2; omega
      · rw [t] at hb2
        cases hb2
        omega

/-- The list when it is whole. -/
theorem Grw.whole {C : Nat} {M : List Pv} {v : Value} {w : World} (h : Grw C M v w) : ∃ a cap, v = .slice a M.length cap ∧ PvsW w C a M := by
  obtain ⟨a, cap, rfl, hw⟩ := h.row.wr
  refine ⟨a, cap, rfl, hw.congr (fun i hi => pcs_at M i hi), h.laid.each, h.laid.own, h.laid.two, fun x hx b hb1 hb2 => ?_⟩
  exact h.off x hx b hb1 (RowO.foot h.row rfl hb2)

theorem pcells_one (x : Pv) : ∀ u ∈ x.cells, u.oneCell' = true := by
  intro u hu
  simp only [Pv.cells, List.mem_cons, List.not_mem_nil, or_false] at hu
  rcases hu with rfl | rfl | rfl <;> rfl

theorem infoPvI : (Try.prog.info? 67).map (fun i => (i.zero, i.size, i.bytes)) = some (some Pv.none.val, 3, 56) := by kernel_rfl

end Go.Proofs.Ytbnpnhcegoanmaa.Pl
