/-
  What stands in memory while spec turns a drawn disk into any: the cursor, the disk's box, its rows. No condition.
-/
import Derived.Test.YtbnmcbbpbiofgaaSomeParts
import Derived.Test.YtbnmcbbpbiofgaaSomeOnce
import Derived.Test.YtbnmcbbpbiofgaaSomePick
namespace Go.Proofs.Ytbnmcbbpbiofgaa.Mem
open Go.RowKit
set_option linter.unusedVariables false

/-- What the walk of spec.l3Some gives. -/
def SomeDoes : Prop := ∀ (w : World) (cb : Nat) (a : Option Addr) (len cap : Nat) (zs : List Int) (E : EnvX w cb a len cap zs) (n : Int) (h0 : 0 < n) (h1 : n ≤ 1000),
    Calls Try.prog 26 #[.pointer (some ⟨cb, 0, none⟩), .int .i64 n] w fun e w' => ∃ v D, e = .returned v ∧ D.Right ∧ DkO w' w.heap.size v D ∧ EnvX w' cb a len cap zs ∧ w.grownBy w' (some cb)

/-- A disk that may be drawn: small, its epochs from nought on. -/
structure Dk.Any (D : Dk) : Prop where
  s : D.sec.length ≤ 40
  st : ∀ x ∈ D.sec, x.size ≤ 700
  e : D.ep.length ≤ 4
  ev : ∀ x ∈ D.ep, 0 ≤ x ∧ x ≤ 100001
  p : D.pe.length ≤ 41
  pt : ∀ x ∈ D.pe, x.text.size ≤ 700

theorem Dk.Any.held {D : Dk} (h : D.Any) : D.Held :=
  ⟨by have := h.s; unfold maxLen; omega, by have := h.e; unfold maxLen; omega, by have := h.p; unfold maxLen; omega, fun x hx => by have := h.st x hx; unfold maxLen; omega, fun x hx => by have := h.pt x hx; unfold maxLen; omega⟩
theorem Dk.Any.small {D : Dk} (h : D.Any) : D.Small 1048576 :=
  ⟨by have := h.s; omega, by have := h.e; omega, by have := h.p; omega, fun x hx => by have := h.st x hx; omega, fun x hx => by have := h.pt x hx; omega⟩

theorem mem_atD {α : Type} {l : List α} {x : α} (d : α) (h : x ∈ l) : ∃ j, j < l.length ∧ l.getD j d = x := by
  obtain ⟨j, hj, rfl⟩ := List.mem_iff_getElem.1 h
  exact ⟨j, hj, by simp [List.getD, hj]⟩

theorem Dk.Right.any {D : Dk} (h : D.Right) : D.Any := by
  refine ⟨h.n2, fun x hx => ?_, by rw [h.e3]; decide, fun x hx => ?_, by have := h.p40; omega, fun x hx => ?_⟩
  · obtain ⟨j, hj, rfl⟩ := mem_atD ByteArray.empty hx
    have := h.s j hj; omega
  · obtain ⟨j, hj, rfl⟩ := mem_atD 0 hx
    have := h.e j hj; omega
  · obtain ⟨j, hj, rfl⟩ := mem_atD Wt.none hx
    have := (h.p j hj).2.2.2.2; omega

/-- The three lists of a disk are slices. -/
theorem DkO.three {w : World} {B : Nat} {v : Value} {D : Dk} (h : DkO w B v D) : ∃ p1 c1 p2 c2 p3 c3, v = .agg #[.slice p1 D.sec.length c1, .slice p2 D.ep.length c2, .slice p3 D.pe.length c3] := by
  obtain ⟨v1, v2, v3, rfl, r1, r2, r3, _, _⟩ := h
  obtain ⟨a1, c1, e1, _⟩ := r1.wr
  obtain ⟨a2, c2, e2, _⟩ := r2.wr
  obtain ⟨a3, c3, e3, _⟩ := r3.wr
  exact ⟨a1, c1, a2, c2, a3, c3, by rw [e1, e2, e3]⟩

/-- A disk under way: the cursor, the box nb, the rows from w0's end on. -/
structure AnySt (w0 : World) (cb : Nat) (a : Option Addr) (len cap : Nat) (zs : List Int) (nb : Nat) (v1 v2 v3 : Value) (D : Dk) (w : World) : Prop where
  env0 : EnvX w0 cb a len cap zs
  hnb : w0.heap.size ≤ nb
  env : EnvX w cb a len cap zs
  box : w.heap[nb]? = some (.cells #[v1, v2, v3] 28 (0, 0))
  dk : DkO w w0.heap.size (.agg #[v1, v2, v3]) D
  grown : w0.grownBy w (some cb)

variable {w0 w w' : World} {cb : Nat} {a : Option Addr} {len cap : Nat} {zs : List Int} {nb : Nat} {v1 v2 v3 : Value} {D : Dk}

theorem AnySt.row (h : AnySt w0 cb a len cap zs nb v1 v2 v3 D w) : Row w nb [v1, v2, v3] := ⟨_, h.box⟩
theorem AnySt.lt (h : AnySt w0 cb a len cap zs nb v1 v2 v3 D w) : nb < w.heap.size := h.row.lt

/-- A draw moves the cursor alone. -/
theorem AnySt.draw (h : AnySt w0 cb a len cap zs nb v1 v2 v3 D w) (E : EnvX w' cb a len cap zs) (g : w.grownBy w' (some cb)) : AnySt w0 cb a len cap zs nb v1 v2 v3 D w' := by
  have hc := h.env0.lt
  have hn := h.hnb
  have k : Kept (fun b => b = cb) w w' := ⟨g.os, g.tape, g.output, g.size, fun k hk hn => g.block k hk (by simpa using hn)⟩
  exact ⟨h.env0, h.hnb, E, by rw [k.block nb h.lt (by omega)]; exact h.box, h.dk.kept k (fun b hb e => by have := (h.dk.lt hb).1; omega), Draw.grown_trans h.grown g⟩

/-- What is laid behind everything changes nothing. -/
theorem AnySt.below (h : AnySt w0 cb a len cap zs nb v1 v2 v3 D w) (b : Below w.heap.size w w') : AnySt w0 cb a len cap zs nb v1 v2 v3 D w' :=
  have b0 : Below w0.heap.size w w' := b.mono (by have := h.lt; have := h.hnb; omega)
  ⟨h.env0, h.hnb, h.env0.below h.env b0, by rw [b.block nb h.lt]; exact h.box, h.dk.below b, Draw.grown_below h.grown b0⟩
theorem AnySt.drew (h : AnySt w0 cb a len cap zs nb v1 v2 v3 D w) : AnySt w0 cb a len cap zs nb v1 v2 v3 D w.drew := h.below (Below.refl _ w).drew
theorem AnySt.alloc (h : AnySt w0 cb a len cap zs nb v1 v2 v3 D w) (o : Obj) : AnySt w0 cb a len cap zs nb v1 v2 v3 D (w.alloc o) := h.below ((Below.refl _ w).alloc (Nat.le_refl _) o)

theorem AnySt.c0 (h : AnySt w0 cb a len cap zs nb v1 v2 v3 D w) : w.cell? ⟨nb, 0, none⟩ = some v1 := h.row.c 0 rfl
theorem AnySt.c1 (h : AnySt w0 cb a len cap zs nb v1 v2 v3 D w) : w.cell? ⟨nb, 1, none⟩ = some v2 := h.row.c 1 rfl
theorem AnySt.c2 (h : AnySt w0 cb a len cap zs nb v1 v2 v3 D w) : w.cell? ⟨nb, 2, none⟩ = some v3 := h.row.c 2 rfl
theorem AnySt.f (h : AnySt w0 cb a len cap zs nb v1 v2 v3 D w) (j : Nat) : w.frozen? ⟨nb, j, none⟩ = false := h.row.f j
theorem AnySt.size (h : AnySt w0 cb a len cap zs nb v1 v2 v3 D w) : w0.heap.size ≤ w.heap.size := h.grown.size

/-- One of the disk's own rows turned, and its answer in the box. -/
theorem AnySt.put (h : AnySt w0 cb a len cap zs nb v1 v2 v3 D w) {S : Nat → Prop} {w2 : World} (k : Kept S w w2) (hS : ∀ b, S b → w0.heap.size ≤ b ∧ b ≠ nb) (j : Nat) (x x1 x2 x3 : Value) (e : [v1, v2, v3].set j x = [x1, x2, x3]) {D' : Dk} (O : DkO w2 w0.heap.size (.agg #[x1, x2, x3]) D') :
    AnySt w0 cb a len cap zs nb x1 x2 x3 D' (w2.setCell ⟨nb, j, none⟩ x) := by
  have hx : w2.heap[nb]? = some (.cells #[v1, v2, v3] 28 (0, 0)) := by rw [k.block nb h.lt (fun s => (hS nb s).2 rfl)]; exact h.box
  have hf := box_far O hx
  have b0 : Below w0.heap.size w w2 := k.below h.size (fun b hb s => by have := (hS b s).1; omega)
  have b1 : Below w0.heap.size w (w2.setCell ⟨nb, j, none⟩ x) := below_set b0 _ _ _ h.hnb
  refine ⟨h.env0, h.hnb, h.env0.below h.env b1, ?_, O.kept (kept_set w2 nb j x) (fun b hb e => hf (e ▸ hb)), Draw.grown_below h.grown b1⟩
  have e1 := heap_setCell_same w2 nb j _ _ x hx
  have e2 : (#[v1, v2, v3] : Array Value).setIfInBounds j x = #[x1, x2, x3] := by
    have : (#[v1, v2, v3] : Array Value).setIfInBounds j x = ([v1, v2, v3].set j x).toArray := by simp
    rw [this, e]
  first | (rw [e2] at e1; exact e1) | (simp only [] at e1; rw [← e2]; simpa using e1)

/-- A store into one of the disk's own rows. -/
theorem AnySt.store (h : AnySt w0 cb a len cap zs nb v1 v2 v3 D w) {g i : Nat} {x : Value} {D' : Dk} (hg : w0.heap.size ≤ g) (hgn : g ≠ nb) (O : DkO (w.setCell ⟨g, i, none⟩ x) w0.heap.size (.agg #[v1, v2, v3]) D') : AnySt w0 cb a len cap zs nb v1 v2 v3 D' (w.setCell ⟨g, i, none⟩ x) := by
  have b1 : Below w0.heap.size w (w.setCell ⟨g, i, none⟩ x) := below_set (Below.refl _ w) _ _ _ hg
  exact ⟨h.env0, h.hnb, h.env0.below h.env b1, by rw [(kept_set w g i x).block nb h.lt (fun e => hgn e.symm)]; exact h.box, O, Draw.grown_below h.grown b1⟩

theorem AnySt.r2 (h : AnySt w0 cb a len cap zs nb v1 v2 v3 D w) : RowO w w0.heap.size 3 1 v2 D.ep.length (iCells D.ep) := by
  obtain ⟨_, _, _, e, _, r, _⟩ := h.dk
  cases e
  exact r
theorem AnySt.r3 (h : AnySt w0 cb a len cap zs nb v1 v2 v3 D w) : RowO w w0.heap.size 36 4 v3 D.pe.length (wCells D.pe) := by
  obtain ⟨_, _, _, e, _, _, r, _⟩ := h.dk
  cases e
  exact r
theorem AnySt.far2 (h : AnySt w0 cb a len cap zs nb v1 v2 v3 D w) : ∀ b, rb v2 = some b → w0.heap.size ≤ b ∧ b ≠ nb := fun b hb =>
  ⟨(h.dk.lt ⟨_, _, _, rfl, Or.inr (Or.inl hb)⟩).1, fun e => box_far h.dk h.box (e ▸ ⟨_, _, _, rfl, Or.inr (Or.inl hb)⟩)⟩
theorem AnySt.far3 (h : AnySt w0 cb a len cap zs nb v1 v2 v3 D w) : ∀ b, rb v3 = some b → w0.heap.size ≤ b ∧ b ≠ nb := fun b hb =>
  ⟨(h.dk.lt ⟨_, _, _, rfl, Or.inr (Or.inr hb)⟩).1, fun e => box_far h.dk h.box (e ▸ ⟨_, _, _, rfl, Or.inr (Or.inr hb)⟩)⟩

theorem AnySt.epc {g m c : Nat} (h : AnySt w0 cb a len cap zs nb v1 (.slice (some ⟨g, 0, none⟩) m c) v3 D w) (j : Nat) (hj : j < D.ep.length) : w.cell? ⟨g, j, none⟩ = some (.int .i64 (D.ep.getD j 0)) ∧ w.frozen? ⟨g, j, none⟩ = false := by
  obtain ⟨x, y, e, hw⟩ := h.r2.wr
  cases e
  obtain ⟨_, _, ef, _, hc, hf⟩ := hw j (by omega)
  cases ef
  rw [Nat.zero_add] at hc hf
  exact ⟨hc.trans (congrArg some (iCells_at _ _ hj)), hf⟩

/-- The cells of a list of numbers that was just laid. -/
theorem lit_ints (w : World) (l : List Int) (t : TypeId) (j : Nat) (hj : j < l.length) : (w.alloc (.cells (l.map (Value.int .i64)).toArray t)).cell? ⟨w.heap.size, j, none⟩ = some (.int .i64 (l.getD j 0)) := by
  rw [cell_of_row _ w.heap.size j _ _ (0, 0) (heap_alloc_new w _)]
  simp [List.getD, hj]

/-- 'append' on an owned row, as one step of a region that draws its order; where the row lies then. -/
theorem step_app3 {P : Program} (t e : TypeId) (z : Value) (k bytes : Nat) (ht : P.underlying t = some (.slice e)) (hinfo : (P.info? e).map (fun i => (i.zero, i.size, i.bytes)) = some (some z, k, bytes)) (hzs : z.cells.size = k) (hk : 0 < k) (hby : bytes ≤ 1048576)
    {ops : Array Oper} {o : Oper} {a : Act} {w : World} {K : Act → World → Prop} {Q : Exit → Act → World → Prop} {E : Prop} (hgd : o.guard = none) (s x : Operand)
    (ho : o.op = .call { callee := .builtin .append, args := #[s, x], argTypes := #[t, t] })
    (B : Nat) (v : Value) (n : Nat) (xs : List Value) (hs : a.eval s = v) (h : RowO w B e k v n xs) (ad : Addr) (m c : Nat) (news : List Value) (hx : a.eval x = .slice (some ad) m c) (hl : news.length = m * k) (hS : Sl w (some ad) (m * k) (fun i => news.getD i undef)) (h1 : ∀ u ∈ news, u.oneCell' = true)
    (hm : n + m ≤ 1048576) (hB : B ≤ w.heap.size)
    (hK : ∀ v' w', RowO w' B e k v' (n + m) (xs ++ news) → Kept (fun b => rb v = some b) w w' → (rb v' = none ∨ rb v' = rb v ∨ (rb v' = some w.heap.size ∧ w.heap.size < w'.heap.size)) → K (a.put o.dst v') w') :
    if Region.wanted o (yielded ops a.tmps) = true then Oper.wp P o a w K Q else E := by
  have hw : Region.wanted o (yielded ops a.tmps) = true := by simp [Region.wanted, hgd]
  rw [if_pos hw]
  obtain ⟨v', w', hr, h2, h3, h4⟩ := run_app (P := P) w B t o.type e z k bytes ht hinfo hzs hk v n xs h ad m c news hl hS h1 hm hby hB
  unfold Oper.wp execOp
  simp only [ho, resolve, invoke, builtin, Sem.run_bind, Sem.run_pure, Result.andThen_ok, List.map_toArray, List.map_cons, List.map_nil, hs, hx, hr]
  exact hK v' w' h2 h3 h4

/-- One more write under way; the disk's box is still as it was. -/
theorem AnySt.morePe (h : AnySt w0 cb a len cap zs nb v1 v2 v3 D w) {o : Obj} {w2 : World} {v3' : Value} {x : Wt} (k : Kept (fun b => rb v3 = some b) (w.alloc o) w2) (r : RowO w2 w0.heap.size 36 4 v3' (D.pe.length + 1) (wCells D.pe ++ x.cells)) (hi : rb v3' = none ∨ rb v3' = rb v3 ∨ (rb v3' = some (w.alloc o).heap.size ∧ (w.alloc o).heap.size < w2.heap.size)) :
    AnySt w0 cb a len cap zs nb v1 v2 v3' ⟨D.sec, D.ep, D.pe ++ [x]⟩ (w2.setCell ⟨nb, 2, none⟩ v3') ∧ Row w2 nb [v1, v2, v3] :=
  ⟨(h.alloc o).put k (h.alloc o).far3 2 v3' v1 v2 v3' rfl ((h.alloc o).dk.more1 (Below.refl _ _) k r hi), (h.alloc o).row.kept k (fun e => ((h.alloc o).far3 nb e).2 rfl)⟩
/-- The epochs, one more. -/
theorem DkO.moreEp {w1 wa w2 : World} {B : Nat} {v1 v2 v3 v2' : Value} {D : Dk} {z : Int} (O : DkO w1 B (.agg #[v1, v2, v3]) D) (b' : Below w1.heap.size w1 wa) (k : Kept (fun b => rb v2 = some b) wa w2)
    (r : RowO w2 B 3 1 v2' (D.ep.length + 1) (iCells D.ep ++ [.int .i64 z])) (hi : rb v2' = none ∨ rb v2' = rb v2 ∨ (rb v2' = some wa.heap.size ∧ wa.heap.size < w2.heap.size)) : DkO w2 B (.agg #[v1, v2', v3]) ⟨D.sec, D.ep ++ [z], D.pe⟩ := by
  have hlt := fun b hb => O.lt (b := b) hb
  have hsz := b'.size
  obtain ⟨_, _, _, e, r1, r2, r3, f1, f2⟩ := O
  cases e
  have h1 : ∀ b, rb v1 = some b → b < w1.heap.size := fun b hb => (hlt b ⟨_, _, _, rfl, Or.inl hb⟩).2
  have h3 : ∀ b, rb v3 = some b → b < w1.heap.size := fun b hb => (hlt b ⟨_, _, _, rfl, Or.inr (Or.inr hb)⟩).2
  have ei : iCells D.ep ++ [.int .i64 z] = iCells (D.ep ++ [z]) := by unfold iCells; simp
  rw [ei] at r
  refine ⟨_, _, _, rfl, (r1.below b').kept k (fun b hb e => (f1 b hb).1 e), by rw [List.length_append]; exact r, (r3.below b').kept k (fun b hb e => f2 b e hb), fun b hb => ⟨fun e => ?_, (f1 b hb).2⟩, fun b hb e => ?_⟩
  · rcases hi with q | q | ⟨q, _⟩
    · rw [q] at e; cases e
    · rw [q] at e; exact (f1 b hb).1 e
    · rw [q] at e; cases e; have := h1 _ hb; omega
  · rcases hi with q | q | ⟨q, _⟩
    · rw [q] at hb; cases hb
    · rw [q] at hb; exact f2 b hb e
    · rw [q] at hb; cases hb; have := h3 _ e; omega

theorem AnySt.moreEp (h : AnySt w0 cb a len cap zs nb v1 v2 v3 D w) {o : Obj} {w2 : World} {v2' : Value} {z : Int} (k : Kept (fun b => rb v2 = some b) (w.alloc o) w2) (r : RowO w2 w0.heap.size 3 1 v2' (D.ep.length + 1) (iCells D.ep ++ [.int .i64 z])) (hi : rb v2' = none ∨ rb v2' = rb v2 ∨ (rb v2' = some (w.alloc o).heap.size ∧ (w.alloc o).heap.size < w2.heap.size)) :
    AnySt w0 cb a len cap zs nb v1 v2' v3 ⟨D.sec, D.ep ++ [z], D.pe⟩ (w2.setCell ⟨nb, 1, none⟩ v2') ∧ Row w2 nb [v1, v2, v3] :=
  ⟨(h.alloc o).put k (h.alloc o).far2 1 v2' v1 v2' v3 rfl ((h.alloc o).dk.moreEp (Below.refl _ _) k r hi), (h.alloc o).row.kept k (fun e => ((h.alloc o).far2 nb e).2 rfl)⟩

/-- No sectors. -/
theorem DkO.noSec {w1 : World} {B : Nat} {v1 v2 v3 : Value} {D : Dk} (O : DkO w1 B (.agg #[v1, v2, v3]) D) (b : Option Addr) : DkO w1 B (.agg #[.slice b 0 0, v2, v3]) ⟨[], D.ep, D.pe⟩ := by
  obtain ⟨_, _, _, e, r1, r2, r3, f1, f2⟩ := O
  cases e
  exact ⟨_, _, _, rfl, Or.inl ⟨b, rfl, rfl, rfl⟩, r2, r3, fun x hx => (by rw [rb_bare] at hx; cases hx), f2⟩

/-- The end: the disk in the result's box. -/
theorem any_end {wA : World} {wb w7 : World} (E : EnvX wA cb a len cap zs) (hb : Below wA.heap.size wA wb) (ez : wb.heap.size = wA.heap.size + 1) (h : AnySt wb cb a len cap zs nb v1 v2 v3 D w7)
    (R : Row w7 wA.heap.size [.slice none 0 0, .slice none 0 0, .slice none 0 0]) :
    Row (((w7.setCell ⟨wA.heap.size, 0, none⟩ v1).setCell ⟨wA.heap.size, 1, none⟩ v2).setCell ⟨wA.heap.size, 2, none⟩ v3) wA.heap.size [v1, v2, v3] ∧
    DkW (((w7.setCell ⟨wA.heap.size, 0, none⟩ v1).setCell ⟨wA.heap.size, 1, none⟩ v2).setCell ⟨wA.heap.size, 2, none⟩ v3) wA.heap.size (.agg #[v1, v2, v3]) D ∧
    EnvX (((w7.setCell ⟨wA.heap.size, 0, none⟩ v1).setCell ⟨wA.heap.size, 1, none⟩ v2).setCell ⟨wA.heap.size, 2, none⟩ v3) cb a len cap zs ∧
    wA.grownBy (((w7.setCell ⟨wA.heap.size, 0, none⟩ v1).setCell ⟨wA.heap.size, 1, none⟩ v2).setCell ⟨wA.heap.size, 2, none⟩ v3) (some cb) := by
  have hs : Below wA.heap.size w7 (((w7.setCell ⟨wA.heap.size, 0, none⟩ v1).setCell ⟨wA.heap.size, 1, none⟩ v2).setCell ⟨wA.heap.size, 2, none⟩ v3) :=
    below_set (below_set (below_set (Below.refl _ w7) _ _ _ (Nat.le_refl _)) _ _ _ (Nat.le_refl _)) _ _ _ (Nat.le_refl _)
  have g0 : wA.grownBy wb (some cb) := ⟨hb.os, hb.tape, hb.output, hb.size, fun k hk _ => hb.block k hk⟩
  have O := (h.dk.kept (kept3 w7 wA.heap.size v1 v2 v3) (fun b hB e => by have := (h.dk.lt hB).1; omega)).w
  obtain ⟨a1, c1, a2, c2, a3, c3, e, s1, s2, s3, r⟩ := O
  exact ⟨((R.set 0 v1).set 1 v2).set 2 v3, ⟨a1, c1, a2, c2, a3, c3, e, s1.mono (by omega), s2.mono (by omega), s3.mono (by omega), r⟩, E.below h.env hs, Draw.grown_below (Draw.grown_trans g0 h.grown) hs⟩

/-- The result's box is as it was. -/
theorem any_res {g : Nat} {xs : List Value} (h : AnySt w0 cb a len cap zs nb v1 v2 v3 D w) (R : Row w0 g xs) (hc : g ≠ cb) : Row w g xs := by
  obtain ⟨t, e⟩ := R
  exact ⟨t, by rw [h.grown.block g (Row.lt ⟨t, e⟩) (by simpa using hc)]; exact e⟩

end Go.Proofs.Ytbnmcbbpbiofgaa.Mem
