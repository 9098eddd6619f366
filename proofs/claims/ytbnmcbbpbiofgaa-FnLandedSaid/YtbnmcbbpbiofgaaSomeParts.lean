/-
  What stands in memory while spec draws a disk by calls: the cursor, the disk's box, its rows. No condition.
-/
import Derived.Test.YtbnmcbbpbiofgaaDkPutK
import Derived.Test.YtbnmcbbpbiofgaaDkFenceK
import Derived.Test.YtbnmcbbpbiofgaaDkLandK
import Derived.Test.YtbnmcbbpbiofgaaDkFlushK
import Derived.Test.YtbnmcbbpbiofgaaRightHeld
import Derived.Test.YtbnmcbbpbiofgaaSpecNew
import Derived.Test.YtbnmcbbpbiofgaaDrawText
namespace Go.Proofs.Ytbnmcbbpbiofgaa.Mem
open Go.RowKit
set_option linter.unusedVariables false

/-- The cursor stands somewhere in the code. -/
def EnvX (w : World) (cb : Nat) (a : Option Addr) (len cap : Nat) (zs : List Int) : Prop := ∃ i h, Draw.Env w cb a len cap zs i h

theorem EnvX.lt {w : World} {cb : Nat} {a : Option Addr} {len cap : Nat} {zs : List Int} (E : EnvX w cb a len cap zs) : cb < w.heap.size := by
  obtain ⟨i, h, E⟩ := E; exact E.lt
theorem EnvX.below {w0 w w' : World} {cb : Nat} {a : Option Addr} {len cap : Nat} {zs : List Int} (E0 : EnvX w0 cb a len cap zs) (E : EnvX w cb a len cap zs) (hb : Below w0.heap.size w w') : EnvX w' cb a len cap zs := by
  obtain ⟨i0, h0, E0⟩ := E0; obtain ⟨i, h, E⟩ := E; exact ⟨i, h, E0.below E hb⟩

/-- A number below n is drawn. -/
theorem belowX (w : World) (cb : Nat) (a : Option Addr) (len cap : Nat) (zs : List Int) (n : Int) (h0 : 0 < n) (h1 : n ≤ 1000000000) (E : EnvX w cb a len cap zs) :
    Calls Try.prog 28 #[.pointer (some ⟨cb, 0, none⟩), .int .i64 n] w fun e w' => ∃ x : Nat, (x : Int) < n ∧ e = .returned (.int .i64 (x : Int)) ∧ EnvX w' cb a len cap zs ∧ w.grownBy w' (some cb) := by
  obtain ⟨i, h, E⟩ := E
  obtain ⟨x, i', h', hx0, hx1, d⟩ := Draw.below_draws zs n h0 h1 i h
  obtain ⟨x, rfl⟩ := Int.eq_ofNat_of_zero_le hx0
  refine (d w cb a len cap E).mono ?_
  rintro e w' ⟨rfl, E', g⟩
  exact ⟨x, hx1, rfl, ⟨i', h', E'⟩, g⟩

/-- A text is drawn. -/
theorem textX (w : World) (cb : Nat) (a : Option Addr) (len cap : Nat) (zs : List Int) (n : Int) (h0 : 0 ≤ n) (h1 : n ≤ 40) (E : EnvX w cb a len cap zs) :
    Calls Try.prog 39 #[.pointer (some ⟨cb, 0, none⟩), .int .i64 n] w fun e w' => ∃ s : ByteArray, s.size ≤ 40 ∧ e = .returned (.string s) ∧ EnvX w' cb a len cap zs ∧ w.grownBy w' (some cb) := by
  obtain ⟨i, h, E⟩ := E
  obtain ⟨s, i', h', hs, d⟩ := Draw.text_draws zs n h0 h1 i h
  refine (d w cb a len cap E).mono ?_
  rintro e w' ⟨rfl, E', g⟩
  exact ⟨s, hs, rfl, ⟨i', h', E'⟩, g⟩

theorem rowO_type {w : World} {B : Nat} {e : TypeId} {k : Nat} {v : Value} {n : Nat} {xs : List Value} (h : RowO w B e k v n xs) {b : Nat} (hb : rb v = some b) : ∃ cur, w.heap[b]? = some (.cells cur e (0, 0)) := by
  rcases h with ⟨_, rfl, rfl, _⟩ | ⟨h, a, c, rfl⟩
  · rw [rb_bare] at hb; cases hb
  · rcases h.2 with ⟨e', _⟩ | ⟨g, cap, cur, e', _, hc, _⟩
    · cases e'
    · cases e'
      cases hb
      exact ⟨cur, hc⟩

/-- A disk's own rows are not the box of a disk. -/
theorem box_far {w : World} {B : Nat} {v : Value} {D : Dk} (O : DkO w B v D) {nb : Nat} {xs : Array Value} (hx : w.heap[nb]? = some (.cells xs 28 (0, 0))) : ¬ DkB v nb := by
  obtain ⟨v1, v2, v3, rfl, r1, r2, r3, _, _⟩ := O
  rintro ⟨_, _, _, e, hb⟩
  cases e
  rcases hb with hb | hb | hb
  · obtain ⟨cur, hc⟩ := rowO_type r1 hb
    rw [hx] at hc; injection hc with hc; injection hc with _ hc; exact absurd hc (by decide)
  · obtain ⟨cur, hc⟩ := rowO_type r2 hb
    rw [hx] at hc; injection hc with hc; injection hc with _ hc; exact absurd hc (by decide)
  · obtain ⟨cur, hc⟩ := rowO_type r3 hb
    rw [hx] at hc; injection hc with hc; injection hc with _ hc; exact absurd hc (by decide)

/-- A disk under way: the cursor, the box nb, the rows from w0's end on. -/
structure SomeSt (w0 : World) (cb : Nat) (a : Option Addr) (len cap : Nat) (zs : List Int) (nb : Nat) (v1 v2 v3 : Value) (D : Dk) (w : World) : Prop where
  env0 : EnvX w0 cb a len cap zs
  hnb : w0.heap.size ≤ nb
  env : EnvX w cb a len cap zs
  box : w.heap[nb]? = some (.cells #[v1, v2, v3] 28 (0, 0))
  dk : DkO w w0.heap.size (.agg #[v1, v2, v3]) D
  right : D.Right
  grown : w0.grownBy w (some cb)

variable {w0 w w' : World} {cb : Nat} {a : Option Addr} {len cap : Nat} {zs : List Int} {nb : Nat} {v1 v2 v3 : Value} {D : Dk}

theorem SomeSt.row (h : SomeSt w0 cb a len cap zs nb v1 v2 v3 D w) : Row w nb [v1, v2, v3] := ⟨_, h.box⟩
theorem SomeSt.lt (h : SomeSt w0 cb a len cap zs nb v1 v2 v3 D w) : nb < w.heap.size := h.row.lt

/-- A draw moves the cursor alone. -/
theorem SomeSt.draw (h : SomeSt w0 cb a len cap zs nb v1 v2 v3 D w) (E : EnvX w' cb a len cap zs) (g : w.grownBy w' (some cb)) : SomeSt w0 cb a len cap zs nb v1 v2 v3 D w' := by
  have hc := h.env0.lt
  have hn := h.hnb
  have k : Kept (fun b => b = cb) w w' := ⟨g.os, g.tape, g.output, g.size, fun k hk hn => g.block k hk (by simpa using hn)⟩
  exact ⟨h.env0, h.hnb, E, by rw [k.block nb h.lt (by omega)]; exact h.box, h.dk.kept k (fun b hb e => by have := (h.dk.lt hb).1; omega), h.right, Draw.grown_trans h.grown g⟩

/-- What is laid behind everything changes nothing. -/
theorem SomeSt.below (h : SomeSt w0 cb a len cap zs nb v1 v2 v3 D w) (b : Below w.heap.size w w') : SomeSt w0 cb a len cap zs nb v1 v2 v3 D w' :=
  have b0 : Below w0.heap.size w w' := b.mono (by have := h.lt; have := h.hnb; omega)
  ⟨h.env0, h.hnb, h.env0.below h.env b0, by rw [b.block nb h.lt]; exact h.box, h.dk.below b, h.right, Draw.grown_below h.grown b0⟩
theorem SomeSt.drew (h : SomeSt w0 cb a len cap zs nb v1 v2 v3 D w) : SomeSt w0 cb a len cap zs nb v1 v2 v3 D w.drew := h.below (Below.refl _ w).drew

/-- A call that works on the disk, and its answer in the box. -/
theorem SomeSt.step (h : SomeSt w0 cb a len cap zs nb v1 v2 v3 D w) {x1 x2 x3 : Value} {D' : Dk} (O : DkO w' w0.heap.size (.agg #[x1, x2, x3]) D') (r : D'.Right) (b : Below w0.heap.size w w') (k : Kept (DkB (.agg #[v1, v2, v3])) w w') :
    SomeSt w0 cb a len cap zs nb x1 x2 x3 D' (((w'.setCell ⟨nb, 0, none⟩ x1).setCell ⟨nb, 1, none⟩ x2).setCell ⟨nb, 2, none⟩ x3) := by
  have hx : w'.heap[nb]? = some (.cells #[v1, v2, v3] 28 (0, 0)) := by rw [k.block nb h.lt (box_far h.dk h.box)]; exact h.box
  have hf := box_far O hx
  have hb : Below w0.heap.size w (((w'.setCell ⟨nb, 0, none⟩ x1).setCell ⟨nb, 1, none⟩ x2).setCell ⟨nb, 2, none⟩ x3) := below_set (below_set (below_set b _ _ _ h.hnb) _ _ _ h.hnb) _ _ _ h.hnb
  refine ⟨h.env0, h.hnb, h.env0.below h.env hb, ?_, O.kept (kept3 w' nb x1 x2 x3) (fun b hb e => hf (e ▸ hb)), r, Draw.grown_below h.grown hb⟩
  have e1 := heap_setCell_same w' nb 0 _ _ x1 hx
  have e2 := heap_setCell_same _ nb 1 _ _ x2 e1
  have e3 := heap_setCell_same _ nb 2 _ _ x3 e2
  simpa using e3

theorem SomeSt.left (h : SomeSt w0 cb a len cap zs nb v1 v2 v3 D w) (k : Kept (DkB (.agg #[v1, v2, v3])) w w') : Row w' nb [v1, v2, v3] := h.row.kept k (box_far h.dk h.box)

theorem SomeSt.c0 (h : SomeSt w0 cb a len cap zs nb v1 v2 v3 D w) : w.cell? ⟨nb, 0, none⟩ = some v1 := h.row.c 0 rfl
theorem SomeSt.c1 (h : SomeSt w0 cb a len cap zs nb v1 v2 v3 D w) : w.cell? ⟨nb, 1, none⟩ = some v2 := h.row.c 1 rfl
theorem SomeSt.c2 (h : SomeSt w0 cb a len cap zs nb v1 v2 v3 D w) : w.cell? ⟨nb, 2, none⟩ = some v3 := h.row.c 2 rfl
theorem SomeSt.f (h : SomeSt w0 cb a len cap zs nb v1 v2 v3 D w) (j : Nat) : w.frozen? ⟨nb, j, none⟩ = false := h.row.f j

theorem Dk.Right.sec_in {D : Dk} (h : D.Right) : ∀ j, j < D.pe.length → 0 ≤ (D.pe.getD j Wt.none).sector ∧ (D.pe.getD j Wt.none).sector < (D.sec.length : Int) := fun j hj => ⟨(h.p j hj).2.2.1, (h.p j hj).2.2.2.1⟩
theorem Dk.Right.ep_in {D : Dk} (h : D.Right) : ∀ j, j < D.ep.length → 1 ≤ D.ep.getD j 0 := fun j hj => (h.e j hj).1

/-- The result's box is as it was. -/
theorem some_res {g : Nat} {xs : List Value} (h : SomeSt w0 cb a len cap zs nb v1 v2 v3 D w) (R : Row w0 g xs) (hc : g ≠ cb) : Row w g xs := by
  obtain ⟨t, e⟩ := R
  exact ⟨t, by rw [h.grown.block g (Row.lt ⟨t, e⟩) (by simpa using hc)]; exact e⟩

/-- The end: a copy in the result's box. -/
theorem some_end {wA : World} {wb w7 : World} {u1 u2 u3 : Value} {B : Nat} (E : EnvX wA cb a len cap zs) (hb : Below wA.heap.size wA wb) (ez : wb.heap.size = wA.heap.size + 1) (h : SomeSt wb cb a len cap zs nb v1 v2 v3 D w7) (O : DkO w7 B (.agg #[u1, u2, u3]) D) (hB : wA.heap.size < B)
    (R : Row w7 wA.heap.size [.slice none 0 0, .slice none 0 0, .slice none 0 0]) :
    Row (((w7.setCell ⟨wA.heap.size, 0, none⟩ u1).setCell ⟨wA.heap.size, 1, none⟩ u2).setCell ⟨wA.heap.size, 2, none⟩ u3) wA.heap.size [u1, u2, u3] ∧
    DkO (((w7.setCell ⟨wA.heap.size, 0, none⟩ u1).setCell ⟨wA.heap.size, 1, none⟩ u2).setCell ⟨wA.heap.size, 2, none⟩ u3) wA.heap.size (.agg #[u1, u2, u3]) D ∧
    EnvX (((w7.setCell ⟨wA.heap.size, 0, none⟩ u1).setCell ⟨wA.heap.size, 1, none⟩ u2).setCell ⟨wA.heap.size, 2, none⟩ u3) cb a len cap zs ∧
    wA.grownBy (((w7.setCell ⟨wA.heap.size, 0, none⟩ u1).setCell ⟨wA.heap.size, 1, none⟩ u2).setCell ⟨wA.heap.size, 2, none⟩ u3) (some cb) := by
  have hs : Below wA.heap.size w7 (((w7.setCell ⟨wA.heap.size, 0, none⟩ u1).setCell ⟨wA.heap.size, 1, none⟩ u2).setCell ⟨wA.heap.size, 2, none⟩ u3) :=
    below_set (below_set (below_set (Below.refl _ w7) _ _ _ (Nat.le_refl _)) _ _ _ (Nat.le_refl _)) _ _ _ (Nat.le_refl _)
  have g0 : wA.grownBy wb (some cb) := ⟨hb.os, hb.tape, hb.output, hb.size, fun k hk _ => hb.block k hk⟩
  exact ⟨((R.set 0 u1).set 1 u2).set 2 u3, (O.kept (kept3 w7 wA.heap.size u1 u2 u3) (fun b hB e => by have := (O.lt hB).1; omega)).mono (by omega), E.below h.env hs, Draw.grown_below (Draw.grown_trans g0 h.grown) hs⟩

/-- The epochs are there. -/
theorem SomeSt.ep (h : SomeSt w0 cb a len cap zs nb v1 v2 v3 D w) (j : Nat) (hj : j < 3) : ∃ g c, v2 = .slice (some ⟨g, 0, none⟩) D.ep.length (c + 1) ∧ w.cell? ⟨g, j, none⟩ = some (.int .i64 (D.ep.getD j 0)) := by
  have he := h.right.e3
  obtain ⟨_, _, _, e, _, r2, _⟩ := h.dk
  cases e
  obtain ⟨g, c, e⟩ := r2.form (by omega)
  obtain ⟨_, _, _, _, _, _, e', _, i2, _⟩ := h.dk.w
  subst e
  injection e' with e'
  obtain ⟨_, _, ef, _, hc, _⟩ := i2 j (by omega)
  refine ⟨g, c, rfl, ?_⟩
  injection e' with e'
  injection e' with _ e'
  injection e' with e' _
  injection e' with e' _
  rw [← e'] at ef
  cases ef
  simpa using hc

theorem SomeSt.epAt {g l c : Nat} (h : SomeSt w0 cb a len cap zs nb v1 (.slice (some ⟨g, 0, none⟩) l c) v3 D w) (j : Nat) (hj : j < 3) : w.cell? ⟨g, j, none⟩ = some (.int .i64 (D.ep.getD j 0)) := by
  obtain ⟨g', c', e, hc⟩ := h.ep j hj
  cases e
  exact hc

/-- A write under way leaves the epochs alone. -/
theorem SomeSt.epLeft {g l c j : Nat} {z : Value} (h : SomeSt w0 cb a len cap zs nb v1 (.slice (some ⟨g, 0, none⟩) l (c + 1)) v3 D w) (hz : w.cell? ⟨g, j, none⟩ = some z) (k : Kept (PeB (.agg #[v1, .slice (some ⟨g, 0, none⟩) l (c + 1), v3])) w w') : w'.cell? ⟨g, j, none⟩ = some z := by
  have hn : ¬ PeB (.agg #[v1, .slice (some ⟨g, 0, none⟩) l (c + 1), v3]) g := by
    rintro ⟨_, _, _, e, hb⟩
    cases e
    obtain ⟨_, _, _, e, _, _, _, _, f2⟩ := h.dk
    cases e
    exact f2 g rfl hb
  rw [cell_block (p := ⟨g, j, none⟩) (k.block g (World.block_lt_of_cell? w ⟨g, j, none⟩ hz) hn)]
  exact hz

end Go.Proofs.Ytbnmcbbpbiofgaa.Mem
