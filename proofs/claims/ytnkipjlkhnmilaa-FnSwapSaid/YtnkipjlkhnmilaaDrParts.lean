/-
  What stands in memory while a law's input is drawn: the cursor, the drawn disk in its box, the result's box. No condition.
-/
import Derived.Test.YtnkipjlkhnmilaaAnyParts
namespace Go.Proofs.Ytnkipjlkhnmilaa.Mem
open Go.RowKit
set_option linter.unusedVariables false

theorem DkW.move {S : Nat → Prop} {w w' : World} {B : Nat} {v : Value} {D : Dk} (h : DkW w B v D) (k : Kept S w w') (hn : ∀ b, B ≤ b → ¬ S b) : DkW w' B v D := by
  obtain ⟨a1, c1, a2, c2, a3, c3, e, s1, s2, s3, f1, f2⟩ := h
  exact ⟨a1, c1, a2, c2, a3, c3, e, Wr.move s1 k (fun b hb => hn b (Wr.foot_ge s1 hb)), Wr.move s2 k (fun b hb => hn b (Wr.foot_ge s2 hb)), Wr.move s3 k (fun b hb => hn b (Wr.foot_ge s3 hb)), f1, f2⟩

/-- What the walk of spec.l3Any gives. -/
def AnyDoes : Prop := ∀ (w : World) (cb : Nat) (a : Option Addr) (len cap : Nat) (zs : List Int) (E : EnvX w cb a len cap zs) (n : Int) (h0 : 0 < n) (h1 : n ≤ 1000),
    Calls Try.prog 29 #[.pointer (some ⟨cb, 0, none⟩), .int .i64 n] w fun e w' => ∃ v D, e = .returned v ∧ D.Any ∧ DkW w' w.heap.size v D ∧ EnvX w' cb a len cap zs ∧ w.grownBy w' (some cb)

/-- A law's input under way: the cursor cb behind the result's box rx, the disk's rows from B on, its box nb. -/
structure DrSt (wA : World) (rx cb : Nat) (a : Option Addr) (len cap : Nat) (zs : List Int) (B nb : Nat) (v1 v2 v3 : Value) (D : Dk) (w : World) : Prop where
  env : EnvX w cb a len cap zs
  box : Row w nb [v1, v2, v3]
  res : Row w rx [.slice none 0 0, .slice none 0 0, .slice none 0 0]
  dk : DkW w B (.agg #[v1, v2, v3]) D
  hr : wA.heap.size ≤ rx
  hc : rx < cb
  hB : cb < B
  hn : cb < nb
  bel : Below wA.heap.size wA w

variable {wA w w' : World} {rx cb : Nat} {a : Option Addr} {len cap : Nat} {zs : List Int} {B nb : Nat} {v1 v2 v3 : Value} {D : Dk}

theorem DrSt.below (h : DrSt wA rx cb a len cap zs B nb v1 v2 v3 D w) (b : Below w.heap.size w w') : DrSt wA rx cb a len cap zs B nb v1 v2 v3 D w' :=
  ⟨h.env.below h.env b, h.box.below b h.box.lt, h.res.below b h.res.lt, h.dk.below b, h.hr, h.hc, h.hB, h.hn, h.bel.trans (b.mono h.bel.size)⟩
theorem DrSt.drew (h : DrSt wA rx cb a len cap zs B nb v1 v2 v3 D w) : DrSt wA rx cb a len cap zs B nb v1 v2 v3 D w.drew := h.below (Below.refl _ w).drew
theorem DrSt.alloc (h : DrSt wA rx cb a len cap zs B nb v1 v2 v3 D w) (o : Obj) : DrSt wA rx cb a len cap zs B nb v1 v2 v3 D (w.alloc o) := h.below ((Below.refl _ w).alloc (Nat.le_refl _) o)

theorem DrSt.draw (h : DrSt wA rx cb a len cap zs B nb v1 v2 v3 D w) (E : EnvX w' cb a len cap zs) (g : w.grownBy w' (some cb)) : DrSt wA rx cb a len cap zs B nb v1 v2 v3 D w' := by
  have k : Kept (fun b => b = cb) w w' := ⟨g.os, g.tape, g.output, g.size, fun k hk hn => g.block k hk (by simpa using hn)⟩
  have h1 := h.hr
  have h2 := h.hc
  have h3 := h.hB
  have h4 := h.hn
  exact ⟨E, h.box.kept k (by omega), h.res.kept k (by omega), h.dk.move k (fun b hb e => by omega), h.hr, h.hc, h.hB, h.hn, h.bel.trans (k.below h.bel.size (fun b hb e => by omega))⟩

theorem DrSt.c0 (h : DrSt wA rx cb a len cap zs B nb v1 v2 v3 D w) : w.cell? ⟨nb, 0, none⟩ = some v1 := h.box.c 0 rfl
theorem DrSt.c1 (h : DrSt wA rx cb a len cap zs B nb v1 v2 v3 D w) : w.cell? ⟨nb, 1, none⟩ = some v2 := h.box.c 1 rfl
theorem DrSt.c2 (h : DrSt wA rx cb a len cap zs B nb v1 v2 v3 D w) : w.cell? ⟨nb, 2, none⟩ = some v3 := h.box.c 2 rfl
theorem DrSt.r0 (h : DrSt wA rx cb a len cap zs B nb v1 v2 v3 D w) : w.cell? ⟨rx, 0, none⟩ = some (.slice none 0 0) := h.res.c 0 rfl
theorem DrSt.r1 (h : DrSt wA rx cb a len cap zs B nb v1 v2 v3 D w) : w.cell? ⟨rx, 1, none⟩ = some (.slice none 0 0) := h.res.c 1 rfl
theorem DrSt.r2 (h : DrSt wA rx cb a len cap zs B nb v1 v2 v3 D w) : w.cell? ⟨rx, 2, none⟩ = some (.slice none 0 0) := h.res.c 2 rfl
theorem DrSt.f (h : DrSt wA rx cb a len cap zs B nb v1 v2 v3 D w) (j : Nat) : w.frozen? ⟨rx, j, none⟩ = false := h.res.f j

/-- All six cells at once. -/
theorem DrSt.six (h : DrSt wA rx cb a len cap zs B nb v1 v2 v3 D w) : w.cell? ⟨nb, 0, none⟩ = some v1 ∧ w.cell? ⟨nb, 1, none⟩ = some v2 ∧ w.cell? ⟨nb, 2, none⟩ = some v3 ∧ w.cell? ⟨rx, 0, none⟩ = some (.slice none 0 0) ∧ w.cell? ⟨rx, 1, none⟩ = some (.slice none 0 0) ∧ w.cell? ⟨rx, 2, none⟩ = some (.slice none 0 0) ∧ w.frozen? ⟨rx, 0, none⟩ = false ∧ w.frozen? ⟨rx, 1, none⟩ = false ∧ w.frozen? ⟨rx, 2, none⟩ = false :=
  ⟨h.c0, h.c1, h.c2, h.r0, h.r1, h.r2, h.f 0, h.f 1, h.f 2⟩

/-- The end: the disk in the result's box. -/
theorem DrSt.fin (h : DrSt wA rx cb a len cap zs B nb v1 v2 v3 D w) :
    Row (((w.setCell ⟨rx, 0, none⟩ v1).setCell ⟨rx, 1, none⟩ v2).setCell ⟨rx, 2, none⟩ v3) rx [v1, v2, v3] ∧
    DkR (((w.setCell ⟨rx, 0, none⟩ v1).setCell ⟨rx, 1, none⟩ v2).setCell ⟨rx, 2, none⟩ v3) (.agg #[v1, v2, v3]) D ∧
    Below wA.heap.size wA (((w.setCell ⟨rx, 0, none⟩ v1).setCell ⟨rx, 1, none⟩ v2).setCell ⟨rx, 2, none⟩ v3) := by
  have h1 := h.hr
  have h2 := h.hc
  have h3 := h.hB
  exact ⟨((h.res.set 0 v1).set 1 v2).set 2 v3, (h.dk.move (kept3 w rx v1 v2 v3) (fun b hb e => by omega)).read, below_set (below_set (below_set h.bel _ _ _ h1) _ _ _ h1) _ _ _ h1⟩

/-- The start: the result's box, the cursor, the disk drawn and boxed. -/
theorem DrSt.start {wb w1 w2 w3 : World} (ez : wb.heap.size = wA.heap.size + 1) (R : Row wb wA.heap.size [.slice none 0 0, .slice none 0 0, .slice none 0 0]) (b0 : Below wA.heap.size wA wb) (b1 : Below wb.heap.size wb w1) (E1 : EnvX w1 wb.heap.size a len cap zs) (E2 : EnvX w2 wb.heap.size a len cap zs) (g2 : w1.grownBy w2 (some wb.heap.size)) (O : DkW w2 w1.heap.size (.agg #[v1, v2, v3]) D)
    (A3 : Row w3 w2.heap.size [v1, v2, v3]) (b3 : Below w2.heap.size w2 w3) : DrSt wA wA.heap.size wb.heap.size a len cap zs w1.heap.size w2.heap.size v1 v2 v3 D w3 := by
  have hc1 := E1.lt
  have k : Kept (fun b => b = wb.heap.size) w1 w2 := ⟨g2.os, g2.tape, g2.output, g2.size, fun k hk hn => g2.block k hk (by simpa using hn)⟩
  have hs := k.size
  have bA : Below wA.heap.size wA w1 := b0.trans (b1.mono b0.size)
  have bB : Below wA.heap.size wA w2 := bA.trans (k.below bA.size (fun b hb e => by omega))
  exact ⟨E2.below E2 b3, A3, ((R.below b1 (by omega)).kept k (by omega)).below b3 (by omega), O.below b3, Nat.le_refl _, by omega, hc1, by omega, bB.trans (b3.mono bB.size)⟩

theorem DkW.three {w : World} {B : Nat} {v : Value} {D : Dk} (h : DkW w B v D) : ∃ p1 c1 p2 c2 p3 c3, v = .agg #[.slice p1 D.sec.length c1, .slice p2 D.ep.length c2, .slice p3 D.pe.length c3] := by
  obtain ⟨a1, c1, a2, c2, a3, c3, e, _⟩ := h
  exact ⟨a1, c1, a2, c2, a3, c3, e⟩

end Go.Proofs.Ytnkipjlkhnmilaa.Mem
