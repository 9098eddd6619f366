/-
  The walks of laws.markWriteS, laws.markDisk, laws.heldWriteS and laws.heldDisk: marks are laid into a disk and found there again. No condition but a disk that may be written and numbers that are not too great.
  A disk as an item of an exact law: how it is sized, laid anew, compared, marked, held. No condition but sizes.
-/
import Derived.Test.YtbnmcbbpbiofgaaJoin3
import Derived.Test.YtbnmcbbpbiofgaaToDisk
import Derived.Test.YtbnmcbbpbiofgaaEqDisk2
namespace Go.Proofs.Ytbnmcbbpbiofgaa.Mem
open Go.RowKit
set_option linter.unusedVariables false

theorem Wr.setAt {w : World} {B b off o : Nat} {m : Nat} {f : Nat → Value} (h : Wr w B (some ⟨b, off, none⟩) m f) (i : Nat) (hi : i < m) (ho : o = off + i) (v : Value) :
    Wr (w.setCell ⟨b, o, none⟩ v) B (some ⟨b, off, none⟩) m (fun j => if j = i then v else f j) := by subst ho; exact h.set i hi v

/-- The four cells of write k, which may be written, wherever the slice begins. -/
theorem wr_at' {w : World} {B b off : Nat} {m : Nat} {f : Nat → Value} (h : Wr w B (some ⟨b, off, none⟩) m f) (k : Nat) (hk : k * 4 + 4 ≤ m) :
    (∃ v, w.cell? ⟨b, off + k * 4, none⟩ = some v) ∧ (∃ v, w.cell? ⟨b, off + k * 4 + 1, none⟩ = some v) ∧ (∃ v, w.cell? ⟨b, off + k * 4 + 2, none⟩ = some v) ∧ (∃ v, w.cell? ⟨b, off + k * 4 + 3, none⟩ = some v) ∧
    w.frozen? ⟨b, off + k * 4, none⟩ = false ∧ w.frozen? ⟨b, off + k * 4 + 1, none⟩ = false ∧ w.frozen? ⟨b, off + k * 4 + 2, none⟩ = false ∧ w.frozen? ⟨b, off + k * 4 + 3, none⟩ = false := by
  obtain ⟨_, _, e0, _, h0, z0⟩ := h (k * 4) (by omega)
  obtain ⟨_, _, e1, _, h1, z1⟩ := h (k * 4 + 1) (by omega)
  obtain ⟨_, _, e2, _, h2, z2⟩ := h (k * 4 + 2) (by omega)
  obtain ⟨_, _, e3, _, h3, z3⟩ := h (k * 4 + 3) (by omega)
  cases e0; cases e1; cases e2; cases e3
  rw [← Nat.add_assoc] at h1 h2 h3 z1 z2 z3
  exact ⟨⟨_, h0⟩, ⟨_, h1⟩, ⟨_, h2⟩, ⟨_, h3⟩, z0, z1, z2, z3⟩

/-- Cell i of a list of writes that was marked from k on. -/
def mw (k i : Nat) : Value := if i % 4 = 3 then .string (markS (k + i)) else .int .i64 ((k + i : Nat) : Int)
def msW (f : Nat → Value) (k j : Nat) (i : Nat) : Value := if i < j * 4 then mw k i else f i

theorem msW_succ (f : Nat → Value) (k j : Nat) (i : Nat) :
    (if i = j * 4 + 3 then Value.string (markS (k + (j * 4 + 3))) else if i = j * 4 + 2 then Value.int .i64 ((k + (j * 4 + 2) : Nat) : Int) else if i = j * 4 + 1 then Value.int .i64 ((k + (j * 4 + 1) : Nat) : Int) else if i = j * 4 then Value.int .i64 ((k + j * 4 : Nat) : Int) else msW f k j i) = msW f k (j + 1) i := by
  unfold msW mw
  by_cases h3 : i = j * 4 + 3
  · subst h3; rw [if_pos rfl, if_pos (by omega), if_pos (by omega)]
  by_cases h2 : i = j * 4 + 2
  · subst h2; rw [if_neg h3, if_pos rfl, if_pos (by omega), if_neg (by omega)]
  by_cases h1 : i = j * 4 + 1
  · subst h1; rw [if_neg h3, if_neg h2, if_pos rfl, if_pos (by omega), if_neg (by omega)]
  by_cases h0 : i = j * 4
  · subst h0; rw [if_neg h3, if_neg h2, if_neg h1, if_pos rfl, if_pos (by omega), if_neg (by omega)]
  rw [if_neg h3, if_neg h2, if_neg h1, if_neg h0]
  by_cases h : i < j * 4
  · rw [if_pos h, if_pos (show i < (j + 1) * 4 by omega)]
  · rw [if_neg h, if_neg (show ¬ i < (j + 1) * 4 by omega)]

/-- The blocks that a disk's three lists take. -/
def DkFoot (v : Value) (b : Nat) : Prop := ∃ a1 n1 c1 a2 n2 c2 a3 n3 c3, v = .agg #[.slice a1 n1 c1, .slice a2 n2 c2, .slice a3 n3 c3] ∧ (foot a1 n1 b ∨ foot a2 n2 b ∨ foot a3 (n3 * 4) b)

theorem DkR.kept {S : Nat → Prop} {w w' : World} {v : Value} {D : Dk} (h : DkR w v D) (k : Kept S w w') (hn : ∀ b, DkFoot v b → ¬ S b) : DkR w' v D := by
  obtain ⟨a1, c1, a2, c2, a3, c3, rfl, s1, s2, s3⟩ := h
  exact ⟨a1, c1, a2, c2, a3, c3, rfl, Sl.move s1 k (fun b hb => hn b ⟨_, _, _, _, _, _, _, _, _, rfl, Or.inl hb⟩), Sl.move s2 k (fun b hb => hn b ⟨_, _, _, _, _, _, _, _, _, rfl, Or.inr (Or.inl hb)⟩), Sl.move s3 k (fun b hb => hn b ⟨_, _, _, _, _, _, _, _, _, rfl, Or.inr (Or.inr hb)⟩)⟩

theorem DkR.foot_lt {w : World} {v : Value} {D : Dk} (h : DkR w v D) {b : Nat} (hb : DkFoot v b) : b < w.heap.size := by
  obtain ⟨a1, c1, a2, c2, a3, c3, rfl, s1, s2, s3⟩ := h
  obtain ⟨_, _, _, _, _, _, _, _, _, e, hf⟩ := hb
  cases e
  rcases hf with hf | hf | hf
  · exact Sl.lt s1 hf
  · exact Sl.lt s2 hf
  · exact Sl.lt s3 hf

theorem DkW.foot_ge {w : World} {B : Nat} {v : Value} {D : Dk} (h : DkW w B v D) {b : Nat} (hb : DkFoot v b) : B ≤ b := by
  obtain ⟨a1, c1, a2, c2, a3, c3, rfl, s1, s2, s3, _, _⟩ := h
  obtain ⟨_, _, _, _, _, _, _, _, _, e, hf⟩ := hb
  cases e
  rcases hf with hf | hf | hf
  · exact Wr.foot_ge s1 hf
  · exact Wr.foot_ge s2 hf
  · exact Wr.foot_ge s3 hf

/-- v is a disk of such lengths that was marked from k on. -/
def Marked (w : World) (v : Value) (n1 n2 n3 k : Nat) : Prop := ∃ a1 c1 a2 c2 a3 c3, v = .agg #[.slice a1 n1 c1, .slice a2 n2 c2, .slice a3 n3 c3] ∧
  Sl w a1 n1 (fun i => .string (markS (k + i))) ∧ Sl w a2 n2 (fun i => .int .i64 ((k + n1 + i : Nat) : Int)) ∧ Sl w a3 (n3 * 4) (mw (k + n1 + n2))

theorem Marked.below {w w' : World} {v : Value} {n1 n2 n3 k : Nat} (h : Marked w v n1 n2 n3 k) (b : Below w.heap.size w w') : Marked w' v n1 n2 n3 k := by
  obtain ⟨a1, c1, a2, c2, a3, c3, e, s1, s2, s3⟩ := h
  exact ⟨a1, c1, a2, c2, a3, c3, e, s1.below b, s2.below b, s3.below b⟩

end Go.Proofs.Ytbnmcbbpbiofgaa.Mem

namespace Go.Proofs.Ytbnmcbbpbiofgaa.KDk
open Go.RowKit Go.Proofs.Ytbnmcbbpbiofgaa.Mem Go.Proofs.Ytbnmcbbpbiofgaa.Rg Go.Proofs.Ytbnmcbbpbiofgaa.Pl Classical
set_option linter.unusedVariables false

/-- The disk is of a size that the laws look at, and Go can hold it. -/
def Up (D : Dk) : Prop := D.Held ∧ D.Small 1048576
def R (w : World) (cs : List Value) (D : Dk) : Prop := DkR w (.agg cs.toArray) D
def W (w : World) (B : Nat) (cs : List Value) (D : Dk) : Prop := DkW w B (.agg cs.toArray) D
def M (w : World) (cs : List Value) (D : Dk) (k : Nat) : Prop := Marked w (.agg cs.toArray) D.sec.length D.ep.length D.pe.length k
def F (cs : List Value) (b : Nat) : Prop := DkFoot (.agg cs.toArray) b
def n (D : Dk) : Nat := D.sec.length + D.ep.length + D.pe.length * 4

theorem W.read {w : World} {B : Nat} {cs : List Value} {D : Dk} (h : W w B cs D) : R w cs D := DkW.read h
theorem W.ge {w : World} {B : Nat} {cs : List Value} {D : Dk} (h : W w B cs D) {b : Nat} (hb : F cs b) : B ≤ b := DkW.foot_ge h hb
theorem W.mono {w : World} {B B' : Nat} {cs : List Value} {D : Dk} (h : W w B cs D) (hb : B' ≤ B) : W w B' cs D := by
  obtain ⟨a1, c1, a2, c2, a3, c3, e, s1, s2, s3, d1, d2⟩ := h
  exact ⟨a1, c1, a2, c2, a3, c3, e, Wr.mono s1 hb, Wr.mono s2 hb, Wr.mono s3 hb, d1, d2⟩
theorem R.lt {w : World} {cs : List Value} {D : Dk} (h : R w cs D) {b : Nat} (hb : F cs b) : b < w.heap.size := DkR.foot_lt h hb
theorem M.lt {w : World} {cs : List Value} {D : Dk} {k : Nat} (h : M w cs D k) {b : Nat} (hb : F cs b) : b < w.heap.size := by
  obtain ⟨a1, c1, a2, c2, a3, c3, e0, s1, s2, s3⟩ := h
  obtain ⟨_, _, _, _, _, _, _, _, _, e, hf⟩ := hb
  rw [e0] at e
  cases e
  rcases hf with hf | hf | hf
  · exact Sl.lt s1 hf
  · exact Sl.lt s2 hf
  · exact Sl.lt s3 hf
theorem R.kept {S : Nat → Prop} {w w' : World} {cs : List Value} {D : Dk} (h : R w cs D) (k : Kept S w w') (hn : ∀ b, F cs b → ¬ S b) : R w' cs D := DkR.kept h k hn
theorem W.kept {S : Nat → Prop} {w w' : World} {B : Nat} {cs : List Value} {D : Dk} (h : W w B cs D) (k : Kept S w w') (hn : ∀ b, F cs b → ¬ S b) : W w' B cs D := by
  obtain ⟨a1, c1, a2, c2, a3, c3, e, s1, s2, s3, d1, d2⟩ := h
  exact ⟨a1, c1, a2, c2, a3, c3, e, Wr.move s1 k (fun b hb => hn b ⟨_, _, _, _, _, _, _, _, _, e, .inl hb⟩), Wr.move s2 k (fun b hb => hn b ⟨_, _, _, _, _, _, _, _, _, e, .inr (.inl hb)⟩), Wr.move s3 k (fun b hb => hn b ⟨_, _, _, _, _, _, _, _, _, e, .inr (.inr hb)⟩), d1, d2⟩
theorem M.kept {S : Nat → Prop} {w w' : World} {cs : List Value} {D : Dk} {j : Nat} (h : M w cs D j) (k : Kept S w w') (hn : ∀ b, F cs b → ¬ S b) : M w' cs D j := by
  obtain ⟨a1, c1, a2, c2, a3, c3, e, s1, s2, s3⟩ := h
  exact ⟨a1, c1, a2, c2, a3, c3, e, Sl.move s1 k (fun b hb => hn b ⟨_, _, _, _, _, _, _, _, _, e, .inl hb⟩), Sl.move s2 k (fun b hb => hn b ⟨_, _, _, _, _, _, _, _, _, e, .inr (.inl hb)⟩), Sl.move s3 k (fun b hb => hn b ⟨_, _, _, _, _, _, _, _, _, e, .inr (.inr hb)⟩)⟩
theorem R.below {w w' : World} {cs : List Value} {D : Dk} (h : R w cs D) (k : Below w.heap.size w w') : R w' cs D := h.kept (Kept.of_below (S := fun _ => False) k) (fun _ _ x => x)
theorem W.below {w w' : World} {B : Nat} {cs : List Value} {D : Dk} (h : W w B cs D) (k : Below w.heap.size w w') : W w' B cs D := h.kept (Kept.of_below (S := fun _ => False) k) (fun _ _ x => x)
theorem R.len {w : World} {cs : List Value} {D : Dk} (h : R w cs D) : cs.length = 3 ∧ cs.all (·.oneCell') = true := by
  obtain ⟨a1, c1, a2, c2, a3, c3, e, _⟩ := h
  obtain rfl : cs = [.slice a1 D.sec.length c1, .slice a2 D.ep.length c2, .slice a3 D.pe.length c3] := agg_inj e
  exact ⟨rfl, rfl⟩

def rd (b : Nat) (cs : List Value) (D : Dk) : LItem := ⟨b, cs, F cs, fun w => R w cs D, fun S w w' h k hn => h.kept k hn, fun w h x hx => h.lt hx⟩
def wr (b : Nat) (cs : List Value) (D : Dk) (B : Nat) : LItem := ⟨b, cs, F cs, fun w => W w B cs D, fun S w w' h k hn => h.kept k hn, fun w h x hx => h.read.lt hx⟩
def mk (b : Nat) (cs : List Value) (D : Dk) (k : Nat) : LItem := ⟨b, cs, F cs, fun w => M w cs D k, fun S w w' h j hn => h.kept j hn, fun w h x hx => h.lt hx⟩

end Go.Proofs.Ytbnmcbbpbiofgaa.KDk
