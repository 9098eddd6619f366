/-
  What a function of chapter 3 keeps in memory while it makes its answer: the argument's box, the result's block, its own disk with its box. No condition.
-/
import Derived.Test.YtppjohfafnbdlajWrapEnd
import Derived.Test.YtppjohfafnbdlajDkSwap
import Derived.Test.YtppjohfafnbdlajDkLand
import Derived.Test.YtppjohfafnbdlajDkFence
namespace Go.Proofs.Ytppjohfafnbdlaj.Mem
open Go.RowKit
set_option linter.unusedVariables false

structure ISt (w : World) (a0 a1 a2 : Value) (B nn : Nat) (p0 p1 p2 : Value) (E : Dk) (wk : World) : Prop where
  bel : Below w.heap.size w wk
  ra : Row wk w.heap.size [a0, a1, a2]
  rr : Row wk (w.heap.size + 1) [.slice none 0 0, .slice none 0 0, .slice none 0 0]
  rn : Row wk nn [p0, p1, p2]
  o : DkO wk B (.agg #[p0, p1, p2]) E
  lb : w.heap.size + 1 < B
  ln : B ≤ nn
  far : ∀ b, DkB (.agg #[p0, p1, p2]) b → b ≠ nn

theorem ISt.below {w : World} {a0 a1 a2 : Value} {B nn : Nat} {p0 p1 p2 : Value} {E : Dk} {wk w' : World} (h : ISt w a0 a1 a2 B nn p0 p1 p2 E wk) (b : Below wk.heap.size wk w') : ISt w a0 a1 a2 B nn p0 p1 p2 E w' :=
  ⟨h.bel.trans (b.mono h.bel.size), h.ra.below b h.ra.lt, h.rr.below b h.rr.lt, h.rn.below b h.rn.lt, h.o.below b, h.lb, h.ln, h.far⟩

theorem ISt.cells {w : World} {a0 a1 a2 : Value} {B nn : Nat} {p0 p1 p2 : Value} {E : Dk} {wk : World} (h : ISt w a0 a1 a2 B nn p0 p1 p2 E wk) :
    wk.cell? ⟨w.heap.size, 0, none⟩ = some a0 ∧ wk.cell? ⟨w.heap.size, 1, none⟩ = some a1 ∧ wk.cell? ⟨w.heap.size, 2, none⟩ = some a2 ∧
    wk.cell? ⟨w.heap.size + 1, 0, none⟩ = some (.slice none 0 0) ∧ wk.cell? ⟨w.heap.size + 1, 1, none⟩ = some (.slice none 0 0) ∧ wk.cell? ⟨w.heap.size + 1, 2, none⟩ = some (.slice none 0 0) ∧
    wk.frozen? ⟨w.heap.size + 1, 0, none⟩ = false ∧ wk.frozen? ⟨w.heap.size + 1, 1, none⟩ = false ∧ wk.frozen? ⟨w.heap.size + 1, 2, none⟩ = false ∧
    wk.cell? ⟨nn, 0, none⟩ = some p0 ∧ wk.cell? ⟨nn, 1, none⟩ = some p1 ∧ wk.cell? ⟨nn, 2, none⟩ = some p2 ∧ wk.frozen? ⟨nn, 2, none⟩ = false :=
  ⟨h.ra.c 0 rfl, h.ra.c 1 rfl, h.ra.c 2 rfl, h.rr.c 0 rfl, h.rr.c 1 rfl, h.rr.c 2 rfl, h.rr.f 0, h.rr.f 1, h.rr.f 2, h.rn.c 0 rfl, h.rn.c 1 rfl, h.rn.c 2 rfl, h.rn.f 2⟩

/-- The own disk is handed back. -/
theorem ISt.done {w : World} {a0 a1 a2 : Value} {B nn : Nat} {p0 p1 p2 : Value} {E : Dk} {wk : World} (h : ISt w a0 a1 a2 B nn p0 p1 p2 E wk) :
    DkW (((wk.setCell ⟨w.heap.size + 1, 0, none⟩ p0).setCell ⟨w.heap.size + 1, 1, none⟩ p1).setCell ⟨w.heap.size + 1, 2, none⟩ p2) w.heap.size (.agg #[p0, p1, p2]) E ∧
    Below w.heap.size w (((wk.setCell ⟨w.heap.size + 1, 0, none⟩ p0).setCell ⟨w.heap.size + 1, 1, none⟩ p1).setCell ⟨w.heap.size + 1, 2, none⟩ p2) ∧
    Row (((wk.setCell ⟨w.heap.size + 1, 0, none⟩ p0).setCell ⟨w.heap.size + 1, 1, none⟩ p1).setCell ⟨w.heap.size + 1, 2, none⟩ p2) (w.heap.size + 1) [p0, p1, p2] :=
  wrap_end h.lb h.bel h.o (Below.refl _ _) h.rr

theorem ISt.start {w w1 w2 wn : World} {a0 a1 a2 p0 p1 p2 : Value} {E : Dk} (HB : Below w.heap.size w w1) (HA : Row w1 w.heap.size [a0, a1, a2]) (HR : Row w1 (w.heap.size + 1) [.slice none 0 0, .slice none 0 0, .slice none 0 0])
    (O : DkO w2 w1.heap.size (.agg #[p0, p1, p2]) E) (b2 : Below w1.heap.size w1 w2) (N0 : Row wn w2.heap.size [p0, p1, p2]) (bn : Below w2.heap.size w2 wn) : ISt w a0 a1 a2 w1.heap.size w2.heap.size p0 p1 p2 E wn :=
  ⟨(HB.trans (b2.mono HB.size)).trans (bn.mono (Nat.le_trans HB.size b2.size)), (HA.below b2 HA.lt).below bn (HA.below b2 HA.lt).lt, (HR.below b2 HR.lt).below bn (HR.below b2 HR.lt).lt, N0, O.below bn, HR.lt, b2.size, fun b hb => by have := (O.lt hb).2; omega⟩

theorem Row.otherK {S : Nat → Prop} {w w' : World} {g : Nat} {xs : List Value} (h : Row w g xs) (k : Kept S w w') (hg : ¬ S g) : Row w' g xs := h.kept k hg

/-- A sector of the own disk is stored. -/
theorem ISt.setSec {w : World} {a0 a1 a2 : Value} {B nn : Nat} {g n cap i : Nat} {p1 p2 : Value} {E : Dk} {wk : World} (h : ISt w a0 a1 a2 B nn (.slice (some ⟨g, 0, none⟩) n (cap + 1)) p1 p2 E wk) (hi : i < E.sec.length) (t : ByteArray) :
    ISt w a0 a1 a2 B nn (.slice (some ⟨g, 0, none⟩) n (cap + 1)) p1 p2 ⟨E.sec.set i t, E.ep, E.pe⟩ (wk.setCell ⟨g, i, none⟩ (.string t)) := by
  have hg := h.o.lt (b := g) ⟨_, _, _, rfl, Or.inl rfl⟩
  have hf := h.far g ⟨_, _, _, rfl, Or.inl rfl⟩
  have k := kept_set wk g i (.string t)
  have := h.lb
  exact ⟨below_set h.bel g i _ (by omega), h.ra.kept k (by omega), h.rr.kept k (by omega), h.rn.kept k (fun e => hf e.symm), h.o.setSec hi t, h.lb, h.ln, h.far⟩

/-- An epoch of the own disk is stored. -/
theorem ISt.setEp {w : World} {a0 a1 a2 : Value} {B nn : Nat} {g n cap i : Nat} {p0 p2 : Value} {E : Dk} {wk : World} (h : ISt w a0 a1 a2 B nn p0 (.slice (some ⟨g, 0, none⟩) n (cap + 1)) p2 E wk) (hi : i < E.ep.length) (z : Int) :
    ISt w a0 a1 a2 B nn p0 (.slice (some ⟨g, 0, none⟩) n (cap + 1)) p2 ⟨E.sec, E.ep.set i z, E.pe⟩ (wk.setCell ⟨g, i, none⟩ (.int .i64 z)) := by
  have hg := h.o.lt (b := g) ⟨_, _, _, rfl, Or.inr (Or.inl rfl)⟩
  have hf := h.far g ⟨_, _, _, rfl, Or.inr (Or.inl rfl)⟩
  have k := kept_set wk g i (.int .i64 z)
  have := h.lb
  exact ⟨below_set h.bel g i _ (by omega), h.ra.kept k (by omega), h.rr.kept k (by omega), h.rn.kept k (fun e => hf e.symm), h.o.setEp hi z, h.lb, h.ln, h.far⟩

/-- Another list of writes is laid into the own disk. -/
theorem ISt.setPend {w : World} {a0 a1 a2 : Value} {B nn : Nat} {p0 p1 p2 v : Value} {E : Dk} {wk w2 : World} {l : List Wt} (h : ISt w a0 a1 a2 B nn p0 p1 p2 E wk) (b : Below wk.heap.size wk w2) (r : RowO w2 wk.heap.size 51 4 v l.length (wCells l)) :
    ISt w a0 a1 a2 B nn p0 p1 v ⟨E.sec, E.ep, l⟩ (w2.setCell ⟨nn, 2, none⟩ v) := by
  have hn := h.rn.lt
  have hB : B ≤ wk.heap.size := by have := h.ln; omega
  have o2 := h.o.swapped b hB r
  have far : ∀ c, DkB (.agg #[p0, p1, v]) c → c ≠ nn := by
    rintro c ⟨_, _, _, e, hc⟩
    cases e
    rcases hc with hc | hc | hc
    · exact h.far c ⟨_, _, _, rfl, Or.inl hc⟩
    · exact h.far c ⟨_, _, _, rfl, Or.inr (Or.inl hc)⟩
    · have := (r.lt hc).1; omega
  have k := kept_set w2 nn 2 v
  have := h.lb
  have := h.ln
  have h2 := h.below b
  exact ⟨below_set h2.bel nn 2 _ (by omega), h2.ra.kept k (by omega), h2.rr.kept k (by omega), by simpa using h2.rn.set 2 v, o2.kept k (fun c hc => far c hc), h.lb, h.ln, far⟩

/-- A write is appended to the own disk's. -/
theorem ISt.app {w : World} {a0 a1 a2 : Value} {B nn : Nat} {p0 p1 p2 v : Value} {E : Dk} {wk wa w2 : World} {x : Wt} (h : ISt w a0 a1 a2 B nn p0 p1 p2 E wk) (b : Below wk.heap.size wk wa) (k : Kept (fun b => rb p2 = some b) wa w2)
    (r : RowO w2 B 51 4 v (E.pe.length + 1) (wCells E.pe ++ x.cells)) (hi : rb v = none ∨ rb v = rb p2 ∨ (rb v = some wa.heap.size ∧ wa.heap.size < w2.heap.size)) :
    ISt w a0 a1 a2 B nn p0 p1 v ⟨E.sec, E.ep, E.pe ++ [x]⟩ (w2.setCell ⟨nn, 2, none⟩ v) := by
  have ha := h.below b
  have o2 := h.o.more1 b k r hi
  have hn := h.rn.lt
  have hsz := b.size
  have far : ∀ c, DkB (.agg #[p0, p1, v]) c → c ≠ nn := by
    rintro c ⟨_, _, _, e, hc⟩
    cases e
    rcases hc with hc | hc | hc
    · exact h.far c ⟨_, _, _, rfl, Or.inl hc⟩
    · exact h.far c ⟨_, _, _, rfl, Or.inr (Or.inl hc)⟩
    · rcases hi with e | e | e
      · rw [e] at hc; cases hc
      · rw [e] at hc; exact h.far c ⟨_, _, _, rfl, Or.inr (Or.inr hc)⟩
      · rw [e.1] at hc; cases hc; omega
  have p2B : ∀ c, rb p2 = some c → B ≤ c := fun c hc => (h.o.lt ⟨_, _, _, rfl, Or.inr (Or.inr hc)⟩).1
  have p2n : ¬ rb p2 = some nn := fun e => h.far nn ⟨_, _, _, rfl, Or.inr (Or.inr e)⟩ rfl
  have k2 := kept_set w2 nn 2 v
  have := h.lb
  have := h.ln
  have n2 := ha.rn.kept k p2n
  refine ⟨below_set (ha.bel.trans (k.below ha.bel.size (fun c hc e => by have := p2B c e; omega))) nn 2 _ (by omega), (ha.ra.kept k (fun e => by have := p2B _ e; omega)).kept k2 (by omega), (ha.rr.kept k (fun e => by have := p2B _ e; omega)).kept k2 (by omega), by simpa using n2.set 2 v, o2.kept k2 (fun c hc => far c hc), h.lb, h.ln, far⟩

end Go.Proofs.Ytppjohfafnbdlaj.Mem
