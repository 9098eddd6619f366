/-
  The walks of laws.toPVol, laws.toPVolS and laws.toPool: a pool laid anew, its lists apart from one another. No condition but lists of at most 2^20.
-/
import Derived.Test.YtbnpnhcegoanmaaPpV
namespace Go.Proofs.Ytbnpnhcegoanmaa.Pl
open Go.RowKit Go.Proofs.Ytbnpnhcegoanmaa.Mem
set_option linter.unusedVariables false

theorem foot_new {g n b : Nat} (h : foot (some ⟨g, 0, none⟩) n b) : b = g := by
  obtain ⟨_, off, e⟩ := h
  injection e with e
  injection e with e1
  exact e1.symm

theorem infoPv : (Try.prog.info? 67).map (fun i => (i.zero, i.size, i.bytes)) = some (some (.agg #[.bool false, .slice none 0 0, .slice none 0 0]), 3, 56) := by kernel_rfl

/-- The cells of the new row behind k rounds. -/
def partPv (L : List Pv) (i : Nat) : Value := if i < L.length * 3 then pcell L i else Pv.none.cells.getD (i % 3) undef

theorem setPv {w : World} {B b : Nat} {m : Nat} {f : Nat → Value} (h : Wr w B (some ⟨b, 0, none⟩) m f) (k : Nat) (hk : k * 3 + 3 ≤ m) (v0 v1 v2 : Value) :
    Wr (((w.setCell ⟨b, k * 3, none⟩ v0).setCell ⟨b, k * 3 + 1, none⟩ v1).setCell ⟨b, k * 3 + 2, none⟩ v2) B (some ⟨b, 0, none⟩) m (fun j => if j / 3 = k then [v0, v1, v2].getD (j % 3) undef else f j) := by
  have h0 := h.set (k * 3) (by omega) v0
  have h1 := h0.set (k * 3 + 1) (by omega) v1
  have h2 := h1.set (k * 3 + 2) (by omega) v2
  simp only [Nat.zero_add] at h2
  refine h2.congr (fun j _ => ?_)
  by_cases hj : j / 3 = k
  · have : j = k * 3 ∨ j = k * 3 + 1 ∨ j = k * 3 + 2 := by omega
    rcases this with rfl | rfl | rfl
    · rw [if_neg (by omega), if_neg (by omega), if_pos rfl, if_pos (by omega), show k * 3 % 3 = 0 by omega]; rfl
    · rw [if_neg (by omega), if_pos rfl, if_pos (by omega), show (k * 3 + 1) % 3 = 1 by omega]; rfl
    · rw [if_pos rfl, if_pos (by omega), show (k * 3 + 2) % 3 = 2 by omega]; rfl
  · rw [if_neg (by omega), if_neg (by omega), if_neg (by omega), if_neg hj]

theorem partPv_succ (L : List Pv) (x : Pv) (j : Nat) : (if j / 3 = L.length then x.cells.getD (j % 3) undef else partPv L j) = partPv (L ++ [x]) j := by
  unfold partPv pcell
  simp only [List.length_append, List.length_cons, List.length_nil]
  by_cases h : j / 3 = L.length
  · rw [if_pos h, if_pos (by omega), h]
    simp [List.getD]
  · by_cases h2 : j < L.length * 3
    · have h3 : j / 3 < L.length := by omega
      rw [if_neg h, if_pos h2, if_pos (by omega)]
      simp [List.getD, List.getElem?_append_left h3]
    · rw [if_neg h, if_neg h2, if_neg (by omega)]

theorem wr_Pv {w : World} {B b : Nat} {m : Nat} {f : Nat → Value} (h : Wr w B (some ⟨b, 0, none⟩) m f) (k : Nat) (hk : k * 3 + 3 ≤ m) :
    (∃ v, w.cell? ⟨b, k * 3, none⟩ = some v) ∧ (∃ v, w.cell? ⟨b, k * 3 + 1, none⟩ = some v) ∧ (∃ v, w.cell? ⟨b, k * 3 + 2, none⟩ = some v) ∧ w.frozen? ⟨b, k * 3, none⟩ = false ∧ w.frozen? ⟨b, k * 3 + 1, none⟩ = false ∧ w.frozen? ⟨b, k * 3 + 2, none⟩ = false := by
  obtain ⟨_, _, e0, _, h0, z0⟩ := h (k * 3) (by omega)
  obtain ⟨_, _, e1, _, h1, z1⟩ := h (k * 3 + 1) (by omega)
  obtain ⟨_, _, e2, _, h2, z2⟩ := h (k * 3 + 2) (by omega)
  cases e0
  cases e1
  cases e2
  rw [Nat.zero_add] at h0 h1 h2 z0 z1 z2
  exact ⟨⟨_, h0⟩, ⟨_, h1⟩, ⟨_, h2⟩, z0, z1, z2⟩

theorem kept_Pv (w : World) (b k : Nat) (v0 v1 v2 : Value) : Kept (fun x => x = b) w (((w.setCell ⟨b, k * 3, none⟩ v0).setCell ⟨b, k * 3 + 1, none⟩ v1).setCell ⟨b, k * 3 + 2, none⟩ v2) := ((((kept_set _ _ _ _).trans (kept_set _ _ _ _)).trans (kept_set _ _ _ _))).mono (fun b _ h => by rcases h with (h | h) | h <;> exact h)

/-- What has been laid so far, in blocks from C on and below D. -/
structure PvLaid (w : World) (C : Nat) (M : List Pv) : Prop where
  each : ∀ x ∈ M, BlsW w C x.ha x.hs ∧ StrsW w C x.ta x.ts
  own : ∀ x ∈ M, ∀ b, foot x.ha x.hs.length b → ¬ foot x.ta x.ts.length b
  two : M.Pairwise Pv.apart

theorem PvLaid.below {w w' : World} {C : Nat} {M : List Pv} (h : PvLaid w C M) (k : Below w.heap.size w w') : PvLaid w' C M :=
  ⟨fun x hx => ⟨Wr.below (h.each x hx).1 k, Wr.below (h.each x hx).2 k⟩, h.own, h.two⟩
theorem PvLaid.kept {S : Nat → Prop} {w w' : World} {C : Nat} {M : List Pv} (h : PvLaid w C M) (k : Kept S w w') (hn : ∀ b, C ≤ b → ¬ S b) : PvLaid w' C M :=
  ⟨fun x hx => ⟨Wr.move (h.each x hx).1 k (fun b hb => hn b (Wr.foot_ge (h.each x hx).1 hb)), Wr.move (h.each x hx).2 k (fun b hb => hn b (Wr.foot_ge (h.each x hx).2 hb))⟩, h.own, h.two⟩
theorem PvLaid.foot_lt {w : World} {C : Nat} {M : List Pv} (h : PvLaid w C M) {x : Pv} (hx : x ∈ M) {b : Nat} (hb : x.foot b) : C ≤ b ∧ b < w.heap.size := by
  rcases hb with hb | hb
  · exact ⟨Wr.foot_ge (h.each x hx).1 hb, Sl.lt (h.each x hx).1.sl hb⟩
  · exact ⟨Wr.foot_ge (h.each x hx).2 hb, Sl.lt (h.each x hx).2.sl hb⟩
/-- One more, whose lists lie in blocks that are new. -/
theorem PvLaid.more {w w' : World} {C : Nat} {M : List Pv} {x : Pv} (h : PvLaid w C M) (hC : C ≤ w.heap.size) (k : Below w.heap.size w w') (h1 : BlsW w' w.heap.size x.ha x.hs) (h2 : StrsW w' w.heap.size x.ta x.ts) (ho : ∀ b, foot x.ha x.hs.length b → ¬ foot x.ta x.ts.length b) : PvLaid w' C (M ++ [x]) := by
  have hk := h.below k
  refine ⟨fun y hy => ?_, fun y hy => ?_, ?_⟩
  · rcases List.mem_append.1 hy with hy | hy
    · exact hk.each y hy
    · obtain rfl : y = x := by simpa using hy
      exact ⟨Wr.mono h1 hC, Wr.mono h2 hC⟩
  · rcases List.mem_append.1 hy with hy | hy
    · exact hk.own y hy
    · obtain rfl : y = x := by simpa using hy
      exact ho
  · refine List.pairwise_append.2 ⟨h.two, List.pairwise_singleton _ _, fun y hy z hz b hb hb' => ?_⟩
    obtain rfl : z = x := by simpa using hz
    have hlt := (h.foot_lt hy hb).2
    rcases hb' with hb' | hb'
    · have := Wr.foot_ge h1 hb'; omega
    · have := Wr.foot_ge h2 hb'; omega

end Go.Proofs.Ytbnpnhcegoanmaa.Pl
