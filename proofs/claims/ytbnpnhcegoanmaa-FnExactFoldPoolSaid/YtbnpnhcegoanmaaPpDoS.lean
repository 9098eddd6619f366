/-
  A pool of a call's own: one volume written over, moved. No condition.
-/
import Derived.Test.YtbnpnhcegoanmaaPpCp
namespace Go.Proofs.Ytbnpnhcegoanmaa.Pl
open Go.RowKit Go.Proofs.Ytbnpnhcegoanmaa.Mem
set_option linter.unusedVariables false

theorem PvsW.move {S : Nat → Prop} {w w' : World} {B : Nat} {a : Option Addr} {L : List Pv} (h : PvsW w B a L) (k : Kept S w w') (hn : ∀ b, pfoot a L b → ¬ S b) : PvsW w' B a L :=
  ⟨h.row.move k (fun b hb => hn b (Or.inl hb)), fun x hx => ⟨Wr.move (h.each x hx).1 k (fun b hb => hn b (Or.inr ⟨x, hx, Or.inl hb⟩)), Wr.move (h.each x hx).2 k (fun b hb => hn b (Or.inr ⟨x, hx, Or.inr hb⟩))⟩, h.own, h.two, h.off⟩

theorem split_at (L : List Pv) (n : Nat) (hn : n < L.length) : ∃ P x Q, L = P ++ x :: Q ∧ P.length = n :=
  ⟨L.take n, L[n], L.drop (n + 1), by rw [List.getElem_cons_drop, List.take_append_drop], by rw [List.length_take]; omega⟩

theorem data_mid (P Q : List Pv) (x : Pv) : ((P ++ x :: Q).map Pv.data).getD P.length noneD = x.data := by simp [List.getD]
theorem data_set (P Q : List Pv) (x y : Pv) : (P ++ y :: Q).map Pv.data = ((P ++ x :: Q).map Pv.data).set P.length y.data := by
  simp only [List.map_append, List.map_cons]
  rw [List.set_append_right _ _ (by simp)]
  simp

/-- A volume is stored whole; its lists are newer than the pool. -/
theorem PvsW.setVol {w w1 : World} {B b off E : Nat} {P Q : List Pv} {x y : Pv} (h0 : PvsW w B (some ⟨b, off, none⟩) (P ++ x :: Q)) (hb : Below w.heap.size w w1) (h2 : Two E y w1) (hE : w.heap.size ≤ E) (hBE : B ≤ E) :
    PvsW (((w1.setCell ⟨b, off + P.length * 3, none⟩ (.bool y.on)).setCell ⟨b, off + P.length * 3 + 1, none⟩ (.slice y.ha y.hs.length y.hc)).setCell ⟨b, off + P.length * 3 + 2, none⟩ (.slice y.ta y.ts.length y.tc)) B (some ⟨b, off, none⟩) (P ++ y :: Q) := by
  have h := h0.below hb
  have hlen : (P ++ y :: Q).length = (P ++ x :: Q).length := by simp
  have hlt : P.length * 3 + 2 < (P ++ x :: Q).length * 3 := by rw [List.length_append, List.length_cons]; omega
  have hbl : b < w.heap.size := h0.row.sl.lt ⟨by omega, off, rfl⟩
  have hk : Kept (fun c => c = b) w1 (((w1.setCell ⟨b, off + P.length * 3, none⟩ (.bool y.on)).setCell ⟨b, off + P.length * 3 + 1, none⟩ (.slice y.ha y.hs.length y.hc)).setCell ⟨b, off + P.length * 3 + 2, none⟩ (.slice y.ta y.ts.length y.tc)) :=
    (((kept_set _ _ _ _).trans (kept_set _ _ _ _)).trans (kept_set _ _ _ _)).mono (fun b _ h => by rcases h with (h | h) | h <;> exact h)
  have htwo := List.pairwise_append.1 h.two
  have htwo2 := List.pairwise_cons.1 htwo.2.1
  have hold : ∀ z, z ∈ P ∨ z ∈ Q → z ∈ P ++ x :: Q := fun z hz => by rcases hz with hz | hz <;> simp [hz]
  have hother : ∀ z, z ∈ P ∨ z ∈ Q → (∀ c, z.foot c → ¬ c = b) ∧ ∀ c, z.foot c → c < w.heap.size := fun z hz => ⟨fun c hc e => by
    subst e
    exact h.off z (hold z hz) c hc ⟨by omega, off, rfl⟩, fun c hc => by
      have := h0.pfoot_ge (Or.inr ⟨z, hold z hz, hc⟩)
      omega⟩
  have hy : ∀ c, y.foot c → E ≤ c := fun c hc => (h2.foot hc).1
  refine ⟨?_, fun z hz => ?_, fun z hz => ?_, ?_, fun z hz c hc hc2 => ?_⟩
  · rw [hlen]
    have r0 := h.row.set (P.length * 3) (by omega) (.bool y.on)
    have r1 := r0.set (P.length * 3 + 1) (by omega) (.slice y.ha y.hs.length y.hc)
    have r2 := r1.set (P.length * 3 + 2) (by omega) (.slice y.ta y.ts.length y.tc)
    simp only [← Nat.add_assoc] at r2
    refine r2.congr (fun j _ => ?_)
    by_cases hj : j / 3 = P.length
    · have : j = P.length * 3 + 0 ∨ j = P.length * 3 + 1 ∨ j = P.length * 3 + 2 := by omega
      rcases this with rfl | rfl | rfl
      · rw [if_neg (by omega), if_neg (by omega), if_pos (by omega), pcell_here P Q _ 0 (by omega)]; rfl
      · rw [if_neg (by omega), if_pos rfl, pcell_here P Q _ 1 (by omega)]; rfl
      · rw [if_pos rfl, pcell_here P Q _ 2 (by omega)]; rfl
    · rw [if_neg (by omega), if_neg (by omega), if_neg (by omega)]; exact pcell_mid P Q _ _ j hj
  · have ho : z ∈ P ∨ z ∈ Q → BlsW _ B z.ha z.hs ∧ StrsW _ B z.ta z.ts := fun hz => ⟨Wr.move (h.each z (hold z hz)).1 hk (fun c hc => (hother z hz).1 c (Or.inl hc)), Wr.move (h.each z (hold z hz)).2 hk (fun c hc => (hother z hz).1 c (Or.inr hc))⟩
    rcases List.mem_append.1 hz with hz | hz
    · exact ho (Or.inl hz)
    · rcases List.mem_cons.1 hz with rfl | hz
      · exact ⟨Wr.mono (Wr.move h2.has hk (fun c hc e => by have := hy c (Or.inl hc); omega)) hBE, Wr.mono (Wr.move h2.txt hk (fun c hc e => by have := hy c (Or.inr hc); omega)) hBE⟩
      · exact ho (Or.inr hz)
  · rcases List.mem_append.1 hz with hz | hz
    · exact h.own z (by simp [hz])
    · rcases List.mem_cons.1 hz with rfl | hz
      · exact h2.own
      · exact h.own z (by simp [hz])
  · refine List.pairwise_append.2 ⟨htwo.1, List.pairwise_cons.2 ⟨fun z hz c hc hc2 => ?_, htwo2.2⟩, fun z hz u hu c hc hc2 => ?_⟩
    · have := hy c hc
      have := (hother z (Or.inr hz)).2 c hc2
      omega
    · rcases List.mem_cons.1 hu with rfl | hu
      · have := hy c hc2
        have := (hother z (Or.inl hz)).2 c hc
        omega
      · exact htwo.2.2 z hz u (by simp [hu]) c hc hc2
  · rw [hlen] at hc2
    have hcb : c = b := by
      obtain ⟨_, o, e⟩ := hc2
      injection e with e
      injection e with e1
      exact e1.symm
    rcases List.mem_append.1 hz with hz | hz
    · exact (hother z (Or.inl hz)).1 c hc hcb
    · rcases List.mem_cons.1 hz with rfl | hz
      · have := hy c hc; omega
      · exact (hother z (Or.inr hz)).1 c hc hcb

theorem wr_list {w : World} {B : Nat} {b off : Nat} {l : List Bool} (h : BlsW w B (some ⟨b, off, none⟩) l) (j : Nat) (hj : j < l.length) (q : Bool) : BlsW (w.setCell ⟨b, off + j, none⟩ (.bool q)) B (some ⟨b, off, none⟩) (l.set j q) := by
  unfold BlsW
  rw [List.length_set]
  refine (Wr.set h j hj (.bool q)).congr (fun i hi => ?_)
  by_cases e : i = j
  · subst e; rw [if_pos rfl]; simp [List.getD, hj]
  · rw [if_neg e]; simp [List.getD, List.getElem?_set_ne (Ne.symm e)]
theorem wr_texts {w : World} {B : Nat} {b off : Nat} {l : List ByteArray} (h : StrsW w B (some ⟨b, off, none⟩) l) (j : Nat) (hj : j < l.length) (q : ByteArray) : StrsW (w.setCell ⟨b, off + j, none⟩ (.string q)) B (some ⟨b, off, none⟩) (l.set j q) := by
  unfold StrsW
  rw [List.length_set]
  refine (Wr.set h j hj (.string q)).congr (fun i hi => ?_)
  by_cases e : i = j
  · subst e; rw [if_pos rfl]; simp [List.getD, hj]
  · rw [if_neg e]; simp [List.getD, List.getElem?_set_ne (Ne.symm e)]

end Go.Proofs.Ytbnpnhcegoanmaa.Pl
