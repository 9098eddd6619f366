/-
  A pool of a call's own: one volume written over, moved. No condition.
  The walk of impl.ModelOk; spec.ReadOf and impl.ReadOf; the laws of ModelOk and ReadOf. No condition but lists of at most 2^20.
  The law of NewPool. No condition.
  A list of texts that comes in as an argument: what it is in memory. No condition.
-/
import Derived.Test.YtlbfcnpnfoapnaaGreatDoorJoin5
import Derived.Test.YtlbfcnpnfoapnaaGreatDoorJoin1
import Derived.Test.YtlbfcnpnfoapnaaGreatDoorMem
import Derived.Test.YtlbfcnpnfoapnaaGreatDoorRows
import Derived.ProofKit
import Derived.OpenShut
import Derived.ShutString
import Derived.Lib.SmallJoins
import Derived.Deep.Strs
import Derived.Deep.Slices
import Derived.Carry
namespace Go.Proofs.YtlbfcnpnfoapnaaGreatDoor.Pl
open Go.RowKit Go.Proofs.YtlbfcnpnfoapnaaGreatDoor.Mem
set_option linter.unusedVariables false

theorem PvsW.move {S : Nat → Prop} {w w' : World} {B : Nat} {a : Option Addr} {L : List Pv} (h : PvsW w B a L) (k : Kept S w w') (hn : ∀ b, pfoot a L b → ¬ S b) : PvsW w' B a L :=
  ⟨h.row.move k (fun b hb => hn b (Or.inl hb)), fun x hx => ⟨Wr.move (h.each x hx).1 k (fun b hb => hn b (Or.inr ⟨x, hx, Or.inl hb⟩)), Wr.move (h.each x hx).2 k (fun b hb => hn b (Or.inr ⟨x, hx, Or.inr hb⟩))⟩, h.own, h.two, h.off⟩

theorem split_at (L : List Pv) (n : Nat) (hn : n < L.length) : ∃ P x Q, L = P ++ x :: Q ∧ P.length = n :=
  ⟨L.take n, L[n], L.drop (n + 1), by rw [List.getElem_cons_drop, List.take_append_drop], by rw [List.length_take]; omega⟩

theorem data_mid (P Q : List Pv) (x : Pv) : ((P ++ x :: Q).map Pv.data).getD P.length noneD = x.data := by simp [List.getD]
theorem data_set (P Q : List Pv) (x y : Pv) : (P ++ y :: Q).map Pv.data = ((P ++ x :: Q).map Pv.data).set P.length y.data := by
  simp only [List.map_append, List.map_cons]
  rw [List.set_append_right _ _ (by simp)]
  simp

/-- A volume is stored whole; its lists are newer than the pool. -/
theorem PvsW.setVol {w w1 : World} {B b off E : Nat} {P Q : List Pv} {x y : Pv} (h0 : PvsW w B (some ⟨b, off, none⟩) (P ++ x :: Q)) (hb : Below w.heap.size w w1) (h2 : Two E y w1) (hE : w.heap.size ≤ E) (hBE : B ≤ E) :
    PvsW (((w1.setCell ⟨b, off + P.length * 3, none⟩ (.bool y.on)).setCell ⟨b, off + P.length * 3 + 1, none⟩ (.slice y.ha y.hs.length y.hc)).setCell ⟨b, off + P.length * 3 + 2, none⟩ (.slice y.ta y.ts.length y.tc)) B (some ⟨b, off, none⟩) (P ++ y :: Q) := by
  have h := h0.below hb
  have hlen : (P ++ y :: Q).length = (P ++ x :: Q).length := by simp
  have hlt : P.length * 3 + 2 < (P ++ x :: Q).length * 3 := by rw [List.length_append, List.length_cons]; omega
  have hbl : b < w.heap.size := h0.row.sl.lt ⟨by omega, off, rfl⟩
  have hk : Kept (fun c => c = b) w1 (((w1.setCell ⟨b, off + P.length * 3, none⟩ (.bool y.on)).setCell ⟨b, off + P.length * 3 + 1, none⟩ (.slice y.ha y.hs.length y.hc)).setCell ⟨b, off + P.length * 3 + 2, none⟩ (.slice y.ta y.ts.length y.tc)) :=
    (((kept_set _ _ _ _).trans (kept_set _ _ _ _)).trans (kept_set _ _ _ _)).mono (fun b _ h => by rcases h with (h | h) | h <;> exact h)
  have htwo := List.pairwise_append.1 h.two
  have htwo2 := List.pairwise_cons.1 htwo.2.1
  have hold : ∀ z, z ∈ P ∨ z ∈ Q → z ∈ P ++ x :: Q := fun z hz => by rcases hz with hz | hz <;> simp [hz]
  have hother : ∀ z, z ∈ P ∨ z ∈ Q → (∀ c, z.foot c → ¬ c = b) ∧ ∀ c, z.foot c → c < w.heap.size := fun z hz => ⟨fun c hc e => by
    subst e
    exact h.off z (hold z hz) c hc ⟨by omega, off, rfl⟩, fun c hc => by
      have := h0.pfoot_ge (Or.inr ⟨z, hold z hz, hc⟩)
      omega⟩
  have hy : ∀ c, y.foot c → E ≤ c := fun c hc => (h2.foot hc).1
  refine ⟨?_, fun z hz => ?_, fun z hz => ?_, ?_, fun z hz c hc hc2 => ?_⟩
  · rw [hlen]
    have r0 := h.row.set (P.length * 3) (by omega) (.bool y.on)
    have r1 := r0.set (P.length * 3 + 1) (by omega) (.slice y.ha y.hs.length y.hc)
    have r2 := r1.set (P.length * 3 + 2) (by omega) (.slice y.ta y.ts.length y.tc)
    simp only [← Nat.add_assoc] at r2
    refine r2.congr (fun j _ => ?_)
    by_cases hj : j / 3 = P.length
    · have : j = P.length * 3 + 0 ∨ j = P.length * 3 + 1 ∨ j = P.length * 3 + 2 := by omega
      rcases this with rfl | rfl | rfl
      · rw [if_neg (by omega), if_neg (by omega), if_pos (by omega), pcell_here P Q _ 0 (by omega)]; rfl
      · rw [if_neg (by omega), if_pos rfl, pcell_here P Q _ 1 (by omega)]; rfl
      · rw [if_pos rfl, pcell_here P Q _ 2 (by omega)]; rfl
    · rw [if_neg (by omega), if_neg (by omega), if_neg (by omega)]; exact pcell_mid P Q _ _ j hj
  · have ho : z ∈ P ∨ z ∈ Q → BlsW _ B z.ha z.hs ∧ StrsW _ B z.ta z.ts := fun hz => ⟨Wr.move (h.each z (hold z hz)).1 hk (fun c hc => (hother z hz).1 c (Or.inl hc)), Wr.move (h.each z (hold z hz)).2 hk (fun c hc => (hother z hz).1 c (Or.inr hc))⟩
    rcases List.mem_append.1 hz with hz | hz
    · exact ho (Or.inl hz)
    · rcases List.mem_cons.1 hz with rfl | hz
      · exact ⟨Wr.mono (Wr.move h2.has hk (fun c hc e => by have := hy c (Or.inl hc); omega)) hBE, Wr.mono (Wr.move h2.txt hk (fun c hc e => by have := hy c (Or.inr hc); omega)) hBE⟩
      · exact ho (Or.inr hz)
  · rcases List.mem_append.1 hz with hz | hz
    · exact h.own z (by simp [hz])
    · rcases List.mem_cons.1 hz with rfl | hz
      · exact h2.own
      · exact h.own z (by simp [hz])
  · refine List.pairwise_append.2 ⟨htwo.1, List.pairwise_cons.2 ⟨fun z hz c hc hc2 => ?_, htwo2.2⟩, fun z hz u hu c hc hc2 => ?_⟩
    · have := hy c hc
      have := (hother z (Or.inr hz)).2 c hc2
      omega
    · rcases List.mem_cons.1 hu with rfl | hu
      · have := hy c hc2
        have := (hother z (Or.inl hz)).2 c hc
        omega
      · exact htwo.2.2 z hz u (by simp [hu]) c hc hc2
  · rw [hlen] at hc2
    have hcb : c = b := by
      obtain ⟨_, o, e⟩ := hc2
      injection e with e
      injection e with e1
      exact e1.symm
    rcases List.mem_append.1 hz with hz | hz
    · exact (hother z (Or.inl hz)).1 c hc hcb
    · rcases List.mem_cons.1 hz with rfl | hz
      · have := hy c hc; omega
      · exact (hother z (Or.inr hz)).1 c hc hcb

theorem wr_list {w : World} {B : Nat} {b off : Nat} {l : List Bool} (h : BlsW w B (some ⟨b, off, none⟩) l) (j : Nat) (hj : j < l.length) (q : Bool) : BlsW (w.setCell ⟨b, off + j, none⟩ (.bool q)) B (some ⟨b, off, none⟩) (l.set j q) := by
  unfold BlsW
  rw [List.length_set]
  refine (Wr.set h j hj (.bool q)).congr (fun i hi => ?_)
  by_cases e : i = j
  · subst e; rw [if_pos rfl]; simp [List.getD, hj]
  · rw [if_neg e]; simp [List.getD, List.getElem?_set_ne (Ne.symm e)]
theorem wr_texts {w : World} {B : Nat} {b off : Nat} {l : List ByteArray} (h : StrsW w B (some ⟨b, off, none⟩) l) (j : Nat) (hj : j < l.length) (q : ByteArray) : StrsW (w.setCell ⟨b, off + j, none⟩ (.string q)) B (some ⟨b, off, none⟩) (l.set j q) := by
  unfold StrsW
  rw [List.length_set]
  refine (Wr.set h j hj (.string q)).congr (fun i hi => ?_)
  by_cases e : i = j
  · subst e; rw [if_pos rfl]; simp [List.getD, hj]
  · rw [if_neg e]; simp [List.getD, List.getElem?_set_ne (Ne.symm e)]

end Go.Proofs.YtlbfcnpnfoapnaaGreatDoor.Pl

namespace Go.Proofs.YtlbfcnpnfoapnaaGreatDoor.Pl
open Go.RowKit Go.Proofs.YtlbfcnpnfoapnaaGreatDoor.Mem
set_option linter.unusedVariables false

theorem place_iv (on h : Bool) (t : ByteArray) : (!plBad on h t) = (ivPl h t && (on || decide (false = h ∧ ⟨#[]⟩ = t))) := by
  unfold plBad ivPl
  cases on <;> cases h <;> simp
  · by_cases ht : t = ⟨#[]⟩
    · subst ht; simp
    · simp [ht]
  · by_cases ht : t = ⟨#[]⟩
    · subst ht; simp
    · simp [ht]

theorem pv_iv {x : Pv} (h1 : x.hs.length = 4) (h2 : x.ts.length = 4) : x.ok = ivOk x.on x.h x.t := by
  have e : ∀ k, placeOk x k = (ivPl (x.h k) (x.t k) && (x.on || decide (false = x.h k ∧ ⟨#[]⟩ = x.t k))) := fun k => place_iv _ _ _
  unfold Pv.ok ivOk ivZ
  rw [decide_eq_true h1, decide_eq_true h2]
  simp only [show List.range 4 = [0, 1, 2, 3] from rfl, List.all_cons, List.all_nil, e]
  generalize ivPl (x.h 0) (x.t 0) = a0
  generalize ivPl (x.h 1) (x.t 1) = a1
  generalize ivPl (x.h 2) (x.t 2) = a2
  generalize ivPl (x.h 3) (x.t 3) = a3
  generalize decide (false = x.h 0 ∧ ⟨#[]⟩ = x.t 0) = b0
  generalize decide (false = x.h 1 ∧ ⟨#[]⟩ = x.t 1) = b1
  generalize decide (false = x.h 2 ∧ ⟨#[]⟩ = x.t 2) = b2
  generalize decide (false = x.h 3 ∧ ⟨#[]⟩ = x.t 3) = b3
  cases x.on <;> revert a0 a1 a2 a3 b0 b1 b2 b3 <;> decide

/-- What holds of a list and of one with the same data. -/
theorem upto_data {L M : List Pv} (h : L.map Pv.data = M.map Pv.data) (hl : L.length ≤ 1048576) (hu : ∀ x ∈ L, x.Upto 1048576) : M.length ≤ 1048576 ∧ ∀ x ∈ M, x.Upto 1048576 := by
  have hlm : L.length = M.length := by have := congrArg List.length h; simpa using this
  refine ⟨by omega, fun x hx => ?_⟩
  have h1 : x.data ∈ L.map Pv.data := by rw [h]; exact List.mem_map_of_mem hx
  obtain ⟨y, hy, e⟩ := List.mem_map.1 h1
  have h2 := hu y hy
  obtain ⟨a, b, c, d, e1, f, g⟩ := x
  obtain ⟨a', b', c', d', e1', f', g'⟩ := y
  simp only [Pv.data, Prod.mk.injEq] at e
  obtain ⟨rfl, rfl, rfl⟩ := e
  exact h2

theorem upto_max {L : List Pv} (h : ∀ x ∈ L, x.Upto 1048576) : ∀ x ∈ L, x.Upto maxLen := fun x hx => (h x hx).mono (by unfold maxLen; decide)
theorem len_max {n : Nat} (h : n ≤ 1048576) : n ≤ maxLen := Nat.le_trans h (by unfold maxLen; decide)

end Go.Proofs.YtlbfcnpnfoapnaaGreatDoor.Pl

namespace Go.Proofs.YtlbfcnpnfoapnaaGreatDoor.Pl
open Go.RowKit Go.Proofs.YtlbfcnpnfoapnaaGreatDoor.Mem
set_option linter.unusedVariables false

theorem totPv_le {L : List Pv} (h : ∀ x ∈ L, x.Upto 1048576) : totPv L ≤ L.length * 2097153 := by
  induction L with
  | nil => simp [totPv]
  | cons x L ih =>
    have h1 := h x (by simp)
    have h2 := ih (fun y hy => h y (by simp [hy]))
    have h3 := h1.1
    have h4 := h1.2.1
    simp only [totPv, Pv.sz, List.length_cons]
    omega
theorem tot_ok {L : List Pv} (hl : L.length ≤ 1048576) (h : ∀ x ∈ L, x.Upto 1048576) : 1 + totPv L ≤ 4611686018427387904 := by
  have := totPv_le h
  omega

theorem none_small {M : List Pv} (h : M.map Pv.data = List.replicate 4 noneD) : M.length ≤ 1048576 ∧ ∀ x ∈ M, x.Upto 1048576 := by
  have hl : M.length = 4 := by have := congrArg List.length h; simpa using this
  refine ⟨by omega, fun x hx => ?_⟩
  have h1 : x.data ∈ M.map Pv.data := List.mem_map_of_mem hx
  rw [h] at h1
  have h2 := List.eq_of_mem_replicate h1
  obtain ⟨a, b, c, d, e, f, g⟩ := x
  simp only [Pv.data, noneD, Prod.mk.injEq] at h2
  obtain ⟨rfl, rfl, rfl⟩ := h2
  refine ⟨by show ((4 : Nat) : Int) ≤ 1048576; decide, by show ((4 : Nat) : Int) ≤ 1048576; decide, fun s hs => ?_⟩
  have : s = ⟨#[]⟩ := by simpa using hs
  subst this
  decide

/-- Marks laid into what lies from B on leave all below B. -/
theorem marked_below {w w' : World} {B : Nat} {a : Option Addr} {L : List Pv} (h : PvsW w B a L) (hB : B ≤ w.heap.size) (k : Kept (pfoot a L) w w') : Below B w w' :=
  k.below hB (fun b hb hf => by have := (h.pfoot_ge hf).1; omega)

end Go.Proofs.YtlbfcnpnfoapnaaGreatDoor.Pl

namespace Go.Proofs.YtlbfcnpnfoapnaaGreatDoor.Pk
open Go.RowKit Go.ChangeShapes Go.WideShapes Go.ChangeAt Go.Joins Go.Deep
open Go.Proofs.YtlbfcnpnfoapnaaGreatDoor.Mem
set_option linter.unusedVariables false

variable {H : Type} {enc : TypeId × Value → H} {W : World} {base : Nat} {spare : Nat → Bool} {held : Bool}

theorem sl_of_add {w : World} {a : Addr} {m : Nat} {f : Nat → Value} (h : ∀ i, i < m → w.cell? (a.add i) = some (f i)) : Sl w (some a) m f := by
  intro i hi
  have hc := h i hi
  obtain ⟨b, off, sp⟩ := a
  have hs : sp = none := by simpa [Addr.add] using World.cell?_spot (h 0 (by omega))
  subst hs
  rw [Addr.add_mid] at hc
  exact ⟨b, off, rfl, hc⟩

theorem strs_in {fuel : Nat} {v : Value} {x : DataW H × List MemPlace} (h : DataW.trod enc Tryz.prog W base spare held fuel 22 [v] = some x) :
    ∃ a cap l, v = .slice a (l : List ByteArray).length cap ∧ Strs W a l ∧ l.length ≤ maxLen ∧ ∀ s ∈ l, s.size ≤ maxLen := by
  rcases open_strs Tryz.underlying22 Tryz.underlying9 (by kernel_rfl) h with ⟨hcs, _⟩ | ⟨a, len, cap, m, Sx, hcs, _, hl, hm, hmm, _, hx⟩
  · simp only [List.cons.injEq, and_true] at hcs
    exact ⟨none, 0, [], hcs, fun i hi => by simp at hi, by simp, by simp⟩
  · simp only [List.cons.injEq, and_true] at hcs
    have hlm : len ≤ m := by rw [hmm]; split <;> omega
    refine ⟨some a, cap, (List.range len).map Sx, by rw [hcs]; simp, ?_, by simp; omega, ?_⟩
    · unfold Strs
      rw [List.length_map, List.length_range]
      refine sl_of_add (fun i hi => ?_)
      rw [(hx i (by omega)).1]
      simp [List.getD, hi]
    · intro s hs
      obtain ⟨i, hi, rfl⟩ := List.mem_map.1 hs
      exact (hx i (by have := List.mem_range.1 hi; omega)).2

set_option maxRecDepth 100000 in
theorem strs_arg {v : Value} {d : DataW H} {p : List MemPlace} {r : Reach} {b0 : Nat} (hv : Value.okWide Tryz.prog W r b0 22 v) (h : DataW.Trod enc Tryz.prog W base spare held 22 v d p) :
    ∃ a cap l, v = .slice a (l : List ByteArray).length cap ∧ Strs W a l ∧ l.length ≤ maxLen ∧ ∀ s ∈ l, s.size ≤ maxLen := by
  obtain ⟨fuel, hf⟩ := h
  obtain ⟨a, len, cap, rfl⟩ := okWide_slice Tryz.underlying22 hv
  exact strs_in hf

end Go.Proofs.YtlbfcnpnfoapnaaGreatDoor.Pk
