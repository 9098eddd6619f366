/-
  The walks of laws.toPVol, laws.toPVolS and laws.toPool: a pool laid anew, its lists apart from one another. No condition but lists of at most 2^20.
-/
import Derived.Test.YtieohdfhbfeoaaaPpV
namespace Go.Proofs.Ytieohdfhbfeoaaa.Pl
open Go.RowKit Go.Proofs.Ytieohdfhbfeoaaa.Mem
set_option linter.unusedVariables false

theorem foot_new {g n b : Nat} (h : foot (some ⟨g, 0, none⟩) n b) : b = g := by
  obtain ⟨_, off, e⟩ := h
  injection e with e
  injection e with e1
  exact e1.symm

set_option maxRecDepth 100000 in
set_option maxHeartbeats 2000000 in
theorem toPVol (w : World) (x : Pv) (S : Bls w x.ha x.hs ∧ Strs w x.ta x.ts) (hx : x.Upto 1048576) :
    Calls Try.prog 44 #[x.val] w fun r w' => ∃ g1 g2, r = .returned (.agg #[.bool x.on, .slice (some ⟨g1, 0, none⟩) x.hs.length x.hs.length, .slice (some ⟨g2, 0, none⟩) x.ts.length x.ts.length]) ∧ w.heap.size ≤ g1 ∧ g1 < g2 ∧ g2 < w'.heap.size ∧
      BlsW w' w.heap.size (some ⟨g1, 0, none⟩) x.hs ∧ StrsW w' w.heap.size (some ⟨g2, 0, none⟩) x.ts ∧ Below w.heap.size w w' := by
  obtain ⟨on, ha, hc, hs, ta, tc, ts⟩ := x
  unfold Pv.val
  simp only [] at S ⊢
  have h3 : hs.length ≤ 1048576 := by have := hx.1; simp only [] at this; omega
  have h4 : ts.length ≤ 1048576 := by have := hx.2.1; simp only [] at this; omega
  have HS := hid S
  have H3 := hid h3
  have H4 := hid h4
  clear S hx h3 h4
  obtain ⟨wc, hwc, e2, A0, R0, O0, B0⟩ := three_new w [.bool on, .slice ha hs.length hc, .slice ta ts.length tc] [.bool false, .slice none 0 0, .slice none 0 0] 75 49
  have ca0 := A0.c 0 rfl
  have ca1 := A0.c 1 rfl
  have co0 := O0.c 0 rfl
  have fo0 := O0.f 0
  have HA := hid A0
  have HR := hid R0
  have HO := hid O0
  have HB := hid B0
  have he2 := hid e2
  clear A0 R0 O0 B0 e2
  go_enter Try.func44, Try.ntmps44
  go_wp2_with fail
  have e2 := he2.out
  obtain ⟨w1, hw1, A0, R0, O0, B1, es⟩ : ∃ w1, wc.setCell ⟨w.heap.size + 1 + 1, 0, none⟩ (.bool on) = w1 ∧ Row w1 w.heap.size _ ∧ Row w1 (w.heap.size + 1) _ ∧ Row w1 (w.heap.size + 1 + 1) _ ∧ Below w.heap.size w w1 ∧ w1.heap.size = wc.heap.size :=
    ⟨_, rfl, puts_other HA.out (by omega) 0 [.bool on], puts_other HR.out (by omega) 0 [.bool on], puts_row HO.out 0 [.bool on], puts_below HB.out (by omega) 0 [.bool on], puts_size wc _ 0 [.bool on]⟩
  simp only [hw1]
  clear hw1 hwc ca0 ca1 co0 fo0 HA HR HO HB
  refine (toBoolS w1 ha hc hs (HS.out.1.below B1) H3.out).mono ?_
  rintro r w2 ⟨g1, rfl, hg1, hl1, S1, b2⟩
  replace A0 := A0.below b2 A0.lt
  replace R0 := R0.below b2 R0.lt
  replace O0 := O0.below b2 O0.lt
  replace B1 := B1.trans (b2.mono (by omega))
  have hs2 := b2.size
  have HS1 := hid S1
  have ca := A0.c 2 rfl
  have co := O0.c 1 rfl
  have fo := O0.f 1
  have HA := hid A0
  have HR := hid R0
  have HO := hid O0
  clear A0 R0 O0 b2 S1
  go_wp2_with fail
  obtain ⟨w2', hw2', A0, R0, O0, B2, es2, HS1'⟩ : ∃ w2', w2.setCell ⟨w.heap.size + 1 + 1, 1, none⟩ (.slice (some ⟨g1, 0, none⟩) hs.length hs.length) = w2' ∧ Row w2' w.heap.size _ ∧ Row w2' (w.heap.size + 1) _ ∧ Row w2' (w.heap.size + 1 + 1) _ ∧ Below w.heap.size w w2' ∧ w2'.heap.size = w2.heap.size ∧ Hid (BlsW w2' w1.heap.size (some ⟨g1, 0, none⟩) hs) :=
    ⟨_, rfl, puts_other HA.out (by omega) 1 [.slice (some ⟨g1, 0, none⟩) hs.length hs.length], puts_other HR.out (by omega) 1 [.slice (some ⟨g1, 0, none⟩) hs.length hs.length], puts_row HO.out 1 [.slice (some ⟨g1, 0, none⟩) hs.length hs.length], puts_below B1 (by omega) 1 [.slice (some ⟨g1, 0, none⟩) hs.length hs.length], puts_size w2 _ 1 [.slice (some ⟨g1, 0, none⟩) hs.length hs.length], Wr.move HS1.out (kept_set w2 (w.heap.size + 1 + 1) 1 _) (fun b hb => by have := Wr.foot_ge HS1.out hb; omega)⟩
  simp only [hw2']
  clear hw2' ca co fo HA HR HO B1 HS1
  refine (toStringS w2' ta tc ts (HS.out.2.below B2) H4.out).mono ?_
  rintro r w3 ⟨g2, rfl, hg2, hl2, S2, b3⟩
  replace R0 := R0.below b3 R0.lt
  replace O0 := O0.below b3 O0.lt
  replace B2 := B2.trans (b3.mono (by omega))
  have HS1 := hid (Wr.below HS1'.out b3)
  have HS2 := hid S2
  have d0 := O0.c 0 rfl
  have d1 := O0.c 1 rfl
  have d2 := O0.c 2 rfl
  have fd := O0.f 2
  have cr0 := R0.c 0 rfl
  have cr1 := R0.c 1 rfl
  have cr2 := R0.c 2 rfl
  have fr0 := R0.f 0
  have fr1 := R0.f 1
  have fr2 := R0.f 2
  have HB := hid B2
  have HR := hid ((((R0.other (p := ⟨w.heap.size + 1 + 1, 2, none⟩) (by show w.heap.size + 1 ≠ w.heap.size + 1 + 1; omega) (.slice (some ⟨g2, 0, none⟩) ts.length ts.length)).set 0 (.bool on)).set 1 (.slice (some ⟨g1, 0, none⟩) hs.length hs.length)).set 2 (.slice (some ⟨g2, 0, none⟩) ts.length ts.length))
  clear R0 O0 b3 S2 B2 HS1'
  go_wp2
  refine bodyPost_ret (results_row rfl _ _ (w.heap.size + 1) [.bool on, .slice (some ⟨g1, 0, none⟩) hs.length hs.length, .slice (some ⟨g2, 0, none⟩) ts.length ts.length] _ rfl HR.out Try.underlying49 rfl (by kernel_rfl)) rfl ?_
  refine ⟨g1, g2, rfl, by omega, by omega, by simpa using hl2, ?_, ?_, ?_⟩
  · exact (HS1.out.move (((((kept_set _ _ _ _).trans (kept_set _ _ _ _)).trans (kept_set _ _ _ _)).trans (kept_set _ _ _ _)).mono (T := fun b => b < wc.heap.size) (fun b _ hb => by rcases hb with ((h | h) | h) | h <;> omega)) (fun b hb => by have := HS1.out.foot_ge hb; omega)).mono (by omega)
  · exact (HS2.out.move (((((kept_set _ _ _ _).trans (kept_set _ _ _ _)).trans (kept_set _ _ _ _)).trans (kept_set _ _ _ _)).mono (T := fun b => b < wc.heap.size) (fun b _ hb => by rcases hb with ((h | h) | h) | h <;> omega)) (fun b hb => by have := HS2.out.foot_ge hb; omega)).mono (by omega)
  · exact below_set (below_set (below_set (below_set (HB.out) _ _ _ (by omega)) _ _ _ (by omega)) _ _ _ (by omega)) _ _ _ (by omega)

theorem infoPv : (Try.prog.info? 49).map (fun i => (i.zero, i.size, i.bytes)) = some (some (.agg #[.bool false, .slice none 0 0, .slice none 0 0]), 3, 56) := by kernel_rfl

/-- The cells of the new row behind k rounds. -/
def partPv (L : List Pv) (i : Nat) : Value := if i < L.length * 3 then pcell L i else Pv.none.cells.getD (i % 3) undef

theorem setPv {w : World} {B b : Nat} {m : Nat} {f : Nat → Value} (h : Wr w B (some ⟨b, 0, none⟩) m f) (k : Nat) (hk : k * 3 + 3 ≤ m) (v0 v1 v2 : Value) :
    Wr (((w.setCell ⟨b, k * 3, none⟩ v0).setCell ⟨b, k * 3 + 1, none⟩ v1).setCell ⟨b, k * 3 + 2, none⟩ v2) B (some ⟨b, 0, none⟩) m (fun j => if j / 3 = k then [v0, v1, v2].getD (j % 3) undef else f j) := by
  have h0 := h.set (k * 3) (by omega) v0
  have h1 := h0.set (k * 3 + 1) (by omega) v1
  have h2 := h1.set (k * 3 + 2) (by omega) v2
  simp only [Nat.zero_add] at h2
  refine h2.congr (fun j _ => ?_)
  by_cases hj : j / 3 = k
  · have : j = k * 3 ∨ j = k * 3 + 1 ∨ j = k * 3 + 2 := by omega
    rcases this with rfl | rfl | rfl
    · rw [if_neg (by omega), if_neg (by omega), if_pos rfl, if_pos (by omega), show k * 3 % 3 = 0 by omega]; rfl
    · rw [if_neg (by omega), if_pos rfl, if_pos (by omega), show (k * 3 + 1) % 3 = 1 by omega]; rfl
    · rw [if_pos rfl, if_pos (by omega), show (k * 3 + 2) % 3 = 2 by omega]; rfl
  · rw [if_neg (by omega), if_neg (by omega), if_neg (by omega), if_neg hj]

theorem partPv_succ (L : List Pv) (x : Pv) (j : Nat) : (if j / 3 = L.length then x.cells.getD (j % 3) undef else partPv L j) = partPv (L ++ [x]) j := by
  unfold partPv pcell
  simp only [List.length_append, List.length_cons, List.length_nil]
  by_cases h : j / 3 = L.length
  · rw [if_pos h, if_pos (by omega), h]
    simp [List.getD]
  · by_cases h2 : j < L.length * 3
    · have h3 : j / 3 < L.length := by omega
      rw [if_neg h, if_pos h2, if_pos (by omega)]
      simp [List.getD, List.getElem?_append_left h3]
    · rw [if_neg h, if_neg h2, if_neg (by omega)]

theorem wr_Pv {w : World} {B b : Nat} {m : Nat} {f : Nat → Value} (h : Wr w B (some ⟨b, 0, none⟩) m f) (k : Nat) (hk : k * 3 + 3 ≤ m) :
    (∃ v, w.cell? ⟨b, k * 3, none⟩ = some v) ∧ (∃ v, w.cell? ⟨b, k * 3 + 1, none⟩ = some v) ∧ (∃ v, w.cell? ⟨b, k * 3 + 2, none⟩ = some v) ∧ w.frozen? ⟨b, k * 3, none⟩ = false ∧ w.frozen? ⟨b, k * 3 + 1, none⟩ = false ∧ w.frozen? ⟨b, k * 3 + 2, none⟩ = false := by
  obtain ⟨_, _, e0, _, h0, z0⟩ := h (k * 3) (by omega)
  obtain ⟨_, _, e1, _, h1, z1⟩ := h (k * 3 + 1) (by omega)
  obtain ⟨_, _, e2, _, h2, z2⟩ := h (k * 3 + 2) (by omega)
  cases e0
  cases e1
  cases e2
  rw [Nat.zero_add] at h0 h1 h2 z0 z1 z2
  exact ⟨⟨_, h0⟩, ⟨_, h1⟩, ⟨_, h2⟩, z0, z1, z2⟩

theorem kept_Pv (w : World) (b k : Nat) (v0 v1 v2 : Value) : Kept (fun x => x = b) w (((w.setCell ⟨b, k * 3, none⟩ v0).setCell ⟨b, k * 3 + 1, none⟩ v1).setCell ⟨b, k * 3 + 2, none⟩ v2) := ((((kept_set _ _ _ _).trans (kept_set _ _ _ _)).trans (kept_set _ _ _ _))).mono (fun b _ h => by rcases h with (h | h) | h <;> exact h)

/-- What has been laid so far, in blocks from C on and below D. -/
structure PvLaid (w : World) (C : Nat) (M : List Pv) : Prop where
  each : ∀ x ∈ M, BlsW w C x.ha x.hs ∧ StrsW w C x.ta x.ts
  own : ∀ x ∈ M, ∀ b, foot x.ha x.hs.length b → ¬ foot x.ta x.ts.length b
  two : M.Pairwise Pv.apart

theorem PvLaid.below {w w' : World} {C : Nat} {M : List Pv} (h : PvLaid w C M) (k : Below w.heap.size w w') : PvLaid w' C M :=
  ⟨fun x hx => ⟨Wr.below (h.each x hx).1 k, Wr.below (h.each x hx).2 k⟩, h.own, h.two⟩
theorem PvLaid.kept {S : Nat → Prop} {w w' : World} {C : Nat} {M : List Pv} (h : PvLaid w C M) (k : Kept S w w') (hn : ∀ b, C ≤ b → ¬ S b) : PvLaid w' C M :=
  ⟨fun x hx => ⟨Wr.move (h.each x hx).1 k (fun b hb => hn b (Wr.foot_ge (h.each x hx).1 hb)), Wr.move (h.each x hx).2 k (fun b hb => hn b (Wr.foot_ge (h.each x hx).2 hb))⟩, h.own, h.two⟩
theorem PvLaid.foot_lt {w : World} {C : Nat} {M : List Pv} (h : PvLaid w C M) {x : Pv} (hx : x ∈ M) {b : Nat} (hb : x.foot b) : C ≤ b ∧ b < w.heap.size := by
  rcases hb with hb | hb
  · exact ⟨Wr.foot_ge (h.each x hx).1 hb, Sl.lt (h.each x hx).1.sl hb⟩
  · exact ⟨Wr.foot_ge (h.each x hx).2 hb, Sl.lt (h.each x hx).2.sl hb⟩
/-- One more, whose lists lie in blocks that are new. -/
theorem PvLaid.more {w w' : World} {C : Nat} {M : List Pv} {x : Pv} (h : PvLaid w C M) (hC : C ≤ w.heap.size) (k : Below w.heap.size w w') (h1 : BlsW w' w.heap.size x.ha x.hs) (h2 : StrsW w' w.heap.size x.ta x.ts) (ho : ∀ b, foot x.ha x.hs.length b → ¬ foot x.ta x.ts.length b) : PvLaid w' C (M ++ [x]) := by
  have hk := h.below k
  refine ⟨fun y hy => ?_, fun y hy => ?_, ?_⟩
  · rcases List.mem_append.1 hy with hy | hy
    · exact hk.each y hy
    · obtain rfl : y = x := by simpa using hy
      exact ⟨Wr.mono h1 hC, Wr.mono h2 hC⟩
  · rcases List.mem_append.1 hy with hy | hy
    · exact hk.own y hy
    · obtain rfl : y = x := by simpa using hy
      exact ho
  · refine List.pairwise_append.2 ⟨h.two, List.pairwise_singleton _ _, fun y hy z hz b hb hb' => ?_⟩
    obtain rfl : z = x := by simpa using hz
    have hlt := (h.foot_lt hy hb).2
    rcases hb' with hb' | hb'
    · have := Wr.foot_ge h1 hb'; omega
    · have := Wr.foot_ge h2 hb'; omega

set_option maxRecDepth 100000 in
set_option maxHeartbeats 2000000 in
theorem toPVolS (w : World) (a : Option Addr) (cap : Nat) (L : List Pv) (S : Pvs w a L) (hl : L.length ≤ 1048576) (he : ∀ x ∈ L, x.Upto 1048576) :
    Calls Try.prog 28 #[.slice a L.length cap] w fun e w' => ∃ g M, e = .returned (.slice (some ⟨g, 0, none⟩) M.length M.length) ∧ PvsW w' w.heap.size (some ⟨g, 0, none⟩) M ∧ L.map Pv.data = M.map Pv.data ∧ Below w.heap.size w w' := by
  have hmk := make_rows (P := Try.prog) 22 49 (.agg #[.bool false, .slice none 0 0, .slice none 0 0]) 3 56 Try.underlying22 infoPv .i64 .i64 L.length (by omega) (by omega)
  have HS := hid S
  have HE := hid he
  have hw0 := wr_new w (madeCells (Value.agg #[.bool false, .slice none 0 0, .slice none 0 0]).cells (L.length * 3)) 49 (L.length * 3) (partPv []) (fun i hi => by
    simp [madeCells, hi, partPv, Pv.none, Pv.cells, Value.cells]
    have : i % 3 = 0 ∨ i % 3 = 1 ∨ i % 3 = 2 := by omega
    rcases this with h | h | h <;> simp [h])
  generalize madeCells (Value.agg #[.bool false, .slice none 0 0, .slice none 0 0]).cells (L.length * 3) = cur at hmk hw0
  have HW := hid hw0
  clear S hw0 he
  go_enter Try.func28, Try.ntmps28
  go_wp2
  go_loopw [4] (fun i wr => ∃ (k : Nat) (M : List Pv), k ≤ L.length ∧ i = .int .i64 (k : Int) ∧ w.heap.size < wr.heap.size ∧ Hid (M.length = k) ∧ Hid ((L.take k).map Pv.data = M.map Pv.data) ∧ Hid (Wr wr w.heap.size (some ⟨w.heap.size, 0, none⟩) (L.length * 3) (partPv M)) ∧ Hid (PvLaid wr (w.heap.size + 1) M) ∧ Hid (Below w.heap.size w wr)) (fun i _ => L.length - (intOf i).toNat)
  case atStart => exact ⟨0, [], Nat.zero_le _, rfl, lt_alloc _ _, rfl, rfl, HW, ⟨fun x hx => by simp at hx, fun x hx => by simp at hx, List.Pairwise.nil⟩, (Below.refl _ _).alloc (Nat.le_refl _) _⟩
  case round =>
    obtain ⟨k, M, hk, rfl, hsz, HK, HD, HW', HI, HB⟩ := hrel
    by_cases hlt : k < L.length
    · obtain ⟨b, off, rfl, c0, c1, c2, i1, i2⟩ := Pvs.at_ (HS.out.below HB.out) k hlt
      have hx : (L.getD k Pv.none).Upto 1048576 := HE.out _ (by simp [List.getD, hlt])
      have hdx : (L.take (k + 1)).map Pv.data = (L.take k).map Pv.data ++ [(L.getD k Pv.none).data] := by
        rw [List.take_add_one, List.map_append, List.getElem?_eq_getElem hlt]
        simp only [Option.toList_some, List.map_cons, List.map_nil, List.getD, List.getElem?_eq_getElem hlt, Option.getD_some]
      generalize L.getD k Pv.none = x at c0 c1 c2 i1 i2 hx hdx
      have HX := hid hdx
      have HI1 := hid i1
      have HI2 := hid i2
      have HU := hid hx
      have HV : Hid (x.val = .agg #[.bool x.on, .slice x.ha x.hs.length x.hc, .slice x.ta x.ts.length x.tc]) := rfl
      clear hdx i1 i2 hx
      go_wp2_with fail
      rw [← HV.out]
      refine (toPVol _ x ⟨HI1.out, HI2.out⟩ HU.out).mono ?_
      rintro e w1 ⟨g1, g2, rfl, hg1, hg2, hg3, S1, S2, hb1⟩
      have HW1 := hid (HW'.out.below hb1)
      have HI3 : Hid (PvLaid w1 (w.heap.size + 1) (M ++ [⟨x.on, some ⟨g1, 0, none⟩, x.hs.length, x.hs, some ⟨g2, 0, none⟩, x.ts.length, x.ts⟩])) := HI.out.more hsz hb1 S1 S2 (fun b hb hb' => by have := foot_new hb; have := foot_new hb'; omega)
      have HB1 := hid (HB.out.trans (hb1.mono (Nat.le_of_lt hsz)))
      have hsz1 : w.heap.size < w1.heap.size := Nat.lt_of_lt_of_le hsz hb1.size
      obtain ⟨⟨u0, d0⟩, ⟨u1, d1⟩, ⟨u2, d2⟩, z0, z1, z2⟩ := wr_Pv HW1.out k (by omega)
      clear hb1 S1 S2 c0 c1 c2
      go_wp2
      refine ⟨⟨k + 1, M ++ [⟨x.on, some ⟨g1, 0, none⟩, x.hs.length, x.hs, some ⟨g2, 0, none⟩, x.ts.length, x.ts⟩], by omega, by go_num, by simpa using hsz1, by rw [Hid, List.length_append, HK.out]; rfl, ?_, ?_, ?_, (((HB1.out.setCell (Nat.le_refl _) _).setCell (Nat.le_refl _) _).setCell (Nat.le_refl _) _)⟩, by simp [intOf]; omega⟩
      · rw [Hid, HX.out, HD.out, List.map_append]; rfl
      · exact (setPv HW1.out k (by omega) _ _ _).congr (fun j _ => by rw [← partPv_succ, HK.out]; rfl)
      · exact HI3.out.kept (kept_Pv w1 w.heap.size k _ _ _) (fun b hb => by omega)
    · obtain rfl : k = L.length := by omega
      go_wp2
      go_ret
      refine ⟨w.heap.size, M, by rw [HK.out]; rfl, ⟨?_, fun x hx => ⟨Wr.mono (HI.out.each x hx).1 (by omega), Wr.mono (HI.out.each x hx).2 (by omega)⟩, HI.out.own, HI.out.two, fun x hx b hb hb' => ?_⟩, ?_, HB.out⟩
      · rw [HK.out]
        exact HW'.out.congr (fun i hi => by unfold partPv; rw [HK.out, if_pos hi])
      · have h1 := (HI.out.foot_lt hx hb).1
        have h2 := foot_new hb'
        omega
      · have := HD.out
        rwa [List.take_length] at this

set_option maxRecDepth 100000 in
set_option maxHeartbeats 2000000 in
theorem toPool (w : World) (a : Option Addr) (cap : Nat) (L : List Pv) (S : Pvs w a L) (hl : L.length ≤ 1048576) (he : ∀ x ∈ L, x.Upto 1048576) :
    Calls Try.prog 14 #[plV a L.length cap] w fun e w' => ∃ g M, e = .returned (plV (some ⟨g, 0, none⟩) M.length M.length) ∧ PvsW w' w.heap.size (some ⟨g, 0, none⟩) M ∧ L.map Pv.data = M.map Pv.data ∧ Below w.heap.size w w' := by
  unfold plV
  have HS := hid S
  have HL := hid hl
  have HE := hid he
  clear S hl he
  obtain ⟨wc, hwc, e2, A0, R0, O0, B0⟩ := three_new w [.slice a L.length cap] [.slice none 0 0] 31 24
  have ca0 := A0.c 0 rfl
  have HR := hid R0
  have HO := hid O0
  have HB := hid B0
  have he2 := hid e2
  clear A0 R0 O0 B0 e2
  go_enter Try.func14, Try.ntmps14
  go_wp2_with fail
  have e2 := he2.out
  refine (toPVolS wc a cap L (HS.out.below HB.out) HL.out HE.out).mono ?_
  rintro r w2 ⟨g, M, rfl, S1, D1, b2⟩
  have O0 := HO.out.below b2 HO.out.lt
  have R0 := HR.out.below b2 HR.out.lt
  have HB2 := hid (HB.out.trans (b2.mono (by omega)))
  have HS1 := hid S1
  have HD1 := hid D1
  have co := O0.c 0 rfl
  have fo := O0.f 0
  have cr := R0.c 0 rfl
  have fr := R0.f 0
  have HR2 := hid ((R0.other (p := ⟨w.heap.size + 1 + 1, 0, none⟩) (by show w.heap.size + 1 ≠ w.heap.size + 1 + 1; omega) (.slice (some ⟨g, 0, none⟩) M.length M.length)).set 0 (.slice (some ⟨g, 0, none⟩) M.length M.length))
  clear O0 R0 b2 S1 D1 HR HO hwc ca0 e2
  go_wp2
  refine bodyPost_ret (results_row rfl _ _ (w.heap.size + 1) [.slice (some ⟨g, 0, none⟩) M.length M.length] _ rfl HR2.out Try.underlying24 rfl (by kernel_rfl)) rfl ?_
  have e2 := he2.out
  refine ⟨g, M, rfl, ?_, HD1.out, ?_⟩
  · exact (HS1.out.kept (((kept_set _ _ _ _).trans (kept_set _ _ _ _)).mono (T := fun b => b < wc.heap.size) (fun b _ hb => by rcases hb with h | h <;> omega)) (fun b hb => by omega)).mono (by omega)
  · exact below_set (below_set (HB2.out) _ _ _ (by omega)) _ _ _ (by omega)

end Go.Proofs.Ytieohdfhbfeoaaa.Pl
