/-
  The walk of impl.HostRise: a host rises. No condition but sizes.
  What an exact law keeps in memory while it goes on: boxes with what they lead to; each as a fact with the blocks that it hangs on. At any program. No condition.
  The walks of laws.toHost, laws.markHost and laws.heldHost. No condition but lists of at most 2^20, that may be written.
  The walks of laws.markHost and laws.heldHost at lists of at most 2^20. No condition but lists that may be written.
  A host as an item of an exact law: how it is sized, laid anew, compared, marked, held. No condition but sizes.
  A disk as an item of an exact law: how it is sized, laid anew, compared, marked, held. No condition but sizes.
  HostRise of both sides, as an exact law counts on it. No condition but sizes.
-/
import Derived.Test.YtlhnkdogafnnpaaGreatJoin5
import Derived.Test.YtlhnkdogafnnpaaGreatJoin6
import Derived.Test.YtlhnkdogafnnpaaGreatJoin4
import Derived.Test.YtlhnkdogafnnpaaGreatJoin1
import Derived.Deep.DeepCutAuto
import Derived.Test.YtlhnkdogafnnpaaGreatJoin3
namespace Go.Proofs.YtlhnkdogafnnpaaGreat.Pl
open Go.RowKit Go.Proofs.YtlhnkdogafnnpaaGreat.Mem Go.Proofs.YtlhnkdogafnnpaaGreat.Sec Go.Proofs.YtlhnkdogafnnpaaGreat.Rg
set_option linter.unusedVariables false

theorem call_iHostOk (vs : Array Value) (w : World) : (callFunc 31 vs).run Tryz.prog w = .ok (.enter 31 vs) w := by simp [go_sem]
theorem call_icopyDisk (vs : Array Value) (w : World) : (callFunc 35 vs).run Tryz.prog w = .ok (.enter 35 vs) w := by simp [go_sem]
theorem call_iRecoverOf (vs : Array Value) (w : World) : (callFunc 36 vs).run Tryz.prog w = .ok (.enter 36 vs) w := by simp [go_sem]

set_option maxRecDepth 100000 in
theorem iRecoverO (i : Int) (w : World) : Calls Tryz.prog 36 #[.int .i64 i] w fun e w' => e = .returned (opV 12 i 0 0 ⟨#[]⟩) ∧ Below w.heap.size w w' := by
  unfold opV
  go_enter Tryz.func36, Tryz.ntmps36
  go_wp2
  go_returns
  exact ⟨rfl, by go_grown⟩

theorem dkw_kept {w w' : World} {B : Nat} {v : Value} {D : Dk} (h : DkW w B v D) {S : Nat → Prop} (k : Kept S w w') (hn : ∀ b, DkFoot v b → ¬ S b) : DkW w' B v D := by
  obtain ⟨a1, c1, a2, c2, a3, c3, rfl, s1, s2, s3, d1, d2⟩ := h
  exact ⟨a1, c1, a2, c2, a3, c3, rfl, Wr.move s1 k (fun b hb => hn b ⟨_, _, _, _, _, _, _, _, _, rfl, .inl hb⟩), Wr.move s2 k (fun b hb => hn b ⟨_, _, _, _, _, _, _, _, _, rfl, .inr (.inl hb)⟩), Wr.move s3 k (fun b hb => hn b ⟨_, _, _, _, _, _, _, _, _, rfl, .inr (.inr hb)⟩), d1, d2⟩
theorem dkw_mono {w : World} {B B' : Nat} {v : Value} {D : Dk} (h : DkW w B v D) (hb : B' ≤ B) : DkW w B' v D := by
  obtain ⟨a1, c1, a2, c2, a3, c3, rfl, s1, s2, s3, d1, d2⟩ := h
  exact ⟨a1, c1, a2, c2, a3, c3, rfl, Wr.mono s1 hb, Wr.mono s2 hb, Wr.mono s3 hb, d1, d2⟩
theorem dkw_below {w w' : World} {B : Nat} {v : Value} {D : Dk} (h : DkW w B v D) (k : Below w.heap.size w w') : DkW w' B v D := dkw_kept h (Kept.of_below (S := fun _ => False) k) (fun _ _ x => x)

set_option maxRecDepth 100000 in
set_option maxHeartbeats 4000000 in
theorem implHostRise (w : World) (H : Ho) (p : Option Addr) (c : Nat) (v : Value) (D : Dk) (S : Ous w p H.l) (hu : H.Upto 1048576) (h : DkR w v D) (hd : D.Held) (hs : D.Small 1048576) :
    Calls Tryz.prog 9 #[hoV H p c, v] w fun e w' => RisesTo w w' (riseA H D) e := by
  have HS := hid S
  have HU := hid hu
  have HR0 := hid h
  have HD := hid hd
  have HSm := hid hs
  obtain ⟨a1, c1, a2, c2, a3, c3, rfl, _, _, _⟩ := h
  clear S hu hd hs
  unfold hoV
  go_enter Tryz.func9, Tryz.ntmps9
  go_upto_region 1 with fail
  obtain ⟨wa, hwa, ea, A0, C0, R0, Q0, B0⟩ := four_y w (hoC H p c) [.slice a1 D.sec.length c1, .slice a2 D.ep.length c2, .slice a3 D.pe.length c3] [.int .i64 0, .int .i64 0, .bool false, .bool false, .bool false, .int .i64 0, .int .i64 0, .int .i64 0, .int .i64 0, .string ⟨#[]⟩, .int .i64 0, .int .i64 0, .int .i64 0, .string ⟨#[]⟩, .slice none 0 0, .int .i64 0] [.slice none 0 0, .slice none 0 0, .slice none 0 0] 41 44 41 44
  unfold hoC at hwa
  simp only [hwa]
  clear hwa
  have HA := hid A0
  have HC := hid C0
  have HR := hid R0
  have HQ := hid Q0
  have HB := hid B0
  clear A0 C0 R0 Q0 B0
  refine wp_region_list ?_
  refine wpList_load_row rfl 41 _ rfl w.heap.size (by kernel_rfl) _ _ HA.out Tryz.underlying41 rfl (by kernel_rfl) ?_
  refine wpList_call rfl 31 _ _ rfl #[hoV H p c] (by simp only [List.map_toArray, List.map_cons, List.map_nil]; refine (?_ : _ = _); kernel_rfl) call_iHostOk ((iHostOk wa H p c (HS.out.below HB.out) HU.out).mono ?_)
  rintro e w1 ⟨rfl, b1⟩
  refine ⟨_, rfl, ?_⟩
  simp only [Act.put, List.setIfInBounds_toArray, List.set_cons_zero, List.set_cons_succ]
  have HA1 := hid (HA.out.below b1 HA.out.lt)
  have HC1 := hid (HC.out.below b1 HC.out.lt)
  have HR1 := hid (HR.out.below b1 HR.out.lt)
  have HQ1 := hid (HQ.out.below b1 HQ.out.lt)
  have HB1 := hid (HB.out.trans (b1.mono HB.out.size))
  have hs1 : wa.heap.size ≤ w1.heap.size := b1.size
  clear b1 HA HC HR HQ HB
  cases hok : H.ok with
  | false =>
    go_upto_region 2 with fail
    refine region_ret (rs := [⟨0, 0, 0, [.agg [.int .i64 0, .int .i64 0, .bool false, .bool false, .bool false, .int .i64 0, .int .i64 0, .int .i64 0, .int .i64 0, .string ⟨#[]⟩, .int .i64 0, .int .i64 0, .int .i64 0, .string ⟨#[]⟩, .slice none 0 0, .int .i64 0].toArray]⟩, ⟨0, 0, 0, [.agg [.slice none 0 0, .slice none 0 0, .slice none 0 0].toArray]⟩, ⟨2, w.heap.size + 1 + 1, 0, [.int .i64 0, .int .i64 0, .bool false, .bool false, .bool false, .int .i64 0, .int .i64 0, .int .i64 0, .int .i64 0, .string ⟨#[]⟩, .int .i64 0, .int .i64 0, .int .i64 0, .string ⟨#[]⟩, .slice none 0 0, .int .i64 0]⟩, ⟨2, w.heap.size + 1 + 1 + 1, 1, [.slice none 0 0, .slice none 0 0, .slice none 0 0]⟩, ⟨0, 0, 0, [.bool false]⟩]) (S := fun _ _ _ => True) false (by kernel_rfl) (by kernel_rfl) rfl ?_ [some 17, some 18, none, none, some 6] (by kernel_rfl) ?_
    · refine rCons (rFix rfl rfl (fun L v a w' K => by unfold execOp; go_simp; first | done | rfl)) ?_
      refine rCons (rFix rfl rfl (fun L v a w' K => by unfold execOp; go_simp; first | done | rfl)) ?_
      refine rCons (rStore rfl rfl 41 _ _ rfl (by kernel_rfl) (by kernel_rfl) HR1.out (by kernel_rfl) (by kernel_rfl) (by kernel_rfl) (fun m b' hm hne => by simp [storesOf] at hm; omega) rfl rfl rfl rfl rfl) ?_
      refine rCons (rStore rfl rfl 44 _ _ rfl (by kernel_rfl) (by kernel_rfl) HQ1.out (by kernel_rfl) (by kernel_rfl) (by kernel_rfl) (fun m b' hm hne => by simp [storesOf] at hm; omega) rfl rfl rfl rfl rfl) ?_
      refine rCons (rFix rfl rfl (fun L v a w' K => by unfold execOp; simp [go_sem, Act.eval])) (rNil _)
    intro L vv w' hL K G
    have e4 : vv 4 = .bool false := (G 4 _ rfl).1 rfl
    have R1 := hid (Go.Proofs.YtlhnkdogafnnpaaGreat.Rg.stored G 2 0 (w.heap.size + 1 + 1) (cs := [.int .i64 0, .int .i64 0, .bool false, .bool false, .bool false, .int .i64 0, .int .i64 0, .int .i64 0, .int .i64 0, .string ⟨#[]⟩, .int .i64 0, .int .i64 0, .int .i64 0, .string ⟨#[]⟩, .slice none 0 0, .int .i64 0]) rfl rfl rfl rfl)
    have R2 := hid (Go.Proofs.YtlhnkdogafnnpaaGreat.Rg.stored G 3 1 (w.heap.size + 1 + 1 + 1) (cs := [.slice none 0 0, .slice none 0 0, .slice none 0 0]) rfl rfl rfl rfl)
    simp only [putsAll, Act.put, List.setIfInBounds_toArray, List.set_cons_zero, List.set_cons_succ, e4]
    clear G
    go_wp2
    refine bodyPost_ret (results_cct rfl _ _ (w.heap.size + 1 + 1) (w.heap.size + 1 + 1 + 1) [.int .i64 0, .int .i64 0, .bool false, .bool false, .bool false, .int .i64 0, .int .i64 0, .int .i64 0, .int .i64 0, .string ⟨#[]⟩, .int .i64 0, .int .i64 0, .int .i64 0, .string ⟨#[]⟩, .slice none 0 0, .int .i64 0] [.slice none 0 0, .slice none 0 0, .slice none 0 0] _ _ rfl R1.out Tryz.underlying41 rfl (by kernel_rfl) rfl R2.out Tryz.underlying44 rfl (by kernel_rfl)) rfl ?_
    have K' : Kept (fun b => b = w.heap.size + 1 + 1 ∨ b = w.heap.size + 1 + 1 + 1) w1 w' := K.mono (fun b _ h => into_two h rfl)
    rw [riseA_host hok]
    exact ⟨none, 0, _, rfl, fun i hi => by simp [Ho.zero] at hi, nil_w _ _, fun b hb => by simp [foot, Ho.zero] at hb, HB1.out.trans (K'.below HB1.out.size (fun b hb h => by omega))⟩
  | true =>
    have j0 := HC1.out.c 0 rfl
    have j1 := HC1.out.c 1 rfl
    have j2 := HC1.out.c 2 rfl
    go_wp2_with fail
    clear j0 j1 j2
    refine (implDiskOk w1 _ D (HR0.out.below HB1.out) HD.out).mono ?_
    rintro e w2 ⟨rfl, b2⟩
    have HA2 := hid (HA1.out.below b2 HA1.out.lt)
    have HC2 := hid (HC1.out.below b2 HC1.out.lt)
    have HR2 := hid (HR1.out.below b2 HR1.out.lt)
    have HQ2 := hid (HQ1.out.below b2 HQ1.out.lt)
    have HB2 := hid (HB1.out.trans (b2.mono HB1.out.size))
    have hs2 : w1.heap.size ≤ w2.heap.size := b2.size
    clear b2 HA1 HC1 HR1 HQ1 HB1
    cases hri : D.right with
    | false =>
      go_upto_region 2 with fail
      refine region_ret (rs := [⟨0, 0, 0, [.agg [.int .i64 0, .int .i64 0, .bool false, .bool false, .bool false, .int .i64 0, .int .i64 0, .int .i64 0, .int .i64 0, .string ⟨#[]⟩, .int .i64 0, .int .i64 0, .int .i64 0, .string ⟨#[]⟩, .slice none 0 0, .int .i64 0].toArray]⟩, ⟨0, 0, 0, [.agg [.slice none 0 0, .slice none 0 0, .slice none 0 0].toArray]⟩, ⟨2, w.heap.size + 1 + 1, 0, [.int .i64 0, .int .i64 0, .bool false, .bool false, .bool false, .int .i64 0, .int .i64 0, .int .i64 0, .int .i64 0, .string ⟨#[]⟩, .int .i64 0, .int .i64 0, .int .i64 0, .string ⟨#[]⟩, .slice none 0 0, .int .i64 0]⟩, ⟨2, w.heap.size + 1 + 1 + 1, 1, [.slice none 0 0, .slice none 0 0, .slice none 0 0]⟩, ⟨0, 0, 0, [.bool false]⟩]) (S := fun _ _ _ => True) false (by kernel_rfl) (by kernel_rfl) rfl ?_ [some 17, some 18, none, none, some 6] (by kernel_rfl) ?_
      · refine rCons (rFix rfl rfl (fun L v a w' K => by unfold execOp; go_simp; first | done | rfl)) ?_
        refine rCons (rFix rfl rfl (fun L v a w' K => by unfold execOp; go_simp; first | done | rfl)) ?_
        refine rCons (rStore rfl rfl 41 _ _ rfl (by kernel_rfl) (by kernel_rfl) HR2.out (by kernel_rfl) (by kernel_rfl) (by kernel_rfl) (fun m b' hm hne => by simp [storesOf] at hm; omega) rfl rfl rfl rfl rfl) ?_
        refine rCons (rStore rfl rfl 44 _ _ rfl (by kernel_rfl) (by kernel_rfl) HQ2.out (by kernel_rfl) (by kernel_rfl) (by kernel_rfl) (fun m b' hm hne => by simp [storesOf] at hm; omega) rfl rfl rfl rfl rfl) ?_
        refine rCons (rFix rfl rfl (fun L v a w' K => by unfold execOp; simp [go_sem, Act.eval])) (rNil _)
      intro L vv w' hL K G
      have e4 : vv 4 = .bool false := (G 4 _ rfl).1 rfl
      have R1 := hid (Go.Proofs.YtlhnkdogafnnpaaGreat.Rg.stored G 2 0 (w.heap.size + 1 + 1) (cs := [.int .i64 0, .int .i64 0, .bool false, .bool false, .bool false, .int .i64 0, .int .i64 0, .int .i64 0, .int .i64 0, .string ⟨#[]⟩, .int .i64 0, .int .i64 0, .int .i64 0, .string ⟨#[]⟩, .slice none 0 0, .int .i64 0]) rfl rfl rfl rfl)
      have R2 := hid (Go.Proofs.YtlhnkdogafnnpaaGreat.Rg.stored G 3 1 (w.heap.size + 1 + 1 + 1) (cs := [.slice none 0 0, .slice none 0 0, .slice none 0 0]) rfl rfl rfl rfl)
      simp only [putsAll, Act.put, List.setIfInBounds_toArray, List.set_cons_zero, List.set_cons_succ, e4]
      clear G
      go_wp2
      refine bodyPost_ret (results_cct rfl _ _ (w.heap.size + 1 + 1) (w.heap.size + 1 + 1 + 1) [.int .i64 0, .int .i64 0, .bool false, .bool false, .bool false, .int .i64 0, .int .i64 0, .int .i64 0, .int .i64 0, .string ⟨#[]⟩, .int .i64 0, .int .i64 0, .int .i64 0, .string ⟨#[]⟩, .slice none 0 0, .int .i64 0] [.slice none 0 0, .slice none 0 0, .slice none 0 0] _ _ rfl R1.out Tryz.underlying41 rfl (by kernel_rfl) rfl R2.out Tryz.underlying44 rfl (by kernel_rfl)) rfl ?_
      have K' : Kept (fun b => b = w.heap.size + 1 + 1 ∨ b = w.heap.size + 1 + 1 + 1) w2 w' := K.mono (fun b _ h => into_two h rfl)
      rw [riseA_disk hri]
      exact ⟨none, 0, _, rfl, fun i hi => by simp [Ho.zero] at hi, nil_w _ _, fun b hb => by simp [foot, Ho.zero] at hb, HB2.out.trans (K'.below HB2.out.size (fun b hb h => by omega))⟩
    | true =>
      have HT := hid (Dk.of_right hri)
      have hfa : D.fenceA H.id = D.fence H.id := if_pos hri
      have k0 := HA2.out.c 0 (v := .int .i64 H.id) rfl
      have k2 := HA2.out.c 2 (v := .bool H.up) rfl
      have j0 := HC2.out.c 0 rfl
      have j1 := HC2.out.c 1 rfl
      have j2 := HC2.out.c 2 rfl
      go_upto_region 3 with fail
      go_wp2_with fail
      clear k0 k2 j0 j1 j2
      refine (implFence w2 _ D H.id (HR0.out.below HB2.out) HD.out HSm.out).mono ?_
      rintro e w3 ⟨v', rfl, W3, b3⟩
      rw [hfa] at W3 ⊢
      clear hfa
      have HW3 := hid W3
      have hgeF : Hid (∀ b, DkFoot v' b → w2.heap.size ≤ b) := fun b hb => W3.foot_ge hb
      obtain ⟨p1, q1, p2, q2, p3, q3, rfl, _, hI2, _, _, _⟩ := W3
      obtain ⟨w4, hw4, e4, N0, B4⟩ := one_new w3 [.slice p1 (D.fence H.id).1.sec.length q1, .slice p2 (D.fence H.id).1.ep.length q2, .slice p3 (D.fence H.id).1.pe.length q3] 44
      have b4 : Below w2.heap.size w2 w4 := b3.trans (B4.mono b3.size)
      have HN := hid N0
      have HA4 := hid (HA2.out.below b4 HA2.out.lt)
      have HC4 := hid (HC2.out.below b4 HC2.out.lt)
      have HR4 := hid (HR2.out.below b4 HR2.out.lt)
      have HQ4 := hid (HQ2.out.below b4 HQ2.out.lt)
      have HB4 := hid (HB2.out.trans (b4.mono HB2.out.size))
      have HO4 := hid (dkw_below HW3.out B4)
      have hB2s : w.heap.size ≤ w2.heap.size := HB2.out.size
      have hs3 : w2.heap.size ≤ w3.heap.size := b3.size
      have hgw : ∀ gb, (∃ go, p2 = some ⟨gb, go, none⟩) → 0 < (D.fence H.id).1.ep.length → w2.heap.size ≤ gb := fun gb ⟨go, e⟩ h0 => hgeF.out gb ⟨_, _, _, _, _, _, _, _, _, rfl, .inr (.inl ⟨h0, go, e⟩)⟩
      clear N0 b3 b4 HA2 HC2 HR2 HQ2 HB2 HW3 hgeF
      have k2 := HA4.out.c 2 (v := .bool H.up) rfl
      have hn4 : w.heap.size ≠ w3.heap.size := by omega
      cases hup : H.up with
      | true =>
        rw [hup] at k2
        clear hI2 hgw
        go_upto_region 5 with fail
        try simp only [hw4]
        clear hw4
        refine region_ret (rs := [⟨0, 0, 0, [.agg (hoC H p c).toArray]⟩, ⟨1, 0, 0, []⟩, ⟨0, 0, 0, [.agg [.slice a1 D.sec.length c1, .slice a2 D.ep.length c2, .slice a3 D.pe.length c3].toArray]⟩, ⟨1, 0, 0, []⟩, ⟨2, w.heap.size + 1 + 1, 1, [.int .i64 0, .int .i64 0, .bool false, .bool false, .bool false, .int .i64 0, .int .i64 0, .int .i64 0, .int .i64 0, .string ⟨#[]⟩, .int .i64 0, .int .i64 0, .int .i64 0, .string ⟨#[]⟩, .slice none 0 0, .int .i64 0]⟩, ⟨2, w.heap.size + 1 + 1 + 1, 3, [.slice none 0 0, .slice none 0 0, .slice none 0 0]⟩, ⟨0, 0, 0, [.bool false]⟩])
          (S := fun i v wx => match i with
            | 1 => ∃ p1 q1, v 1 = hoV H p1 q1 ∧ OusW wx w4.heap.size p1 H.l
            | _ => ∃ p1 q1, v 1 = hoV H p1 q1 ∧ OusW wx w4.heap.size p1 H.l ∧ DkO wx w4.heap.size (v 3) D ∧ ∀ b, foot p1 (H.l.length * 2) b → ¬ DkB (v 3) b)
          true (by kernel_rfl) (by kernel_rfl) rfl ?_ [some 32, some 33, some 34, some 35, none, none, some 6] (by kernel_rfl) ?_
        · refine rCons (rLoad rfl rfl 41 _ rfl (b := w.heap.size) (by kernel_rfl) (by kernel_rfl) _ HA4.out (fun h => by rcases into_two (x := w.heap.size + 1 + 1) (y := w.heap.size + 1 + 1 + 1) h rfl with h | h <;> omega) Tryz.underlying41 rfl (by kernel_rfl)) ?_
          refine rCons (rCall rfl rfl 34 _ _ (fun _ => #[hoV H p c]) rfl call_iCopy (fun L v a w' K => by simp only [List.map_toArray, List.map_cons, List.map_nil]; rw [K.got 0 (by kernel_rfl) (by kernel_rfl) rfl rfl]; rfl) ?_ ?_ ?_) ?_
          · rintro v w' w'' ⟨p1, q1, e1, W1⟩ kk
            exact ⟨p1, q1, e1, Wr.move W1 kk (fun b hb h => by have := Wr.foot_ge W1 hb; omega)⟩
          · intro v v' hv w' ⟨p1, q1, e1, W1⟩
            exact ⟨p1, q1, hv 1 (.inl rfl) ▸ e1, W1⟩
          · intro v w' kk _
            have K' : Kept (fun b => b = w.heap.size + 1 + 1 ∨ b = w.heap.size + 1 + 1 + 1) w4 w' := kk.mono (fun b _ h => into_two h rfl)
            refine (iCopyHost w' H p c (Sl.move (HS.out.below HB4.out) K' (fun b hb h => by have := HS.out.lt hb; omega)) HU.out.l).mono ?_
            rintro e w'' ⟨p1, q1, rfl, W1, b1⟩
            exact ⟨_, rfl, ⟨p1, q1, updv_same v 1 _, W1.mono K'.size⟩, b1⟩
          refine rCons (rLoad rfl rfl 44 _ rfl (b := w.heap.size + 1) (by kernel_rfl) (by kernel_rfl) _ HC4.out (fun h => by rcases into_two (x := w.heap.size + 1 + 1) (y := w.heap.size + 1 + 1 + 1) h rfl with h | h <;> omega) Tryz.underlying44 rfl (by kernel_rfl)) ?_
          refine rCons (rCall rfl rfl 35 _ _ (fun _ => #[.agg #[.slice a1 D.sec.length c1, .slice a2 D.ep.length c2, .slice a3 D.pe.length c3]]) rfl call_icopyDisk (fun L v a w' K => by simp only [List.map_toArray, List.map_cons, List.map_nil]; rw [K.got 2 (by kernel_rfl) (by kernel_rfl) rfl rfl]; rfl) ?_ ?_ ?_) ?_
          · rintro v w' w'' ⟨p1, q1, e1, W1, O1, hs⟩ kk
            exact ⟨p1, q1, e1, Wr.move W1 kk (fun b hb h => by have := Wr.foot_ge W1 hb; omega), O1.kept kk (fun b hb h => by have := (O1.lt hb).1; omega), hs⟩
          · intro v v' hv w' ⟨p1, q1, e1, W1, O1, hs⟩
            have e := hv 3 (.inl rfl)
            have e' := hv 1 (.inr (by kernel_rfl))
            exact ⟨p1, q1, e' ▸ e1, W1, e ▸ O1, e ▸ hs⟩
          · intro v w' kk hv
            have K' : Kept (fun b => b = w.heap.size + 1 + 1 ∨ b = w.heap.size + 1 + 1 + 1) w4 w' := kk.mono (fun b _ h => into_two h rfl)
            obtain ⟨p1, q1, e1, W1⟩ := (hv 1 _ (by kernel_rfl) rfl).2 rfl
            refine (copyDisk w' _ D ((HR0.out.below HB4.out).kept K' (fun b hb h => by have := HR0.out.foot_lt hb; omega)) HSm.out.c1 HSm.out.c2 HSm.out.c3).mono ?_
            rintro e w'' ⟨v2, rfl, O2, b2⟩
            have hn : updv v 3 v2 1 = v 1 := updv_ne v v2 (by decide)
            exact ⟨_, rfl, ⟨p1, q1, hn.trans e1, Wr.below W1 b2, by rw [updv_same]; exact O2.mono K'.size, fun b hf hd => by
              rw [updv_same] at hd
              have := (O2.lt hd).1
              have := wr_lt W1 hf
              omega⟩, b2⟩
          refine rCons (rStoreC rfl rfl 41 _ _ rfl (by kernel_rfl) (by kernel_rfl) HR4.out (by kernel_rfl) (by kernel_rfl) (by kernel_rfl) (fun m b' hm hne => by simp [storesOf] at hm; omega) rfl rfl (fun v w' ⟨p1, q1, e1, _⟩ => ⟨hoC H p1 q1, e1, rfl, rfl⟩)) ?_
          refine rCons (rStoreC rfl rfl 44 _ _ rfl (by kernel_rfl) (by kernel_rfl) HQ4.out (by kernel_rfl) (by kernel_rfl) (by kernel_rfl) (fun m b' hm hne => by simp [storesOf] at hm; omega) rfl rfl (fun v w' ⟨p1, q1, e1, _, O1, _⟩ => by
            obtain ⟨b1, d1, b2, d2, b3, d3, e3, _⟩ := O1.w
            exact ⟨_, e3, rfl, rfl⟩)) ?_
          refine rCons (rFix rfl rfl (fun L v a w' K => by unfold execOp; simp [go_sem, Act.eval])) (rNil _)
        intro L vx w' hL K G
        have e6 : vx 6 = .bool false := (G 6 _ rfl).1 rfl
        obtain ⟨ph, ch, e1, W3, O3, hs3⟩ := (G 3 _ rfl).2.1 rfl
        obtain ⟨cs1, x1, R1⟩ := (G 4 _ rfl).2.2 rfl
        obtain ⟨cs2, x2, R2⟩ := (G 5 _ rfl).2.2 rfl
        replace x1 : vx 1 = .agg (List.toArray cs1) := x1
        replace x2 : vx 3 = .agg (List.toArray cs2) := x2
        obtain rfl : cs1 = hoC H ph ch := agg_inj (x1.symm.trans e1)
        obtain ⟨b1, d1, b2, d2, b3, d3, e3, _⟩ := O3.w
        obtain rfl : cs2 = [.slice b1 D.sec.length d1, .slice b2 D.ep.length d2, .slice b3 D.pe.length d3] := agg_inj (x2.symm.trans e3)
        have HR1' := hid R1
        have HR2' := hid R2
        have HW3 := hid W3
        rw [e3] at O3 hs3
        have HO3 := hid O3
        have HS3 := hid hs3
        simp only [putsAll, Act.put, List.setIfInBounds_toArray, List.set_cons_zero, List.set_cons_succ, e6]
        clear G R1 R2 x1 x2 W3 O3 hs3 e3 e1 e6
        go_wp2
        refine bodyPost_ret (results_cct rfl _ _ (w.heap.size + 1 + 1) (w.heap.size + 1 + 1 + 1) (hoC H ph ch) [.slice b1 D.sec.length d1, .slice b2 D.ep.length d2, .slice b3 D.pe.length d3] _ _ rfl HR1'.out Tryz.underlying41 rfl (by kernel_rfl) rfl HR2'.out Tryz.underlying44 rfl (by kernel_rfl)) rfl ?_
        have K' : Kept (fun b => b = w.heap.size + 1 + 1 ∨ b = w.heap.size + 1 + 1 + 1) w4 w' := K.mono (fun b _ h => into_two h rfl)
        rw [riseA_yes hok hri, rise_up hup]
        exact ⟨ph, ch, _, rfl, HW3.out.mono HB4.out.size, (HO3.out.mono HB4.out.size).w, fun b hb hd => HS3.out b hb (dkO_foot HO3.out hd), HB4.out.trans (K'.below HB4.out.size (fun b hb h => by omega))⟩
      | false =>
        rw [hup] at k2
        cases hfe : (D.fence H.id).2 with
        | false =>
          clear hI2 hgw
          go_upto_region 5 with fail
          try simp only [hw4]
          clear hw4
          refine region_ret (rs := [⟨0, 0, 0, [.agg (hoC H p c).toArray]⟩, ⟨1, 0, 0, []⟩, ⟨0, 0, 0, [.agg [.slice a1 D.sec.length c1, .slice a2 D.ep.length c2, .slice a3 D.pe.length c3].toArray]⟩, ⟨1, 0, 0, []⟩, ⟨2, w.heap.size + 1 + 1, 1, [.int .i64 0, .int .i64 0, .bool false, .bool false, .bool false, .int .i64 0, .int .i64 0, .int .i64 0, .int .i64 0, .string ⟨#[]⟩, .int .i64 0, .int .i64 0, .int .i64 0, .string ⟨#[]⟩, .slice none 0 0, .int .i64 0]⟩, ⟨2, w.heap.size + 1 + 1 + 1, 3, [.slice none 0 0, .slice none 0 0, .slice none 0 0]⟩, ⟨0, 0, 0, [.bool false]⟩])
            (S := fun i v wx => match i with
              | 1 => ∃ p1 q1, v 1 = hoV H p1 q1 ∧ OusW wx w4.heap.size p1 H.l
              | _ => ∃ p1 q1, v 1 = hoV H p1 q1 ∧ OusW wx w4.heap.size p1 H.l ∧ DkO wx w4.heap.size (v 3) D ∧ ∀ b, foot p1 (H.l.length * 2) b → ¬ DkB (v 3) b)
            true (by kernel_rfl) (by kernel_rfl) rfl ?_ [some 32, some 33, some 34, some 35, none, none, some 6] (by kernel_rfl) ?_
          · refine rCons (rLoad rfl rfl 41 _ rfl (b := w.heap.size) (by kernel_rfl) (by kernel_rfl) _ HA4.out (fun h => by rcases into_two (x := w.heap.size + 1 + 1) (y := w.heap.size + 1 + 1 + 1) h rfl with h | h <;> omega) Tryz.underlying41 rfl (by kernel_rfl)) ?_
            refine rCons (rCall rfl rfl 34 _ _ (fun _ => #[hoV H p c]) rfl call_iCopy (fun L v a w' K => by simp only [List.map_toArray, List.map_cons, List.map_nil]; rw [K.got 0 (by kernel_rfl) (by kernel_rfl) rfl rfl]; rfl) ?_ ?_ ?_) ?_
            · rintro v w' w'' ⟨p1, q1, e1, W1⟩ kk
              exact ⟨p1, q1, e1, Wr.move W1 kk (fun b hb h => by have := Wr.foot_ge W1 hb; omega)⟩
            · intro v v' hv w' ⟨p1, q1, e1, W1⟩
              exact ⟨p1, q1, hv 1 (.inl rfl) ▸ e1, W1⟩
            · intro v w' kk _
              have K' : Kept (fun b => b = w.heap.size + 1 + 1 ∨ b = w.heap.size + 1 + 1 + 1) w4 w' := kk.mono (fun b _ h => into_two h rfl)
              refine (iCopyHost w' H p c (Sl.move (HS.out.below HB4.out) K' (fun b hb h => by have := HS.out.lt hb; omega)) HU.out.l).mono ?_
              rintro e w'' ⟨p1, q1, rfl, W1, b1⟩
              exact ⟨_, rfl, ⟨p1, q1, updv_same v 1 _, W1.mono K'.size⟩, b1⟩
            refine rCons (rLoad rfl rfl 44 _ rfl (b := w.heap.size + 1) (by kernel_rfl) (by kernel_rfl) _ HC4.out (fun h => by rcases into_two (x := w.heap.size + 1 + 1) (y := w.heap.size + 1 + 1 + 1) h rfl with h | h <;> omega) Tryz.underlying44 rfl (by kernel_rfl)) ?_
            refine rCons (rCall rfl rfl 35 _ _ (fun _ => #[.agg #[.slice a1 D.sec.length c1, .slice a2 D.ep.length c2, .slice a3 D.pe.length c3]]) rfl call_icopyDisk (fun L v a w' K => by simp only [List.map_toArray, List.map_cons, List.map_nil]; rw [K.got 2 (by kernel_rfl) (by kernel_rfl) rfl rfl]; rfl) ?_ ?_ ?_) ?_
            · rintro v w' w'' ⟨p1, q1, e1, W1, O1, hs⟩ kk
              exact ⟨p1, q1, e1, Wr.move W1 kk (fun b hb h => by have := Wr.foot_ge W1 hb; omega), O1.kept kk (fun b hb h => by have := (O1.lt hb).1; omega), hs⟩
            · intro v v' hv w' ⟨p1, q1, e1, W1, O1, hs⟩
              have e := hv 3 (.inl rfl)
              have e' := hv 1 (.inr (by kernel_rfl))
              exact ⟨p1, q1, e' ▸ e1, W1, e ▸ O1, e ▸ hs⟩
            · intro v w' kk hv
              have K' : Kept (fun b => b = w.heap.size + 1 + 1 ∨ b = w.heap.size + 1 + 1 + 1) w4 w' := kk.mono (fun b _ h => into_two h rfl)
              obtain ⟨p1, q1, e1, W1⟩ := (hv 1 _ (by kernel_rfl) rfl).2 rfl
              refine (copyDisk w' _ D ((HR0.out.below HB4.out).kept K' (fun b hb h => by have := HR0.out.foot_lt hb; omega)) HSm.out.c1 HSm.out.c2 HSm.out.c3).mono ?_
              rintro e w'' ⟨v2, rfl, O2, b2⟩
              have hn : updv v 3 v2 1 = v 1 := updv_ne v v2 (by decide)
              exact ⟨_, rfl, ⟨p1, q1, hn.trans e1, Wr.below W1 b2, by rw [updv_same]; exact O2.mono K'.size, fun b hf hd => by
                rw [updv_same] at hd
                have := (O2.lt hd).1
                have := wr_lt W1 hf
                omega⟩, b2⟩
            refine rCons (rStoreC rfl rfl 41 _ _ rfl (by kernel_rfl) (by kernel_rfl) HR4.out (by kernel_rfl) (by kernel_rfl) (by kernel_rfl) (fun m b' hm hne => by simp [storesOf] at hm; omega) rfl rfl (fun v w' ⟨p1, q1, e1, _⟩ => ⟨hoC H p1 q1, e1, rfl, rfl⟩)) ?_
            refine rCons (rStoreC rfl rfl 44 _ _ rfl (by kernel_rfl) (by kernel_rfl) HQ4.out (by kernel_rfl) (by kernel_rfl) (by kernel_rfl) (fun m b' hm hne => by simp [storesOf] at hm; omega) rfl rfl (fun v w' ⟨p1, q1, e1, _, O1, _⟩ => by
              obtain ⟨b1, d1, b2, d2, b3, d3, e3, _⟩ := O1.w
              exact ⟨_, e3, rfl, rfl⟩)) ?_
            refine rCons (rFix rfl rfl (fun L v a w' K => by unfold execOp; simp [go_sem, Act.eval])) (rNil _)
          intro L vx w' hL K G
          have e6 : vx 6 = .bool false := (G 6 _ rfl).1 rfl
          obtain ⟨ph, ch, e1, W3, O3, hs3⟩ := (G 3 _ rfl).2.1 rfl
          obtain ⟨cs1, x1, R1⟩ := (G 4 _ rfl).2.2 rfl
          obtain ⟨cs2, x2, R2⟩ := (G 5 _ rfl).2.2 rfl
          replace x1 : vx 1 = .agg (List.toArray cs1) := x1
          replace x2 : vx 3 = .agg (List.toArray cs2) := x2
          obtain rfl : cs1 = hoC H ph ch := agg_inj (x1.symm.trans e1)
          obtain ⟨b1, d1, b2, d2, b3, d3, e3, _⟩ := O3.w
          obtain rfl : cs2 = [.slice b1 D.sec.length d1, .slice b2 D.ep.length d2, .slice b3 D.pe.length d3] := agg_inj (x2.symm.trans e3)
          have HR1' := hid R1
          have HR2' := hid R2
          have HW3 := hid W3
          rw [e3] at O3 hs3
          have HO3 := hid O3
          have HS3 := hid hs3
          simp only [putsAll, Act.put, List.setIfInBounds_toArray, List.set_cons_zero, List.set_cons_succ, e6]
          clear G R1 R2 x1 x2 W3 O3 hs3 e3 e1 e6
          go_wp2
          refine bodyPost_ret (results_cct rfl _ _ (w.heap.size + 1 + 1) (w.heap.size + 1 + 1 + 1) (hoC H ph ch) [.slice b1 D.sec.length d1, .slice b2 D.ep.length d2, .slice b3 D.pe.length d3] _ _ rfl HR1'.out Tryz.underlying41 rfl (by kernel_rfl) rfl HR2'.out Tryz.underlying44 rfl (by kernel_rfl)) rfl ?_
          have K' : Kept (fun b => b = w.heap.size + 1 + 1 ∨ b = w.heap.size + 1 + 1 + 1) w4 w' := K.mono (fun b _ h => into_two h rfl)
          rw [riseA_yes hok hri, rise_no hup hfe]
          exact ⟨ph, ch, _, rfl, HW3.out.mono HB4.out.size, (HO3.out.mono HB4.out.size).w, fun b hb hd => HS3.out b hb (dkO_foot HO3.out hd), HB4.out.trans (K'.below HB4.out.size (fun b hb h => by omega))⟩
        | true =>
          have hgw2 := hgw
          clear hgw
          have hid3 := fence_yes hfe
          obtain ⟨n, hn⟩ : ∃ n : Nat, H.id = (n : Int) := Int.eq_ofNat_of_zero_le hid3.1
          have hnl : n < (D.fence H.id).1.ep.length := by rw [fence_len]; have := HT.out.e3; have := hid3.2; omega
          obtain ⟨gb, go, rfl, hgb, hcg, _⟩ := hI2 n hnl
          replace hcg : w3.cell? ⟨gb, go + n, none⟩ = some (.int .i64 ((D.fence H.id).1.ep.getD n 0)) := hcg
          have HHn := hid hn
          clear hI2 hn
          generalize he0 : (D.fence H.id).1.ep.getD n 0 = e0 at hcg
          have HE0 := hid he0
          clear he0
          generalize hFD : D.fence H.id = FD at *
          obtain ⟨F, ff⟩ := FD
          have HFD := hid hFD
          clear hFD
          simp only [] at *
          subst hfe
          have hcg2 : w4.cell? ⟨gb, go + n, none⟩ = some (.int .i64 e0) := by rw [cell_block (p := ⟨gb, go + n, none⟩) (B4.block gb (World.block_lt_of_cell? _ _ hcg))]; exact hcg
          have HG := hid hcg2
          clear hcg hcg2
          go_upto_region 6 with fail
          try simp only [hw4]
          clear hw4
          have HGk : Hid (∀ w', Kept (fun b => b = w.heap.size + 1 + 1 ∨ b = w.heap.size + 1 + 1 + 1) w4 w' → w'.cell? ⟨gb, go + n, none⟩ = some (.int .i64 e0)) := fun w' k => by
            rw [cell_block (p := ⟨gb, go + n, none⟩) (k.block gb (World.block_lt_of_cell? _ _ HG.out) (fun h => by omega))]
            exact HG.out
          have HIn : Hid (H.id = (n : Int)) := HHn.out
          have HNl : Hid ((n : Int) < (F.ep.length : Int)) := by have := hnl; exact (by omega : (n : Int) < (F.ep.length : Int))
          refine region_ret (rs := [⟨0, 0, 0, [.pointer (some ⟨w.heap.size, 0, none⟩)]⟩, ⟨0, 0, 0, [.int .i64 (n : Int)]⟩, ⟨0, 0, 0, [.pointer (some ⟨w3.heap.size, 1, none⟩)]⟩, ⟨0, 0, 0, [.slice (some ⟨gb, go, none⟩) F.ep.length q2]⟩, ⟨0, 0, 0, [.pointer (some ⟨w.heap.size, 0, none⟩)]⟩, ⟨0, 0, 0, [.int .i64 (n : Int)]⟩, ⟨0, 0, 0, [.pointer (some ⟨gb, go + n, none⟩)]⟩, ⟨0, 0, 0, [.int .i64 e0]⟩, ⟨0, 0, 0, [.pointer (some ⟨w.heap.size, 0, none⟩)]⟩, ⟨0, 0, 0, [.int .i64 (n : Int)]⟩, ⟨1, 0, 0, []⟩, ⟨0, 0, 0, [.agg (hoC (Ho.risen n e0) none 0).toArray]⟩, ⟨0, 0, 0, [.agg [.slice p1 F.sec.length q1, .slice (some ⟨gb, go, none⟩) F.ep.length q2, .slice p3 F.pe.length q3].toArray]⟩, ⟨2, w.heap.size + 1 + 1, 11, [.int .i64 0, .int .i64 0, .bool false, .bool false, .bool false, .int .i64 0, .int .i64 0, .int .i64 0, .int .i64 0, .string ⟨#[]⟩, .int .i64 0, .int .i64 0, .int .i64 0, .string ⟨#[]⟩, .slice none 0 0, .int .i64 0]⟩, ⟨2, w.heap.size + 1 + 1 + 1, 12, [.slice none 0 0, .slice none 0 0, .slice none 0 0]⟩, ⟨0, 0, 0, [.bool true]⟩]) (S := fun i v _ => v 10 = opV 12 n 0 0 ⟨#[]⟩) true (by kernel_rfl) (by kernel_rfl) rfl ?_ [some 36, some 37, some 38, some 39, some 40, some 41, some 42, some 43, some 44, some 45, some 46, some 47, some 48, none, none, some 6] (by kernel_rfl) ?_
          · refine rCons (rFix rfl rfl (fun L v a w' K => by have e1 : a.eval (.tmp 2) = .pointer (some ⟨w.heap.size, 0, none⟩) := K.off (x := .tmp 2) (by kernel_rfl); generalize a.eval = ρ at e1 ⊢; unfold execOp; go_simp; first | done | rfl)) ?_
            refine rCons (rFix rfl rfl (fun L v a w' K => by have e1 : a.eval (.tmp 36) = .pointer (some ⟨w.heap.size, 0, none⟩) := K.got 0 (by kernel_rfl) (by kernel_rfl) rfl rfl; have c1 := (HA4.out.kept K.kept (fun h => by rcases into_two (x := w.heap.size + 1 + 1) (y := w.heap.size + 1 + 1 + 1) h rfl with h | h <;> omega)).c 0 (v := .int .i64 (n : Int)) (by rw [← HIn.out]; rfl); generalize a.eval = ρ at e1 ⊢; unfold execOp; go_simp; first | done | rfl)) ?_
            refine rCons (rFix rfl rfl (fun L v a w' K => by have e1 : a.eval (.tmp 7) = .pointer (some ⟨w3.heap.size, 0, none⟩) := K.off (x := .tmp 7) (by kernel_rfl); generalize a.eval = ρ at e1 ⊢; unfold execOp; go_simp; first | done | rfl)) ?_
            refine rCons (rFix rfl rfl (fun L v a w' K => by have e1 : a.eval (.tmp 38) = .pointer (some ⟨w3.heap.size, 1, none⟩) := K.got 2 (by kernel_rfl) (by kernel_rfl) rfl rfl; have c1 := (HN.out.kept K.kept (fun h => by rcases into_two (x := w.heap.size + 1 + 1) (y := w.heap.size + 1 + 1 + 1) h rfl with h | h <;> omega)).c 1 rfl; generalize a.eval = ρ at e1 ⊢; unfold execOp; go_simp; first | done | rfl)) ?_
            refine rCons (rFix rfl rfl (fun L v a w' K => by have e1 : a.eval (.tmp 2) = .pointer (some ⟨w.heap.size, 0, none⟩) := K.off (x := .tmp 2) (by kernel_rfl); generalize a.eval = ρ at e1 ⊢; unfold execOp; go_simp; first | done | rfl)) ?_
            refine rCons (rFix rfl rfl (fun L v a w' K => by have e1 : a.eval (.tmp 40) = .pointer (some ⟨w.heap.size, 0, none⟩) := K.got 4 (by kernel_rfl) (by kernel_rfl) rfl rfl; have c1 := (HA4.out.kept K.kept (fun h => by rcases into_two (x := w.heap.size + 1 + 1) (y := w.heap.size + 1 + 1 + 1) h rfl with h | h <;> omega)).c 0 (v := .int .i64 (n : Int)) (by rw [← HIn.out]; rfl); generalize a.eval = ρ at e1 ⊢; unfold execOp; go_simp; first | done | rfl)) ?_
            refine rCons (rFix rfl rfl (fun L v a w' K => by have e1 : a.eval (.tmp 39) = .slice (some ⟨gb, go, none⟩) F.ep.length q2 := K.got 3 (by kernel_rfl) (by kernel_rfl) rfl rfl; have e2 : a.eval (.tmp 41) = .int .i64 (n : Int) := K.got 5 (by kernel_rfl) (by kernel_rfl) rfl rfl; have n1 := HNl.out; generalize a.eval = ρ at e1 e2 ⊢; unfold execOp; go_simp; first | done | rfl)) ?_
            refine rCons (rFix rfl rfl (fun L v a w' K => by have e1 : a.eval (.tmp 42) = .pointer (some ⟨gb, go + n, none⟩) := K.got 6 (by kernel_rfl) (by kernel_rfl) rfl rfl; have c1 := HGk.out _ (K.kept.mono (fun b _ h => into_two h rfl)); generalize a.eval = ρ at e1 ⊢; unfold execOp; go_simp; first | done | rfl)) ?_
            refine rCons (rFix rfl rfl (fun L v a w' K => by have e1 : a.eval (.tmp 2) = .pointer (some ⟨w.heap.size, 0, none⟩) := K.off (x := .tmp 2) (by kernel_rfl); generalize a.eval = ρ at e1 ⊢; unfold execOp; go_simp; first | done | rfl)) ?_
            refine rCons (rFix rfl rfl (fun L v a w' K => by have e1 : a.eval (.tmp 44) = .pointer (some ⟨w.heap.size, 0, none⟩) := K.got 8 (by kernel_rfl) (by kernel_rfl) rfl rfl; have c1 := (HA4.out.kept K.kept (fun h => by rcases into_two (x := w.heap.size + 1 + 1) (y := w.heap.size + 1 + 1 + 1) h rfl with h | h <;> omega)).c 0 (v := .int .i64 (n : Int)) (by rw [← HIn.out]; rfl); generalize a.eval = ρ at e1 ⊢; unfold execOp; go_simp; first | done | rfl)) ?_
            refine rCons (rCall rfl rfl 36 _ _ (fun _ => #[.int .i64 (n : Int)]) rfl call_iRecoverOf (fun L v a w' K => by simp only [List.map_toArray, List.map_cons, List.map_nil]; rw [K.got 9 (by kernel_rfl) (by kernel_rfl) rfl rfl]; rfl) (fun v w' w'' h _ => h) (fun v v' hv w' h => (hv 10 (.inl rfl)) ▸ h) ?_) ?_
            · intro v w' kk _
              refine (iRecoverO n w').mono ?_
              rintro e w'' ⟨rfl, b1⟩
              exact ⟨_, rfl, updv_same v 10 _, b1⟩
            refine rCons (rFix rfl rfl (fun L v a w' K => by have e1 : a.eval (.tmp 37) = .int .i64 (n : Int) := K.got 1 (by kernel_rfl) (by kernel_rfl) rfl rfl; have e2 : a.eval (.tmp 43) = .int .i64 e0 := K.got 7 (by kernel_rfl) (by kernel_rfl) rfl rfl; have e3 : a.eval (.tmp 46) = opV 12 n 0 0 ⟨#[]⟩ := (K.slots.eval_got 10 (K.up 10 (by kernel_rfl)) (by kernel_rfl)).trans (K.said 10 _ (by kernel_rfl) rfl rfl); have ec : ∀ v, a.eval (.const v) = v := fun _ => rfl; generalize a.eval = ρ at e1 e2 e3 ec ⊢; unfold execOp; go_simp; first | done | rfl)) ?_
            refine rCons (rLoad rfl rfl 44 _ rfl (b := w3.heap.size) (by kernel_rfl) (by kernel_rfl) _ HN.out (fun h => by rcases into_two (x := w.heap.size + 1 + 1) (y := w.heap.size + 1 + 1 + 1) h rfl with h | h <;> omega) Tryz.underlying44 rfl (by kernel_rfl)) ?_
            refine rCons (rStore rfl rfl 41 _ _ rfl (by kernel_rfl) (by kernel_rfl) HR4.out (by kernel_rfl) (by kernel_rfl) (by kernel_rfl) (fun m b' hm hne => by simp [storesOf] at hm; omega) rfl rfl rfl rfl rfl) ?_
            refine rCons (rStore rfl rfl 44 _ _ rfl (by kernel_rfl) (by kernel_rfl) HQ4.out (by kernel_rfl) (by kernel_rfl) (by kernel_rfl) (fun m b' hm hne => by simp [storesOf] at hm; omega) rfl rfl rfl rfl rfl) ?_
            refine rCons (rFix rfl rfl (fun L v a w' K => by unfold execOp; simp [go_sem, Act.eval])) (rNil _)
          intro L vv w' hL K G
          have e4 : vv 15 = .bool true := (G 15 _ rfl).1 rfl
          have R1 := hid (Go.Proofs.YtlhnkdogafnnpaaGreat.Rg.stored G 13 11 (w.heap.size + 1 + 1) (cs := hoC (Ho.risen n e0) none 0) rfl rfl rfl rfl)
          have R2 := hid (Go.Proofs.YtlhnkdogafnnpaaGreat.Rg.stored G 14 12 (w.heap.size + 1 + 1 + 1) (cs := [.slice p1 F.sec.length q1, .slice (some ⟨gb, go, none⟩) F.ep.length q2, .slice p3 F.pe.length q3]) rfl rfl rfl rfl)
          simp only [putsAll, Act.put, List.setIfInBounds_toArray, List.set_cons_zero, List.set_cons_succ, e4]
          clear G
          go_wp2
          refine bodyPost_ret (results_cct rfl _ _ (w.heap.size + 1 + 1) (w.heap.size + 1 + 1 + 1) (hoC (Ho.risen n e0) none 0) [.slice p1 F.sec.length q1, .slice (some ⟨gb, go, none⟩) F.ep.length q2, .slice p3 F.pe.length q3] _ _ rfl R1.out Tryz.underlying41 rfl (by kernel_rfl) rfl R2.out Tryz.underlying44 rfl (by kernel_rfl)) rfl ?_
          have K' : Kept (fun b => b = w.heap.size + 1 + 1 ∨ b = w.heap.size + 1 + 1 + 1) w4 w' := K.mono (fun b _ h => into_two h rfl)
          have hz : riseD H D = (Ho.risen n e0, F, true) := by
            have h1 := rise_on (D := D) hup (by rw [HFD.out])
            rw [HFD.out, HIn.out] at h1
            rw [h1]
            show (Ho.risen n (F.ep.getD (n : Int).toNat 0), F, true) = _
            rw [Int.toNat_natCast, HE0.out]
          rw [riseA_yes hok hri, hz]
          exact ⟨none, 0, _, rfl, fun i hi => by simp [Ho.risen] at hi, dkw_kept (dkw_mono HO4.out hB2s) K' (fun b hb h => by have := HO4.out.foot_ge hb; omega), fun b hb => by simp [foot, Ho.risen] at hb, HB4.out.trans (K'.below HB4.out.size (fun b hb h => by omega))⟩

end Go.Proofs.YtlhnkdogafnnpaaGreat.Pl

namespace Go.Proofs.YtlhnkdogafnnpaaGreat.Pl
open Go.RowKit Go.Proofs.YtlhnkdogafnnpaaGreat.Mem Go.Proofs.YtlhnkdogafnnpaaGreat.Rg
set_option linter.unusedVariables false

/-- A box: its block, its cells, the blocks of what they lead to, what holds of that. -/
structure LItem where
  b : Nat
  cs : List Value
  F : Nat → Prop
  Q : World → Prop
  st : ∀ (S : Nat → Prop) (w w' : World), Q w → Kept S w w' → (∀ x, F x → ¬ S x) → Q w'
  lt : ∀ (w : World), Q w → ∀ x, F x → x < w.heap.size

def Live (w : World) (l : List LItem) : Prop := ∀ it, it ∈ l → Row w it.b it.cs ∧ it.Q w

theorem Live.below {w w' : World} {l : List LItem} (h : Live w l) (b : Below w.heap.size w w') : Live w' l := fun it hi =>
  ⟨(h it hi).1.below b (h it hi).1.lt, it.st (fun _ => False) _ _ (h it hi).2 (Kept.of_below b) (fun _ _ x => x)⟩
theorem Live.kept {S : Nat → Prop} {w w' : World} {l : List LItem} (h : Live w l) (k : Kept S w w') (hn : ∀ it, it ∈ l → ¬ S it.b ∧ ∀ x, it.F x → ¬ S x) : Live w' l := fun it hi =>
  ⟨(h it hi).1.kept k (hn it hi).1, it.st S _ _ (h it hi).2 k (hn it hi).2⟩
theorem Live.sub {w : World} {l m : List LItem} (h : Live w l) (hm : ∀ it, it ∈ m → it ∈ l) : Live w m := fun it hi => h it (hm it hi)
theorem Live.cons {w : World} {l : List LItem} {it : LItem} (r : Row w it.b it.cs) (q : it.Q w) (h : Live w l) : Live w (it :: l) := fun x hx => by
  rcases List.mem_cons.1 hx with rfl | hx
  · exact ⟨r, q⟩
  · exact h x hx
theorem Live.nil (w : World) : Live w [] := fun _ h => (by cases h)
theorem Live.row {w : World} {l : List LItem} (h : Live w l) (it : LItem) (hi : it ∈ l) : Row w it.b it.cs := (h it hi).1
theorem Live.q {w : World} {l : List LItem} (h : Live w l) (it : LItem) (hi : it ∈ l) : it.Q w := (h it hi).2

/-- All of an item lies below a place. -/
def LItem.under (it : LItem) (n : Nat) : Prop := it.b < n ∧ ∀ x, it.F x → x < n
def LItem.over (it : LItem) (n : Nat) : Prop := n ≤ it.b ∧ ∀ x, it.F x → n ≤ x
theorem Live.under {w : World} {l : List LItem} (h : Live w l) : ∀ it, it ∈ l → it.under w.heap.size := fun it hi => ⟨(h it hi).1.lt, it.lt w (h it hi).2⟩

theorem wpList_value {P : Program} {ops : Array Oper} {rest : List Oper} {op : Oper} {a : Act} {w : World} {Q : Exit → Act → World → Prop} (hw : Region.wanted op (yielded ops a.tmps) = true) {v : Value} (hr : (execOp a.eval op).run P w = .ok (.value v) w)
    (h : wpList P ops Q rest (a.put op.dst v) w) : wpList P ops Q (op :: rest) a w :=
  wpList_step fun K hK => by
    rw [if_pos hw]
    unfold Oper.wp
    rw [hr, Oper.upon_value]
    exact hK _ _ h

theorem wpList_loadR {P : Program} {ops : Array Oper} {rest : List Oper} {op : Oper} {a : Act} {w : World} {Q : Exit → Act → World → Prop} (hw : Region.wanted op (yielded ops a.tmps) = true) (ty : TypeId) (x : Operand) (ho : op.op = .load ty x)
    (b : Nat) (hx : a.eval x = .pointer (some ⟨b, 0, none⟩)) (cs : List Value) (d : TypeDesc) (hr : Row w b cs)
    (hu : P.underlying ty = some d) (hd : d.isRow = true) (hi : (P.info? ty).map (·.size) = some cs.length)
    (h : wpList P ops Q rest (a.put op.dst (.agg cs.toArray)) w) : wpList P ops Q (op :: rest) a w :=
  wpList_value hw (run_load_row ty x ho b hx cs d hr hu hd hi) h

theorem wpList_callR {P : Program} {ops : Array Oper} {rest : List Oper} {op : Oper} {a : Act} {w : World} {Q : Exit → Act → World → Prop} (hw : Region.wanted op (yielded ops a.tmps) = true) (f : FuncId) (xs : Array Operand) (ts : Array TypeId)
    (ho : op.op = .call { callee := .value (.func f), args := xs, argTypes := ts }) (vs : Array Value) (hv : xs.map a.eval = vs) (hc : ∀ vs w, (callFunc f vs).run P w = .ok (.enter f vs) w)
    (h : Calls P f vs w fun e w' => ∃ v, e = .returned v ∧ wpList P ops Q rest (a.put op.dst v) w') : wpList P ops Q (op :: rest) a w :=
  wpList_step fun K hK => by
    rw [if_pos hw]
    unfold Oper.wp
    rw [enters a op w xs ts f ho vs hv hc, Oper.upon_enter]
    refine h.mono ?_
    rintro e w' ⟨v, rfl, hw⟩
    exact hK _ _ hw

/-- A struct that is handed in is laid into its box. -/
theorem wpList_boxR {P : Program} {ops : Array Oper} {rest : List Oper} {op : Oper} {a : Act} {w : World} {Q : Exit → Act → World → Prop} (hw : Region.wanted op (yielded ops a.tmps) = true) (ty : TypeId) (x : Operand) (ho : op.op = .box ty x) (cs : List Value) (hx : a.eval x = .agg cs.toArray)
    (h : ∀ w', Row w' w.heap.size cs → Below w.heap.size w w' → wpList P ops Q rest (a.put op.dst (.pointer (some ⟨w.heap.size, 0, none⟩))) w') : wpList P ops Q (op :: rest) a w :=
  wpList_step fun K hK => by
    rw [if_pos hw]
    have hr : (execOp a.eval op).run P w = .ok (.value (.pointer (some ⟨w.heap.size, 0, none⟩))) (w.alloc (.cells cs.toArray ty)) := by
      generalize a.eval = ρ at hx ⊢
      unfold execOp
      simp [ho, hx, go_sem]
    unfold Oper.wp
    rw [hr, Oper.upon_value]
    exact hK _ _ (h _ (Row.new w cs ty) ((Below.refl _ w).alloc (Nat.le_refl _) _))

end Go.Proofs.YtlhnkdogafnnpaaGreat.Pl

namespace Go.Proofs.YtlhnkdogafnnpaaGreat.Pl
open Go.RowKit Go.Proofs.YtlhnkdogafnnpaaGreat.Mem Go.Proofs.YtlhnkdogafnnpaaGreat.Sec Go.Proofs.YtlhnkdogafnnpaaGreat.Rd
set_option linter.unusedVariables false

set_option maxRecDepth 100000 in
set_option maxHeartbeats 8000000 in
theorem toHost (w : World) (H : Ho) (p : Option Addr) (c : Nat) (S : Ous w p H.l) (hl : H.l.length ≤ 1048576) :
    Calls Tryz.prog 7 #[hoV H p c] w fun r w' => ∃ g, r = .returned (hoV H (some ⟨g, 0, none⟩) H.l.length) ∧ w.heap.size ≤ g ∧ g < w'.heap.size ∧ OusW w' w.heap.size (some ⟨g, 0, none⟩) H.l ∧ Below w.heap.size w w' := by
  obtain ⟨id, ep, up, rd, bz, k, v, t, a, s, pc, cd, bk, tx, l, txn⟩ := H
  have HS : Hid (Ous w p l) := S
  replace hl : l.length ≤ 1048576 := hl
  clear S
  unfold hoV
  try simp only []
  go_enter Tryz.func7, Tryz.ntmps7
  go_wp2_with fail
  obtain ⟨wc, hwc, e2, A0, R0, O0, B0⟩ := three_news w [.int .i64 id, .int .i64 ep, .bool up, .bool rd, .bool bz, .int .i64 k, .int .i64 v, .int .i64 t, .int .i64 a, .string s, .int .i64 pc, .int .i64 cd, .int .i64 bk, .string tx, .slice p l.length c, .int .i64 txn] [.int .i64 0, .int .i64 0, .bool false, .bool false, .bool false, .int .i64 0, .int .i64 0, .int .i64 0, .int .i64 0, .string ⟨#[]⟩, .int .i64 0, .int .i64 0, .int .i64 0, .string ⟨#[]⟩, .slice none 0 0, .int .i64 0] [.int .i64 id, .int .i64 ep, .bool up, .bool rd, .bool bz, .int .i64 0, .int .i64 0, .int .i64 0, .int .i64 0, .string ⟨#[]⟩, .int .i64 0, .int .i64 0, .int .i64 0, .string ⟨#[]⟩, .slice none 0 0, .int .i64 0] 28 41
  simp only [hwc]
  clear hwc
  refine (toOp wc k v t a s).mono ?_
  rintro r w1 ⟨rfl, b1⟩
  replace A0 := A0.below b1 (by omega)
  replace R0 := R0.below b1 (by omega)
  replace O0 := O0.below b1 (by omega)
  replace B0 := B0.trans (b1.mono (by omega))
  have hs1 := b1.size
  have ca10 := A0.c 10 rfl
  have ca11 := A0.c 11 rfl
  have ca12 := A0.c 12 rfl
  have ca13 := A0.c 13 rfl
  have ca14 := A0.c 14 rfl
  have co5 := O0.c 5 rfl
  have co6 := O0.c 6 rfl
  have co7 := O0.c 7 rfl
  have co8 := O0.c 8 rfl
  have co9 := O0.c 9 rfl
  have co10 := O0.c 10 rfl
  have fo5 := O0.f 5
  have fo6 := O0.f 6
  have fo7 := O0.f 7
  have fo8 := O0.f 8
  have fo9 := O0.f 9
  have fo10 := O0.f 10
  have HA := hid A0
  have HR := hid R0
  have HO := hid O0
  clear A0 R0 O0 b1
  unfold opV
  go_wp2_with fail
  obtain ⟨w1', hw1', A0, R0, O0, B1, es⟩ : ∃ w1', ((((((w1.setCell ⟨w.heap.size + 1 + 1, 5, none⟩ (.int .i64 k)).setCell ⟨w.heap.size + 1 + 1, 6, none⟩ (.int .i64 v)).setCell ⟨w.heap.size + 1 + 1, 7, none⟩ (.int .i64 t)).setCell ⟨w.heap.size + 1 + 1, 8, none⟩ (.int .i64 a)).setCell ⟨w.heap.size + 1 + 1, 9, none⟩ (.string s)).setCell ⟨w.heap.size + 1 + 1, 10, none⟩ (.int .i64 pc)) = w1' ∧ Row w1' w.heap.size _ ∧ Row w1' (w.heap.size + 1) _ ∧ Row w1' (w.heap.size + 1 + 1) _ ∧ Below w.heap.size w w1' ∧ w1'.heap.size = w1.heap.size :=
    ⟨_, rfl, puts_other HA.out (by omega) 5 [.int .i64 k, .int .i64 v, .int .i64 t, .int .i64 a, .string s, .int .i64 pc], puts_other HR.out (by omega) 5 [.int .i64 k, .int .i64 v, .int .i64 t, .int .i64 a, .string s, .int .i64 pc], puts_row HO.out 5 [.int .i64 k, .int .i64 v, .int .i64 t, .int .i64 a, .string s, .int .i64 pc], puts_below B0 (by omega) 5 [.int .i64 k, .int .i64 v, .int .i64 t, .int .i64 a, .string s, .int .i64 pc], puts_size w1 _ 5 [.int .i64 k, .int .i64 v, .int .i64 t, .int .i64 a, .string s, .int .i64 pc]⟩
  simp only [hw1']
  clear hw1' HA HR HO B0 ca10 ca11 ca12 ca13 ca14 co5 fo5 co6 fo6 co7 fo7 co8 fo8 co9 fo9 co10 fo10
  refine (toPlan w1' cd bk tx p c l (HS.out.below B1) hl).mono ?_
  rintro r w2 ⟨g, rfl, hg, hl2, S2, b2⟩
  replace R0 := R0.below b2 R0.lt
  replace O0 := O0.below b2 O0.lt
  replace A0 := A0.below b2 A0.lt
  replace B1 := B1.trans (b2.mono (by omega))
  have d11 := O0.c 11 rfl
  have d12 := O0.c 12 rfl
  have d13 := O0.c 13 rfl
  have d14 := O0.c 14 rfl
  have fd11 := O0.f 11
  have fd12 := O0.f 12
  have fd13 := O0.f 13
  have fd14 := O0.f 14
  have HA := hid A0
  have HR := hid R0
  have HO := hid O0
  have HS2 := hid S2
  clear A0 R0 O0 b2 S2
  unfold plnV
  go_upto_region 10 with fail
  obtain ⟨w3, hw3, A0, R0, O0, B3, K3⟩ : ∃ w3, ((((w2.setCell ⟨w.heap.size + 1 + 1, 11, none⟩ (.int .i64 cd)).setCell ⟨w.heap.size + 1 + 1, 12, none⟩ (.int .i64 bk)).setCell ⟨w.heap.size + 1 + 1, 13, none⟩ (.string tx)).setCell ⟨w.heap.size + 1 + 1, 14, none⟩ (.slice (some ⟨g, 0, none⟩) l.length l.length)) = w3 ∧ Row w3 w.heap.size _ ∧ Row w3 (w.heap.size + 1) _ ∧ Row w3 (w.heap.size + 1 + 1) _ ∧ Below w.heap.size w w3 ∧ Kept (fun b => b = w.heap.size + 1 + 1) w2 w3 :=
    ⟨_, rfl, puts_other HA.out (by omega) 11 [.int .i64 cd, .int .i64 bk, .string tx, .slice (some ⟨g, 0, none⟩) l.length l.length], puts_other HR.out (by omega) 11 [.int .i64 cd, .int .i64 bk, .string tx, .slice (some ⟨g, 0, none⟩) l.length l.length], puts_row HO.out 11 [.int .i64 cd, .int .i64 bk, .string tx, .slice (some ⟨g, 0, none⟩) l.length l.length], puts_below B1 (by omega) 11 [.int .i64 cd, .int .i64 bk, .string tx, .slice (some ⟨g, 0, none⟩) l.length l.length], puts_kept w2 _ 11 [.int .i64 cd, .int .i64 bk, .string tx, .slice (some ⟨g, 0, none⟩) l.length l.length]⟩
  try simp only [hw3]
  clear hw3 d11 d12 d13 d14 fd11 fd12 fd13 fd14 HA HR HO B1
  have a15 := A0.c 15 rfl
  have d15 := O0.c 15 rfl
  have fd15 := O0.f 15
  have HR := hid R0
  have HO := hid O0
  clear A0 R0 O0
  go_upto_region 11 with fail
  obtain ⟨w4, hw4, R0, O0, B4, K4⟩ : ∃ w4, w3.setCell ⟨w.heap.size + 1 + 1, 15, none⟩ (.int .i64 txn) = w4 ∧ Row w4 (w.heap.size + 1) _ ∧ Row w4 (w.heap.size + 1 + 1) _ ∧ Below w.heap.size w w4 ∧ Kept (fun b => b = w.heap.size + 1 + 1) w3 w4 :=
    ⟨_, rfl, HR.out.other (p := ⟨w.heap.size + 1 + 1, 15, none⟩) (by show w.heap.size + 1 ≠ w.heap.size + 1 + 1; omega) _, HO.out.set 15 (.int .i64 txn), below_set B3 _ _ _ (by omega), kept_set w3 _ _ _⟩
  try simp only [hw4]
  clear hw4 a15 d15 fd15 HR HO
  refine wp_region_list ?_
  refine wpList_load_row rfl 41 _ rfl (w.heap.size + 1 + 1) rfl [.int .i64 id, .int .i64 ep, .bool up, .bool rd, .bool bz, .int .i64 k, .int .i64 v, .int .i64 t, .int .i64 a, .string s, .int .i64 pc, .int .i64 cd, .int .i64 bk, .string tx, .slice (some ⟨g, 0, none⟩) l.length l.length, .int .i64 txn] _ O0 Tryz.underlying41 rfl (by kernel_rfl) ?_
  refine wpList_store_row rfl 41 _ _ rfl (w.heap.size + 1) rfl _ [.int .i64 id, .int .i64 ep, .bool up, .bool rd, .bool bz, .int .i64 k, .int .i64 v, .int .i64 t, .int .i64 a, .string s, .int .i64 pc, .int .i64 cd, .int .i64 bk, .string tx, .slice (some ⟨g, 0, none⟩) l.length l.length, .int .i64 txn] rfl R0 rfl (by kernel_rfl) rfl ?_
  have HR := hid (puts_row R0 0 [.int .i64 id, .int .i64 ep, .bool up, .bool rd, .bool bz, .int .i64 k, .int .i64 v, .int .i64 t, .int .i64 a, .string s, .int .i64 pc, .int .i64 cd, .int .i64 bk, .string tx, .slice (some ⟨g, 0, none⟩) l.length l.length, .int .i64 txn])
  have HB := hid (puts_below B4 (show w.heap.size ≤ w.heap.size + 1 by omega) 0 [.int .i64 id, .int .i64 ep, .bool up, .bool rd, .bool bz, .int .i64 k, .int .i64 v, .int .i64 t, .int .i64 a, .string s, .int .i64 pc, .int .i64 cd, .int .i64 bk, .string tx, .slice (some ⟨g, 0, none⟩) l.length l.length, .int .i64 txn])
  have HK := hid (((K3.trans K4).trans (puts_kept w4 (w.heap.size + 1) 0 [.int .i64 id, .int .i64 ep, .bool up, .bool rd, .bool bz, .int .i64 k, .int .i64 v, .int .i64 t, .int .i64 a, .string s, .int .i64 pc, .int .i64 cd, .int .i64 bk, .string tx, .slice (some ⟨g, 0, none⟩) l.length l.length, .int .i64 txn])).mono (T := fun b => b < wc.heap.size) (fun b _ hb => by rcases hb with (h | h) | h <;> omega))
  have hz : w2.heap.size ≤ (puts w4 (w.heap.size + 1) 0 [.int .i64 id, .int .i64 ep, .bool up, .bool rd, .bool bz, .int .i64 k, .int .i64 v, .int .i64 t, .int .i64 a, .string s, .int .i64 pc, .int .i64 cd, .int .i64 bk, .string tx, .slice (some ⟨g, 0, none⟩) l.length l.length, .int .i64 txn]).heap.size := HK.out.size
  generalize puts w4 (w.heap.size + 1) 0 [.int .i64 id, .int .i64 ep, .bool up, .bool rd, .bool bz, .int .i64 k, .int .i64 v, .int .i64 t, .int .i64 a, .string s, .int .i64 pc, .int .i64 cd, .int .i64 bk, .string tx, .slice (some ⟨g, 0, none⟩) l.length l.length, .int .i64 txn] = w5 at *
  clear R0 O0 B3 B4 K3 K4
  refine wpList_nil ?_
  go_wp2
  refine bodyPost_ret (results_row rfl _ _ (w.heap.size + 1) [.int .i64 id, .int .i64 ep, .bool up, .bool rd, .bool bz, .int .i64 k, .int .i64 v, .int .i64 t, .int .i64 a, .string s, .int .i64 pc, .int .i64 cd, .int .i64 bk, .string tx, .slice (some ⟨g, 0, none⟩) l.length l.length, .int .i64 txn] _ rfl HR.out Tryz.underlying41 rfl (by kernel_rfl)) rfl ?_
  refine ⟨g, rfl, by omega, by omega, ?_, HB.out⟩
  exact (HS2.out.move HK.out (fun b hb => by have := HS2.out.foot_ge hb; omega)).mono (by omega)

set_option maxRecDepth 100000 in
set_option maxHeartbeats 1000000 in
theorem markPlan (w : World) (B : Nat) (cd bk : Int) (tx : ByteArray) (p : Option Addr) (n c k : Nat) (f : Nat → Value) (S : Wr w B p (n * 2) f) (hB : B ≤ w.heap.size) (hk : 0 < k) (hb : k + n * 2 ≤ 1048576) :
    Calls Tryz.prog 42 #[plnV cd bk tx p n c, .int .i64 (k : Int)] w fun e w' => e = .returned (.int .i64 ((k + n * 2 : Nat) : Int)) ∧ Wr w' B p (n * 2) (mkO k) ∧ Kept (foot p (n * 2)) w w' := by
  unfold plnV
  have HS := hid S
  clear S
  obtain ⟨wa, hwa, ez, A0, B0⟩ := one_new w [.int .i64 cd, .int .i64 bk, .string tx, .slice p n c] 39
  have k0 := A0.c 0 rfl
  have k1 := A0.c 1 rfl
  have k2 := A0.c 2 rfl
  have k3 := A0.c 3 rfl
  have HB := hid B0
  clear A0 B0 ez
  go_enter Tryz.func42, Tryz.ntmps42
  go_wp2_with fail
  try simp only [hwa]
  clear hwa
  refine (markOutS wa B p n c k f (HS.out.below HB.out) hk hb).mono ?_
  rintro e w1 ⟨rfl, W1, K1⟩
  have HW1 := hid W1
  have HK := hid (((Kept.of_below (S := foot p (n * 2)) HB.out).trans K1).mono (fun b _ h => by rcases h with h | h <;> exact h))
  clear W1 K1 k0 k1 k2 k3
  go_wp2
  go_ret
  exact ⟨rfl, HW1.out, HK.out⟩

set_option maxRecDepth 100000 in
set_option maxHeartbeats 1000000 in
theorem heldPlan (w : World) (cd bk : Int) (tx : ByteArray) (p : Option Addr) (n c k : Nat) (S : Sl w p (n * 2) (mkO k)) (hk : 0 < k) (hb : k + n * 2 ≤ 1048576) :
    Calls Tryz.prog 46 #[plnV cd bk tx p n c, .int .i64 (k : Int)] w fun e w' => e = .returned (.int .i64 ((k + n * 2 : Nat) : Int)) ∧ Below w.heap.size w w' := by
  unfold plnV
  have HS := hid S
  clear S
  obtain ⟨wa, hwa, ez, A0, B0⟩ := one_new w [.int .i64 cd, .int .i64 bk, .string tx, .slice p n c] 39
  have k0 := A0.c 0 rfl
  have k1 := A0.c 1 rfl
  have k2 := A0.c 2 rfl
  have k3 := A0.c 3 rfl
  have HB := hid B0
  clear A0 B0 ez
  go_enter Tryz.func46, Tryz.ntmps46
  go_wp2_with fail
  try simp only [hwa]
  clear hwa
  refine (heldOutS wa p n c k (Sl.below HS.out HB.out) hk hb).mono ?_
  rintro e w1 ⟨rfl, b1⟩
  have HB1 := hid (HB.out.trans (b1.mono HB.out.size))
  have hn : ¬ ((k + n * 2 : Nat) : Int) < 0 := by omega
  generalize hT : k + n * 2 = T at *
  have HT := hid hT
  clear hT b1 k0 k1 k2 k3
  go_wp2
  go_ret
  exact ⟨by first | (rw [HT.out]; done) | (rw [HT.out]; rfl), HB1.out⟩

set_option maxRecDepth 100000 in
set_option maxHeartbeats 1000000 in
theorem markHost (w : World) (B : Nat) (H : Ho) (p : Option Addr) (c m : Nat) (f : Nat → Value) (S : Wr w B p (H.l.length * 2) f) (hB : B ≤ w.heap.size) (hk : 0 < m) (hb : m + H.l.length * 2 ≤ 1048576) :
    Calls Tryz.prog 12 #[hoV H p c, .int .i64 (m : Int)] w fun e w' => e = .returned (.int .i64 ((m + H.l.length * 2 : Nat) : Int)) ∧ Wr w' B p (H.l.length * 2) (mkO m) ∧ Kept (foot p (H.l.length * 2)) w w' := by
  obtain ⟨id, ep, up, rd, bz, k, v, t, a, s, pc, cd, bk, tx, l, txn⟩ := H
  have HS : Hid (Wr w B p (l.length * 2) f) := S
  replace hb : m + l.length * 2 ≤ 1048576 := hb
  clear S
  unfold hoV
  try simp only []
  generalize l.length = n at *
  obtain ⟨wa, hwa, ez, A0, B0⟩ := one_new w [.int .i64 id, .int .i64 ep, .bool up, .bool rd, .bool bz, .int .i64 k, .int .i64 v, .int .i64 t, .int .i64 a, .string s, .int .i64 pc, .int .i64 cd, .int .i64 bk, .string tx, .slice p n c, .int .i64 txn] 41
  have k11 := A0.c 11 rfl
  have k12 := A0.c 12 rfl
  have k13 := A0.c 13 rfl
  have k14 := A0.c 14 rfl
  have HB := hid B0
  clear A0 B0 ez
  go_enter Tryz.func12, Tryz.ntmps12
  go_wp2_with fail
  try simp only [hwa]
  clear hwa
  refine (markPlan wa B cd bk tx p n c m f (HS.out.below HB.out) (Nat.le_trans hB HB.out.size) hk hb).mono ?_
  rintro e w1 ⟨rfl, W1, K1⟩
  have HW1 := hid W1
  have HK := hid (((Kept.of_below (S := foot p (n * 2)) HB.out).trans K1).mono (fun b _ h => by rcases h with h | h <;> exact h))
  clear W1 K1 k11 k12 k13 k14
  go_wp2
  go_ret
  exact ⟨rfl, HW1.out, HK.out⟩

set_option maxRecDepth 100000 in
set_option maxHeartbeats 1000000 in
theorem heldHost (w : World) (H : Ho) (p : Option Addr) (c m : Nat) (S : Sl w p (H.l.length * 2) (mkO m)) (hk : 0 < m) (hb : m + H.l.length * 2 ≤ 1048576) :
    Calls Tryz.prog 14 #[hoV H p c, .int .i64 (m : Int)] w fun e w' => e = .returned (.int .i64 ((m + H.l.length * 2 : Nat) : Int)) ∧ Below w.heap.size w w' := by
  obtain ⟨id, ep, up, rd, bz, k, v, t, a, s, pc, cd, bk, tx, l, txn⟩ := H
  have HS : Hid (Sl w p (l.length * 2) (mkO m)) := S
  replace hb : m + l.length * 2 ≤ 1048576 := hb
  clear S
  unfold hoV
  try simp only []
  generalize l.length = n at *
  obtain ⟨wa, hwa, ez, A0, B0⟩ := one_new w [.int .i64 id, .int .i64 ep, .bool up, .bool rd, .bool bz, .int .i64 k, .int .i64 v, .int .i64 t, .int .i64 a, .string s, .int .i64 pc, .int .i64 cd, .int .i64 bk, .string tx, .slice p n c, .int .i64 txn] 41
  have k11 := A0.c 11 rfl
  have k12 := A0.c 12 rfl
  have k13 := A0.c 13 rfl
  have k14 := A0.c 14 rfl
  have HB := hid B0
  clear A0 B0 ez
  go_enter Tryz.func14, Tryz.ntmps14
  go_wp2_with fail
  try simp only [hwa]
  clear hwa
  refine (heldPlan wa cd bk tx p n c m (Sl.below HS.out HB.out) hk hb).mono ?_
  rintro e w1 ⟨rfl, b1⟩
  have HB1 := hid (HB.out.trans (b1.mono HB.out.size))
  have hn : ¬ ((m + n * 2 : Nat) : Int) < 0 := by omega
  generalize hT : m + n * 2 = T at *
  have HT := hid hT
  clear hT b1 k11 k12 k13 k14
  go_wp2
  go_ret
  exact ⟨by first | (rw [HT.out]; done) | (rw [HT.out]; rfl), HB1.out⟩

end Go.Proofs.YtlhnkdogafnnpaaGreat.Pl

namespace Go.Proofs.YtlhnkdogafnnpaaGreat.Pl
open Go.RowKit Go.Proofs.YtlhnkdogafnnpaaGreat.Mem Go.Proofs.YtlhnkdogafnnpaaGreat.Sec Go.Proofs.YtlhnkdogafnnpaaGreat.Rd
set_option linter.unusedVariables false

set_option maxRecDepth 100000 in
set_option maxHeartbeats 1000000 in
theorem markOutS2 (w : World) (B : Nat) (a : Option Addr) (n cap k : Nat) (f : Nat → Value) (S : Wr w B a (n * 2) f) (hk : 0 < k) (hb : k + n * 2 ≤ 4194304) :
    Calls Tryz.prog 71 #[.slice a n cap, .int .i64 (k : Int)] w fun e w' => e = .returned (.int .i64 ((k + n * 2 : Nat) : Int)) ∧ Wr w' B a (n * 2) (mkO k) ∧ Kept (foot a (n * 2)) w w' := by
  have HS := hid S
  clear S
  go_enter Tryz.func71, Tryz.ntmps71
  go_wp2
  go_loopw [1, 5] (fun x i wr => ∃ (j m : Nat), j ≤ n ∧ i = .int .i64 (j : Int) ∧ x = .int .i64 (m : Int) ∧ m ≤ 4194304 ∧ Hid (m = k + j * 2) ∧ Hid (Wr wr B a (n * 2) (msO f k j)) ∧ Hid (Kept (foot a (n * 2)) w wr)) (fun _ i _ => n - (intOf i).toNat)
  case atStart => exact ⟨0, k, Nat.zero_le _, rfl, rfl, by omega, by rw [Hid]; omega, HS.out.congr (fun i _ => by simp [msO]), Kept.refl _ _⟩
  case round =>
    obtain ⟨j, m, hj, rfl, rfl, hm, Hm, HW, HK⟩ := hrel
    by_cases hlt : j < n
    · obtain ⟨b, off, rfl, hB, hc, hz⟩ := HW.out (j * 2) (by omega)
      obtain ⟨b1, off1, e1, _, hc1, hz1⟩ := HW.out (j * 2 + 1) (by omega)
      cases e1
      have hm2 : m + 2 ≤ 4194304 := by have := Hm.out; omega
      have HW0 := hid (HW.out.set (j * 2) (by omega) (.int .i64 (m : Int)))
      have HK0 := hid (HK.out.trans (kept_set wr b (off + j * 2) (.int .i64 (m : Int))))
      obtain ⟨w0, hw0⟩ : ∃ w0, wr.setCell ⟨b, off + j * 2, none⟩ (.int .i64 (m : Int)) = w0 := ⟨_, rfl⟩
      rw [hw0] at HW0 HK0
      go_wp2_with fail
      clear hw0
      refine (markText (m + 1) _ (by omega) (by omega)).mono ?_
      rintro e w1 ⟨rfl, b1⟩
      have HW1 := hid (HW0.out.below b1)
      have HK1 := hid (HK0.out.trans (Kept.of_below (S := fun _ => False) b1))
      clear b1 hc hz hc1 hz1
      obtain ⟨b', off', e', _, hc', hz'⟩ := HW1.out (j * 2 + 1) (by omega)
      cases e'
      rw [← Nat.add_assoc] at hc' hz'
      go_wp2
      refine ⟨⟨j + 1, m + 2, by omega, by go_num, by go_num, hm2, by have := Hm.out; rw [Hid]; omega, ?_, ?_⟩, by simp [intOf]; omega⟩
      · have := HW1.out.set (j * 2 + 1) (by omega) (.string (markS (m + 1)))
        rw [← Nat.add_assoc] at this
        exact this.congr (fun i _ => by rw [← msO_succ, Hm.out, Nat.add_assoc])
      · exact (HK1.out.trans (kept_set w1 b (off + j * 2 + 1) _)).mono (fun b2 _ h => by
          rcases h with ((h | h) | h) | h
          · exact h
          · subst h; exact ⟨by omega, off, rfl⟩
          · exact h.elim
          · subst h; exact ⟨by omega, off, rfl⟩)
    · obtain rfl : j = n := by omega
      go_wp2
      go_ret
      exact ⟨by rw [Hm.out]; rfl, HW.out.congr (fun i hi => by unfold msO; rw [if_pos hi]), HK.out⟩

set_option maxRecDepth 100000 in
set_option maxHeartbeats 1000000 in
theorem heldOutS2 (w : World) (a : Option Addr) (n cap k : Nat) (S : Sl w a (n * 2) (mkO k)) (hk : 0 < k) (hb : k + n * 2 ≤ 4194304) :
    Calls Tryz.prog 73 #[.slice a n cap, .int .i64 (k : Int)] w fun e w' => e = .returned (.int .i64 ((k + n * 2 : Nat) : Int)) ∧ Below w.heap.size w w' := by
  have HS := hid S
  clear S
  go_enter Tryz.func73, Tryz.ntmps73
  go_wp2
  go_loopw [1, 5] (fun x i wr => ∃ (j m : Nat), j ≤ n ∧ i = .int .i64 (j : Int) ∧ x = .int .i64 (m : Int) ∧ m ≤ 4194304 ∧ Hid (m = k + j * 2) ∧ Hid (Below w.heap.size w wr)) (fun _ i _ => n - (intOf i).toNat)
  case atStart => exact ⟨0, k, Nat.zero_le _, rfl, rfl, by omega, by rw [Hid]; omega, Below.refl _ _⟩
  case round =>
    obtain ⟨j, m, hj, rfl, rfl, hm, Hm, HB⟩ := hrel
    by_cases hlt : j < n
    · have HSr := hid (HS.out.below HB.out)
      obtain ⟨b, off, rfl, hc⟩ := HSr.out (j * 2) (by omega)
      obtain ⟨b1, off1, e1, hc1⟩ := HSr.out (j * 2 + 1) (by omega)
      cases e1
      have hm2 : m + 2 ≤ 4194304 := by have := Hm.out; omega
      have v0 : mkO k (j * 2) = .int .i64 (m : Int) := by unfold mkO; rw [if_pos (by omega), Hm.out]
      have v1 : mkO k (j * 2 + 1) = .string (markS (m + 1)) := by unfold mkO; rw [if_neg (by omega), Hm.out, Nat.add_assoc]
      rw [v0] at hc
      rw [v1, ← Nat.add_assoc] at hc1
      have HMT := hid (fun (u : BW wr) => markText (m + 1) u.val (by omega) (by omega))
      have hne : Nonempty (BW wr) := ⟨⟨wr, Below.refl _ _⟩⟩
      have hcu := BW.cell hc1
      clear v0 v1 hc1
      generalize markS (m + 1) = mt at *
      go_wp2
      refine wp_region_bw (by kernel_rfl) (by kernel_rfl) ?_
      repeat (go_big_quiet_step (first
        | (go_at_call 72; refine bw_below (HMT.out _))))
      refine wpQuiet_nil ?_
      intro _ hw'
      obtain ⟨u, rfl⟩ := hw'
      have HU := hid (HB.out.trans (u.bel.mono HB.out.size))
      clear hc hcu HMT
      go_wp2
      exact ⟨⟨j + 1, m + 2, by omega, by go_num, by go_num, hm2, by have := Hm.out; rw [Hid]; omega, HU⟩, by simp [intOf]; omega⟩
    · obtain rfl : j = n := by omega
      go_wp2
      go_ret
      exact ⟨by rw [Hm.out]; rfl, HB.out⟩

set_option maxRecDepth 100000 in
set_option maxHeartbeats 1000000 in
theorem markPlan2 (w : World) (B : Nat) (cd bk : Int) (tx : ByteArray) (p : Option Addr) (n c k : Nat) (f : Nat → Value) (S : Wr w B p (n * 2) f) (hB : B ≤ w.heap.size) (hk : 0 < k) (hb : k + n * 2 ≤ 4194304) :
    Calls Tryz.prog 42 #[plnV cd bk tx p n c, .int .i64 (k : Int)] w fun e w' => e = .returned (.int .i64 ((k + n * 2 : Nat) : Int)) ∧ Wr w' B p (n * 2) (mkO k) ∧ Kept (foot p (n * 2)) w w' := by
  unfold plnV
  have HS := hid S
  clear S
  obtain ⟨wa, hwa, ez, A0, B0⟩ := one_new w [.int .i64 cd, .int .i64 bk, .string tx, .slice p n c] 39
  have k0 := A0.c 0 rfl
  have k1 := A0.c 1 rfl
  have k2 := A0.c 2 rfl
  have k3 := A0.c 3 rfl
  have HB := hid B0
  clear A0 B0 ez
  go_enter Tryz.func42, Tryz.ntmps42
  go_wp2_with fail
  try simp only [hwa]
  clear hwa
  refine (markOutS2 wa B p n c k f (HS.out.below HB.out) hk hb).mono ?_
  rintro e w1 ⟨rfl, W1, K1⟩
  have HW1 := hid W1
  have HK := hid (((Kept.of_below (S := foot p (n * 2)) HB.out).trans K1).mono (fun b _ h => by rcases h with h | h <;> exact h))
  clear W1 K1 k0 k1 k2 k3
  go_wp2
  go_ret
  exact ⟨rfl, HW1.out, HK.out⟩

set_option maxRecDepth 100000 in
set_option maxHeartbeats 1000000 in
theorem heldPlan2 (w : World) (cd bk : Int) (tx : ByteArray) (p : Option Addr) (n c k : Nat) (S : Sl w p (n * 2) (mkO k)) (hk : 0 < k) (hb : k + n * 2 ≤ 4194304) :
    Calls Tryz.prog 46 #[plnV cd bk tx p n c, .int .i64 (k : Int)] w fun e w' => e = .returned (.int .i64 ((k + n * 2 : Nat) : Int)) ∧ Below w.heap.size w w' := by
  unfold plnV
  have HS := hid S
  clear S
  obtain ⟨wa, hwa, ez, A0, B0⟩ := one_new w [.int .i64 cd, .int .i64 bk, .string tx, .slice p n c] 39
  have k0 := A0.c 0 rfl
  have k1 := A0.c 1 rfl
  have k2 := A0.c 2 rfl
  have k3 := A0.c 3 rfl
  have HB := hid B0
  clear A0 B0 ez
  go_enter Tryz.func46, Tryz.ntmps46
  go_wp2_with fail
  try simp only [hwa]
  clear hwa
  refine (heldOutS2 wa p n c k (Sl.below HS.out HB.out) hk hb).mono ?_
  rintro e w1 ⟨rfl, b1⟩
  have HB1 := hid (HB.out.trans (b1.mono HB.out.size))
  have hn : ¬ ((k + n * 2 : Nat) : Int) < 0 := by omega
  generalize hT : k + n * 2 = T at *
  have HT := hid hT
  clear hT b1 k0 k1 k2 k3
  go_wp2
  go_ret
  exact ⟨by first | (rw [HT.out]; done) | (rw [HT.out]; rfl), HB1.out⟩

set_option maxRecDepth 100000 in
set_option maxHeartbeats 1000000 in
theorem markHost2 (w : World) (B : Nat) (H : Ho) (p : Option Addr) (c m : Nat) (f : Nat → Value) (S : Wr w B p (H.l.length * 2) f) (hB : B ≤ w.heap.size) (hk : 0 < m) (hb : m + H.l.length * 2 ≤ 4194304) :
    Calls Tryz.prog 12 #[hoV H p c, .int .i64 (m : Int)] w fun e w' => e = .returned (.int .i64 ((m + H.l.length * 2 : Nat) : Int)) ∧ Wr w' B p (H.l.length * 2) (mkO m) ∧ Kept (foot p (H.l.length * 2)) w w' := by
  obtain ⟨id, ep, up, rd, bz, k, v, t, a, s, pc, cd, bk, tx, l, txn⟩ := H
  have HS : Hid (Wr w B p (l.length * 2) f) := S
  replace hb : m + l.length * 2 ≤ 4194304 := hb
  clear S
  unfold hoV
  try simp only []
  generalize l.length = n at *
  obtain ⟨wa, hwa, ez, A0, B0⟩ := one_new w [.int .i64 id, .int .i64 ep, .bool up, .bool rd, .bool bz, .int .i64 k, .int .i64 v, .int .i64 t, .int .i64 a, .string s, .int .i64 pc, .int .i64 cd, .int .i64 bk, .string tx, .slice p n c, .int .i64 txn] 41
  have k11 := A0.c 11 rfl
  have k12 := A0.c 12 rfl
  have k13 := A0.c 13 rfl
  have k14 := A0.c 14 rfl
  have HB := hid B0
  clear A0 B0 ez
  go_enter Tryz.func12, Tryz.ntmps12
  go_wp2_with fail
  try simp only [hwa]
  clear hwa
  refine (markPlan2 wa B cd bk tx p n c m f (HS.out.below HB.out) (Nat.le_trans hB HB.out.size) hk hb).mono ?_
  rintro e w1 ⟨rfl, W1, K1⟩
  have HW1 := hid W1
  have HK := hid (((Kept.of_below (S := foot p (n * 2)) HB.out).trans K1).mono (fun b _ h => by rcases h with h | h <;> exact h))
  clear W1 K1 k11 k12 k13 k14
  go_wp2
  go_ret
  exact ⟨rfl, HW1.out, HK.out⟩

set_option maxRecDepth 100000 in
set_option maxHeartbeats 1000000 in
theorem heldHost2 (w : World) (H : Ho) (p : Option Addr) (c m : Nat) (S : Sl w p (H.l.length * 2) (mkO m)) (hk : 0 < m) (hb : m + H.l.length * 2 ≤ 4194304) :
    Calls Tryz.prog 14 #[hoV H p c, .int .i64 (m : Int)] w fun e w' => e = .returned (.int .i64 ((m + H.l.length * 2 : Nat) : Int)) ∧ Below w.heap.size w w' := by
  obtain ⟨id, ep, up, rd, bz, k, v, t, a, s, pc, cd, bk, tx, l, txn⟩ := H
  have HS : Hid (Sl w p (l.length * 2) (mkO m)) := S
  replace hb : m + l.length * 2 ≤ 4194304 := hb
  clear S
  unfold hoV
  try simp only []
  generalize l.length = n at *
  obtain ⟨wa, hwa, ez, A0, B0⟩ := one_new w [.int .i64 id, .int .i64 ep, .bool up, .bool rd, .bool bz, .int .i64 k, .int .i64 v, .int .i64 t, .int .i64 a, .string s, .int .i64 pc, .int .i64 cd, .int .i64 bk, .string tx, .slice p n c, .int .i64 txn] 41
  have k11 := A0.c 11 rfl
  have k12 := A0.c 12 rfl
  have k13 := A0.c 13 rfl
  have k14 := A0.c 14 rfl
  have HB := hid B0
  clear A0 B0 ez
  go_enter Tryz.func14, Tryz.ntmps14
  go_wp2_with fail
  try simp only [hwa]
  clear hwa
  refine (heldPlan2 wa cd bk tx p n c m (Sl.below HS.out HB.out) hk hb).mono ?_
  rintro e w1 ⟨rfl, b1⟩
  have HB1 := hid (HB.out.trans (b1.mono HB.out.size))
  have hn : ¬ ((m + n * 2 : Nat) : Int) < 0 := by omega
  generalize hT : m + n * 2 = T at *
  have HT := hid hT
  clear hT b1 k11 k12 k13 k14
  go_wp2
  go_ret
  exact ⟨by first | (rw [HT.out]; done) | (rw [HT.out]; rfl), HB1.out⟩

end Go.Proofs.YtlhnkdogafnnpaaGreat.Pl

namespace Go.Proofs.YtlhnkdogafnnpaaGreat.KHo
open Go.RowKit Go.Proofs.YtlhnkdogafnnpaaGreat.Mem Go.Proofs.YtlhnkdogafnnpaaGreat.Sec Go.Proofs.YtlhnkdogafnnpaaGreat.Rg Go.Proofs.YtlhnkdogafnnpaaGreat.Pl Go.Proofs.YtlhnkdogafnnpaaGreat.Rd
set_option linter.unusedVariables false

def vl (H : Ho) (p : Option Addr) (c : Nat) : List Value := [.int .i64 H.id, .int .i64 H.ep, .bool H.up, .bool H.rd, .bool H.bz, .int .i64 H.k, .int .i64 H.v, .int .i64 H.t, .int .i64 H.a, .string H.s, .int .i64 H.pc, .int .i64 H.cd, .int .i64 H.bk, .string H.tx, .slice p H.l.length c, .int .i64 H.txn]
def R (w : World) (cs : List Value) (H : Ho) : Prop := ∃ p c, cs = vl H p c ∧ Ous w p H.l
def W (w : World) (B : Nat) (cs : List Value) (H : Ho) : Prop := ∃ p c, cs = vl H p c ∧ OusW w B p H.l
def M (w : World) (cs : List Value) (H : Ho) (k : Nat) : Prop := ∃ p c, cs = vl H p c ∧ Sl w p (H.l.length * 2) (mkO k)
def F (cs : List Value) (b : Nat) : Prop := ∃ p n c, cs[14]? = some (.slice p n c) ∧ foot p (n * 2) b
def n (H : Ho) : Nat := H.l.length * 2

theorem F_is {H : Ho} {p : Option Addr} {c b : Nat} : F (vl H p c) b ↔ foot p (H.l.length * 2) b := by
  constructor
  · rintro ⟨p', n', c', e, h⟩
    replace e : some (Value.slice p H.l.length c) = some (.slice p' n' c') := e
    cases e
    exact h
  · intro h
    exact ⟨p, H.l.length, c, rfl, h⟩
theorem W.read {w : World} {B : Nat} {cs : List Value} {H : Ho} (h : W w B cs H) : R w cs H := by obtain ⟨p, c, e, h⟩ := h; exact ⟨p, c, e, Wr.sl h⟩
theorem W.ge {w : World} {B : Nat} {cs : List Value} {H : Ho} (h : W w B cs H) {b : Nat} (hb : F cs b) : B ≤ b := by obtain ⟨p, c, rfl, h⟩ := h; exact Wr.foot_ge h (F_is.1 hb)
theorem W.mono {w : World} {B B' : Nat} {cs : List Value} {H : Ho} (h : W w B cs H) (hb : B' ≤ B) : W w B' cs H := by obtain ⟨p, c, e, h⟩ := h; exact ⟨p, c, e, Wr.mono h hb⟩
theorem R.lt {w : World} {cs : List Value} {H : Ho} (h : R w cs H) {b : Nat} (hb : F cs b) : b < w.heap.size := by obtain ⟨p, c, rfl, h⟩ := h; exact Sl.lt h (F_is.1 hb)
theorem M.lt {w : World} {cs : List Value} {H : Ho} {k : Nat} (h : M w cs H k) {b : Nat} (hb : F cs b) : b < w.heap.size := by obtain ⟨p, c, rfl, h⟩ := h; exact Sl.lt h (F_is.1 hb)
theorem R.kept {S : Nat → Prop} {w w' : World} {cs : List Value} {H : Ho} (h : R w cs H) (k : Kept S w w') (hn : ∀ b, F cs b → ¬ S b) : R w' cs H := by obtain ⟨p, c, rfl, h⟩ := h; exact ⟨p, c, rfl, Sl.move h k (fun b hb => hn b (F_is.2 hb))⟩
theorem W.kept {S : Nat → Prop} {w w' : World} {B : Nat} {cs : List Value} {H : Ho} (h : W w B cs H) (k : Kept S w w') (hn : ∀ b, F cs b → ¬ S b) : W w' B cs H := by obtain ⟨p, c, rfl, h⟩ := h; exact ⟨p, c, rfl, Wr.move h k (fun b hb => hn b (F_is.2 hb))⟩
theorem M.kept {S : Nat → Prop} {w w' : World} {cs : List Value} {H : Ho} {j : Nat} (h : M w cs H j) (k : Kept S w w') (hn : ∀ b, F cs b → ¬ S b) : M w' cs H j := by obtain ⟨p, c, rfl, h⟩ := h; exact ⟨p, c, rfl, Sl.move h k (fun b hb => hn b (F_is.2 hb))⟩
theorem R.below {w w' : World} {cs : List Value} {H : Ho} (h : R w cs H) (k : Below w.heap.size w w') : R w' cs H := h.kept (Kept.of_below (S := fun _ => False) k) (fun _ _ x => x)
theorem W.below {w w' : World} {B : Nat} {cs : List Value} {H : Ho} (h : W w B cs H) (k : Below w.heap.size w w') : W w' B cs H := h.kept (Kept.of_below (S := fun _ => False) k) (fun _ _ x => x)
theorem R.len {w : World} {cs : List Value} {H : Ho} (h : R w cs H) : cs.length = 16 ∧ cs.all (·.oneCell') = true := by obtain ⟨p, c, rfl, _⟩ := h; exact ⟨rfl, rfl⟩

def rd (b : Nat) (cs : List Value) (H : Ho) : LItem := ⟨b, cs, F cs, fun w => R w cs H, fun S w w' h k hn => h.kept k hn, fun w h x hx => h.lt hx⟩
def wr (b : Nat) (cs : List Value) (H : Ho) (B : Nat) : LItem := ⟨b, cs, F cs, fun w => W w B cs H, fun S w w' h k hn => h.kept k hn, fun w h x hx => h.read.lt hx⟩
def mk (b : Nat) (cs : List Value) (H : Ho) (k : Nat) : LItem := ⟨b, cs, F cs, fun w => M w cs H k, fun S w w' h j hn => h.kept j hn, fun w h x hx => h.lt hx⟩

theorem sz (w : World) (cs : List Value) (H : Ho) (left : Int) (h : R w cs H) (hh : H.Upto maxLen) (h0 : 0 ≤ left) (h1 : left ≤ 1048576) :
    Calls Tryz.prog 4 #[.agg cs.toArray, .int .i64 left] w fun e w' => ∃ r, e = .returned (.int .i64 r) ∧ Below w.heap.size w w' ∧ (r < 0 ∨ (0 ≤ r ∧ r ≤ left ∧ H.Upto 1048576)) := by
  obtain ⟨p, c, rfl, S⟩ := h
  exact szHost w H p c left S hh h0 h1
theorem lay (w : World) (cs : List Value) (H : Ho) (h : R w cs H) (hu : H.Upto 1048576) :
    Calls Tryz.prog 7 #[.agg cs.toArray] w fun e w' => ∃ ds, e = .returned (.agg (List.toArray ds)) ∧ W w' w.heap.size ds H ∧ Below w.heap.size w w' := by
  obtain ⟨p, c, rfl, S⟩ := h
  refine (toHost w H p c S hu.l).mono ?_
  rintro e w' ⟨g, rfl, _, _, S1, b⟩
  exact ⟨vl H (some ⟨g, 0, none⟩) H.l.length, rfl, ⟨_, _, rfl, S1⟩, b⟩
theorem eq (w : World) (cs ds : List Value) (H : Ho) (h : R w cs H) (k : R w ds H) (hu : H.Upto 1048576) :
    Calls Tryz.prog 10 #[.agg cs.toArray, .agg ds.toArray] w fun e w' => e = .returned (.bool true) ∧ Below w.heap.size w w' := by
  obtain ⟨p, c, rfl, S⟩ := h
  obtain ⟨q, d, rfl, T⟩ := k
  exact eqHost w H p q c d S T hu.max.l
theorem mark (w : World) (B : Nat) (cs : List Value) (H : Ho) (m : Nat) (h : W w B cs H) (hB : B ≤ w.heap.size) (hk : 0 < m) (hb : m + n H ≤ 4194304) :
    Calls Tryz.prog 12 #[.agg cs.toArray, .int .i64 (m : Int)] w fun e w' => e = .returned (.int .i64 ((m + n H : Nat) : Int)) ∧ M w' cs H m ∧ Kept (F cs) w w' := by
  obtain ⟨p, c, rfl, S⟩ := h
  refine (markHost2 w B H p c m _ S hB hk hb).mono ?_
  rintro e w' ⟨rfl, S1, k⟩
  exact ⟨rfl, ⟨p, c, rfl, S1.sl⟩, k.mono (fun b _ hb => F_is.2 hb)⟩
theorem held (w : World) (cs : List Value) (H : Ho) (m : Nat) (h : M w cs H m) (hk : 0 < m) (hb : m + n H ≤ 4194304) :
    Calls Tryz.prog 14 #[.agg cs.toArray, .int .i64 (m : Int)] w fun e w' => e = .returned (.int .i64 ((m + n H : Nat) : Int)) ∧ Below w.heap.size w w' := by
  obtain ⟨p, c, rfl, S⟩ := h
  exact heldHost2 w H p c m S hk hb
theorem small {H : Ho} (h : H.Upto 1048576) : n H ≤ 2097152 := by have := h.l; unfold n; omega

theorem zI : (Tryz.prog.info? 41).map (·.size) = some 16 := by kernel_rfl
theorem zL : (Tryz.prog.info? 28).map (·.size) = some 16 := by kernel_rfl
theorem cTo (vs : Array Value) (w : World) : (callFunc 7 vs).run Tryz.prog w = .ok (.enter 7 vs) w := by simp [go_sem]
theorem cSz (vs : Array Value) (w : World) : (callFunc 4 vs).run Tryz.prog w = .ok (.enter 4 vs) w := by simp [go_sem]
theorem cEq (vs : Array Value) (w : World) : (callFunc 10 vs).run Tryz.prog w = .ok (.enter 10 vs) w := by simp [go_sem]
theorem cMk (vs : Array Value) (w : World) : (callFunc 12 vs).run Tryz.prog w = .ok (.enter 12 vs) w := by simp [go_sem]
theorem cHd (vs : Array Value) (w : World) : (callFunc 14 vs).run Tryz.prog w = .ok (.enter 14 vs) w := by simp [go_sem]

end Go.Proofs.YtlhnkdogafnnpaaGreat.KHo

namespace Go.Proofs.YtlhnkdogafnnpaaGreat.KDk
open Go.RowKit Go.Proofs.YtlhnkdogafnnpaaGreat.Mem Go.Proofs.YtlhnkdogafnnpaaGreat.Rg Go.Proofs.YtlhnkdogafnnpaaGreat.Pl Classical
set_option linter.unusedVariables false

/-- The disk is of a size that the laws look at, and Go can hold it. -/
def Up (D : Dk) : Prop := D.Held ∧ D.Small 1048576
def R (w : World) (cs : List Value) (D : Dk) : Prop := DkR w (.agg cs.toArray) D
def W (w : World) (B : Nat) (cs : List Value) (D : Dk) : Prop := DkW w B (.agg cs.toArray) D
def M (w : World) (cs : List Value) (D : Dk) (k : Nat) : Prop := Marked w (.agg cs.toArray) D.sec.length D.ep.length D.pe.length k
def F (cs : List Value) (b : Nat) : Prop := DkFoot (.agg cs.toArray) b
def n (D : Dk) : Nat := D.sec.length + D.ep.length + D.pe.length * 4

theorem W.read {w : World} {B : Nat} {cs : List Value} {D : Dk} (h : W w B cs D) : R w cs D := DkW.read h
theorem W.ge {w : World} {B : Nat} {cs : List Value} {D : Dk} (h : W w B cs D) {b : Nat} (hb : F cs b) : B ≤ b := DkW.foot_ge h hb
theorem W.mono {w : World} {B B' : Nat} {cs : List Value} {D : Dk} (h : W w B cs D) (hb : B' ≤ B) : W w B' cs D := by
  obtain ⟨a1, c1, a2, c2, a3, c3, e, s1, s2, s3, d1, d2⟩ := h
  exact ⟨a1, c1, a2, c2, a3, c3, e, Wr.mono s1 hb, Wr.mono s2 hb, Wr.mono s3 hb, d1, d2⟩
theorem R.lt {w : World} {cs : List Value} {D : Dk} (h : R w cs D) {b : Nat} (hb : F cs b) : b < w.heap.size := DkR.foot_lt h hb
theorem M.lt {w : World} {cs : List Value} {D : Dk} {k : Nat} (h : M w cs D k) {b : Nat} (hb : F cs b) : b < w.heap.size := by
  obtain ⟨a1, c1, a2, c2, a3, c3, e0, s1, s2, s3⟩ := h
  obtain ⟨_, _, _, _, _, _, _, _, _, e, hf⟩ := hb
  rw [e0] at e
  cases e
  rcases hf with hf | hf | hf
  · exact Sl.lt s1 hf
  · exact Sl.lt s2 hf
  · exact Sl.lt s3 hf
theorem R.kept {S : Nat → Prop} {w w' : World} {cs : List Value} {D : Dk} (h : R w cs D) (k : Kept S w w') (hn : ∀ b, F cs b → ¬ S b) : R w' cs D := DkR.kept h k hn
theorem W.kept {S : Nat → Prop} {w w' : World} {B : Nat} {cs : List Value} {D : Dk} (h : W w B cs D) (k : Kept S w w') (hn : ∀ b, F cs b → ¬ S b) : W w' B cs D := by
  obtain ⟨a1, c1, a2, c2, a3, c3, e, s1, s2, s3, d1, d2⟩ := h
  exact ⟨a1, c1, a2, c2, a3, c3, e, Wr.move s1 k (fun b hb => hn b ⟨_, _, _, _, _, _, _, _, _, e, .inl hb⟩), Wr.move s2 k (fun b hb => hn b ⟨_, _, _, _, _, _, _, _, _, e, .inr (.inl hb)⟩), Wr.move s3 k (fun b hb => hn b ⟨_, _, _, _, _, _, _, _, _, e, .inr (.inr hb)⟩), d1, d2⟩
theorem M.kept {S : Nat → Prop} {w w' : World} {cs : List Value} {D : Dk} {j : Nat} (h : M w cs D j) (k : Kept S w w') (hn : ∀ b, F cs b → ¬ S b) : M w' cs D j := by
  obtain ⟨a1, c1, a2, c2, a3, c3, e, s1, s2, s3⟩ := h
  exact ⟨a1, c1, a2, c2, a3, c3, e, Sl.move s1 k (fun b hb => hn b ⟨_, _, _, _, _, _, _, _, _, e, .inl hb⟩), Sl.move s2 k (fun b hb => hn b ⟨_, _, _, _, _, _, _, _, _, e, .inr (.inl hb)⟩), Sl.move s3 k (fun b hb => hn b ⟨_, _, _, _, _, _, _, _, _, e, .inr (.inr hb)⟩)⟩
theorem R.below {w w' : World} {cs : List Value} {D : Dk} (h : R w cs D) (k : Below w.heap.size w w') : R w' cs D := h.kept (Kept.of_below (S := fun _ => False) k) (fun _ _ x => x)
theorem W.below {w w' : World} {B : Nat} {cs : List Value} {D : Dk} (h : W w B cs D) (k : Below w.heap.size w w') : W w' B cs D := h.kept (Kept.of_below (S := fun _ => False) k) (fun _ _ x => x)
theorem R.len {w : World} {cs : List Value} {D : Dk} (h : R w cs D) : cs.length = 3 ∧ cs.all (·.oneCell') = true := by
  obtain ⟨a1, c1, a2, c2, a3, c3, e, _⟩ := h
  obtain rfl : cs = [.slice a1 D.sec.length c1, .slice a2 D.ep.length c2, .slice a3 D.pe.length c3] := agg_inj e
  exact ⟨rfl, rfl⟩

def rd (b : Nat) (cs : List Value) (D : Dk) : LItem := ⟨b, cs, F cs, fun w => R w cs D, fun S w w' h k hn => h.kept k hn, fun w h x hx => h.lt hx⟩
def wr (b : Nat) (cs : List Value) (D : Dk) (B : Nat) : LItem := ⟨b, cs, F cs, fun w => W w B cs D, fun S w w' h k hn => h.kept k hn, fun w h x hx => h.read.lt hx⟩
def mk (b : Nat) (cs : List Value) (D : Dk) (k : Nat) : LItem := ⟨b, cs, F cs, fun w => M w cs D k, fun S w w' h j hn => h.kept j hn, fun w h x hx => h.lt hx⟩

theorem sz (w : World) (cs : List Value) (D : Dk) (left : Int) (h : R w cs D) (hh : D.Held) (h0 : 0 ≤ left) (h1 : left ≤ 1048576) :
    Calls Tryz.prog 5 #[.agg cs.toArray, .int .i64 left] w fun e w' => ∃ r, e = .returned (.int .i64 r) ∧ Below w.heap.size w w' ∧ (r < 0 ∨ (0 ≤ r ∧ r ≤ left ∧ Up D)) := by
  refine (szDisk w _ D left h hh h0 h1).mono ?_
  rintro e w' ⟨r, rfl, b, hf⟩
  refine ⟨r, rfl, b, ?_⟩
  rcases hf with h | ⟨h2, h3, h4⟩
  · exact .inl h
  · exact .inr ⟨h2, h3, hh, ⟨by have := h4.h1; omega, by have := h4.h2; omega, by have := h4.h3; omega, fun s hs => by have := h4.t1 s hs; omega, fun x hx => by have := h4.t3 x hx; omega⟩⟩
theorem lay (w : World) (cs : List Value) (D : Dk) (h : R w cs D) (hu : Up D) :
    Calls Tryz.prog 8 #[.agg cs.toArray] w fun e w' => ∃ ds, e = .returned (.agg (List.toArray ds)) ∧ W w' w.heap.size ds D ∧ Below w.heap.size w w' := by
  refine (toDisk w _ D h (by have := hu.2.h1; omega) (by have := hu.2.h2; omega) (by have := hu.2.h3; omega)).mono ?_
  rintro e w' ⟨v', rfl, W1, b⟩
  have h2 := W1
  obtain ⟨a1, c1, a2, c2, a3, c3, rfl, _⟩ := h2
  exact ⟨[.slice a1 D.sec.length c1, .slice a2 D.ep.length c2, .slice a3 D.pe.length c3], rfl, W1, b⟩
theorem eq (w : World) (cs ds : List Value) (D : Dk) (h : R w cs D) (k : R w ds D) (hu : Up D) :
    Calls Tryz.prog 11 #[.agg cs.toArray, .agg ds.toArray] w fun e w' => e = .returned (.bool true) ∧ Below w.heap.size w w' := by
  refine (eqDisk w _ _ D D h k hu.1 hu.1).mono ?_
  rintro e w' ⟨rfl, b⟩
  exact ⟨congrArg Ending.returned (congrArg Value.bool (decide_eq_true rfl)), b⟩
theorem mark (w : World) (B : Nat) (cs : List Value) (D : Dk) (m : Nat) (h : W w B cs D) (hB : B ≤ w.heap.size) (hk : 0 < m) (hb : m + n D ≤ 4611686018427387904) :
    Calls Tryz.prog 13 #[.agg cs.toArray, .int .i64 (m : Int)] w fun e w' => e = .returned (.int .i64 ((m + n D : Nat) : Int)) ∧ M w' cs D m ∧ Kept (F cs) w w' := by
  refine (markDisk w B _ D m h hk (by unfold n at hb; omega)).mono ?_
  rintro e w' ⟨rfl, S1, k⟩
  exact ⟨by unfold n; rw [show m + D.sec.length + D.ep.length + D.pe.length * 4 = m + (D.sec.length + D.ep.length + D.pe.length * 4) by omega], S1, k⟩
theorem held (w : World) (cs : List Value) (D : Dk) (m : Nat) (h : M w cs D m) (hk : 0 < m) (hb : m + n D ≤ 4611686018427387904) :
    Calls Tryz.prog 15 #[.agg cs.toArray, .int .i64 (m : Int)] w fun e w' => e = .returned (.int .i64 ((m + n D : Nat) : Int)) ∧ Below w.heap.size w w' := by
  refine (heldDisk w _ _ _ _ m h hk (by unfold n at hb; omega)).mono ?_
  rintro e w' ⟨rfl, b⟩
  exact ⟨by unfold n; rw [show m + D.sec.length + D.ep.length + D.pe.length * 4 = m + (D.sec.length + D.ep.length + D.pe.length * 4) by omega], b⟩
theorem small {D : Dk} (h : Up D) : n D ≤ 6291456 := by have h1 := h.2.h1; have h2 := h.2.h2; have h3 := h.2.h3; unfold n; omega

theorem zI : (Tryz.prog.info? 44).map (·.size) = some 3 := by kernel_rfl
theorem zL : (Tryz.prog.info? 33).map (·.size) = some 3 := by kernel_rfl
theorem cTo (vs : Array Value) (w : World) : (callFunc 8 vs).run Tryz.prog w = .ok (.enter 8 vs) w := by simp [go_sem]
theorem cSz (vs : Array Value) (w : World) : (callFunc 5 vs).run Tryz.prog w = .ok (.enter 5 vs) w := by simp [go_sem]
theorem cEq (vs : Array Value) (w : World) : (callFunc 11 vs).run Tryz.prog w = .ok (.enter 11 vs) w := by simp [go_sem]
theorem cMk (vs : Array Value) (w : World) : (callFunc 13 vs).run Tryz.prog w = .ok (.enter 13 vs) w := by simp [go_sem]
theorem cHd (vs : Array Value) (w : World) : (callFunc 15 vs).run Tryz.prog w = .ok (.enter 15 vs) w := by simp [go_sem]

end Go.Proofs.YtlhnkdogafnnpaaGreat.KDk

namespace Go.Proofs.YtlhnkdogafnnpaaGreat.Pl
open Go.RowKit Go.Proofs.YtlhnkdogafnnpaaGreat.Mem Go.Proofs.YtlhnkdogafnnpaaGreat.Sec Go.Proofs.YtlhnkdogafnnpaaGreat.Rg
set_option linter.unusedVariables false

theorem others_mem (l : List Wt) (h : Int) : ∀ x ∈ others l h, x ∈ l := fun x hx => (List.mem_filter.1 hx).1

theorem fence_up {D : Dk} (h : Int) (u : KDk.Up D) : KDk.Up (D.fence h).1 := by
  unfold Dk.fence
  split
  · have hl : (others D.pe h).length ≤ D.pe.length := List.length_filter_le _ _
    refine ⟨⟨u.1.h1, by have := u.1.h2; simpa using this, Nat.le_trans hl u.1.h3, u.1.t1, fun x hx => u.1.t3 x (others_mem _ _ x hx)⟩, ⟨u.2.h1, by have := u.2.h2; simpa using this, by have := u.2.h3; show ((others D.pe h).length : Int) ≤ _; omega, u.2.t1, fun x hx => u.2.t3 x (others_mem _ _ x hx)⟩⟩
  · exact u

theorem risen_upto (i e : Int) : (Ho.risen i e).Upto 1048576 := ⟨by simp [Ho.risen, ByteArray.size], by simp [Ho.risen, ByteArray.size], by simp [Ho.risen], fun x hx => by simp [Ho.risen] at hx⟩

theorem rise_upto {H : Ho} {D : Dk} (hu : H.Upto 1048576) (hd : KDk.Up D) : (riseA H D).1.Upto 1048576 ∧ KDk.Up (riseA H D).2.1 := by
  unfold riseA
  split
  · unfold riseD
    split
    · exact ⟨hu, hd⟩
    · split
      · exact ⟨risen_upto _ _, fence_up _ hd⟩
      · exact ⟨hu, hd⟩
  · exact ⟨⟨by decide, by decide, by decide, fun x hx => (by cases hx)⟩, ⟨⟨by decide, by decide, by decide, fun x hx => (by cases hx), fun x hx => (by cases hx)⟩, ⟨by decide, by decide, by decide, fun x hx => (by cases hx), fun x hx => (by cases hx)⟩⟩⟩

/-- What the law counts on. -/
def KitRises (w w' : World) (X : Ho × Dk × Bool) (e : Ending) : Prop := ∃ ds0 ds1, e = .returned (.tuple #[.agg (List.toArray ds0), .agg (List.toArray ds1), .bool X.2.2]) ∧ KHo.W w' w.heap.size ds0 X.1 ∧ KDk.W w' w.heap.size ds1 X.2.1 ∧ (∀ x, KHo.F ds0 x → ¬ KDk.F ds1 x) ∧ Below w.heap.size w w'

theorem kitRises {w w' : World} {X : Ho × Dk × Bool} {e : Ending} (h : RisesTo w w' X e) : KitRises w w' X e := by
  obtain ⟨p', c', v', rfl, W1, W2, hs, b⟩ := h
  have h2 := W2
  obtain ⟨a1, c1, a2, c2, a3, c3, rfl, _⟩ := h2
  exact ⟨KHo.vl X.1 p' c', [.slice a1 X.2.1.sec.length c1, .slice a2 X.2.1.ep.length c2, .slice a3 X.2.1.pe.length c3], rfl, ⟨p', c', rfl, W1⟩, W2, fun x h => hs x (KHo.F_is.1 h), b⟩

theorem kitSpecRise (w : World) (cs0 : List Value) (H : Ho) (cs1 : List Value) (D : Dk) (h0 : KHo.R w cs0 H) (hu : H.Upto 1048576) (h1 : KDk.R w cs1 D) (hd : KDk.Up D) :
    Calls Tryz.prog 6 #[.agg cs0.toArray, .agg cs1.toArray] w fun e w' => KitRises w w' (riseA H D) e := by
  obtain ⟨p, c, rfl, S⟩ := h0
  exact (specHostRise w H p c _ D S hu h1 hd.1 hd.2).mono (fun e w' h => kitRises h)
theorem kitImplRise (w : World) (cs0 : List Value) (H : Ho) (cs1 : List Value) (D : Dk) (h0 : KHo.R w cs0 H) (hu : H.Upto 1048576) (h1 : KDk.R w cs1 D) (hd : KDk.Up D) :
    Calls Tryz.prog 9 #[.agg cs0.toArray, .agg cs1.toArray] w fun e w' => KitRises w w' (riseA H D) e := by
  obtain ⟨p, c, rfl, S⟩ := h0
  exact (implHostRise w H p c _ D S hu h1 hd.1 hd.2).mono (fun e w' h => kitRises h)

end Go.Proofs.YtlhnkdogafnnpaaGreat.Pl
