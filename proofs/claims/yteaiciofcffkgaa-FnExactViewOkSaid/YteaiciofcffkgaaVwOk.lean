/-
  The walks of spec.ViewOk and impl.ViewOk: which views are right. No condition but lists of at most 2^20.
-/
import Derived.Test.YteaiciofcffkgaaVw
namespace Go.Proofs.Yteaiciofcffkgaa.Pl
open Go.RowKit Go.Proofs.Yteaiciofcffkgaa.Mem Go.Proofs.Yteaiciofcffkgaa.Sec
set_option linter.unusedVariables false

def Vs.ok (x : Vs) : Bool := volOk x.h x.e x.on x.l
def Gs.ok (x : Gs) : Bool := groupOk x.h x.e x.l

/-- Is a view right. -/
def Vw.ok (V : Vw) : Bool := (lsOk V.h V.e && decide (0 ≤ V.h)) && (decide (V.vs.length = 4) && (decide (V.gs.length = 3) && (freesOk V.fs && (V.vs.all Vs.ok && V.gs.all Gs.ok))))

theorem all_vs {L M : List Vs} (h : L.map Vs.data = M.map Vs.data) : L.all Vs.ok = M.all Vs.ok := by
  have e : ∀ L : List Vs, L.all Vs.ok = (L.map Vs.data).all (fun d => volOk d.1 d.2.1 d.2.2.1 d.2.2.2) := fun L => by rw [List.all_map]; rfl
  rw [e, e, h]
theorem all_gs {L M : List Gs} (h : L.map Gs.data = M.map Gs.data) : L.all Gs.ok = M.all Gs.ok := by
  have e : ∀ L : List Gs, L.all Gs.ok = (L.map Gs.data).all (fun d => groupOk d.1 d.2.1 d.2.2) := fun L => by rw [List.all_map]; rfl
  rw [e, e, h]

theorem Vw.Same.ok {V U : Vw} (h : V.Same U) : V.ok = U.ok := by
  have h1 : V.vs.length = U.vs.length := by have := congrArg List.length h.vs; simpa using this
  have h2 : V.gs.length = U.gs.length := by have := congrArg List.length h.gs; simpa using this
  unfold Vw.ok
  rw [h.h, h.e, h1, h2, h.fs, all_vs h.vs, all_gs h.gs]

theorem all_take_s {X : Type} (f : X → Bool) (d : X) (L : List X) (k : Nat) (hk : k < L.length) (h : (L.take k).all f = true) (h1 : f (L.getD k d) = true) : (L.take (k + 1)).all f = true := by
  rw [List.take_add_one, List.all_append, h, List.getElem?_eq_getElem hk]
  rw [List.getD, List.getElem?_eq_getElem hk] at h1
  simpa using h1
theorem all_no {X : Type} (f : X → Bool) (d : X) (L : List X) (k : Nat) (hk : k < L.length) (h1 : f (L.getD k d) = false) : L.all f = false := by
  rw [List.all_eq_false]
  rw [List.getD, List.getElem?_eq_getElem hk] at h1
  exact ⟨L[k], List.getElem_mem hk, by simpa using h1⟩

theorem vw_no1 {V : Vw} (h : lsOk V.h V.e = false) : V.ok = false := by unfold Vw.ok; rw [h]; rfl
theorem vw_no2 {V : Vw} (h : V.h < 0) : V.ok = false := by unfold Vw.ok; rw [decide_eq_false (show ¬ 0 ≤ V.h by omega), Bool.and_false]; rfl
theorem vw_no3 {V : Vw} (h : ¬ V.vs.length = 4) : V.ok = false := by unfold Vw.ok; rw [decide_eq_false h, Bool.false_and, Bool.and_false]
theorem vw_no4 {V : Vw} (h : ¬ V.gs.length = 3) : V.ok = false := by unfold Vw.ok; rw [decide_eq_false h, Bool.false_and, Bool.and_false, Bool.and_false]
theorem vw_no5 {V : Vw} (h : freesOk V.fs = false) : V.ok = false := by unfold Vw.ok; rw [h, Bool.false_and, Bool.and_false, Bool.and_false, Bool.and_false]
theorem vw_no6 {V : Vw} (h : V.vs.all Vs.ok = false) : V.ok = false := by unfold Vw.ok; rw [h, Bool.false_and, Bool.and_false, Bool.and_false, Bool.and_false, Bool.and_false]
theorem vw_no7 {V : Vw} (h : V.gs.all Gs.ok = false) : V.ok = false := by unfold Vw.ok; rw [h, Bool.and_false, Bool.and_false, Bool.and_false, Bool.and_false, Bool.and_false]
theorem vw_yes {V : Vw} (h1 : lsOk V.h V.e = true) (h2 : ¬ V.h < 0) (h3 : V.vs.length = 4) (h4 : V.gs.length = 3) (h5 : freesOk V.fs = true) (h6 : V.vs.all Vs.ok = true) (h7 : V.gs.all Gs.ok = true) : V.ok = true := by
  unfold Vw.ok; rw [h1, decide_eq_true (show 0 ≤ V.h by omega), decide_eq_true h3, decide_eq_true h4, h5, h6, h7]; rfl

set_option maxRecDepth 100000 in
set_option maxHeartbeats 2000000 in
theorem sViewOk (w : World) (V : Vw) (S : VwR w V) (hh : V.Upto 1048576) :
    Calls Try.prog 10 #[vwV V] w fun r w' => r = .returned (.bool V.ok) ∧ Below w.heap.size w w' := by
  obtain ⟨vh, ve, va, vc, vs, ga, gc, gs, fa, fc, fs⟩ := V
  have HV : Hid (vwV ⟨vh, ve, va, vc, vs, ga, gc, gs, fa, fc, fs⟩ = .agg #[.int .i64 vh, .int .i64 ve, .slice va vs.length vc, .slice ga gs.length gc, .slice fa fs.length fc]) := rfl
  rw [HV.out]
  have HS := hid S
  have HH := hid hh
  have hvl : vs.length ≤ 1048576 := hh.vl
  have hgl : gs.length ≤ 1048576 := hh.gl
  clear S hh HV
  have N1 := hid (@vw_no1 ⟨vh, ve, va, vc, vs, ga, gc, gs, fa, fc, fs⟩)
  have N2 := hid (@vw_no2 ⟨vh, ve, va, vc, vs, ga, gc, gs, fa, fc, fs⟩)
  have N3 := hid (@vw_no3 ⟨vh, ve, va, vc, vs, ga, gc, gs, fa, fc, fs⟩)
  have N4 := hid (@vw_no4 ⟨vh, ve, va, vc, vs, ga, gc, gs, fa, fc, fs⟩)
  have N5 := hid (@vw_no5 ⟨vh, ve, va, vc, vs, ga, gc, gs, fa, fc, fs⟩)
  have N6 := hid (@vw_no6 ⟨vh, ve, va, vc, vs, ga, gc, gs, fa, fc, fs⟩)
  have N7 := hid (@vw_no7 ⟨vh, ve, va, vc, vs, ga, gc, gs, fa, fc, fs⟩)
  have NY := hid (@vw_yes ⟨vh, ve, va, vc, vs, ga, gc, gs, fa, fc, fs⟩)
  generalize Vw.ok ⟨vh, ve, va, vc, vs, ga, gc, gs, fa, fc, fs⟩ = q at *
  simp only [] at N1 N2 N3 N4 N5 N6 N7 NY
  obtain ⟨wa, hwa, ez, A0, B0⟩ := one_new w [.int .i64 vh, .int .i64 ve, .slice va vs.length vc, .slice ga gs.length gc, .slice fa fs.length fc] 42
  have HA := hid A0
  have HB := hid B0
  clear A0 B0
  have k0 := HA.out.c 0 rfl
  have k1 := HA.out.c 1 rfl
  go_enter Try.func10, Try.ntmps10
  go_wp2_with fail
  refine (l4Lease vh ve _).mono ?_
  rintro r w1 ⟨rfl, b1⟩
  have HA1 := hid (HA.out.below b1 HA.out.lt)
  have HB1 := hid (HB.out.trans (b1.mono HB.out.size))
  clear b1 hwa k0 k1 HA
  have k0 := HA1.out.c 0 rfl
  have k2 := HA1.out.c 2 rfl
  have k3 := HA1.out.c 3 rfl
  have k4 := HA1.out.c 4 rfl
  cases hz : lsOk vh ve with
  | false =>
    have HQ := hid (N1.out hz)
    clear hz N1 N2 N3 N4 N5 N6 N7 NY
    go_wp2
    go_ret
    exact ⟨by rw [HQ.out]; rfl, HB1.out⟩
  | true =>
    have HZ := hid hz
    clear hz N1
    by_cases hn : vh < 0
    · have HQ := hid (N2.out hn)
      clear N2 N3 N4 N5 N6 N7 NY
      go_wp2
      go_ret
      exact ⟨by rw [HQ.out]; rfl, HB1.out⟩
    clear N2
    by_cases h4 : vs.length = 4
    · have b4 : ((vs.length : Int) != 4) = false := by simp; omega
      have H4 := hid h4
      clear h4 N3
      by_cases h3 : gs.length = 3
      · have b3 : ((gs.length : Int) != 3) = false := by simp; omega
        have H3 := hid h3
        clear h3 N4
        go_wp2_with fail
        refine (l4FreesOk w1 fa fc fs (Sl.below HS.out.frees HB1.out) HH.out.fl).mono ?_
        rintro r w2 ⟨rfl, b2⟩
        obtain rfl := b2.symm
        have HA2 := HA1
        have HB2 := HB1
        clear b2 k0 k2 k3 k4
        cases hf : freesOk fs with
        | false =>
          have HQ := hid (N5.out hf)
          clear hf N5 N6 N7 NY
          go_wp2
          go_ret
          exact ⟨by rw [HQ.out]; rfl, HB2.out⟩
        | true =>
          have HF := hid hf
          clear hf N5
          go_wp2
          go_loopw [3] (fun i wr => ∃ k : Nat, k ≤ vs.length ∧ i = .int .i64 (k : Int) ∧ Hid ((vs.take k).all Vs.ok = true) ∧ Hid (Below w1.heap.size w1 wr)) (fun i _ => vs.length - (intOf i).toNat)
          case atStart => exact ⟨0, Nat.zero_le _, rfl, rfl, Below.refl _ _⟩
          case round =>
            obtain ⟨k, hk, rfl, HK, HBr⟩ := hrel
            have HAr := hid (HA2.out.below HBr.out HA2.out.lt)
            have HBw := hid (HB2.out.trans (HBr.out.mono HB2.out.size))
            have p2 := HAr.out.c 2 rfl
            by_cases hlt : k < vs.length
            · obtain ⟨b, off, rfl, c0, c1, c2, c3, i1⟩ := Vols.at_ (HS.out.vols.below HBw.out) k hlt
              have hx : (vs.getD k Vs.none).l.length ≤ 1048576 := HH.out.ve _ (by simp [List.getD, hlt])
              have HT := hid (all_take_s Vs.ok Vs.none vs k hlt HK.out)
              have HN := hid (all_no Vs.ok Vs.none vs k hlt)
              generalize vs.getD k Vs.none = x at c0 c1 c2 c3 i1 hx HT HN
              obtain ⟨xh, xe, xon, xa, xc, xl⟩ := x
              simp only [] at c0 c1 c2 c3 i1 hx
              have HI := hid i1
              clear i1
              go_wp2_with fail
              refine (l4VolOk wr xh xe xon xa xc xl HI.out hx).mono ?_
              rintro r w3 ⟨rfl, b3'⟩
              have HB3 := hid (HBr.out.trans (b3'.mono HBr.out.size))
              have HB3w := hid (HBw.out.trans (b3'.mono HBw.out.size))
              have HO : Hid (Vs.ok ⟨xh, xe, xon, xa, xc, xl⟩ = volOk xh xe xon xl) := rfl
              clear b3' c0 c1 c2 c3 hx p2 HI
              cases ho : volOk xh xe xon xl with
              | false =>
                have HQ := hid (N6.out (HN.out (HO.out.trans ho)))
                clear ho N6 N7 NY HT HN HO
                go_wp2
                go_ret
                exact ⟨by rw [HQ.out]; rfl, HB3w.out⟩
              | true =>
                have HT1 := hid (HT.out (HO.out.trans ho))
                clear ho HT HN HO
                go_wp2
                exact ⟨⟨k + 1, by omega, by go_num, HT1, HB3⟩, by simp [intOf]; omega⟩
            · obtain rfl : k = vs.length := by omega
              have HV : Hid (vs.all Vs.ok = true) := by have := HK.out; rwa [List.take_length] at this
              clear HK N6 hk
              obtain ⟨wo, hwo⟩ : ∃ wo, wo = wr := ⟨_, rfl⟩
              subst hwo
              go_wp2
              go_loopw [4] (fun i wr => ∃ k : Nat, k ≤ gs.length ∧ i = .int .i64 (k : Int) ∧ Hid ((gs.take k).all Gs.ok = true) ∧ Hid (Below wo.heap.size wo wr)) (fun i _ => gs.length - (intOf i).toNat)
              case atStart => exact ⟨0, Nat.zero_le _, rfl, rfl, Below.refl _ _⟩
              case round =>
                obtain ⟨k, hk, rfl, HK, HBs⟩ := hrel
                have HAs := hid (HAr.out.below HBs.out HAr.out.lt)
                have HBw2 := hid (HBw.out.trans (HBs.out.mono HBw.out.size))
                clear p2
                have p3 := HAs.out.c 3 rfl
                by_cases hlt : k < gs.length
                · obtain ⟨b, off, rfl, c0, c1, c2, i1⟩ := Grps.at_ (HS.out.grps.below HBw2.out) k hlt
                  have hx : (gs.getD k Gs.none).l.length ≤ 1048576 := HH.out.ge _ (by simp [List.getD, hlt])
                  have HT := hid (all_take_s Gs.ok Gs.none gs k hlt HK.out)
                  have HN := hid (all_no Gs.ok Gs.none gs k hlt)
                  generalize gs.getD k Gs.none = x at c0 c1 c2 i1 hx HT HN
                  obtain ⟨xh, xe, xa, xc, xl⟩ := x
                  simp only [] at c0 c1 c2 i1 hx
                  have HI := hid i1
                  clear i1
                  go_wp2_with fail
                  refine (l4GroupOk wr xh xe xa xc xl HI.out hx).mono ?_
                  rintro r w3 ⟨rfl, b3'⟩
                  have HB3 := hid (HBs.out.trans (b3'.mono HBs.out.size))
                  have HB3w := hid (HBw2.out.trans (b3'.mono HBw2.out.size))
                  have HO : Hid (Gs.ok ⟨xh, xe, xa, xc, xl⟩ = groupOk xh xe xl) := rfl
                  clear b3' c0 c1 c2 hx p3 HI
                  cases ho : groupOk xh xe xl with
                  | false =>
                    have HQ := hid (N7.out (HN.out (HO.out.trans ho)))
                    clear ho N7 NY HT HN HO
                    go_wp2
                    go_ret
                    exact ⟨by rw [HQ.out]; rfl, HB3w.out⟩
                  | true =>
                    have HT1 := hid (HT.out (HO.out.trans ho))
                    clear ho HT HN HO
                    go_wp2
                    exact ⟨⟨k + 1, by omega, by go_num, HT1, HB3⟩, by simp [intOf]; omega⟩
                · obtain rfl : k = gs.length := by omega
                  have HG : Hid (gs.all Gs.ok = true) := by have := HK.out; rwa [List.take_length] at this
                  have HQ := hid (NY.out HZ.out hn H4.out H3.out HF.out HV.out HG.out)
                  clear NY N7 HK
                  go_wp2
                  go_ret
                  exact ⟨by rw [HQ.out]; rfl, HBw2.out⟩
      · have b3 : ((gs.length : Int) != 3) = true := by simp; omega
        have HQ := hid (N4.out h3)
        clear h3 N4 N5 N6 N7 NY
        go_wp2
        go_ret
        exact ⟨by rw [HQ.out]; rfl, HB1.out⟩
    · have b4 : ((vs.length : Int) != 4) = true := by simp; omega
      have HQ := hid (N3.out h4)
      clear h4 N3 N4 N5 N6 N7 NY
      go_wp2
      go_ret
      exact ⟨by rw [HQ.out]; rfl, HB1.out⟩

end Go.Proofs.Yteaiciofcffkgaa.Pl
