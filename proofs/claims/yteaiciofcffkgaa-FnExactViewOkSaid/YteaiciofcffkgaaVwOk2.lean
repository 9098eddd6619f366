/-
  The walk of impl.ViewOk: which views are right. No condition but lists of at most 2^20.
-/
import Derived.Test.YteaiciofcffkgaaVwOk
namespace Go.Proofs.Yteaiciofcffkgaa.Pl
open Go.RowKit Go.Proofs.Yteaiciofcffkgaa.Mem Go.Proofs.Yteaiciofcffkgaa.Sec
set_option linter.unusedVariables false

theorem ls_neg {h e : Int} (x : lsOk h e = true) (hn : h < 0) : h = -1 ∧ e = 0 := by
  unfold lsOk at x
  have := of_decide_eq_true x
  omega

set_option maxRecDepth 100000 in
set_option maxHeartbeats 4000000 in
theorem iViewOk (w : World) (V : Vw) (S : VwR w V) (hh : V.Upto 1048576) :
    Calls Try.prog 12 #[vwV V] w fun r w' => r = .returned (.bool V.ok) ∧ Below w.heap.size w w' := by
  obtain ⟨vh, ve, va, vc, vs, ga, gc, gs, fa, fc, fs⟩ := V
  have HV : Hid (vwV ⟨vh, ve, va, vc, vs, ga, gc, gs, fa, fc, fs⟩ = .agg #[.int .i64 vh, .int .i64 ve, .slice va vs.length vc, .slice ga gs.length gc, .slice fa fs.length fc]) := rfl
  rw [HV.out]
  have HS := hid S
  have HH := hid hh
  have hvl : vs.length ≤ 1048576 := hh.vl
  have hgl : gs.length ≤ 1048576 := hh.gl
  clear S hh HV
  have N1 := hid (@vw_no1 ⟨vh, ve, va, vc, vs, ga, gc, gs, fa, fc, fs⟩)
  have N2 := hid (@vw_no2 ⟨vh, ve, va, vc, vs, ga, gc, gs, fa, fc, fs⟩)
  have N3 := hid (@vw_no3 ⟨vh, ve, va, vc, vs, ga, gc, gs, fa, fc, fs⟩)
  have N4 := hid (@vw_no4 ⟨vh, ve, va, vc, vs, ga, gc, gs, fa, fc, fs⟩)
  have N5 := hid (@vw_no5 ⟨vh, ve, va, vc, vs, ga, gc, gs, fa, fc, fs⟩)
  have N6 := hid (@vw_no6 ⟨vh, ve, va, vc, vs, ga, gc, gs, fa, fc, fs⟩)
  have N7 := hid (@vw_no7 ⟨vh, ve, va, vc, vs, ga, gc, gs, fa, fc, fs⟩)
  have NY := hid (@vw_yes ⟨vh, ve, va, vc, vs, ga, gc, gs, fa, fc, fs⟩)
  generalize Vw.ok ⟨vh, ve, va, vc, vs, ga, gc, gs, fa, fc, fs⟩ = q at *
  simp only [] at N1 N2 N3 N4 N5 N6 N7 NY
  obtain ⟨wa, hwa, ez, A0, B0⟩ := one_new w [.int .i64 vh, .int .i64 ve, .slice va vs.length vc, .slice ga gs.length gc, .slice fa fs.length fc] 42
  have HA := hid A0
  have HB := hid B0
  clear A0 B0
  have k0 := BW.cell (HA.out.c 0 rfl)
  have k1 := BW.cell (HA.out.c 1 rfl)
  have k2 := BW.cell (HA.out.c 2 rfl)
  have k3 := BW.cell (HA.out.c 3 rfl)
  have hne : Nonempty (BW wa) := ⟨⟨wa, Below.refl _ _⟩⟩
  have hgd := guardLs
  go_enter Try.func12, Try.ntmps12
  go_wp2
  cases hz : lsOk vh ve with
  | false =>
    have HQ := hid (N1.out hz)
    clear N1 N2 N3 N4 N5 N6 N7 NY
    refine wp_region_bw (by kernel_rfl) (by kernel_rfl) ?_
    repeat (go_big_quiet_step (first
      | (go_at_call 30; refine bw_below (v := .bool false) (hz ▸ isLease vh ve _))
      | (go_at_call 31; refine bw_below (v := .agg #[.int .i64 (-1), .int .i64 0]) (nobody _))))
    refine wpQuiet_nil ?_
    intro w3 hw'
    obtain ⟨u, hu⟩ := hw'
    have b3 := u.bel
    rw [← hu] at b3
    have HU := hid (HB.out.trans (b3.mono HB.out.size))
    clear k0 k1 k2 k3 hwa hne hu b3 u hz
    go_wp2
    go_ret
    exact ⟨by rw [HQ.out]; rfl, HU.out⟩
  | true =>
    have HZ := hid hz
    clear N1
    by_cases hn : vh < 0
    · have HQ := hid (N2.out hn)
      have heq := eql_nobody vh ve (ls_neg hz hn)
      clear N2 N3 N4 N5 N6 N7 NY hn
      refine wp_region_bw (by kernel_rfl) (by kernel_rfl) ?_
      repeat (go_big_quiet_step (first
        | (go_at_call 30; refine bw_below (v := .bool true) (hz ▸ isLease vh ve _))
        | (go_at_call 31; refine bw_below (v := .agg #[.int .i64 (-1), .int .i64 0]) (nobody _))))
      refine wpQuiet_nil ?_
      intro w3 hw'
      obtain ⟨u, hu⟩ := hw'
      have b3 := u.bel
      rw [← hu] at b3
      have HU := hid (HB.out.trans (b3.mono HB.out.size))
      clear k0 k1 k2 k3 hwa hne hu b3 u hz heq
      go_wp2
      go_ret
      exact ⟨by rw [HQ.out]; rfl, HU.out⟩
    have heq := eql_some vh ve (fun h => by omega)
    clear N2
    by_cases h4 : vs.length = 4
    · have b4 : ((vs.length : Int) != 4) = false := by simp; omega
      have H4 := hid h4
      clear h4 N3
      by_cases h3 : gs.length = 3
      · have b3' : ((gs.length : Int) != 3) = false := by simp; omega
        have H3 := hid h3
        clear h3 N4
        refine wp_region_bw (by kernel_rfl) (by kernel_rfl) ?_
        repeat (go_big_quiet_step (first
          | (go_at_call 30; refine bw_below (v := .bool true) (hz ▸ isLease vh ve _))
          | (go_at_call 31; refine bw_below (v := .agg #[.int .i64 (-1), .int .i64 0]) (nobody _))))
        refine wpQuiet_nil ?_
        intro w3 hw'
        obtain ⟨u, hu⟩ := hw'
        have b3 := u.bel
        rw [← hu] at b3
        have HU := hid (HB.out.trans (b3.mono HB.out.size))
        have HA3 := hid (HA.out.below b3 HA.out.lt)
        clear k0 k1 k2 k3 hwa hne hu b3 u hz heq HA
        have p2 := HA3.out.c 2 rfl
        go_wp2
        go_loopw [32] (fun i wr => ∃ k : Nat, k ≤ vs.length ∧ i = .int .i64 (k : Int) ∧ Hid ((vs.take k).all Vs.ok = true) ∧ Hid (Below w3.heap.size w3 wr)) (fun i _ => vs.length - (intOf i).toNat)
        case atStart => exact ⟨0, Nat.zero_le _, rfl, rfl, Below.refl _ _⟩
        case round =>
          obtain ⟨k, hk, rfl, HK, HBr1⟩ := hrel
          have HAr1 := hid (HA3.out.below HBr1.out HA3.out.lt)
          have HBw1 := hid (HU.out.trans (HBr1.out.mono HU.out.size))
          by_cases hlt : k < vs.length
          · obtain ⟨b, off, rfl, c0, c1, c2, c3, i1⟩ := Vols.at_ (HS.out.vols.below HBw1.out) k hlt
            have hx : (vs.getD k Vs.none).l.length ≤ 1048576 := HH.out.ve _ (by simp [List.getD, hlt])
            have HT := hid (all_take_s Vs.ok Vs.none vs k hlt HK.out)
            have HN := hid (all_no Vs.ok Vs.none vs k hlt)
            generalize vs.getD k Vs.none = x at c0 c1 c2 c3 i1 hx HT HN
            obtain ⟨xh, xe, xon, xa, xc, xl⟩ := x
            simp only [] at c0 c1 c2 c3 i1 hx
            have HI := hid i1
            obtain ⟨wb, hwb, eb, X0, Bb⟩ := one_new wr [.int .i64 xh, .int .i64 xe, .bool xon, .slice xa xl.length xc] 57
            have HXb := hid X0
            have HBb := hid Bb
            clear i1 X0 Bb
            have y0 := HXb.out.c 0 rfl
            have y1 := HXb.out.c 1 rfl
            have y2 := HXb.out.c 2 rfl
            have y3 := HXb.out.c 3 rfl
            go_wp2_with fail
            refine (isVol wb xh xe xon xa xc xl (Sl.below HI.out HBb.out) hx).mono ?_
            rintro r w4 ⟨rfl, b4'⟩
            have HB4 := hid (HBr1.out.trans ((HBb.out.trans (b4'.mono HBb.out.size)).mono HBr1.out.size))
            have HB4w := hid (HBw1.out.trans ((HBb.out.trans (b4'.mono HBb.out.size)).mono HBw1.out.size))
            have HO : Hid (Vs.ok ⟨xh, xe, xon, xa, xc, xl⟩ = volOk xh xe xon xl) := rfl
            clear b4' c0 c1 c2 c3 hx HI hwb eb HXb HBb y0 y1 y2 y3
            cases ho : volOk xh xe xon xl with
            | false =>
              have HQ := hid (N6.out (HN.out (HO.out.trans ho)))
              clear ho N5 N6 N7 NY HT HN HO
              go_wp2
              go_ret
              exact ⟨by rw [HQ.out]; rfl, HB4w.out⟩
            | true =>
              have HT1 := hid (HT.out (HO.out.trans ho))
              clear ho HT HN HO
              go_wp2
              exact ⟨⟨k + 1, by omega, by go_num, HT1, HB4⟩, by simp [intOf]; omega⟩
          · obtain rfl : k = vs.length := by omega
            have HVs : Hid (vs.all Vs.ok = true) := by have := HK.out; rwa [List.take_length] at this
            clear HK
            obtain ⟨wo, hwo⟩ : ∃ wo, wo = wr := ⟨_, rfl⟩
            subst hwo
            have p3 := HAr1.out.c 3 rfl
            clear p2 N6 hk
            go_wp2
            go_loopw [43] (fun i wr => ∃ k : Nat, k ≤ gs.length ∧ i = .int .i64 (k : Int) ∧ Hid ((gs.take k).all Gs.ok = true) ∧ Hid (Below wo.heap.size wo wr)) (fun i _ => gs.length - (intOf i).toNat)
            case atStart => exact ⟨0, Nat.zero_le _, rfl, rfl, Below.refl _ _⟩
            case round =>
              obtain ⟨k, hk, rfl, HK, HBr2⟩ := hrel
              have HAr2 := hid (HAr1.out.below HBr2.out HAr1.out.lt)
              have HBw2 := hid (HBw1.out.trans (HBr2.out.mono HBw1.out.size))
              by_cases hlt : k < gs.length
              · obtain ⟨b, off, rfl, c0, c1, c2, i1⟩ := Grps.at_ (HS.out.grps.below HBw2.out) k hlt
                have hx : (gs.getD k Gs.none).l.length ≤ 1048576 := HH.out.ge _ (by simp [List.getD, hlt])
                have HT := hid (all_take_s Gs.ok Gs.none gs k hlt HK.out)
                have HN := hid (all_no Gs.ok Gs.none gs k hlt)
                generalize gs.getD k Gs.none = x at c0 c1 c2 i1 hx HT HN
                obtain ⟨xh, xe, xa, xc, xl⟩ := x
                simp only [] at c0 c1 c2 i1 hx
                have HI := hid i1
                obtain ⟨wb, hwb, eb, X0, Bb⟩ := one_new wr [.int .i64 xh, .int .i64 xe, .slice xa xl.length xc] 60
                have HXb := hid X0
                have HBb := hid Bb
                clear i1 X0 Bb
                have y0 := HXb.out.c 0 rfl
                have y1 := HXb.out.c 1 rfl
                have y2 := HXb.out.c 2 rfl
                go_wp2_with fail
                refine (isGroup wb xh xe xa xc xl (Sl.below HI.out HBb.out) hx).mono ?_
                rintro r w4 ⟨rfl, b4'⟩
                have HB4 := hid (HBr2.out.trans ((HBb.out.trans (b4'.mono HBb.out.size)).mono HBr2.out.size))
                have HB4w := hid (HBw2.out.trans ((HBb.out.trans (b4'.mono HBb.out.size)).mono HBw2.out.size))
                have HO : Hid (Gs.ok ⟨xh, xe, xa, xc, xl⟩ = groupOk xh xe xl) := rfl
                clear b4' c0 c1 c2 hx HI hwb eb HXb HBb y0 y1 y2
                cases ho : groupOk xh xe xl with
                | false =>
                  have HQ := hid (N7.out (HN.out (HO.out.trans ho)))
                  clear ho N5 N7 NY HT HN HO p3
                  go_wp2
                  go_ret
                  exact ⟨by rw [HQ.out]; rfl, HB4w.out⟩
                | true =>
                  have HT1 := hid (HT.out (HO.out.trans ho))
                  clear ho HT HN HO
                  go_wp2
                  exact ⟨⟨k + 1, by omega, by go_num, HT1, HB4⟩, by simp [intOf]; omega⟩
              · obtain rfl : k = gs.length := by omega
                have HGs : Hid (gs.all Gs.ok = true) := by have := HK.out; rwa [List.take_length] at this
                clear HK
                have p4 := HAr2.out.c 4 rfl
                clear p3
                go_wp2_with fail
                refine (areFrees wr fa fc fs (Sl.below HS.out.frees HBw2.out) HH.out.fl).mono ?_
                rintro r w5 ⟨rfl, hw5⟩
                obtain rfl := hw5.symm
                have HQ : Hid (q = freesOk fs) := by
                  cases hf : freesOk fs with
                  | false => exact N5.out hf
                  | true => exact NY.out HZ.out hn H4.out H3.out hf HVs.out HGs.out
                generalize freesOk fs = z at *
                clear N5 NY
                go_wp2
                go_ret
                exact ⟨by rw [HQ.out]; rfl, HBw2.out⟩
      · have b3' : ((gs.length : Int) != 3) = true := by simp; omega
        have HQ := hid (N4.out h3)
        clear h3 N4 N5 N6 N7 NY
        refine wp_region_bw (by kernel_rfl) (by kernel_rfl) ?_
        repeat (go_big_quiet_step (first
          | (go_at_call 30; refine bw_below (v := .bool true) (hz ▸ isLease vh ve _))
          | (go_at_call 31; refine bw_below (v := .agg #[.int .i64 (-1), .int .i64 0]) (nobody _))))
        refine wpQuiet_nil ?_
        intro w3 hw'
        obtain ⟨u, hu⟩ := hw'
        have b3 := u.bel
        rw [← hu] at b3
        have HU := hid (HB.out.trans (b3.mono HB.out.size))
        clear k0 k1 k2 k3 hwa hne hu b3 u hz heq
        go_wp2
        go_ret
        exact ⟨by rw [HQ.out]; rfl, HU.out⟩
    · have b4 : ((vs.length : Int) != 4) = true := by simp; omega
      have HQ := hid (N3.out h4)
      clear h4 N3 N4 N5 N6 N7 NY
      refine wp_region_bw (by kernel_rfl) (by kernel_rfl) ?_
      repeat (go_big_quiet_step (first
        | (go_at_call 30; refine bw_below (v := .bool true) (hz ▸ isLease vh ve _))
        | (go_at_call 31; refine bw_below (v := .agg #[.int .i64 (-1), .int .i64 0]) (nobody _))))
      refine wpQuiet_nil ?_
      intro w3 hw'
      obtain ⟨u, hu⟩ := hw'
      have b3 := u.bel
      rw [← hu] at b3
      have HU := hid (HB.out.trans (b3.mono HB.out.size))
      clear k0 k1 k2 k3 hwa hne hu b3 u hz heq
      go_wp2
      go_ret
      exact ⟨by rw [HQ.out]; rfl, HU.out⟩

end Go.Proofs.Yteaiciofcffkgaa.Pl
