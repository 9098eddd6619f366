/-
  The walk of impl.OpOk: which calls are right. No condition but texts of at most 2^20 bytes.
-/
import Derived.Test.YtaopkchkhdbfnaaGreatDoorPlOp3
namespace Go.Proofs.YtaopkchkhdbfnaaGreatDoor.Pl
open Go.RowKit Go.Proofs.YtaopkchkhdbfnaaGreatDoor.Mem
set_option linter.unusedVariables false

theorem right_is {k v t a : Int} {s : ByteArray} (hk : 1 ≤ k ∧ k ≤ 12) (hn : nmv k v = v ∧ nmt k t = t ∧ nma k a = a ∧ nms k s = s) (h5 : ¬ (k = 5 ∧ v = t)) :
    opRight k v t a s = (decide (0 ≤ v ∧ v ≤ top k) && (decide (0 ≤ t ∧ t ≤ 3) && (decide (0 ≤ a ∧ a ≤ 3) && decide ((s.size : Int) ≤ 16)))) := by
  obtain ⟨n1, n2, n3, n4⟩ := hn
  have he : (⟨#[]⟩ : ByteArray).size = 0 := rfl
  unfold opRight
  rw [decide_eq_true (show k = k ∧ nmv k v = v ∧ nmt k t = t ∧ nma k a = a ∧ nms k s = s from ⟨rfl, n1, n2, n3, n4⟩), Bool.and_true]
  have hc : k = 1 ∨ k = 2 ∨ k = 3 ∨ k = 4 ∨ k = 5 ∨ k = 6 ∨ k = 7 ∨ k = 8 ∨ k = 9 ∨ k = 10 ∨ k = 11 ∨ k = 12 := by omega
  rw [Bool.eq_iff_iff]
  rcases hc with rfl | rfl | rfl | rfl | rfl | rfl | rfl | rfl | rfl | rfl | rfl | rfl <;> simp [nmv, nmt, nma, nms] at n1 n2 n3 n4 <;> (try subst n4) <;> simp [good, top, he] <;> omega

theorem right_not {k v t a : Int} {s : ByteArray} (hk : ¬ (1 ≤ k ∧ k ≤ 12)) : opRight k v t a s = false :=
  right_no (by unfold good; rw [if_neg (by omega), if_neg (by omega), if_neg (by omega), if_neg (by omega), if_neg (by omega)])

theorem right_same {k v t a : Int} {s : ByteArray} (h : k = 5 ∧ v = t) : opRight k v t a s = false :=
  right_no (by obtain ⟨rfl, rfl⟩ := h; simp [good])

theorem right_part {k v t a : Int} {s : ByteArray} (h : ¬ (nmv k v = v ∧ nmt k t = t ∧ nma k a = a ∧ nms k s = s)) : opRight k v t a s = false := by
  unfold opRight
  rw [decide_eq_false (fun x => h x.2), Bool.and_false]

theorem eq_turned {k v t a : Int} {s : ByteArray} : decide (k = k ∧ v = nmv k v ∧ t = nmt k t ∧ a = nma k a ∧ s = nms k s) = decide (nmv k v = v ∧ nmt k t = t ∧ nma k a = a ∧ nms k s = s) := by
  rw [decide_eq_decide]
  exact ⟨fun h => ⟨h.2.1.symm, h.2.2.1.symm, h.2.2.2.1.symm, h.2.2.2.2.symm⟩, fun h => ⟨rfl, h.1.symm, h.2.1.symm, h.2.2.1.symm, h.2.2.2.symm⟩⟩

set_option maxRecDepth 100000 in
set_option maxHeartbeats 4000000 in
theorem iOpOk (k v t a : Int) (s : ByteArray) (w : World) (hs : s.size ≤ 1048576) :
    Calls Tryz.prog 105 #[opV k v t a s] w fun e w' => e = .returned (.bool (opRight k v t a s)) ∧ Below w.heap.size w w' := by
  unfold opV
  obtain ⟨wa, hwa, ez, A0, B0⟩ := one_new w [.int .i64 k, .int .i64 v, .int .i64 t, .int .i64 a, .string s] 58
  have HA := hid A0
  have k0 := BW.cell (A0.c 0 rfl)
  have k1 := BW.cell (A0.c 1 rfl)
  have k2 := BW.cell (A0.c 2 rfl)
  have k3 := BW.cell (A0.c 3 rfl)
  have k4 := BW.cell (A0.c 4 rfl)
  have hne : Nonempty (BW wa) := ⟨⟨wa, Below.refl _ _⟩⟩
  have HB := hid B0
  have hgo := guardOpT
  clear A0 B0
  by_cases hk : 1 ≤ k ∧ k ≤ 12
  · have hk' := decide_eq_true hk
    by_cases hn : nmv k v = v ∧ nmt k t = t ∧ nma k a = a ∧ nms k s = s
    · have heq := neq_is (eq_turned.trans (decide_eq_true hn))
      by_cases h5 : k = 5 ∧ v = t
      · have HR := hid (right_same (a := a) (s := s) h5)
        have hb5 : (k == 5) = true := by simpa using h5.1
        have hbv : (v == t) = true := by simpa using h5.2
        generalize opRight k v t a s = x at *
        clear hk hn h5
        go_enter Tryz.func105, Tryz.ntmps105
        go_wp2
        refine wp_region_bw (by kernel_rfl) (by kernel_rfl) ?_
        repeat (go_big_quiet_step (first
          | (go_at_call 104; refine bw_same (v := .bool true) (hk' ▸ isFrom k 1 12 _))
          | (go_at_call 154; refine bw_below (v := .agg #[.int .i64 k, .int .i64 (nmv k v), .int .i64 (nmt k t), .int .i64 (nma k a), .string (nms k s)]) (namedParts k v t a s _))))
        refine wpQuiet_nil ?_
        intro w3 hw'
        obtain ⟨u, hu⟩ := hw'
        have b3 := u.bel
        rw [← hu] at b3
        have HU := hid (HB.out.trans (b3.mono HB.out.size))
        have HA3 := hid (HA.out.below b3 HA.out.lt)
        clear k0 k1 k2 k3 k4 heq hwa hne hu b3 u HA
        have k0 := HA3.out.c 0 rfl
        have k1 := HA3.out.c 1 rfl
        have k2 := HA3.out.c 2 rfl
        go_wp2
        go_ret
        exact ⟨by rw [HR.out]; rfl, HU.out⟩
      · have HE := hid (right_is hk hn h5)
        by_cases hk5 : k = 5
        · have hb5 : (k == 5) = true := by simpa using hk5
          have hbv : (v == t) = false := by simpa using fun e => h5 ⟨hk5, e⟩
          generalize opRight k v t a s = x at *
          clear hk hn h5 hk5
          go_enter Tryz.func105, Tryz.ntmps105
          go_wp2
          refine wp_region_bw (by kernel_rfl) (by kernel_rfl) ?_
          repeat (go_big_quiet_step (first
            | (go_at_call 104; refine bw_same (v := .bool true) (hk' ▸ isFrom k 1 12 _))
            | (go_at_call 154; refine bw_below (v := .agg #[.int .i64 k, .int .i64 (nmv k v), .int .i64 (nmt k t), .int .i64 (nma k a), .string (nms k s)]) (namedParts k v t a s _))))
          refine wpQuiet_nil ?_
          intro w3 hw'
          obtain ⟨u, hu⟩ := hw'
          have b3 := u.bel
          rw [← hu] at b3
          have HU := hid (HB.out.trans (b3.mono HB.out.size))
          have HA3 := hid (HA.out.below b3 HA.out.lt)
          clear k0 k1 k2 k3 k4 heq hwa hne hu b3 u HA
          have k0 := HA3.out.c 0 rfl
          have k1 := HA3.out.c 1 rfl
          have k2 := HA3.out.c 2 rfl
          go_wp2_with fail
          clear k0 k1 k2
          have k0 := BW.cell (HA3.out.c 0 rfl)
          have k1 := BW.cell (HA3.out.c 1 rfl)
          have k2 := BW.cell (HA3.out.c 2 rfl)
          have k3 := BW.cell (HA3.out.c 3 rfl)
          have k4 := BW.cell (HA3.out.c 4 rfl)
          have hne : Nonempty (BW w3) := ⟨⟨w3, Below.refl _ _⟩⟩
          by_cases hv : 0 ≤ v ∧ v ≤ top k
          · have hv' := decide_eq_true hv
            rw [hv', Bool.true_and] at HE
            by_cases ht : 0 ≤ t ∧ t ≤ 3
            · have ht' := decide_eq_true ht
              rw [ht', Bool.true_and] at HE
              by_cases ha : 0 ≤ a ∧ a ≤ 3
              · have ha' := decide_eq_true ha
                rw [ha', Bool.true_and] at HE
                have HR : Hid (x = decide ((s.size : Int) ≤ 16)) := HE
                clear hv ht ha HE
                refine wp_region_bw (by kernel_rfl) (by kernel_rfl) ?_
                repeat (go_big_quiet_step (first
                  | (go_at_call 155; refine bw_same (highestVol k _))
                  | (go_at_call 104; with_reducible refine bw_same (v := .bool true) (hv' ▸ isFrom v 0 (top k) _))
                  | (go_at_call 104; with_reducible refine bw_same (v := .bool true) (ht' ▸ isFrom t 0 3 _))
                  | (go_at_call 104; with_reducible refine bw_same (v := .bool true) (ha' ▸ isFrom a 0 3 _))))
                refine wpQuiet_nil ?_
                intro _ hw'
                obtain ⟨u5, rfl⟩ := hw'
                have HU5 := hid (HU.out.trans (u5.bel.mono HU.out.size))
                clear k0 k1 k2 k3 k4
                go_wp2
                go_ret
                exact ⟨by rw [HR.out]; rfl, HU5.out⟩
              · have ha' := decide_eq_false ha
                rw [ha', Bool.false_and] at HE
                have HR : Hid (x = false) := HE
                clear hv ht ha HE
                refine wp_region_bw (by kernel_rfl) (by kernel_rfl) ?_
                repeat (go_big_quiet_step (first
                  | (go_at_call 155; refine bw_same (highestVol k _))
                  | (go_at_call 104; with_reducible refine bw_same (v := .bool true) (hv' ▸ isFrom v 0 (top k) _))
                  | (go_at_call 104; with_reducible refine bw_same (v := .bool true) (ht' ▸ isFrom t 0 3 _))
                  | (go_at_call 104; with_reducible refine bw_same (v := .bool false) (ha' ▸ isFrom a 0 3 _))))
                refine wpQuiet_nil ?_
                intro _ hw'
                obtain ⟨u5, rfl⟩ := hw'
                have HU5 := hid (HU.out.trans (u5.bel.mono HU.out.size))
                clear k0 k1 k2 k3 k4
                go_wp2
                go_ret
                exact ⟨by rw [HR.out]; rfl, HU5.out⟩
            · have ht' := decide_eq_false ht
              rw [ht', Bool.false_and] at HE
              have HR : Hid (x = false) := HE
              clear hv ht HE
              refine wp_region_bw (by kernel_rfl) (by kernel_rfl) ?_
              repeat (go_big_quiet_step (first
                | (go_at_call 155; refine bw_same (highestVol k _))
                | (go_at_call 104; with_reducible refine bw_same (v := .bool true) (hv' ▸ isFrom v 0 (top k) _))
                | (go_at_call 104; with_reducible refine bw_same (v := .bool false) (ht' ▸ isFrom t 0 3 _))))
              refine wpQuiet_nil ?_
              intro _ hw'
              obtain ⟨u5, rfl⟩ := hw'
              have HU5 := hid (HU.out.trans (u5.bel.mono HU.out.size))
              clear k0 k1 k2 k3 k4
              go_wp2
              go_ret
              exact ⟨by rw [HR.out]; rfl, HU5.out⟩
          · have hv' := decide_eq_false hv
            rw [hv', Bool.false_and] at HE
            have HR : Hid (x = false) := HE
            clear hv HE
            refine wp_region_bw (by kernel_rfl) (by kernel_rfl) ?_
            repeat (go_big_quiet_step (first
              | (go_at_call 155; refine bw_same (highestVol k _))
              | (go_at_call 104; with_reducible refine bw_same (v := .bool false) (hv' ▸ isFrom v 0 (top k) _))))
            refine wpQuiet_nil ?_
            intro _ hw'
            obtain ⟨u5, rfl⟩ := hw'
            have HU5 := hid (HU.out.trans (u5.bel.mono HU.out.size))
            clear k0 k1 k2 k3 k4
            go_wp2
            go_ret
            exact ⟨by rw [HR.out]; rfl, HU5.out⟩
        · have hb5 : (k == 5) = false := by simpa using hk5
          generalize opRight k v t a s = x at *
          clear hk hn h5 hk5
          go_enter Tryz.func105, Tryz.ntmps105
          go_wp2
          refine wp_region_bw (by kernel_rfl) (by kernel_rfl) ?_
          repeat (go_big_quiet_step (first
            | (go_at_call 104; refine bw_same (v := .bool true) (hk' ▸ isFrom k 1 12 _))
            | (go_at_call 154; refine bw_below (v := .agg #[.int .i64 k, .int .i64 (nmv k v), .int .i64 (nmt k t), .int .i64 (nma k a), .string (nms k s)]) (namedParts k v t a s _))))
          refine wpQuiet_nil ?_
          intro w3 hw'
          obtain ⟨u, hu⟩ := hw'
          have b3 := u.bel
          rw [← hu] at b3
          have HU := hid (HB.out.trans (b3.mono HB.out.size))
          have HA3 := hid (HA.out.below b3 HA.out.lt)
          clear k0 k1 k2 k3 k4 heq hwa hne hu b3 u HA
          have k0 := HA3.out.c 0 rfl
          have k1 := HA3.out.c 1 rfl
          have k2 := HA3.out.c 2 rfl
          go_wp2_with fail
          clear k0 k1 k2
          have k0 := BW.cell (HA3.out.c 0 rfl)
          have k1 := BW.cell (HA3.out.c 1 rfl)
          have k2 := BW.cell (HA3.out.c 2 rfl)
          have k3 := BW.cell (HA3.out.c 3 rfl)
          have k4 := BW.cell (HA3.out.c 4 rfl)
          have hne : Nonempty (BW w3) := ⟨⟨w3, Below.refl _ _⟩⟩
          by_cases hv : 0 ≤ v ∧ v ≤ top k
          · have hv' := decide_eq_true hv
            rw [hv', Bool.true_and] at HE
            by_cases ht : 0 ≤ t ∧ t ≤ 3
            · have ht' := decide_eq_true ht
              rw [ht', Bool.true_and] at HE
              by_cases ha : 0 ≤ a ∧ a ≤ 3
              · have ha' := decide_eq_true ha
                rw [ha', Bool.true_and] at HE
                have HR : Hid (x = decide ((s.size : Int) ≤ 16)) := HE
                clear hv ht ha HE
                refine wp_region_bw (by kernel_rfl) (by kernel_rfl) ?_
                repeat (go_big_quiet_step (first
                  | (go_at_call 155; refine bw_same (highestVol k _))
                  | (go_at_call 104; with_reducible refine bw_same (v := .bool true) (hv' ▸ isFrom v 0 (top k) _))
                  | (go_at_call 104; with_reducible refine bw_same (v := .bool true) (ht' ▸ isFrom t 0 3 _))
                  | (go_at_call 104; with_reducible refine bw_same (v := .bool true) (ha' ▸ isFrom a 0 3 _))))
                refine wpQuiet_nil ?_
                intro _ hw'
                obtain ⟨u5, rfl⟩ := hw'
                have HU5 := hid (HU.out.trans (u5.bel.mono HU.out.size))
                clear k0 k1 k2 k3 k4
                go_wp2
                go_ret
                exact ⟨by rw [HR.out]; rfl, HU5.out⟩
              · have ha' := decide_eq_false ha
                rw [ha', Bool.false_and] at HE
                have HR : Hid (x = false) := HE
                clear hv ht ha HE
                refine wp_region_bw (by kernel_rfl) (by kernel_rfl) ?_
                repeat (go_big_quiet_step (first
                  | (go_at_call 155; refine bw_same (highestVol k _))
                  | (go_at_call 104; with_reducible refine bw_same (v := .bool true) (hv' ▸ isFrom v 0 (top k) _))
                  | (go_at_call 104; with_reducible refine bw_same (v := .bool true) (ht' ▸ isFrom t 0 3 _))
                  | (go_at_call 104; with_reducible refine bw_same (v := .bool false) (ha' ▸ isFrom a 0 3 _))))
                refine wpQuiet_nil ?_
                intro _ hw'
                obtain ⟨u5, rfl⟩ := hw'
                have HU5 := hid (HU.out.trans (u5.bel.mono HU.out.size))
                clear k0 k1 k2 k3 k4
                go_wp2
                go_ret
                exact ⟨by rw [HR.out]; rfl, HU5.out⟩
            · have ht' := decide_eq_false ht
              rw [ht', Bool.false_and] at HE
              have HR : Hid (x = false) := HE
              clear hv ht HE
              refine wp_region_bw (by kernel_rfl) (by kernel_rfl) ?_
              repeat (go_big_quiet_step (first
                | (go_at_call 155; refine bw_same (highestVol k _))
                | (go_at_call 104; with_reducible refine bw_same (v := .bool true) (hv' ▸ isFrom v 0 (top k) _))
                | (go_at_call 104; with_reducible refine bw_same (v := .bool false) (ht' ▸ isFrom t 0 3 _))))
              refine wpQuiet_nil ?_
              intro _ hw'
              obtain ⟨u5, rfl⟩ := hw'
              have HU5 := hid (HU.out.trans (u5.bel.mono HU.out.size))
              clear k0 k1 k2 k3 k4
              go_wp2
              go_ret
              exact ⟨by rw [HR.out]; rfl, HU5.out⟩
          · have hv' := decide_eq_false hv
            rw [hv', Bool.false_and] at HE
            have HR : Hid (x = false) := HE
            clear hv HE
            refine wp_region_bw (by kernel_rfl) (by kernel_rfl) ?_
            repeat (go_big_quiet_step (first
              | (go_at_call 155; refine bw_same (highestVol k _))
              | (go_at_call 104; with_reducible refine bw_same (v := .bool false) (hv' ▸ isFrom v 0 (top k) _))))
            refine wpQuiet_nil ?_
            intro _ hw'
            obtain ⟨u5, rfl⟩ := hw'
            have HU5 := hid (HU.out.trans (u5.bel.mono HU.out.size))
            clear k0 k1 k2 k3 k4
            go_wp2
            go_ret
            exact ⟨by rw [HR.out]; rfl, HU5.out⟩
    · have heq := neq_is (eq_turned.trans (decide_eq_false hn))
      have HR := hid (right_part hn)
      generalize opRight k v t a s = x at *
      clear hk hn
      go_enter Tryz.func105, Tryz.ntmps105
      go_wp2
      refine wp_region_bw (by kernel_rfl) (by kernel_rfl) ?_
      repeat (go_big_quiet_step (first
        | (go_at_call 104; refine bw_same (v := .bool true) (hk' ▸ isFrom k 1 12 _))
        | (go_at_call 154; refine bw_below (v := .agg #[.int .i64 k, .int .i64 (nmv k v), .int .i64 (nmt k t), .int .i64 (nma k a), .string (nms k s)]) (namedParts k v t a s _))))
      refine wpQuiet_nil ?_
      intro w3 hw'
      obtain ⟨u, hu⟩ := hw'
      have b3 := u.bel
      rw [← hu] at b3
      have HU := hid (HB.out.trans (b3.mono HB.out.size))
      clear k0 k1 k2 k3 k4 heq hwa hne hu b3 u
      go_wp2
      go_ret
      exact ⟨by rw [HR.out]; rfl, HU.out⟩
  · have hk' := decide_eq_false hk
    have HR := hid (right_not (v := v) (t := t) (a := a) (s := s) hk)
    generalize opRight k v t a s = x at *
    clear hk
    go_enter Tryz.func105, Tryz.ntmps105
    go_wp2
    refine wp_region_bw (by kernel_rfl) (by kernel_rfl) ?_
    repeat (go_big_quiet_step (first
      | (go_at_call 104; refine bw_same (v := .bool false) (hk' ▸ isFrom k 1 12 _))
      | (go_at_call 154; refine bw_below (v := .agg #[.int .i64 k, .int .i64 (nmv k v), .int .i64 (nmt k t), .int .i64 (nma k a), .string (nms k s)]) (namedParts k v t a s _))))
    refine wpQuiet_nil ?_
    intro w3 hw'
    obtain ⟨u, hu⟩ := hw'
    have b3 := u.bel
    rw [← hu] at b3
    have HU := hid (HB.out.trans (b3.mono HB.out.size))
    clear k0 k1 k2 k3 k4 hwa hne hu b3 u
    go_wp2
    go_ret
    exact ⟨by rw [HR.out]; rfl, HU.out⟩

end Go.Proofs.YtaopkchkhdbfnaaGreatDoor.Pl
