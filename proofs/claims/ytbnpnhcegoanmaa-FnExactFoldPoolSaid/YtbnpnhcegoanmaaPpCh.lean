/-
  The walks of impl.snapVolume, impl.changeVolumes and impl.volumesOf. No condition but volumes in blocks of their own.
-/
import Derived.Test.YtbnpnhcegoanmaaPpDoN
import Derived.Test.YtbnpnhcegoanmaaPpOk2
import Derived.Test.YtbnpnhcegoanmaaPlOp4
namespace Go.Proofs.Ytbnpnhcegoanmaa.Pl
open Go.RowKit Go.Proofs.Ytbnpnhcegoanmaa.Mem
set_option linter.unusedVariables false

/-- Nine cells are stored. -/
theorem nine_set {w : World} {g : Nat} {xs : List Value} (h : Row w g xs) (hl : xs.length = 9) (on : Bool) (hf : Nat → Bool) (t : Nat → ByteArray) : Row (puts w g 0 (ivR on hf t)) g (ivR on hf t) := by
  have := puts_row h 0 (ivR on hf t)
  obtain ⟨x0, x1, x2, x3, x4, x5, x6, x7, x8, rfl⟩ : ∃ x0 x1 x2 x3 x4 x5 x6 x7 x8, xs = [x0, x1, x2, x3, x4, x5, x6, x7, x8] := by
    match xs, hl with
    | [x0, x1, x2, x3, x4, x5, x6, x7, x8], _ => exact ⟨x0, x1, x2, x3, x4, x5, x6, x7, x8, rfl⟩
  exact this

set_option maxRecDepth 100000 in
set_option maxHeartbeats 2000000 in
theorem snapVolume (w : World) (g g' : Nat) (on on' : Bool) (h h' : Nat → Bool) (t t' : Nat → ByteArray) (R : Row w g (ivR on h t)) (R' : Row w g' (ivR on' h' t')) :
    Calls Try.prog 39 #[.pointer (some ⟨g, 0, none⟩), .pointer (some ⟨g', 0, none⟩)] w fun r w' => r = .returned (.bool (!on')) ∧ ((on' = true ∧ w' = w) ∨ (on' = false ∧ Row w' g' (ivR on h t) ∧ Kept (fun b => b = g') w w')) := by
  have HR := hid R
  have HR' := hid R'
  have q0 := R'.c 0 rfl
  clear R R'
  cases on' with
  | true =>
    go_enter Try.func39, Try.ntmps39
    go_wp2
    go_ret
    exact ⟨rfl, Or.inl ⟨by first | rfl | trivial, rfl⟩⟩
  | false =>
    have c0 := HR.out.c 0 rfl
    have c1 := HR.out.c 1 rfl
    have c2 := HR.out.c 2 rfl
    have c3 := HR.out.c 3 rfl
    have c4 := HR.out.c 4 rfl
    have c5 := HR.out.c 5 rfl
    have c6 := HR.out.c 6 rfl
    have c7 := HR.out.c 7 rfl
    have c8 := HR.out.c 8 rfl
    have q1 := HR'.out.c 1 rfl
    have q2 := HR'.out.c 2 rfl
    have q3 := HR'.out.c 3 rfl
    have q4 := HR'.out.c 4 rfl
    have q5 := HR'.out.c 5 rfl
    have q6 := HR'.out.c 6 rfl
    have q7 := HR'.out.c 7 rfl
    have q8 := HR'.out.c 8 rfl
    have f0 := HR'.out.f 0
    have f1 := HR'.out.f 1
    have f2 := HR'.out.f 2
    have f3 := HR'.out.f 3
    have f4 := HR'.out.f 4
    have f5 := HR'.out.f 5
    have f6 := HR'.out.f 6
    have f7 := HR'.out.f 7
    have f8 := HR'.out.f 8
    have HN := hid (nine_set HR'.out rfl on h t)
    have HK := hid (puts_kept w g' 0 (ivR on h t))
    go_enter Try.func39, Try.ntmps39
    go_wp2
    go_ret
    exact ⟨rfl, Or.inr ⟨by first | rfl | trivial, HN.out, HK.out⟩⟩

set_option maxRecDepth 100000 in
set_option maxHeartbeats 4000000 in
theorem changeVolumes (w : World) (a : Option Addr) (cap : Nat) (G : List Nat) (D : List Iv) (k v t m : Int) (s : ByteArray) (S : Ivs w a G D) (h4 : G.length = 4) (nd : G.Nodup) (hf : ∀ g ∈ G, ¬ foot a G.length g) (C : Nat) (hC : ∀ g ∈ G, C ≤ g) (hC2 : C ≤ w.heap.size) (hs : s.size ≤ 1048576) :
    Calls Try.prog 23 #[.slice a G.length cap, opV k v t m s] w fun r w' => r = .returned (.bool (doD (D.map ivData) k v t m s).2) ∧ (∃ D', Ivs w' a G D' ∧ D'.map ivData = (doD (D.map ivData) k v t m s).1) ∧ Below C w w' := by
  have HS := hid S
  have HV : Hid (opV k v t m s = .agg #[.int .i64 k, .int .i64 v, .int .i64 t, .int .i64 m, .string s]) := rfl
  rw [HV.out]
  have HF := hid hf
  have HC := hid hC
  have HND := hid nd
  have H4 := hid h4
  clear S hf hC nd
  generalize hX : doD (D.map ivData) k v t m s = X
  have HX := hid hX
  clear hX
  obtain ⟨X1, X2⟩ := X
  obtain ⟨wa, hwa, ez, A0, B0⟩ := one_new w [.int .i64 k, .int .i64 v, .int .i64 t, .int .i64 m, .string s] 43
  have HA := hid A0
  have HB := hid B0
  have HSa := hid (HS.out.below B0)
  have k0 := A0.c 0 rfl
  have k1 := A0.c 1 rfl
  have k2 := A0.c 2 rfl
  have k3 := A0.c 3 rfl
  have k4 := A0.c 4 rfl
  clear A0 B0 ez HS
  go_enter Try.func23, Try.ntmps23
  go_wp2_with fail
  try simp only [hwa]
  clear hwa k0 k1 k2 k3 k4
  rw [← HV.out]
  refine (iOpOk k v t m s wa hs).mono ?_
  rintro e w1 ⟨rfl, b1⟩
  rw [HV.out]
  have HA1 := hid (HA.out.below b1 HA.out.lt)
  have HB1 := hid (HB.out.trans (b1.mono HB.out.size))
  have HS1 := hid (HSa.out.below b1)
  have HBC := hid (HB1.out.mono hC2)
  clear b1 HA HB HSa
  have k0 := HA1.out.c 0 rfl
  have k1 := HA1.out.c 1 rfl
  have k2 := HA1.out.c 2 rfl
  have k3 := HA1.out.c 3 rfl
  have k4 := HA1.out.c 4 rfl
  have hbl := HA1.out.lt
  cases ho : opRight k v t m s with
  | false =>
    have hd := HX.out
    rw [do_no (by rw [ho]; simp)] at hd
    cases hd
    clear ho HX
    go_wp2
    go_ret
    exact ⟨rfl, ⟨D, HS1.out, rfl⟩, HBC.out⟩
  | true =>
    by_cases h6 : k ≤ 6
    rotate_left
    · have hd := HX.out
      rw [do_no (fun h => h6 h.2)] at hd
      cases hd
      have h6' : 6 < k := by omega
      clear ho HX
      go_wp2
      go_ret
      exact ⟨rfl, ⟨D, HS1.out, rfl⟩, HBC.out⟩
    have HO := hid ho
    have HOK : Hid (opRight k v t m s = true ∧ k ≤ 6) := ⟨ho, h6⟩
    clear ho
    have h6n : ¬ 6 < k := by omega
    by_cases hk6 : k = 6
    · subst hk6
      have hd := HX.out
      rw [do_6 HOK.out rfl] at hd
      cases hd
      clear HX
      go_wp2
      go_ret
      exact ⟨rfl, ⟨D, HS1.out, rfl⟩, HBC.out⟩
    have hk6b : (k == 6) = false := by simpa using hk6
    obtain ⟨hv0, hv1⟩ := op_v HO.out h6 hk6
    obtain ⟨n, rfl⟩ := Int.eq_ofNat_of_zero_le hv0
    have hn : n < G.length := by omega
    have hnD : n < D.length := by rw [← HS1.out.len]; exact hn
    have HnD := hid hnD
    obtain ⟨b, off, rfl, c0⟩ := HS1.out.row n hn
    replace c0 : w1.cell? ⟨b, off + n, none⟩ = some (.pointer (some ⟨G.getD n 0, 0, none⟩)) := c0
    have R := HS1.out.each n hn
    have HP : Hid (∀ (d : Iv) (w' : World), Kept (fun b => b = G.getD n 0) w1 w' → Row w' (G.getD n 0) (ivR d.1 d.2.1 d.2.2) → Ivs w' (some ⟨b, off, none⟩) G (D.set n d)) := fun d w' hk hr => HS1.out.put hn HND.out HF.out hk hr
    have hgC : C ≤ G.getD n 0 := HC.out _ (by simp [List.getD, hn])
    have HBl : Hid (∀ w', Kept (fun b => b = G.getD n 0) w1 w' → Below C w w') := fun w' hk => HBC.out.trans (hk.below (Nat.le_trans hC2 HB1.out.size) (fun b hb e => by omega))
    have hgd : (D.map ivData).getD (n : Int).toNat noneD = ivData (D.getD n Iv.none) := getD_iv D n hnD
    have HG := hid hgd
    generalize hgg : G.getD n 0 = g at c0 R HP hgC HBl
    have HGg := hid hgg
    generalize hdd : D.getD n Iv.none = d at R HG
    obtain ⟨on, h, tt⟩ := d
    simp only [] at R
    have HR := hid R
    have q0 := R.c 0 rfl
    have HH : Hid (((D.map ivData).getD (n : Int).toNat noneD).1 = on) := by rw [Hid, HG.out]; rfl
    have hlen' : (n : Int) < (G.length : Int) := by omega
    clear R hgd hgg hdd hnD hgC
    by_cases hsame : on = decide (k = 1)
    · have hd := HX.out
      rw [do_same HOK.out hk6 (by rw [HH.out]; exact hsame)] at hd
      cases hd
      clear HX
      by_cases hk1 : k = 1
      · rw [decide_eq_true hk1] at hsame
        subst hsame
        subst hk1
        go_wp2
        go_quiet (fail)
        go_wp2
        go_ret
        exact ⟨rfl, ⟨D, HS1.out.below (below_drewN (Below.refl _ w1) nq), rfl⟩, below_drewN HBC.out nq⟩
      · rw [decide_eq_false hk1] at hsame
        subst hsame
        have hk1b : (k == 1) = false := by simpa using hk1
        go_wp2
        go_quiet (fail)
        go_wp2
        go_ret
        exact ⟨rfl, ⟨D, HS1.out.below (below_drewN (Below.refl _ w1) nq), rfl⟩, below_drewN HBC.out nq⟩
    have hk1n : ∀ c : Int, c ≠ 1 → k = c → on = true := fun c hc e => by
      cases on with
      | true => rfl
      | false => exact absurd (by rw [e, decide_eq_false hc]) hsame
    have hon1 : k = 1 → on = false := fun e => by
      cases on with
      | false => rfl
      | true => exact absurd (by rw [e]; rfl) hsame
    have HK1 := hid hk1n
    have HN1 := hid hon1
    have HE : Hid (¬ ((D.map ivData).getD (n : Int).toNat noneD).1 = decide (k = 1)) := by rw [Hid, HH.out]; exact hsame
    clear hk1n hon1 hsame HP HBl
    rcases op_kind HO.out h6 with hk | hk | hk | hk | hk | hk
    · -- create
      have hon := HN1.out hk
      have hd := HX.out
      rw [do_1 HOK.out HE.out hk, HG.out] at hd
      cases hd
      subst hon
      subst hk
      clear HX HK1 HN1 HE HG
      go_wp2
      go_quiet (fail)
      obtain ⟨wq, hwq, bq⟩ : ∃ wq, w1.drewN nq = wq ∧ Below w1.heap.size w1 wq := ⟨_, rfl, below_drewN (Below.refl _ w1) nq⟩
      simp only [hwq]
      have RA := HA1.out.below bq HA1.out.lt
      have RG := HR.out.below bq HR.out.lt
      have HRG := hid RG
      have HSq := hid (HS1.out.below bq)
      have HBq := hid (HBC.out.trans (bq.mono (Nat.le_trans hC2 HB1.out.size)))
      have HCq : Hid (C ≤ wq.heap.size) := Nat.le_trans (Nat.le_trans hC2 HB1.out.size) bq.size
      have HPq : Hid (∀ (d : Iv) (w' : World), Kept (fun b => b = g) wq w' → Row w' g (ivR d.1 d.2.1 d.2.2) → Ivs w' (some ⟨b, off, none⟩) G (D.set n d) ∧ Below C w w') := fun d w' hk hr =>
        ⟨HSq.out.put hn HND.out HF.out (by rw [HGg.out]; exact hk) (by rw [HGg.out]; exact hr), HBq.out.trans (hk.below HCq.out (fun b hb e => by have := HC.out (G.getD n 0) (by simp [List.getD, hn]); have := HGg.out; omega))⟩
      clear k0 k1 k2 k3 k4 hwq bq q0 c0
      have k0 := RA.c 0 rfl
      have x0 := RG.c 0 rfl
      have xf := RG.f 0
      clear RA RG
      go_wp2
      go_ret
      have hh := HPq.out (true, h, tt) (wq.setCell ⟨g, 0, none⟩ (.bool true)) (kept_set wq g 0 _) (HRG.out.set 0 (.bool true))
      exact ⟨rfl, ⟨_, hh.1, by rw [set_iv]; rfl⟩, hh.2⟩
    · -- delete
      have hon := HK1.out 2 (by decide) hk
      have hd := HX.out
      rw [do_2 HOK.out HE.out hk] at hd
      cases hd
      subst hon
      subst hk
      clear HX HK1 HN1 HE HG
      go_wp2
      go_quiet (fail)
      obtain ⟨wq, hwq, bq⟩ : ∃ wq, w1.drewN nq = wq ∧ Below w1.heap.size w1 wq := ⟨_, rfl, below_drewN (Below.refl _ w1) nq⟩
      simp only [hwq]
      have RA := HA1.out.below bq HA1.out.lt
      have RG := HR.out.below bq HR.out.lt
      have HRG := hid RG
      have HSq := hid (HS1.out.below bq)
      have HBq := hid (HBC.out.trans (bq.mono (Nat.le_trans hC2 HB1.out.size)))
      have HCq : Hid (C ≤ wq.heap.size) := Nat.le_trans (Nat.le_trans hC2 HB1.out.size) bq.size
      have HPq : Hid (∀ (d : Iv) (w' : World), Kept (fun b => b = g) wq w' → Row w' g (ivR d.1 d.2.1 d.2.2) → Ivs w' (some ⟨b, off, none⟩) G (D.set n d) ∧ Below C w w') := fun d w' hk hr =>
        ⟨HSq.out.put hn HND.out HF.out (by rw [HGg.out]; exact hk) (by rw [HGg.out]; exact hr), HBq.out.trans (hk.below HCq.out (fun b hb e => by have := HC.out (G.getD n 0) (by simp [List.getD, hn]); have := HGg.out; omega))⟩
      clear k0 k1 k2 k3 k4 hwq bq q0 c0
      have k0 := RA.c 0 rfl
      have x0 := RG.c 0 rfl
      have xf0 := RG.f 0
      have x1 := RG.c 1 rfl
      have xf1 := RG.f 1
      have x2 := RG.c 2 rfl
      have xf2 := RG.f 2
      have x3 := RG.c 3 rfl
      have xf3 := RG.f 3
      have x4 := RG.c 4 rfl
      have xf4 := RG.f 4
      have x5 := RG.c 5 rfl
      have xf5 := RG.f 5
      have x6 := RG.c 6 rfl
      have xf6 := RG.f 6
      have x7 := RG.c 7 rfl
      have xf7 := RG.f 7
      have x8 := RG.c 8 rfl
      have xf8 := RG.f 8
      clear RA RG
      go_wp2
      go_ret
      have hh := HPq.out Iv.none (puts wq g 0 (ivR Iv.none.1 Iv.none.2.1 Iv.none.2.2)) (puts_kept wq g 0 _) (nine_set HRG.out rfl _ _ _)
      exact ⟨rfl, ⟨_, hh.1, by rw [set_iv]; rfl⟩, hh.2⟩
    · -- write
      have hon := HK1.out 3 (by decide) hk
      have hd := HX.out
      rw [do_3 HOK.out HE.out hk, HG.out] at hd
      cases hd
      obtain ⟨_, ⟨hm0, hm1⟩, _⟩ := op_34 HO.out (Or.inl hk)
      obtain ⟨y, rfl⟩ := Int.eq_ofNat_of_zero_le hm0
      have hy : y < 4 := by omega
      subst hon
      subst hk
      clear HX HK1 HN1 HE HG
      go_wp2
      go_quiet (fail)
      obtain ⟨wq, hwq, bq⟩ : ∃ wq, w1.drewN nq = wq ∧ Below w1.heap.size w1 wq := ⟨_, rfl, below_drewN (Below.refl _ w1) nq⟩
      simp only [hwq]
      have RA := HA1.out.below bq HA1.out.lt
      have RG := HR.out.below bq HR.out.lt
      have HRG := hid RG
      have HSq := hid (HS1.out.below bq)
      have HBq := hid (HBC.out.trans (bq.mono (Nat.le_trans hC2 HB1.out.size)))
      have HCq : Hid (C ≤ wq.heap.size) := Nat.le_trans (Nat.le_trans hC2 HB1.out.size) bq.size
      have HPq : Hid (∀ (d : Iv) (w' : World), Kept (fun b => b = g) wq w' → Row w' g (ivR d.1 d.2.1 d.2.2) → Ivs w' (some ⟨b, off, none⟩) G (D.set n d) ∧ Below C w w') := fun d w' hk hr =>
        ⟨HSq.out.put hn HND.out HF.out (by rw [HGg.out]; exact hk) (by rw [HGg.out]; exact hr), HBq.out.trans (hk.below HCq.out (fun b hb e => by have := HC.out (G.getD n 0) (by simp [List.getD, hn]); have := HGg.out; omega))⟩
      clear k0 k1 k2 k3 k4 hwq bq q0 c0
      have k0 := RA.c 0 rfl
      have k3 := RA.c 3 rfl
      have k4 := RA.c 4 rfl
      obtain ⟨v0, y0⟩ := row_ex RG (1 + y * 2) (by show _ < 9; omega)
      obtain ⟨v1, y1⟩ := row_ex RG (1 + y * 2 + 1) (by show _ < 9; omega)
      have z0 := RG.f (1 + y * 2)
      have z1 := RG.f (1 + y * 2 + 1)
      have HQ := hid (HPq.out (true, upd h y true, upd tt y s) ((wq.setCell ⟨g, 1 + y * 2, none⟩ (.bool true)).setCell ⟨g, 1 + y * 2 + 1, none⟩ (.string s)) (((kept_set wq g (1 + y * 2) (.bool true)).trans (kept_set _ g (1 + y * 2 + 1) (.string s))).mono (fun b _ h => by rcases h with h | h <;> exact h)) (by
        show Row _ g (ivR true (upd h y true) (upd tt y s))
        rw [← ivR_set true h tt y hy]; exact (HRG.out.set _ _).set _ _))
      clear RA RG
      go_wp2
      go_region
      all_goals (go_wp2; go_ret; exact ⟨rfl, ⟨_, HQ.out.1.below (Below.refl _ _).drew, by rw [set_iv]; show (D.map ivData).set n (true, (List.range 4).map (upd h y true), (List.range 4).map (upd tt y s)) = _; rw [upd_list _ _ hy, upd_list _ _ hy]; rfl⟩, HQ.out.2.drew⟩)
    · -- discard
      have hon := HK1.out 4 (by decide) hk
      have hd := HX.out
      rw [do_4 HOK.out HE.out hk, HG.out] at hd
      cases hd
      obtain ⟨_, ⟨hm0, hm1⟩, _⟩ := op_34 HO.out (Or.inr hk)
      obtain ⟨y, rfl⟩ := Int.eq_ofNat_of_zero_le hm0
      have hy : y < 4 := by omega
      subst hon
      subst hk
      clear HX HK1 HN1 HE HG
      go_wp2
      go_quiet (fail)
      obtain ⟨wq, hwq, bq⟩ : ∃ wq, w1.drewN nq = wq ∧ Below w1.heap.size w1 wq := ⟨_, rfl, below_drewN (Below.refl _ w1) nq⟩
      simp only [hwq]
      have RA := HA1.out.below bq HA1.out.lt
      have RG := HR.out.below bq HR.out.lt
      have HRG := hid RG
      have HSq := hid (HS1.out.below bq)
      have HBq := hid (HBC.out.trans (bq.mono (Nat.le_trans hC2 HB1.out.size)))
      have HCq : Hid (C ≤ wq.heap.size) := Nat.le_trans (Nat.le_trans hC2 HB1.out.size) bq.size
      have HPq : Hid (∀ (d : Iv) (w' : World), Kept (fun b => b = g) wq w' → Row w' g (ivR d.1 d.2.1 d.2.2) → Ivs w' (some ⟨b, off, none⟩) G (D.set n d) ∧ Below C w w') := fun d w' hk hr =>
        ⟨HSq.out.put hn HND.out HF.out (by rw [HGg.out]; exact hk) (by rw [HGg.out]; exact hr), HBq.out.trans (hk.below HCq.out (fun b hb e => by have := HC.out (G.getD n 0) (by simp [List.getD, hn]); have := HGg.out; omega))⟩
      clear k0 k1 k2 k3 k4 hwq bq q0 c0
      have k0 := RA.c 0 rfl
      have k3 := RA.c 3 rfl
      obtain ⟨v0, y0⟩ := row_ex RG (1 + y * 2) (by show _ < 9; omega)
      obtain ⟨v1, y1⟩ := row_ex RG (1 + y * 2 + 1) (by show _ < 9; omega)
      have z0 := RG.f (1 + y * 2)
      have z1 := RG.f (1 + y * 2 + 1)
      have HQ := hid (HPq.out (true, upd h y false, upd tt y ⟨#[]⟩) ((wq.setCell ⟨g, 1 + y * 2, none⟩ (.bool false)).setCell ⟨g, 1 + y * 2 + 1, none⟩ (.string ⟨#[]⟩)) (((kept_set wq g (1 + y * 2) (.bool false)).trans (kept_set _ g (1 + y * 2 + 1) (.string ⟨#[]⟩))).mono (fun b _ h => by rcases h with h | h <;> exact h)) (by
        show Row _ g (ivR true (upd h y false) (upd tt y ⟨#[]⟩))
        rw [← ivR_set true h tt y hy]; exact (HRG.out.set _ _).set _ _))
      clear RA RG
      go_wp2
      go_region
      all_goals (go_wp2; go_ret; exact ⟨rfl, ⟨_, HQ.out.1.below (Below.refl _ _).drew, by rw [set_iv]; show (D.map ivData).set n (true, (List.range 4).map (upd h y false), (List.range 4).map (upd tt y ⟨#[]⟩)) = _; rw [upd_list _ _ hy, upd_list _ _ hy]; rfl⟩, HQ.out.2.drew⟩)
    · -- snap
      have hon := HK1.out 5 (by decide) hk
      obtain ⟨_, ⟨ht0, ht1⟩, hvt⟩ := op_5 HO.out hk
      obtain ⟨j, rfl⟩ := Int.eq_ofNat_of_zero_le ht0
      have hj : j < G.length := by omega
      have hjl : (j : Int) < (G.length : Int) := by omega
      have HJD : Hid ((D.map ivData).getD (j : Int).toNat noneD = ivData (D.getD j Iv.none)) := getD_iv D j (by rw [← HS1.out.len]; exact hj)
      have HX' := HX
      subst hon
      subst hk
      clear HK1 HN1
      go_wp2
      go_quiet (fail)
      obtain ⟨wq, hwq, bq⟩ : ∃ wq, w1.drewN nq = wq ∧ Below w1.heap.size w1 wq := ⟨_, rfl, below_drewN (Below.refl _ w1) nq⟩
      simp only [hwq]
      have RA := HA1.out.below bq HA1.out.lt
      have RG := HR.out.below bq HR.out.lt
      have HRG := hid RG
      have HSq := hid (HS1.out.below bq)
      have HBq := hid (HBC.out.trans (bq.mono (Nat.le_trans hC2 HB1.out.size)))
      have HCq : Hid (C ≤ wq.heap.size) := Nat.le_trans (Nat.le_trans hC2 HB1.out.size) bq.size
      have HPq : Hid (∀ (d : Iv) (w' : World), Kept (fun b => b = g) wq w' → Row w' g (ivR d.1 d.2.1 d.2.2) → Ivs w' (some ⟨b, off, none⟩) G (D.set n d) ∧ Below C w w') := fun d w' hk hr =>
        ⟨HSq.out.put hn HND.out HF.out (by rw [HGg.out]; exact hk) (by rw [HGg.out]; exact hr), HBq.out.trans (hk.below HCq.out (fun b hb e => by have := HC.out (G.getD n 0) (by simp [List.getD, hn]); have := HGg.out; omega))⟩
      clear k0 k1 k2 k3 k4 hwq bq q0 c0
      have k0 := RA.c 0 rfl
      have k2 := RA.c 2 rfl
      obtain ⟨b9, off9, e9, c9⟩ := HSq.out.row j hj
      cases e9
      replace c9 : wq.cell? ⟨b, off + j, none⟩ = some (.pointer (some ⟨G.getD j 0, 0, none⟩)) := c9
      have R9 := HSq.out.each j hj
      have HGj : Hid (C ≤ G.getD j 0) := HC.out _ (by simp [List.getD, hj])
      have HPj : Hid (∀ (d : Iv) (w' : World), Kept (fun b => b = G.getD j 0) wq w' → Row w' (G.getD j 0) (ivR d.1 d.2.1 d.2.2) → Ivs w' (some ⟨b, off, none⟩) G (D.set j d) ∧ Below C w w') := fun d w' hk hr =>
        ⟨HSq.out.put hj HND.out HF.out hk hr, HBq.out.trans (hk.below HCq.out (fun b hb e => by have := HGj.out; omega))⟩
      generalize G.getD j 0 = g9 at c9 R9 HPj
      generalize D.getD j Iv.none = d9 at R9 HJD
      obtain ⟨on9, h9, t9⟩ := d9
      have HR9 := hid R9
      clear RA RG R9 HPq
      go_wp2_with fail
      refine (snapVolume wq g g9 true on9 h h9 tt t9 HRG.out HR9.out).mono ?_
      rintro e w9 ⟨rfl, hcase⟩
      have HCs := hid hcase
      clear hcase k0 k2 c9
      cases on9 with
      | true =>
        have hd := HX.out
        rw [do_5n HOK.out HE.out rfl (by rw [HJD.out]; rfl)] at hd
        cases hd
        clear HX HX'
        rcases HCs.out with ⟨_, rfl⟩ | ⟨hc, _⟩
        · go_wp2
          go_ret
          exact ⟨rfl, ⟨D, HSq.out, rfl⟩, HBq.out⟩
        · cases hc
      | false =>
        have hd := HX.out
        rw [do_5 HOK.out HE.out rfl (by rw [HJD.out]; simp [ivData]), HG.out] at hd
        cases hd
        clear HX HX'
        rcases HCs.out with ⟨hc, _⟩ | ⟨_, hr, hk⟩
        · cases hc
        · have HQ := hid (HPj.out (true, h, tt) w9 hk hr)
          clear hr hk
          go_wp2
          go_ret
          exact ⟨rfl, ⟨_, HQ.out.1, by rw [set_iv]; rfl⟩, HQ.out.2⟩
    · exact absurd hk hk6

end Go.Proofs.Ytbnpnhcegoanmaa.Pl
