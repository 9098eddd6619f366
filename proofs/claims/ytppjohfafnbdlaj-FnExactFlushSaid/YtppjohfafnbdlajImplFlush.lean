/-
  The walk of impl.Flush: it answers as spec.Flush does, in rows of its own. No condition but sizes.
-/
import Derived.Test.YtppjohfafnbdlajSpecFlush
import Derived.Test.YtppjohfafnbdlajImplRefuse
import Derived.Test.YtppjohfafnbdlajImplLeft
import Derived.Test.YtppjohfafnbdlajFlushNum
import Derived.Test.YtppjohfafnbdlajImplTake2
import Derived.Test.YtppjohfafnbdlajImplOk2
import Derived.Test.YtppjohfafnbdlajImplCopy
import Derived.Test.YtppjohfafnbdlajImplState
namespace Go.Proofs.Ytppjohfafnbdlaj.Mem
open Go.RowKit
set_option linter.unusedVariables false

theorem flush_refuse (D : Dk) (h1 : 1 ≤ D.sec.length) (x ep : Int) : D.flush x ep = if D.refuse x ep 0 [] = 0 then (⟨lands D.sec D.pe x, D.ep, others D.pe x⟩, 0) else (D, D.refuse x ep 0 []) := by
  have e : (((0 ≤ x ∧ x < 3) ∧ (0 : Int) ≤ 0 ∧ (0 : Int) < (D.sec.length : Int)) ∧ ∀ j, j < ([] : List ByteArray).length → ((([] : List ByteArray).getD j ByteArray.empty).size : Int) ≤ 700) ↔ (0 ≤ x ∧ x < 3) := ⟨fun h => h.1.1, fun h => ⟨⟨h, by omega, by omega⟩, fun j hj => by simp at hj⟩⟩
  unfold Dk.flush Dk.refuse
  simp only [e]
  by_cases g1 : 0 ≤ x ∧ x < 3
  · rw [if_pos g1, if_pos g1]
    by_cases g2 : D.ep.getD x.toNat 0 = ep
    · simp only [if_pos g2, if_true]
    · simp only [if_neg g2]
      rfl
  · rw [if_neg g1, if_neg g1]
    rfl

theorem refuse_host {D : Dk} {x ep s : Int} {ts : List ByteArray} (h : D.refuse x ep s ts = 0) : 0 ≤ x ∧ x < 3 := by
  unfold Dk.refuse at h
  by_cases h1 : ((0 ≤ x ∧ x < 3) ∧ 0 ≤ s ∧ s < (D.sec.length : Int)) ∧ (∀ j, j < ts.length → ((ts.getD j ByteArray.empty).size : Int) ≤ 700)
  · exact h1.1.1
  · rw [if_neg h1] at h; cases h

theorem QM.congr {w : World} {B b n : Nat} {Q Q' : Int → Int → List Nat} {D : DataW Value} {V : Int → Int → Value} (q : QM w B b n Q D V) (e : ∀ h s, OkK h s → Q h s = Q' h s) : QM w B b n Q' D V :=
  ⟨q.own, q.lt, fun h s hk => by rw [← e h s hk]; exact q.has h s hk, q.at_, fun h s hk => by rw [← e h s hk]; exact q.row h s hk, q.apart, q.only⟩

theorem wts_of {w : World} {a1 a2 a3 : Option Addr} {n1 n2 n3 c1 c2 c3 : Nat} {D : Dk} (h : DkR w (.agg #[.slice a1 n1 c1, .slice a2 n2 c2, .slice a3 n3 c3]) D) : Wts w a3 D.pe := by
  obtain ⟨_, _, _, _, _, _, e, _, _, s3⟩ := h
  cases e
  exact s3

theorem QM.other {w : World} {B b n : Nat} {Q : Int → Int → List Nat} {D : DataW Value} {V : Int → Int → Value} (q : QM w B b n Q D V) (g i : Nat) (v : Value) (hg : g < b) : QM (w.setCell ⟨g, i, none⟩ v) B b n Q D V :=
  q.kept (kept_set w g i v) (by omega) (fun h s g' hk hg' e => by have := ((q.row h s hk).lt hg').1; have := q.lt; omega)

theorem ISt.kept {S : Nat → Prop} {w : World} {a0 a1 a2 : Value} {B nn : Nat} {p0 p1 p2 : Value} {E : Dk} {wk w' : World} (h : ISt w a0 a1 a2 B nn p0 p1 p2 E wk) (k : Kept S wk w') (b : Nat) (hb : nn < b) (hB : ∀ g, DkB (.agg #[p0, p1, p2]) g → g < b) (hS : ∀ g, S g → b ≤ g) : ISt w a0 a1 a2 B nn p0 p1 p2 E w' := by
  have h1 := h.lb
  have h2 := h.ln
  exact ⟨h.bel.trans (k.below h.bel.size (fun g hg hs => by have := hS g hs; omega)), h.ra.kept k (fun hs => by have := hS _ hs; omega), h.rr.kept k (fun hs => by have := hS _ hs; omega), h.rn.kept k (fun hs => by have := hS _ hs; omega),
    h.o.kept k (fun g hg hs => by have := hS g hs; have := hB g hg; omega), h.lb, h.ln, h.far⟩

theorem ISt.secCell {w : World} {a0 a1 a2 : Value} {B nn g n c : Nat} {p1 p2 : Value} {E : Dk} {wk : World} (h : ISt w a0 a1 a2 B nn (.slice (some ⟨g, 0, none⟩) n (c + 1)) p1 p2 E wk) {i : Nat} (hi : i < E.sec.length) :
    (∃ u, wk.cell? ⟨g, i, none⟩ = some u) ∧ wk.frozen? ⟨g, i, none⟩ = false := by
  have ho := h.o
  obtain ⟨_, _, _, ev, r1, _⟩ := ho
  cases ev
  obtain ⟨aa, cp, e1, hw⟩ := r1.wr
  cases e1
  obtain ⟨b, off, e2, _, hc2, hf2⟩ := hw i (by omega)
  cases e2
  rw [Nat.zero_add] at hc2 hf2
  exact ⟨⟨_, hc2⟩, hf2⟩

/-- How long the queue at a key is can be read off the world. -/
theorem look_len (b : Nat) {x s : Int} (hk : OkK x s) : ∃ lk : World → Nat, ∀ (w : World) (B n : Nat) (Q : Int → Int → List Nat) (D : DataW Value) (V : Int → Int → Value), QM w B b n Q D V → lk w = (Q x s).length := by
  refine ⟨fun w => match (Instr.lookup 66 (.map (some b)) (kval x s) false).run Try.prog w with | .ok (.slice _ n _) _ => n | _ => 0, fun w B n Q D V q => ?_⟩
  have h := q.look hk
  obtain ⟨a, c, e, _⟩ := (q.row x s hk).wr
  rw [e] at h
  simp only [h]

set_option maxRecDepth 100000 in
set_option maxHeartbeats 4000000 in
theorem implFlush (w : World) (v : Value) (D : Dk) (x ep : Int) (h : DkR w v D) (hd : D.Held) (hs : D.Small 1048576) :
    Calls Try.prog 22 #[v, .int .i64 x, .int .i64 ep] w fun e w' => ∃ v', e = .returned (.tuple #[v', .int .i64 (D.flushA x ep).2]) ∧ DkW w' w.heap.size v' (D.flushA x ep).1 ∧ Below w.heap.size w w' := by
  have HH := hid h
  have HD := hid hd
  have HS := hid hs
  obtain ⟨a1, c1, a2, c2, a3, c3, rfl, _, _, _⟩ := h
  clear hd hs
  obtain ⟨wb, hwb, ez, A0, R0, B0⟩ := two_new w [.slice a1 D.sec.length c1, .slice a2 D.ep.length c2, .slice a3 D.pe.length c3] [.slice none 0 0, .slice none 0 0, .slice none 0 0] 31 31
  have k0 := A0.c 0 rfl
  have k1 := A0.c 1 rfl
  have k2 := A0.c 2 rfl
  go_enter Try.func22, Try.ntmps22
  go_wp2_with fail
  refine (implDiskOk wb _ D (HH.out.below B0) HD.out).mono ?_
  rintro e w1 ⟨rfl, b1⟩
  have HA := hid (A0.below b1 A0.lt)
  have HR := hid (R0.below b1 R0.lt)
  have HB := hid (B0.trans (b1.mono B0.size))
  clear A0 R0 B0 b1 hwb ez k0 k1 k2
  have m0 := HR.out.c 0 rfl
  have m1 := HR.out.c 1 rfl
  have m2 := HR.out.c 2 rfl
  have f0 := HR.out.f 0
  have f1 := HR.out.f 1
  have f2 := HR.out.f 2
  by_cases hr : ¬ D.right = true
  · have HP : Hid (D.flushA x ep = (Dk.nil, 1)) := if_neg hr
    have hr' : D.right = false := by simpa using hr
    clear hr
    have E := hid (wrap_bad HB.out HR.out)
    go_wp2
    refine bodyPost_ret (results_row2 rfl _ _ (w.heap.size + 1) [.slice none 0 0, .slice none 0 0, .slice none 0 0] _ rfl E.out.2.2 Try.underlying31 rfl (by kernel_rfl)) rfl ?_
    rw [HP.out]
    exact ⟨_, rfl, E.out.1, E.out.2.1⟩
  replace hr := Classical.not_not.mp hr
  have HP : Hid (D.flushA x ep = D.flush x ep) := if_pos hr
  have HT := hid (Dk.of_right hr)
  have k0 := HA.out.c 0 rfl
  have k1 := HA.out.c 1 rfl
  have k2 := HA.out.c 2 rfl
  go_wp2_with fail
  refine (copyDisk w1 _ D (HH.out.below HB.out) HS.out.c1 HS.out.c2 HS.out.c3).mono ?_
  rintro e w2 ⟨v2, rfl, O2, b2⟩
  have HO2 := hid O2
  obtain ⟨u1, u2, u3, rfl, r1, r2, r3, _, _⟩ := O2
  obtain ⟨p1, q1, e1, _⟩ := r1.wr
  obtain ⟨p2, q2, e2, _⟩ := r2.wr
  obtain ⟨p3, q3, e3, _⟩ := r3.wr
  subst e1; subst e2; subst e3
  clear r1 r2 r3 m0 m1 m2 f0 f1 f2 k0 k1 k2
  obtain ⟨wn, hwn, en, N0, Bn⟩ := one_new w2 [.slice p1 D.sec.length q1, .slice p2 D.ep.length q2, .slice p3 D.pe.length q3] 31
  have I := hid (ISt.start HB.out HA.out HR.out HO2.out b2 N0 Bn)
  have HDn := hid (HH.out.below I.out.bel)
  clear HO2 b2 N0 Bn en HA HR HB
  obtain ⟨k0, k1, k2, m0, m1, m2, f0, f1, f2, n0, n1, n2, n3⟩ := I.out.cells
  have HFr := hid (flush_refuse D HT.out.n1 x ep)
  have HRT := hid (refuse_host (D := D) (x := x) (ep := ep) (s := 0) (ts := []))
  go_wp2_with fail
  refine (refusal wn _ D x ep 0 none 0 [] HDn.out HT.out.e3 (fun i hi => by simp at hi) (by simp)).mono ?_
  rintro e w3 ⟨rfl, b3⟩
  generalize D.refuse x ep 0 [] = c at *
  have I3 := hid (I.out.below b3)
  have HD3 := hid (HDn.out.below b3)
  clear hwn HDn I b3 k0 k1 k2 m0 m1 m2 f0 f1 f2 n0 n1 n2 n3
  obtain ⟨k0, k1, k2, m0, m1, m2, f0, f1, f2, n0, n1, n2, n3⟩ := I3.out.cells
  by_cases g1 : ¬ c = 0
  · have HP1 := hid (HP.out.trans (HFr.out.trans (if_neg g1)))
    have E := hid I3.out.done
    go_wp2
    refine bodyPost_ret (results_row2 rfl _ _ (w.heap.size + 1) [.slice p1 D.sec.length q1, .slice p2 D.ep.length q2, .slice p3 D.pe.length q3] _ rfl E.out.2.2 Try.underlying31 rfl (by kernel_rfl)) rfl ?_
    rw [HP1.out]
    exact ⟨_, rfl, E.out.1, E.out.2.1⟩
  replace g1 := Classical.not_not.mp g1
  have HP1 := hid (HP.out.trans (HFr.out.trans (if_pos g1)))
  have HG := hid (HRT.out g1)
  subst g1
  clear HRT HFr
  obtain ⟨gg, cc, ef⟩ : ∃ g c, Value.slice p1 D.sec.length q1 = .slice (some ⟨g, 0, none⟩) D.sec.length (c + 1) := by
    obtain ⟨_, _, _, ev, r1, _⟩ := I3.out.o
    cases ev
    exact r1.form (by have := HT.out.n1; omega)
  cases ef
  have HDB := hid (show ∀ g, DkB (.agg #[.slice (some ⟨gg, 0, none⟩) D.sec.length (cc + 1), .slice p2 D.ep.length q2, .slice p3 D.pe.length q3]) g → g < w3.heap.size from fun g hg => (I3.out.o.lt hg).2)
  have Hnn := hid I3.out.rn.lt
  have hgl : gg < w3.heap.size := HDB.out gg ⟨_, _, _, rfl, Or.inl rfl⟩
  have hsl : (D.sec.length : Int) ≤ 40 := by have := HT.out.n2; omega
  go_wp2_with fail
  refine (queuesOf w3 a3 c3 D.pe (wts_of HD3.out) HT.out.p40 HT.out.okK).mono ?_
  rintro e w4 ⟨rfl, ⟨nq, M, V, hnq, q⟩, b4⟩
  have HQ4 : Hid (∃ nq M V, nq ≤ 40 + 0 * 41 ∧ QM w4 (w3.heap.size + 1) w3.heap.size nq (qBut (qAt D.pe D.pe.length) x 0) M V) := ⟨nq, M, V, by omega, q.congr (fun h s hk => (if_neg (fun z => by have := z.2; have := hk.2.1; omega)).symm)⟩
  have I4 := hid (I3.out.below b4)
  have hq4 := q.own.lt
  clear q b4 HD3 I3 k0 k1 k2 m0 m1 m2 f0 f1 f2 n0 n1 n2 n3
  have k0 := I4.out.ra.c 0 rfl
  go_wp2
  clear k0
  go_loopw [33] (fun i wr => ∃ (k : Nat) (l : List ByteArray), k ≤ D.sec.length ∧ i = .int .i64 (k : Int) ∧ Hid (SecK D x k l) ∧ Hid (ISt w (.slice a1 D.sec.length c1) (.slice a2 D.ep.length c2) (.slice a3 D.pe.length c3) w1.heap.size w2.heap.size (.slice (some ⟨gg, 0, none⟩) D.sec.length (cc + 1)) (.slice p2 D.ep.length q2) (.slice p3 D.pe.length q3) ⟨l, D.ep, D.pe⟩ wr) ∧ Hid (∃ nq M V, nq ≤ 40 + k * 41 ∧ QM wr (w3.heap.size + 1) w3.heap.size nq (qBut (qAt D.pe D.pe.length) x k) M V)) (fun i _ => D.sec.length - (intOf i).toNat)
  case atStart => exact ⟨0, D.sec, Nat.zero_le _, rfl, SecK.start D x, I4.out, HQ4.out⟩
  case round =>
    obtain ⟨k, l, hk, rfl, HSK, HI, HQ⟩ := hrel
    by_cases hlt : k < D.sec.length
    · have hok : OkK x (k : Int) := ⟨HG.out, Int.natCast_nonneg k, by omega⟩
      have HOK := hid hok
      obtain ⟨lk, hlkl⟩ := look_len w3.heap.size hok
      have HLK := hid hlkl
      clear hlkl
      obtain ⟨wo, hwo⟩ : ∃ wo, wo = wr := ⟨_, rfl⟩
      subst hwo
      obtain ⟨nr, Mr, Vr, hnr, qr⟩ := HQ.out
      obtain ⟨wk, hwk, ek, K0, Bk⟩ := one_new wo [.int .i64 x, .int .i64 (k : Int)] 69
      have IK := hid (HI.out.below Bk)
      have QK := qr.below Bk
      have hZl := qAt_len D.pe D.pe.length x (k : Int)
      have hp40 := HT.out.p40
      obtain ⟨Z, hZ⟩ : ∃ Z, qAt D.pe D.pe.length x (k : Int) = Z := ⟨_, rfl⟩
      rw [hZ] at hZl
      have HZ := hid hZ
      have hZmem := hid (show ∀ i, i ∈ Z → i < D.pe.length from fun i hi => by rw [← hZ] at hi; exact (qAt_mem hi).1)
      have HQK : Hid (∃ nq M V, nq ≤ 40 + k * 41 + 0 ∧ QM wk (w3.heap.size + 1) w3.heap.size nq (upd (qBut (qAt D.pe D.pe.length) x k) x (k : Int) (Z.drop 0)) M V ∧ ∀ h s y, OkK h s → rb (V h s) = some y → y < wo.heap.size) := ⟨nr, Mr, Vr, by omega, QK.congr (fun h s hk' => by
        by_cases e : h = x ∧ s = (k : Int)
        · rw [e.1, e.2, upd_same, qBut_here, hZ]; rfl
        · rw [upd_other _ _ e]), fun h s y hk' hy => ((qr.row h s hk').lt hy).2⟩
      have HK0 := hid K0
      have hkr : w3.heap.size < wo.heap.size := qr.own.lt
      clear qr QK K0 Bk ek hZ hok HI HQ
      go_wp2
      clear hwk
      go_loopw [39] (fun _ wr => ∃ (j : Nat) (l : List ByteArray), j ≤ Z.length ∧ Hid (SecJ D x k (secAt D Z k j) l) ∧ Hid (ISt w (.slice a1 D.sec.length c1) (.slice a2 D.ep.length c2) (.slice a3 D.pe.length c3) w1.heap.size w2.heap.size (.slice (some ⟨gg, 0, none⟩) D.sec.length (cc + 1)) (.slice p2 D.ep.length q2) (.slice p3 D.pe.length q3) ⟨l, D.ep, D.pe⟩ wr) ∧ Hid (∃ nq M V, nq ≤ 40 + k * 41 + j ∧ QM wr (w3.heap.size + 1) w3.heap.size nq (upd (qBut (qAt D.pe D.pe.length) x k) x (k : Int) (Z.drop j)) M V ∧ ∀ h s y, OkK h s → rb (V h s) = some y → y < wo.heap.size) ∧ Hid (Row wr wo.heap.size [.int .i64 x, .int .i64 (k : Int)])) (fun _ wr => lk wr)
      case atStart => exact ⟨0, l, Nat.zero_le _, by rw [secAt_zero]; exact HSK.out.begin_, IK.out, HQK.out, HK0.out⟩
      case round =>
        obtain ⟨j, l', hj, HSJ, HIy, HQy, HKy⟩ := hrel
        obtain ⟨ny, My, Vy, hny, qy, hVy⟩ := HQy.out
        have z0 := HKy.out.c 0 rfl
        have z1 := HKy.out.c 1 rfl
        have hlk := qy.look HOK.out
        have hrow := qy.row x k HOK.out
        rw [upd_same] at hrow
        have hLL := hid (HLK.out _ _ _ _ _ _ qy)
        rw [upd_same] at hLL
        by_cases hjl : j < Z.length
        · have hdl : (Z.drop j).length = Z.length - j := List.length_drop
          obtain ⟨g, c, hv⟩ := hrow.form (by omega)
          have hc0 := q_cell hrow hv 0 (by omega)
          rw [show (Z.drop j).getD 0 0 = Z.getD j 0 from by simp [List.getD, List.getElem?_drop]] at hc0
          obtain ⟨mm, hmm⟩ : ∃ mm, (Z.drop j).length = mm + 1 := ⟨Z.length - j - 1, by omega⟩
          have hlkd : (Instr.lookup 66 (.map (some w3.heap.size)) (.agg #[.int .i64 x, .int .i64 (k : Int)]) false).run Try.prog wr = .ok (.slice (some ⟨g, 0, none⟩) (mm + 1) (c + 1)) wr := by rw [← hmm, ← hv]; exact hlk
          have hlke : (Instr.lookup 66 (.map (some w3.heap.size)) (.agg #[.int .i64 x, .int .i64 (k : Int)]) false).run Try.prog wr.drew = .ok (.slice (some ⟨g, 0, none⟩) (mm + 1) (c + 1)) wr.drew := by rw [← hmm, ← hv]; exact (qy.below ((Below.refl _ wr).drew)).look HOK.out
          have hzm := hZmem.out (Z.getD j 0) (by rw [List.getD_eq_getElem?_getD, List.getElem?_eq_getElem hjl]; exact List.getElem_mem hjl)
          have hse := hid (secAt_succ D Z k j)
          have hHH := HH.out.below HIy.out.bel
          generalize Z.getD j 0 = zz at *
          have hz1 : (zz : Int) < (D.pe.length : Int) := by omega
          have hz0 : (0 : Int) ≤ (zz : Int) := Int.natCast_nonneg zz
          obtain ⟨b3, o3, ea, _, _, _, x3⟩ := Wts.at_ (wts_of hHH) zz hzm
          subst ea
          generalize (D.pe.getD zz Wt.none).text = tt at *
          obtain ⟨⟨us, hcu⟩, hfu⟩ := HIy.out.secCell (i := k) (by rw [HSJ.out.len]; exact hlt)
          have n0 := HIy.out.rn.c 0 rfl
          have k2 := HIy.out.ra.c 2 rfl
          have hkI : (k : Int) < (D.sec.length : Int) := by omega
          have hk0 : (0 : Int) ≤ (k : Int) := Int.natCast_nonneg k
          have hmb : (mm : Int) ≤ 1000 := by omega
          have HQY := hid qy
          have HVY := hid hVy
          have HRW := hid hrow
          have HLN := hid hmm
          have HDL := hid hdl
          clear hlk hrow hv hHH qy hVy hdl hmm
          go_wp2
          go_region
          have D5 := (Below.refl (wr.setCell ⟨gg, k, none⟩ (.string tt)).heap.size (wr.setCell ⟨gg, k, none⟩ (.string tt))).drew
          have I5 := hid ((HIy.out.setSec (i := k) (by rw [HSJ.out.len]; exact hlt) tt).below D5)
          have Q5 := hid ((HQY.out.other gg k (.string tt) hgl).below D5)
          have KO := HKy.out.other (p := ⟨gg, k, none⟩) (by show wo.heap.size ≠ gg; omega) (.string tt)
          have K5 := hid (KO.below D5 KO.lt)
          clear D5 KO z0 z1 hc0 hlkd hlke x3 hcu hfu n0 k2 HIy HKy HQY
          generalize (wr.setCell ⟨gg, k, none⟩ (.string tt)).drew = w5 at *
          have z0 := K5.out.c 0 rfl
          have z1 := K5.out.c 1 rfl
          have hrw5 := hid (Q5.out.row x k HOK.out)
          go_wp2_with fail
          refine (takeS w5 (w3.heap.size + 1) w3.heap.size ny _ My Vy Q5.out x k HOK.out 0 (by rw [upd_same]; have := HLN.out; omega) (by omega) (by omega)).mono ?_
          rintro e w6 ⟨rfl, ⟨M6, V6, q6, hV6⟩, k6⟩
          have hS6 : ∀ y, (y = w3.heap.size ∨ rb (Vy x k) = some y) → w3.heap.size ≤ y := fun y hy => by
            rcases hy with e | e
            · omega
            · have := (hrw5.out.lt e).1
              omega
          have hS7 : ¬ (wo.heap.size = w3.heap.size ∨ rb (Vy x k) = some wo.heap.size) := fun hy => by
            rcases hy with e | e
            · omega
            · have := HVY.out x k _ HOK.out e
              omega
          have HI6 := hid (I5.out.kept k6 w3.heap.size Hnn.out HDB.out hS6)
          have HK6 := hid (K5.out.kept k6 hS7)
          have q7 : QM w6 (w3.heap.size + 1) w3.heap.size (ny + 1) (upd (qBut (qAt D.pe D.pe.length) x k) x (k : Int) (Z.drop (j + 1))) M6 V6 := q6.congr (fun h s hk' => by
            by_cases e : h = x ∧ s = (k : Int)
            · rw [e.1, e.2, upd_same, upd_same, upd_same, List.eraseIdx_zero, List.tail_drop]
            · rw [upd_other _ _ e, upd_other _ _ e, upd_other _ _ e])
          have HQ7 := hid q7
          have HV7 := hid (fun h s y hk' hy => HVY.out h s y hk' (hV6 h s y hy))
          clear q6 q7 hV6 k6 z0 z1
          go_wp2
          have hm6 := HLK.out _ _ _ _ _ _ HQ7.out
          rw [upd_same] at hm6
          exact ⟨⟨j + 1, l'.set k tt, by omega, by rw [hse.out]; exact HSJ.out.set hlt, HI6.out, ⟨ny + 1, M6, V6, by omega, HQ7.out, HV7.out⟩, HK6.out⟩, by rw [hm6, hLL.out, List.length_drop, List.length_drop]; omega⟩
        · obtain rfl : j = Z.length := by omega
          have hdn : Z.drop Z.length = [] := List.drop_length
          rw [hdn] at hrow
          obtain ⟨va, vc, hv, _⟩ := hrow.wr
          have hlkd : (Instr.lookup 66 (.map (some w3.heap.size)) (.agg #[.int .i64 x, .int .i64 (k : Int)]) false).run Try.prog wr = .ok (.slice va 0 vc) wr := by rw [show (Value.slice va 0 vc) = Vy x k from hv.symm]; exact hlk
          have HSK2 : Hid (SecK D x (k + 1) l') := by
            have e := secAt_all D x k
            rw [HZ.out] at e
            have h := HSJ.out
            rw [e] at h
            exact h.end_
          have HQ8 : Hid (QM wr (w3.heap.size + 1) w3.heap.size ny (qBut (qAt D.pe D.pe.length) x (k + 1)) My Vy) := qy.congr (fun h s hk' => by rw [hdn]; exact (qBut_succ (qAt D.pe D.pe.length) x k h s hk').symm)
          clear hlk hrow hv qy hVy
          go_wp2
          exact ⟨⟨k + 1, l', by omega, by go_num, HSK2.out, HIy.out, ⟨ny, My, Vy, by omega, HQ8.out⟩⟩, by simp [intOf]; omega⟩
    · obtain rfl : k = D.sec.length := by omega
      obtain ⟨nr, Mr, Vr, hnr, qr⟩ := HQ.out
      have HQR := hid qr
      have HDr := hid (HH.out.below HI.out.bel)
      have k2 := HI.out.ra.c 2 rfl
      have HLl := hid (HSK.out.all (fun y hy => (HT.out.pm y hy).2.2.1))
      clear qr
      go_wp2_with fail
      refine (left wr (w3.heap.size + 1) w3.heap.size nr _ Mr Vr HQR.out a3 c3 D.pe (wts_of HDr.out) HT.out.p40 HT.out.okK (qOk_but D.pe x D.sec.length)).mono ?_
      rintro e w8 ⟨v8, rfl, r8, b8⟩
      rw [left_but D.pe x D.sec.length (fun j hj => (HT.out.p j hj).2.2.2.1)] at r8
      obtain ⟨p8, c8, e8, _⟩ := r8.wr
      subst e8
      have I9 := hid (HI.out.setPend b8 r8)
      have I8 := hid (HI.out.below b8)
      obtain ⟨w9, hw9⟩ : ∃ w9, w8.setCell ⟨w2.heap.size, 2, none⟩ (.slice p8 (others D.pe x).length c8) = w9 := ⟨_, rfl⟩
      rw [hw9] at I9
      have E := hid I9.out.done
      clear r8 b8 k2
      have t2 := I8.out.rn.c 2 rfl
      have t3 := I8.out.rn.f 2
      obtain ⟨k0, k1, k2, m0, m1, m2, f0, f1, f2, j0, j1, j2, j3⟩ := I9.out.cells
      go_wp2
      refine bodyPost_ret (results_row2 rfl _ _ (w.heap.size + 1) [.slice (some ⟨gg, 0, none⟩) D.sec.length (cc + 1), .slice p2 D.ep.length q2, .slice p8 (others D.pe x).length c8] _ rfl E.out.2.2 Try.underlying31 rfl (by kernel_rfl)) rfl ?_
      rw [HP1.out, ← HLl.out]
      exact ⟨_, rfl, E.out.1, E.out.2.1⟩

end Go.Proofs.Ytppjohfafnbdlaj.Mem
