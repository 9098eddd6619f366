/-
  The walk of impl.Swap: it answers as spec.Swap does, in rows of its own. No condition but sizes.
-/
import Derived.Test.YtppjohfafnbdlakSpecSwap
import Derived.Test.YtppjohfafnbdlakImplRefuse
import Derived.Test.YtppjohfafnbdlakImplPeek
import Derived.Test.YtppjohfafnbdlakImplOk2
import Derived.Test.YtppjohfafnbdlakImplCopy
import Derived.Test.YtppjohfafnbdlakImplState
namespace Go.Proofs.Ytppjohfafnbdlak.Mem
open Go.RowKit
set_option linter.unusedVariables false

theorem qAt_empty (l : List Wt) (h s : Int) : qAt l l.length h s = [] ↔ ¬ ∃ j, j < l.length ∧ (l.getD j Wt.none).host = h ∧ (l.getD j Wt.none).sector = s := by
  unfold qAt
  rw [List.filter_eq_nil_iff]
  constructor
  · rintro hh ⟨j, h1, h2⟩
    exact hh j (by simpa using h1) (decide_eq_true h2)
  · intro hh j hj e
    exact hh ⟨j, by simpa using hj, of_decide_eq_true e⟩

theorem swap_refuse (D : Dk) (x ep s : Int) (old t : ByteArray) : D.swap x ep s old t = if D.refuse x ep s [old, t] = 0 then (if D.sec.getD s.toNat ByteArray.empty = old ∧ qAt D.pe D.pe.length x s = [] then (⟨D.sec.set s.toNat t, D.ep, D.pe⟩, 0) else (D, 4)) else (D, D.refuse x ep s [old, t]) := by
  have e : (∀ j, j < [old, t].length → (([old, t].getD j ByteArray.empty).size : Int) ≤ 700) ↔ (t.size : Int) ≤ 700 ∧ (old.size : Int) ≤ 700 := ⟨fun h => ⟨h 1 (by simp), h 0 (by simp)⟩, fun h j hj => by
    have : j = 0 ∨ j = 1 := by simp at hj; omega
    rcases this with rfl | rfl
    · exact h.2
    · exact h.1⟩
  unfold Dk.swap Dk.refuse
  simp only [e, qAt_empty]
  by_cases h1 : ((0 ≤ x ∧ x < 3) ∧ 0 ≤ s ∧ s < (D.sec.length : Int)) ∧ (t.size : Int) ≤ 700 ∧ (old.size : Int) ≤ 700
  · rw [if_pos h1, if_pos h1]
    by_cases h2 : D.ep.getD x.toNat 0 = ep
    · simp only [if_pos h2, if_true]
    · simp only [if_neg h2]
      rfl
  · rw [if_neg h1, if_neg h1]
    rfl

theorem refuse_there {D : Dk} {x ep s : Int} {ts : List ByteArray} (h : D.refuse x ep s ts = 0) : (0 ≤ x ∧ x < 3) ∧ 0 ≤ s ∧ s < (D.sec.length : Int) := by
  unfold Dk.refuse at h
  by_cases h1 : ((0 ≤ x ∧ x < 3) ∧ 0 ≤ s ∧ s < (D.sec.length : Int)) ∧ (∀ j, j < ts.length → ((ts.getD j ByteArray.empty).size : Int) ≤ 700)
  · exact h1.1
  · rw [if_neg h1] at h; cases h

set_option maxRecDepth 100000 in
set_option maxHeartbeats 4000000 in
theorem implSwap (w : World) (v : Value) (D : Dk) (x ep s : Int) (old t : ByteArray) (h : DkR w v D) (hd : D.Held) (hs : D.Small 1048576) (hold : old.size ≤ maxLen) (ht : t.size ≤ maxLen) :
    Calls Try.prog 11 #[v, .int .i64 x, .int .i64 ep, .int .i64 s, .string old, .string t] w fun e w' => ∃ v', e = .returned (.tuple #[v', .int .i64 (D.swapA x ep s old t).2]) ∧ DkW w' w.heap.size v' (D.swapA x ep s old t).1 ∧ Below w.heap.size w w' := by
  have HH := hid h
  have HD := hid hd
  have HS := hid hs
  obtain ⟨a1, c1, a2, c2, a3, c3, rfl, _, _, _⟩ := h
  clear hd hs
  obtain ⟨wb, hwb, ez, A0, R0, B0⟩ := two_new w [.slice a1 D.sec.length c1, .slice a2 D.ep.length c2, .slice a3 D.pe.length c3] [.slice none 0 0, .slice none 0 0, .slice none 0 0] 30 30
  have k0 := A0.c 0 rfl
  have k1 := A0.c 1 rfl
  have k2 := A0.c 2 rfl
  go_enter Try.func11, Try.ntmps11
  go_wp2_with fail
  refine (implDiskOk wb _ D (HH.out.below B0) HD.out).mono ?_
  rintro e w1 ⟨rfl, b1⟩
  have HA := hid (A0.below b1 A0.lt)
  have HR := hid (R0.below b1 R0.lt)
  have HB := hid (B0.trans (b1.mono B0.size))
  clear A0 R0 B0 b1 hwb ez k0 k1 k2
  have m0 := HR.out.c 0 rfl
  have m1 := HR.out.c 1 rfl
  have m2 := HR.out.c 2 rfl
  have f0 := HR.out.f 0
  have f1 := HR.out.f 1
  have f2 := HR.out.f 2
  by_cases hr : ¬ D.right = true
  · have HP : Hid (D.swapA x ep s old t = (Dk.nil, 1)) := if_neg hr
    have hr' : D.right = false := by simpa using hr
    clear hr
    have E := hid (wrap_bad HB.out HR.out)
    go_wp2
    refine bodyPost_ret (results_row2 rfl _ _ (w.heap.size + 1) [.slice none 0 0, .slice none 0 0, .slice none 0 0] _ rfl E.out.2.2 Try.underlying30 rfl (by kernel_rfl)) rfl ?_
    rw [HP.out]
    exact ⟨_, rfl, E.out.1, E.out.2.1⟩
  replace hr := Classical.not_not.mp hr
  have HP : Hid (D.swapA x ep s old t = D.swap x ep s old t) := if_pos hr
  have HT := hid (Dk.of_right hr)
  have k0 := HA.out.c 0 rfl
  have k1 := HA.out.c 1 rfl
  have k2 := HA.out.c 2 rfl
  go_wp2_with fail
  refine (copyDisk w1 _ D (HH.out.below HB.out) HS.out.c1 HS.out.c2 HS.out.c3).mono ?_
  rintro e w2 ⟨v2, rfl, O2, b2⟩
  have HO2 := hid O2
  obtain ⟨u1, u2, u3, rfl, r1, r2, r3, _, _⟩ := O2
  obtain ⟨p1, q1, e1, _⟩ := r1.wr
  obtain ⟨p2, q2, e2, _⟩ := r2.wr
  obtain ⟨p3, q3, e3, _⟩ := r3.wr
  subst e1; subst e2; subst e3
  clear r1 r2 r3 m0 m1 m2 f0 f1 f2 k0 k1 k2
  obtain ⟨wn, hwn, en, N0, Bn⟩ := one_new w2 [.slice p1 D.sec.length q1, .slice p2 D.ep.length q2, .slice p3 D.pe.length q3] 30
  have I := hid (ISt.start HB.out HA.out HR.out HO2.out b2 N0 Bn)
  have HDn := hid (HH.out.below I.out.bel)
  clear HO2 b2 N0 Bn en HA HR HB
  obtain ⟨k0, k1, k2, m0, m1, m2, f0, f1, f2, n0, n1, n2, n3⟩ := I.out.cells
  obtain ⟨ws, hws, es, S0, Bs⟩ := one_new wn [.string old, .string t] 9
  have HBs := hid Bs
  have HSt : Hid (Strs ws (some ⟨wn.heap.size, 0, none⟩) [old, t]) := fun i hi => by
    have : i = 0 ∨ i = 1 := by simp at hi; omega
    rcases this with rfl | rfl
    · exact ⟨_, _, rfl, S0.c 0 rfl⟩
    · exact ⟨_, _, rfl, S0.c 1 rfl⟩
  have IS := hid (I.out.below Bs)
  clear S0 Bs es
  go_wp2_with fail
  refine (refusal ws _ D x ep s (some ⟨wn.heap.size, 0, none⟩) 2 [old, t] (HDn.out.below HBs.out) HT.out.e3 HSt.out (by simp [maxLen])).mono ?_
  rintro e w3 ⟨rfl, b3⟩
  have HQ := hid (swap_refuse D x ep s old t)
  have HRT := hid (refuse_there (D := D) (x := x) (ep := ep) (s := s) (ts := [old, t]))
  generalize D.refuse x ep s [old, t] = c at *
  have I3 := hid (IS.out.below b3)
  have HD3 := hid ((HDn.out.below HBs.out).below b3)
  clear hws hwn IS HBs HSt HDn I b3 k0 k1 k2 m0 m1 m2 f0 f1 f2 n0 n1 n2 n3
  obtain ⟨k0, k1, k2, m0, m1, m2, f0, f1, f2, n0, n1, n2, n3⟩ := I3.out.cells
  by_cases g1 : ¬ c = 0
  · have HP1 := hid (HP.out.trans (HQ.out.trans (if_neg g1)))
    have E := hid I3.out.done
    go_wp2
    refine bodyPost_ret (results_row2 rfl _ _ (w.heap.size + 1) [.slice p1 D.sec.length q1, .slice p2 D.ep.length q2, .slice p3 D.pe.length q3] _ rfl E.out.2.2 Try.underlying30 rfl (by kernel_rfl)) rfl ?_
    rw [HP1.out]
    exact ⟨_, rfl, E.out.1, E.out.2.1⟩
  replace g1 := Classical.not_not.mp g1
  have HP1 := hid (HP.out.trans (HQ.out.trans (if_pos g1)))
  have HG := hid (HRT.out g1)
  have HK : Hid (OkK x s) := ⟨HG.out.1, HG.out.2.1, by have := HG.out.2.2; have := HT.out.n2; omega⟩
  subst g1
  obtain ⟨_, _, _, _, _, _, ev, sx1, _, sx3⟩ := HD3.out
  cases ev
  have HS1 := hid sx1
  have HS3 := hid sx3
  clear sx1 sx3 HRT HQ
  go_wp2_with fail
  refine (queuesOf w3 a3 c3 D.pe HS3.out HT.out.p40 HT.out.okK).mono ?_
  rintro e w4 ⟨rfl, ⟨n, M, V, hn, q⟩, b4⟩
  have I4 := hid (I3.out.below b4)
  have HS4 := hid (HS1.out.below b4)
  have hlk := q.look_ok HK.out
  replace hlk : (Instr.lookup 63 (.map (some w3.heap.size)) (.agg #[.int .i64 x, .int .i64 s]) true).run Try.prog w4 = .ok (.tuple #[V x s, .bool (decide (qAt D.pe D.pe.length x s ≠ []))]) w4 := hlk
  clear q b4 I3 HD3 HS1 HS3 k0 k1 k2 m0 m1 m2 f0 f1 f2 n0 n1 n2 n3
  obtain ⟨k0, k1, k2, m0, m1, m2, f0, f1, f2, n0, n1, n2, n3⟩ := I4.out.cells
  generalize qAt D.pe D.pe.length x s = Z at *
  by_cases hZ : ¬ Z = []
  · have HP2 := hid (HP1.out.trans (if_neg (fun q => hZ q.2)))
    have hlk2 : (Instr.lookup 63 (.map (some w3.heap.size)) (.agg #[.int .i64 x, .int .i64 s]) true).run Try.prog w4 = .ok (.tuple #[V x s, .bool true]) w4 := by rw [hlk, decide_eq_true hZ]
    have E := hid I4.out.done
    clear hlk hZ
    go_wp2
    refine bodyPost_ret (results_row2 rfl _ _ (w.heap.size + 1) [.slice p1 D.sec.length q1, .slice p2 D.ep.length q2, .slice p3 D.pe.length q3] _ rfl E.out.2.2 Try.underlying30 rfl (by kernel_rfl)) rfl ?_
    rw [HP2.out]
    exact ⟨_, rfl, E.out.1, E.out.2.1⟩
  replace hZ := Classical.not_not.mp hZ
  have hlk2 : (Instr.lookup 63 (.map (some w3.heap.size)) (.agg #[.int .i64 x, .int .i64 s]) true).run Try.prog w4 = .ok (.tuple #[V x s, .bool false]) w4 := by rw [hlk, decide_eq_false (fun q => q hZ)]
  clear hlk
  obtain ⟨sn, rfl⟩ : ∃ n : Nat, s = (n : Int) := Int.eq_ofNat_of_zero_le HG.out.2.1
  have hsl : (sn : Int) < (D.sec.length : Int) := HG.out.2.2
  have hs0 : (0 : Int) ≤ (sn : Int) := Int.natCast_nonneg sn
  obtain ⟨bb, oo, rfl, hc⟩ := HS4.out sn (by omega)
  replace hc : w4.cell? ⟨bb, oo + sn, none⟩ = some (.string (D.sec.getD sn ByteArray.empty)) := hc
  generalize hy : D.sec.getD sn ByteArray.empty = y at hc
  have HY := hid hy
  clear hy
  by_cases g5 : ¬ y = old
  · have HP2 := hid (HP1.out.trans (if_neg (fun q => g5 (by have := q.1; rw [Int.toNat_natCast, HY.out] at this; exact this))))
    have E := hid I4.out.done
    have g5' := Own.eqS_no g5
    clear hZ g5
    go_wp2
    refine bodyPost_ret (results_row2 rfl _ _ (w.heap.size + 1) [.slice p1 D.sec.length q1, .slice p2 D.ep.length q2, .slice p3 D.pe.length q3] _ rfl E.out.2.2 Try.underlying30 rfl (by kernel_rfl)) rfl ?_
    rw [HP2.out]
    exact ⟨_, rfl, E.out.1, E.out.2.1⟩
  replace g5 := Classical.not_not.mp g5
  have HP2 := hid (HP1.out.trans (if_pos ⟨by rw [Int.toNat_natCast, HY.out]; exact g5, hZ⟩))
  have g5' := Own.eqS_yes g5
  clear hZ g5
  obtain ⟨gg, cc, ef⟩ : ∃ g c, Value.slice p1 D.sec.length q1 = .slice (some ⟨g, 0, none⟩) D.sec.length (c + 1) := by
    obtain ⟨_, _, _, ev, r1, _⟩ := I4.out.o
    cases ev
    exact r1.form (by omega)
  cases ef
  have I5 := hid (I4.out.setSec (i := sn) (by omega) t)
  have hcs : ∃ u, w4.cell? ⟨gg, sn, none⟩ = some u ∧ w4.frozen? ⟨gg, sn, none⟩ = false := by
    obtain ⟨_, _, _, ev, r1, _⟩ := I4.out.o
    cases ev
    obtain ⟨aa, cp, e1, hw⟩ := r1.wr
    cases e1
    obtain ⟨b, off, e2, _, hc2, hf2⟩ := hw sn (by omega)
    cases e2
    rw [Nat.zero_add] at hc2 hf2
    exact ⟨_, hc2, hf2⟩
  obtain ⟨u, hcu, hfu⟩ := hcs
  have hgg := I4.out.o.lt (b := gg) ⟨_, _, _, rfl, Or.inl rfl⟩
  have hfar := I4.out.far gg ⟨_, _, _, rfl, Or.inl rfl⟩
  have hlb := I4.out.lb
  have hne1 : ¬ gg = w.heap.size + 1 := by omega
  have hne2 : ¬ w.heap.size + 1 = gg := by omega
  have hne3 : ¬ gg = w2.heap.size := hfar
  have hne4 : ¬ w2.heap.size = gg := fun e => hfar e.symm
  have E := hid I5.out.done
  clear hgg hfar hlb
  go_wp2
  refine bodyPost_ret (results_row2 rfl _ _ (w.heap.size + 1) [.slice (some ⟨gg, 0, none⟩) D.sec.length (cc + 1), .slice p2 D.ep.length q2, .slice p3 D.pe.length q3] _ rfl E.out.2.2 Try.underlying30 rfl (by kernel_rfl)) rfl ?_
  rw [HP2.out]
  exact ⟨_, rfl, E.out.1, E.out.2.1⟩

end Go.Proofs.Ytppjohfafnbdlak.Mem
