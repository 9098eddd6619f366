/-
  The walk of spec.l3Swap: a sector of a disk of the call's own is another text, at once, or a refusal. No condition but three epochs and lengths of at most 2^19.
-/
import Derived.Test.YteiemkppgdpcbaaDkPut
namespace Go.Proofs.Yteiemkppgdpcbaa.Mem
open Go.RowKit Classical
set_option linter.unusedVariables false

/-- A write of the host to the sector is under way. -/
def Dk.Under (D : Dk) (h s : Int) : Prop := ∃ j, j < D.pe.length ∧ (D.pe.getD j Wt.none).host = h ∧ (D.pe.getD j Wt.none).sector = s

/-- What Swap makes of a right disk. -/
def Dk.swap (D : Dk) (h e s : Int) (old t : ByteArray) : Dk × Int :=
  if ((0 ≤ h ∧ h < 3) ∧ 0 ≤ s ∧ s < (D.sec.length : Int)) ∧ (t.size : Int) ≤ 700 ∧ (old.size : Int) ≤ 700 then (if D.ep.getD h.toNat 0 = e then (if D.sec.getD s.toNat ByteArray.empty = old ∧ ¬ ∃ j, j < D.pe.length ∧ (D.pe.getD j Wt.none).host = h ∧ (D.pe.getD j Wt.none).sector = s then (⟨D.sec.set s.toNat t, D.ep, D.pe⟩, 0) else (D, 4)) else (D, 2)) else (D, 1)

/-- A cell of an owned row is stored. -/
theorem RowO.set {w : World} {B : Nat} {e : TypeId} {k : Nat} {g n cap : Nat} {xs : List Value} (h : RowO w B e k (.slice (some ⟨g, 0, none⟩) n cap) n xs) (i : Nat) (hi : i < n * k) (u : Value) :
    RowO (w.setCell ⟨g, i, none⟩ u) B e k (.slice (some ⟨g, 0, none⟩) n cap) n (xs.set i u) := by
  rcases h with ⟨_, _, rfl, _⟩ | ⟨h, hc⟩
  · omega
  · exact Or.inr ⟨(h.stored i u).1, hc⟩

theorem sCells_set (l : List ByteArray) (i : Nat) (t : ByteArray) : sCells (l.set i t) = (sCells l).set i (.string t) := by unfold sCells; rw [List.map_set]

/-- An owned row that isn't empty begins its block. -/
theorem RowO.form {w : World} {B : Nat} {e : TypeId} {k : Nat} {v : Value} {n : Nat} {xs : List Value} (h : RowO w B e k v n xs) (hn : 0 < n) : ∃ g c, v = .slice (some ⟨g, 0, none⟩) n (c + 1) := by
  rcases h with ⟨_, _, rfl, _⟩ | ⟨h, a, c, e⟩
  · omega
  · rcases h.2 with ⟨e', _⟩ | ⟨g, cap, cur, e', _⟩
    · rw [e] at e'; cases e'
    · rw [e] at e'
      cases e'
      exact ⟨g, c, e⟩

/-- A sector of a disk of the call's own is stored. -/
theorem DkO.setSec {w : World} {B : Nat} {v2 v3 : Value} {g n cap i : Nat} {D : Dk} (O : DkO w B (.agg #[.slice (some ⟨g, 0, none⟩) n (cap + 1), v2, v3]) D) (hi : i < D.sec.length) (t : ByteArray) :
    DkO (w.setCell ⟨g, i, none⟩ (.string t)) B (.agg #[.slice (some ⟨g, 0, none⟩) n (cap + 1), v2, v3]) ⟨D.sec.set i t, D.ep, D.pe⟩ := by
  obtain ⟨_, _, _, e, r1, r2, r3, f1, f2⟩ := O
  cases e
  have hn : n = D.sec.length := by
    obtain ⟨_, _, e, _⟩ := r1.wr
    cases e; rfl
  subst hn
  refine ⟨_, _, _, rfl, ?_, r2.kept (kept_set w g i _) (fun b hb e => ?_), r3.kept (kept_set w g i _) (fun b hb e => ?_), f1, f2⟩
  · have h := r1.set i (by omega) (.string t)
    rw [← sCells_set] at h
    show RowO _ _ _ _ _ (D.sec.set i t).length _
    rw [List.length_set]
    exact h
  · subst e; exact (f1 b rfl).1 hb
  · subst e; exact (f1 b rfl).2 hb

set_option maxRecDepth 100000 in
set_option maxHeartbeats 2000000 in
theorem l3Swap (w : World) (B : Nat) (v : Value) (D : Dk) (x ep s : Int) (old t : ByteArray) (O : DkO w B v D) (hB : B ≤ w.heap.size) (hf : D.Fit) (hd : D.Held) (ht : t.size ≤ maxLen) (ho : old.size ≤ maxLen) :
    Calls Try.prog 50 #[v, .int .i64 x, .int .i64 ep, .int .i64 s, .string old, .string t] w fun e w' => ∃ v', e = .returned (.tuple #[v', .int .i64 (D.swap x ep s old t).2]) ∧ DkO w' B v' (D.swap x ep s old t).1 ∧ Below B w w' := by
  have HO := hid O
  have HD := hid hd
  have HF := hid hf
  obtain ⟨v1, v2, v3, rfl, r1, r2, r3, _, _⟩ := O
  obtain ⟨a1, c1, e1, _⟩ := r1.wr
  obtain ⟨a2, c2, e2, i2⟩ := r2.wr
  obtain ⟨a3, c3, e3, _⟩ := r3.wr
  subst e1; subst e2; subst e3
  clear r1 r2 r3 hd hf i2
  have ht' : t.size ≤ 9223372036854775807 := ht
  have ho' : old.size ≤ 9223372036854775807 := ho
  have hp : D.swap x ep s old t = if ((0 ≤ x ∧ x < 3) ∧ 0 ≤ s ∧ s < (D.sec.length : Int)) ∧ (t.size : Int) ≤ 700 ∧ (old.size : Int) ≤ 700 then (if D.ep.getD x.toNat 0 = ep then (if D.sec.getD s.toNat ByteArray.empty = old ∧ ¬ ∃ j, j < D.pe.length ∧ (D.pe.getD j Wt.none).host = x ∧ (D.pe.getD j Wt.none).sector = s then (⟨D.sec.set s.toNat t, D.ep, D.pe⟩, 0) else (D, 4)) else (D, 2)) else (D, 1) := rfl
  generalize D.swap x ep s old t = P at *
  have HP := hid hp
  clear hp ht ho
  obtain ⟨P1, P2⟩ := P
  simp only []
  go_enter Try.func50, Try.ntmps50
  go_wp2_with fail
  obtain ⟨wb, hwb, ez, A0, R0, B0⟩ := two_new w [.slice a1 D.sec.length c1, .slice a2 D.ep.length c2, .slice a3 D.pe.length c3] [.slice none 0 0, .slice none 0 0, .slice none 0 0] 28 28
  simp only [hwb]
  clear hwb
  refine (l3There wb _ D (HO.out.below B0).read HD.out x s).mono ?_
  rintro e w1 ⟨rfl, b1⟩
  have HA := hid (A0.below b1 A0.lt)
  have HR := hid (R0.below b1 R0.lt)
  have HB := hid (B0.trans (b1.mono B0.size))
  have HO1 := hid (HO.out.below HB.out)
  have hz : w.heap.size + 1 < w1.heap.size := HR.out.lt
  have k0 := HA.out.c 0 rfl
  have k1 := HA.out.c 1 rfl
  have k2 := HA.out.c 2 rfl
  have m0 := HR.out.c 0 rfl
  have m1 := HR.out.c 1 rfl
  have m2 := HR.out.c 2 rfl
  have f0 := HR.out.f 0
  have f1 := HR.out.f 1
  have f2 := HR.out.f 2
  have HL := hid (show ∀ b, DkB (.agg #[.slice a1 D.sec.length c1, .slice a2 D.ep.length c2, .slice a3 D.pe.length c3]) b → b ≠ w.heap.size + 1 from fun b hb => by have := (HO.out.lt hb).2; omega)
  have HE := hid (put_end hz (HB.out.mono hB) hB HO1.out HL.out HR.out)
  clear A0 R0 B0 b1
  by_cases g1 : ¬ (D.There x s ∧ (t.size : Int) ≤ 700 ∧ (old.size : Int) ≤ 700)
  · have HP1 := hid (HP.out.trans (if_neg g1))
    by_cases g2 : D.There x s
    · have g2' := decide_eq_true g2
      by_cases g3 : 700 < (t.size : Int)
      · clear g1 g2
        go_wp2
        refine bodyPost_ret (results_row2 rfl _ _ (w.heap.size + 1) [.slice a1 D.sec.length c1, .slice a2 D.ep.length c2, .slice a3 D.pe.length c3] _ rfl HE.out.2.2 Try.underlying28 rfl (by kernel_rfl)) rfl ?_
        cases HP1.out
        exact ⟨_, rfl, HE.out.1, HE.out.2.1⟩
      · have g3' := decide_eq_false g3
        have g4 : 700 < (old.size : Int) := Int.not_le.mp (fun q => g1 ⟨g2, by omega, q⟩)
        clear g1 g2
        go_wp2
        refine bodyPost_ret (results_row2 rfl _ _ (w.heap.size + 1) [.slice a1 D.sec.length c1, .slice a2 D.ep.length c2, .slice a3 D.pe.length c3] _ rfl HE.out.2.2 Try.underlying28 rfl (by kernel_rfl)) rfl ?_
        cases HP1.out
        exact ⟨_, rfl, HE.out.1, HE.out.2.1⟩
    · have g2' := decide_eq_false g2
      clear g1 g2
      go_wp2
      refine bodyPost_ret (results_row2 rfl _ _ (w.heap.size + 1) [.slice a1 D.sec.length c1, .slice a2 D.ep.length c2, .slice a3 D.pe.length c3] _ rfl HE.out.2.2 Try.underlying28 rfl (by kernel_rfl)) rfl ?_
      cases HP1.out
      exact ⟨_, rfl, HE.out.1, HE.out.2.1⟩
  replace g1 := Classical.not_not.mp g1
  have HP1 := hid (HP.out.trans (if_pos g1))
  have g2' := decide_eq_true g1.1
  have g3 : ¬ 700 < (t.size : Int) := by have := g1.2.1; omega
  have g3' := decide_eq_false g3
  have g4 : ¬ 700 < (old.size : Int) := by have := g1.2.2; omega
  have g4' := decide_eq_false g4
  obtain ⟨n, rfl⟩ : ∃ n : Nat, x = (n : Int) := Int.eq_ofNat_of_zero_le g1.1.1.1
  obtain ⟨m, rfl⟩ : ∃ m : Nat, s = (m : Int) := Int.eq_ofNat_of_zero_le g1.1.2.1
  have hm : m < D.sec.length := by have := g1.1.2.2; omega
  have hnl : n < D.ep.length := by have := HF.out.h2; have := g1.1.1.2; omega
  have d3 : D.pe.length ≤ 9223372036854775807 := HD.out.h3
  clear g1
  obtain ⟨_, _, _, _, _, _, ev, i1, i2, _⟩ := HO1.out.w
  cases ev
  obtain ⟨b2, o2, rfl, _, hc, _⟩ := i2 n hnl
  replace hc : w1.cell? ⟨b2, o2 + n, none⟩ = some (.int .i64 (D.ep.getD n 0)) := hc
  generalize hy : D.ep.getD n 0 = y at hc
  have HY := hid hy
  clear hy i2
  by_cases g5 : ¬ y = ep
  · have HP2 := hid (HP1.out.trans (if_neg (by rw [Int.toNat_natCast, HY.out]; exact g5)))
    go_wp2
    refine bodyPost_ret (results_row2 rfl _ _ (w.heap.size + 1) [.slice a1 D.sec.length c1, .slice (some ⟨b2, o2, none⟩) D.ep.length c2, .slice a3 D.pe.length c3] _ rfl HE.out.2.2 Try.underlying28 rfl (by kernel_rfl)) rfl ?_
    cases HP2.out
    exact ⟨_, rfl, HE.out.1, HE.out.2.1⟩
  replace g5 := Classical.not_not.mp g5
  subst g5
  have HP2 := hid (HP1.out.trans (if_pos (by rw [Int.toNat_natCast, HY.out])))
  obtain ⟨_, _, _, ev, r1, _⟩ := HO1.out
  cases ev
  obtain ⟨b1, c1', ef⟩ := r1.form (by omega)
  cases ef
  obtain ⟨_, _, ef, _, hc1, hz1⟩ := i1 m hm
  cases ef
  replace hc1 : w1.cell? ⟨b1, 0 + m, none⟩ = some (.string (D.sec.getD m ByteArray.empty)) := hc1
  rw [Nat.zero_add] at hc1 hz1
  have hb0 : b1 < w.heap.size := (HO.out.lt ⟨_, _, _, rfl, Or.inl rfl⟩).2
  have hb1 : B ≤ b1 := (HO.out.lt ⟨_, _, _, rfl, Or.inl rfl⟩).1
  have hne0 : b1 ≠ w.heap.size := by omega
  have hne1 : b1 ≠ w.heap.size + 1 := by omega
  have hne2 : w.heap.size ≠ b1 := by omega
  have hne3 : w.heap.size + 1 ≠ b1 := by omega
  clear r1
  generalize hq : D.sec.getD m ByteArray.empty = q at hc1
  have HQ := hid hq
  clear hq i1
  by_cases g6 : ¬ q = old
  · have g6' := Own.eqS_no g6
    have HP3 := hid (HP2.out.trans (if_neg (by rw [Int.toNat_natCast, HQ.out]; exact fun z => g6 z.1)))
    clear g6
    go_wp2
    refine bodyPost_ret (results_row2 rfl _ _ (w.heap.size + 1) [.slice (some ⟨b1, 0, none⟩) D.sec.length (c1' + 1), .slice (some ⟨b2, o2, none⟩) D.ep.length c2, .slice a3 D.pe.length c3] _ rfl HE.out.2.2 Try.underlying28 rfl (by kernel_rfl)) rfl ?_
    cases HP3.out
    exact ⟨_, rfl, HE.out.1, HE.out.2.1⟩
  replace g6 := Classical.not_not.mp g6
  have g6' := Own.eqS_yes g6
  have HG6 := hid g6
  clear g6
  go_wp2
  go_loop [14] (fun i => ∃ k : Nat, k ≤ D.pe.length ∧ i = .int .i64 (k : Int) ∧ Hid (∀ j, j < k → ¬ ((D.pe.getD j Wt.none).host = (n : Int) ∧ (D.pe.getD j Wt.none).sector = (m : Int)))) (fun i => D.pe.length - (intOf i).toNat)
  case atStart => exact ⟨0, Nat.zero_le _, rfl, fun j hj => by omega⟩
  case round =>
    obtain ⟨k, hk, rfl, HJ⟩ := hrel
    by_cases hlt : k < D.pe.length
    · obtain ⟨_, _, _, _, _, _, ev, _, _, i3⟩ := HO1.out.read
      cases ev
      obtain ⟨b3, o3, rfl, x0, x1, x2, x3⟩ := Wts.at_ i3 k hlt
      generalize hu : D.pe.getD k Wt.none = u at x0 x1 x2 x3
      have HU := hid hu
      clear hu i3
      by_cases h1 : u.host = (n : Int)
      · by_cases h2 : u.sector = (m : Int)
        · have HP3 := hid (HP2.out.trans (if_neg (fun z => z.2 ⟨k, hlt, by rw [HU.out]; exact h1, by rw [HU.out]; exact h2⟩)))
          go_wp2
          refine bodyPost_ret (results_row2 rfl _ _ (w.heap.size + 1) [.slice (some ⟨b1, 0, none⟩) D.sec.length (c1' + 1), .slice (some ⟨b2, o2, none⟩) D.ep.length c2, .slice (some ⟨b3, o3, none⟩) D.pe.length c3] _ rfl HE.out.2.2 Try.underlying28 rfl (by kernel_rfl)) rfl ?_
          cases HP3.out
          exact ⟨_, rfl, HE.out.1, HE.out.2.1⟩
        · have h2' := decide_eq_false h2
          have HH := hid h2
          go_wp2
          go_round
          case rel => exact ⟨k + 1, by omega, by go_num, fun j hj => by
            by_cases h : j = k
            · subst h; rw [HU.out]; exact fun z => HH.out z.2
            · exact HJ.out j (by omega)⟩
          case measure => simp [intOf]; omega
      · have h1' := decide_eq_false h1
        have HH := hid h1
        go_wp2
        go_round
        case rel => exact ⟨k + 1, by omega, by go_num, fun j hj => by
          by_cases h : j = k
          · subst h; rw [HU.out]; exact fun z => HH.out z.1
          · exact HJ.out j (by omega)⟩
        case measure => simp [intOf]; omega
    obtain rfl : k = D.pe.length := by omega
    have HP3 := hid (HP2.out.trans (if_pos ⟨by rw [Int.toNat_natCast, HQ.out]; exact HG6.out, fun ⟨j, hj, z⟩ => HJ.out j hj z⟩))
    have HO2 := hid (HO1.out.setSec hm t)
    have E := hid (put_end (w2 := w1.setCell ⟨b1, m, none⟩ (.string t)) (by simpa using hz) (below_set (HB.out.mono hB) b1 m _ hb1) hB HO2.out HL.out (HR.out.other hne3 _))
    go_wp2
    refine bodyPost_ret (results_row2 rfl _ _ (w.heap.size + 1) [.slice (some ⟨b1, 0, none⟩) D.sec.length (c1' + 1), .slice (some ⟨b2, o2, none⟩) D.ep.length c2, .slice a3 D.pe.length c3] _ rfl E.out.2.2 Try.underlying28 rfl (by kernel_rfl)) rfl ?_
    cases HP3.out
    exact ⟨_, rfl, E.out.1, E.out.2.1⟩

end Go.Proofs.Yteiemkppgdpcbaa.Mem
