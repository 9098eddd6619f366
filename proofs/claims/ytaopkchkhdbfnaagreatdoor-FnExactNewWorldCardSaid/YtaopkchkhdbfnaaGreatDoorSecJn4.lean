/-
  The walk of spec.l4JournalOk: it answers whether a journal is right. No condition but texts and lists of at most 2^20.
-/
import Derived.Test.YtaopkchkhdbfnaaGreatDoorSecJn3
namespace Go.Proofs.YtaopkchkhdbfnaaGreatDoor.Sec
open Go.RowKit Go.Proofs.YtaopkchkhdbfnaaGreatDoor.Mem
set_option linter.unusedVariables false

set_option maxRecDepth 100000 in
set_option maxHeartbeats 2000000 in
theorem jnOk_done (w : World) (txn k v t at_ : Int) (s : ByteArray) (l : List Ou) (a : Option Addr) (cap : Nat) (z1 : s.size ≤ 1048576) (z2 : l.length ≤ 1048576) :
    Calls Tryz.prog 163 #[jnV ⟨txn, true, k, v, t, at_, s, l⟩ a cap] w fun r w' => r = .returned (.bool (Jn.mk txn true k v t at_ s l).ok) ∧ Below w.heap.size w w' := by
  unfold jnV
  have HE := hid (jok_done (J := ⟨txn, true, k, v, t, at_, s, l⟩) rfl)
  simp only [] at HE
  generalize (Jn.mk txn true k v t at_ s l).ok = q at *
  unfold Jn.cells
  simp only []
  obtain ⟨wa, hwa, ez, A0, B0⟩ := one_new w [.int .i64 txn, .bool true, .int .i64 k, .int .i64 v, .int .i64 t, .int .i64 at_, .string s, .slice a l.length cap] 95
  have k0 := A0.c 0 rfl
  have k1 := A0.c 1 rfl
  have k2 := A0.c 2 rfl
  have k3 := A0.c 3 rfl
  have k4 := A0.c 4 rfl
  have k5 := A0.c 5 rfl
  have k6 := A0.c 6 rfl
  have k7 := A0.c 7 rfl
  have HB := hid B0
  have hgo := guardOp
  clear A0 B0
  go_enter Tryz.func163, Tryz.ntmps163
  go_wp2_with fail
  by_cases c0 : 0 ≤ txn ∧ txn ≤ 1000000
  · have c0' := decide_eq_true c0
    rw [c0', Bool.true_and] at HE
    clear c0
    refine (c0' ▸ l1In txn 0 1000000 _).mono ?_
    rintro r w1 ⟨rfl, hw⟩
    obtain rfl := hw.symm
    have heq := eql_op k v t at_ s
    by_cases c1 : k = 0 ∧ v = 0 ∧ t = 0 ∧ at_ = 0 ∧ s.size = 0
    · rw [decide_eq_true c1] at HE
      simp only [decide_eq_true c1] at heq
      clear c1
      by_cases c2 : (l.length : Int) = 0
      · have HQ : Hid (q = true) := by rw [Hid, HE.out, decide_eq_true (show l.length = 0 by omega)]; rfl
        have c2' : ((l.length : Int) == 0) = true := by simpa using c2
        clear c2
        go_wp2
        go_ret
        exact ⟨by rw [HQ.out]; rfl, HB.out⟩
      · have HQ : Hid (q = false) := by rw [Hid, HE.out, decide_eq_false (show ¬ l.length = 0 by omega)]; rfl
        have c2' : ((l.length : Int) == 0) = false := by simpa using c2
        clear c2
        go_wp2
        go_ret
        exact ⟨by rw [HQ.out]; rfl, HB.out⟩
    · rw [decide_eq_false c1] at HE
      simp only [decide_eq_false c1] at heq
      clear c1
      go_wp2
      go_ret
      exact ⟨by rw [HE.out]; rfl, HB.out⟩
  · have c0' := decide_eq_false c0
    rw [c0', Bool.false_and] at HE
    clear c0
    refine (c0' ▸ l1In txn 0 1000000 _).mono ?_
    rintro r w1 ⟨rfl, hw⟩
    obtain rfl := hw.symm
    go_wp2
    go_ret
    exact ⟨by rw [HE.out]; rfl, HB.out⟩

set_option maxRecDepth 100000 in
set_option maxHeartbeats 4000000 in
theorem jnOk_not (w : World) (txn k v t at_ : Int) (s : ByteArray) (l : List Ou) (a : Option Addr) (cap : Nat) (S : Ous w a l) (z1 : s.size ≤ 1048576) (z2 : l.length ≤ 1048576) (z3 : ∀ x ∈ l, x.text.size ≤ 1048576) :
    Calls Tryz.prog 163 #[jnV ⟨txn, false, k, v, t, at_, s, l⟩ a cap] w fun r w' => r = .returned (.bool (Jn.mk txn false k v t at_ s l).ok) ∧ Below w.heap.size w w' := by
  unfold jnV
  have HE := hid (jok_not (J := ⟨txn, false, k, v, t, at_, s, l⟩) rfl)
  simp only [] at HE
  have HS := hid S
  have Hs : Hid (∀ k, (l.getD k Ou.none).text.size ≤ 1048576) := fun k => by
    by_cases h : k < l.length
    · exact z3 _ (by simp [List.getD, h])
    · simp [List.getD, h, Ou.none]
  clear S z3
  generalize (Jn.mk txn false k v t at_ s l).ok = q at *
  unfold Jn.cells
  simp only []
  obtain ⟨wa, hwa, ez, A0, B0⟩ := one_new w [.int .i64 txn, .bool false, .int .i64 k, .int .i64 v, .int .i64 t, .int .i64 at_, .string s, .slice a l.length cap] 95
  have k0 := A0.c 0 rfl
  have k1 := A0.c 1 rfl
  have k2 := A0.c 2 rfl
  have k3 := A0.c 3 rfl
  have k4 := A0.c 4 rfl
  have k5 := A0.c 5 rfl
  have k6 := A0.c 6 rfl
  have k7 := A0.c 7 rfl
  have HA := hid A0
  have HB := hid B0
  clear A0 B0
  go_enter Tryz.func163, Tryz.ntmps163
  go_wp2_with fail
  by_cases c0 : 0 ≤ txn ∧ txn ≤ 1000000
  · have c0' := decide_eq_true c0
    refine (c0' ▸ l1In txn 0 1000000 _).mono ?_
    rintro r w1 ⟨rfl, hw⟩
    obtain rfl := hw.symm
    by_cases c1 : txn < 1
    · have HQ : Hid (q = false) := by rw [Hid, HE.out, decide_eq_false (show ¬ (1 ≤ txn ∧ txn ≤ 1000000) by omega)]; rfl
      clear c0
      go_wp2
      go_ret
      exact ⟨by rw [HQ.out]; rfl, HB.out⟩
    rw [decide_eq_true (show 1 ≤ txn ∧ txn ≤ 1000000 by omega), Bool.true_and] at HE
    have c1d : decide (txn < 1) = false := decide_eq_false c1
    clear c0
    go_wp2_with fail
    refine (l4OpOk k v t at_ s _ z1).mono ?_
    rintro r w2 ⟨rfl, b2⟩
    have HA2 := hid (HA.out.below b2 HA.out.lt)
    replace k7 := HA2.out.c 7 rfl
    have HB2 := hid (HB.out.trans (b2.mono HB.out.size))
    clear b2 hwa k0 k1 k2 k3 k4 k5 k6 HA
    cases hz : opOk k v t at_ s with
    | false =>
      rw [hz, Bool.false_and] at HE
      clear hz
      go_wp2
      go_ret
      exact ⟨by rw [HE.out]; rfl, HB2.out⟩
    | true =>
      rw [hz, Bool.true_and] at HE
      clear hz
      go_wp2_with fail
      by_cases c2 : 1 ≤ (l.length : Int) ∧ (l.length : Int) ≤ 8
      · have c2' := decide_eq_true c2
        rw [decide_eq_true (show 1 ≤ l.length ∧ l.length ≤ 8 by omega), Bool.true_and] at HE
        have hl8 : l.length ≤ 8 := by omega
        clear c2
        refine (c2' ▸ l1In (l.length : Int) 1 8 _).mono ?_
        rintro r w3 ⟨rfl, hw⟩
        obtain rfl := hw.symm
        go_wp2
        go_loopw [3] (fun i wr => ∃ k : Nat, k ≤ l.length ∧ i = .int .i64 (k : Int) ∧ Hid (∀ i, i < k → outAt l i) ∧ Hid (Below w2.heap.size w2 wr)) (fun i _ => l.length - (intOf i).toNat)
        case atStart => exact ⟨0, Nat.zero_le _, rfl, fun i hi => by omega, Below.refl _ _⟩
        case round =>
          obtain ⟨i, hi, rfl, HK, HBr⟩ := hrel
          have HBw := hid (HB2.out.trans (HBr.out.mono HB2.out.size))
          have m7 := (HA2.out.below HBr.out HA2.out.lt).c 7 rfl
          by_cases hlt : i < l.length
          · obtain ⟨b, off, rfl, e0, e1⟩ := Ous.at_ (HS.out.below HBw.out) i hlt
            have hsz := Hs.out i
            have HN := hid (outsOk_no i hlt)
            have HST := hid (fun h => outs_step (k := i) HK.out h)
            have HAt : Hid (outAt l i ↔ ((0 ≤ (l.getD i Ou.none).sec ∧ (l.getD i Ou.none).sec ≤ 33) ∧ (0 < i → (l.getD (i - 1) Ou.none).sec < (l.getD i Ou.none).sec)) ∧ ((l.getD i Ou.none).text.size : Int) ≤ 60) := by
              unfold outAt
              exact ⟨fun x => ⟨⟨x.1, x.2.1⟩, x.2.2⟩, fun x => ⟨x.1.1, x.1.2, x.2⟩⟩
            generalize l.getD i Ou.none = x at e0 e1 hsz HAt
            obtain ⟨xs, xt⟩ := x
            simp only [] at e0 e1 hsz HAt
            have hne : Nonempty (BW wr) := ⟨⟨wr, Below.refl _ _⟩⟩
            replace e0 := BW.cell e0
            replace e1 := BW.cell e1
            have n7 := BW.cell m7
            clear k7
            by_cases d0 : 0 ≤ xs ∧ xs ≤ 33
            · have d0' := decide_eq_true d0
              cases i with
              | zero =>
                simp only [Nat.zero_mul, Nat.add_zero] at e0 e1
                by_cases h60 : 60 < (xt.size : Int)
                · have HR := hid (HN.out (fun x => by have := (HAt.out.1 x).2; omega))
                  clear d0
                  go_wp2
                  refine wp_region_bw (by kernel_rfl) (by kernel_rfl) ?_
                  repeat (go_big_quiet_step (first
                    | (go_at_call 31; refine bw_same (v := .bool true) (d0' ▸ l1In xs 0 33 _))))
                  refine wpQuiet_nil ?_
                  intro _ hw'
                  obtain ⟨u, rfl⟩ := hw'
                  have HU := hid (HBw.out.trans (u.bel.mono HBw.out.size))
                  have HUr := hid (HBr.out.trans (u.bel.mono HBr.out.size))
                  clear e0 e1 n7 m7 
                  go_wp2
                  go_ret
                  exact ⟨by rw [HE.out, HR.out]; rfl, HU.out⟩
                · have HR := hid (HST.out (HAt.out.2 ⟨⟨d0, fun h => by omega⟩, by omega⟩))
                  clear d0
                  go_wp2
                  refine wp_region_bw (by kernel_rfl) (by kernel_rfl) ?_
                  repeat (go_big_quiet_step (first
                    | (go_at_call 31; refine bw_same (v := .bool true) (d0' ▸ l1In xs 0 33 _))))
                  refine wpQuiet_nil ?_
                  intro _ hw'
                  obtain ⟨u, rfl⟩ := hw'
                  have HU := hid (HBw.out.trans (u.bel.mono HBw.out.size))
                  have HUr := hid (HBr.out.trans (u.bel.mono HBr.out.size))
                  clear e0 e1 n7 m7 
                  go_wp2
                  exact ⟨⟨1, by omega, by go_num, HR, HUr⟩, by simp [intOf]; omega⟩
              | succ m =>
                obtain ⟨b', off', eb, p0, _⟩ := Ous.at_ (HS.out.below HBw.out) m (by omega)
                cases eb
                rw [show m + 1 - 1 = m from rfl] at HAt
                generalize (l.getD m Ou.none).sec = ys at p0 HAt
                replace p0 := BW.cell p0
                have hm0 : (0 : Int) < ((m + 1 : Nat) : Int) := by omega
                have hm1 : ((m + 1 : Nat) : Int) - 1 = (m : Int) := by omega
                have hm2 : (m : Int) < (l.length : Int) := by omega
                by_cases d1 : xs ≤ ys
                · have HR := hid (HN.out (fun x => by have := (HAt.out.1 x).1.2 (by omega); omega))
                  clear d0
                  go_wp2
                  refine wp_region_bw (by kernel_rfl) (by kernel_rfl) ?_
                  repeat (go_big_quiet_step (first
                    | (go_at_call 31; refine bw_same (v := .bool true) (d0' ▸ l1In xs 0 33 _))))
                  refine wpQuiet_nil ?_
                  intro _ hw'
                  obtain ⟨u, rfl⟩ := hw'
                  have HU := hid (HBw.out.trans (u.bel.mono HBw.out.size))
                  have HUr := hid (HBr.out.trans (u.bel.mono HBr.out.size))
                  clear e0 e1 n7 m7 p0
                  go_wp2
                  go_ret
                  exact ⟨by rw [HE.out, HR.out]; rfl, HU.out⟩
                have d1' : decide (xs ≤ ys) = false := decide_eq_false d1
                by_cases h60 : 60 < (xt.size : Int)
                · have HR := hid (HN.out (fun x => by have := (HAt.out.1 x).2; omega))
                  clear d0
                  go_wp2
                  refine wp_region_bw (by kernel_rfl) (by kernel_rfl) ?_
                  repeat (go_big_quiet_step (first
                    | (go_at_call 31; refine bw_same (v := .bool true) (d0' ▸ l1In xs 0 33 _))))
                  refine wpQuiet_nil ?_
                  intro _ hw'
                  obtain ⟨u, rfl⟩ := hw'
                  have HU := hid (HBw.out.trans (u.bel.mono HBw.out.size))
                  have HUr := hid (HBr.out.trans (u.bel.mono HBr.out.size))
                  clear e0 e1 n7 m7 p0
                  go_wp2
                  go_ret
                  exact ⟨by rw [HE.out, HR.out]; rfl, HU.out⟩
                · have HR := hid (HST.out (HAt.out.2 ⟨⟨d0, fun h => by omega⟩, by omega⟩))
                  clear d0
                  go_wp2
                  refine wp_region_bw (by kernel_rfl) (by kernel_rfl) ?_
                  repeat (go_big_quiet_step (first
                    | (go_at_call 31; refine bw_same (v := .bool true) (d0' ▸ l1In xs 0 33 _))))
                  refine wpQuiet_nil ?_
                  intro _ hw'
                  obtain ⟨u, rfl⟩ := hw'
                  have HU := hid (HBw.out.trans (u.bel.mono HBw.out.size))
                  have HUr := hid (HBr.out.trans (u.bel.mono HBr.out.size))
                  clear e0 e1 n7 m7 p0
                  go_wp2
                  exact ⟨⟨m + 1 + 1, by omega, by go_num, HR, HUr⟩, by simp [intOf]; omega⟩
            · have d0' := decide_eq_false d0
              have HR := hid (HN.out (fun x => d0 (HAt.out.1 x).1.1))
              clear d0
              go_wp2
              refine wp_region_bw (by kernel_rfl) (by kernel_rfl) ?_
              repeat (go_big_quiet_step (first
                | (go_at_call 31; refine bw_same (v := .bool false) (d0' ▸ l1In xs 0 33 _))))
              refine wpQuiet_nil ?_
              intro _ hw'
              obtain ⟨u, rfl⟩ := hw'
              have HU := hid (HBw.out.trans (u.bel.mono HBw.out.size))
              have HUr := hid (HBr.out.trans (u.bel.mono HBr.out.size))
              clear e0 e1 n7 m7 
              go_wp2
              go_ret
              exact ⟨by rw [HE.out, HR.out]; rfl, HU.out⟩
          · obtain rfl : i = l.length := by omega
            have HR := hid ((outsOk_iff l).2 HK.out)
            go_wp2
            go_ret
            exact ⟨by rw [HE.out, HR.out]; rfl, HBw.out⟩
      · have c2' := decide_eq_false c2
        rw [decide_eq_false (show ¬ (1 ≤ l.length ∧ l.length ≤ 8) by omega), Bool.false_and] at HE
        clear c2
        refine (c2' ▸ l1In (l.length : Int) 1 8 _).mono ?_
        rintro r w3 ⟨rfl, hw⟩
        obtain rfl := hw.symm
        go_wp2
        go_ret
        exact ⟨by rw [HE.out]; rfl, HB2.out⟩
  · have c0' := decide_eq_false c0
    have HQ : Hid (q = false) := by rw [Hid, HE.out, decide_eq_false (show ¬ (1 ≤ txn ∧ txn ≤ 1000000) by omega)]; rfl
    clear c0
    refine (c0' ▸ l1In txn 0 1000000 _).mono ?_
    rintro r w1 ⟨rfl, hw⟩
    obtain rfl := hw.symm
    go_wp2
    go_ret
    exact ⟨by rw [HQ.out]; rfl, HB.out⟩

theorem l4JournalOk (w : World) (J : Jn) (a : Option Addr) (cap : Nat) (S : Ous w a J.outs) (hs : J.Small) :
    Calls Tryz.prog 163 #[jnV J a cap] w fun r w' => r = .returned (.bool J.ok) ∧ Below w.heap.size w w' := by
  obtain ⟨txn, dn, k, v, t, at_, s, l⟩ := J
  cases dn
  · exact jnOk_not w txn k v t at_ s l a cap S hs.text hs.outs hs.each
  · exact jnOk_done w txn k v t at_ s l a cap hs.text hs.outs

end Go.Proofs.YtaopkchkhdbfnaaGreatDoor.Sec
