/-
  The walk of impl.ModelOk; spec.ReadOf and impl.ReadOf; the laws of ModelOk and ReadOf. No condition but lists of at most 2^20.
-/
import Derived.Test.YtieohdfhbfeoaaaPpIv
namespace Go.Proofs.Ytieohdfhbfeoaaa.Pl
open Go.RowKit Go.Proofs.Ytieohdfhbfeoaaa.Mem
set_option linter.unusedVariables false

theorem place_iv (on h : Bool) (t : ByteArray) : (!plBad on h t) = (ivPl h t && (on || decide (false = h ∧ ⟨#[]⟩ = t))) := by
  unfold plBad ivPl
  cases on <;> cases h <;> simp
  · by_cases ht : t = ⟨#[]⟩
    · subst ht; simp
    · simp [ht]
  · by_cases ht : t = ⟨#[]⟩
    · subst ht; simp
    · simp [ht]

theorem pv_iv {x : Pv} (h1 : x.hs.length = 4) (h2 : x.ts.length = 4) : x.ok = ivOk x.on x.h x.t := by
  have e : ∀ k, placeOk x k = (ivPl (x.h k) (x.t k) && (x.on || decide (false = x.h k ∧ ⟨#[]⟩ = x.t k))) := fun k => place_iv _ _ _
  unfold Pv.ok ivOk ivZ
  rw [decide_eq_true h1, decide_eq_true h2]
  simp only [show List.range 4 = [0, 1, 2, 3] from rfl, List.all_cons, List.all_nil, e]
  generalize ivPl (x.h 0) (x.t 0) = a0
  generalize ivPl (x.h 1) (x.t 1) = a1
  generalize ivPl (x.h 2) (x.t 2) = a2
  generalize ivPl (x.h 3) (x.t 3) = a3
  generalize decide (false = x.h 0 ∧ ⟨#[]⟩ = x.t 0) = b0
  generalize decide (false = x.h 1 ∧ ⟨#[]⟩ = x.t 1) = b1
  generalize decide (false = x.h 2 ∧ ⟨#[]⟩ = x.t 2) = b2
  generalize decide (false = x.h 3 ∧ ⟨#[]⟩ = x.t 3) = b3
  cases x.on <;> revert a0 a1 a2 a3 b0 b1 b2 b3 <;> decide

set_option maxRecDepth 100000 in
set_option maxHeartbeats 4000000 in
theorem iModelOk (w : World) (a : Option Addr) (cap : Nat) (L : List Pv) (S : Pvs w a L) (hl : L.length ≤ 1048576) :
    Calls Try.prog 15 #[plV a L.length cap] w fun r w' => r = .returned (.bool (modelOk L)) ∧ Below w.heap.size w w' := by
  unfold plV
  have HS := hid S
  clear S
  generalize hq : modelOk L = q
  have HQ := hid hq
  clear hq
  obtain ⟨wa, hwa, ez, A0, B0⟩ := one_new w [.slice a L.length cap] 24
  have HA := hid A0
  have HB := hid B0
  have k0 := A0.c 0 rfl
  clear A0 B0 ez
  go_enter Try.func15, Try.ntmps15
  by_cases h4 : L.length = 4
  · have b4 : ((L.length : Int) != 4) = false := by simp; omega
    have H4 := hid h4
    clear h4
    go_wp2
    try simp only [hwa]
    clear hwa
    go_loopw [12] (fun i wr => ∃ k : Nat, k ≤ L.length ∧ i = .int .i64 (k : Int) ∧ Hid ((L.take k).all Pv.ok = true) ∧ Hid (Below w.heap.size w wr)) (fun i _ => L.length - (intOf i).toNat)
    case atStart => exact ⟨0, Nat.zero_le _, rfl, rfl, HB⟩
    case round =>
      obtain ⟨k, hk, rfl, HK, HBw⟩ := hrel
      clear k0
      by_cases hlt : k < L.length
      · obtain ⟨b, off, rfl, c0, c1, c2, i1, i2⟩ := Pvs.at_ (HS.out.below HBw.out) k hlt
        have HT := hid (pall_take Pv.ok Pv.none L k hlt HK.out)
        have HN := hid (pall_no Pv.ok Pv.none L k hlt)
        generalize L.getD k Pv.none = x at c0 c1 c2 i1 i2 HT HN
        have HV : Hid (x.val = .agg #[.bool x.on, .slice x.ha x.hs.length x.hc, .slice x.ta x.ts.length x.tc]) := rfl
        have HF : Hid (x.ok = false → q = false) := fun h => by rw [← HQ.out]; unfold modelOk; rw [HN.out h, Bool.and_false]
        obtain ⟨wb, hwb, eb, A1, B1⟩ := one_new wr [.bool x.on, .slice x.ha x.hs.length x.hc, .slice x.ta x.ts.length x.tc] 49
        have HBbw := hid (HBw.out.trans (B1.mono HBw.out.size))
        have HJ1 := hid (Sl.below i1 B1)
        have HJ2 := hid (Sl.below i2 B1)
        have HA1 := hid A1
        have m0 := A1.c 0 rfl
        have m1 := A1.c 1 rfl
        have m2 := A1.c 2 rfl
        clear A1 B1 i1 i2 eb HN
        go_wp2_with fail
        try simp only [hwb]
        clear hwb c0 c1 c2 m0 m1 m2
        rw [← HV.out]
        refine (hasEachPlace wb x).mono ?_
        rintro r w1 ⟨rfl, b1⟩
        have R1 := HA1.out.below b1 HA1.out.lt
        have l0 := R1.c 0 rfl
        have l1 := R1.c 1 rfl
        have l2 := R1.c 2 rfl
        have HB1 := hid (HBbw.out.trans (b1.mono HBbw.out.size))
        have HI1 := hid (Sl.below HJ1.out b1)
        have HI2 := hid (Sl.below HJ2.out b1)
        clear R1 b1 HJ1 HJ2
        by_cases e : x.hs.length = 4 ∧ x.ts.length = 4
        · have he : (decide (x.hs.length = 4) && decide (x.ts.length = 4)) = true := by rw [decide_eq_true e.1, decide_eq_true e.2]; rfl
          have HO := hid (pv_iv e.1 e.2)
          have HE := hid e
          rw [he]
          clear he e
          go_wp2_with fail
          rw [← HV.out]
          refine (volumeOf w1 x ⟨HI1.out, HI2.out⟩ HE.out.1 HE.out.2).mono ?_
          rintro r w2 ⟨g, rfl, hg1, hg2, R2, b2⟩
          have HR2 := hid R2
          have HB2 := hid (HB1.out.trans (b2.mono HB1.out.size))
          clear R2 b2 l0 l1 l2 hg1 hg2
          go_wp2_with fail
          refine (isVolume w2 g x.on x.h x.t HR2.out).mono ?_
          rintro r w3 ⟨rfl, b3⟩
          have HB3 := hid (HB2.out.trans (b3.mono HB2.out.size))
          clear b3
          rw [← HO.out]
          cases ho : x.ok with
          | false =>
            have HZ := hid (HF.out ho)
            clear ho HF HT
            go_wp2
            go_ret
            exact ⟨by rw [HZ.out]; rfl, HB3.out⟩
          | true =>
            have HTx := hid (HT.out ho)
            clear ho HF HT
            go_wp2
            exact ⟨⟨k + 1, by omega, by go_num, HTx, HB3⟩, by simp [intOf]; omega⟩
        · have he : (decide (x.hs.length = 4) && decide (x.ts.length = 4)) = false := by
            rw [Bool.and_eq_false_iff]
            by_cases e1 : x.hs.length = 4
            · exact Or.inr (decide_eq_false (fun e2 => e ⟨e1, e2⟩))
            · exact Or.inl (decide_eq_false e1)
          have HZ : Hid (q = false) := HF.out (by unfold Pv.ok; rw [he]; rfl)
          rw [he]
          clear he e HF HT
          go_wp2
          go_ret
          exact ⟨by rw [HZ.out]; rfl, HB1.out⟩
      · obtain rfl : k = L.length := by omega
        have HV : Hid (q = true) := by
          rw [Hid, ← HQ.out]
          unfold modelOk
          have := HK.out
          rw [List.take_length] at this
          rw [this, decide_eq_true H4.out]; rfl
        clear HK
        go_wp2
        go_ret
        exact ⟨by rw [HV.out]; rfl, HBw.out⟩
  · have b4 : ((L.length : Int) != 4) = true := by simp; omega
    have HZ : Hid (q = false) := by
      rw [Hid, ← HQ.out]
      unfold modelOk
      rw [decide_eq_false h4]; rfl
    clear h4
    go_wp2
    go_ret
    exact ⟨by rw [HZ.out]; rfl, HB.out⟩

/-- What holds of a list and of one with the same data. -/
theorem upto_data {L M : List Pv} (h : L.map Pv.data = M.map Pv.data) (hl : L.length ≤ 1048576) (hu : ∀ x ∈ L, x.Upto 1048576) : M.length ≤ 1048576 ∧ ∀ x ∈ M, x.Upto 1048576 := by
  have hlm : L.length = M.length := by have := congrArg List.length h; simpa using this
  refine ⟨by omega, fun x hx => ?_⟩
  have h1 : x.data ∈ L.map Pv.data := by rw [h]; exact List.mem_map_of_mem hx
  obtain ⟨y, hy, e⟩ := List.mem_map.1 h1
  have h2 := hu y hy
  obtain ⟨a, b, c, d, e1, f, g⟩ := x
  obtain ⟨a', b', c', d', e1', f', g'⟩ := y
  simp only [Pv.data, Prod.mk.injEq] at e
  obtain ⟨rfl, rfl, rfl⟩ := e
  exact h2

theorem upto_max {L : List Pv} (h : ∀ x ∈ L, x.Upto 1048576) : ∀ x ∈ L, x.Upto maxLen := fun x hx => (h x hx).mono (by unfold maxLen; decide)
theorem len_max {n : Nat} (h : n ≤ 1048576) : n ≤ maxLen := Nat.le_trans h (by unfold maxLen; decide)

end Go.Proofs.Ytieohdfhbfeoaaa.Pl
