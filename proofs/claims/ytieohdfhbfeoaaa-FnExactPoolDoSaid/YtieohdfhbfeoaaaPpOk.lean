/-
  Plain: which pools are right. The walk of spec.ModelOk. No condition but lists of at most 2^20.
-/
import Derived.Test.YtieohdfhbfeoaaaPpMk
namespace Go.Proofs.Ytieohdfhbfeoaaa.Pl
open Go.RowKit Go.Proofs.Ytieohdfhbfeoaaa.Mem
set_option linter.unusedVariables false

/-- Is what stands at one number of a volume not right. -/
def plBad (on h : Bool) (t : ByteArray) : Bool := (h && !on) || ((!h && !decide (t = ⟨#[]⟩)) || decide (16 < t.size))
def placeOk (x : Pv) (k : Nat) : Bool := !plBad x.on (x.hs.getD k false) (x.ts.getD k ByteArray.empty)
def Pv.ok (x : Pv) : Bool := (decide (x.hs.length = 4) && decide (x.ts.length = 4)) && (List.range 4).all (placeOk x)
/-- Is a pool right. -/
def modelOk (L : List Pv) : Bool := decide (L.length = 4) && L.all Pv.ok

theorem pv_ok_data {x y : Pv} (h : x.data = y.data) : x.ok = y.ok := by
  obtain ⟨a, b, c, d, e, f, g⟩ := x
  obtain ⟨a', b', c', d', e', f', g'⟩ := y
  simp only [Pv.data, Prod.mk.injEq] at h
  obtain ⟨rfl, rfl, rfl⟩ := h
  rfl
theorem modelOk_data {L M : List Pv} (h : L.map Pv.data = M.map Pv.data) : modelOk L = modelOk M := by
  have hl : L.length = M.length := by have := congrArg List.length h; simpa using this
  have e : ∀ L : List Pv, L.all Pv.ok = (L.map Pv.data).all (fun d => Pv.ok ⟨d.1, Option.none, 0, d.2.1, Option.none, 0, d.2.2⟩) := fun L => by
    rw [List.all_map]
    congr 1
  unfold modelOk
  rw [hl, e, e, h]

theorem pall_take {X : Type} (f : X → Bool) (d : X) (L : List X) (k : Nat) (hk : k < L.length) (h : (L.take k).all f = true) (h1 : f (L.getD k d) = true) : (L.take (k + 1)).all f = true := by
  rw [List.take_add_one, List.all_append, h, List.getElem?_eq_getElem hk]
  rw [List.getD, List.getElem?_eq_getElem hk] at h1
  simpa using h1
theorem pall_no {X : Type} (f : X → Bool) (d : X) (L : List X) (k : Nat) (hk : k < L.length) (h1 : f (L.getD k d) = false) : L.all f = false := by
  rw [List.all_eq_false]
  rw [List.getD, List.getElem?_eq_getElem hk] at h1
  exact ⟨L[k], List.getElem_mem hk, by simpa using h1⟩

theorem pv_no1 {x : Pv} (h : ¬ x.hs.length = 4) : x.ok = false := by unfold Pv.ok; rw [decide_eq_false h]; rfl
theorem pv_no2 {x : Pv} (h : ¬ x.ts.length = 4) : x.ok = false := by unfold Pv.ok; rw [decide_eq_false h, Bool.and_false]; rfl
theorem pv_no3 {x : Pv} (k : Nat) (hk : k < 4) (h : placeOk x k = false) : x.ok = false := by
  unfold Pv.ok
  have : (List.range 4).all (placeOk x) = false := by rw [List.all_eq_false]; exact ⟨k, List.mem_range.2 hk, by simpa using h⟩
  rw [this, Bool.and_false]
theorem pv_yes {x : Pv} (h1 : x.hs.length = 4) (h2 : x.ts.length = 4) (h3 : ∀ j, j < 4 → placeOk x j = true) : x.ok = true := by
  unfold Pv.ok
  have : (List.range 4).all (placeOk x) = true := by rw [List.all_eq_true]; exact fun k hk => h3 k (List.mem_range.1 hk)
  rw [this, decide_eq_true h1, decide_eq_true h2]; rfl

set_option maxRecDepth 100000 in
set_option maxHeartbeats 4000000 in
theorem sModelOk (w : World) (a : Option Addr) (cap : Nat) (L : List Pv) (S : Pvs w a L) (hl : L.length ≤ 1048576) (he : ∀ x ∈ L, x.Upto 1048576) :
    Calls Try.prog 13 #[plV a L.length cap] w fun r w' => r = .returned (.bool (modelOk L)) ∧ Below w.heap.size w w' := by
  unfold plV
  have HS := hid S
  have HE := hid he
  clear S he
  generalize hq : modelOk L = q
  have HQ := hid hq
  clear hq
  obtain ⟨wa, hwa, ez, A0, B0⟩ := one_new w [.slice a L.length cap] 24
  have HA := hid A0
  have HB := hid B0
  have k0 := A0.c 0 rfl
  clear A0 B0
  go_enter Try.func13, Try.ntmps13
  by_cases h4 : L.length = 4
  · have b4 : ((L.length : Int) != 4) = false := by simp; omega
    have H4 := hid h4
    clear h4
    go_wp2
    clear hwa
    go_loopw [3] (fun i wr => ∃ k : Nat, k ≤ L.length ∧ i = .int .i64 (k : Int) ∧ Hid ((L.take k).all Pv.ok = true) ∧ Hid (Below wa.heap.size wa wr)) (fun i _ => L.length - (intOf i).toNat)
    case atStart => exact ⟨0, Nat.zero_le _, rfl, rfl, Below.refl _ _⟩
    case round =>
      obtain ⟨k, hk, rfl, HK, HBr⟩ := hrel
      have HAr := hid (HA.out.below HBr.out HA.out.lt)
      have HBw := hid (HB.out.trans (HBr.out.mono HB.out.size))
      have p0 := HAr.out.c 0 rfl
      clear k0
      by_cases hlt : k < L.length
      · obtain ⟨b, off, rfl, c0, c1, c2, i1, i2⟩ := Pvs.at_ (HS.out.below HBw.out) k hlt
        have HT := hid (pall_take Pv.ok Pv.none L k hlt HK.out)
        have HN := hid (pall_no Pv.ok Pv.none L k hlt)
        generalize L.getD k Pv.none = x at c0 c1 c2 i1 i2 HT HN
        have HI1 := hid i1
        have HI2 := hid i2
        clear i1 i2
        obtain ⟨wb, hwb, eb, A1, B1⟩ := one_new wr [.bool x.on, .slice x.ha x.hs.length x.hc, .slice x.ta x.ts.length x.tc] 49
        have l0 := A1.c 0 rfl
        have l1 := A1.c 1 rfl
        have l2 := A1.c 2 rfl
        have HBb := hid (HBr.out.trans (B1.mono HBr.out.size))
        have HBbw := hid (HBw.out.trans (B1.mono HBw.out.size))
        have HJ1 := hid (Sl.below HI1.out B1)
        have HJ2 := hid (Sl.below HI2.out B1)
        have N1 := hid (@pv_no1 x)
        have N2 := hid (@pv_no2 x)
        have N3 := hid (@pv_no3 x)
        have NY := hid (@pv_yes x)
        have HF : Hid (x.ok = false → q = false) := fun h => by rw [← HQ.out]; unfold modelOk; rw [HN.out h, Bool.and_false]
        clear A1 B1 HI1 HI2 eb HN
        by_cases e1 : x.hs.length = 4
        · by_cases e2 : x.ts.length = 4
          · have b1 : ((x.hs.length : Int) != 4) = false := by simp; omega
            have b2 : ((x.ts.length : Int) != 4) = false := by simp; omega
            have h1 : (4 : Nat) ≤ x.hs.length := by omega
            have h2 : (4 : Nat) ≤ x.ts.length := by omega
            have E1 := hid e1
            have E2 := hid e2
            clear e1 e2 N1 N2
            go_wp2
            go_loopw [5] (fun i w5 => ∃ j : Nat, j ≤ 4 ∧ i = .int .i64 (j : Int) ∧ w5 = wb ∧ Hid (∀ m, m < j → placeOk x m = true)) (fun i _ => 4 - (intOf i).toNat)
            case atStart => exact ⟨0, Nat.zero_le _, rfl, rfl, fun m hm => by omega⟩
            case round =>
              obtain ⟨j, hj, rfl, rfl, HM⟩ := hrel
              by_cases hj4 : j < 4
              · obtain ⟨g1, o1, ea1, f1⟩ := HJ1.out j (by omega)
                obtain ⟨g2, o2, ea2, f2⟩ := HJ2.out j (by omega)
                rw [ea1] at l1
                rw [ea2] at l2
                have HP : Hid (placeOk x j = !plBad x.on (x.hs.getD j false) (x.ts.getD j ByteArray.empty)) := rfl
                simp only [] at f1 f2
                generalize x.hs.getD j false = h at f1 HP
                generalize x.ts.getD j ByteArray.empty = t at f2 HP
                have hyes : Hid (plBad x.on h t = false → ∀ m, m < j + 1 → placeOk x m = true) := fun hp m hm => by
                  by_cases hmj : m = j
                  · subst hmj; rw [HP.out, hp]; rfl
                  · exact HM.out m (by omega)
                have hno : Hid (plBad x.on h t = true → q = false) := fun hp => HF.out (N3.out j hj4 (by rw [HP.out, hp]; rfl))
                have HL0 := hid l0
                generalize x.on = on at l0 hyes hno
                clear HP N3 NY HF HM
                cases h with
                | true =>
                  cases on with
                  | false =>
                    have HZ := hid (hno.out rfl)
                    clear hyes hno
                    go_wp2
                    go_ret
                    exact ⟨by rw [HZ.out]; rfl, HBbw.out⟩
                  | true =>
                    by_cases hs : 16 < t.size
                    · have HZ := hid (hno.out (by unfold plBad; simp [hs]))
                      clear hyes hno
                      have hs' : (16 : Int) < (t.size : Int) := by omega
                      go_wp2
                      go_ret
                      exact ⟨by rw [HZ.out]; rfl, HBbw.out⟩
                    · have HZ := hid (hyes.out (by unfold plBad; simp [hs]))
                      clear hyes hno
                      have hs' : ¬ (16 : Int) < (t.size : Int) := by omega
                      go_wp2
                      exact ⟨⟨j + 1, by omega, by go_num, by first | rfl | trivial, HZ⟩, by simp [intOf]; omega⟩
                | false =>
                  by_cases ht : t = ⟨#[]⟩
                  · have HZ := hid (hyes.out (by subst ht; unfold plBad; simp; decide))
                    clear hyes hno
                    subst ht
                    have hs' : ((⟨#[]⟩ : ByteArray).size) = 0 := rfl
                    go_wp2
                    exact ⟨⟨j + 1, by omega, by go_num, by first | rfl | trivial, HZ⟩, by simp [intOf]; omega⟩
                  · have HZ := hid (hno.out (by unfold plBad; simp [ht]))
                    clear hyes hno
                    have ht' := Own.eqS_no ht
                    have ht2 : (t.toList == []) = false := by rw [← ht']; congr 1; kernel_rfl
                    have ht3 : ¬ t.toList = [] := by simpa using ht2
                    go_wp2
                    go_ret
                    exact ⟨by rw [HZ.out]; rfl, HBbw.out⟩
              · obtain rfl : j = 4 := by omega
                have HTx := hid (HT.out (NY.out E1.out E2.out HM.out))
                clear N3 NY HF HM l0 l1 l2 HT
                go_wp2
                exact ⟨⟨k + 1, by omega, by go_num, HTx, HBb⟩, by simp [intOf]; omega⟩
          · have b1 : ((x.hs.length : Int) != 4) = false := by simp; omega
            have b2 : ((x.ts.length : Int) != 4) = true := by simp; omega
            have HZ := hid (HF.out (N2.out e2))
            clear N1 N2 N3 NY HF HT e1 e2
            go_wp2
            go_ret
            exact ⟨by rw [HZ.out]; rfl, HBbw.out⟩
        · have b1 : ((x.hs.length : Int) != 4) = true := by simp; omega
          have HZ := hid (HF.out (N1.out e1))
          clear N1 N2 N3 NY HF HT e1
          go_wp2
          go_ret
          exact ⟨by rw [HZ.out]; rfl, HBbw.out⟩
      · obtain rfl : k = L.length := by omega
        have HV : Hid (q = true) := by
          rw [Hid, ← HQ.out]
          unfold modelOk
          have := HK.out
          rw [List.take_length] at this
          rw [this, decide_eq_true H4.out]; rfl
        clear HK
        go_wp2
        go_ret
        exact ⟨by rw [HV.out]; rfl, HBw.out⟩
  · have b4 : ((L.length : Int) != 4) = true := by simp; omega
    have HZ : Hid (q = false) := by
      rw [Hid, ← HQ.out]
      unfold modelOk
      rw [decide_eq_false h4]; rfl
    clear h4
    go_wp2
    go_ret
    exact ⟨by rw [HZ.out]; rfl, HB.out⟩

end Go.Proofs.Ytieohdfhbfeoaaa.Pl
