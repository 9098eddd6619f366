/-
  The law of FoldPool. No condition.
-/
import Derived.Test.YtbnpnhcegoanmaaFoI
import Derived.Test.YtbnpnhcegoanmaaEv3
import Derived.Test.YtbnpnhcegoanmaaPpNewLaw
namespace Go.Proofs.Ytbnpnhcegoanmaa.Pl
open Go.RowKit Go.Proofs.Ytbnpnhcegoanmaa.Mem
set_option linter.unusedVariables false

theorem ans_small {l : List Ev} {n : Int} {M : List Pv} (hs : ∀ e ∈ l, e.s.size ≤ 1048576) (h : M.map Pv.data = (foldAns l n).1) : M.length ≤ 1048576 ∧ ∀ x ∈ M, x.Upto 1048576 := by
  unfold foldAns at h
  split at h
  · have := four_pool (four_fold (l.take n.toNat) (fun e he => hs e (List.mem_of_mem_take he))) h
    exact ⟨by have := this.1; omega, this.2.2⟩
  · have : M = [] := by simpa using h
    subst this
    exact ⟨by simp, by simp⟩

set_option maxRecDepth 100000 in
set_option maxHeartbeats 4000000 in
theorem lawFoldPool (w : World) (al : Option Addr) (cl : Nat) (l : List Ev) (n : Int) (S : Evs w al l) (hl : l.length ≤ maxLen) (hs : ∀ x ∈ l, x.s.size ≤ maxLen) :
    Calls Try.prog 3 #[.slice al l.length cl, .int .i64 n] w fun e w' => e = .returned (.bool true) ∧ Below w.heap.size w w' := by
  have HS := hid S
  have HC := hid (szEventS w al cl l 1048576 S hl hs (by decide) (by decide))
  clear S hl hs
  go_enter Try.func3, Try.ntmps3
  go_wp2_with fail
  refine HC.out.mono ?_
  rintro e w1 ⟨r, rfl, b1, hf⟩
  have HB1 := hid b1
  have HF := hid hf
  clear b1 hf HC
  by_cases hr : r < 0
  · go_wp2
    go_ret
    exact ⟨rfl, HB1.out⟩
  have hl : Hid (l.length ≤ 1048576) := by rcases HF.out with h | h; exact absurd h hr; rw [Hid]; omega
  have hs : Hid (∀ e ∈ l, e.s.size ≤ 1048576) := by
    rcases HF.out with h | h
    · exact absurd h hr
    · exact fun e he => by have := h.2.2.2 e he; have := h.2.1; omega
  have hj : Hid (∀ j, (l.getD j Ev.none).s.size ≤ 1048576) := fun j => by
    by_cases hj : j < l.length
    · exact hs.out _ (by simp [List.getD, hj])
    · simp [List.getD, List.getElem?_eq_none (Nat.le_of_not_lt hj), Ev.none]
  have HSm : Hid (∀ M : List Pv, M.map Pv.data = (foldAns l n).1 → M.length ≤ 1048576 ∧ ∀ x ∈ M, x.Upto 1048576) := fun M h => ans_small hs.out h
  clear HF
  generalize hfa : foldAns l n = fa at HSm
  have HFa := hid hfa
  clear hfa
  obtain ⟨fd, fq⟩ := fa
  simp only [] at HSm
  have hbb : (fq != fq) = false := by cases fq <;> rfl
  -- the specification's answer
  have HT1 := hid (toEventS w1 al cl l (HS.out.below HB1.out) hl.out)
  go_wp2_with fail
  refine HT1.out.mono ?_
  rintro e w2 ⟨g1, rfl, hg1, hlt1, E1, b2⟩
  have HE1 := hid E1
  have HB2 := hid (HB1.out.trans (b2.mono HB1.out.size))
  clear b2 E1 HT1
  have HS2 := hid (sFoldPool w2 (some ⟨g1, 0, none⟩) l.length l n HE1.out.sl hl.out hs.out)
  rw [HFa.out] at HS2
  go_wp2_with fail
  refine HS2.out.mono ?_
  rintro e w3 ⟨a1, c1, M1, rfl, P1, D1, b3⟩
  unfold plV
  obtain ⟨w4, hw4, e4, X1, B4⟩ := one_new w3 [.slice a1 M1.length c1] 26
  have HX1 := hid X1
  have HP1 := hid (P1.r.below B4)
  have HPl : Hid (∀ b, pfoot a1 M1 b → b < w3.heap.size) := fun b hb => (P1.pfoot_ge hb).2
  have HP1w := hid (P1.below B4)
  have HD1 := hid D1
  have HB4 := hid (HB2.out.trans ((b3.trans (B4.mono b3.size)).mono HB2.out.size))
  have hx1l : Hid (w3.heap.size < w4.heap.size) := X1.lt
  have hw4s : Hid (w.heap.size ≤ w4.heap.size) := HB4.out.size
  clear b3 B4 P1 D1 X1 e4 HS2
  have HT2 := hid (toEventS w4 al cl l (HS.out.below HB4.out) hl.out)
  go_wp2_with fail
  try simp only [hw4]
  clear hw4
  refine HT2.out.mono ?_
  rintro e w5 ⟨g2, rfl, hg2, hlt2, E2, b5⟩
  have HE2 := hid E2
  have HX1 := hid (HX1.out.below b5 HX1.out.lt)
  have HP1 := hid (HP1w.out.below b5)
  have HB5 := hid (HB4.out.trans (b5.mono HB4.out.size))
  have hg2' := hid hg2
  have hlt2' := hid hlt2
  clear b5 E2 HT2 HP1w hg2 hlt2
  have HI2 := hid (iFoldPool w5 (some ⟨g2, 0, none⟩) l.length l n HE2.out.sl hl.out (Nat.le_refl _) hj.out)
  rw [HFa.out] at HI2
  go_wp2_with fail
  refine HI2.out.mono ?_
  rintro e w6 ⟨a2, c2, M2, rfl, P2, D2, b6⟩
  unfold plV
  obtain ⟨w7, hw7, e7, X2, B7⟩ := one_new w6 [.slice a2 M2.length c2] 26
  have h56 : Hid (w5.heap.size ≤ w6.heap.size) := b6.size
  have HF2 : Hid (∀ b, pfoot a2 M2 b → b < w6.heap.size) := fun b hb => (P2.pfoot_ge hb).2
  have hbb7 := b6.trans (B7.mono b6.size)
  have HX2 := hid X2
  have HP2 := hid (P2.below B7)
  have HD2 := hid D2
  replace HX1 := hid (HX1.out.below hbb7 HX1.out.lt)
  replace HP1 := hid (HP1.out.below hbb7)
  replace HE2 := hid (HE2.out.below hbb7)
  have HB := hid (HB5.out.trans (hbb7.mono HB5.out.size))
  clear b6 B7 P2 D2 X2 e7 HI2 hbb7 HB5 HB4 HB2 HB1 HE1
  have k1 := HX1.out.c 0 rfl
  have k2 := HX2.out.c 0 rfl
  go_wp2_with fail
  try simp only [hw7]
  clear hw7
  refine (eqPool w7 a2 a1 c2 c1 M2 M1 HP2.out.r HP1.out.r (HD2.out.trans HD1.out.symm) (len_max (HSm.out _ HD2.out).1) (upto_max (HSm.out _ HD2.out).2)).mono ?_
  rintro e w8 ⟨rfl, b8⟩
  replace HX1 := hid (HX1.out.below b8 HX1.out.lt)
  replace HX2 := hid (HX2.out.below b8 HX2.out.lt)
  replace HP1 := hid (HP1.out.below b8)
  replace HP2 := hid (HP2.out.below b8)
  replace HB := hid (HB.out.trans (b8.mono HB.out.size))
  replace HE2 := hid (HE2.out.below b8)
  clear b8 k1 k2
  have HT3 := hid (toEventS w8 al cl l (HS.out.below HB.out) hl.out)
  go_wp2_with fail
  refine HT3.out.mono ?_
  rintro e w9 ⟨g3, rfl, hg3, hlt3, E3, b9⟩
  have HE3 := hid E3
  replace HX1 := hid (HX1.out.below b9 HX1.out.lt)
  replace HX2 := hid (HX2.out.below b9 HX2.out.lt)
  replace HP1 := hid (HP1.out.below b9)
  replace HP2 := hid (HP2.out.below b9)
  replace HB := hid (HB.out.trans (b9.mono HB.out.size))
  replace HE2 := hid (HE2.out.below b9)
  clear b9 E3 HT3 hg3 hlt3
  have HQ := hid (eqEventS w9 (some ⟨g2, 0, none⟩) (some ⟨g3, 0, none⟩) l.length l.length l HE2.out.sl HE3.out.sl (len_max hl.out))
  go_wp2_with fail
  refine HQ.out.mono ?_
  rintro e w10 ⟨rfl, b10⟩
  replace HX1 := hid (HX1.out.below b10 HX1.out.lt)
  replace HX2 := hid (HX2.out.below b10 HX2.out.lt)
  replace HP1 := hid (HP1.out.below b10)
  replace HP2 := hid (HP2.out.below b10)
  replace HB := hid (HB.out.trans (b10.mono HB.out.size))
  replace HE2 := hid (HE2.out.below b10)
  clear b10 HQ HE3
  have HM := hid (markEventS w10 w4.heap.size (some ⟨g2, 0, none⟩) l.length l.length 1 (evcell l) HE2.out (by decide) hl.out (by have := hl.out; omega))
  go_wp2_with fail
  refine HM.out.mono ?_
  rintro e w11 ⟨rfl, _, K11⟩
  have hfg : ∀ b, foot (some ⟨g2, 0, none⟩) (l.length * 7) b → b = g2 := fun b h => by obtain ⟨_, o, e⟩ := h; cases e; rfl
  replace HX1 := hid (HX1.out.kept K11 (fun h => by have := hfg _ h; have := hg2'.out; have := hx1l.out; omega))
  replace HX2 := hid (HX2.out.kept K11 (fun h => by have := hfg _ h; have := hlt2'.out; have := h56.out; omega))
  replace HP1 := hid (HP1.out.move K11 (fun b hb h => by have := hfg _ h; have := HPl.out _ hb; have := hg2'.out; have := hx1l.out; omega))
  replace HP2 := hid (HP2.out.move K11 (fun b hb h => by have := hfg _ h; have := (HP2.out.pfoot_ge hb).1; have := hlt2'.out; omega))
  replace HB := hid (HB.out.trans (K11.below HB.out.size (fun b hb h => by have := hfg _ h; have := hg2'.out; have := hw4s.out; omega)))
  clear K11 HM HE2 hfg
  generalize hT : 1 + l.length * 7 = T
  have hT0 : ¬ (T : Int) < 0 := by omega
  clear hT
  have k1 := HX1.out.c 0 rfl
  have k2 := HX2.out.c 0 rfl
  go_wp2_with fail
  refine (eqPool w11 a2 a1 c2 c1 M2 M1 HP2.out.r HP1.out.r (HD2.out.trans HD1.out.symm) (len_max (HSm.out _ HD2.out).1) (upto_max (HSm.out _ HD2.out).2)).mono ?_
  rintro e w12 ⟨rfl, b12⟩
  replace HX1 := hid (HX1.out.below b12 HX1.out.lt)
  replace HX2 := hid (HX2.out.below b12 HX2.out.lt)
  replace HP1 := hid (HP1.out.below b12)
  replace HP2 := hid (HP2.out.below b12)
  replace HB := hid (HB.out.trans (b12.mono HB.out.size))
  clear b12 k1 k2 hT0
  have k2 := HX2.out.c 0 rfl
  go_wp2_with fail
  refine (markPool w12 w5.heap.size a2 c2 1 M2 HP2.out (by decide) (tot_ok (HSm.out _ HD2.out).1 (HSm.out _ HD2.out).2) (HSm.out _ HD2.out).1).mono ?_
  rintro e w13 ⟨rfl, P6, K6⟩
  have hge := fun b (hb : pfoot a2 M2 b) => (HP2.out.pfoot_ge hb).1
  replace HX1 := hid (HX1.out.kept K6 (fun hb => by have := hge _ hb; have := hg2'.out; have := hx1l.out; have := hlt2'.out; omega))
  replace HX2 := hid (HX2.out.kept K6 (fun hb => by have := HF2.out _ hb; omega))
  replace HP1 := hid (HP1.out.move K6 (fun b hb h => by have := hge _ h; have := HPl.out _ hb; have := hg2'.out; have := hx1l.out; have := hlt2'.out; omega))
  replace HB := hid (HB.out.trans (K6.below HB.out.size (fun b hb h => by have := hge _ h; have := hg2'.out; have := hlt2'.out; have := hw4s.out; omega)))
  replace HP2 := hid P6
  have HTk := hid (tot_ok (HSm.out _ HD2.out).1 (HSm.out _ HD2.out).2)
  clear P6 K6 k2 hge
  generalize hT : 1 + totPv M2 = T
  have HTq := hid hT
  have hT0 : ¬ (T : Int) < 0 := by omega
  clear hT
  have k2 := HX2.out.c 0 rfl
  go_wp2_with fail
  refine (heldPool w13 a2 c2 1 M2 HP2.out.r (by decide) HTk.out (HSm.out _ HD2.out).1).mono ?_
  rintro e w14 ⟨rfl, b14⟩
  rw [HTq.out]
  replace HX1 := hid (HX1.out.below b14 HX1.out.lt)
  replace HX2 := hid (HX2.out.below b14 HX2.out.lt)
  replace HP1 := hid (HP1.out.below b14)
  replace HP2 := hid (HP2.out.below b14)
  replace HB := hid (HB.out.trans (b14.mono HB.out.size))
  clear b14 k2
  have HT4 := hid (toEventS w14 al cl l (HS.out.below HB.out) hl.out)
  go_wp2_with fail
  refine HT4.out.mono ?_
  rintro e w15 ⟨g4, rfl, hg4, hlt4, E4, b15⟩
  have HE4 := hid E4
  replace HX1 := hid (HX1.out.below b15 HX1.out.lt)
  replace HX2 := hid (HX2.out.below b15 HX2.out.lt)
  replace HP1 := hid (HP1.out.below b15)
  replace HP2 := hid (HP2.out.below b15)
  replace HB := hid (HB.out.trans (b15.mono HB.out.size))
  clear b15 E4 HT4 hg4 hlt4
  have HI3 := hid (iFoldPool w15 (some ⟨g4, 0, none⟩) l.length l n HE4.out.sl hl.out (Nat.le_refl _) hj.out)
  rw [HFa.out] at HI3
  go_wp2_with fail
  refine HI3.out.mono ?_
  rintro e w16 ⟨a3, c3, M3, rfl, P3, D3, b16⟩
  unfold plV
  obtain ⟨w17, hw17, e17, X3, B17⟩ := one_new w16 [.slice a3 M3.length c3] 26
  have hb17 := b16.trans (B17.mono b16.size)
  have HP3 := hid (P3.r.below B17)
  have HD3 := hid D3
  replace HX1 := hid (HX1.out.below hb17 HX1.out.lt)
  replace HX2 := hid (HX2.out.below hb17 HX2.out.lt)
  replace HP1 := hid (HP1.out.below hb17)
  replace HP2 := hid (HP2.out.below hb17)
  replace HB := hid (HB.out.trans (hb17.mono HB.out.size))
  have k3 := X3.c 0 rfl
  have k1 := HX1.out.c 0 rfl
  clear b16 B17 P3 D3 X3 e17 HI3 hb17 HE4
  go_wp2_with fail
  try simp only [hw17]
  clear hw17
  refine (eqPool w17 a3 a1 c3 c1 M3 M1 HP3.out HP1.out.r (HD3.out.trans HD1.out.symm) (len_max (HSm.out _ HD3.out).1) (upto_max (HSm.out _ HD3.out).2)).mono ?_
  rintro e w18 ⟨rfl, b18⟩
  replace HX1 := hid (HX1.out.below b18 HX1.out.lt)
  replace HX2 := hid (HX2.out.below b18 HX2.out.lt)
  replace HP1 := hid (HP1.out.below b18)
  replace HP2 := hid (HP2.out.below b18)
  replace HB := hid (HB.out.trans (b18.mono HB.out.size))
  clear b18 k1 k3
  have k2 := HX2.out.c 0 rfl
  go_wp2_with fail
  refine (heldPool w18 a2 c2 1 M2 HP2.out.r (by decide) HTk.out (HSm.out _ HD2.out).1).mono ?_
  rintro e w19 ⟨rfl, b19⟩
  rw [HTq.out]
  replace HB := hid (HB.out.trans (b19.mono HB.out.size))
  clear b19 k2
  go_wp2
  go_ret
  exact ⟨rfl, HB.out⟩

end Go.Proofs.Ytbnpnhcegoanmaa.Pl
