/-
  The walk of laws.FnExactAbstract: the law answers true, and nothing that was there is changed. Condition: the tables of sixteen sums and of the kinds' sizes and the error of a part that lacks stand in their variables.
-/
import Derived.Test.YtlbfcnpnfoapnaaGreatDoorAbSpec
import Derived.Test.YtlbfcnpnfoapnaaGreatDoorJoin6
import Derived.Test.YtlbfcnpnfoapnaaGreatDoorJoin1
namespace Go.Proofs.YtlbfcnpnfoapnaaGreatDoor.Ab
open Go.RowKit Go.Proofs.YtlbfcnpnfoapnaaGreatDoor.Mem Go.Proofs.YtlbfcnpnfoapnaaGreatDoor.Sec Go.Proofs.YtlbfcnpnfoapnaaGreatDoor.Rd Go.Proofs.YtlbfcnpnfoapnaaGreatDoor.Pk Go.Proofs.YtlbfcnpnfoapnaaGreatDoor.Pl Go.Proofs.YtlbfcnpnfoapnaaGreatDoor.Tr
set_option linter.unusedVariables false

theorem abs_small {R : ByteArray → Int × Nat} (hR : Reads R) {l : List ByteArray} (hz : ∀ s ∈ l, s.size ≤ 1048576) {M : List Pv} (h : M.map Pv.data = absD R l) : M.length ≤ 1048576 ∧ ∀ x ∈ M, x.Upto 1048576 := by
  have hg := getD_size (settle_small hR hz)
  unfold absD at h
  split at h
  · refine ⟨by have := congrArg List.length h; simp [avols] at this; omega, fun x hx => ?_⟩
    have h1 : x.data ∈ M.map Pv.data := List.mem_map_of_mem hx
    rw [h] at h1
    obtain ⟨d, hd, e⟩ := List.mem_map.1 h1
    obtain ⟨i, _, rfl⟩ := List.mem_map.1 hd
    obtain ⟨a, b, c, dd, ee, f, g⟩ := x
    have ht : ∀ k, ((avol R (Re.settle R l) i).2.2 k).size ≤ 1048576 := fun k => by
      unfold avol
      split
      · show (mapT _ _ k).size ≤ 1048576
        unfold mapT
        split
        · exact hg _
        · exact Nat.zero_le _
      · exact Nat.zero_le _
    simp only [Pv.data, ivData, Prod.mk.injEq] at e
    obtain ⟨_, rfl, rfl⟩ := e
    refine ⟨by simp, by simp, fun s hs => ?_⟩
    obtain ⟨k, _, rfl⟩ := List.mem_map.1 hs
    have := ht k
    omega
  · have : M = [] := by simpa using h
    subst this
    exact ⟨by simp, fun x hx => by simp at hx⟩

set_option maxRecDepth 100000 in
set_option maxHeartbeats 8000000 in
theorem lawAbstract (w : World) (a : Option Addr) (cap : Nat) (l : List ByteArray) (S : Strs w a l) (hl : l.length ≤ maxLen) (hz : ∀ s ∈ l, s.size ≤ maxLen) (u : TypeId) (pv : Value) (hL : Lacks w u pv) (T : Sums w) (K : Sector.Kinds w) (hg : 0 < w.heap.size) :
    Calls Tryz.prog 5 #[.slice a l.length cap] w fun e w' => e = .returned (.bool true) ∧ Below w.heap.size w w' := by
  obtain ⟨R, hR, hTx⟩ := reads_ex2
  have HR := hid hR
  have HTx := hid hTx
  have HS := hid S
  have HL := hid hL
  have HT := hid T
  have HK := hid K
  have HG := hid hg
  have HM := hid hl
  have HZ := hid hz
  clear hR hTx S hL T K hg hz
  go_enter Tryz.func5, Tryz.ntmps5
  go_wp2_with fail
  refine (szStringS w a cap l 1048576 HS.out HM.out HZ.out (by decide) (by decide)).mono ?_
  rintro e w1 ⟨r, rfl, hw1, hf⟩
  obtain rfl := hw1.symm
  have HF := hid hf
  clear hf hl
  by_cases hneg : r < 0
  · go_wp2
    go_ret
    exact ⟨rfl, Below.refl _ _⟩
  have hfit : (l.length : Int) ≤ 1048576 ∧ ∀ s ∈ l, (s.size : Int) ≤ 1048576 := by
    rcases HF.out with h | h
    · omega
    · exact h.2.2
  have hl20 : l.length ≤ 1048576 := by omega
  have HZ20 : Hid (∀ s ∈ l, s.size ≤ 1048576) := fun s hs => by have := hfit.2 s hs; omega
  clear hfit HF HZ
  have HSm := hid (fun (M : List Pv) (h : M.map Pv.data = absD R l) => abs_small HR.out HZ20.out h)
  have HSp := hid (fun w => sAbstract R HR.out w)
  have HIm := hid (fun w => iAbstract R HR.out HTx.out w)
  go_wp2_with fail
  refine (toStringS w a cap l HS.out hl20).mono ?_
  rintro e w2 ⟨g, rfl, _, _, hW2, b2⟩
  have HB2 := hid b2
  have HS2 := hid (Wr.sl hW2)
  clear hW2 b2
  go_wp2_with fail
  refine (HSp.out w2 (some ⟨g, 0, none⟩) l.length l HS2.out hl20 HZ20.out).mono ?_
  rintro e wA ⟨a1, c1, M1, rfl, P1, D1, bA⟩
  have HDs := hid (fun (M : List Pv) (h : M.map Pv.data = absD R l) => h.trans D1.symm)
  obtain ⟨q, hq⟩ : ∃ q, absOk R l = q := ⟨_, rfl⟩
  rw [hq]
  have HQq := hid hq
  clear hq
  obtain ⟨D, hD⟩ : ∃ D, absD R l = D := ⟨_, rfl⟩
  rw [hD] at D1 HSm HDs
  have HDd := hid hD
  have HD1 := hid D1
  unfold plV
  obtain ⟨wB, hwB, eB, X1, BB⟩ := one_new wA [.slice a1 M1.length c1] 33
  have HX1 := hid X1
  have HP1 := hid (P1.below BB)
  have hf1 : ∀ b, pfoot a1 M1 b → b < wA.heap.size := fun b hb => (P1.pfoot_ge hb).2
  have HF1 := hid hf1
  have HBB := hid (HB2.out.trans ((bA.trans (BB.mono bA.size)).mono HB2.out.size))
  clear bA BB P1 D1 X1 eB HS2 hD hf1
  go_wp2_with fail
  try simp only [hwB]
  clear hwB
  refine (toStringS wB a cap l (Sl.below HS.out HBB.out) hl20).mono ?_
  rintro e wC ⟨g2, rfl, hg2, hg3, hWC, bC⟩
  have HXC := hid (HX1.out.below bC HX1.out.lt)
  have HPC := hid (HP1.out.below bC)
  have HSx : Hid (StrsW wC wB.heap.size (some ⟨g2, 0, none⟩) l) := hWC
  have HBC := hid (HBB.out.trans (bC.mono HBB.out.size))
  have hab : wA.heap.size < wB.heap.size := HX1.out.lt
  have HGx : Hid (∀ b, foot (some ⟨g2, 0, none⟩) l.length b → b = g2) := fun b hb => by obtain ⟨_, o, e⟩ := hb; cases e; rfl
  clear hWC bC HX1 HP1
  go_wp2_with fail
  refine (HIm.out wC (some ⟨g2, 0, none⟩) l.length l (Wr.sl HSx.out) hl20 HZ20.out u pv (HL.out.kept (Kept.of_below (S := fun _ => False) HBC.out) (fun x => x)) (HT.out.below HBC.out) (kinds_below HK.out HG.out HBC.out) (Nat.lt_of_lt_of_le HG.out HBC.out.size)).mono ?_
  rintro e wD ⟨a2, c2, M2, rfl, P2, D2, bD⟩
  rw [HDd.out] at D2
  rw [HQq.out]
  unfold plV
  obtain ⟨wE, hwE, eE, X2, BE⟩ := one_new wD [.slice a2 M2.length c2] 33
  have HX2 := hid X2
  have HP2 := hid (P2.below BE)
  have HD2 := hid D2
  have hDE := bD.trans (BE.mono bD.size)
  have HXE := hid (HXC.out.below hDE HXC.out.lt)
  have HPE := hid (HPC.out.below hDE)
  have HSE : Hid (StrsW wE wB.heap.size (some ⟨g2, 0, none⟩) l) := Wr.below HSx.out hDE
  have HBE := hid (HBC.out.trans (hDE.mono HBC.out.size))
  have hf2 : ∀ b, pfoot a2 M2 b → wC.heap.size ≤ b ∧ b < wD.heap.size := fun b hb => P2.pfoot_ge hb
  have HF2 := hid hf2
  have hcd : wC.heap.size ≤ wD.heap.size := bD.size
  have k1 := HXE.out.c 0 rfl
  have k2 := X2.c 0 rfl
  clear bD BE P2 D2 X2 eE hf2 hDE HXC HPC HSx
  have hSm2 := hid (HSm.out M2 HD2.out)
  go_wp2_with fail
  try simp only [hwE]
  clear hwE
  refine (eqPool wE a2 a1 c2 c1 M2 M1 HP2.out.r HPE.out.r (HD2.out.trans HD1.out.symm) (len_max hSm2.out.1) (upto_max hSm2.out.2)).mono ?_
  rintro e wF ⟨rfl, bF⟩
  have HXF := hid (HXE.out.below bF HXE.out.lt)
  have HPF := hid (HPE.out.below bF)
  have HX2F := hid (HX2.out.below bF HX2.out.lt)
  have HP2F := hid (HP2.out.below bF)
  have HSF : Hid (StrsW wF wB.heap.size (some ⟨g2, 0, none⟩) l) := Wr.below HSE.out bF
  have HBF := hid (HBE.out.trans (bF.mono HBE.out.size))
  clear bF k1 k2 HXE HPE HX2 HP2 HSE
  have hqq : (q != q) = false := by cases q <;> rfl
  go_wp2_with fail
  refine (toStringS wF a cap l (Sl.below HS.out HBF.out) hl20).mono ?_
  rintro e wG ⟨g4, rfl, _, _, hWG, bG⟩
  have HSn : Hid (Strs wG (some ⟨g4, 0, none⟩) l) := Wr.sl hWG
  have HXG := hid (HXF.out.below bG HXF.out.lt)
  have HPG := hid (HPF.out.below bG)
  have HX2G := hid (HX2F.out.below bG HX2F.out.lt)
  have HP2G := hid (HP2F.out.below bG)
  have HSG : Hid (StrsW wG wB.heap.size (some ⟨g2, 0, none⟩) l) := Wr.below HSF.out bG
  have HBG := hid (HBF.out.trans (bG.mono HBF.out.size))
  clear hWG bG HXF HPF HX2F HP2F HSF
  go_wp2_with fail
  refine (eqStringS wG (some ⟨g2, 0, none⟩) (some ⟨g4, 0, none⟩) l.length l.length l l (Wr.sl HSG.out) HSn.out HM.out HM.out).mono ?_
  rintro e wH ⟨rfl, bH⟩
  rw [decide_eq_true (rfl : l = l)]
  have HXH := hid (HXG.out.below bH HXG.out.lt)
  have HPH := hid (HPG.out.below bH)
  have HX2H := hid (HX2G.out.below bH HX2G.out.lt)
  have HP2H := hid (HP2G.out.below bH)
  have HSH : Hid (StrsW wH wB.heap.size (some ⟨g2, 0, none⟩) l) := Wr.below HSG.out bH
  have HBH := hid (HBG.out.trans (bH.mono HBG.out.size))
  clear bH HXG HPG HX2G HP2G HSG HSn
  go_wp2_with fail
  refine (markStringS wH wB.heap.size (some ⟨g2, 0, none⟩) l.length l.length 1 _ HSH.out (by decide) (by omega)).mono ?_
  rintro e wI ⟨rfl, _, kI⟩
  have HXI := hid (HXH.out.kept kI (fun hb => by have := HGx.out _ hb; omega))
  have HPI := hid (HPH.out.move kI (fun b hb x => by have := HGx.out _ x; have := HF1.out b hb; omega))
  have HX2I := hid (HX2H.out.kept kI (fun hb => by have := HGx.out _ hb; omega))
  have HP2I := hid (HP2H.out.move kI (fun b hb x => by have := HGx.out _ x; have := HF2.out b hb; omega))
  have hwB2 : w.heap.size ≤ wB.heap.size := HBB.out.size
  have HBI := hid (HBH.out.trans (kI.below HBH.out.size (fun b hb x => by have := HGx.out _ x; omega)))
  have hk9 : (0 : Int) ≤ ((1 + l.length : Nat) : Int) := by omega
  generalize ((1 + l.length : Nat) : Int) = kk at *
  have k1 := HXI.out.c 0 rfl
  have k2 := HX2I.out.c 0 rfl
  clear kI HXH HPH HX2H HP2H HSH
  go_wp2_with fail
  refine (eqPool wI a2 a1 c2 c1 M2 M1 HP2I.out.r HPI.out.r (HD2.out.trans HD1.out.symm) (len_max hSm2.out.1) (upto_max hSm2.out.2)).mono ?_
  rintro e wJ ⟨rfl, bJ⟩
  have HXJ := hid (HXI.out.below bJ HXI.out.lt)
  have HPJ := hid (HPI.out.below bJ)
  have HX2J := hid (HX2I.out.below bJ HX2I.out.lt)
  have HP2J := hid (HP2I.out.below bJ)
  have HBJ := hid (HBI.out.trans (bJ.mono HBI.out.size))
  clear bJ k1 k2 HXI HPI HX2I HP2I
  have k2 := HX2J.out.c 0 rfl
  go_wp2_with fail
  refine (markPool wJ wC.heap.size a2 c2 1 M2 HP2J.out (by decide) (tot_ok hSm2.out.1 hSm2.out.2) hSm2.out.1).mono ?_
  rintro e wK ⟨rfl, P6, K6⟩
  have HX2K := hid (HX2J.out.kept K6 (fun hb => by have := HF2.out _ hb; omega))
  have HXK := hid (HXJ.out.kept K6 (fun hb => by have := HF2.out _ hb; omega))
  have HPK := hid (HPJ.out.move K6 (fun b hb x => by have := HF2.out _ x; have := HF1.out b hb; omega))
  have HP2K := hid P6
  have HBK := hid (HBJ.out.trans (K6.below HBJ.out.size (fun b hb x => by have := HF2.out _ x; omega)))
  have HTt := hid (tot_ok hSm2.out.1 hSm2.out.2)
  clear P6 K6 k2 HX2J HP2J HXJ HPJ
  generalize hTT : 1 + totPv M2 = TT
  have HTq := hid hTT
  have hT0 : ¬ (TT : Int) < 0 := by omega
  clear hTT
  have k2 := HX2K.out.c 0 rfl
  go_wp2_with fail
  refine (heldPool wK a2 c2 1 M2 HP2K.out.r (by decide) HTt.out hSm2.out.1).mono ?_
  rintro e wL ⟨rfl, bL⟩
  rw [HTq.out]
  have HX2L := hid (HX2K.out.below bL HX2K.out.lt)
  have HP2L := hid (HP2K.out.below bL)
  have HXL := hid (HXK.out.below bL HXK.out.lt)
  have HPL := hid (HPK.out.below bL)
  have HBL := hid (HBK.out.trans (bL.mono HBK.out.size))
  clear bL k2 HX2K HP2K HXK HPK
  go_wp2_with fail
  refine (toStringS wL a cap l (Sl.below HS.out HBL.out) hl20).mono ?_
  rintro e wM ⟨g6, rfl, _, _, hWM, bM⟩
  have HSM : Hid (Strs wM (some ⟨g6, 0, none⟩) l) := Wr.sl hWM
  have HX2M := hid (HX2L.out.below bM HX2L.out.lt)
  have HP2M := hid (HP2L.out.below bM)
  have HXM := hid (HXL.out.below bM HXL.out.lt)
  have HPM := hid (HPL.out.below bM)
  have HBM := hid (HBL.out.trans (bM.mono HBL.out.size))
  clear hWM bM HX2L HP2L HXL HPL
  go_wp2_with fail
  refine (HIm.out wM (some ⟨g6, 0, none⟩) l.length l HSM.out hl20 HZ20.out u pv (HL.out.kept (Kept.of_below (S := fun _ => False) HBM.out) (fun x => x)) (HT.out.below HBM.out) (kinds_below HK.out HG.out HBM.out) (Nat.lt_of_lt_of_le HG.out HBM.out.size)).mono ?_
  rintro e wN ⟨a3, c3, M3, rfl, P3, D3, bN⟩
  rw [HDd.out] at D3
  rw [HQq.out]
  unfold plV
  obtain ⟨wO, hwO, eO, X3, BO⟩ := one_new wN [.slice a3 M3.length c3] 33
  have hNO := bN.trans (BO.mono bN.size)
  have HP3 := hid (P3.r.below BO)
  have HD3 := hid D3
  have k3 := X3.c 0 rfl
  have HX2O := hid (HX2M.out.below hNO HX2M.out.lt)
  have HP2O := hid (HP2M.out.below hNO)
  have HPO := hid (HPM.out.below hNO)
  have HBO := hid (HBM.out.trans (hNO.mono HBM.out.size))
  have k1 := (HXM.out.below hNO HXM.out.lt).c 0 rfl
  have hSm3 := hid (HSm.out M3 HD3.out)
  clear bN BO P3 D3 X3 eO hNO HX2M HP2M HPM HXM HSM
  go_wp2_with fail
  try simp only [hwO]
  clear hwO
  refine (eqPool wO a3 a1 c3 c1 M3 M1 HP3.out HPO.out.r (HD3.out.trans HD1.out.symm) (len_max hSm3.out.1) (upto_max hSm3.out.2)).mono ?_
  rintro e wP ⟨rfl, bP⟩
  have k2 := (HX2O.out.below bP HX2O.out.lt).c 0 rfl
  have HP2P := hid (HP2O.out.below bP)
  have HBP := hid (HBO.out.trans (bP.mono HBO.out.size))
  clear bP k1 k3 HPO HX2O HP2O
  go_wp2_with fail
  refine (heldPool wP a2 c2 1 M2 HP2P.out.r (by decide) HTt.out hSm2.out.1).mono ?_
  rintro e wQ ⟨rfl, bQ⟩
  rw [HTq.out]
  have HBQ := hid (HBP.out.trans (bQ.mono HBP.out.size))
  clear bQ k2
  go_wp2
  go_ret
  exact ⟨rfl, HBQ.out⟩

end Go.Proofs.YtlbfcnpnfoapnaaGreatDoor.Ab
