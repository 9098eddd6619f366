/-
  The law of NewPool. No condition.
-/
import Derived.Test.YtieohdfhbfeoaaaPpNew
import Derived.Test.YtieohdfhbfeoaaaPpOk2
namespace Go.Proofs.Ytieohdfhbfeoaaa.Pl
open Go.RowKit Go.Proofs.Ytieohdfhbfeoaaa.Mem
set_option linter.unusedVariables false

theorem totPv_le {L : List Pv} (h : ∀ x ∈ L, x.Upto 1048576) : totPv L ≤ L.length * 2097153 := by
  induction L with
  | nil => simp [totPv]
  | cons x L ih =>
    have h1 := h x (by simp)
    have h2 := ih (fun y hy => h y (by simp [hy]))
    have h3 := h1.1
    have h4 := h1.2.1
    simp only [totPv, Pv.sz, List.length_cons]
    omega
theorem tot_ok {L : List Pv} (hl : L.length ≤ 1048576) (h : ∀ x ∈ L, x.Upto 1048576) : 1 + totPv L ≤ 4611686018427387904 := by
  have := totPv_le h
  omega

theorem none_small {M : List Pv} (h : M.map Pv.data = List.replicate 4 noneD) : M.length ≤ 1048576 ∧ ∀ x ∈ M, x.Upto 1048576 := by
  have hl : M.length = 4 := by have := congrArg List.length h; simpa using this
  refine ⟨by omega, fun x hx => ?_⟩
  have h1 : x.data ∈ M.map Pv.data := List.mem_map_of_mem hx
  rw [h] at h1
  have h2 := List.eq_of_mem_replicate h1
  obtain ⟨a, b, c, d, e, f, g⟩ := x
  simp only [Pv.data, noneD, Prod.mk.injEq] at h2
  obtain ⟨rfl, rfl, rfl⟩ := h2
  refine ⟨by show ((4 : Nat) : Int) ≤ 1048576; decide, by show ((4 : Nat) : Int) ≤ 1048576; decide, fun s hs => ?_⟩
  have : s = ⟨#[]⟩ := by simpa using hs
  subst this
  decide

/-- Marks laid into what lies from B on leave all below B. -/
theorem marked_below {w w' : World} {B : Nat} {a : Option Addr} {L : List Pv} (h : PvsW w B a L) (hB : B ≤ w.heap.size) (k : Kept (pfoot a L) w w') : Below B w w' :=
  k.below hB (fun b hb hf => by have := (h.pfoot_ge hf).1; omega)

set_option maxRecDepth 100000 in
set_option maxHeartbeats 4000000 in
theorem lawNewPool (w : World) : Calls Try.prog 3 #[] w fun e w' => e = .returned (.bool true) ∧ Below w.heap.size w w' := by
  go_enter Try.func3, Try.ntmps3
  go_wp2_with fail
  refine (sNewPool w).mono ?_
  rintro e wA ⟨a1, c1, M1, rfl, P1, D1, bA⟩
  unfold plV
  obtain ⟨wB, hwB, eB, X1, BB⟩ := one_new wA [.slice a1 M1.length c1] 24
  have HX1 := hid X1
  have HP1 := hid (P1.r.below BB)
  have HD1 := hid D1
  have HBB := hid (bA.trans (BB.mono bA.size))
  clear bA BB P1 D1 X1 eB
  go_wp2_with fail
  try simp only [hwB]
  clear hwB
  refine (iNewPool wB).mono ?_
  rintro e wC ⟨a2, c2, M2, rfl, P2, D2, bC⟩
  unfold plV
  obtain ⟨wD, hwD, eD, X2, BD⟩ := one_new wC [.slice a2 M2.length c2] 24
  have HX2 := hid X2
  have HP2 := hid (P2.below BD)
  have HD2 := hid D2
  have HBD := hid (bC.trans (BD.mono bC.size))
  have hft : ∀ b, pfoot a2 M2 b → b < wC.heap.size := fun b hb => (P2.pfoot_ge hb).2
  have HF := hid hft
  have k1 := (HX1.out.below HBD.out HX1.out.lt).c 0 rfl
  have k2 := X2.c 0 rfl
  clear bC BD P2 D2 X2 eD hft
  go_wp2_with fail
  try simp only [hwD]
  clear hwD
  refine (eqPool wD a2 a1 c2 c1 M2 M1 HP2.out.r (HP1.out.below HBD.out) (HD2.out.trans HD1.out.symm) (len_max (none_small HD2.out).1) (upto_max (none_small HD2.out).2)).mono ?_
  rintro e wE ⟨rfl, bE⟩
  have HX2E := hid (HX2.out.below bE HX2.out.lt)
  have HPE := hid (HP2.out.below bE)
  have HBE := hid (HBD.out.trans (bE.mono HBD.out.size))
  clear bE k1 k2 HX2 HP2 HBD
  have k2 := HX2E.out.c 0 rfl
  go_wp2_with fail
  refine (markPool wE wB.heap.size a2 c2 1 M2 HPE.out (by decide) (tot_ok (none_small HD2.out).1 (none_small HD2.out).2) (none_small HD2.out).1).mono ?_
  rintro e wF ⟨rfl, P6, K6⟩
  have HX2F := hid (HX2E.out.kept K6 (fun hb => by have := HF.out _ hb; omega))
  have HPF := hid P6
  have HBF := hid (HBE.out.trans (marked_below HPE.out HBE.out.size K6))
  have HT := hid (tot_ok (none_small HD2.out).1 (none_small HD2.out).2)
  clear P6 K6 k2 HX2E HPE HBE
  generalize hT : 1 + totPv M2 = T
  have HTq := hid hT
  have hT0 : ¬ (T : Int) < 0 := by omega
  clear hT
  have k2 := HX2F.out.c 0 rfl
  go_wp2_with fail
  refine (heldPool wF a2 c2 1 M2 HPF.out.r (by decide) HT.out (none_small HD2.out).1).mono ?_
  rintro e wG ⟨rfl, bG⟩
  rw [HTq.out]
  have HX2G := hid (HX2F.out.below bG HX2F.out.lt)
  have HPG := hid (HPF.out.below bG)
  have HBG := hid (HBF.out.trans (bG.mono HBF.out.size))
  clear bG k2 HX2F HPF HBF
  go_wp2_with fail
  refine (iNewPool wG).mono ?_
  rintro e wH ⟨a3, c3, M3, rfl, P3, D3, bH⟩
  unfold plV
  obtain ⟨wI, hwI, eI, X3, BI⟩ := one_new wH [.slice a3 M3.length c3] 24
  have HP3 := hid (P3.r.below BI)
  have HD3 := hid D3
  have HBI := hid (bH.trans (BI.mono bH.size))
  have k3 := X3.c 0 rfl
  have HX2I := hid (HX2G.out.below HBI.out HX2G.out.lt)
  have HPI := hid (HPG.out.below HBI.out)
  have HBW := hid (HBG.out.trans (HBI.out.mono HBG.out.size))
  have k1 := (HX1.out.below HBW.out HX1.out.lt).c 0 rfl
  clear bH BI P3 D3 X3 eI HX2G HPG HBG
  go_wp2_with fail
  try simp only [hwI]
  clear hwI
  refine (eqPool wI a3 a1 c3 c1 M3 M1 HP3.out (HP1.out.below HBW.out) (HD3.out.trans HD1.out.symm) (len_max (none_small HD3.out).1) (upto_max (none_small HD3.out).2)).mono ?_
  rintro e wJ ⟨rfl, bJ⟩
  have k2 := (HX2I.out.below bJ HX2I.out.lt).c 0 rfl
  have HPJ := hid (HPI.out.below bJ)
  have HBJ := hid (HBW.out.trans (bJ.mono HBW.out.size))
  clear bJ k1 k3
  go_wp2_with fail
  refine (heldPool wJ a2 c2 1 M2 HPJ.out.r (by decide) HT.out (none_small HD2.out).1).mono ?_
  rintro e wK ⟨rfl, bK⟩
  rw [HTq.out]
  have HBK := hid (HBJ.out.trans (bK.mono HBJ.out.size))
  clear bK k2
  go_wp2
  go_ret
  exact ⟨rfl, HBB.out.trans (HBK.out.mono HBB.out.size)⟩

end Go.Proofs.Ytieohdfhbfeoaaa.Pl
