/-
  The walk of spec.WorldOk. No condition but lists and texts of at most 2^20.
  A region as in RgGrow that lays one box besides and stores a part of an answer into it. What is said of the values speaks of no memory. At any program. No condition.
-/
import Derived.Test.YtogebppolkfldaaGreatDoorJoin4
import Derived.Test.YtogebppolkfldaaGreatDoorJoin2
namespace Go.Proofs.YtogebppolkfldaaGreatDoor.Pl
open Go.RowKit Go.Proofs.YtogebppolkfldaaGreatDoor.Mem Go.Proofs.YtogebppolkfldaaGreatDoor.Sec Go.Proofs.YtogebppolkfldaaGreatDoor.Rd Go.Proofs.YtogebppolkfldaaGreatDoor.Pk Go.Proofs.YtogebppolkfldaaGreatDoor.Rg
set_option linter.unusedVariables false

theorem call_sHostOk (vs : Array Value) (w : World) : (callFunc 41 vs).run Tryz.prog w = .ok (.enter 41 vs) w := by simp [go_sem]
theorem call_l1In (vs : Array Value) (w : World) : (callFunc 42 vs).run Tryz.prog w = .ok (.enter 42 vs) w := by simp [go_sem]

set_option maxRecDepth 100000 in
set_option maxHeartbeats 8000000 in
theorem sWorldOk (R : ByteArray → Int × Nat) (hR : Reads R) (w : World) (v : Value) (X : Wd) (h : WdR w v X) (hs : X.Small) (hd : X.D.Held) :
    Calls Tryz.prog 14 #[v] w fun e w' => e = .returned (.bool (X.ok R)) ∧ Below w.heap.size w w' := by
  obtain ⟨a1, c1, a2, c2, a3, c3, a4, c4, a5, c5, a6, c6, a7, c7, L, rfl, hm, s1, s2, s3, s4, s5, s6, s7⟩ := h
  have HD := hid (show DkR w (.agg #[.slice a1 X.D.sec.length c1, .slice a2 X.D.ep.length c2, .slice a3 X.D.pe.length c3]) X.D from ⟨a1, c1, a2, c2, a3, c3, rfl, s1, s2, s3⟩)
  have HS1 := hid s1
  have HS2 := hid s2
  have HS4 := hid s4
  have HS5 := hid s5
  have HS6 := hid s6
  have HS7 := hid s7
  have HSM := hid hs
  have HDH := hid hd
  have HM := hid hm
  have HRR := hid hR
  have HLl : Hid (L.length ≤ 1048576) := by have := hs.h; rw [← hm, List.length_map] at this; exact this
  have HLx : Hid (∀ x ∈ L, x.H.Upto 1048576) := fun x hx => hs.hh _ (by rw [← hm]; exact List.mem_map_of_mem hx)
  have HLN : Hid (X.hs.length = L.length) := by show X.hs.length = L.length; rw [← hm, List.length_map]
  clear s1 s2 s3 s4 s5 s6 s7 hm hs hd hR
  obtain ⟨wa, hwa, ez, A0, B0⟩ := one_new w [.slice a1 X.D.sec.length c1, .slice a2 X.D.ep.length c2, .slice a3 X.D.pe.length c3, .slice a4 L.length c4, .slice a5 X.log.length c5, .slice a6 X.seen.length c6, .slice a7 X.rep.length c7] 41
  have k0 := A0.c 0 rfl
  have k1 := A0.c 1 rfl
  have k2 := A0.c 2 rfl
  have HA := hid A0
  have HB := hid B0
  clear A0 B0 ez
  go_enter Tryz.func14, Tryz.ntmps14
  go_wp2_with fail
  try simp only [hwa]
  clear hwa k0 k1 k2
  refine (diskOk wa _ X.D (HD.out.below HB.out) HDH.out).mono ?_
  rintro e w1 ⟨rfl, b1⟩
  have HA1 := hid (HA.out.below b1 HA.out.lt)
  have HB1 := hid (HB.out.trans (b1.mono HB.out.size))
  clear b1 HA HB
  cases hq1 : X.D.right
  · have HQ := hid hq1
    clear hq1
    go_wp2
    go_ret
    exact ⟨by rw [ok_no1 HQ.out]; rfl, HB1.out⟩
  have HQ1 := hid hq1
  clear hq1
  have k := HA1.out.c 0 rfl
  go_wp2_with fail
  clear k
  refine (sPoolOk R HRR.out w1 a1 c1 X.D.sec (Sl.below HS1.out HB1.out) HSM.out.d1 HSM.out.dt).mono ?_
  rintro e w2 ⟨rfl, b2⟩
  have HA2 := hid (HA1.out.below b2 HA1.out.lt)
  have HB2 := hid (HB1.out.trans (b2.mono HB1.out.size))
  clear b2 HA1 HB1
  cases hq2 : poolOk R X.D.sec
  · have HQ := hid hq2
    clear hq2
    go_wp2
    go_ret
    exact ⟨by rw [ok_no2 HQ.out]; rfl, HB2.out⟩
  have HQ2 := hid hq2
  clear hq2
  have k3 := HA2.out.c 3 rfl
  have k4 := HA2.out.c 4 rfl
  have k5 := HA2.out.c 5 rfl
  have k6 := HA2.out.c 6 rfl
  by_cases h3 : L.length = 3
  rotate_left
  · have hb : ((L.length : Int) != 3) = true := by simp; omega
    have HQ := hid h3
    clear h3
    go_wp2
    go_ret
    exact ⟨by rw [ok_no3 (hosts_no1 (by rw [HLN.out]; exact HQ.out))]; rfl, HB2.out⟩
  have HQ3 := hid h3
  have hb3 : ((L.length : Int) != 3) = false := by simp; omega
  clear h3
  by_cases hg5 : 400 < (X.log.length : Int)
  · have HQ := hid hg5
    go_wp2
    go_ret
    exact ⟨by rw [ok_no5 (evs_no1 HQ.out)]; rfl, HB2.out⟩
  have HG5 := hid (show (X.log.length : Int) ≤ 400 by omega)
  by_cases h4 : X.seen.length = 3
  rotate_left
  · have hb : ((X.seen.length : Int) != 3) = true := by simp; omega
    have HQ := hid h4
    clear h4
    go_wp2
    go_ret
    exact ⟨by rw [ok_no4 (seen_no1 HQ.out)]; rfl, HB2.out⟩
  have HQ4 := hid h4
  have hb4 : ((X.seen.length : Int) != 3) = false := by simp; omega
  clear h4
  by_cases hg6 : 400 < (X.rep.length : Int)
  · have HQ := hid hg6
    go_wp2
    go_ret
    exact ⟨by rw [ok_no6 (rps_no1 HQ.out)]; rfl, HB2.out⟩
  have HG6 := hid (show (X.rep.length : Int) ≤ 400 by omega)
  have HEP := hid (right_ep HQ1.out)
  have HLM : Hid (∀ j, j < 3 → X.hs.getD j Ho.none = (L.getD j Hx.none).H) := fun j hj => by
    have hj' : j < L.length := by have := HQ3.out; omega
    rw [← HM.out]
    simp [List.getD, hj']
  obtain ⟨hb, ho, ea4, _⟩ := HS4.out.1 0 (by have := HQ3.out; omega)
  obtain ⟨eb, eo, ea2, _⟩ := HS2.out 0 (by have := HEP.out; omega)
  obtain ⟨nb, no, ea6, _⟩ := HS6.out 0 (by have := HQ4.out; omega)
  subst ea4
  subst ea2
  subst ea6
  go_wp2
  clear k3 k4 k5 k6 hb3 hb4 hg5 hg6
  have HBr := HB2
  have HAr := HA2
  have C0 : Hid (∀ u, Below w2.heap.size w2 u → Hid (u.cell? ⟨w.heap.size, 3, none⟩ = some (.slice (some ⟨hb, ho, none⟩) 3 c4)) ∧ Hid (u.cell? ⟨w.heap.size, 1, none⟩ = some (.slice (some ⟨eb, eo, none⟩) 3 c2)) ∧ Hid (u.cell? ⟨w.heap.size, 5, none⟩ = some (.slice (some ⟨nb, no, none⟩) 3 c6))) := fun u hu => by
    have hr := HA2.out.below hu HA2.out.lt
    refine ⟨?_, ?_, ?_⟩
    · have := hr.c 3 rfl; rw [HQ3.out] at this; exact this
    · have := hr.c 1 rfl; rw [HEP.out] at this; exact this
    · have := hr.c 5 rfl; rw [HQ4.out] at this; exact this
  go_loopw [3] (fun i wr => ∃ k : Nat, k ≤ 3 ∧ i = .int .i64 (k : Int) ∧ Hid (∀ j, j < k → hoIs X.D.ep j (X.hs.getD j Ho.none) = true) ∧ Hid (∀ j, j < k → 0 ≤ X.seen.getD j 0 ∧ X.seen.getD j 0 ≤ 1000000) ∧ Hid (Below w2.heap.size w2 wr)) (fun i _ => 3 - (intOf i).toNat)
  case atStart => exact ⟨0, Nat.zero_le _, rfl, (by intro j hj; omega), (by intro j hj; omega), Below.refl _ _⟩
  case round =>
    obtain ⟨k, hk, rfl, HI, HJ, HB0⟩ := hrel
    by_cases hlt : k < 3
    · have HB := hid (HB2.out.trans (HB0.out.mono HB2.out.size))
      obtain ⟨HC3, HC1, HC5⟩ := C0.out wr HB0.out
      obtain ⟨b', off', ea, hrg, hou⟩ := (HS4.out.below HB.out).range k (by rw [HQ3.out]; exact hlt)
      cases ea
      have HZ := hid (HLx.out (L.getD k Hx.none) (by have := HQ3.out; simp [List.getD, show k < L.length by omega]))
      have HX : Hid ((L.getD k Hx.none).H = X.hs.getD k Ho.none) := (HLM.out k hlt).symm
      obtain ⟨eb', eo', ee, hce⟩ := (Sl.below HS2.out HB.out) k (by rw [HEP.out]; exact hlt)
      cases ee
      replace hce : wr.cell? ⟨eb, eo + k, none⟩ = some (.int .i64 (X.D.ep.getD k 0)) := hce
      obtain ⟨nb', no', en, hcn⟩ := (Sl.below HS6.out HB.out) k (by rw [HQ4.out]; exact hlt)
      cases en
      replace hcn : wr.cell? ⟨nb, no + k, none⟩ = some (.int .i64 (X.seen.getD k 0)) := hcn
      generalize hE : X.D.ep.getD k 0 = E at hce
      have HE := hid hE
      clear hE
      generalize hN : X.seen.getD k 0 = N at hcn
      have HN := hid hN
      clear hN
      generalize L.getD k Hx.none = x at hrg hou HZ HX
      have HRG := hid hrg
      have HOU := hid hou
      have HCE := hid hce
      have HCN := hid hcn
      have HX0 : Hid (wr.cell? ⟨hb, ho + k * 16, none⟩ = some (.int .i64 x.H.id)) := HRG.out 0 _ rfl
      have HX1 : Hid (wr.cell? ⟨hb, ho + k * 16 + 1, none⟩ = some (.int .i64 x.H.ep)) := HRG.out 1 _ rfl
      clear hrg hou hce hcn
      have hk3 : (k : Int) < 3 := by omega
      go_upto_region 6 with fail
      have HIN := hid (fun u => l1In N 0 1000000 u)
      generalize hsn : decide (0 ≤ N ∧ N ≤ 1000000) = sn at HIN
      have HSN := hid hsn
      clear hsn
      by_cases hid0 : x.H.id = (k : Int)
      rotate_left
      · have HQ := hid hid0
        refine region_grow (val := fun i => [.pointer (some ⟨w.heap.size, 3, none⟩), .slice (some ⟨hb, ho, none⟩) 3 c4, .int .i64 (k : Int), .pointer (some ⟨hb, ho + k * 16, none⟩), .pointer (some ⟨hb, ho + k * 16, none⟩), .int .i64 x.H.id, .int .i64 (k : Int), .bool true, .bool true, undef, undef, undef, undef, undef, undef, undef, .bool true, .bool true, undef, undef, undef, undef, undef, undef, undef, undef, undef, undef, undef, undef, undef, undef, undef, undef, undef, undef, undef, undef, undef, .bool true, .bool true, undef, undef, undef, undef, undef, undef, undef, .bool true].getD i undef) (sp := fun _ => none) true (by kernel_rfl) (by kernel_rfl) [some 47, some 48, some 49, some 50, some 51, some 52, some 53, some 54, some 55, some 56, some 57, some 58, some 59, some 60, some 61, some 62, some 63, some 64, some 65, some 66, some 67, some 68, some 69, some 70, some 71, some 72, some 73, some 74, some 75, some 76, some 77, some 78, some 79, some 80, some 81, some 82, some 83, some 84, some 85, some 86, some 87, some 88, some 89, some 90, some 91, some 92, some 93, some 94, some 95] (by kernel_rfl) (fun _ _ h => by cases h) ?_ (fun v w hb hG => ?_)
        · refine ⟨gVal rfl (.inl ⟨rfl, rfl⟩) rfl (fun Lb v act wy K => by
           have e1 : act.eval (.tmp 1) = .pointer (some ⟨w.heap.size, 0, none⟩) := (K.off (x := .tmp 1) (by kernel_rfl)).trans rfl
           show (execOp act.eval _).run Tryz.prog wy = .ok (.value (.pointer (some ⟨w.heap.size, 3, none⟩))) wy
           generalize act.eval = ρ at e1 ⊢
           unfold execOp
           simp [go_sem, e1]), ?_⟩
          refine ⟨gVal rfl (.inl ⟨rfl, rfl⟩) rfl (fun Lb v act wy K => by
           have e1 : act.eval (.tmp 47) = .pointer (some ⟨w.heap.size, 3, none⟩) := K.at_val 0 (by kernel_rfl) (by kernel_rfl) rfl
           have e2 := Rg.cell_later (HC3.out) K.bel
           show (execOp act.eval _).run Tryz.prog wy = .ok (.value (.slice (some ⟨hb, ho, none⟩) 3 c4)) wy
           generalize act.eval = ρ at e1 ⊢
           unfold execOp
           simp [go_sem, e1, e2]), ?_⟩
          refine ⟨gVal rfl (.inl ⟨rfl, rfl⟩) rfl (fun Lb v act wy K => by
           have e1 : act.eval (.tmp 3) = .int .i64 (k : Int) := (K.off (x := .tmp 3) (by kernel_rfl)).trans rfl
           exact run_move _ rfl e1), ?_⟩
          refine ⟨gVal rfl (.inl ⟨rfl, rfl⟩) rfl (fun Lb v act wy K => by
           have e1 : act.eval (.tmp 48) = .slice (some ⟨hb, ho, none⟩) 3 c4 := K.at_val 1 (by kernel_rfl) (by kernel_rfl) rfl
           have e2 : act.eval (.tmp 49) = .int .i64 (k : Int) := K.at_val 2 (by kernel_rfl) (by kernel_rfl) rfl
           show (execOp act.eval _).run Tryz.prog wy = .ok (.value (.pointer (some ⟨hb, ho + k * 16, none⟩))) wy
           generalize act.eval = ρ at e1 e2 ⊢
           unfold execOp
           simp [go_sem, e1, e2, hk3]), ?_⟩
          refine ⟨gVal rfl (.inl ⟨rfl, rfl⟩) rfl (fun Lb v act wy K => by
           have e1 : act.eval (.tmp 50) = .pointer (some ⟨hb, ho + k * 16, none⟩) := K.at_val 3 (by kernel_rfl) (by kernel_rfl) rfl
           show (execOp act.eval _).run Tryz.prog wy = .ok (.value (.pointer (some ⟨hb, ho + k * 16, none⟩))) wy
           generalize act.eval = ρ at e1 ⊢
           unfold execOp
           simp [go_sem, e1]), ?_⟩
          refine ⟨gVal rfl (.inl ⟨rfl, rfl⟩) rfl (fun Lb v act wy K => by
           have e1 : act.eval (.tmp 51) = .pointer (some ⟨hb, ho + k * 16, none⟩) := K.at_val 4 (by kernel_rfl) (by kernel_rfl) rfl
           have e2 := Rg.cell_later (HX0.out) K.bel
           show (execOp act.eval _).run Tryz.prog wy = .ok (.value (.int .i64 x.H.id)) wy
           generalize act.eval = ρ at e1 ⊢
           unfold execOp
           simp [go_sem, e1, e2]), ?_⟩
          refine ⟨gVal rfl (.inl ⟨rfl, rfl⟩) rfl (fun Lb v act wy K => by
           have e1 : act.eval (.tmp 3) = .int .i64 (k : Int) := (K.off (x := .tmp 3) (by kernel_rfl)).trans rfl
           exact run_move _ rfl e1), ?_⟩
          refine ⟨gVal rfl (.inl ⟨rfl, rfl⟩) rfl (fun Lb v act wy K => by
           have e1 : act.eval (.tmp 52) = .int .i64 x.H.id := K.at_val 5 (by kernel_rfl) (by kernel_rfl) rfl
           have e2 : act.eval (.tmp 53) = .int .i64 (k : Int) := K.at_val 6 (by kernel_rfl) (by kernel_rfl) rfl
           show (execOp act.eval _).run Tryz.prog wy = .ok (.value (.bool true)) wy
           generalize act.eval = ρ at e1 e2 ⊢
           unfold execOp
           simp [go_sem, e1, e2, HQ.out]), ?_⟩
          refine ⟨gVal rfl (.inl ⟨rfl, rfl⟩) rfl (fun Lb v act wy K => by
           have e1 : act.eval (.tmp 54) = .bool true := K.at_val 7 (by kernel_rfl) (by kernel_rfl) rfl
           exact run_move _ rfl e1), ?_⟩
          refine ⟨gSkip rfl (.inr ⟨8, false, 55, rfl, (by kernel_rfl), (by kernel_rfl), rfl, rfl⟩) rfl rfl, ?_⟩
          refine ⟨gSkip rfl (.inr ⟨8, false, 55, rfl, (by kernel_rfl), (by kernel_rfl), rfl, rfl⟩) rfl rfl, ?_⟩
          refine ⟨gSkip rfl (.inr ⟨8, false, 55, rfl, (by kernel_rfl), (by kernel_rfl), rfl, rfl⟩) rfl rfl, ?_⟩
          refine ⟨gSkip rfl (.inr ⟨8, false, 55, rfl, (by kernel_rfl), (by kernel_rfl), rfl, rfl⟩) rfl rfl, ?_⟩
          refine ⟨gSkip rfl (.inr ⟨8, false, 55, rfl, (by kernel_rfl), (by kernel_rfl), rfl, rfl⟩) rfl rfl, ?_⟩
          refine ⟨gSkip rfl (.inr ⟨8, false, 55, rfl, (by kernel_rfl), (by kernel_rfl), rfl, rfl⟩) rfl rfl, ?_⟩
          refine ⟨gSkip rfl (.inr ⟨8, false, 55, rfl, (by kernel_rfl), (by kernel_rfl), rfl, rfl⟩) rfl rfl, ?_⟩
          refine ⟨gVal rfl (.inl ⟨rfl, rfl⟩) rfl (fun Lb v act wy K => by
           have e1 : act.eval (.tmp 55) = .bool true := K.at_val 8 (by kernel_rfl) (by kernel_rfl) rfl
           have ec : act.eval (.const (.bool true)) = .bool true := rfl
           show (execOp act.eval _).run Tryz.prog wy = .ok (.value (.bool true)) wy
           generalize act.eval = ρ at e1 ec ⊢
           unfold execOp
           simp [go_sem, e1, ec]), ?_⟩
          refine ⟨gVal rfl (.inl ⟨rfl, rfl⟩) rfl (fun Lb v act wy K => by
           have e1 : act.eval (.tmp 63) = .bool true := K.at_val 16 (by kernel_rfl) (by kernel_rfl) rfl
           exact run_move _ rfl e1), ?_⟩
          refine ⟨gSkip rfl (.inr ⟨17, false, 64, rfl, (by kernel_rfl), (by kernel_rfl), rfl, rfl⟩) rfl rfl, ?_⟩
          refine ⟨gSkip rfl (.inr ⟨17, false, 64, rfl, (by kernel_rfl), (by kernel_rfl), rfl, rfl⟩) rfl rfl, ?_⟩
          refine ⟨gSkip rfl (.inr ⟨17, false, 64, rfl, (by kernel_rfl), (by kernel_rfl), rfl, rfl⟩) rfl rfl, ?_⟩
          refine ⟨gSkip rfl (.inr ⟨17, false, 64, rfl, (by kernel_rfl), (by kernel_rfl), rfl, rfl⟩) rfl rfl, ?_⟩
          refine ⟨gSkip rfl (.inr ⟨17, false, 64, rfl, (by kernel_rfl), (by kernel_rfl), rfl, rfl⟩) rfl rfl, ?_⟩
          refine ⟨gSkip rfl (.inr ⟨17, false, 64, rfl, (by kernel_rfl), (by kernel_rfl), rfl, rfl⟩) rfl rfl, ?_⟩
          refine ⟨gSkip rfl (.inr ⟨17, false, 64, rfl, (by kernel_rfl), (by kernel_rfl), rfl, rfl⟩) rfl rfl, ?_⟩
          refine ⟨gSkip rfl (.inr ⟨24, true, 71, rfl, (by kernel_rfl), (by kernel_rfl), rfl, rfl⟩) rfl rfl, ?_⟩
          refine ⟨gSkip rfl (.inr ⟨24, true, 71, rfl, (by kernel_rfl), (by kernel_rfl), rfl, rfl⟩) rfl rfl, ?_⟩
          refine ⟨gSkip rfl (.inr ⟨24, true, 71, rfl, (by kernel_rfl), (by kernel_rfl), rfl, rfl⟩) rfl rfl, ?_⟩
          refine ⟨gSkip rfl (.inr ⟨24, true, 71, rfl, (by kernel_rfl), (by kernel_rfl), rfl, rfl⟩) rfl rfl, ?_⟩
          refine ⟨gSkip rfl (.inr ⟨24, true, 71, rfl, (by kernel_rfl), (by kernel_rfl), rfl, rfl⟩) rfl rfl, ?_⟩
          refine ⟨gSkip rfl (.inr ⟨24, true, 71, rfl, (by kernel_rfl), (by kernel_rfl), rfl, rfl⟩) rfl rfl, ?_⟩
          refine ⟨gSkip rfl (.inr ⟨24, true, 71, rfl, (by kernel_rfl), (by kernel_rfl), rfl, rfl⟩) rfl rfl, ?_⟩
          refine ⟨gSkip rfl (.inr ⟨24, true, 71, rfl, (by kernel_rfl), (by kernel_rfl), rfl, rfl⟩) rfl rfl, ?_⟩
          refine ⟨gSkip rfl (.inr ⟨24, true, 71, rfl, (by kernel_rfl), (by kernel_rfl), rfl, rfl⟩) rfl rfl, ?_⟩
          refine ⟨gSkip rfl (.inr ⟨24, true, 71, rfl, (by kernel_rfl), (by kernel_rfl), rfl, rfl⟩) rfl rfl, ?_⟩
          refine ⟨gSkip rfl (.inr ⟨24, true, 71, rfl, (by kernel_rfl), (by kernel_rfl), rfl, rfl⟩) rfl rfl, ?_⟩
          refine ⟨gSkip rfl (.inr ⟨24, true, 71, rfl, (by kernel_rfl), (by kernel_rfl), rfl, rfl⟩) rfl rfl, ?_⟩
          refine ⟨gSkip rfl (.inr ⟨24, true, 71, rfl, (by kernel_rfl), (by kernel_rfl), rfl, rfl⟩) rfl rfl, ?_⟩
          refine ⟨gSkip rfl (.inr ⟨17, false, 64, rfl, (by kernel_rfl), (by kernel_rfl), rfl, rfl⟩) rfl rfl, ?_⟩
          refine ⟨gVal rfl (.inl ⟨rfl, rfl⟩) rfl (fun Lb v act wy K => by
           have e1 : act.eval (.tmp 64) = .bool true := K.at_val 17 (by kernel_rfl) (by kernel_rfl) rfl
           have ec : act.eval (.const (.bool true)) = .bool true := rfl
           show (execOp act.eval _).run Tryz.prog wy = .ok (.value (.bool true)) wy
           generalize act.eval = ρ at e1 ec ⊢
           unfold execOp
           simp [go_sem, e1, ec]), ?_⟩
          refine ⟨gVal rfl (.inl ⟨rfl, rfl⟩) rfl (fun Lb v act wy K => by
           have e1 : act.eval (.tmp 86) = .bool true := K.at_val 39 (by kernel_rfl) (by kernel_rfl) rfl
           exact run_move _ rfl e1), ?_⟩
          refine ⟨gSkip rfl (.inr ⟨40, false, 87, rfl, (by kernel_rfl), (by kernel_rfl), rfl, rfl⟩) rfl rfl, ?_⟩
          refine ⟨gSkip rfl (.inr ⟨40, false, 87, rfl, (by kernel_rfl), (by kernel_rfl), rfl, rfl⟩) rfl rfl, ?_⟩
          refine ⟨gSkip rfl (.inr ⟨40, false, 87, rfl, (by kernel_rfl), (by kernel_rfl), rfl, rfl⟩) rfl rfl, ?_⟩
          refine ⟨gSkip rfl (.inr ⟨40, false, 87, rfl, (by kernel_rfl), (by kernel_rfl), rfl, rfl⟩) rfl rfl, ?_⟩
          refine ⟨gSkip rfl (.inr ⟨40, false, 87, rfl, (by kernel_rfl), (by kernel_rfl), rfl, rfl⟩) rfl rfl, ?_⟩
          refine ⟨gSkip rfl (.inr ⟨40, false, 87, rfl, (by kernel_rfl), (by kernel_rfl), rfl, rfl⟩) rfl rfl, ?_⟩
          refine ⟨gSkip rfl (.inr ⟨40, false, 87, rfl, (by kernel_rfl), (by kernel_rfl), rfl, rfl⟩) rfl rfl, ?_⟩
          refine ⟨gVal rfl (.inl ⟨rfl, rfl⟩) rfl (fun Lb v act wy K => by
           have e1 : act.eval (.tmp 87) = .bool true := K.at_val 40 (by kernel_rfl) (by kernel_rfl) rfl
           have ec : act.eval (.const (.bool true)) = .bool true := rfl
           show (execOp act.eval _).run Tryz.prog wy = .ok (.value (.bool true)) wy
           generalize act.eval = ρ at e1 ec ⊢
           unfold execOp
           simp [go_sem, e1, ec]), ?_⟩
          exact trivial
        have e48 : v 48 = .bool true := hG 48 (by show 48 < 49; decide)
        have HU := hid (HB.out.trans (hb.mono HB.out.size))
        have HU0 := hid (HB0.out.trans (hb.mono HB0.out.size))
        clear hG hb
        simp only [putsAll, Act.put, List.setIfInBounds_toArray, List.set_cons_zero, List.set_cons_succ, e48]
        clear e48
        go_wp2
        go_ret
        exact ⟨by rw [ok_no3 (hosts_no2 k hlt (by unfold hoIs; rw [← HX.out]; rw [decide_eq_false HQ.out]; rfl))]; rfl, HU.out⟩

      have HI0 := hid hid0
      clear hid0
      have HOK := hid (fun (u : World) (hu : Below wr.heap.size wr u) => sHostOk u x.H x.p x.c (Sl.below HOU.out hu) HZ.out)
      rw [← Hx.val] at HOK
      cases hok : x.H.ok
      · rw [hok] at HOK
        have HQ := hid hok
        clear hok
        refine region_grow (val := fun i => [.pointer (some ⟨w.heap.size, 3, none⟩), .slice (some ⟨hb, ho, none⟩) 3 c4, .int .i64 (k : Int), .pointer (some ⟨hb, ho + k * 16, none⟩), .pointer (some ⟨hb, ho + k * 16, none⟩), .int .i64 x.H.id, .int .i64 (k : Int), .bool false, .bool false, .pointer (some ⟨w.heap.size, 3, none⟩), .slice (some ⟨hb, ho, none⟩) 3 c4, .int .i64 (k : Int), .pointer (some ⟨hb, ho + k * 16, none⟩), .agg (List.toArray x.cells), .bool false, .bool true, .bool true, .bool true, undef, undef, undef, undef, undef, undef, undef, undef, undef, undef, undef, undef, undef, undef, undef, undef, undef, undef, undef, undef, undef, .bool true, .bool true, undef, undef, undef, undef, undef, undef, undef, .bool true].getD i undef) (sp := fun _ => none) true (by kernel_rfl) (by kernel_rfl) [some 47, some 48, some 49, some 50, some 51, some 52, some 53, some 54, some 55, some 56, some 57, some 58, some 59, some 60, some 61, some 62, some 63, some 64, some 65, some 66, some 67, some 68, some 69, some 70, some 71, some 72, some 73, some 74, some 75, some 76, some 77, some 78, some 79, some 80, some 81, some 82, some 83, some 84, some 85, some 86, some 87, some 88, some 89, some 90, some 91, some 92, some 93, some 94, some 95] (by kernel_rfl) (fun _ _ h => by cases h) ?_ (fun v w hb hG => ?_)
        · refine ⟨gVal rfl (.inl ⟨rfl, rfl⟩) rfl (fun Lb v act wy K => by
           have e1 : act.eval (.tmp 1) = .pointer (some ⟨w.heap.size, 0, none⟩) := (K.off (x := .tmp 1) (by kernel_rfl)).trans rfl
           show (execOp act.eval _).run Tryz.prog wy = .ok (.value (.pointer (some ⟨w.heap.size, 3, none⟩))) wy
           generalize act.eval = ρ at e1 ⊢
           unfold execOp
           simp [go_sem, e1]), ?_⟩
          refine ⟨gVal rfl (.inl ⟨rfl, rfl⟩) rfl (fun Lb v act wy K => by
           have e1 : act.eval (.tmp 47) = .pointer (some ⟨w.heap.size, 3, none⟩) := K.at_val 0 (by kernel_rfl) (by kernel_rfl) rfl
           have e2 := Rg.cell_later (HC3.out) K.bel
           show (execOp act.eval _).run Tryz.prog wy = .ok (.value (.slice (some ⟨hb, ho, none⟩) 3 c4)) wy
           generalize act.eval = ρ at e1 ⊢
           unfold execOp
           simp [go_sem, e1, e2]), ?_⟩
          refine ⟨gVal rfl (.inl ⟨rfl, rfl⟩) rfl (fun Lb v act wy K => by
           have e1 : act.eval (.tmp 3) = .int .i64 (k : Int) := (K.off (x := .tmp 3) (by kernel_rfl)).trans rfl
           exact run_move _ rfl e1), ?_⟩
          refine ⟨gVal rfl (.inl ⟨rfl, rfl⟩) rfl (fun Lb v act wy K => by
           have e1 : act.eval (.tmp 48) = .slice (some ⟨hb, ho, none⟩) 3 c4 := K.at_val 1 (by kernel_rfl) (by kernel_rfl) rfl
           have e2 : act.eval (.tmp 49) = .int .i64 (k : Int) := K.at_val 2 (by kernel_rfl) (by kernel_rfl) rfl
           show (execOp act.eval _).run Tryz.prog wy = .ok (.value (.pointer (some ⟨hb, ho + k * 16, none⟩))) wy
           generalize act.eval = ρ at e1 e2 ⊢
           unfold execOp
           simp [go_sem, e1, e2, hk3]), ?_⟩
          refine ⟨gVal rfl (.inl ⟨rfl, rfl⟩) rfl (fun Lb v act wy K => by
           have e1 : act.eval (.tmp 50) = .pointer (some ⟨hb, ho + k * 16, none⟩) := K.at_val 3 (by kernel_rfl) (by kernel_rfl) rfl
           show (execOp act.eval _).run Tryz.prog wy = .ok (.value (.pointer (some ⟨hb, ho + k * 16, none⟩))) wy
           generalize act.eval = ρ at e1 ⊢
           unfold execOp
           simp [go_sem, e1]), ?_⟩
          refine ⟨gVal rfl (.inl ⟨rfl, rfl⟩) rfl (fun Lb v act wy K => by
           have e1 : act.eval (.tmp 51) = .pointer (some ⟨hb, ho + k * 16, none⟩) := K.at_val 4 (by kernel_rfl) (by kernel_rfl) rfl
           have e2 := Rg.cell_later (HX0.out) K.bel
           show (execOp act.eval _).run Tryz.prog wy = .ok (.value (.int .i64 x.H.id)) wy
           generalize act.eval = ρ at e1 ⊢
           unfold execOp
           simp [go_sem, e1, e2]), ?_⟩
          refine ⟨gVal rfl (.inl ⟨rfl, rfl⟩) rfl (fun Lb v act wy K => by
           have e1 : act.eval (.tmp 3) = .int .i64 (k : Int) := (K.off (x := .tmp 3) (by kernel_rfl)).trans rfl
           exact run_move _ rfl e1), ?_⟩
          refine ⟨gVal rfl (.inl ⟨rfl, rfl⟩) rfl (fun Lb v act wy K => by
           have e1 : act.eval (.tmp 52) = .int .i64 x.H.id := K.at_val 5 (by kernel_rfl) (by kernel_rfl) rfl
           have e2 : act.eval (.tmp 53) = .int .i64 (k : Int) := K.at_val 6 (by kernel_rfl) (by kernel_rfl) rfl
           show (execOp act.eval _).run Tryz.prog wy = .ok (.value (.bool false)) wy
           generalize act.eval = ρ at e1 e2 ⊢
           unfold execOp
           simp [go_sem, e1, e2, HI0.out]), ?_⟩
          refine ⟨gVal rfl (.inl ⟨rfl, rfl⟩) rfl (fun Lb v act wy K => by
           have e1 : act.eval (.tmp 54) = .bool false := K.at_val 7 (by kernel_rfl) (by kernel_rfl) rfl
           exact run_move _ rfl e1), ?_⟩
          refine ⟨gVal rfl (.inr ⟨8, false, 55, rfl, (by kernel_rfl), (by kernel_rfl), rfl, rfl⟩) rfl (fun Lb v act wy K => by
           have e1 : act.eval (.tmp 1) = .pointer (some ⟨w.heap.size, 0, none⟩) := (K.off (x := .tmp 1) (by kernel_rfl)).trans rfl
           show (execOp act.eval _).run Tryz.prog wy = .ok (.value (.pointer (some ⟨w.heap.size, 3, none⟩))) wy
           generalize act.eval = ρ at e1 ⊢
           unfold execOp
           simp [go_sem, e1]), ?_⟩
          refine ⟨gVal rfl (.inr ⟨8, false, 55, rfl, (by kernel_rfl), (by kernel_rfl), rfl, rfl⟩) rfl (fun Lb v act wy K => by
           have e1 : act.eval (.tmp 56) = .pointer (some ⟨w.heap.size, 3, none⟩) := K.at_val 9 (by kernel_rfl) (by kernel_rfl) rfl
           have e2 := Rg.cell_later (HC3.out) K.bel
           show (execOp act.eval _).run Tryz.prog wy = .ok (.value (.slice (some ⟨hb, ho, none⟩) 3 c4)) wy
           generalize act.eval = ρ at e1 ⊢
           unfold execOp
           simp [go_sem, e1, e2]), ?_⟩
          refine ⟨gVal rfl (.inr ⟨8, false, 55, rfl, (by kernel_rfl), (by kernel_rfl), rfl, rfl⟩) rfl (fun Lb v act wy K => by
           have e1 : act.eval (.tmp 3) = .int .i64 (k : Int) := (K.off (x := .tmp 3) (by kernel_rfl)).trans rfl
           exact run_move _ rfl e1), ?_⟩
          refine ⟨gVal rfl (.inr ⟨8, false, 55, rfl, (by kernel_rfl), (by kernel_rfl), rfl, rfl⟩) rfl (fun Lb v act wy K => by
           have e1 : act.eval (.tmp 57) = .slice (some ⟨hb, ho, none⟩) 3 c4 := K.at_val 10 (by kernel_rfl) (by kernel_rfl) rfl
           have e2 : act.eval (.tmp 58) = .int .i64 (k : Int) := K.at_val 11 (by kernel_rfl) (by kernel_rfl) rfl
           show (execOp act.eval _).run Tryz.prog wy = .ok (.value (.pointer (some ⟨hb, ho + k * 16, none⟩))) wy
           generalize act.eval = ρ at e1 e2 ⊢
           unfold execOp
           simp [go_sem, e1, e2, hk3]), ?_⟩
          refine ⟨gVal rfl (.inr ⟨8, false, 55, rfl, (by kernel_rfl), (by kernel_rfl), rfl, rfl⟩) rfl (fun Lb v act wy K => Rg.run_load_at 68 (.tmp 59) rfl _ _ ((K.at_val 12 (by kernel_rfl) (by kernel_rfl) rfl)) _ (rangeAt_below HRG.out K.bel) _ Tryz.underlying68 rfl (by rw [hx_len]; kernel_rfl)), ?_⟩
          refine ⟨gCall rfl (.inr ⟨8, false, 55, rfl, (by kernel_rfl), (by kernel_rfl), rfl, rfl⟩) 41 #[.tmp 60] _ (fun _ => #[.agg (List.toArray x.cells)]) rfl call_sHostOk (fun Lb v act wy K => by
           have e1 : act.eval (.tmp 60) = .agg (List.toArray x.cells) := K.at_val 13 (by kernel_rfl) (by kernel_rfl) rfl
           simp only [List.map_toArray, List.map_cons, List.map_nil, e1]) (fun v w hb hs => (HOK.out w hb).mono (fun e w' ⟨h1, h2⟩ => ⟨_, h1, h2, rfl⟩)), ?_⟩
          refine ⟨gVal rfl (.inr ⟨8, false, 55, rfl, (by kernel_rfl), (by kernel_rfl), rfl, rfl⟩) rfl (fun Lb v act wy K => by
           have e1 : act.eval (.tmp 61) = .bool false := K.at_val 14 (by kernel_rfl) (by kernel_rfl) rfl
           show (execOp act.eval _).run Tryz.prog wy = .ok (.value (.bool true)) wy
           generalize act.eval = ρ at e1 ⊢
           unfold execOp
           simp [go_sem, e1]), ?_⟩
          refine ⟨gVal rfl (.inl ⟨rfl, rfl⟩) rfl (fun Lb v act wy K => by
           have e1 : act.eval (.tmp 55) = .bool false := K.at_val 8 (by kernel_rfl) (by kernel_rfl) rfl
           have e2 : act.eval (.tmp 62) = .bool true := K.at_val 15 (by kernel_rfl) (by kernel_rfl) rfl
           show (execOp act.eval _).run Tryz.prog wy = .ok (.value (.bool true)) wy
           generalize act.eval = ρ at e1 e2 ⊢
           unfold execOp
           simp [go_sem, e1, e2]), ?_⟩
          refine ⟨gVal rfl (.inl ⟨rfl, rfl⟩) rfl (fun Lb v act wy K => by
           have e1 : act.eval (.tmp 63) = .bool true := K.at_val 16 (by kernel_rfl) (by kernel_rfl) rfl
           exact run_move _ rfl e1), ?_⟩
          refine ⟨gSkip rfl (.inr ⟨17, false, 64, rfl, (by kernel_rfl), (by kernel_rfl), rfl, rfl⟩) rfl rfl, ?_⟩
          refine ⟨gSkip rfl (.inr ⟨17, false, 64, rfl, (by kernel_rfl), (by kernel_rfl), rfl, rfl⟩) rfl rfl, ?_⟩
          refine ⟨gSkip rfl (.inr ⟨17, false, 64, rfl, (by kernel_rfl), (by kernel_rfl), rfl, rfl⟩) rfl rfl, ?_⟩
          refine ⟨gSkip rfl (.inr ⟨17, false, 64, rfl, (by kernel_rfl), (by kernel_rfl), rfl, rfl⟩) rfl rfl, ?_⟩
          refine ⟨gSkip rfl (.inr ⟨17, false, 64, rfl, (by kernel_rfl), (by kernel_rfl), rfl, rfl⟩) rfl rfl, ?_⟩
          refine ⟨gSkip rfl (.inr ⟨17, false, 64, rfl, (by kernel_rfl), (by kernel_rfl), rfl, rfl⟩) rfl rfl, ?_⟩
          refine ⟨gSkip rfl (.inr ⟨17, false, 64, rfl, (by kernel_rfl), (by kernel_rfl), rfl, rfl⟩) rfl rfl, ?_⟩
          refine ⟨gSkip rfl (.inr ⟨24, true, 71, rfl, (by kernel_rfl), (by kernel_rfl), rfl, rfl⟩) rfl rfl, ?_⟩
          refine ⟨gSkip rfl (.inr ⟨24, true, 71, rfl, (by kernel_rfl), (by kernel_rfl), rfl, rfl⟩) rfl rfl, ?_⟩
          refine ⟨gSkip rfl (.inr ⟨24, true, 71, rfl, (by kernel_rfl), (by kernel_rfl), rfl, rfl⟩) rfl rfl, ?_⟩
          refine ⟨gSkip rfl (.inr ⟨24, true, 71, rfl, (by kernel_rfl), (by kernel_rfl), rfl, rfl⟩) rfl rfl, ?_⟩
          refine ⟨gSkip rfl (.inr ⟨24, true, 71, rfl, (by kernel_rfl), (by kernel_rfl), rfl, rfl⟩) rfl rfl, ?_⟩
          refine ⟨gSkip rfl (.inr ⟨24, true, 71, rfl, (by kernel_rfl), (by kernel_rfl), rfl, rfl⟩) rfl rfl, ?_⟩
          refine ⟨gSkip rfl (.inr ⟨24, true, 71, rfl, (by kernel_rfl), (by kernel_rfl), rfl, rfl⟩) rfl rfl, ?_⟩
          refine ⟨gSkip rfl (.inr ⟨24, true, 71, rfl, (by kernel_rfl), (by kernel_rfl), rfl, rfl⟩) rfl rfl, ?_⟩
          refine ⟨gSkip rfl (.inr ⟨24, true, 71, rfl, (by kernel_rfl), (by kernel_rfl), rfl, rfl⟩) rfl rfl, ?_⟩
          refine ⟨gSkip rfl (.inr ⟨24, true, 71, rfl, (by kernel_rfl), (by kernel_rfl), rfl, rfl⟩) rfl rfl, ?_⟩
          refine ⟨gSkip rfl (.inr ⟨24, true, 71, rfl, (by kernel_rfl), (by kernel_rfl), rfl, rfl⟩) rfl rfl, ?_⟩
          refine ⟨gSkip rfl (.inr ⟨24, true, 71, rfl, (by kernel_rfl), (by kernel_rfl), rfl, rfl⟩) rfl rfl, ?_⟩
          refine ⟨gSkip rfl (.inr ⟨24, true, 71, rfl, (by kernel_rfl), (by kernel_rfl), rfl, rfl⟩) rfl rfl, ?_⟩
          refine ⟨gSkip rfl (.inr ⟨17, false, 64, rfl, (by kernel_rfl), (by kernel_rfl), rfl, rfl⟩) rfl rfl, ?_⟩
          refine ⟨gVal rfl (.inl ⟨rfl, rfl⟩) rfl (fun Lb v act wy K => by
           have e1 : act.eval (.tmp 64) = .bool true := K.at_val 17 (by kernel_rfl) (by kernel_rfl) rfl
           have ec : act.eval (.const (.bool true)) = .bool true := rfl
           show (execOp act.eval _).run Tryz.prog wy = .ok (.value (.bool true)) wy
           generalize act.eval = ρ at e1 ec ⊢
           unfold execOp
           simp [go_sem, e1, ec]), ?_⟩
          refine ⟨gVal rfl (.inl ⟨rfl, rfl⟩) rfl (fun Lb v act wy K => by
           have e1 : act.eval (.tmp 86) = .bool true := K.at_val 39 (by kernel_rfl) (by kernel_rfl) rfl
           exact run_move _ rfl e1), ?_⟩
          refine ⟨gSkip rfl (.inr ⟨40, false, 87, rfl, (by kernel_rfl), (by kernel_rfl), rfl, rfl⟩) rfl rfl, ?_⟩
          refine ⟨gSkip rfl (.inr ⟨40, false, 87, rfl, (by kernel_rfl), (by kernel_rfl), rfl, rfl⟩) rfl rfl, ?_⟩
          refine ⟨gSkip rfl (.inr ⟨40, false, 87, rfl, (by kernel_rfl), (by kernel_rfl), rfl, rfl⟩) rfl rfl, ?_⟩
          refine ⟨gSkip rfl (.inr ⟨40, false, 87, rfl, (by kernel_rfl), (by kernel_rfl), rfl, rfl⟩) rfl rfl, ?_⟩
          refine ⟨gSkip rfl (.inr ⟨40, false, 87, rfl, (by kernel_rfl), (by kernel_rfl), rfl, rfl⟩) rfl rfl, ?_⟩
          refine ⟨gSkip rfl (.inr ⟨40, false, 87, rfl, (by kernel_rfl), (by kernel_rfl), rfl, rfl⟩) rfl rfl, ?_⟩
          refine ⟨gSkip rfl (.inr ⟨40, false, 87, rfl, (by kernel_rfl), (by kernel_rfl), rfl, rfl⟩) rfl rfl, ?_⟩
          refine ⟨gVal rfl (.inl ⟨rfl, rfl⟩) rfl (fun Lb v act wy K => by
           have e1 : act.eval (.tmp 87) = .bool true := K.at_val 40 (by kernel_rfl) (by kernel_rfl) rfl
           have ec : act.eval (.const (.bool true)) = .bool true := rfl
           show (execOp act.eval _).run Tryz.prog wy = .ok (.value (.bool true)) wy
           generalize act.eval = ρ at e1 ec ⊢
           unfold execOp
           simp [go_sem, e1, ec]), ?_⟩
          exact trivial
        have e48 : v 48 = .bool true := hG 48 (by show 48 < 49; decide)
        have HU := hid (HB.out.trans (hb.mono HB.out.size))
        have HU0 := hid (HB0.out.trans (hb.mono HB0.out.size))
        clear hG hb
        simp only [putsAll, Act.put, List.setIfInBounds_toArray, List.set_cons_zero, List.set_cons_succ, e48]
        clear e48
        go_wp2
        go_ret
        exact ⟨by rw [ok_no3 (hosts_no2 k hlt (by unfold hoIs; rw [← HX.out]; rw [HQ.out]; simp))]; rfl, HU.out⟩

      rw [hok] at HOK
      have HI1 := hid hok
      clear hok
      cases hup : x.H.up
      · have HUP : Hid (wr.cell? ⟨hb, ho + k * 16 + 2, none⟩ = some (.bool false)) := by rw [← hup]; exact HRG.out 2 _ rfl
        have HQU := hid hup
        clear hup
        refine region_grow (val := fun i => [.pointer (some ⟨w.heap.size, 3, none⟩), .slice (some ⟨hb, ho, none⟩) 3 c4, .int .i64 (k : Int), .pointer (some ⟨hb, ho + k * 16, none⟩), .pointer (some ⟨hb, ho + k * 16, none⟩), .int .i64 x.H.id, .int .i64 (k : Int), .bool false, .bool false, .pointer (some ⟨w.heap.size, 3, none⟩), .slice (some ⟨hb, ho, none⟩) 3 c4, .int .i64 (k : Int), .pointer (some ⟨hb, ho + k * 16, none⟩), .agg (List.toArray x.cells), .bool true, .bool false, .bool false, .bool false, .pointer (some ⟨w.heap.size, 3, none⟩), .slice (some ⟨hb, ho, none⟩) 3 c4, .int .i64 (k : Int), .pointer (some ⟨hb, ho + k * 16, none⟩), .pointer (some ⟨hb, ho + k * 16 + 2, none⟩), .bool false, .bool false, undef, undef, undef, undef, undef, undef, undef, undef, undef, undef, undef, undef, undef, .bool false, .bool false, .bool false, .pointer (some ⟨w.heap.size, 5, none⟩), .slice (some ⟨nb, no, none⟩) 3 c6, .int .i64 (k : Int), .pointer (some ⟨nb, no + k, none⟩), .int .i64 N, .bool sn, .bool (!sn), .bool (!sn)].getD i undef) (sp := fun _ => none) true (by kernel_rfl) (by kernel_rfl) [some 47, some 48, some 49, some 50, some 51, some 52, some 53, some 54, some 55, some 56, some 57, some 58, some 59, some 60, some 61, some 62, some 63, some 64, some 65, some 66, some 67, some 68, some 69, some 70, some 71, some 72, some 73, some 74, some 75, some 76, some 77, some 78, some 79, some 80, some 81, some 82, some 83, some 84, some 85, some 86, some 87, some 88, some 89, some 90, some 91, some 92, some 93, some 94, some 95] (by kernel_rfl) (fun _ _ h => by cases h) ?_ (fun v w hb hG => ?_)
        · refine ⟨gVal rfl (.inl ⟨rfl, rfl⟩) rfl (fun Lb v act wy K => by
           have e1 : act.eval (.tmp 1) = .pointer (some ⟨w.heap.size, 0, none⟩) := (K.off (x := .tmp 1) (by kernel_rfl)).trans rfl
           show (execOp act.eval _).run Tryz.prog wy = .ok (.value (.pointer (some ⟨w.heap.size, 3, none⟩))) wy
           generalize act.eval = ρ at e1 ⊢
           unfold execOp
           simp [go_sem, e1]), ?_⟩
          refine ⟨gVal rfl (.inl ⟨rfl, rfl⟩) rfl (fun Lb v act wy K => by
           have e1 : act.eval (.tmp 47) = .pointer (some ⟨w.heap.size, 3, none⟩) := K.at_val 0 (by kernel_rfl) (by kernel_rfl) rfl
           have e2 := Rg.cell_later (HC3.out) K.bel
           show (execOp act.eval _).run Tryz.prog wy = .ok (.value (.slice (some ⟨hb, ho, none⟩) 3 c4)) wy
           generalize act.eval = ρ at e1 ⊢
           unfold execOp
           simp [go_sem, e1, e2]), ?_⟩
          refine ⟨gVal rfl (.inl ⟨rfl, rfl⟩) rfl (fun Lb v act wy K => by
           have e1 : act.eval (.tmp 3) = .int .i64 (k : Int) := (K.off (x := .tmp 3) (by kernel_rfl)).trans rfl
           exact run_move _ rfl e1), ?_⟩
          refine ⟨gVal rfl (.inl ⟨rfl, rfl⟩) rfl (fun Lb v act wy K => by
           have e1 : act.eval (.tmp 48) = .slice (some ⟨hb, ho, none⟩) 3 c4 := K.at_val 1 (by kernel_rfl) (by kernel_rfl) rfl
           have e2 : act.eval (.tmp 49) = .int .i64 (k : Int) := K.at_val 2 (by kernel_rfl) (by kernel_rfl) rfl
           show (execOp act.eval _).run Tryz.prog wy = .ok (.value (.pointer (some ⟨hb, ho + k * 16, none⟩))) wy
           generalize act.eval = ρ at e1 e2 ⊢
           unfold execOp
           simp [go_sem, e1, e2, hk3]), ?_⟩
          refine ⟨gVal rfl (.inl ⟨rfl, rfl⟩) rfl (fun Lb v act wy K => by
           have e1 : act.eval (.tmp 50) = .pointer (some ⟨hb, ho + k * 16, none⟩) := K.at_val 3 (by kernel_rfl) (by kernel_rfl) rfl
           show (execOp act.eval _).run Tryz.prog wy = .ok (.value (.pointer (some ⟨hb, ho + k * 16, none⟩))) wy
           generalize act.eval = ρ at e1 ⊢
           unfold execOp
           simp [go_sem, e1]), ?_⟩
          refine ⟨gVal rfl (.inl ⟨rfl, rfl⟩) rfl (fun Lb v act wy K => by
           have e1 : act.eval (.tmp 51) = .pointer (some ⟨hb, ho + k * 16, none⟩) := K.at_val 4 (by kernel_rfl) (by kernel_rfl) rfl
           have e2 := Rg.cell_later (HX0.out) K.bel
           show (execOp act.eval _).run Tryz.prog wy = .ok (.value (.int .i64 x.H.id)) wy
           generalize act.eval = ρ at e1 ⊢
           unfold execOp
           simp [go_sem, e1, e2]), ?_⟩
          refine ⟨gVal rfl (.inl ⟨rfl, rfl⟩) rfl (fun Lb v act wy K => by
           have e1 : act.eval (.tmp 3) = .int .i64 (k : Int) := (K.off (x := .tmp 3) (by kernel_rfl)).trans rfl
           exact run_move _ rfl e1), ?_⟩
          refine ⟨gVal rfl (.inl ⟨rfl, rfl⟩) rfl (fun Lb v act wy K => by
           have e1 : act.eval (.tmp 52) = .int .i64 x.H.id := K.at_val 5 (by kernel_rfl) (by kernel_rfl) rfl
           have e2 : act.eval (.tmp 53) = .int .i64 (k : Int) := K.at_val 6 (by kernel_rfl) (by kernel_rfl) rfl
           show (execOp act.eval _).run Tryz.prog wy = .ok (.value (.bool false)) wy
           generalize act.eval = ρ at e1 e2 ⊢
           unfold execOp
           simp [go_sem, e1, e2, HI0.out]), ?_⟩
          refine ⟨gVal rfl (.inl ⟨rfl, rfl⟩) rfl (fun Lb v act wy K => by
           have e1 : act.eval (.tmp 54) = .bool false := K.at_val 7 (by kernel_rfl) (by kernel_rfl) rfl
           exact run_move _ rfl e1), ?_⟩
          refine ⟨gVal rfl (.inr ⟨8, false, 55, rfl, (by kernel_rfl), (by kernel_rfl), rfl, rfl⟩) rfl (fun Lb v act wy K => by
           have e1 : act.eval (.tmp 1) = .pointer (some ⟨w.heap.size, 0, none⟩) := (K.off (x := .tmp 1) (by kernel_rfl)).trans rfl
           show (execOp act.eval _).run Tryz.prog wy = .ok (.value (.pointer (some ⟨w.heap.size, 3, none⟩))) wy
           generalize act.eval = ρ at e1 ⊢
           unfold execOp
           simp [go_sem, e1]), ?_⟩
          refine ⟨gVal rfl (.inr ⟨8, false, 55, rfl, (by kernel_rfl), (by kernel_rfl), rfl, rfl⟩) rfl (fun Lb v act wy K => by
           have e1 : act.eval (.tmp 56) = .pointer (some ⟨w.heap.size, 3, none⟩) := K.at_val 9 (by kernel_rfl) (by kernel_rfl) rfl
           have e2 := Rg.cell_later (HC3.out) K.bel
           show (execOp act.eval _).run Tryz.prog wy = .ok (.value (.slice (some ⟨hb, ho, none⟩) 3 c4)) wy
           generalize act.eval = ρ at e1 ⊢
           unfold execOp
           simp [go_sem, e1, e2]), ?_⟩
          refine ⟨gVal rfl (.inr ⟨8, false, 55, rfl, (by kernel_rfl), (by kernel_rfl), rfl, rfl⟩) rfl (fun Lb v act wy K => by
           have e1 : act.eval (.tmp 3) = .int .i64 (k : Int) := (K.off (x := .tmp 3) (by kernel_rfl)).trans rfl
           exact run_move _ rfl e1), ?_⟩
          refine ⟨gVal rfl (.inr ⟨8, false, 55, rfl, (by kernel_rfl), (by kernel_rfl), rfl, rfl⟩) rfl (fun Lb v act wy K => by
           have e1 : act.eval (.tmp 57) = .slice (some ⟨hb, ho, none⟩) 3 c4 := K.at_val 10 (by kernel_rfl) (by kernel_rfl) rfl
           have e2 : act.eval (.tmp 58) = .int .i64 (k : Int) := K.at_val 11 (by kernel_rfl) (by kernel_rfl) rfl
           show (execOp act.eval _).run Tryz.prog wy = .ok (.value (.pointer (some ⟨hb, ho + k * 16, none⟩))) wy
           generalize act.eval = ρ at e1 e2 ⊢
           unfold execOp
           simp [go_sem, e1, e2, hk3]), ?_⟩
          refine ⟨gVal rfl (.inr ⟨8, false, 55, rfl, (by kernel_rfl), (by kernel_rfl), rfl, rfl⟩) rfl (fun Lb v act wy K => Rg.run_load_at 68 (.tmp 59) rfl _ _ ((K.at_val 12 (by kernel_rfl) (by kernel_rfl) rfl)) _ (rangeAt_below HRG.out K.bel) _ Tryz.underlying68 rfl (by rw [hx_len]; kernel_rfl)), ?_⟩
          refine ⟨gCall rfl (.inr ⟨8, false, 55, rfl, (by kernel_rfl), (by kernel_rfl), rfl, rfl⟩) 41 #[.tmp 60] _ (fun _ => #[.agg (List.toArray x.cells)]) rfl call_sHostOk (fun Lb v act wy K => by
           have e1 : act.eval (.tmp 60) = .agg (List.toArray x.cells) := K.at_val 13 (by kernel_rfl) (by kernel_rfl) rfl
           simp only [List.map_toArray, List.map_cons, List.map_nil, e1]) (fun v w hb hs => (HOK.out w hb).mono (fun e w' ⟨h1, h2⟩ => ⟨_, h1, h2, rfl⟩)), ?_⟩
          refine ⟨gVal rfl (.inr ⟨8, false, 55, rfl, (by kernel_rfl), (by kernel_rfl), rfl, rfl⟩) rfl (fun Lb v act wy K => by
           have e1 : act.eval (.tmp 61) = .bool true := K.at_val 14 (by kernel_rfl) (by kernel_rfl) rfl
           show (execOp act.eval _).run Tryz.prog wy = .ok (.value (.bool false)) wy
           generalize act.eval = ρ at e1 ⊢
           unfold execOp
           simp [go_sem, e1]), ?_⟩
          refine ⟨gVal rfl (.inl ⟨rfl, rfl⟩) rfl (fun Lb v act wy K => by
           have e1 : act.eval (.tmp 55) = .bool false := K.at_val 8 (by kernel_rfl) (by kernel_rfl) rfl
           have e2 : act.eval (.tmp 62) = .bool false := K.at_val 15 (by kernel_rfl) (by kernel_rfl) rfl
           show (execOp act.eval _).run Tryz.prog wy = .ok (.value (.bool false)) wy
           generalize act.eval = ρ at e1 e2 ⊢
           unfold execOp
           simp [go_sem, e1, e2]), ?_⟩
          refine ⟨gVal rfl (.inl ⟨rfl, rfl⟩) rfl (fun Lb v act wy K => by
           have e1 : act.eval (.tmp 63) = .bool false := K.at_val 16 (by kernel_rfl) (by kernel_rfl) rfl
           exact run_move _ rfl e1), ?_⟩
          refine ⟨gVal rfl (.inr ⟨17, false, 64, rfl, (by kernel_rfl), (by kernel_rfl), rfl, rfl⟩) rfl (fun Lb v act wy K => by
           have e1 : act.eval (.tmp 1) = .pointer (some ⟨w.heap.size, 0, none⟩) := (K.off (x := .tmp 1) (by kernel_rfl)).trans rfl
           show (execOp act.eval _).run Tryz.prog wy = .ok (.value (.pointer (some ⟨w.heap.size, 3, none⟩))) wy
           generalize act.eval = ρ at e1 ⊢
           unfold execOp
           simp [go_sem, e1]), ?_⟩
          refine ⟨gVal rfl (.inr ⟨17, false, 64, rfl, (by kernel_rfl), (by kernel_rfl), rfl, rfl⟩) rfl (fun Lb v act wy K => by
           have e1 : act.eval (.tmp 65) = .pointer (some ⟨w.heap.size, 3, none⟩) := K.at_val 18 (by kernel_rfl) (by kernel_rfl) rfl
           have e2 := Rg.cell_later (HC3.out) K.bel
           show (execOp act.eval _).run Tryz.prog wy = .ok (.value (.slice (some ⟨hb, ho, none⟩) 3 c4)) wy
           generalize act.eval = ρ at e1 ⊢
           unfold execOp
           simp [go_sem, e1, e2]), ?_⟩
          refine ⟨gVal rfl (.inr ⟨17, false, 64, rfl, (by kernel_rfl), (by kernel_rfl), rfl, rfl⟩) rfl (fun Lb v act wy K => by
           have e1 : act.eval (.tmp 3) = .int .i64 (k : Int) := (K.off (x := .tmp 3) (by kernel_rfl)).trans rfl
           exact run_move _ rfl e1), ?_⟩
          refine ⟨gVal rfl (.inr ⟨17, false, 64, rfl, (by kernel_rfl), (by kernel_rfl), rfl, rfl⟩) rfl (fun Lb v act wy K => by
           have e1 : act.eval (.tmp 66) = .slice (some ⟨hb, ho, none⟩) 3 c4 := K.at_val 19 (by kernel_rfl) (by kernel_rfl) rfl
           have e2 : act.eval (.tmp 67) = .int .i64 (k : Int) := K.at_val 20 (by kernel_rfl) (by kernel_rfl) rfl
           show (execOp act.eval _).run Tryz.prog wy = .ok (.value (.pointer (some ⟨hb, ho + k * 16, none⟩))) wy
           generalize act.eval = ρ at e1 e2 ⊢
           unfold execOp
           simp [go_sem, e1, e2, hk3]), ?_⟩
          refine ⟨gVal rfl (.inr ⟨17, false, 64, rfl, (by kernel_rfl), (by kernel_rfl), rfl, rfl⟩) rfl (fun Lb v act wy K => by
           have e1 : act.eval (.tmp 68) = .pointer (some ⟨hb, ho + k * 16, none⟩) := K.at_val 21 (by kernel_rfl) (by kernel_rfl) rfl
           show (execOp act.eval _).run Tryz.prog wy = .ok (.value (.pointer (some ⟨hb, ho + k * 16 + 2, none⟩))) wy
           generalize act.eval = ρ at e1 ⊢
           unfold execOp
           simp [go_sem, e1]), ?_⟩
          refine ⟨gVal rfl (.inr ⟨17, false, 64, rfl, (by kernel_rfl), (by kernel_rfl), rfl, rfl⟩) rfl (fun Lb v act wy K => by
           have e1 : act.eval (.tmp 69) = .pointer (some ⟨hb, ho + k * 16 + 2, none⟩) := K.at_val 22 (by kernel_rfl) (by kernel_rfl) rfl
           have e2 := Rg.cell_later (HUP.out) K.bel
           show (execOp act.eval _).run Tryz.prog wy = .ok (.value (.bool false)) wy
           generalize act.eval = ρ at e1 ⊢
           unfold execOp
           simp [go_sem, e1, e2]), ?_⟩
          refine ⟨gVal rfl (.inr ⟨17, false, 64, rfl, (by kernel_rfl), (by kernel_rfl), rfl, rfl⟩) rfl (fun Lb v act wy K => by
           have e1 : act.eval (.tmp 70) = .bool false := K.at_val 23 (by kernel_rfl) (by kernel_rfl) rfl
           exact run_move _ rfl e1), ?_⟩
          refine ⟨gSkip rfl (.inr ⟨24, true, 71, rfl, (by kernel_rfl), (by kernel_rfl), rfl, rfl⟩) rfl rfl, ?_⟩
          refine ⟨gSkip rfl (.inr ⟨24, true, 71, rfl, (by kernel_rfl), (by kernel_rfl), rfl, rfl⟩) rfl rfl, ?_⟩
          refine ⟨gSkip rfl (.inr ⟨24, true, 71, rfl, (by kernel_rfl), (by kernel_rfl), rfl, rfl⟩) rfl rfl, ?_⟩
          refine ⟨gSkip rfl (.inr ⟨24, true, 71, rfl, (by kernel_rfl), (by kernel_rfl), rfl, rfl⟩) rfl rfl, ?_⟩
          refine ⟨gSkip rfl (.inr ⟨24, true, 71, rfl, (by kernel_rfl), (by kernel_rfl), rfl, rfl⟩) rfl rfl, ?_⟩
          refine ⟨gSkip rfl (.inr ⟨24, true, 71, rfl, (by kernel_rfl), (by kernel_rfl), rfl, rfl⟩) rfl rfl, ?_⟩
          refine ⟨gSkip rfl (.inr ⟨24, true, 71, rfl, (by kernel_rfl), (by kernel_rfl), rfl, rfl⟩) rfl rfl, ?_⟩
          refine ⟨gSkip rfl (.inr ⟨24, true, 71, rfl, (by kernel_rfl), (by kernel_rfl), rfl, rfl⟩) rfl rfl, ?_⟩
          refine ⟨gSkip rfl (.inr ⟨24, true, 71, rfl, (by kernel_rfl), (by kernel_rfl), rfl, rfl⟩) rfl rfl, ?_⟩
          refine ⟨gSkip rfl (.inr ⟨24, true, 71, rfl, (by kernel_rfl), (by kernel_rfl), rfl, rfl⟩) rfl rfl, ?_⟩
          refine ⟨gSkip rfl (.inr ⟨24, true, 71, rfl, (by kernel_rfl), (by kernel_rfl), rfl, rfl⟩) rfl rfl, ?_⟩
          refine ⟨gSkip rfl (.inr ⟨24, true, 71, rfl, (by kernel_rfl), (by kernel_rfl), rfl, rfl⟩) rfl rfl, ?_⟩
          refine ⟨gSkip rfl (.inr ⟨24, true, 71, rfl, (by kernel_rfl), (by kernel_rfl), rfl, rfl⟩) rfl rfl, ?_⟩
          refine ⟨gVal rfl (.inr ⟨17, false, 64, rfl, (by kernel_rfl), (by kernel_rfl), rfl, rfl⟩) rfl (fun Lb v act wy K => by
           have e1 : act.eval (.tmp 71) = .bool false := K.at_val 24 (by kernel_rfl) (by kernel_rfl) rfl
           have ec : act.eval (.const (.bool false)) = .bool false := rfl
           show (execOp act.eval _).run Tryz.prog wy = .ok (.value (.bool false)) wy
           generalize act.eval = ρ at e1 ec ⊢
           unfold execOp
           simp [go_sem, e1, ec]), ?_⟩
          refine ⟨gVal rfl (.inl ⟨rfl, rfl⟩) rfl (fun Lb v act wy K => by
           have e1 : act.eval (.tmp 64) = .bool false := K.at_val 17 (by kernel_rfl) (by kernel_rfl) rfl
           have e2 : act.eval (.tmp 85) = .bool false := K.at_val 38 (by kernel_rfl) (by kernel_rfl) rfl
           show (execOp act.eval _).run Tryz.prog wy = .ok (.value (.bool false)) wy
           generalize act.eval = ρ at e1 e2 ⊢
           unfold execOp
           simp [go_sem, e1, e2]), ?_⟩
          refine ⟨gVal rfl (.inl ⟨rfl, rfl⟩) rfl (fun Lb v act wy K => by
           have e1 : act.eval (.tmp 86) = .bool false := K.at_val 39 (by kernel_rfl) (by kernel_rfl) rfl
           exact run_move _ rfl e1), ?_⟩
          refine ⟨gVal rfl (.inr ⟨40, false, 87, rfl, (by kernel_rfl), (by kernel_rfl), rfl, rfl⟩) rfl (fun Lb v act wy K => by
           have e1 : act.eval (.tmp 1) = .pointer (some ⟨w.heap.size, 0, none⟩) := (K.off (x := .tmp 1) (by kernel_rfl)).trans rfl
           show (execOp act.eval _).run Tryz.prog wy = .ok (.value (.pointer (some ⟨w.heap.size, 5, none⟩))) wy
           generalize act.eval = ρ at e1 ⊢
           unfold execOp
           simp [go_sem, e1]), ?_⟩
          refine ⟨gVal rfl (.inr ⟨40, false, 87, rfl, (by kernel_rfl), (by kernel_rfl), rfl, rfl⟩) rfl (fun Lb v act wy K => by
           have e1 : act.eval (.tmp 88) = .pointer (some ⟨w.heap.size, 5, none⟩) := K.at_val 41 (by kernel_rfl) (by kernel_rfl) rfl
           have e2 := Rg.cell_later (HC5.out) K.bel
           show (execOp act.eval _).run Tryz.prog wy = .ok (.value (.slice (some ⟨nb, no, none⟩) 3 c6)) wy
           generalize act.eval = ρ at e1 ⊢
           unfold execOp
           simp [go_sem, e1, e2]), ?_⟩
          refine ⟨gVal rfl (.inr ⟨40, false, 87, rfl, (by kernel_rfl), (by kernel_rfl), rfl, rfl⟩) rfl (fun Lb v act wy K => by
           have e1 : act.eval (.tmp 3) = .int .i64 (k : Int) := (K.off (x := .tmp 3) (by kernel_rfl)).trans rfl
           exact run_move _ rfl e1), ?_⟩
          refine ⟨gVal rfl (.inr ⟨40, false, 87, rfl, (by kernel_rfl), (by kernel_rfl), rfl, rfl⟩) rfl (fun Lb v act wy K => by
           have e1 : act.eval (.tmp 89) = .slice (some ⟨nb, no, none⟩) 3 c6 := K.at_val 42 (by kernel_rfl) (by kernel_rfl) rfl
           have e2 : act.eval (.tmp 90) = .int .i64 (k : Int) := K.at_val 43 (by kernel_rfl) (by kernel_rfl) rfl
           show (execOp act.eval _).run Tryz.prog wy = .ok (.value (.pointer (some ⟨nb, no + k, none⟩))) wy
           generalize act.eval = ρ at e1 e2 ⊢
           unfold execOp
           simp [go_sem, e1, e2, hk3]), ?_⟩
          refine ⟨gVal rfl (.inr ⟨40, false, 87, rfl, (by kernel_rfl), (by kernel_rfl), rfl, rfl⟩) rfl (fun Lb v act wy K => by
           have e1 : act.eval (.tmp 91) = .pointer (some ⟨nb, no + k, none⟩) := K.at_val 44 (by kernel_rfl) (by kernel_rfl) rfl
           have e2 := Rg.cell_later (HCN.out) K.bel
           show (execOp act.eval _).run Tryz.prog wy = .ok (.value (.int .i64 N)) wy
           generalize act.eval = ρ at e1 ⊢
           unfold execOp
           simp [go_sem, e1, e2]), ?_⟩
          refine ⟨gCall rfl (.inr ⟨40, false, 87, rfl, (by kernel_rfl), (by kernel_rfl), rfl, rfl⟩) 42 #[.tmp 92, .const (.int .i64 0), .const (.int .i64 1000000)] _ (fun _ => #[.int .i64 N, .int .i64 0, .int .i64 1000000]) rfl call_l1In (fun Lb v act wy K => by
           have e1 : act.eval (.tmp 92) = .int .i64 N := K.at_val 45 (by kernel_rfl) (by kernel_rfl) rfl
           simp only [List.map_toArray, List.map_cons, List.map_nil, e1]; rfl) (fun v w hb hs => (HIN.out w).mono (fun e w' ⟨h1, h2⟩ => ⟨_, h1, h2 ▸ Below.refl _ _, rfl⟩)), ?_⟩
          refine ⟨gVal rfl (.inr ⟨40, false, 87, rfl, (by kernel_rfl), (by kernel_rfl), rfl, rfl⟩) rfl (fun Lb v act wy K => by
           have e1 : act.eval (.tmp 93) = .bool sn := K.at_val 46 (by kernel_rfl) (by kernel_rfl) rfl
           show (execOp act.eval _).run Tryz.prog wy = .ok (.value (.bool (!sn))) wy
           generalize act.eval = ρ at e1 ⊢
           unfold execOp
           simp [go_sem, e1]), ?_⟩
          refine ⟨gVal rfl (.inl ⟨rfl, rfl⟩) rfl (fun Lb v act wy K => by
           have e1 : act.eval (.tmp 87) = .bool false := K.at_val 40 (by kernel_rfl) (by kernel_rfl) rfl
           have e2 : act.eval (.tmp 94) = .bool (!sn) := K.at_val 47 (by kernel_rfl) (by kernel_rfl) rfl
           show (execOp act.eval _).run Tryz.prog wy = .ok (.value (.bool (!sn))) wy
           generalize act.eval = ρ at e1 e2 ⊢
           unfold execOp
           simp [go_sem, e1, e2]), ?_⟩
          exact trivial
        have e48 : v 48 = .bool (!sn) := hG 48 (by show 48 < 49; decide)
        have HU := hid (HB.out.trans (hb.mono HB.out.size))
        have HU0 := hid (HB0.out.trans (hb.mono HB0.out.size))
        clear hG hb
        simp only [putsAll, Act.put, List.setIfInBounds_toArray, List.set_cons_zero, List.set_cons_succ, e48]
        clear e48
        by_cases hn : 0 ≤ N ∧ N ≤ 1000000
        rotate_left
        · have HQ := hid hn
          have HQ2 : Hid (sn = false) := by rw [← HSN.out]; exact decide_eq_false hn
          clear hn
          rw [HQ2.out]
          go_wp2
          go_ret
          exact ⟨by rw [ok_no4 (show seenOk X.seen = false by unfold seenOk; rw [Bool.and_comm, show between 0 1000000 X.seen = false from all_false X.seen _ 0 k (by rw [HQ4.out]; exact hlt) (by rw [HN.out]; exact decide_eq_false HQ.out)]; rfl)]; rfl, HU.out⟩

        have HQS := hid hn
        have HQ2 : Hid (sn = true) := by rw [← HSN.out]; exact decide_eq_true hn
        clear hn
        rw [HQ2.out]
        go_wp2
        refine ⟨⟨k + 1, by omega, by go_num, ?_, ?_, HU0.out⟩, by simp [intOf]; omega⟩
        · intro j hj
          by_cases hjk : j = k
          · subst hjk
            unfold hoIs
            rw [← HX.out, decide_eq_true HI0.out, HI1.out]
            rw [HQU.out]; rfl
          · exact HI.out j (by omega)
        · intro j hj
          by_cases hjk : j = k
          · subst hjk
            rw [HN.out]
            exact HQS.out
          · exact HJ.out j (by omega)

      have HUP : Hid (wr.cell? ⟨hb, ho + k * 16 + 2, none⟩ = some (.bool true)) := by rw [← hup]; exact HRG.out 2 _ rfl
      have HQU := hid hup
      clear hup
      by_cases hep : E < x.H.ep
      · have HQE := hid hep
        refine region_grow (val := fun i => [.pointer (some ⟨w.heap.size, 3, none⟩), .slice (some ⟨hb, ho, none⟩) 3 c4, .int .i64 (k : Int), .pointer (some ⟨hb, ho + k * 16, none⟩), .pointer (some ⟨hb, ho + k * 16, none⟩), .int .i64 x.H.id, .int .i64 (k : Int), .bool false, .bool false, .pointer (some ⟨w.heap.size, 3, none⟩), .slice (some ⟨hb, ho, none⟩) 3 c4, .int .i64 (k : Int), .pointer (some ⟨hb, ho + k * 16, none⟩), .agg (List.toArray x.cells), .bool true, .bool false, .bool false, .bool false, .pointer (some ⟨w.heap.size, 3, none⟩), .slice (some ⟨hb, ho, none⟩) 3 c4, .int .i64 (k : Int), .pointer (some ⟨hb, ho + k * 16, none⟩), .pointer (some ⟨hb, ho + k * 16 + 2, none⟩), .bool true, .bool true, .pointer (some ⟨w.heap.size, 3, none⟩), .slice (some ⟨hb, ho, none⟩) 3 c4, .int .i64 (k : Int), .pointer (some ⟨hb, ho + k * 16, none⟩), .pointer (some ⟨hb, ho + k * 16 + 1, none⟩), .int .i64 x.H.ep, .pointer (some ⟨w.heap.size, 0, none⟩), .pointer (some ⟨w.heap.size, 1, none⟩), .slice (some ⟨eb, eo, none⟩) 3 c2, .int .i64 (k : Int), .pointer (some ⟨eb, eo + k, none⟩), .int .i64 E, .bool true, .bool true, .bool true, .bool true, undef, undef, undef, undef, undef, undef, undef, .bool true].getD i undef) (sp := fun _ => none) true (by kernel_rfl) (by kernel_rfl) [some 47, some 48, some 49, some 50, some 51, some 52, some 53, some 54, some 55, some 56, some 57, some 58, some 59, some 60, some 61, some 62, some 63, some 64, some 65, some 66, some 67, some 68, some 69, some 70, some 71, some 72, some 73, some 74, some 75, some 76, some 77, some 78, some 79, some 80, some 81, some 82, some 83, some 84, some 85, some 86, some 87, some 88, some 89, some 90, some 91, some 92, some 93, some 94, some 95] (by kernel_rfl) (fun _ _ h => by cases h) ?_ (fun v w hb hG => ?_)
        · refine ⟨gVal rfl (.inl ⟨rfl, rfl⟩) rfl (fun Lb v act wy K => by
           have e1 : act.eval (.tmp 1) = .pointer (some ⟨w.heap.size, 0, none⟩) := (K.off (x := .tmp 1) (by kernel_rfl)).trans rfl
           show (execOp act.eval _).run Tryz.prog wy = .ok (.value (.pointer (some ⟨w.heap.size, 3, none⟩))) wy
           generalize act.eval = ρ at e1 ⊢
           unfold execOp
           simp [go_sem, e1]), ?_⟩
          refine ⟨gVal rfl (.inl ⟨rfl, rfl⟩) rfl (fun Lb v act wy K => by
           have e1 : act.eval (.tmp 47) = .pointer (some ⟨w.heap.size, 3, none⟩) := K.at_val 0 (by kernel_rfl) (by kernel_rfl) rfl
           have e2 := Rg.cell_later (HC3.out) K.bel
           show (execOp act.eval _).run Tryz.prog wy = .ok (.value (.slice (some ⟨hb, ho, none⟩) 3 c4)) wy
           generalize act.eval = ρ at e1 ⊢
           unfold execOp
           simp [go_sem, e1, e2]), ?_⟩
          refine ⟨gVal rfl (.inl ⟨rfl, rfl⟩) rfl (fun Lb v act wy K => by
           have e1 : act.eval (.tmp 3) = .int .i64 (k : Int) := (K.off (x := .tmp 3) (by kernel_rfl)).trans rfl
           exact run_move _ rfl e1), ?_⟩
          refine ⟨gVal rfl (.inl ⟨rfl, rfl⟩) rfl (fun Lb v act wy K => by
           have e1 : act.eval (.tmp 48) = .slice (some ⟨hb, ho, none⟩) 3 c4 := K.at_val 1 (by kernel_rfl) (by kernel_rfl) rfl
           have e2 : act.eval (.tmp 49) = .int .i64 (k : Int) := K.at_val 2 (by kernel_rfl) (by kernel_rfl) rfl
           show (execOp act.eval _).run Tryz.prog wy = .ok (.value (.pointer (some ⟨hb, ho + k * 16, none⟩))) wy
           generalize act.eval = ρ at e1 e2 ⊢
           unfold execOp
           simp [go_sem, e1, e2, hk3]), ?_⟩
          refine ⟨gVal rfl (.inl ⟨rfl, rfl⟩) rfl (fun Lb v act wy K => by
           have e1 : act.eval (.tmp 50) = .pointer (some ⟨hb, ho + k * 16, none⟩) := K.at_val 3 (by kernel_rfl) (by kernel_rfl) rfl
           show (execOp act.eval _).run Tryz.prog wy = .ok (.value (.pointer (some ⟨hb, ho + k * 16, none⟩))) wy
           generalize act.eval = ρ at e1 ⊢
           unfold execOp
           simp [go_sem, e1]), ?_⟩
          refine ⟨gVal rfl (.inl ⟨rfl, rfl⟩) rfl (fun Lb v act wy K => by
           have e1 : act.eval (.tmp 51) = .pointer (some ⟨hb, ho + k * 16, none⟩) := K.at_val 4 (by kernel_rfl) (by kernel_rfl) rfl
           have e2 := Rg.cell_later (HX0.out) K.bel
           show (execOp act.eval _).run Tryz.prog wy = .ok (.value (.int .i64 x.H.id)) wy
           generalize act.eval = ρ at e1 ⊢
           unfold execOp
           simp [go_sem, e1, e2]), ?_⟩
          refine ⟨gVal rfl (.inl ⟨rfl, rfl⟩) rfl (fun Lb v act wy K => by
           have e1 : act.eval (.tmp 3) = .int .i64 (k : Int) := (K.off (x := .tmp 3) (by kernel_rfl)).trans rfl
           exact run_move _ rfl e1), ?_⟩
          refine ⟨gVal rfl (.inl ⟨rfl, rfl⟩) rfl (fun Lb v act wy K => by
           have e1 : act.eval (.tmp 52) = .int .i64 x.H.id := K.at_val 5 (by kernel_rfl) (by kernel_rfl) rfl
           have e2 : act.eval (.tmp 53) = .int .i64 (k : Int) := K.at_val 6 (by kernel_rfl) (by kernel_rfl) rfl
           show (execOp act.eval _).run Tryz.prog wy = .ok (.value (.bool false)) wy
           generalize act.eval = ρ at e1 e2 ⊢
           unfold execOp
           simp [go_sem, e1, e2, HI0.out]), ?_⟩
          refine ⟨gVal rfl (.inl ⟨rfl, rfl⟩) rfl (fun Lb v act wy K => by
           have e1 : act.eval (.tmp 54) = .bool false := K.at_val 7 (by kernel_rfl) (by kernel_rfl) rfl
           exact run_move _ rfl e1), ?_⟩
          refine ⟨gVal rfl (.inr ⟨8, false, 55, rfl, (by kernel_rfl), (by kernel_rfl), rfl, rfl⟩) rfl (fun Lb v act wy K => by
           have e1 : act.eval (.tmp 1) = .pointer (some ⟨w.heap.size, 0, none⟩) := (K.off (x := .tmp 1) (by kernel_rfl)).trans rfl
           show (execOp act.eval _).run Tryz.prog wy = .ok (.value (.pointer (some ⟨w.heap.size, 3, none⟩))) wy
           generalize act.eval = ρ at e1 ⊢
           unfold execOp
           simp [go_sem, e1]), ?_⟩
          refine ⟨gVal rfl (.inr ⟨8, false, 55, rfl, (by kernel_rfl), (by kernel_rfl), rfl, rfl⟩) rfl (fun Lb v act wy K => by
           have e1 : act.eval (.tmp 56) = .pointer (some ⟨w.heap.size, 3, none⟩) := K.at_val 9 (by kernel_rfl) (by kernel_rfl) rfl
           have e2 := Rg.cell_later (HC3.out) K.bel
           show (execOp act.eval _).run Tryz.prog wy = .ok (.value (.slice (some ⟨hb, ho, none⟩) 3 c4)) wy
           generalize act.eval = ρ at e1 ⊢
           unfold execOp
           simp [go_sem, e1, e2]), ?_⟩
          refine ⟨gVal rfl (.inr ⟨8, false, 55, rfl, (by kernel_rfl), (by kernel_rfl), rfl, rfl⟩) rfl (fun Lb v act wy K => by
           have e1 : act.eval (.tmp 3) = .int .i64 (k : Int) := (K.off (x := .tmp 3) (by kernel_rfl)).trans rfl
           exact run_move _ rfl e1), ?_⟩
          refine ⟨gVal rfl (.inr ⟨8, false, 55, rfl, (by kernel_rfl), (by kernel_rfl), rfl, rfl⟩) rfl (fun Lb v act wy K => by
           have e1 : act.eval (.tmp 57) = .slice (some ⟨hb, ho, none⟩) 3 c4 := K.at_val 10 (by kernel_rfl) (by kernel_rfl) rfl
           have e2 : act.eval (.tmp 58) = .int .i64 (k : Int) := K.at_val 11 (by kernel_rfl) (by kernel_rfl) rfl
           show (execOp act.eval _).run Tryz.prog wy = .ok (.value (.pointer (some ⟨hb, ho + k * 16, none⟩))) wy
           generalize act.eval = ρ at e1 e2 ⊢
           unfold execOp
           simp [go_sem, e1, e2, hk3]), ?_⟩
          refine ⟨gVal rfl (.inr ⟨8, false, 55, rfl, (by kernel_rfl), (by kernel_rfl), rfl, rfl⟩) rfl (fun Lb v act wy K => Rg.run_load_at 68 (.tmp 59) rfl _ _ ((K.at_val 12 (by kernel_rfl) (by kernel_rfl) rfl)) _ (rangeAt_below HRG.out K.bel) _ Tryz.underlying68 rfl (by rw [hx_len]; kernel_rfl)), ?_⟩
          refine ⟨gCall rfl (.inr ⟨8, false, 55, rfl, (by kernel_rfl), (by kernel_rfl), rfl, rfl⟩) 41 #[.tmp 60] _ (fun _ => #[.agg (List.toArray x.cells)]) rfl call_sHostOk (fun Lb v act wy K => by
           have e1 : act.eval (.tmp 60) = .agg (List.toArray x.cells) := K.at_val 13 (by kernel_rfl) (by kernel_rfl) rfl
           simp only [List.map_toArray, List.map_cons, List.map_nil, e1]) (fun v w hb hs => (HOK.out w hb).mono (fun e w' ⟨h1, h2⟩ => ⟨_, h1, h2, rfl⟩)), ?_⟩
          refine ⟨gVal rfl (.inr ⟨8, false, 55, rfl, (by kernel_rfl), (by kernel_rfl), rfl, rfl⟩) rfl (fun Lb v act wy K => by
           have e1 : act.eval (.tmp 61) = .bool true := K.at_val 14 (by kernel_rfl) (by kernel_rfl) rfl
           show (execOp act.eval _).run Tryz.prog wy = .ok (.value (.bool false)) wy
           generalize act.eval = ρ at e1 ⊢
           unfold execOp
           simp [go_sem, e1]), ?_⟩
          refine ⟨gVal rfl (.inl ⟨rfl, rfl⟩) rfl (fun Lb v act wy K => by
           have e1 : act.eval (.tmp 55) = .bool false := K.at_val 8 (by kernel_rfl) (by kernel_rfl) rfl
           have e2 : act.eval (.tmp 62) = .bool false := K.at_val 15 (by kernel_rfl) (by kernel_rfl) rfl
           show (execOp act.eval _).run Tryz.prog wy = .ok (.value (.bool false)) wy
           generalize act.eval = ρ at e1 e2 ⊢
           unfold execOp
           simp [go_sem, e1, e2]), ?_⟩
          refine ⟨gVal rfl (.inl ⟨rfl, rfl⟩) rfl (fun Lb v act wy K => by
           have e1 : act.eval (.tmp 63) = .bool false := K.at_val 16 (by kernel_rfl) (by kernel_rfl) rfl
           exact run_move _ rfl e1), ?_⟩
          refine ⟨gVal rfl (.inr ⟨17, false, 64, rfl, (by kernel_rfl), (by kernel_rfl), rfl, rfl⟩) rfl (fun Lb v act wy K => by
           have e1 : act.eval (.tmp 1) = .pointer (some ⟨w.heap.size, 0, none⟩) := (K.off (x := .tmp 1) (by kernel_rfl)).trans rfl
           show (execOp act.eval _).run Tryz.prog wy = .ok (.value (.pointer (some ⟨w.heap.size, 3, none⟩))) wy
           generalize act.eval = ρ at e1 ⊢
           unfold execOp
           simp [go_sem, e1]), ?_⟩
          refine ⟨gVal rfl (.inr ⟨17, false, 64, rfl, (by kernel_rfl), (by kernel_rfl), rfl, rfl⟩) rfl (fun Lb v act wy K => by
           have e1 : act.eval (.tmp 65) = .pointer (some ⟨w.heap.size, 3, none⟩) := K.at_val 18 (by kernel_rfl) (by kernel_rfl) rfl
           have e2 := Rg.cell_later (HC3.out) K.bel
           show (execOp act.eval _).run Tryz.prog wy = .ok (.value (.slice (some ⟨hb, ho, none⟩) 3 c4)) wy
           generalize act.eval = ρ at e1 ⊢
           unfold execOp
           simp [go_sem, e1, e2]), ?_⟩
          refine ⟨gVal rfl (.inr ⟨17, false, 64, rfl, (by kernel_rfl), (by kernel_rfl), rfl, rfl⟩) rfl (fun Lb v act wy K => by
           have e1 : act.eval (.tmp 3) = .int .i64 (k : Int) := (K.off (x := .tmp 3) (by kernel_rfl)).trans rfl
           exact run_move _ rfl e1), ?_⟩
          refine ⟨gVal rfl (.inr ⟨17, false, 64, rfl, (by kernel_rfl), (by kernel_rfl), rfl, rfl⟩) rfl (fun Lb v act wy K => by
           have e1 : act.eval (.tmp 66) = .slice (some ⟨hb, ho, none⟩) 3 c4 := K.at_val 19 (by kernel_rfl) (by kernel_rfl) rfl
           have e2 : act.eval (.tmp 67) = .int .i64 (k : Int) := K.at_val 20 (by kernel_rfl) (by kernel_rfl) rfl
           show (execOp act.eval _).run Tryz.prog wy = .ok (.value (.pointer (some ⟨hb, ho + k * 16, none⟩))) wy
           generalize act.eval = ρ at e1 e2 ⊢
           unfold execOp
           simp [go_sem, e1, e2, hk3]), ?_⟩
          refine ⟨gVal rfl (.inr ⟨17, false, 64, rfl, (by kernel_rfl), (by kernel_rfl), rfl, rfl⟩) rfl (fun Lb v act wy K => by
           have e1 : act.eval (.tmp 68) = .pointer (some ⟨hb, ho + k * 16, none⟩) := K.at_val 21 (by kernel_rfl) (by kernel_rfl) rfl
           show (execOp act.eval _).run Tryz.prog wy = .ok (.value (.pointer (some ⟨hb, ho + k * 16 + 2, none⟩))) wy
           generalize act.eval = ρ at e1 ⊢
           unfold execOp
           simp [go_sem, e1]), ?_⟩
          refine ⟨gVal rfl (.inr ⟨17, false, 64, rfl, (by kernel_rfl), (by kernel_rfl), rfl, rfl⟩) rfl (fun Lb v act wy K => by
           have e1 : act.eval (.tmp 69) = .pointer (some ⟨hb, ho + k * 16 + 2, none⟩) := K.at_val 22 (by kernel_rfl) (by kernel_rfl) rfl
           have e2 := Rg.cell_later (HUP.out) K.bel
           show (execOp act.eval _).run Tryz.prog wy = .ok (.value (.bool true)) wy
           generalize act.eval = ρ at e1 ⊢
           unfold execOp
           simp [go_sem, e1, e2]), ?_⟩
          refine ⟨gVal rfl (.inr ⟨17, false, 64, rfl, (by kernel_rfl), (by kernel_rfl), rfl, rfl⟩) rfl (fun Lb v act wy K => by
           have e1 : act.eval (.tmp 70) = .bool true := K.at_val 23 (by kernel_rfl) (by kernel_rfl) rfl
           exact run_move _ rfl e1), ?_⟩
          refine ⟨gVal rfl (.inr ⟨24, true, 71, rfl, (by kernel_rfl), (by kernel_rfl), rfl, rfl⟩) rfl (fun Lb v act wy K => by
           have e1 : act.eval (.tmp 1) = .pointer (some ⟨w.heap.size, 0, none⟩) := (K.off (x := .tmp 1) (by kernel_rfl)).trans rfl
           show (execOp act.eval _).run Tryz.prog wy = .ok (.value (.pointer (some ⟨w.heap.size, 3, none⟩))) wy
           generalize act.eval = ρ at e1 ⊢
           unfold execOp
           simp [go_sem, e1]), ?_⟩
          refine ⟨gVal rfl (.inr ⟨24, true, 71, rfl, (by kernel_rfl), (by kernel_rfl), rfl, rfl⟩) rfl (fun Lb v act wy K => by
           have e1 : act.eval (.tmp 72) = .pointer (some ⟨w.heap.size, 3, none⟩) := K.at_val 25 (by kernel_rfl) (by kernel_rfl) rfl
           have e2 := Rg.cell_later (HC3.out) K.bel
           show (execOp act.eval _).run Tryz.prog wy = .ok (.value (.slice (some ⟨hb, ho, none⟩) 3 c4)) wy
           generalize act.eval = ρ at e1 ⊢
           unfold execOp
           simp [go_sem, e1, e2]), ?_⟩
          refine ⟨gVal rfl (.inr ⟨24, true, 71, rfl, (by kernel_rfl), (by kernel_rfl), rfl, rfl⟩) rfl (fun Lb v act wy K => by
           have e1 : act.eval (.tmp 3) = .int .i64 (k : Int) := (K.off (x := .tmp 3) (by kernel_rfl)).trans rfl
           exact run_move _ rfl e1), ?_⟩
          refine ⟨gVal rfl (.inr ⟨24, true, 71, rfl, (by kernel_rfl), (by kernel_rfl), rfl, rfl⟩) rfl (fun Lb v act wy K => by
           have e1 : act.eval (.tmp 73) = .slice (some ⟨hb, ho, none⟩) 3 c4 := K.at_val 26 (by kernel_rfl) (by kernel_rfl) rfl
           have e2 : act.eval (.tmp 74) = .int .i64 (k : Int) := K.at_val 27 (by kernel_rfl) (by kernel_rfl) rfl
           show (execOp act.eval _).run Tryz.prog wy = .ok (.value (.pointer (some ⟨hb, ho + k * 16, none⟩))) wy
           generalize act.eval = ρ at e1 e2 ⊢
           unfold execOp
           simp [go_sem, e1, e2, hk3]), ?_⟩
          refine ⟨gVal rfl (.inr ⟨24, true, 71, rfl, (by kernel_rfl), (by kernel_rfl), rfl, rfl⟩) rfl (fun Lb v act wy K => by
           have e1 : act.eval (.tmp 75) = .pointer (some ⟨hb, ho + k * 16, none⟩) := K.at_val 28 (by kernel_rfl) (by kernel_rfl) rfl
           show (execOp act.eval _).run Tryz.prog wy = .ok (.value (.pointer (some ⟨hb, ho + k * 16 + 1, none⟩))) wy
           generalize act.eval = ρ at e1 ⊢
           unfold execOp
           simp [go_sem, e1]), ?_⟩
          refine ⟨gVal rfl (.inr ⟨24, true, 71, rfl, (by kernel_rfl), (by kernel_rfl), rfl, rfl⟩) rfl (fun Lb v act wy K => by
           have e1 : act.eval (.tmp 76) = .pointer (some ⟨hb, ho + k * 16 + 1, none⟩) := K.at_val 29 (by kernel_rfl) (by kernel_rfl) rfl
           have e2 := Rg.cell_later (HX1.out) K.bel
           show (execOp act.eval _).run Tryz.prog wy = .ok (.value (.int .i64 x.H.ep)) wy
           generalize act.eval = ρ at e1 ⊢
           unfold execOp
           simp [go_sem, e1, e2]), ?_⟩
          refine ⟨gVal rfl (.inr ⟨24, true, 71, rfl, (by kernel_rfl), (by kernel_rfl), rfl, rfl⟩) rfl (fun Lb v act wy K => by
           have e1 : act.eval (.tmp 1) = .pointer (some ⟨w.heap.size, 0, none⟩) := (K.off (x := .tmp 1) (by kernel_rfl)).trans rfl
           show (execOp act.eval _).run Tryz.prog wy = .ok (.value (.pointer (some ⟨w.heap.size, 0, none⟩))) wy
           generalize act.eval = ρ at e1 ⊢
           unfold execOp
           simp [go_sem, e1]), ?_⟩
          refine ⟨gVal rfl (.inr ⟨24, true, 71, rfl, (by kernel_rfl), (by kernel_rfl), rfl, rfl⟩) rfl (fun Lb v act wy K => by
           have e1 : act.eval (.tmp 78) = .pointer (some ⟨w.heap.size, 0, none⟩) := K.at_val 31 (by kernel_rfl) (by kernel_rfl) rfl
           show (execOp act.eval _).run Tryz.prog wy = .ok (.value (.pointer (some ⟨w.heap.size, 1, none⟩))) wy
           generalize act.eval = ρ at e1 ⊢
           unfold execOp
           simp [go_sem, e1]), ?_⟩
          refine ⟨gVal rfl (.inr ⟨24, true, 71, rfl, (by kernel_rfl), (by kernel_rfl), rfl, rfl⟩) rfl (fun Lb v act wy K => by
           have e1 : act.eval (.tmp 79) = .pointer (some ⟨w.heap.size, 1, none⟩) := K.at_val 32 (by kernel_rfl) (by kernel_rfl) rfl
           have e2 := Rg.cell_later (HC1.out) K.bel
           show (execOp act.eval _).run Tryz.prog wy = .ok (.value (.slice (some ⟨eb, eo, none⟩) 3 c2)) wy
           generalize act.eval = ρ at e1 ⊢
           unfold execOp
           simp [go_sem, e1, e2]), ?_⟩
          refine ⟨gVal rfl (.inr ⟨24, true, 71, rfl, (by kernel_rfl), (by kernel_rfl), rfl, rfl⟩) rfl (fun Lb v act wy K => by
           have e1 : act.eval (.tmp 3) = .int .i64 (k : Int) := (K.off (x := .tmp 3) (by kernel_rfl)).trans rfl
           exact run_move _ rfl e1), ?_⟩
          refine ⟨gVal rfl (.inr ⟨24, true, 71, rfl, (by kernel_rfl), (by kernel_rfl), rfl, rfl⟩) rfl (fun Lb v act wy K => by
           have e1 : act.eval (.tmp 80) = .slice (some ⟨eb, eo, none⟩) 3 c2 := K.at_val 33 (by kernel_rfl) (by kernel_rfl) rfl
           have e2 : act.eval (.tmp 81) = .int .i64 (k : Int) := K.at_val 34 (by kernel_rfl) (by kernel_rfl) rfl
           show (execOp act.eval _).run Tryz.prog wy = .ok (.value (.pointer (some ⟨eb, eo + k, none⟩))) wy
           generalize act.eval = ρ at e1 e2 ⊢
           unfold execOp
           simp [go_sem, e1, e2, hk3]), ?_⟩
          refine ⟨gVal rfl (.inr ⟨24, true, 71, rfl, (by kernel_rfl), (by kernel_rfl), rfl, rfl⟩) rfl (fun Lb v act wy K => by
           have e1 : act.eval (.tmp 82) = .pointer (some ⟨eb, eo + k, none⟩) := K.at_val 35 (by kernel_rfl) (by kernel_rfl) rfl
           have e2 := Rg.cell_later (HCE.out) K.bel
           show (execOp act.eval _).run Tryz.prog wy = .ok (.value (.int .i64 E)) wy
           generalize act.eval = ρ at e1 ⊢
           unfold execOp
           simp [go_sem, e1, e2]), ?_⟩
          refine ⟨gVal rfl (.inr ⟨24, true, 71, rfl, (by kernel_rfl), (by kernel_rfl), rfl, rfl⟩) rfl (fun Lb v act wy K => by
           have e1 : act.eval (.tmp 77) = .int .i64 x.H.ep := K.at_val 30 (by kernel_rfl) (by kernel_rfl) rfl
           have e2 : act.eval (.tmp 83) = .int .i64 E := K.at_val 36 (by kernel_rfl) (by kernel_rfl) rfl
           show (execOp act.eval _).run Tryz.prog wy = .ok (.value (.bool true)) wy
           generalize act.eval = ρ at e1 e2 ⊢
           unfold execOp
           simp [go_sem, e1, e2, HQE.out]), ?_⟩
          refine ⟨gVal rfl (.inr ⟨17, false, 64, rfl, (by kernel_rfl), (by kernel_rfl), rfl, rfl⟩) rfl (fun Lb v act wy K => by
           have e1 : act.eval (.tmp 71) = .bool true := K.at_val 24 (by kernel_rfl) (by kernel_rfl) rfl
           have e2 : act.eval (.tmp 84) = .bool true := K.at_val 37 (by kernel_rfl) (by kernel_rfl) rfl
           show (execOp act.eval _).run Tryz.prog wy = .ok (.value (.bool true)) wy
           generalize act.eval = ρ at e1 e2 ⊢
           unfold execOp
           simp [go_sem, e1, e2]), ?_⟩
          refine ⟨gVal rfl (.inl ⟨rfl, rfl⟩) rfl (fun Lb v act wy K => by
           have e1 : act.eval (.tmp 64) = .bool false := K.at_val 17 (by kernel_rfl) (by kernel_rfl) rfl
           have e2 : act.eval (.tmp 85) = .bool true := K.at_val 38 (by kernel_rfl) (by kernel_rfl) rfl
           show (execOp act.eval _).run Tryz.prog wy = .ok (.value (.bool true)) wy
           generalize act.eval = ρ at e1 e2 ⊢
           unfold execOp
           simp [go_sem, e1, e2]), ?_⟩
          refine ⟨gVal rfl (.inl ⟨rfl, rfl⟩) rfl (fun Lb v act wy K => by
           have e1 : act.eval (.tmp 86) = .bool true := K.at_val 39 (by kernel_rfl) (by kernel_rfl) rfl
           exact run_move _ rfl e1), ?_⟩
          refine ⟨gSkip rfl (.inr ⟨40, false, 87, rfl, (by kernel_rfl), (by kernel_rfl), rfl, rfl⟩) rfl rfl, ?_⟩
          refine ⟨gSkip rfl (.inr ⟨40, false, 87, rfl, (by kernel_rfl), (by kernel_rfl), rfl, rfl⟩) rfl rfl, ?_⟩
          refine ⟨gSkip rfl (.inr ⟨40, false, 87, rfl, (by kernel_rfl), (by kernel_rfl), rfl, rfl⟩) rfl rfl, ?_⟩
          refine ⟨gSkip rfl (.inr ⟨40, false, 87, rfl, (by kernel_rfl), (by kernel_rfl), rfl, rfl⟩) rfl rfl, ?_⟩
          refine ⟨gSkip rfl (.inr ⟨40, false, 87, rfl, (by kernel_rfl), (by kernel_rfl), rfl, rfl⟩) rfl rfl, ?_⟩
          refine ⟨gSkip rfl (.inr ⟨40, false, 87, rfl, (by kernel_rfl), (by kernel_rfl), rfl, rfl⟩) rfl rfl, ?_⟩
          refine ⟨gSkip rfl (.inr ⟨40, false, 87, rfl, (by kernel_rfl), (by kernel_rfl), rfl, rfl⟩) rfl rfl, ?_⟩
          refine ⟨gVal rfl (.inl ⟨rfl, rfl⟩) rfl (fun Lb v act wy K => by
           have e1 : act.eval (.tmp 87) = .bool true := K.at_val 40 (by kernel_rfl) (by kernel_rfl) rfl
           have ec : act.eval (.const (.bool true)) = .bool true := rfl
           show (execOp act.eval _).run Tryz.prog wy = .ok (.value (.bool true)) wy
           generalize act.eval = ρ at e1 ec ⊢
           unfold execOp
           simp [go_sem, e1, ec]), ?_⟩
          exact trivial
        have e48 : v 48 = .bool true := hG 48 (by show 48 < 49; decide)
        have HU := hid (HB.out.trans (hb.mono HB.out.size))
        have HU0 := hid (HB0.out.trans (hb.mono HB0.out.size))
        clear hG hb
        simp only [putsAll, Act.put, List.setIfInBounds_toArray, List.set_cons_zero, List.set_cons_succ, e48]
        clear e48
        go_wp2
        go_ret
        exact ⟨by rw [ok_no3 (hosts_no2 k hlt (by unfold hoIs; rw [← HX.out]; rw [HQU.out, HE.out, decide_eq_true HQE.out]; simp))]; rfl, HU.out⟩

      have HQE := hid hep
      refine region_grow (val := fun i => [.pointer (some ⟨w.heap.size, 3, none⟩), .slice (some ⟨hb, ho, none⟩) 3 c4, .int .i64 (k : Int), .pointer (some ⟨hb, ho + k * 16, none⟩), .pointer (some ⟨hb, ho + k * 16, none⟩), .int .i64 x.H.id, .int .i64 (k : Int), .bool false, .bool false, .pointer (some ⟨w.heap.size, 3, none⟩), .slice (some ⟨hb, ho, none⟩) 3 c4, .int .i64 (k : Int), .pointer (some ⟨hb, ho + k * 16, none⟩), .agg (List.toArray x.cells), .bool true, .bool false, .bool false, .bool false, .pointer (some ⟨w.heap.size, 3, none⟩), .slice (some ⟨hb, ho, none⟩) 3 c4, .int .i64 (k : Int), .pointer (some ⟨hb, ho + k * 16, none⟩), .pointer (some ⟨hb, ho + k * 16 + 2, none⟩), .bool true, .bool true, .pointer (some ⟨w.heap.size, 3, none⟩), .slice (some ⟨hb, ho, none⟩) 3 c4, .int .i64 (k : Int), .pointer (some ⟨hb, ho + k * 16, none⟩), .pointer (some ⟨hb, ho + k * 16 + 1, none⟩), .int .i64 x.H.ep, .pointer (some ⟨w.heap.size, 0, none⟩), .pointer (some ⟨w.heap.size, 1, none⟩), .slice (some ⟨eb, eo, none⟩) 3 c2, .int .i64 (k : Int), .pointer (some ⟨eb, eo + k, none⟩), .int .i64 E, .bool false, .bool false, .bool false, .bool false, .pointer (some ⟨w.heap.size, 5, none⟩), .slice (some ⟨nb, no, none⟩) 3 c6, .int .i64 (k : Int), .pointer (some ⟨nb, no + k, none⟩), .int .i64 N, .bool sn, .bool (!sn), .bool (!sn)].getD i undef) (sp := fun _ => none) true (by kernel_rfl) (by kernel_rfl) [some 47, some 48, some 49, some 50, some 51, some 52, some 53, some 54, some 55, some 56, some 57, some 58, some 59, some 60, some 61, some 62, some 63, some 64, some 65, some 66, some 67, some 68, some 69, some 70, some 71, some 72, some 73, some 74, some 75, some 76, some 77, some 78, some 79, some 80, some 81, some 82, some 83, some 84, some 85, some 86, some 87, some 88, some 89, some 90, some 91, some 92, some 93, some 94, some 95] (by kernel_rfl) (fun _ _ h => by cases h) ?_ (fun v w hb hG => ?_)
      · refine ⟨gVal rfl (.inl ⟨rfl, rfl⟩) rfl (fun Lb v act wy K => by
         have e1 : act.eval (.tmp 1) = .pointer (some ⟨w.heap.size, 0, none⟩) := (K.off (x := .tmp 1) (by kernel_rfl)).trans rfl
         show (execOp act.eval _).run Tryz.prog wy = .ok (.value (.pointer (some ⟨w.heap.size, 3, none⟩))) wy
         generalize act.eval = ρ at e1 ⊢
         unfold execOp
         simp [go_sem, e1]), ?_⟩
        refine ⟨gVal rfl (.inl ⟨rfl, rfl⟩) rfl (fun Lb v act wy K => by
         have e1 : act.eval (.tmp 47) = .pointer (some ⟨w.heap.size, 3, none⟩) := K.at_val 0 (by kernel_rfl) (by kernel_rfl) rfl
         have e2 := Rg.cell_later (HC3.out) K.bel
         show (execOp act.eval _).run Tryz.prog wy = .ok (.value (.slice (some ⟨hb, ho, none⟩) 3 c4)) wy
         generalize act.eval = ρ at e1 ⊢
         unfold execOp
         simp [go_sem, e1, e2]), ?_⟩
        refine ⟨gVal rfl (.inl ⟨rfl, rfl⟩) rfl (fun Lb v act wy K => by
         have e1 : act.eval (.tmp 3) = .int .i64 (k : Int) := (K.off (x := .tmp 3) (by kernel_rfl)).trans rfl
         exact run_move _ rfl e1), ?_⟩
        refine ⟨gVal rfl (.inl ⟨rfl, rfl⟩) rfl (fun Lb v act wy K => by
         have e1 : act.eval (.tmp 48) = .slice (some ⟨hb, ho, none⟩) 3 c4 := K.at_val 1 (by kernel_rfl) (by kernel_rfl) rfl
         have e2 : act.eval (.tmp 49) = .int .i64 (k : Int) := K.at_val 2 (by kernel_rfl) (by kernel_rfl) rfl
         show (execOp act.eval _).run Tryz.prog wy = .ok (.value (.pointer (some ⟨hb, ho + k * 16, none⟩))) wy
         generalize act.eval = ρ at e1 e2 ⊢
         unfold execOp
         simp [go_sem, e1, e2, hk3]), ?_⟩
        refine ⟨gVal rfl (.inl ⟨rfl, rfl⟩) rfl (fun Lb v act wy K => by
         have e1 : act.eval (.tmp 50) = .pointer (some ⟨hb, ho + k * 16, none⟩) := K.at_val 3 (by kernel_rfl) (by kernel_rfl) rfl
         show (execOp act.eval _).run Tryz.prog wy = .ok (.value (.pointer (some ⟨hb, ho + k * 16, none⟩))) wy
         generalize act.eval = ρ at e1 ⊢
         unfold execOp
         simp [go_sem, e1]), ?_⟩
        refine ⟨gVal rfl (.inl ⟨rfl, rfl⟩) rfl (fun Lb v act wy K => by
         have e1 : act.eval (.tmp 51) = .pointer (some ⟨hb, ho + k * 16, none⟩) := K.at_val 4 (by kernel_rfl) (by kernel_rfl) rfl
         have e2 := Rg.cell_later (HX0.out) K.bel
         show (execOp act.eval _).run Tryz.prog wy = .ok (.value (.int .i64 x.H.id)) wy
         generalize act.eval = ρ at e1 ⊢
         unfold execOp
         simp [go_sem, e1, e2]), ?_⟩
        refine ⟨gVal rfl (.inl ⟨rfl, rfl⟩) rfl (fun Lb v act wy K => by
         have e1 : act.eval (.tmp 3) = .int .i64 (k : Int) := (K.off (x := .tmp 3) (by kernel_rfl)).trans rfl
         exact run_move _ rfl e1), ?_⟩
        refine ⟨gVal rfl (.inl ⟨rfl, rfl⟩) rfl (fun Lb v act wy K => by
         have e1 : act.eval (.tmp 52) = .int .i64 x.H.id := K.at_val 5 (by kernel_rfl) (by kernel_rfl) rfl
         have e2 : act.eval (.tmp 53) = .int .i64 (k : Int) := K.at_val 6 (by kernel_rfl) (by kernel_rfl) rfl
         show (execOp act.eval _).run Tryz.prog wy = .ok (.value (.bool false)) wy
         generalize act.eval = ρ at e1 e2 ⊢
         unfold execOp
         simp [go_sem, e1, e2, HI0.out]), ?_⟩
        refine ⟨gVal rfl (.inl ⟨rfl, rfl⟩) rfl (fun Lb v act wy K => by
         have e1 : act.eval (.tmp 54) = .bool false := K.at_val 7 (by kernel_rfl) (by kernel_rfl) rfl
         exact run_move _ rfl e1), ?_⟩
        refine ⟨gVal rfl (.inr ⟨8, false, 55, rfl, (by kernel_rfl), (by kernel_rfl), rfl, rfl⟩) rfl (fun Lb v act wy K => by
         have e1 : act.eval (.tmp 1) = .pointer (some ⟨w.heap.size, 0, none⟩) := (K.off (x := .tmp 1) (by kernel_rfl)).trans rfl
         show (execOp act.eval _).run Tryz.prog wy = .ok (.value (.pointer (some ⟨w.heap.size, 3, none⟩))) wy
         generalize act.eval = ρ at e1 ⊢
         unfold execOp
         simp [go_sem, e1]), ?_⟩
        refine ⟨gVal rfl (.inr ⟨8, false, 55, rfl, (by kernel_rfl), (by kernel_rfl), rfl, rfl⟩) rfl (fun Lb v act wy K => by
         have e1 : act.eval (.tmp 56) = .pointer (some ⟨w.heap.size, 3, none⟩) := K.at_val 9 (by kernel_rfl) (by kernel_rfl) rfl
         have e2 := Rg.cell_later (HC3.out) K.bel
         show (execOp act.eval _).run Tryz.prog wy = .ok (.value (.slice (some ⟨hb, ho, none⟩) 3 c4)) wy
         generalize act.eval = ρ at e1 ⊢
         unfold execOp
         simp [go_sem, e1, e2]), ?_⟩
        refine ⟨gVal rfl (.inr ⟨8, false, 55, rfl, (by kernel_rfl), (by kernel_rfl), rfl, rfl⟩) rfl (fun Lb v act wy K => by
         have e1 : act.eval (.tmp 3) = .int .i64 (k : Int) := (K.off (x := .tmp 3) (by kernel_rfl)).trans rfl
         exact run_move _ rfl e1), ?_⟩
        refine ⟨gVal rfl (.inr ⟨8, false, 55, rfl, (by kernel_rfl), (by kernel_rfl), rfl, rfl⟩) rfl (fun Lb v act wy K => by
         have e1 : act.eval (.tmp 57) = .slice (some ⟨hb, ho, none⟩) 3 c4 := K.at_val 10 (by kernel_rfl) (by kernel_rfl) rfl
         have e2 : act.eval (.tmp 58) = .int .i64 (k : Int) := K.at_val 11 (by kernel_rfl) (by kernel_rfl) rfl
         show (execOp act.eval _).run Tryz.prog wy = .ok (.value (.pointer (some ⟨hb, ho + k * 16, none⟩))) wy
         generalize act.eval = ρ at e1 e2 ⊢
         unfold execOp
         simp [go_sem, e1, e2, hk3]), ?_⟩
        refine ⟨gVal rfl (.inr ⟨8, false, 55, rfl, (by kernel_rfl), (by kernel_rfl), rfl, rfl⟩) rfl (fun Lb v act wy K => Rg.run_load_at 68 (.tmp 59) rfl _ _ ((K.at_val 12 (by kernel_rfl) (by kernel_rfl) rfl)) _ (rangeAt_below HRG.out K.bel) _ Tryz.underlying68 rfl (by rw [hx_len]; kernel_rfl)), ?_⟩
        refine ⟨gCall rfl (.inr ⟨8, false, 55, rfl, (by kernel_rfl), (by kernel_rfl), rfl, rfl⟩) 41 #[.tmp 60] _ (fun _ => #[.agg (List.toArray x.cells)]) rfl call_sHostOk (fun Lb v act wy K => by
         have e1 : act.eval (.tmp 60) = .agg (List.toArray x.cells) := K.at_val 13 (by kernel_rfl) (by kernel_rfl) rfl
         simp only [List.map_toArray, List.map_cons, List.map_nil, e1]) (fun v w hb hs => (HOK.out w hb).mono (fun e w' ⟨h1, h2⟩ => ⟨_, h1, h2, rfl⟩)), ?_⟩
        refine ⟨gVal rfl (.inr ⟨8, false, 55, rfl, (by kernel_rfl), (by kernel_rfl), rfl, rfl⟩) rfl (fun Lb v act wy K => by
         have e1 : act.eval (.tmp 61) = .bool true := K.at_val 14 (by kernel_rfl) (by kernel_rfl) rfl
         show (execOp act.eval _).run Tryz.prog wy = .ok (.value (.bool false)) wy
         generalize act.eval = ρ at e1 ⊢
         unfold execOp
         simp [go_sem, e1]), ?_⟩
        refine ⟨gVal rfl (.inl ⟨rfl, rfl⟩) rfl (fun Lb v act wy K => by
         have e1 : act.eval (.tmp 55) = .bool false := K.at_val 8 (by kernel_rfl) (by kernel_rfl) rfl
         have e2 : act.eval (.tmp 62) = .bool false := K.at_val 15 (by kernel_rfl) (by kernel_rfl) rfl
         show (execOp act.eval _).run Tryz.prog wy = .ok (.value (.bool false)) wy
         generalize act.eval = ρ at e1 e2 ⊢
         unfold execOp
         simp [go_sem, e1, e2]), ?_⟩
        refine ⟨gVal rfl (.inl ⟨rfl, rfl⟩) rfl (fun Lb v act wy K => by
         have e1 : act.eval (.tmp 63) = .bool false := K.at_val 16 (by kernel_rfl) (by kernel_rfl) rfl
         exact run_move _ rfl e1), ?_⟩
        refine ⟨gVal rfl (.inr ⟨17, false, 64, rfl, (by kernel_rfl), (by kernel_rfl), rfl, rfl⟩) rfl (fun Lb v act wy K => by
         have e1 : act.eval (.tmp 1) = .pointer (some ⟨w.heap.size, 0, none⟩) := (K.off (x := .tmp 1) (by kernel_rfl)).trans rfl
         show (execOp act.eval _).run Tryz.prog wy = .ok (.value (.pointer (some ⟨w.heap.size, 3, none⟩))) wy
         generalize act.eval = ρ at e1 ⊢
         unfold execOp
         simp [go_sem, e1]), ?_⟩
        refine ⟨gVal rfl (.inr ⟨17, false, 64, rfl, (by kernel_rfl), (by kernel_rfl), rfl, rfl⟩) rfl (fun Lb v act wy K => by
         have e1 : act.eval (.tmp 65) = .pointer (some ⟨w.heap.size, 3, none⟩) := K.at_val 18 (by kernel_rfl) (by kernel_rfl) rfl
         have e2 := Rg.cell_later (HC3.out) K.bel
         show (execOp act.eval _).run Tryz.prog wy = .ok (.value (.slice (some ⟨hb, ho, none⟩) 3 c4)) wy
         generalize act.eval = ρ at e1 ⊢
         unfold execOp
         simp [go_sem, e1, e2]), ?_⟩
        refine ⟨gVal rfl (.inr ⟨17, false, 64, rfl, (by kernel_rfl), (by kernel_rfl), rfl, rfl⟩) rfl (fun Lb v act wy K => by
         have e1 : act.eval (.tmp 3) = .int .i64 (k : Int) := (K.off (x := .tmp 3) (by kernel_rfl)).trans rfl
         exact run_move _ rfl e1), ?_⟩
        refine ⟨gVal rfl (.inr ⟨17, false, 64, rfl, (by kernel_rfl), (by kernel_rfl), rfl, rfl⟩) rfl (fun Lb v act wy K => by
         have e1 : act.eval (.tmp 66) = .slice (some ⟨hb, ho, none⟩) 3 c4 := K.at_val 19 (by kernel_rfl) (by kernel_rfl) rfl
         have e2 : act.eval (.tmp 67) = .int .i64 (k : Int) := K.at_val 20 (by kernel_rfl) (by kernel_rfl) rfl
         show (execOp act.eval _).run Tryz.prog wy = .ok (.value (.pointer (some ⟨hb, ho + k * 16, none⟩))) wy
         generalize act.eval = ρ at e1 e2 ⊢
         unfold execOp
         simp [go_sem, e1, e2, hk3]), ?_⟩
        refine ⟨gVal rfl (.inr ⟨17, false, 64, rfl, (by kernel_rfl), (by kernel_rfl), rfl, rfl⟩) rfl (fun Lb v act wy K => by
         have e1 : act.eval (.tmp 68) = .pointer (some ⟨hb, ho + k * 16, none⟩) := K.at_val 21 (by kernel_rfl) (by kernel_rfl) rfl
         show (execOp act.eval _).run Tryz.prog wy = .ok (.value (.pointer (some ⟨hb, ho + k * 16 + 2, none⟩))) wy
         generalize act.eval = ρ at e1 ⊢
         unfold execOp
         simp [go_sem, e1]), ?_⟩
        refine ⟨gVal rfl (.inr ⟨17, false, 64, rfl, (by kernel_rfl), (by kernel_rfl), rfl, rfl⟩) rfl (fun Lb v act wy K => by
         have e1 : act.eval (.tmp 69) = .pointer (some ⟨hb, ho + k * 16 + 2, none⟩) := K.at_val 22 (by kernel_rfl) (by kernel_rfl) rfl
         have e2 := Rg.cell_later (HUP.out) K.bel
         show (execOp act.eval _).run Tryz.prog wy = .ok (.value (.bool true)) wy
         generalize act.eval = ρ at e1 ⊢
         unfold execOp
         simp [go_sem, e1, e2]), ?_⟩
        refine ⟨gVal rfl (.inr ⟨17, false, 64, rfl, (by kernel_rfl), (by kernel_rfl), rfl, rfl⟩) rfl (fun Lb v act wy K => by
         have e1 : act.eval (.tmp 70) = .bool true := K.at_val 23 (by kernel_rfl) (by kernel_rfl) rfl
         exact run_move _ rfl e1), ?_⟩
        refine ⟨gVal rfl (.inr ⟨24, true, 71, rfl, (by kernel_rfl), (by kernel_rfl), rfl, rfl⟩) rfl (fun Lb v act wy K => by
         have e1 : act.eval (.tmp 1) = .pointer (some ⟨w.heap.size, 0, none⟩) := (K.off (x := .tmp 1) (by kernel_rfl)).trans rfl
         show (execOp act.eval _).run Tryz.prog wy = .ok (.value (.pointer (some ⟨w.heap.size, 3, none⟩))) wy
         generalize act.eval = ρ at e1 ⊢
         unfold execOp
         simp [go_sem, e1]), ?_⟩
        refine ⟨gVal rfl (.inr ⟨24, true, 71, rfl, (by kernel_rfl), (by kernel_rfl), rfl, rfl⟩) rfl (fun Lb v act wy K => by
         have e1 : act.eval (.tmp 72) = .pointer (some ⟨w.heap.size, 3, none⟩) := K.at_val 25 (by kernel_rfl) (by kernel_rfl) rfl
         have e2 := Rg.cell_later (HC3.out) K.bel
         show (execOp act.eval _).run Tryz.prog wy = .ok (.value (.slice (some ⟨hb, ho, none⟩) 3 c4)) wy
         generalize act.eval = ρ at e1 ⊢
         unfold execOp
         simp [go_sem, e1, e2]), ?_⟩
        refine ⟨gVal rfl (.inr ⟨24, true, 71, rfl, (by kernel_rfl), (by kernel_rfl), rfl, rfl⟩) rfl (fun Lb v act wy K => by
         have e1 : act.eval (.tmp 3) = .int .i64 (k : Int) := (K.off (x := .tmp 3) (by kernel_rfl)).trans rfl
         exact run_move _ rfl e1), ?_⟩
        refine ⟨gVal rfl (.inr ⟨24, true, 71, rfl, (by kernel_rfl), (by kernel_rfl), rfl, rfl⟩) rfl (fun Lb v act wy K => by
         have e1 : act.eval (.tmp 73) = .slice (some ⟨hb, ho, none⟩) 3 c4 := K.at_val 26 (by kernel_rfl) (by kernel_rfl) rfl
         have e2 : act.eval (.tmp 74) = .int .i64 (k : Int) := K.at_val 27 (by kernel_rfl) (by kernel_rfl) rfl
         show (execOp act.eval _).run Tryz.prog wy = .ok (.value (.pointer (some ⟨hb, ho + k * 16, none⟩))) wy
         generalize act.eval = ρ at e1 e2 ⊢
         unfold execOp
         simp [go_sem, e1, e2, hk3]), ?_⟩
        refine ⟨gVal rfl (.inr ⟨24, true, 71, rfl, (by kernel_rfl), (by kernel_rfl), rfl, rfl⟩) rfl (fun Lb v act wy K => by
         have e1 : act.eval (.tmp 75) = .pointer (some ⟨hb, ho + k * 16, none⟩) := K.at_val 28 (by kernel_rfl) (by kernel_rfl) rfl
         show (execOp act.eval _).run Tryz.prog wy = .ok (.value (.pointer (some ⟨hb, ho + k * 16 + 1, none⟩))) wy
         generalize act.eval = ρ at e1 ⊢
         unfold execOp
         simp [go_sem, e1]), ?_⟩
        refine ⟨gVal rfl (.inr ⟨24, true, 71, rfl, (by kernel_rfl), (by kernel_rfl), rfl, rfl⟩) rfl (fun Lb v act wy K => by
         have e1 : act.eval (.tmp 76) = .pointer (some ⟨hb, ho + k * 16 + 1, none⟩) := K.at_val 29 (by kernel_rfl) (by kernel_rfl) rfl
         have e2 := Rg.cell_later (HX1.out) K.bel
         show (execOp act.eval _).run Tryz.prog wy = .ok (.value (.int .i64 x.H.ep)) wy
         generalize act.eval = ρ at e1 ⊢
         unfold execOp
         simp [go_sem, e1, e2]), ?_⟩
        refine ⟨gVal rfl (.inr ⟨24, true, 71, rfl, (by kernel_rfl), (by kernel_rfl), rfl, rfl⟩) rfl (fun Lb v act wy K => by
         have e1 : act.eval (.tmp 1) = .pointer (some ⟨w.heap.size, 0, none⟩) := (K.off (x := .tmp 1) (by kernel_rfl)).trans rfl
         show (execOp act.eval _).run Tryz.prog wy = .ok (.value (.pointer (some ⟨w.heap.size, 0, none⟩))) wy
         generalize act.eval = ρ at e1 ⊢
         unfold execOp
         simp [go_sem, e1]), ?_⟩
        refine ⟨gVal rfl (.inr ⟨24, true, 71, rfl, (by kernel_rfl), (by kernel_rfl), rfl, rfl⟩) rfl (fun Lb v act wy K => by
         have e1 : act.eval (.tmp 78) = .pointer (some ⟨w.heap.size, 0, none⟩) := K.at_val 31 (by kernel_rfl) (by kernel_rfl) rfl
         show (execOp act.eval _).run Tryz.prog wy = .ok (.value (.pointer (some ⟨w.heap.size, 1, none⟩))) wy
         generalize act.eval = ρ at e1 ⊢
         unfold execOp
         simp [go_sem, e1]), ?_⟩
        refine ⟨gVal rfl (.inr ⟨24, true, 71, rfl, (by kernel_rfl), (by kernel_rfl), rfl, rfl⟩) rfl (fun Lb v act wy K => by
         have e1 : act.eval (.tmp 79) = .pointer (some ⟨w.heap.size, 1, none⟩) := K.at_val 32 (by kernel_rfl) (by kernel_rfl) rfl
         have e2 := Rg.cell_later (HC1.out) K.bel
         show (execOp act.eval _).run Tryz.prog wy = .ok (.value (.slice (some ⟨eb, eo, none⟩) 3 c2)) wy
         generalize act.eval = ρ at e1 ⊢
         unfold execOp
         simp [go_sem, e1, e2]), ?_⟩
        refine ⟨gVal rfl (.inr ⟨24, true, 71, rfl, (by kernel_rfl), (by kernel_rfl), rfl, rfl⟩) rfl (fun Lb v act wy K => by
         have e1 : act.eval (.tmp 3) = .int .i64 (k : Int) := (K.off (x := .tmp 3) (by kernel_rfl)).trans rfl
         exact run_move _ rfl e1), ?_⟩
        refine ⟨gVal rfl (.inr ⟨24, true, 71, rfl, (by kernel_rfl), (by kernel_rfl), rfl, rfl⟩) rfl (fun Lb v act wy K => by
         have e1 : act.eval (.tmp 80) = .slice (some ⟨eb, eo, none⟩) 3 c2 := K.at_val 33 (by kernel_rfl) (by kernel_rfl) rfl
         have e2 : act.eval (.tmp 81) = .int .i64 (k : Int) := K.at_val 34 (by kernel_rfl) (by kernel_rfl) rfl
         show (execOp act.eval _).run Tryz.prog wy = .ok (.value (.pointer (some ⟨eb, eo + k, none⟩))) wy
         generalize act.eval = ρ at e1 e2 ⊢
         unfold execOp
         simp [go_sem, e1, e2, hk3]), ?_⟩
        refine ⟨gVal rfl (.inr ⟨24, true, 71, rfl, (by kernel_rfl), (by kernel_rfl), rfl, rfl⟩) rfl (fun Lb v act wy K => by
         have e1 : act.eval (.tmp 82) = .pointer (some ⟨eb, eo + k, none⟩) := K.at_val 35 (by kernel_rfl) (by kernel_rfl) rfl
         have e2 := Rg.cell_later (HCE.out) K.bel
         show (execOp act.eval _).run Tryz.prog wy = .ok (.value (.int .i64 E)) wy
         generalize act.eval = ρ at e1 ⊢
         unfold execOp
         simp [go_sem, e1, e2]), ?_⟩
        refine ⟨gVal rfl (.inr ⟨24, true, 71, rfl, (by kernel_rfl), (by kernel_rfl), rfl, rfl⟩) rfl (fun Lb v act wy K => by
         have e1 : act.eval (.tmp 77) = .int .i64 x.H.ep := K.at_val 30 (by kernel_rfl) (by kernel_rfl) rfl
         have e2 : act.eval (.tmp 83) = .int .i64 E := K.at_val 36 (by kernel_rfl) (by kernel_rfl) rfl
         show (execOp act.eval _).run Tryz.prog wy = .ok (.value (.bool false)) wy
         generalize act.eval = ρ at e1 e2 ⊢
         unfold execOp
         simp [go_sem, e1, e2, HQE.out]), ?_⟩
        refine ⟨gVal rfl (.inr ⟨17, false, 64, rfl, (by kernel_rfl), (by kernel_rfl), rfl, rfl⟩) rfl (fun Lb v act wy K => by
         have e1 : act.eval (.tmp 71) = .bool true := K.at_val 24 (by kernel_rfl) (by kernel_rfl) rfl
         have e2 : act.eval (.tmp 84) = .bool false := K.at_val 37 (by kernel_rfl) (by kernel_rfl) rfl
         show (execOp act.eval _).run Tryz.prog wy = .ok (.value (.bool false)) wy
         generalize act.eval = ρ at e1 e2 ⊢
         unfold execOp
         simp [go_sem, e1, e2]), ?_⟩
        refine ⟨gVal rfl (.inl ⟨rfl, rfl⟩) rfl (fun Lb v act wy K => by
         have e1 : act.eval (.tmp 64) = .bool false := K.at_val 17 (by kernel_rfl) (by kernel_rfl) rfl
         have e2 : act.eval (.tmp 85) = .bool false := K.at_val 38 (by kernel_rfl) (by kernel_rfl) rfl
         show (execOp act.eval _).run Tryz.prog wy = .ok (.value (.bool false)) wy
         generalize act.eval = ρ at e1 e2 ⊢
         unfold execOp
         simp [go_sem, e1, e2]), ?_⟩
        refine ⟨gVal rfl (.inl ⟨rfl, rfl⟩) rfl (fun Lb v act wy K => by
         have e1 : act.eval (.tmp 86) = .bool false := K.at_val 39 (by kernel_rfl) (by kernel_rfl) rfl
         exact run_move _ rfl e1), ?_⟩
        refine ⟨gVal rfl (.inr ⟨40, false, 87, rfl, (by kernel_rfl), (by kernel_rfl), rfl, rfl⟩) rfl (fun Lb v act wy K => by
         have e1 : act.eval (.tmp 1) = .pointer (some ⟨w.heap.size, 0, none⟩) := (K.off (x := .tmp 1) (by kernel_rfl)).trans rfl
         show (execOp act.eval _).run Tryz.prog wy = .ok (.value (.pointer (some ⟨w.heap.size, 5, none⟩))) wy
         generalize act.eval = ρ at e1 ⊢
         unfold execOp
         simp [go_sem, e1]), ?_⟩
        refine ⟨gVal rfl (.inr ⟨40, false, 87, rfl, (by kernel_rfl), (by kernel_rfl), rfl, rfl⟩) rfl (fun Lb v act wy K => by
         have e1 : act.eval (.tmp 88) = .pointer (some ⟨w.heap.size, 5, none⟩) := K.at_val 41 (by kernel_rfl) (by kernel_rfl) rfl
         have e2 := Rg.cell_later (HC5.out) K.bel
         show (execOp act.eval _).run Tryz.prog wy = .ok (.value (.slice (some ⟨nb, no, none⟩) 3 c6)) wy
         generalize act.eval = ρ at e1 ⊢
         unfold execOp
         simp [go_sem, e1, e2]), ?_⟩
        refine ⟨gVal rfl (.inr ⟨40, false, 87, rfl, (by kernel_rfl), (by kernel_rfl), rfl, rfl⟩) rfl (fun Lb v act wy K => by
         have e1 : act.eval (.tmp 3) = .int .i64 (k : Int) := (K.off (x := .tmp 3) (by kernel_rfl)).trans rfl
         exact run_move _ rfl e1), ?_⟩
        refine ⟨gVal rfl (.inr ⟨40, false, 87, rfl, (by kernel_rfl), (by kernel_rfl), rfl, rfl⟩) rfl (fun Lb v act wy K => by
         have e1 : act.eval (.tmp 89) = .slice (some ⟨nb, no, none⟩) 3 c6 := K.at_val 42 (by kernel_rfl) (by kernel_rfl) rfl
         have e2 : act.eval (.tmp 90) = .int .i64 (k : Int) := K.at_val 43 (by kernel_rfl) (by kernel_rfl) rfl
         show (execOp act.eval _).run Tryz.prog wy = .ok (.value (.pointer (some ⟨nb, no + k, none⟩))) wy
         generalize act.eval = ρ at e1 e2 ⊢
         unfold execOp
         simp [go_sem, e1, e2, hk3]), ?_⟩
        refine ⟨gVal rfl (.inr ⟨40, false, 87, rfl, (by kernel_rfl), (by kernel_rfl), rfl, rfl⟩) rfl (fun Lb v act wy K => by
         have e1 : act.eval (.tmp 91) = .pointer (some ⟨nb, no + k, none⟩) := K.at_val 44 (by kernel_rfl) (by kernel_rfl) rfl
         have e2 := Rg.cell_later (HCN.out) K.bel
         show (execOp act.eval _).run Tryz.prog wy = .ok (.value (.int .i64 N)) wy
         generalize act.eval = ρ at e1 ⊢
         unfold execOp
         simp [go_sem, e1, e2]), ?_⟩
        refine ⟨gCall rfl (.inr ⟨40, false, 87, rfl, (by kernel_rfl), (by kernel_rfl), rfl, rfl⟩) 42 #[.tmp 92, .const (.int .i64 0), .const (.int .i64 1000000)] _ (fun _ => #[.int .i64 N, .int .i64 0, .int .i64 1000000]) rfl call_l1In (fun Lb v act wy K => by
         have e1 : act.eval (.tmp 92) = .int .i64 N := K.at_val 45 (by kernel_rfl) (by kernel_rfl) rfl
         simp only [List.map_toArray, List.map_cons, List.map_nil, e1]; rfl) (fun v w hb hs => (HIN.out w).mono (fun e w' ⟨h1, h2⟩ => ⟨_, h1, h2 ▸ Below.refl _ _, rfl⟩)), ?_⟩
        refine ⟨gVal rfl (.inr ⟨40, false, 87, rfl, (by kernel_rfl), (by kernel_rfl), rfl, rfl⟩) rfl (fun Lb v act wy K => by
         have e1 : act.eval (.tmp 93) = .bool sn := K.at_val 46 (by kernel_rfl) (by kernel_rfl) rfl
         show (execOp act.eval _).run Tryz.prog wy = .ok (.value (.bool (!sn))) wy
         generalize act.eval = ρ at e1 ⊢
         unfold execOp
         simp [go_sem, e1]), ?_⟩
        refine ⟨gVal rfl (.inl ⟨rfl, rfl⟩) rfl (fun Lb v act wy K => by
         have e1 : act.eval (.tmp 87) = .bool false := K.at_val 40 (by kernel_rfl) (by kernel_rfl) rfl
         have e2 : act.eval (.tmp 94) = .bool (!sn) := K.at_val 47 (by kernel_rfl) (by kernel_rfl) rfl
         show (execOp act.eval _).run Tryz.prog wy = .ok (.value (.bool (!sn))) wy
         generalize act.eval = ρ at e1 e2 ⊢
         unfold execOp
         simp [go_sem, e1, e2]), ?_⟩
        exact trivial
      have e48 : v 48 = .bool (!sn) := hG 48 (by show 48 < 49; decide)
      have HU := hid (HB.out.trans (hb.mono HB.out.size))
      have HU0 := hid (HB0.out.trans (hb.mono HB0.out.size))
      clear hG hb
      simp only [putsAll, Act.put, List.setIfInBounds_toArray, List.set_cons_zero, List.set_cons_succ, e48]
      clear e48
      by_cases hn : 0 ≤ N ∧ N ≤ 1000000
      rotate_left
      · have HQ := hid hn
        have HQ2 : Hid (sn = false) := by rw [← HSN.out]; exact decide_eq_false hn
        clear hn
        rw [HQ2.out]
        go_wp2
        go_ret
        exact ⟨by rw [ok_no4 (show seenOk X.seen = false by unfold seenOk; rw [Bool.and_comm, show between 0 1000000 X.seen = false from all_false X.seen _ 0 k (by rw [HQ4.out]; exact hlt) (by rw [HN.out]; exact decide_eq_false HQ.out)]; rfl)]; rfl, HU.out⟩

      have HQS := hid hn
      have HQ2 : Hid (sn = true) := by rw [← HSN.out]; exact decide_eq_true hn
      clear hn
      rw [HQ2.out]
      go_wp2
      refine ⟨⟨k + 1, by omega, by go_num, ?_, ?_, HU0.out⟩, by simp [intOf]; omega⟩
      · intro j hj
        by_cases hjk : j = k
        · subst hjk
          unfold hoIs
          rw [← HX.out, decide_eq_true HI0.out, HI1.out]
          rw [HQU.out, HE.out, decide_eq_false (show ¬ (E < x.H.ep) by have := HQE.out; omega)]; rfl
        · exact HI.out j (by omega)
      · intro j hj
        by_cases hjk : j = k
        · subst hjk
          rw [HN.out]
          exact HQS.out
        · exact HJ.out j (by omega)

    · obtain rfl : k = 3 := by omega
      have HBw := hid (HB2.out.trans (HB0.out.mono HB2.out.size))
      have HAw := hid (HA2.out.below HB0.out HA2.out.lt)
      have HT3 : Hid (hostsOk X.hs X.D.ep = true) := hosts_yes (by rw [HLN.out]; exact HQ3.out) HI.out
      have HT4 : Hid (seenOk X.seen = true) := by
        show _ = _
        unfold seenOk
        rw [decide_eq_true HQ4.out, Bool.true_and]
        exact all_true X.seen _ 0 (fun j hj => decide_eq_true (HJ.out j (by rw [HQ4.out] at hj; exact hj)))
      clear C0 HI HJ HB0
      go_wp2
      have HAr := HAw
      have HBr := HBw
      go_loopw [4] (fun i wr => ∃ k : Nat, k ≤ X.log.length ∧ i = .int .i64 (k : Int) ∧ Hid (∀ j, j < k → evOk (X.log.getD j Ev.none) = true) ∧ Hid (Below w.heap.size w wr) ∧ Hid (Row wr w.heap.size [.slice a1 X.D.sec.length c1, .slice (some ⟨eb, eo, none⟩) X.D.ep.length c2, .slice a3 X.D.pe.length c3, .slice (some ⟨hb, ho, none⟩) L.length c4, .slice a5 X.log.length c5, .slice (some ⟨nb, no, none⟩) X.seen.length c6, .slice a7 X.rep.length c7])) (fun i _ => X.log.length - (intOf i).toNat)
      case atStart => exact ⟨0, Nat.zero_le _, rfl, (by intro j hj; omega), HBw.out, HAw.out⟩
      case round =>
        obtain ⟨k, hk, rfl, HI, HB, HAr⟩ := hrel
        have kl := HAr.out.c 4 rfl
        by_cases hlt : k < X.log.length
        · obtain ⟨b, off, ea5, hrg⟩ := (show Evs _ a5 X.log from Sl.below HS5.out HB.out).range k hlt
          subst ea5
          have HZ : (X.log.getD k Ev.none).s.size ≤ 1048576 := HSM.out.et _ (by simp [List.getD, hlt])
          generalize hx : X.log.getD k Ev.none = x at hrg HZ
          have HX := hid hx
          clear hx
          obtain ⟨xh, xx, xk, xv, xt, xa, xs⟩ := x
          replace HZ := hid (show xs.size ≤ 1048576 from HZ)
          have HRG := hid hrg
          clear hrg
          go_upto_region 11 with fail
          apply wp_region_lit
          iterate 12 go_step
          clear kl
          refine wpList_elem rfl rfl rfl 107 _ rfl b (off + k * 7) rfl _ HRG.out _ Tryz.underlying107 rfl (by kernel_rfl) [.int .i64 0, .int .i64 0, .int .i64 0, .int .i64 0, .int .i64 0, .int .i64 0, .string ⟨#[]⟩] 107 (fun ρ w => by unfold execOp; simp [go_sem]) 107 _ _ rfl (by kernel_rfl) rfl rfl rfl rfl ?_
          intro wz R0 B0
          have HRz := hid R0
          have HBz := hid B0
          clear R0 B0
          have c0 := HRz.out.c 0 rfl
          have c1 := HRz.out.c 1 rfl
          have c2 := HRz.out.c 2 rfl
          have c3 := HRz.out.c 3 rfl
          have c4 := HRz.out.c 4 rfl
          have c5 := HRz.out.c 5 rfl
          have c6 := HRz.out.c 6 rfl
          go_wp2_with fail
          refine (Mem.l3Host xh _).mono ?_
          rintro e w20 ⟨rfl, hw⟩
          subst hw
          by_cases h0 : 0 ≤ xh ∧ xh < 3
          rotate_left
          · rw [decide_eq_false (show ¬ (0 ≤ xh ∧ xh < 3) by omega)]
            have HQ := hid h0
            go_wp2
            go_ret
            exact ⟨by rw [ok_no5 (evs_no2 k hlt (by rw [HX.out]; unfold evOk; simp only []; rw [decide_eq_false (show ¬ (0 ≤ xh ∧ xh < 3) by have := HQ.out; omega)]; simp))]; rfl, HB.out.trans (HBz.out.mono HB.out.size)⟩
          rw [decide_eq_true h0]
          have HP0 := hid h0
          clear h0
          go_wp2_with fail
          refine (l1In xx 1 1000000 _).mono ?_
          rintro e w21 ⟨rfl, hw⟩
          subst hw
          by_cases h1 : 1 ≤ xx ∧ xx ≤ 1000000
          rotate_left
          · rw [decide_eq_false (show ¬ (1 ≤ xx ∧ xx ≤ 1000000) by omega)]
            have HQ := hid h1
            go_wp2
            go_ret
            exact ⟨by rw [ok_no5 (evs_no2 k hlt (by rw [HX.out]; unfold evOk; simp only []; rw [decide_eq_false (show ¬ (1 ≤ xx ∧ xx ≤ 1000000) by have := HQ.out; omega)]; simp))]; rfl, HB.out.trans (HBz.out.mono HB.out.size)⟩
          rw [decide_eq_true h1]
          have HP1 := hid h1
          clear h1
          go_wp2_with fail
          refine (sOpOk xk xv xt xa xs _ HZ.out).mono ?_
          rintro e w22 ⟨rfl, hb⟩
          replace HBz := hid (HBz.out.trans (hb.mono HBz.out.size))
          replace HRz := hid (HRz.out.below hb HRz.out.lt)
          clear c2 c3 c4 c5 c6
          have c2 := HRz.out.c 2 rfl
          clear hb
          cases h2 : opRight xk xv xt xa xs
          · have HQ := hid h2
            go_wp2
            go_ret
            exact ⟨by rw [ok_no5 (evs_no2 k hlt (by rw [HX.out]; unfold evOk; simp only []; rw [HQ.out]; simp))]; rfl, HB.out.trans (HBz.out.mono HB.out.size)⟩
          have HP2 := hid h2
          clear h2
          by_cases h3 : xk ≤ 6
          rotate_left
          · have HQ := hid h3
            go_wp2
            go_ret
            exact ⟨by rw [ok_no5 (evs_no2 k hlt (by rw [HX.out]; unfold evOk; simp only []; rw [decide_eq_false (show ¬ (xk ≤ 6) by have := HQ.out; omega)]; simp))]; rfl, HB.out.trans (HBz.out.mono HB.out.size)⟩
          have HP3 := hid h3
          go_wp2
          refine ⟨⟨_, _, _, _, _, _, _, _, _, _, _, _, _, _, _, _, _, _, _, _, _, _, _, _, _, _, _, _, _, _, _, _, _, _, _, _, _, ⟨k + 1, by omega, by go_num, ?_, HB.out.trans (HBz.out.mono HB.out.size), HAr.out.below HBz.out HAr.out.lt⟩, rfl⟩, by simp [intOf]; omega⟩
          intro j hj
          by_cases hjk : j = k
          · subst hjk
            rw [HX.out]
            unfold evOk
            simp only []
            rw [decide_eq_true HP0.out, decide_eq_true HP1.out, HP2.out, decide_eq_true HP3.out]
            rfl
          · exact HI.out j (by omega)
        · obtain rfl : k = X.log.length := by omega
          have HT5 : Hid (evsOk X.log = true) := evs_yes HG5.out HI.out
          have HBw := HB
          clear HI
          go_wp2
          clear kl
          go_loopw [6] (fun i wr => ∃ k : Nat, k ≤ X.rep.length ∧ i = .int .i64 (k : Int) ∧ Hid (∀ j, j < k → rpOk X.log.length (X.rep.getD j Rp.none) = true) ∧ Hid (Below w.heap.size w wr) ∧ Hid (Row wr w.heap.size [.slice a1 X.D.sec.length c1, .slice (some ⟨eb, eo, none⟩) X.D.ep.length c2, .slice a3 X.D.pe.length c3, .slice (some ⟨hb, ho, none⟩) L.length c4, .slice a5 X.log.length c5, .slice (some ⟨nb, no, none⟩) X.seen.length c6, .slice a7 X.rep.length c7])) (fun i _ => X.rep.length - (intOf i).toNat)
          case atStart => exact ⟨0, Nat.zero_le _, rfl, (by intro j hj; omega), HBw.out, HAr.out⟩
          case round =>
            obtain ⟨k, hk, rfl, HI, HB, HAr⟩ := hrel
            have kr := HAr.out.c 6 rfl
            by_cases hlt : k < X.rep.length
            · obtain ⟨b, off, ea7, hrg⟩ := (show Rps _ a7 X.rep from Sl.below HS7.out HB.out).range k hlt
              subst ea7
              have HZ := HSM.out.rt _ (show X.rep.getD k Rp.none ∈ X.rep by simp [List.getD, hlt])
              generalize hx : X.rep.getD k Rp.none = x at hrg HZ
              have HX := hid hx
              clear hx
              obtain ⟨xh, xk, xv, xt, xa, xs, xc, xd, xm⟩ := x
              replace HZ := hid (show xs.size ≤ 1048576 from HZ.1)
              have HRG := hid hrg
              clear hrg
              go_upto_region 17 with fail
              apply wp_region_lit
              iterate 12 go_step
              clear kr
              refine wpList_elem rfl rfl rfl 111 _ rfl b (off + k * 9) rfl _ HRG.out _ Tryz.underlying111 rfl (by kernel_rfl) [.int .i64 0, .int .i64 0, .int .i64 0, .int .i64 0, .int .i64 0, .string ⟨#[]⟩, .int .i64 0, .string ⟨#[]⟩, .int .i64 0] 111 (fun ρ w => by unfold execOp; simp [go_sem]) 111 _ _ rfl (by kernel_rfl) rfl rfl rfl rfl ?_
              intro wz R0 B0
              have HRz := hid R0
              have HBz := hid B0
              have kl := (HAr.out.below B0 HAr.out.lt).c 4 rfl
              clear R0 B0
              have c0 := HRz.out.c 0 rfl
              have c1 := HRz.out.c 1 rfl
              have c2 := HRz.out.c 2 rfl
              have c3 := HRz.out.c 3 rfl
              have c4 := HRz.out.c 4 rfl
              have c5 := HRz.out.c 5 rfl
              have c6 := HRz.out.c 6 rfl
              have c7 := HRz.out.c 7 rfl
              have c8 := HRz.out.c 8 rfl
              go_wp2_with fail
              refine (Mem.l3Host xh _).mono ?_
              rintro e w20 ⟨rfl, hw⟩
              subst hw
              by_cases h0 : 0 ≤ xh ∧ xh < 3
              rotate_left
              · rw [decide_eq_false (show ¬ (0 ≤ xh ∧ xh < 3) by omega)]
                have HQ := hid h0
                go_wp2
                go_ret
                exact ⟨by rw [ok_no6 (rps_no2 k hlt (by rw [HX.out]; unfold rpOk; simp only []; rw [decide_eq_false (show ¬ (0 ≤ xh ∧ xh < 3) by have := HQ.out; omega)]; simp))]; rfl, HB.out.trans (HBz.out.mono HB.out.size)⟩
              rw [decide_eq_true h0]
              have HP0 := hid h0
              clear h0
              go_wp2_with fail
              refine (sOpOk xk xv xt xa xs _ HZ.out).mono ?_
              rintro e w21 ⟨rfl, hb⟩
              replace HBz := hid (HBz.out.trans (hb.mono HBz.out.size))
              replace HRz := hid (HRz.out.below hb HRz.out.lt)
              clear c1 c2 c3 c4 c5 c6 c7 c8 kl
              have c6 := HRz.out.c 6 rfl
              have c7 := HRz.out.c 7 rfl
              have c8 := HRz.out.c 8 rfl
              have kl := (HAr.out.below HBz.out HAr.out.lt).c 4 rfl
              clear hb
              cases h1 : opRight xk xv xt xa xs
              · have HQ := hid h1
                go_wp2
                go_ret
                exact ⟨by rw [ok_no6 (rps_no2 k hlt (by rw [HX.out]; unfold rpOk; simp only []; rw [HQ.out]; simp))]; rfl, HB.out.trans (HBz.out.mono HB.out.size)⟩
              have HP1 := hid h1
              clear h1
              go_wp2_with fail
              refine (l1In xc 0 6 _).mono ?_
              rintro e w22 ⟨rfl, hw⟩
              subst hw
              by_cases h2 : 0 ≤ xc ∧ xc ≤ 6
              rotate_left
              · rw [decide_eq_false (show ¬ (0 ≤ xc ∧ xc ≤ 6) by omega)]
                have HQ := hid h2
                go_wp2
                go_ret
                exact ⟨by rw [ok_no6 (rps_no2 k hlt (by rw [HX.out]; unfold rpOk; simp only []; rw [decide_eq_false (show ¬ (0 ≤ xc ∧ xc ≤ 6) by have := HQ.out; omega)]; simp))]; rfl, HB.out.trans (HBz.out.mono HB.out.size)⟩
              rw [decide_eq_true h2]
              have HP2 := hid h2
              clear h2
              by_cases h3 : (xd.size : Int) ≤ 700
              rotate_left
              · have HQ := hid h3
                go_wp2
                go_ret
                exact ⟨by rw [ok_no6 (rps_no2 k hlt (by rw [HX.out]; unfold rpOk; simp only []; rw [decide_eq_false (show ¬ ((xd.size : Int) ≤ 700) by have := HQ.out; omega)]; simp))]; rfl, HB.out.trans (HBz.out.mono HB.out.size)⟩
              have HP3 := hid h3
              go_wp2_with fail
              refine (l1In xm 0 (X.log.length : Int) _).mono ?_
              rintro e w24 ⟨rfl, hw⟩
              subst hw
              by_cases h4 : 0 ≤ xm ∧ xm ≤ (X.log.length : Int)
              rotate_left
              · rw [decide_eq_false (show ¬ (0 ≤ xm ∧ xm ≤ (X.log.length : Int)) by omega)]
                have HQ := hid h4
                go_wp2
                go_ret
                exact ⟨by rw [ok_no6 (rps_no2 k hlt (by rw [HX.out]; unfold rpOk; simp only []; rw [decide_eq_false (show ¬ (0 ≤ xm ∧ xm ≤ (X.log.length : Int)) by have := HQ.out; omega)]; simp))]; rfl, HB.out.trans (HBz.out.mono HB.out.size)⟩
              rw [decide_eq_true h4]
              have HP4 := hid h4
              clear h4
              go_wp2
              refine ⟨⟨_, _, _, _, _, _, _, _, _, _, _, _, _, _, _, _, _, _, _, _, _, _, _, _, _, _, _, _, _, _, _, _, _, _, _, _, _, _, _, _, _, _, _, _, _, _, ⟨k + 1, by omega, by go_num, ?_, HB.out.trans (HBz.out.mono HB.out.size), HAr.out.below HBz.out HAr.out.lt⟩, rfl⟩, by simp [intOf]; omega⟩
              intro j hj
              by_cases hjk : j = k
              · subst hjk
                rw [HX.out]
                unfold rpOk
                simp only []
                rw [decide_eq_true HP0.out, HP1.out, decide_eq_true HP2.out, decide_eq_true HP3.out, decide_eq_true HP4.out]
                rfl
              · exact HI.out j (by omega)
            · obtain rfl : k = X.rep.length := by omega
              have HT6 : Hid (rpsOk X.log.length X.rep = true) := rps_yes HG6.out HI.out
              go_wp2
              go_ret
              exact ⟨by rw [ok_yes HQ1.out HQ2.out HT3.out HT4.out HT5.out HT6.out]; rfl, HB.out⟩

end Go.Proofs.YtogebppolkfldaaGreatDoor.Pl

namespace Go.Proofs.YtogebppolkfldaaGreatDoor.Rg
open Go.RowKit Go.Proofs.YtogebppolkfldaaGreatDoor.Mem Go.Proofs.YtogebppolkfldaaGreatDoor.Pl
set_option linter.unusedVariables false

section
variable {P : Program} {ops : Array Oper} {a0 : Act} {w0 : World} {val : Nat → Value} {sp : Nat → Option (Value → World → Prop)} {Q : Exit → Act → World → Prop}

/-- An operation whose value is told of, and that leaves the world as it is. -/
theorem gSp {i : Nat} {o : Oper} (ho : ops[i]? = some o) (hw : WIs ops val sp true i o) (p : Value → World → Prop) (hs : sp i = some p) (h : ∀ L v a w, KnG ops a0 w0 val sp i L v a w → ∃ u, (execOp a.eval o).run P w = .ok (.value u) w ∧ p u w) : StepG P ops a0 w0 val sp Q i := by
  intro o' ho' L v a w K
  rw [ho] at ho'
  cases ho'
  obtain ⟨u, hu, hp⟩ := h L v a w K
  refine wpOp_step ho (fun K' hK => ?_)
  rw [if_pos (wanted_is hw K)]
  unfold Oper.wp
  rw [hu, Oper.upon_value]
  exact hK _ _ ⟨_, rfl, Below.refl _ _, by unfold GG; rw [hs]; show p (updv v i u i) w; rw [updv_same]; exact hp⟩

theorem KnG.at_sp {i : Nat} {L : Nat → Bool} {v : Nat → Value} {a : Act} {w : World} (K : KnG ops a0 w0 val sp i L v a w) (j : Nat) {t : Tmp} {p : Value → World → Prop} (hn : near ops i j = true) (hd : dstOf ops j = some t) (hs : sp j = some p) : ∃ u, a.eval (.tmp t) = u ∧ p u w := by
  have h := K.said j hn
  unfold GG at h
  rw [hs] at h
  exact ⟨v j, K.slots.eval_got j (K.up j hn) hd, h⟩

def AllB (P : Program) (ops : Array Oper) (a0 : Act) (w0 : World) (val : Nat → Value) (sp : Nat → Option (Value → World → Prop)) (Q : Exit → Act → World → Prop) (A S : Nat) : Nat → Nat → Prop
  | _, 0 => True
  | k, n + 1 => (k = A ∨ k = S ∨ StepG P ops a0 w0 val sp Q k) ∧ AllB P ops a0 w0 val sp Q A S (k + 1) n

theorem AllB.at {A S : Nat} : ∀ (n k : Nat), AllB P ops a0 w0 val sp Q A S k n → ∀ i, k ≤ i → i < k + n → i = A ∨ i = S ∨ StepG P ops a0 w0 val sp Q i
  | 0, k, _, i, h1, h2 => by omega
  | n + 1, k, h, i, h1, h2 => by
    by_cases e : i = k
    · subst e; exact h.1
    · exact AllB.at n (k + 1) h.2 i (by omega) (by omega)

/-- What the box holds. -/
def BoxIs (A S Y : Nat) (zs : List Value) (w0 : World) (L : Nat → Bool) (v : Nat → Value) (w : World) : Prop :=
  L A = true → ∃ g, v A = .pointer (some ⟨g, 0, none⟩) ∧ w0.heap.size ≤ g ∧ (L S = false → Row w g zs) ∧ (L S = true → ∃ ys, v Y = .agg (List.toArray ys) ∧ Row w g ys)

theorem BoxIs.grow {A S Y : Nat} {zs : List Value} {L : Nat → Bool} {v : Nat → Value} {w w' : World} (h : BoxIs A S Y zs w0 L v w) (b : Below w.heap.size w w') : BoxIs A S Y zs w0 L v w' := fun hA => by
  obtain ⟨g, h1, h2, h3, h4⟩ := h hA
  refine ⟨g, h1, h2, fun hS => (h3 hS).below b (h3 hS).lt, fun hS => ?_⟩
  obtain ⟨ys, h5, h6⟩ := h4 hS
  exact ⟨ys, h5, h6.below b h6.lt⟩

/-- THE LAW. A: the box, S: the store, Y: what is stored. -/
theorem region_boxed {id : Nat} (dr : Bool) (hm : P.follows .mixedOrders = true) (hf : fits ops a0.tmps.size = true) (ds : List (Option Tmp)) (hds : (List.range ops.size).map (dstOf ops) = ds)
    (A S Y : Nat) (hAS : A ≠ S) (hYA : Y ≠ A) (hYS : Y ≠ S) (zs : List Value) {oA oS : Oper} (hoA : ops[A]? = some oA) (gA : oA.guard = none) (ty : TypeId)
    (hal : ∀ (ρ : Operand → Value) w, (execOp ρ oA).run P w = .ok (.value (.pointer (some ⟨w.heap.size, 0, none⟩))) (w.alloc (.cells zs.toArray ty)))
    (hoS : ops[S]? = some oS) (gS : oS.guard = none) (ty' : TypeId) (tA tY : Tmp) (pS : oS.op = .store ty' (.tmp tA) (.tmp tY)) (dA : dstOf ops A = some tA) (dY : dstOf ops Y = some tY) (nA : near ops S A = true) (nY : near ops S Y = true) (hi : (P.info? ty').map (·.size) = some zs.length)
    (hv : ∀ v w, GG val sp Y v w → ∃ ys, v Y = .agg (List.toArray ys) ∧ ys.length = zs.length ∧ ys.all (·.oneCell') = true)
    (sA : sp A = some (fun _ _ => True)) (sS : sp S = some (fun _ _ => True))
    (hst : ∀ i p, sp i = some p → ∀ x w w', p x w → p x w')
    (hall : AllB P ops a0 w0 val sp Q A S 0 ops.size)
    (hend : ∀ v w g ys, Below w0.heap.size w0 w → (∀ i, i < ops.size → GG val sp i v w) → v A = .pointer (some ⟨g, 0, none⟩) → w0.heap.size ≤ g → v Y = .agg (List.toArray ys) → Row w g ys → Q .normal (putsAll a0 ds v 0) w) : (Code.region id ops dr).wp P Q a0 w0 := by
  have hop := fun i (hi : i < ops.size) => AllB.at ops.size 0 hall i (Nat.zero_le _) (by omega)
  have hAlt : A < ops.size := (Array.getElem?_eq_some_iff.1 hoA).1
  have hSlt : S < ops.size := (Array.getElem?_eq_some_iff.1 hoS).1
  have gset : ∀ (k i : Nat) (v : Nat → Value) (u : Value) (w w' : World), k ≠ i → GG val sp k v w → GG val sp k (updv v i u) w' := fun k i v u w w' hki h => by
    unfold GG at h ⊢
    cases hs : sp k with
    | none => rw [hs] at h; show updv v i u k = val k; rw [updv_ne v u hki]; exact h
    | some q => rw [hs] at h; show q (updv v i u k) w'; rw [updv_ne v u hki]; exact hst k q hs _ _ _ h
  refine rg_both dr hm hf ds hds (fun L v w => (Below w0.heap.size w0 w ∧ ∀ k, k < ops.size → L k = true → GG val sp k v w) ∧ BoxIs A S Y zs w0 L v w) ⟨⟨(Below.refl _ _).drew, fun k _ h => (by cases h)⟩, fun h => (by cases h)⟩ ⟨⟨Below.refl _ _, fun k _ h => (by cases h)⟩, fun h => (by cases h)⟩ ?_ ?_
  · rintro i o ho L v a w hAt ⟨⟨hB, hI⟩, hX⟩ hC hLi hw
    have hlt : i < ops.size := (Array.getElem?_eq_some_iff.1 ho).1
    have hup : ∀ j, near ops i j = true → L j = true := fun j hj => near_up ho hw hj
    have hsz : ∀ j, near ops i j = true → j < ops.size := fun j hj => by
      unfold near at hj
      rw [ho] at hj
      obtain ⟨e, he', hb⟩ := List.any_eq_true.1 hj
      have he := Array.mem_toList_iff.1 he'
      rw [Bool.and_eq_true] at hb
      have := fits_after hf ho he hb.1
      have h2 : e.on = j := by simpa using hb.2
      omega
    have grown : ∀ u w', Below w.heap.size w w' → GG val sp i (updv v i u) w' → Below w0.heap.size w0 w' ∧ ∀ k, k < ops.size → upd L i k = true → GG val sp k (updv v i u) w' := fun u w' hb hG => ⟨hB.trans (hb.mono hB.size), fun k hk hLk => by
      by_cases hki : k = i
      · subst hki; exact hG
      · rw [upd_ne L hki] at hLk
        exact gset k i v u w w' hki (hI k hk hLk)⟩
    by_cases eA : i = A
    · subst eA
      rw [hoA] at ho
      cases ho
      refine wpOp_step hoA (fun K' hK => ?_)
      rw [if_pos (by simp [Region.wanted, gA])]
      unfold Oper.wp
      rw [hal, Oper.upon_value]
      refine hK _ _ ⟨_, rfl, ?_, ?_⟩
      · exact grown _ _ ((Below.refl _ _).alloc (Nat.le_refl _) _) (by unfold GG; rw [sA]; trivial)
      · intro _
        refine ⟨w.heap.size, by rw [updv_same], hB.size, fun _ => Row.new w zs ty, fun hS => ?_⟩
        rw [upd_ne L (fun h => hAS h.symm)] at hS
        have := near_up hoS (hC S oS hoS hS) nA
        rw [this] at hLi
        cases hLi
    · by_cases eS : i = S
      · subst eS
        rw [hoS] at ho
        cases ho
        have hLA := hup A nA
        have hLY := hup Y nY
        obtain ⟨g, e1, hg, h3, _⟩ := hX hLA
        have hrow := h3 hLi
        obtain ⟨ys, e2, hl, h1⟩ := hv v w (hI Y (hsz Y nY) hLY)
        have x1 : a.eval (.tmp tA) = .pointer (some ⟨g, 0, none⟩) := (hAt.eval_got A hLA dA).trans e1
        have x2 : a.eval (.tmp tY) = .agg (List.toArray ys) := (hAt.eval_got Y hLY dY).trans e2
        refine wpOp_step hoS (fun K' hK => ?_)
        rw [if_pos (by simp [Region.wanted, gS])]
        refine wp_store_mid ty' (.tmp tA) (.tmp tY) pS g 0 ys.toArray x1 x2 (fun j hj => ?_) (by rw [hi]; simp [hl]) (all_oneCell_toArray (fun v hv => List.all_eq_true.1 h1 v hv)) ?_
        · have hj' : j < zs.length := by rw [← hl]; simpa using hj
          rw [Nat.zero_add]
          exact ⟨by rw [hrow.c j (List.getElem?_eq_getElem hj')]; rfl, hrow.f j⟩
        have hp : w.setCells g 0 ys.toArray.toList = puts w g 0 ys := (puts_setCells g ys w 0).symm
        rw [hp]
        have hB' : Below w0.heap.size w0 (puts w g 0 ys) := puts_below hB hg 0 ys
        refine hK _ _ ⟨undef, rfl, ⟨hB', fun k hk hLk => ?_⟩, fun _ => ⟨g, by rw [updv_ne v _ hAS]; exact e1, hg, fun hS => ?_, fun _ => ⟨ys, by rw [updv_ne v _ hYS]; exact e2, ?_⟩⟩⟩
        · by_cases hki : k = i
          · subst hki; unfold GG; rw [sS]; trivial
          · rw [upd_ne L hki] at hLk
            exact gset k i v _ w _ hki (hI k hk hLk)
        · rw [upd_same] at hS; cases hS
        · have hr := puts_row hrow 0 ys
          rw [listed_all ys zs 0 (by omega)] at hr
          exact hr
      · rcases hop i hlt with h | h | h
        · exact absurd h eA
        · exact absurd h eS
        refine wpOp_mono ?_ (h o ho L v a w ⟨hAt, hB, hup, fun j hj => hI j (hsz j hj) (hup j hj)⟩)
        rintro a' w' ⟨u, rfl, hb, hG⟩
        refine ⟨u, rfl, grown u w' hb hG, ?_⟩
        intro hA
        rw [upd_ne L (fun h => eA h.symm)] at hA
        obtain ⟨g, e1, hg, h3, h4⟩ := (hX.grow hb) hA
        refine ⟨g, by rw [updv_ne v u (fun h => eA h.symm)]; exact e1, hg, fun hS => h3 (by rwa [upd_ne L (fun h => eS h.symm)] at hS), fun hS => ?_⟩
        rw [upd_ne L (fun h => eS h.symm)] at hS
        obtain ⟨ys, h5, h6⟩ := h4 hS
        refine ⟨ys, ?_, h6⟩
        by_cases eY : i = Y
        · subst eY
          have := near_up hoS (hC S oS hoS hS) nY
          rw [this] at hLi
          cases hLi
        · rw [updv_ne v u (fun h => eY h.symm)]; exact h5
  · rintro L v w hL ⟨⟨hB, hI⟩, hX⟩
    obtain ⟨g, e1, hg, _, h4⟩ := hX (hL A hAlt)
    obtain ⟨ys, e2, hr⟩ := h4 (hL S hSlt)
    exact hend v w g ys hB (fun i hi => hI i hi (hL i hi)) e1 hg e2 hr

end

theorem sp_still {q : Nat → Option (Value → Prop)} (i : Nat) (p : Value → World → Prop) (h : (q i).map (fun p v (_ : World) => p v) = some p) (x : Value) (w w' : World) (hp : p x w) : p x w' := by
  cases hq : q i with
  | none => rw [hq] at h; cases h
  | some r => rw [hq] at h; cases h; exact hp

end Go.Proofs.YtogebppolkfldaaGreatDoor.Rg
