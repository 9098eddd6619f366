/-
  The walk of impl.Settled. Condition: lists and texts of at most 2^20; the tables of sixteen sums and of the kinds' sizes and the error of a part that lacks stand in their variables.
  The walk of laws.FnExactSettled: the law answers true, and nothing that was there is changed. Condition: the tables of sixteen sums and of the kinds' sizes and the error of a part that lacks stand in their variables.
-/
import Derived.Test.YtaopkchkhdbfnaaGreatDoorJoin5
import Derived.Test.YtaopkchkhdbfnaaGreatDoorJoin2
import Derived.Deep.DeepCutAuto
namespace Go.Proofs.YtaopkchkhdbfnaaGreatDoor.Pl
open Go.RowKit Go.Proofs.YtaopkchkhdbfnaaGreatDoor.Mem Go.Proofs.YtaopkchkhdbfnaaGreatDoor.Sec Go.Proofs.YtaopkchkhdbfnaaGreatDoor.Rd Go.Proofs.YtaopkchkhdbfnaaGreatDoor.Pk Go.Proofs.YtaopkchkhdbfnaaGreatDoor.Rg
set_option linter.unusedVariables false

theorem call_iLive (vs : Array Value) (w : World) : (callFunc 69 vs).run Tryz.prog w = .ok (.enter 69 vs) w := by simp [go_sem]

theorem setAt_no {a b c d e : Bool} (h : (a && d) = false) : (a && (b && (c && (d && e)))) = false := by
  cases a <;> cases b <;> cases c <;> cases d <;> simp at h ⊢

set_option maxRecDepth 100000 in
set_option maxHeartbeats 4000000 in
theorem iLive (w : World) (x : Hx) (k eb eo ec : Nat) (ep : List Int) (hx : x.H.id = (k : Int)) (hk : k < 3) (he : ep.length = 3) (S : Ints w (some ⟨eb, eo, none⟩) ep) :
    Calls Tryz.prog 69 #[.agg x.cells.toArray, .slice (some ⟨eb, eo, none⟩) 3 ec] w fun e w' => e = .returned (.bool (x.H.up && decide (x.H.ep = ep.getD k 0))) ∧ Below w.heap.size w w' := by
  obtain ⟨eb', eo', ee, hce⟩ := S k (by rw [he]; exact hk)
  cases ee
  replace hce : w.cell? ⟨eb, eo + k, none⟩ = some (.int .i64 (ep.getD k 0)) := hce
  generalize ep.getD k 0 = E at hce
  have HXI := hid hx
  obtain ⟨wa, hwa, ez, A0, B0⟩ := one_new w x.cells 63
  have HCE := hid (Rg.cell_later hce B0)
  have HA := hid A0
  have HB := hid B0
  have HX0 : Hid (wa.cell? ⟨w.heap.size, 0, none⟩ = some (.int .i64 (k : Int))) := by rw [← hx]; exact A0.c 0 rfl
  have HX1 : Hid (wa.cell? ⟨w.heap.size, 1, none⟩ = some (.int .i64 x.H.ep)) := A0.c 1 rfl
  have hk3 : (k : Int) < 3 := by omega
  have HWA := hid hwa
  clear A0 B0 ez hce S hx hwa
  go_enter Tryz.func69, Tryz.ntmps69
  go_upto_region 1 with fail
  rw [show w.alloc (.cells x.cells.toArray 63) = wa from HWA.out]
  generalize Value.agg x.cells.toArray = V0
  have HDQ := hid (show (x.H.ep == E) = decide (x.H.ep = E) by by_cases h : x.H.ep = E <;> simp [h])
  cases hup : x.H.up
  · have HUP : Hid (wa.cell? ⟨w.heap.size, 2, none⟩ = some (.bool false)) := by rw [← hup]; exact HA.out.c 2 rfl
    have HUQ := hid hup
    clear hup
    refine region_grow (val := fun i => [.pointer (some ⟨w.heap.size, 2, none⟩), .bool false, .bool false, undef, undef, undef, undef, undef, undef, undef, undef, .bool false, .bool false].getD i undef) (sp := fun _ => none) true (by kernel_rfl) (by kernel_rfl) [some 5, some 6, some 7, some 8, some 9, some 10, some 11, some 12, some 13, some 14, some 15, some 16, some 4] (by kernel_rfl) (fun _ _ h => by cases h) ?_ (fun v w hb hG => ?_)
    · refine ⟨gVal rfl (.inl ⟨rfl, rfl⟩) rfl (fun Lb v act wy K => by
       have e1 : act.eval (.tmp 2) = .pointer (some ⟨w.heap.size, 0, none⟩) := (K.off (x := .tmp 2) (by kernel_rfl)).trans rfl
       show (execOp act.eval _).run Tryz.prog wy = .ok (.value (.pointer (some ⟨w.heap.size, 2, none⟩))) wy
       generalize act.eval = ρ at e1 ⊢
       unfold execOp
       simp [go_sem, e1]), ?_⟩
      refine ⟨gVal rfl (.inl ⟨rfl, rfl⟩) rfl (fun Lb v act wy K => by
       have e1 : act.eval (.tmp 5) = .pointer (some ⟨w.heap.size, 2, none⟩) := K.at_val 0 (by kernel_rfl) (by kernel_rfl) rfl
       have e2 := Rg.cell_later (HUP.out) K.bel
       show (execOp act.eval _).run Tryz.prog wy = .ok (.value (.bool false)) wy
       generalize act.eval = ρ at e1 ⊢
       unfold execOp
       simp [go_sem, e1, e2]), ?_⟩
      refine ⟨gVal rfl (.inl ⟨rfl, rfl⟩) rfl (fun Lb v act wy K => by
       have e1 : act.eval (.tmp 6) = .bool false := K.at_val 1 (by kernel_rfl) (by kernel_rfl) rfl
       exact run_move _ rfl e1), ?_⟩
      refine ⟨gSkip rfl (.inr ⟨2, true, 7, rfl, (by kernel_rfl), (by kernel_rfl), rfl, rfl⟩) rfl rfl, ?_⟩
      refine ⟨gSkip rfl (.inr ⟨2, true, 7, rfl, (by kernel_rfl), (by kernel_rfl), rfl, rfl⟩) rfl rfl, ?_⟩
      refine ⟨gSkip rfl (.inr ⟨2, true, 7, rfl, (by kernel_rfl), (by kernel_rfl), rfl, rfl⟩) rfl rfl, ?_⟩
      refine ⟨gSkip rfl (.inr ⟨2, true, 7, rfl, (by kernel_rfl), (by kernel_rfl), rfl, rfl⟩) rfl rfl, ?_⟩
      refine ⟨gSkip rfl (.inr ⟨2, true, 7, rfl, (by kernel_rfl), (by kernel_rfl), rfl, rfl⟩) rfl rfl, ?_⟩
      refine ⟨gSkip rfl (.inr ⟨2, true, 7, rfl, (by kernel_rfl), (by kernel_rfl), rfl, rfl⟩) rfl rfl, ?_⟩
      refine ⟨gSkip rfl (.inr ⟨2, true, 7, rfl, (by kernel_rfl), (by kernel_rfl), rfl, rfl⟩) rfl rfl, ?_⟩
      refine ⟨gSkip rfl (.inr ⟨2, true, 7, rfl, (by kernel_rfl), (by kernel_rfl), rfl, rfl⟩) rfl rfl, ?_⟩
      refine ⟨gVal rfl (.inl ⟨rfl, rfl⟩) rfl (fun Lb v act wy K => by
       have e1 : act.eval (.tmp 7) = .bool false := K.at_val 2 (by kernel_rfl) (by kernel_rfl) rfl
       have ec : act.eval (.const (.bool false)) = .bool false := rfl
       show (execOp act.eval _).run Tryz.prog wy = .ok (.value (.bool false)) wy
       generalize act.eval = ρ at e1 ec ⊢
       unfold execOp
       simp [go_sem, e1, ec]), ?_⟩
      refine ⟨gVal rfl (.inl ⟨rfl, rfl⟩) rfl (fun Lb v act wy K => by
       have e1 : act.eval (.tmp 16) = .bool false := K.at_val 11 (by kernel_rfl) (by kernel_rfl) rfl
       exact run_assign _ rfl e1), ?_⟩
      exact trivial
    have e12 : v 12 = .bool false := hG 12 (by show 12 < 13; decide)
    have HU := hid (HB.out.trans (hb.mono HB.out.size))
    clear hG hb
    simp only [putsAll, Act.put, List.setIfInBounds_toArray, List.set_cons_zero, List.set_cons_succ, e12]
    clear e12
    go_wp2
    go_ret
    exact ⟨by rw [HUQ.out]; rfl, HU.out⟩
  have HUP : Hid (wa.cell? ⟨w.heap.size, 2, none⟩ = some (.bool true)) := by rw [← hup]; exact HA.out.c 2 rfl
  have HUQ := hid hup
  clear hup
  refine region_grow (val := fun i => [.pointer (some ⟨w.heap.size, 2, none⟩), .bool true, .bool true, .pointer (some ⟨w.heap.size, 1, none⟩), .int .i64 x.H.ep, .slice (some ⟨eb, eo, none⟩) 3 ec, .pointer (some ⟨w.heap.size, 0, none⟩), .int .i64 (k : Int), .pointer (some ⟨eb, eo + k, none⟩), .int .i64 E, .bool (decide (x.H.ep = E)), .bool (decide (x.H.ep = E)), .bool (decide (x.H.ep = E))].getD i undef) (sp := fun _ => none) true (by kernel_rfl) (by kernel_rfl) [some 5, some 6, some 7, some 8, some 9, some 10, some 11, some 12, some 13, some 14, some 15, some 16, some 4] (by kernel_rfl) (fun _ _ h => by cases h) ?_ (fun v w hb hG => ?_)
  · refine ⟨gVal rfl (.inl ⟨rfl, rfl⟩) rfl (fun Lb v act wy K => by
     have e1 : act.eval (.tmp 2) = .pointer (some ⟨w.heap.size, 0, none⟩) := (K.off (x := .tmp 2) (by kernel_rfl)).trans rfl
     show (execOp act.eval _).run Tryz.prog wy = .ok (.value (.pointer (some ⟨w.heap.size, 2, none⟩))) wy
     generalize act.eval = ρ at e1 ⊢
     unfold execOp
     simp [go_sem, e1]), ?_⟩
    refine ⟨gVal rfl (.inl ⟨rfl, rfl⟩) rfl (fun Lb v act wy K => by
     have e1 : act.eval (.tmp 5) = .pointer (some ⟨w.heap.size, 2, none⟩) := K.at_val 0 (by kernel_rfl) (by kernel_rfl) rfl
     have e2 := Rg.cell_later (HUP.out) K.bel
     show (execOp act.eval _).run Tryz.prog wy = .ok (.value (.bool true)) wy
     generalize act.eval = ρ at e1 ⊢
     unfold execOp
     simp [go_sem, e1, e2]), ?_⟩
    refine ⟨gVal rfl (.inl ⟨rfl, rfl⟩) rfl (fun Lb v act wy K => by
     have e1 : act.eval (.tmp 6) = .bool true := K.at_val 1 (by kernel_rfl) (by kernel_rfl) rfl
     exact run_move _ rfl e1), ?_⟩
    refine ⟨gVal rfl (.inr ⟨2, true, 7, rfl, (by kernel_rfl), (by kernel_rfl), rfl, rfl⟩) rfl (fun Lb v act wy K => by
     have e1 : act.eval (.tmp 2) = .pointer (some ⟨w.heap.size, 0, none⟩) := (K.off (x := .tmp 2) (by kernel_rfl)).trans rfl
     show (execOp act.eval _).run Tryz.prog wy = .ok (.value (.pointer (some ⟨w.heap.size, 1, none⟩))) wy
     generalize act.eval = ρ at e1 ⊢
     unfold execOp
     simp [go_sem, e1]), ?_⟩
    refine ⟨gVal rfl (.inr ⟨2, true, 7, rfl, (by kernel_rfl), (by kernel_rfl), rfl, rfl⟩) rfl (fun Lb v act wy K => by
     have e1 : act.eval (.tmp 8) = .pointer (some ⟨w.heap.size, 1, none⟩) := K.at_val 3 (by kernel_rfl) (by kernel_rfl) rfl
     have e2 := Rg.cell_later (HX1.out) K.bel
     show (execOp act.eval _).run Tryz.prog wy = .ok (.value (.int .i64 x.H.ep)) wy
     generalize act.eval = ρ at e1 ⊢
     unfold execOp
     simp [go_sem, e1, e2]), ?_⟩
    refine ⟨gVal rfl (.inr ⟨2, true, 7, rfl, (by kernel_rfl), (by kernel_rfl), rfl, rfl⟩) rfl (fun Lb v act wy K => by
     have e1 : act.eval (.tmp 1) = .slice (some ⟨eb, eo, none⟩) 3 ec := (K.off (x := .tmp 1) (by kernel_rfl)).trans rfl
     exact run_move _ rfl e1), ?_⟩
    refine ⟨gVal rfl (.inr ⟨2, true, 7, rfl, (by kernel_rfl), (by kernel_rfl), rfl, rfl⟩) rfl (fun Lb v act wy K => by
     have e1 : act.eval (.tmp 2) = .pointer (some ⟨w.heap.size, 0, none⟩) := (K.off (x := .tmp 2) (by kernel_rfl)).trans rfl
     show (execOp act.eval _).run Tryz.prog wy = .ok (.value (.pointer (some ⟨w.heap.size, 0, none⟩))) wy
     generalize act.eval = ρ at e1 ⊢
     unfold execOp
     simp [go_sem, e1]), ?_⟩
    refine ⟨gVal rfl (.inr ⟨2, true, 7, rfl, (by kernel_rfl), (by kernel_rfl), rfl, rfl⟩) rfl (fun Lb v act wy K => by
     have e1 : act.eval (.tmp 11) = .pointer (some ⟨w.heap.size, 0, none⟩) := K.at_val 6 (by kernel_rfl) (by kernel_rfl) rfl
     have e2 := Rg.cell_later (HX0.out) K.bel
     show (execOp act.eval _).run Tryz.prog wy = .ok (.value (.int .i64 (k : Int))) wy
     generalize act.eval = ρ at e1 ⊢
     unfold execOp
     simp [go_sem, e1, e2]), ?_⟩
    refine ⟨gVal rfl (.inr ⟨2, true, 7, rfl, (by kernel_rfl), (by kernel_rfl), rfl, rfl⟩) rfl (fun Lb v act wy K => by
     have e1 : act.eval (.tmp 10) = .slice (some ⟨eb, eo, none⟩) 3 ec := K.at_val 5 (by kernel_rfl) (by kernel_rfl) rfl
     have e2 : act.eval (.tmp 12) = .int .i64 (k : Int) := K.at_val 7 (by kernel_rfl) (by kernel_rfl) rfl
     show (execOp act.eval _).run Tryz.prog wy = .ok (.value (.pointer (some ⟨eb, eo + k, none⟩))) wy
     generalize act.eval = ρ at e1 e2 ⊢
     unfold execOp
     simp [go_sem, e1, e2, hk3]), ?_⟩
    refine ⟨gVal rfl (.inr ⟨2, true, 7, rfl, (by kernel_rfl), (by kernel_rfl), rfl, rfl⟩) rfl (fun Lb v act wy K => by
     have e1 : act.eval (.tmp 13) = .pointer (some ⟨eb, eo + k, none⟩) := K.at_val 8 (by kernel_rfl) (by kernel_rfl) rfl
     have e2 := Rg.cell_later (HCE.out) K.bel
     show (execOp act.eval _).run Tryz.prog wy = .ok (.value (.int .i64 E)) wy
     generalize act.eval = ρ at e1 ⊢
     unfold execOp
     simp [go_sem, e1, e2]), ?_⟩
    refine ⟨gVal rfl (.inr ⟨2, true, 7, rfl, (by kernel_rfl), (by kernel_rfl), rfl, rfl⟩) rfl (fun Lb v act wy K => by
     have e1 : act.eval (.tmp 9) = .int .i64 x.H.ep := K.at_val 4 (by kernel_rfl) (by kernel_rfl) rfl
     have e2 : act.eval (.tmp 14) = .int .i64 E := K.at_val 9 (by kernel_rfl) (by kernel_rfl) rfl
     show (execOp act.eval _).run Tryz.prog wy = .ok (.value (.bool (decide (x.H.ep = E)))) wy
     generalize act.eval = ρ at e1 e2 ⊢
     unfold execOp
     simp [go_sem, e1, e2, HDQ.out]), ?_⟩
    refine ⟨gVal rfl (.inl ⟨rfl, rfl⟩) rfl (fun Lb v act wy K => by
     have e1 : act.eval (.tmp 7) = .bool true := K.at_val 2 (by kernel_rfl) (by kernel_rfl) rfl
     have e2 : act.eval (.tmp 15) = .bool (decide (x.H.ep = E)) := K.at_val 10 (by kernel_rfl) (by kernel_rfl) rfl
     show (execOp act.eval _).run Tryz.prog wy = .ok (.value (.bool (decide (x.H.ep = E)))) wy
     generalize act.eval = ρ at e1 e2 ⊢
     unfold execOp
     simp [go_sem, e1, e2]), ?_⟩
    refine ⟨gVal rfl (.inl ⟨rfl, rfl⟩) rfl (fun Lb v act wy K => by
     have e1 : act.eval (.tmp 16) = .bool (decide (x.H.ep = E)) := K.at_val 11 (by kernel_rfl) (by kernel_rfl) rfl
     exact run_assign _ rfl e1), ?_⟩
    exact trivial
  have e12 : v 12 = .bool (decide (x.H.ep = E)) := hG 12 (by show 12 < 13; decide)
  have HU := hid (HB.out.trans (hb.mono HB.out.size))
  clear hG hb
  simp only [putsAll, Act.put, List.setIfInBounds_toArray, List.set_cons_zero, List.set_cons_succ, e12]
  clear e12
  go_wp2
  go_ret
  exact ⟨by rw [HUQ.out]; rfl, HU.out⟩

set_option maxRecDepth 100000 in
set_option maxHeartbeats 8000000 in
theorem iSettled (R : ByteArray → Int × Nat) (hR : Reads R) (hT : ∀ s : ByteArray, s.size ≤ maxLen → Tx s (R s)) (w : World) (v : Value) (X : Wd) (h : WdR w v X) (hs : X.Small) (hd : X.D.Held) (hL : Laid w) :
    Calls Tryz.prog 18 #[v] w fun e w' => e = .returned (.bool (X.settled R)) ∧ Below w.heap.size w w' := by
  have HW := hid h
  obtain ⟨a1, c1, a2, c2, a3, c3, a4, c4, a5, c5, a6, c6, a7, c7, L, rfl, hm, s1, s2, s3, s4, s5, s6, s7⟩ := h
  have HS1 := hid s1
  have HS2 := hid s2
  have HS4 := hid s4
  have HSM := hid hs
  have HDH := hid hd
  have HM := hid hm
  have HRR := hid hR
  have HTT := hid hT
  have HLA := hid hL
  clear s1 s2 s3 s4 s5 s6 s7 hm hs hd hR hT hL
  obtain ⟨wa, hwa, ez, A0, B0⟩ := one_new w [.slice a1 X.D.sec.length c1, .slice a2 X.D.ep.length c2, .slice a3 X.D.pe.length c3, .slice a4 L.length c4, .slice a5 X.log.length c5, .slice a6 X.seen.length c6, .slice a7 X.rep.length c7] 41
  have k0 := A0.c 0 rfl
  have k1 := A0.c 1 rfl
  have k2 := A0.c 2 rfl
  have k3 := A0.c 3 rfl
  have k4 := A0.c 4 rfl
  have k5 := A0.c 5 rfl
  have k6 := A0.c 6 rfl
  have HA := hid A0
  have HB := hid B0
  clear A0 B0 ez
  go_enter Tryz.func18, Tryz.ntmps18
  go_wp2_with fail
  try simp only [hwa]
  clear hwa k0 k1 k2 k3 k4 k5 k6
  refine (iWorldOk R HRR.out HTT.out wa _ X (HW.out.below HB.out) HSM.out HDH.out (HLA.out.below HB.out)).mono ?_
  rintro e w1 ⟨rfl, b1⟩
  have HA1 := hid (HA.out.below b1 HA.out.lt)
  have HB1 := hid (HB.out.trans (b1.mono HB.out.size))
  clear b1 HA HB
  cases hq1 : X.ok R
  · have HQ := hid hq1
    clear hq1
    go_wp2
    go_ret
    exact ⟨by rw [set_no1 HQ.out]; rfl, HB1.out⟩
  have HQ1 := hid hq1
  clear hq1
  have k := HA1.out.c 2 rfl
  by_cases hp : 0 < (X.D.pe.length : Int)
  · have HQ := hid hp
    go_wp2
    go_ret
    exact ⟨by rw [set_no2 (by have := HQ.out; omega)]; rfl, HB1.out⟩
  have HQ2 : Hid (X.D.pe.length = 0) := by show X.D.pe.length = 0; omega
  obtain ⟨hq3, hq4, hq5, _, _, _⟩ := ok_parts HQ1.out
  have HEP := hid (right_ep hq3)
  have HSL := hid (pool_len hq4)
  have HHO := hid hq5
  have HL3 : Hid (L.length = 3) := by have := hosts_len hq5; rw [← HM.out, List.length_map] at this; exact this
  have HLM : Hid (∀ j, j < 3 → X.hs.getD j Ho.none = (L.getD j Hx.none).H) := fun j hj => by
    have hj' : j < L.length := by have := HL3.out; omega
    rw [← HM.out]
    simp [List.getD, hj']
  clear hq3 hq4 hq5
  obtain ⟨hb, ho, ea4, _⟩ := HS4.out.1 0 (by have := HL3.out; omega)
  obtain ⟨eb, eo, ea2, _⟩ := HS2.out 0 (by have := HEP.out; omega)
  obtain ⟨sb, so, ea1, _⟩ := HS1.out 0 (by have := HSL.out; omega)
  subst ea4
  subst ea2
  subst ea1
  have k3 := HA1.out.c 3 rfl
  rw [HL3.out] at k3
  go_wp2
  clear k hp k3
  have C0 : Hid (∀ u, Below w1.heap.size w1 u → Hid (u.cell? ⟨w.heap.size, 0, none⟩ = some (.slice (some ⟨sb, so, none⟩) 34 c1)) ∧ Hid (u.cell? ⟨w.heap.size, 1, none⟩ = some (.slice (some ⟨eb, eo, none⟩) 3 c2)) ∧ Hid (u.cell? ⟨w.heap.size, 3, none⟩ = some (.slice (some ⟨hb, ho, none⟩) 3 c4))) := fun u hu => by
    have hr := HA1.out.below hu HA1.out.lt
    refine ⟨?_, ?_, ?_⟩
    · have := hr.c 0 rfl; rw [HSL.out] at this; exact this
    · have := hr.c 1 rfl; rw [HEP.out] at this; exact this
    · have := hr.c 3 rfl; rw [HL3.out] at this; exact this
  go_loopw [20] (fun i wr => ∃ k : Nat, k ≤ 3 ∧ i = .int .i64 (k : Int) ∧ Hid (∀ j, j < k → setAt R X j = true) ∧ Hid (Below w1.heap.size w1 wr)) (fun i _ => 3 - (intOf i).toNat)
  case atStart => exact ⟨0, Nat.zero_le _, rfl, (by intro j hj; omega), Below.refl _ _⟩
  case round =>
    obtain ⟨k, hk, rfl, HI, HB0⟩ := hrel
    by_cases hlt : k < 3
    · have HB := hid (HB1.out.trans (HB0.out.mono HB1.out.size))
      obtain ⟨HC0, HC1, HC3⟩ := C0.out wr HB0.out
      obtain ⟨b', off', ea, hrg, hou⟩ := (HS4.out.below HB.out).range k (by rw [HL3.out]; exact hlt)
      cases ea
      have HX : Hid ((L.getD k Hx.none).H = X.hs.getD k Ho.none) := (HLM.out k hlt).symm
      obtain ⟨eb', eo', ee, hce⟩ := (Sl.below HS2.out HB.out) k (by rw [HEP.out]; exact hlt)
      cases ee
      replace hce : wr.cell? ⟨eb, eo + k, none⟩ = some (.int .i64 (X.D.ep.getD k 0)) := hce
      generalize hE : X.D.ep.getD k 0 = E at hce
      have HE := hid hE
      clear hE
      have hxi : (L.getD k Hx.none).H.id = (k : Int) := by
        have h1 := hosts_at HHO.out k hlt
        rw [HLM.out k hlt] at h1
        unfold hoIs at h1
        simp only [Bool.and_eq_true, decide_eq_true_eq] at h1
        exact h1.1
      generalize L.getD k Hx.none = x at hrg hou HX hxi
      have HXI := hid hxi
      have HRG := hid hrg
      have HCE := hid hce
      clear hrg hou hce hxi
      have hk3 : (k : Int) < 3 := by omega
      go_upto_region 5 with fail
      apply wp_region_lit
      iterate 3 go_step
      refine wpList_elem rfl rfl rfl 63 _ rfl hb (ho + k * 16) rfl x.cells HRG.out _ Tryz.underlying63 rfl (by rw [hx_len]; kernel_rfl) [.int .i64 0, .int .i64 0, .bool false, .bool false, .bool false, .int .i64 0, .int .i64 0, .int .i64 0, .int .i64 0, .string ⟨#[]⟩, .int .i64 0, .int .i64 0, .int .i64 0, .string ⟨#[]⟩, .slice none 0 0, .int .i64 0] 63 (fun ρ w => by unfold execOp; simp [go_sem]) 63 _ _ rfl (by kernel_rfl) rfl rfl rfl rfl ?_
      intro wz R0 B0
      have HRz := hid R0
      have HX0 : Hid (wz.cell? ⟨wr.heap.size, 0, none⟩ = some (.int .i64 (k : Int))) := by rw [← HXI.out]; exact R0.c 0 rfl
      have HBz0 := hid B0
      have HBz := hid (HB.out.trans (B0.mono HB.out.size))
      have HB1z := hid (HB0.out.trans (B0.mono HB0.out.size))
      replace HC0 := hid (Rg.cell_later HC0.out B0)
      replace HC1 := hid (Rg.cell_later HC1.out B0)
      replace HCE := hid (Rg.cell_later HCE.out B0)
      clear R0 B0
      simp only [Act.put, List.setIfInBounds_toArray, List.set_cons_zero, List.set_cons_succ]
      generalize Value.agg x.cells.toArray = V0
      have hsk : 3 + k < X.D.sec.length := by rw [HSL.out]; omega
      obtain ⟨sb', so', es, hcs⟩ := (Sl.below HS1.out HBz.out) (3 + k) hsk
      cases es
      replace hcs : wz.cell? ⟨sb, so + (3 + k), none⟩ = some (.string (X.D.sec.getD (3 + k) ByteArray.empty)) := hcs
      have hsz : (X.D.sec.getD (3 + k) ByteArray.empty).size ≤ 1048576 := HSM.out.dt _ (by simp [List.getD, hsk])
      have hso : ∀ u, Below wz.heap.size wz u → Calls Tryz.prog 68 #[.int .i64 1, .int .i64 (k : Int)] u fun e w' => e = .returned (.int .i64 ((3 + k : Nat) : Int)) ∧ w' = u := fun u hu => by rw [← sec1 k hlt]; exact Sector.impl_sector 1 (k : Int) u ((HLA.out.below HBz.out).below hu).k
      generalize hs : X.D.sec.getD (3 + k) ByteArray.empty = s at hcs hsz
      have HRJ := hid (fun (u : World) (hu : Below wz.heap.size wz u) => iJ R HRR.out HTT.out s hsz u ((HLA.out.below HBz.out).below hu))
      generalize hdn : jdone R s = dn at HRJ
      have HDn : Hid (jdone R (X.D.sec.getD (3 + k) ByteArray.empty) = dn) := by show _ = _; rw [hs, hdn]
      have hp34 : ((3 + k : Nat) : Int) < 34 := by omega
      generalize 3 + k = pp at hcs hso hp34
      have HSO := hid hso
      have HCS := hid hcs
      clear hs hdn hsk hcs hso hsz
      go_upto_region 6 with fail
      refine region_boxed (val := fun i => [.pointer (some ⟨w.heap.size, 0, none⟩), .pointer (some ⟨w.heap.size, 0, none⟩), .slice (some ⟨sb, so, none⟩) 34 c1, .pointer (some ⟨wr.heap.size, 0, none⟩), .int .i64 (k : Int), .int .i64 (pp : Int), .pointer (some ⟨sb, so + pp, none⟩), .string s, undef, undef, undef, undef, undef, undef, undef].getD i undef) (sp := fun i => (([none, none, none, none, none, none, none, none, some (TupJ dn), some (TupJ dn), some (JnD dn), some (fun _ => True), some (fun _ => True), some (fun _ => True), some (fun _ => True)] : List (Option (Value → Prop))).getD i none).map fun p v _ => p v) true (by kernel_rfl) (by kernel_rfl) [some 25, some 26, some 27, some 28, some 29, some 30, some 31, some 32, some 33, some 24, some 34, some 35, some 5, none, some 6] (by kernel_rfl) 12 13 10 (by decide) (by decide) (by decide) [.int .i64 0, .bool false, .int .i64 0, .int .i64 0, .int .i64 0, .int .i64 0, .string ⟨#[]⟩, .slice none 0 0] rfl rfl 95 (fun ρ w => by unfold execOp; simp [go_sem]) rfl rfl 95 _ _ rfl rfl rfl (by kernel_rfl) (by kernel_rfl) (by kernel_rfl) (jn_cells rfl) rfl rfl sp_still ?_ (fun v w7 g ys hb hG eA hg eY hr => ?_)
      · refine ⟨.inr (.inr (gVal rfl (.inl ⟨rfl, rfl⟩) rfl (fun Lb v act wy K => by
         have e1 : act.eval (.tmp 1) = .pointer (some ⟨w.heap.size, 0, none⟩) := (K.off (x := .tmp 1) (by kernel_rfl)).trans rfl
         show (execOp act.eval _).run Tryz.prog wy = .ok (.value (.pointer (some ⟨w.heap.size, 0, none⟩))) wy
         generalize act.eval = ρ at e1 ⊢
         unfold execOp
         simp [go_sem, e1]))), ?_⟩
        refine ⟨.inr (.inr (gVal rfl (.inl ⟨rfl, rfl⟩) rfl (fun Lb v act wy K => by
         have e1 : act.eval (.tmp 25) = .pointer (some ⟨w.heap.size, 0, none⟩) := K.at_val 0 (by kernel_rfl) (by kernel_rfl) rfl
         show (execOp act.eval _).run Tryz.prog wy = .ok (.value (.pointer (some ⟨w.heap.size, 0, none⟩))) wy
         generalize act.eval = ρ at e1 ⊢
         unfold execOp
         simp [go_sem, e1]))), ?_⟩
        refine ⟨.inr (.inr (gVal rfl (.inl ⟨rfl, rfl⟩) rfl (fun Lb v act wy K => by
         have e1 : act.eval (.tmp 26) = .pointer (some ⟨w.heap.size, 0, none⟩) := K.at_val 1 (by kernel_rfl) (by kernel_rfl) rfl
         have e2 := Rg.cell_later (HC0.out) K.bel
         show (execOp act.eval _).run Tryz.prog wy = .ok (.value (.slice (some ⟨sb, so, none⟩) 34 c1)) wy
         generalize act.eval = ρ at e1 ⊢
         unfold execOp
         simp [go_sem, e1, e2]))), ?_⟩
        refine ⟨.inr (.inr (gVal rfl (.inl ⟨rfl, rfl⟩) rfl (fun Lb v act wy K => by
         have e1 : act.eval (.tmp 4) = .pointer (some ⟨wr.heap.size, 0, none⟩) := (K.off (x := .tmp 4) (by kernel_rfl)).trans rfl
         show (execOp act.eval _).run Tryz.prog wy = .ok (.value (.pointer (some ⟨wr.heap.size, 0, none⟩))) wy
         generalize act.eval = ρ at e1 ⊢
         unfold execOp
         simp [go_sem, e1]))), ?_⟩
        refine ⟨.inr (.inr (gVal rfl (.inl ⟨rfl, rfl⟩) rfl (fun Lb v act wy K => by
         have e1 : act.eval (.tmp 28) = .pointer (some ⟨wr.heap.size, 0, none⟩) := K.at_val 3 (by kernel_rfl) (by kernel_rfl) rfl
         have e2 := Rg.cell_later (HX0.out) K.bel
         show (execOp act.eval _).run Tryz.prog wy = .ok (.value (.int .i64 (k : Int))) wy
         generalize act.eval = ρ at e1 ⊢
         unfold execOp
         simp [go_sem, e1, e2]))), ?_⟩
        refine ⟨.inr (.inr (gCall rfl (.inl ⟨rfl, rfl⟩) 68 #[.const (.int .i64 1), .tmp 29] _ (fun _ => #[.int .i64 1, .int .i64 (k : Int)]) rfl call_iSector (fun Lb v act wy K => by
         have e1 : act.eval (.tmp 29) = .int .i64 (k : Int) := K.at_val 4 (by kernel_rfl) (by kernel_rfl) rfl
         simp only [List.map_toArray, List.map_cons, List.map_nil, e1]; rfl) (fun v w hb hs => (HSO.out w hb).mono (fun e w' ⟨h1, h2⟩ => ⟨_, h1, h2 ▸ Below.refl _ _, rfl⟩)))), ?_⟩
        refine ⟨.inr (.inr (gVal rfl (.inl ⟨rfl, rfl⟩) rfl (fun Lb v act wy K => by
         have e1 : act.eval (.tmp 27) = .slice (some ⟨sb, so, none⟩) 34 c1 := K.at_val 2 (by kernel_rfl) (by kernel_rfl) rfl
         have e2 : act.eval (.tmp 30) = .int .i64 (pp : Int) := K.at_val 5 (by kernel_rfl) (by kernel_rfl) rfl
         show (execOp act.eval _).run Tryz.prog wy = .ok (.value (.pointer (some ⟨sb, so + pp, none⟩))) wy
         generalize act.eval = ρ at e1 e2 ⊢
         unfold execOp
         simp [go_sem, e1, e2, hp34]))), ?_⟩
        refine ⟨.inr (.inr (gVal rfl (.inl ⟨rfl, rfl⟩) rfl (fun Lb v act wy K => by
         have e1 : act.eval (.tmp 31) = .pointer (some ⟨sb, so + pp, none⟩) := K.at_val 6 (by kernel_rfl) (by kernel_rfl) rfl
         have e2 := Rg.cell_later (HCS.out) K.bel
         show (execOp act.eval _).run Tryz.prog wy = .ok (.value (.string s)) wy
         generalize act.eval = ρ at e1 ⊢
         unfold execOp
         simp [go_sem, e1, e2]))), ?_⟩
        refine ⟨.inr (.inr (gCall rfl (.inl ⟨rfl, rfl⟩) 67 #[.tmp 32] _ (fun _ => #[.string s]) rfl call_iReadJ (fun Lb v act wy K => by
         have e1 : act.eval (.tmp 32) = .string s := K.at_val 7 (by kernel_rfl) (by kernel_rfl) rfl
         simp only [List.map_toArray, List.map_cons, List.map_nil, e1]) (fun v w hb hs => (HRJ.out w hb)))), ?_⟩
        refine ⟨.inr (.inr (gSp rfl (.inl ⟨rfl, rfl⟩) (fun v _ => (TupJ dn) v) rfl (fun Lb v act wy K => by
         obtain ⟨u, e1, hp⟩ := K.at_sp (t := 33) (p := fun v _ => TupJ dn v) 8 (by kernel_rfl) (by kernel_rfl) rfl
         exact ⟨u, run_move _ rfl e1, hp⟩))), ?_⟩
        refine ⟨.inr (.inr (gSp rfl (.inl ⟨rfl, rfl⟩) (fun v _ => (JnD dn) v) rfl (fun Lb v act wy K => by
         obtain ⟨u, e1, J, ad, cap, ok, rfl, hj⟩ := K.at_sp (t := 24) (p := fun v _ => TupJ dn v) 9 (by kernel_rfl) (by kernel_rfl) rfl
         refine ⟨jnV J ad cap, ?_, J, ad, cap, rfl, hj⟩
         show (execOp act.eval _).run Tryz.prog wy = .ok (.value (jnV J ad cap)) wy
         generalize act.eval = ρ at e1 ⊢
         unfold execOp
         simp [go_sem, e1]))), ?_⟩
        refine ⟨.inr (.inr (gSp rfl (.inl ⟨rfl, rfl⟩) (fun v _ => (fun _ => True) v) rfl (fun Lb v act wy K => by
         obtain ⟨u, e1, J, ad, cap, ok, rfl, hj⟩ := K.at_sp (t := 24) (p := fun v _ => TupJ dn v) 9 (by kernel_rfl) (by kernel_rfl) rfl
         refine ⟨.bool ok, ?_, trivial⟩
         show (execOp act.eval _).run Tryz.prog wy = .ok (.value (.bool ok)) wy
         generalize act.eval = ρ at e1 ⊢
         unfold execOp
         simp [go_sem, e1]))), ?_⟩
        refine ⟨.inl rfl, ?_⟩
        refine ⟨.inr (.inl rfl), ?_⟩
        refine ⟨.inr (.inr (gSp rfl (.inl ⟨rfl, rfl⟩) (fun v _ => (fun _ => True) v) rfl (fun Lb v act wy K => by
         obtain ⟨u, e1, hp⟩ := K.at_sp (t := 35) (p := fun _ _ => True) 11 (by kernel_rfl) (by kernel_rfl) rfl
         exact ⟨u, run_assign _ rfl e1, trivial⟩))), ?_⟩
        exact trivial
      obtain ⟨J, ad, cap, hJ, hjd⟩ : JnD dn (v 10) := hG 10 (by show 10 < 15; decide)
      obtain rfl : ys = J.cells ad cap := agg_inj (eY.symm.trans hJ)
      have HB70 := hid (HB1z.out.trans (hb.mono HB1z.out.size))
      have HB7 := hid (HBz.out.trans (hb.mono HBz.out.size))
      replace HC1 := hid (Rg.cell_later HC1.out hb)
      have HDN : Hid (w7.cell? ⟨g, 1, none⟩ = some (.bool dn)) := by rw [← hjd]; exact hr.c 1 rfl
      have HR7 := hid (HRz.out.below hb HRz.out.lt)
      clear hG eY hJ hjd hr
      simp only [putsAll, Act.put, List.setIfInBounds_toArray, List.set_cons_zero, List.set_cons_succ, eA]
      clear eA hg hb
      have HLV := hid (fun (u : World) (hu : Below w7.heap.size w7 u) => iLive u x k eb eo c2 X.D.ep HXI.out hlt HEP.out (Sl.below (Sl.below HS2.out HB7.out) hu))
      rw [HE.out] at HLV
      go_upto_region 7 with fail
      cases hlv : (x.H.up && decide (x.H.ep = E))
      · rw [hlv] at HLV
        have HQ := hid hlv
        clear hlv
        refine region_grow (val := fun i => [.agg (List.toArray x.cells), .pointer (some ⟨w.heap.size, 0, none⟩), .pointer (some ⟨w.heap.size, 1, none⟩), .slice (some ⟨eb, eo, none⟩) 3 c2, .bool false, .bool true, .bool true, undef, undef, undef, .bool true, .bool true, undef, undef, .bool true, .bool true, undef, undef, undef, .bool true].getD i undef) (sp := fun _ => none) false (by kernel_rfl) (by kernel_rfl) [some 36, some 37, some 38, some 39, some 40, some 41, some 42, some 43, some 44, some 45, some 46, some 47, some 48, some 49, some 50, some 51, some 52, some 53, some 54, some 55] (by kernel_rfl) (fun _ _ h => by cases h) ?_ (fun v w hb hG => ?_)
        · refine ⟨gVal rfl (.inl ⟨rfl, rfl⟩) rfl (fun Lb v act wy K => Rg.run_load_at 63 (.tmp 4) rfl _ _ ((K.off (x := .tmp 4) (by kernel_rfl)).trans rfl) _ (rangeAt_below (Rg.range_of_row HR7.out) K.bel) _ Tryz.underlying63 rfl (by rw [hx_len]; kernel_rfl)), ?_⟩
          refine ⟨gVal rfl (.inl ⟨rfl, rfl⟩) rfl (fun Lb v act wy K => by
           have e1 : act.eval (.tmp 1) = .pointer (some ⟨w.heap.size, 0, none⟩) := (K.off (x := .tmp 1) (by kernel_rfl)).trans rfl
           show (execOp act.eval _).run Tryz.prog wy = .ok (.value (.pointer (some ⟨w.heap.size, 0, none⟩))) wy
           generalize act.eval = ρ at e1 ⊢
           unfold execOp
           simp [go_sem, e1]), ?_⟩
          refine ⟨gVal rfl (.inl ⟨rfl, rfl⟩) rfl (fun Lb v act wy K => by
           have e1 : act.eval (.tmp 37) = .pointer (some ⟨w.heap.size, 0, none⟩) := K.at_val 1 (by kernel_rfl) (by kernel_rfl) rfl
           show (execOp act.eval _).run Tryz.prog wy = .ok (.value (.pointer (some ⟨w.heap.size, 1, none⟩))) wy
           generalize act.eval = ρ at e1 ⊢
           unfold execOp
           simp [go_sem, e1]), ?_⟩
          refine ⟨gVal rfl (.inl ⟨rfl, rfl⟩) rfl (fun Lb v act wy K => by
           have e1 : act.eval (.tmp 38) = .pointer (some ⟨w.heap.size, 1, none⟩) := K.at_val 2 (by kernel_rfl) (by kernel_rfl) rfl
           have e2 := Rg.cell_later (HC1.out) K.bel
           show (execOp act.eval _).run Tryz.prog wy = .ok (.value (.slice (some ⟨eb, eo, none⟩) 3 c2)) wy
           generalize act.eval = ρ at e1 ⊢
           unfold execOp
           simp [go_sem, e1, e2]), ?_⟩
          refine ⟨gCall rfl (.inl ⟨rfl, rfl⟩) 69 #[.tmp 36, .tmp 39] _ (fun _ => #[.agg (List.toArray x.cells), .slice (some ⟨eb, eo, none⟩) 3 c2]) rfl call_iLive (fun Lb v act wy K => by
           have e1 : act.eval (.tmp 36) = .agg (List.toArray x.cells) := K.at_val 0 (by kernel_rfl) (by kernel_rfl) rfl
           have e2 : act.eval (.tmp 39) = .slice (some ⟨eb, eo, none⟩) 3 c2 := K.at_val 3 (by kernel_rfl) (by kernel_rfl) rfl
           simp only [List.map_toArray, List.map_cons, List.map_nil, e1, e2]) (fun v w hb hs => (HLV.out w hb).mono (fun e w' ⟨h1, h2⟩ => ⟨_, h1, h2, rfl⟩)), ?_⟩
          refine ⟨gVal rfl (.inl ⟨rfl, rfl⟩) rfl (fun Lb v act wy K => by
           have e1 : act.eval (.tmp 40) = .bool false := K.at_val 4 (by kernel_rfl) (by kernel_rfl) rfl
           show (execOp act.eval _).run Tryz.prog wy = .ok (.value (.bool true)) wy
           generalize act.eval = ρ at e1 ⊢
           unfold execOp
           simp [go_sem, e1]), ?_⟩
          refine ⟨gVal rfl (.inl ⟨rfl, rfl⟩) rfl (fun Lb v act wy K => by
           have e1 : act.eval (.tmp 41) = .bool true := K.at_val 5 (by kernel_rfl) (by kernel_rfl) rfl
           exact run_move _ rfl e1), ?_⟩
          refine ⟨gSkip rfl (.inr ⟨6, false, 42, rfl, (by kernel_rfl), (by kernel_rfl), rfl, rfl⟩) rfl rfl, ?_⟩
          refine ⟨gSkip rfl (.inr ⟨6, false, 42, rfl, (by kernel_rfl), (by kernel_rfl), rfl, rfl⟩) rfl rfl, ?_⟩
          refine ⟨gSkip rfl (.inr ⟨6, false, 42, rfl, (by kernel_rfl), (by kernel_rfl), rfl, rfl⟩) rfl rfl, ?_⟩
          refine ⟨gVal rfl (.inl ⟨rfl, rfl⟩) rfl (fun Lb v act wy K => by
           have e1 : act.eval (.tmp 42) = .bool true := K.at_val 6 (by kernel_rfl) (by kernel_rfl) rfl
           have ec : act.eval (.const (.bool true)) = .bool true := rfl
           show (execOp act.eval _).run Tryz.prog wy = .ok (.value (.bool true)) wy
           generalize act.eval = ρ at e1 ec ⊢
           unfold execOp
           simp [go_sem, e1, ec]), ?_⟩
          refine ⟨gVal rfl (.inl ⟨rfl, rfl⟩) rfl (fun Lb v act wy K => by
           have e1 : act.eval (.tmp 46) = .bool true := K.at_val 10 (by kernel_rfl) (by kernel_rfl) rfl
           exact run_move _ rfl e1), ?_⟩
          refine ⟨gSkip rfl (.inr ⟨11, false, 47, rfl, (by kernel_rfl), (by kernel_rfl), rfl, rfl⟩) rfl rfl, ?_⟩
          refine ⟨gSkip rfl (.inr ⟨11, false, 47, rfl, (by kernel_rfl), (by kernel_rfl), rfl, rfl⟩) rfl rfl, ?_⟩
          refine ⟨gVal rfl (.inl ⟨rfl, rfl⟩) rfl (fun Lb v act wy K => by
           have e1 : act.eval (.tmp 47) = .bool true := K.at_val 11 (by kernel_rfl) (by kernel_rfl) rfl
           have ec : act.eval (.const (.bool true)) = .bool true := rfl
           show (execOp act.eval _).run Tryz.prog wy = .ok (.value (.bool true)) wy
           generalize act.eval = ρ at e1 ec ⊢
           unfold execOp
           simp [go_sem, e1, ec]), ?_⟩
          refine ⟨gVal rfl (.inl ⟨rfl, rfl⟩) rfl (fun Lb v act wy K => by
           have e1 : act.eval (.tmp 50) = .bool true := K.at_val 14 (by kernel_rfl) (by kernel_rfl) rfl
           exact run_move _ rfl e1), ?_⟩
          refine ⟨gSkip rfl (.inr ⟨15, false, 51, rfl, (by kernel_rfl), (by kernel_rfl), rfl, rfl⟩) rfl rfl, ?_⟩
          refine ⟨gSkip rfl (.inr ⟨15, false, 51, rfl, (by kernel_rfl), (by kernel_rfl), rfl, rfl⟩) rfl rfl, ?_⟩
          refine ⟨gSkip rfl (.inr ⟨15, false, 51, rfl, (by kernel_rfl), (by kernel_rfl), rfl, rfl⟩) rfl rfl, ?_⟩
          refine ⟨gVal rfl (.inl ⟨rfl, rfl⟩) rfl (fun Lb v act wy K => by
           have e1 : act.eval (.tmp 51) = .bool true := K.at_val 15 (by kernel_rfl) (by kernel_rfl) rfl
           have ec : act.eval (.const (.bool true)) = .bool true := rfl
           show (execOp act.eval _).run Tryz.prog wy = .ok (.value (.bool true)) wy
           generalize act.eval = ρ at e1 ec ⊢
           unfold execOp
           simp [go_sem, e1, ec]), ?_⟩
          exact trivial
        have e19 : v 19 = .bool true := hG 19 (by show 19 < 20; decide)
        have HU := hid (HB7.out.trans (hb.mono HB7.out.size))
        have HU0 := hid (HB70.out.trans (hb.mono HB70.out.size))
        clear hG hb
        simp only [putsAll, Act.put, List.setIfInBounds_toArray, List.set_cons_zero, List.set_cons_succ, e19]
        clear e19
        go_wp2
        go_ret
        exact ⟨by rw [set_no3 k hlt (by unfold setAt; rw [← HX.out, HE.out]; rw [setAt_no HQ.out])]; rfl, HU.out⟩

      rw [hlv] at HLV
      have HLVq := hid hlv
      clear hlv
      cases hrd : x.H.rd
      · have HRD : Hid (w7.cell? ⟨wr.heap.size, 3, none⟩ = some (.bool false)) := by rw [← hrd]; exact HR7.out.c 3 rfl
        have HQD := hid hrd
        clear hrd
        refine region_grow (val := fun i => [.agg (List.toArray x.cells), .pointer (some ⟨w.heap.size, 0, none⟩), .pointer (some ⟨w.heap.size, 1, none⟩), .slice (some ⟨eb, eo, none⟩) 3 c2, .bool true, .bool false, .bool false, .pointer (some ⟨wr.heap.size, 3, none⟩), .bool false, .bool true, .bool true, .bool true, undef, undef, .bool true, .bool true, undef, undef, undef, .bool true].getD i undef) (sp := fun _ => none) false (by kernel_rfl) (by kernel_rfl) [some 36, some 37, some 38, some 39, some 40, some 41, some 42, some 43, some 44, some 45, some 46, some 47, some 48, some 49, some 50, some 51, some 52, some 53, some 54, some 55] (by kernel_rfl) (fun _ _ h => by cases h) ?_ (fun v w hb hG => ?_)
        · refine ⟨gVal rfl (.inl ⟨rfl, rfl⟩) rfl (fun Lb v act wy K => Rg.run_load_at 63 (.tmp 4) rfl _ _ ((K.off (x := .tmp 4) (by kernel_rfl)).trans rfl) _ (rangeAt_below (Rg.range_of_row HR7.out) K.bel) _ Tryz.underlying63 rfl (by rw [hx_len]; kernel_rfl)), ?_⟩
          refine ⟨gVal rfl (.inl ⟨rfl, rfl⟩) rfl (fun Lb v act wy K => by
           have e1 : act.eval (.tmp 1) = .pointer (some ⟨w.heap.size, 0, none⟩) := (K.off (x := .tmp 1) (by kernel_rfl)).trans rfl
           show (execOp act.eval _).run Tryz.prog wy = .ok (.value (.pointer (some ⟨w.heap.size, 0, none⟩))) wy
           generalize act.eval = ρ at e1 ⊢
           unfold execOp
           simp [go_sem, e1]), ?_⟩
          refine ⟨gVal rfl (.inl ⟨rfl, rfl⟩) rfl (fun Lb v act wy K => by
           have e1 : act.eval (.tmp 37) = .pointer (some ⟨w.heap.size, 0, none⟩) := K.at_val 1 (by kernel_rfl) (by kernel_rfl) rfl
           show (execOp act.eval _).run Tryz.prog wy = .ok (.value (.pointer (some ⟨w.heap.size, 1, none⟩))) wy
           generalize act.eval = ρ at e1 ⊢
           unfold execOp
           simp [go_sem, e1]), ?_⟩
          refine ⟨gVal rfl (.inl ⟨rfl, rfl⟩) rfl (fun Lb v act wy K => by
           have e1 : act.eval (.tmp 38) = .pointer (some ⟨w.heap.size, 1, none⟩) := K.at_val 2 (by kernel_rfl) (by kernel_rfl) rfl
           have e2 := Rg.cell_later (HC1.out) K.bel
           show (execOp act.eval _).run Tryz.prog wy = .ok (.value (.slice (some ⟨eb, eo, none⟩) 3 c2)) wy
           generalize act.eval = ρ at e1 ⊢
           unfold execOp
           simp [go_sem, e1, e2]), ?_⟩
          refine ⟨gCall rfl (.inl ⟨rfl, rfl⟩) 69 #[.tmp 36, .tmp 39] _ (fun _ => #[.agg (List.toArray x.cells), .slice (some ⟨eb, eo, none⟩) 3 c2]) rfl call_iLive (fun Lb v act wy K => by
           have e1 : act.eval (.tmp 36) = .agg (List.toArray x.cells) := K.at_val 0 (by kernel_rfl) (by kernel_rfl) rfl
           have e2 : act.eval (.tmp 39) = .slice (some ⟨eb, eo, none⟩) 3 c2 := K.at_val 3 (by kernel_rfl) (by kernel_rfl) rfl
           simp only [List.map_toArray, List.map_cons, List.map_nil, e1, e2]) (fun v w hb hs => (HLV.out w hb).mono (fun e w' ⟨h1, h2⟩ => ⟨_, h1, h2, rfl⟩)), ?_⟩
          refine ⟨gVal rfl (.inl ⟨rfl, rfl⟩) rfl (fun Lb v act wy K => by
           have e1 : act.eval (.tmp 40) = .bool true := K.at_val 4 (by kernel_rfl) (by kernel_rfl) rfl
           show (execOp act.eval _).run Tryz.prog wy = .ok (.value (.bool false)) wy
           generalize act.eval = ρ at e1 ⊢
           unfold execOp
           simp [go_sem, e1]), ?_⟩
          refine ⟨gVal rfl (.inl ⟨rfl, rfl⟩) rfl (fun Lb v act wy K => by
           have e1 : act.eval (.tmp 41) = .bool false := K.at_val 5 (by kernel_rfl) (by kernel_rfl) rfl
           exact run_move _ rfl e1), ?_⟩
          refine ⟨gVal rfl (.inr ⟨6, false, 42, rfl, (by kernel_rfl), (by kernel_rfl), rfl, rfl⟩) rfl (fun Lb v act wy K => by
           have e1 : act.eval (.tmp 4) = .pointer (some ⟨wr.heap.size, 0, none⟩) := (K.off (x := .tmp 4) (by kernel_rfl)).trans rfl
           show (execOp act.eval _).run Tryz.prog wy = .ok (.value (.pointer (some ⟨wr.heap.size, 3, none⟩))) wy
           generalize act.eval = ρ at e1 ⊢
           unfold execOp
           simp [go_sem, e1]), ?_⟩
          refine ⟨gVal rfl (.inr ⟨6, false, 42, rfl, (by kernel_rfl), (by kernel_rfl), rfl, rfl⟩) rfl (fun Lb v act wy K => by
           have e1 : act.eval (.tmp 43) = .pointer (some ⟨wr.heap.size, 3, none⟩) := K.at_val 7 (by kernel_rfl) (by kernel_rfl) rfl
           have e2 := Rg.cell_later (HRD.out) K.bel
           show (execOp act.eval _).run Tryz.prog wy = .ok (.value (.bool false)) wy
           generalize act.eval = ρ at e1 ⊢
           unfold execOp
           simp [go_sem, e1, e2]), ?_⟩
          refine ⟨gVal rfl (.inr ⟨6, false, 42, rfl, (by kernel_rfl), (by kernel_rfl), rfl, rfl⟩) rfl (fun Lb v act wy K => by
           have e1 : act.eval (.tmp 44) = .bool false := K.at_val 8 (by kernel_rfl) (by kernel_rfl) rfl
           show (execOp act.eval _).run Tryz.prog wy = .ok (.value (.bool true)) wy
           generalize act.eval = ρ at e1 ⊢
           unfold execOp
           simp [go_sem, e1]), ?_⟩
          refine ⟨gVal rfl (.inl ⟨rfl, rfl⟩) rfl (fun Lb v act wy K => by
           have e1 : act.eval (.tmp 42) = .bool false := K.at_val 6 (by kernel_rfl) (by kernel_rfl) rfl
           have e2 : act.eval (.tmp 45) = .bool true := K.at_val 9 (by kernel_rfl) (by kernel_rfl) rfl
           show (execOp act.eval _).run Tryz.prog wy = .ok (.value (.bool true)) wy
           generalize act.eval = ρ at e1 e2 ⊢
           unfold execOp
           simp [go_sem, e1, e2]), ?_⟩
          refine ⟨gVal rfl (.inl ⟨rfl, rfl⟩) rfl (fun Lb v act wy K => by
           have e1 : act.eval (.tmp 46) = .bool true := K.at_val 10 (by kernel_rfl) (by kernel_rfl) rfl
           exact run_move _ rfl e1), ?_⟩
          refine ⟨gSkip rfl (.inr ⟨11, false, 47, rfl, (by kernel_rfl), (by kernel_rfl), rfl, rfl⟩) rfl rfl, ?_⟩
          refine ⟨gSkip rfl (.inr ⟨11, false, 47, rfl, (by kernel_rfl), (by kernel_rfl), rfl, rfl⟩) rfl rfl, ?_⟩
          refine ⟨gVal rfl (.inl ⟨rfl, rfl⟩) rfl (fun Lb v act wy K => by
           have e1 : act.eval (.tmp 47) = .bool true := K.at_val 11 (by kernel_rfl) (by kernel_rfl) rfl
           have ec : act.eval (.const (.bool true)) = .bool true := rfl
           show (execOp act.eval _).run Tryz.prog wy = .ok (.value (.bool true)) wy
           generalize act.eval = ρ at e1 ec ⊢
           unfold execOp
           simp [go_sem, e1, ec]), ?_⟩
          refine ⟨gVal rfl (.inl ⟨rfl, rfl⟩) rfl (fun Lb v act wy K => by
           have e1 : act.eval (.tmp 50) = .bool true := K.at_val 14 (by kernel_rfl) (by kernel_rfl) rfl
           exact run_move _ rfl e1), ?_⟩
          refine ⟨gSkip rfl (.inr ⟨15, false, 51, rfl, (by kernel_rfl), (by kernel_rfl), rfl, rfl⟩) rfl rfl, ?_⟩
          refine ⟨gSkip rfl (.inr ⟨15, false, 51, rfl, (by kernel_rfl), (by kernel_rfl), rfl, rfl⟩) rfl rfl, ?_⟩
          refine ⟨gSkip rfl (.inr ⟨15, false, 51, rfl, (by kernel_rfl), (by kernel_rfl), rfl, rfl⟩) rfl rfl, ?_⟩
          refine ⟨gVal rfl (.inl ⟨rfl, rfl⟩) rfl (fun Lb v act wy K => by
           have e1 : act.eval (.tmp 51) = .bool true := K.at_val 15 (by kernel_rfl) (by kernel_rfl) rfl
           have ec : act.eval (.const (.bool true)) = .bool true := rfl
           show (execOp act.eval _).run Tryz.prog wy = .ok (.value (.bool true)) wy
           generalize act.eval = ρ at e1 ec ⊢
           unfold execOp
           simp [go_sem, e1, ec]), ?_⟩
          exact trivial
        have e19 : v 19 = .bool true := hG 19 (by show 19 < 20; decide)
        have HU := hid (HB7.out.trans (hb.mono HB7.out.size))
        have HU0 := hid (HB70.out.trans (hb.mono HB70.out.size))
        clear hG hb
        simp only [putsAll, Act.put, List.setIfInBounds_toArray, List.set_cons_zero, List.set_cons_succ, e19]
        clear e19
        go_wp2
        go_ret
        exact ⟨by rw [set_no3 k hlt (by unfold setAt; rw [← HX.out, HE.out]; rw [HQD.out]; simp)]; rfl, HU.out⟩

      have HRD : Hid (w7.cell? ⟨wr.heap.size, 3, none⟩ = some (.bool true)) := by rw [← hrd]; exact HR7.out.c 3 rfl
      have HQD := hid hrd
      clear hrd
      cases hbz : x.H.bz
      rotate_left
      · have HBZ : Hid (w7.cell? ⟨wr.heap.size, 4, none⟩ = some (.bool true)) := by rw [← hbz]; exact HR7.out.c 4 rfl
        have HQZ := hid hbz
        clear hbz
        refine region_grow (val := fun i => [.agg (List.toArray x.cells), .pointer (some ⟨w.heap.size, 0, none⟩), .pointer (some ⟨w.heap.size, 1, none⟩), .slice (some ⟨eb, eo, none⟩) 3 c2, .bool true, .bool false, .bool false, .pointer (some ⟨wr.heap.size, 3, none⟩), .bool true, .bool false, .bool false, .bool false, .pointer (some ⟨wr.heap.size, 4, none⟩), .bool true, .bool true, .bool true, undef, undef, undef, .bool true].getD i undef) (sp := fun _ => none) false (by kernel_rfl) (by kernel_rfl) [some 36, some 37, some 38, some 39, some 40, some 41, some 42, some 43, some 44, some 45, some 46, some 47, some 48, some 49, some 50, some 51, some 52, some 53, some 54, some 55] (by kernel_rfl) (fun _ _ h => by cases h) ?_ (fun v w hb hG => ?_)
        · refine ⟨gVal rfl (.inl ⟨rfl, rfl⟩) rfl (fun Lb v act wy K => Rg.run_load_at 63 (.tmp 4) rfl _ _ ((K.off (x := .tmp 4) (by kernel_rfl)).trans rfl) _ (rangeAt_below (Rg.range_of_row HR7.out) K.bel) _ Tryz.underlying63 rfl (by rw [hx_len]; kernel_rfl)), ?_⟩
          refine ⟨gVal rfl (.inl ⟨rfl, rfl⟩) rfl (fun Lb v act wy K => by
           have e1 : act.eval (.tmp 1) = .pointer (some ⟨w.heap.size, 0, none⟩) := (K.off (x := .tmp 1) (by kernel_rfl)).trans rfl
           show (execOp act.eval _).run Tryz.prog wy = .ok (.value (.pointer (some ⟨w.heap.size, 0, none⟩))) wy
           generalize act.eval = ρ at e1 ⊢
           unfold execOp
           simp [go_sem, e1]), ?_⟩
          refine ⟨gVal rfl (.inl ⟨rfl, rfl⟩) rfl (fun Lb v act wy K => by
           have e1 : act.eval (.tmp 37) = .pointer (some ⟨w.heap.size, 0, none⟩) := K.at_val 1 (by kernel_rfl) (by kernel_rfl) rfl
           show (execOp act.eval _).run Tryz.prog wy = .ok (.value (.pointer (some ⟨w.heap.size, 1, none⟩))) wy
           generalize act.eval = ρ at e1 ⊢
           unfold execOp
           simp [go_sem, e1]), ?_⟩
          refine ⟨gVal rfl (.inl ⟨rfl, rfl⟩) rfl (fun Lb v act wy K => by
           have e1 : act.eval (.tmp 38) = .pointer (some ⟨w.heap.size, 1, none⟩) := K.at_val 2 (by kernel_rfl) (by kernel_rfl) rfl
           have e2 := Rg.cell_later (HC1.out) K.bel
           show (execOp act.eval _).run Tryz.prog wy = .ok (.value (.slice (some ⟨eb, eo, none⟩) 3 c2)) wy
           generalize act.eval = ρ at e1 ⊢
           unfold execOp
           simp [go_sem, e1, e2]), ?_⟩
          refine ⟨gCall rfl (.inl ⟨rfl, rfl⟩) 69 #[.tmp 36, .tmp 39] _ (fun _ => #[.agg (List.toArray x.cells), .slice (some ⟨eb, eo, none⟩) 3 c2]) rfl call_iLive (fun Lb v act wy K => by
           have e1 : act.eval (.tmp 36) = .agg (List.toArray x.cells) := K.at_val 0 (by kernel_rfl) (by kernel_rfl) rfl
           have e2 : act.eval (.tmp 39) = .slice (some ⟨eb, eo, none⟩) 3 c2 := K.at_val 3 (by kernel_rfl) (by kernel_rfl) rfl
           simp only [List.map_toArray, List.map_cons, List.map_nil, e1, e2]) (fun v w hb hs => (HLV.out w hb).mono (fun e w' ⟨h1, h2⟩ => ⟨_, h1, h2, rfl⟩)), ?_⟩
          refine ⟨gVal rfl (.inl ⟨rfl, rfl⟩) rfl (fun Lb v act wy K => by
           have e1 : act.eval (.tmp 40) = .bool true := K.at_val 4 (by kernel_rfl) (by kernel_rfl) rfl
           show (execOp act.eval _).run Tryz.prog wy = .ok (.value (.bool false)) wy
           generalize act.eval = ρ at e1 ⊢
           unfold execOp
           simp [go_sem, e1]), ?_⟩
          refine ⟨gVal rfl (.inl ⟨rfl, rfl⟩) rfl (fun Lb v act wy K => by
           have e1 : act.eval (.tmp 41) = .bool false := K.at_val 5 (by kernel_rfl) (by kernel_rfl) rfl
           exact run_move _ rfl e1), ?_⟩
          refine ⟨gVal rfl (.inr ⟨6, false, 42, rfl, (by kernel_rfl), (by kernel_rfl), rfl, rfl⟩) rfl (fun Lb v act wy K => by
           have e1 : act.eval (.tmp 4) = .pointer (some ⟨wr.heap.size, 0, none⟩) := (K.off (x := .tmp 4) (by kernel_rfl)).trans rfl
           show (execOp act.eval _).run Tryz.prog wy = .ok (.value (.pointer (some ⟨wr.heap.size, 3, none⟩))) wy
           generalize act.eval = ρ at e1 ⊢
           unfold execOp
           simp [go_sem, e1]), ?_⟩
          refine ⟨gVal rfl (.inr ⟨6, false, 42, rfl, (by kernel_rfl), (by kernel_rfl), rfl, rfl⟩) rfl (fun Lb v act wy K => by
           have e1 : act.eval (.tmp 43) = .pointer (some ⟨wr.heap.size, 3, none⟩) := K.at_val 7 (by kernel_rfl) (by kernel_rfl) rfl
           have e2 := Rg.cell_later (HRD.out) K.bel
           show (execOp act.eval _).run Tryz.prog wy = .ok (.value (.bool true)) wy
           generalize act.eval = ρ at e1 ⊢
           unfold execOp
           simp [go_sem, e1, e2]), ?_⟩
          refine ⟨gVal rfl (.inr ⟨6, false, 42, rfl, (by kernel_rfl), (by kernel_rfl), rfl, rfl⟩) rfl (fun Lb v act wy K => by
           have e1 : act.eval (.tmp 44) = .bool true := K.at_val 8 (by kernel_rfl) (by kernel_rfl) rfl
           show (execOp act.eval _).run Tryz.prog wy = .ok (.value (.bool false)) wy
           generalize act.eval = ρ at e1 ⊢
           unfold execOp
           simp [go_sem, e1]), ?_⟩
          refine ⟨gVal rfl (.inl ⟨rfl, rfl⟩) rfl (fun Lb v act wy K => by
           have e1 : act.eval (.tmp 42) = .bool false := K.at_val 6 (by kernel_rfl) (by kernel_rfl) rfl
           have e2 : act.eval (.tmp 45) = .bool false := K.at_val 9 (by kernel_rfl) (by kernel_rfl) rfl
           show (execOp act.eval _).run Tryz.prog wy = .ok (.value (.bool false)) wy
           generalize act.eval = ρ at e1 e2 ⊢
           unfold execOp
           simp [go_sem, e1, e2]), ?_⟩
          refine ⟨gVal rfl (.inl ⟨rfl, rfl⟩) rfl (fun Lb v act wy K => by
           have e1 : act.eval (.tmp 46) = .bool false := K.at_val 10 (by kernel_rfl) (by kernel_rfl) rfl
           exact run_move _ rfl e1), ?_⟩
          refine ⟨gVal rfl (.inr ⟨11, false, 47, rfl, (by kernel_rfl), (by kernel_rfl), rfl, rfl⟩) rfl (fun Lb v act wy K => by
           have e1 : act.eval (.tmp 4) = .pointer (some ⟨wr.heap.size, 0, none⟩) := (K.off (x := .tmp 4) (by kernel_rfl)).trans rfl
           show (execOp act.eval _).run Tryz.prog wy = .ok (.value (.pointer (some ⟨wr.heap.size, 4, none⟩))) wy
           generalize act.eval = ρ at e1 ⊢
           unfold execOp
           simp [go_sem, e1]), ?_⟩
          refine ⟨gVal rfl (.inr ⟨11, false, 47, rfl, (by kernel_rfl), (by kernel_rfl), rfl, rfl⟩) rfl (fun Lb v act wy K => by
           have e1 : act.eval (.tmp 48) = .pointer (some ⟨wr.heap.size, 4, none⟩) := K.at_val 12 (by kernel_rfl) (by kernel_rfl) rfl
           have e2 := Rg.cell_later (HBZ.out) K.bel
           show (execOp act.eval _).run Tryz.prog wy = .ok (.value (.bool true)) wy
           generalize act.eval = ρ at e1 ⊢
           unfold execOp
           simp [go_sem, e1, e2]), ?_⟩
          refine ⟨gVal rfl (.inl ⟨rfl, rfl⟩) rfl (fun Lb v act wy K => by
           have e1 : act.eval (.tmp 47) = .bool false := K.at_val 11 (by kernel_rfl) (by kernel_rfl) rfl
           have e2 : act.eval (.tmp 49) = .bool true := K.at_val 13 (by kernel_rfl) (by kernel_rfl) rfl
           show (execOp act.eval _).run Tryz.prog wy = .ok (.value (.bool true)) wy
           generalize act.eval = ρ at e1 e2 ⊢
           unfold execOp
           simp [go_sem, e1, e2]), ?_⟩
          refine ⟨gVal rfl (.inl ⟨rfl, rfl⟩) rfl (fun Lb v act wy K => by
           have e1 : act.eval (.tmp 50) = .bool true := K.at_val 14 (by kernel_rfl) (by kernel_rfl) rfl
           exact run_move _ rfl e1), ?_⟩
          refine ⟨gSkip rfl (.inr ⟨15, false, 51, rfl, (by kernel_rfl), (by kernel_rfl), rfl, rfl⟩) rfl rfl, ?_⟩
          refine ⟨gSkip rfl (.inr ⟨15, false, 51, rfl, (by kernel_rfl), (by kernel_rfl), rfl, rfl⟩) rfl rfl, ?_⟩
          refine ⟨gSkip rfl (.inr ⟨15, false, 51, rfl, (by kernel_rfl), (by kernel_rfl), rfl, rfl⟩) rfl rfl, ?_⟩
          refine ⟨gVal rfl (.inl ⟨rfl, rfl⟩) rfl (fun Lb v act wy K => by
           have e1 : act.eval (.tmp 51) = .bool true := K.at_val 15 (by kernel_rfl) (by kernel_rfl) rfl
           have ec : act.eval (.const (.bool true)) = .bool true := rfl
           show (execOp act.eval _).run Tryz.prog wy = .ok (.value (.bool true)) wy
           generalize act.eval = ρ at e1 ec ⊢
           unfold execOp
           simp [go_sem, e1, ec]), ?_⟩
          exact trivial
        have e19 : v 19 = .bool true := hG 19 (by show 19 < 20; decide)
        have HU := hid (HB7.out.trans (hb.mono HB7.out.size))
        have HU0 := hid (HB70.out.trans (hb.mono HB70.out.size))
        clear hG hb
        simp only [putsAll, Act.put, List.setIfInBounds_toArray, List.set_cons_zero, List.set_cons_succ, e19]
        clear e19
        go_wp2
        go_ret
        exact ⟨by rw [set_no3 k hlt (by unfold setAt; rw [← HX.out, HE.out]; rw [HQZ.out]; simp)]; rfl, HU.out⟩

      have HBZ : Hid (w7.cell? ⟨wr.heap.size, 4, none⟩ = some (.bool false)) := by rw [← hbz]; exact HR7.out.c 4 rfl
      have HQZ := hid hbz
      clear hbz
      refine region_grow (val := fun i => [.agg (List.toArray x.cells), .pointer (some ⟨w.heap.size, 0, none⟩), .pointer (some ⟨w.heap.size, 1, none⟩), .slice (some ⟨eb, eo, none⟩) 3 c2, .bool true, .bool false, .bool false, .pointer (some ⟨wr.heap.size, 3, none⟩), .bool true, .bool false, .bool false, .bool false, .pointer (some ⟨wr.heap.size, 4, none⟩), .bool false, .bool false, .bool false, .pointer (some ⟨g, 1, none⟩), .bool dn, .bool (!dn), .bool (!dn)].getD i undef) (sp := fun _ => none) false (by kernel_rfl) (by kernel_rfl) [some 36, some 37, some 38, some 39, some 40, some 41, some 42, some 43, some 44, some 45, some 46, some 47, some 48, some 49, some 50, some 51, some 52, some 53, some 54, some 55] (by kernel_rfl) (fun _ _ h => by cases h) ?_ (fun v w hb hG => ?_)
      · refine ⟨gVal rfl (.inl ⟨rfl, rfl⟩) rfl (fun Lb v act wy K => Rg.run_load_at 63 (.tmp 4) rfl _ _ ((K.off (x := .tmp 4) (by kernel_rfl)).trans rfl) _ (rangeAt_below (Rg.range_of_row HR7.out) K.bel) _ Tryz.underlying63 rfl (by rw [hx_len]; kernel_rfl)), ?_⟩
        refine ⟨gVal rfl (.inl ⟨rfl, rfl⟩) rfl (fun Lb v act wy K => by
         have e1 : act.eval (.tmp 1) = .pointer (some ⟨w.heap.size, 0, none⟩) := (K.off (x := .tmp 1) (by kernel_rfl)).trans rfl
         show (execOp act.eval _).run Tryz.prog wy = .ok (.value (.pointer (some ⟨w.heap.size, 0, none⟩))) wy
         generalize act.eval = ρ at e1 ⊢
         unfold execOp
         simp [go_sem, e1]), ?_⟩
        refine ⟨gVal rfl (.inl ⟨rfl, rfl⟩) rfl (fun Lb v act wy K => by
         have e1 : act.eval (.tmp 37) = .pointer (some ⟨w.heap.size, 0, none⟩) := K.at_val 1 (by kernel_rfl) (by kernel_rfl) rfl
         show (execOp act.eval _).run Tryz.prog wy = .ok (.value (.pointer (some ⟨w.heap.size, 1, none⟩))) wy
         generalize act.eval = ρ at e1 ⊢
         unfold execOp
         simp [go_sem, e1]), ?_⟩
        refine ⟨gVal rfl (.inl ⟨rfl, rfl⟩) rfl (fun Lb v act wy K => by
         have e1 : act.eval (.tmp 38) = .pointer (some ⟨w.heap.size, 1, none⟩) := K.at_val 2 (by kernel_rfl) (by kernel_rfl) rfl
         have e2 := Rg.cell_later (HC1.out) K.bel
         show (execOp act.eval _).run Tryz.prog wy = .ok (.value (.slice (some ⟨eb, eo, none⟩) 3 c2)) wy
         generalize act.eval = ρ at e1 ⊢
         unfold execOp
         simp [go_sem, e1, e2]), ?_⟩
        refine ⟨gCall rfl (.inl ⟨rfl, rfl⟩) 69 #[.tmp 36, .tmp 39] _ (fun _ => #[.agg (List.toArray x.cells), .slice (some ⟨eb, eo, none⟩) 3 c2]) rfl call_iLive (fun Lb v act wy K => by
         have e1 : act.eval (.tmp 36) = .agg (List.toArray x.cells) := K.at_val 0 (by kernel_rfl) (by kernel_rfl) rfl
         have e2 : act.eval (.tmp 39) = .slice (some ⟨eb, eo, none⟩) 3 c2 := K.at_val 3 (by kernel_rfl) (by kernel_rfl) rfl
         simp only [List.map_toArray, List.map_cons, List.map_nil, e1, e2]) (fun v w hb hs => (HLV.out w hb).mono (fun e w' ⟨h1, h2⟩ => ⟨_, h1, h2, rfl⟩)), ?_⟩
        refine ⟨gVal rfl (.inl ⟨rfl, rfl⟩) rfl (fun Lb v act wy K => by
         have e1 : act.eval (.tmp 40) = .bool true := K.at_val 4 (by kernel_rfl) (by kernel_rfl) rfl
         show (execOp act.eval _).run Tryz.prog wy = .ok (.value (.bool false)) wy
         generalize act.eval = ρ at e1 ⊢
         unfold execOp
         simp [go_sem, e1]), ?_⟩
        refine ⟨gVal rfl (.inl ⟨rfl, rfl⟩) rfl (fun Lb v act wy K => by
         have e1 : act.eval (.tmp 41) = .bool false := K.at_val 5 (by kernel_rfl) (by kernel_rfl) rfl
         exact run_move _ rfl e1), ?_⟩
        refine ⟨gVal rfl (.inr ⟨6, false, 42, rfl, (by kernel_rfl), (by kernel_rfl), rfl, rfl⟩) rfl (fun Lb v act wy K => by
         have e1 : act.eval (.tmp 4) = .pointer (some ⟨wr.heap.size, 0, none⟩) := (K.off (x := .tmp 4) (by kernel_rfl)).trans rfl
         show (execOp act.eval _).run Tryz.prog wy = .ok (.value (.pointer (some ⟨wr.heap.size, 3, none⟩))) wy
         generalize act.eval = ρ at e1 ⊢
         unfold execOp
         simp [go_sem, e1]), ?_⟩
        refine ⟨gVal rfl (.inr ⟨6, false, 42, rfl, (by kernel_rfl), (by kernel_rfl), rfl, rfl⟩) rfl (fun Lb v act wy K => by
         have e1 : act.eval (.tmp 43) = .pointer (some ⟨wr.heap.size, 3, none⟩) := K.at_val 7 (by kernel_rfl) (by kernel_rfl) rfl
         have e2 := Rg.cell_later (HRD.out) K.bel
         show (execOp act.eval _).run Tryz.prog wy = .ok (.value (.bool true)) wy
         generalize act.eval = ρ at e1 ⊢
         unfold execOp
         simp [go_sem, e1, e2]), ?_⟩
        refine ⟨gVal rfl (.inr ⟨6, false, 42, rfl, (by kernel_rfl), (by kernel_rfl), rfl, rfl⟩) rfl (fun Lb v act wy K => by
         have e1 : act.eval (.tmp 44) = .bool true := K.at_val 8 (by kernel_rfl) (by kernel_rfl) rfl
         show (execOp act.eval _).run Tryz.prog wy = .ok (.value (.bool false)) wy
         generalize act.eval = ρ at e1 ⊢
         unfold execOp
         simp [go_sem, e1]), ?_⟩
        refine ⟨gVal rfl (.inl ⟨rfl, rfl⟩) rfl (fun Lb v act wy K => by
         have e1 : act.eval (.tmp 42) = .bool false := K.at_val 6 (by kernel_rfl) (by kernel_rfl) rfl
         have e2 : act.eval (.tmp 45) = .bool false := K.at_val 9 (by kernel_rfl) (by kernel_rfl) rfl
         show (execOp act.eval _).run Tryz.prog wy = .ok (.value (.bool false)) wy
         generalize act.eval = ρ at e1 e2 ⊢
         unfold execOp
         simp [go_sem, e1, e2]), ?_⟩
        refine ⟨gVal rfl (.inl ⟨rfl, rfl⟩) rfl (fun Lb v act wy K => by
         have e1 : act.eval (.tmp 46) = .bool false := K.at_val 10 (by kernel_rfl) (by kernel_rfl) rfl
         exact run_move _ rfl e1), ?_⟩
        refine ⟨gVal rfl (.inr ⟨11, false, 47, rfl, (by kernel_rfl), (by kernel_rfl), rfl, rfl⟩) rfl (fun Lb v act wy K => by
         have e1 : act.eval (.tmp 4) = .pointer (some ⟨wr.heap.size, 0, none⟩) := (K.off (x := .tmp 4) (by kernel_rfl)).trans rfl
         show (execOp act.eval _).run Tryz.prog wy = .ok (.value (.pointer (some ⟨wr.heap.size, 4, none⟩))) wy
         generalize act.eval = ρ at e1 ⊢
         unfold execOp
         simp [go_sem, e1]), ?_⟩
        refine ⟨gVal rfl (.inr ⟨11, false, 47, rfl, (by kernel_rfl), (by kernel_rfl), rfl, rfl⟩) rfl (fun Lb v act wy K => by
         have e1 : act.eval (.tmp 48) = .pointer (some ⟨wr.heap.size, 4, none⟩) := K.at_val 12 (by kernel_rfl) (by kernel_rfl) rfl
         have e2 := Rg.cell_later (HBZ.out) K.bel
         show (execOp act.eval _).run Tryz.prog wy = .ok (.value (.bool false)) wy
         generalize act.eval = ρ at e1 ⊢
         unfold execOp
         simp [go_sem, e1, e2]), ?_⟩
        refine ⟨gVal rfl (.inl ⟨rfl, rfl⟩) rfl (fun Lb v act wy K => by
         have e1 : act.eval (.tmp 47) = .bool false := K.at_val 11 (by kernel_rfl) (by kernel_rfl) rfl
         have e2 : act.eval (.tmp 49) = .bool false := K.at_val 13 (by kernel_rfl) (by kernel_rfl) rfl
         show (execOp act.eval _).run Tryz.prog wy = .ok (.value (.bool false)) wy
         generalize act.eval = ρ at e1 e2 ⊢
         unfold execOp
         simp [go_sem, e1, e2]), ?_⟩
        refine ⟨gVal rfl (.inl ⟨rfl, rfl⟩) rfl (fun Lb v act wy K => by
         have e1 : act.eval (.tmp 50) = .bool false := K.at_val 14 (by kernel_rfl) (by kernel_rfl) rfl
         exact run_move _ rfl e1), ?_⟩
        refine ⟨gVal rfl (.inr ⟨15, false, 51, rfl, (by kernel_rfl), (by kernel_rfl), rfl, rfl⟩) rfl (fun Lb v act wy K => by
         have e1 : act.eval (.tmp 5) = .pointer (some ⟨g, 0, none⟩) := (K.off (x := .tmp 5) (by kernel_rfl)).trans rfl
         show (execOp act.eval _).run Tryz.prog wy = .ok (.value (.pointer (some ⟨g, 1, none⟩))) wy
         generalize act.eval = ρ at e1 ⊢
         unfold execOp
         simp [go_sem, e1]), ?_⟩
        refine ⟨gVal rfl (.inr ⟨15, false, 51, rfl, (by kernel_rfl), (by kernel_rfl), rfl, rfl⟩) rfl (fun Lb v act wy K => by
         have e1 : act.eval (.tmp 52) = .pointer (some ⟨g, 1, none⟩) := K.at_val 16 (by kernel_rfl) (by kernel_rfl) rfl
         have e2 := Rg.cell_later (HDN.out) K.bel
         show (execOp act.eval _).run Tryz.prog wy = .ok (.value (.bool dn)) wy
         generalize act.eval = ρ at e1 ⊢
         unfold execOp
         simp [go_sem, e1, e2]), ?_⟩
        refine ⟨gVal rfl (.inr ⟨15, false, 51, rfl, (by kernel_rfl), (by kernel_rfl), rfl, rfl⟩) rfl (fun Lb v act wy K => by
         have e1 : act.eval (.tmp 53) = .bool dn := K.at_val 17 (by kernel_rfl) (by kernel_rfl) rfl
         show (execOp act.eval _).run Tryz.prog wy = .ok (.value (.bool (!dn))) wy
         generalize act.eval = ρ at e1 ⊢
         unfold execOp
         simp [go_sem, e1]), ?_⟩
        refine ⟨gVal rfl (.inl ⟨rfl, rfl⟩) rfl (fun Lb v act wy K => by
         have e1 : act.eval (.tmp 51) = .bool false := K.at_val 15 (by kernel_rfl) (by kernel_rfl) rfl
         have e2 : act.eval (.tmp 54) = .bool (!dn) := K.at_val 18 (by kernel_rfl) (by kernel_rfl) rfl
         show (execOp act.eval _).run Tryz.prog wy = .ok (.value (.bool (!dn))) wy
         generalize act.eval = ρ at e1 e2 ⊢
         unfold execOp
         simp [go_sem, e1, e2]), ?_⟩
        exact trivial
      have e19 : v 19 = .bool (!dn) := hG 19 (by show 19 < 20; decide)
      have HU := hid (HB7.out.trans (hb.mono HB7.out.size))
      have HU0 := hid (HB70.out.trans (hb.mono HB70.out.size))
      clear hG hb
      simp only [putsAll, Act.put, List.setIfInBounds_toArray, List.set_cons_zero, List.set_cons_succ, e19]
      clear e19
      cases hdn : dn
      · have HQ := hid hdn
        go_wp2
        go_ret
        exact ⟨by rw [set_no3 k hlt (by unfold setAt; rw [HDn.out, HQ.out]; simp)]; rfl, HU.out⟩
      have HQ := hid hdn
      go_wp2
      refine ⟨⟨k + 1, by omega, by go_num, ?_, HU0.out⟩, by simp [intOf]; omega⟩
      intro j hj
      by_cases hjk : j = k
      · subst hjk
        have hl := HLVq.out
        simp only [Bool.and_eq_true] at hl
        unfold setAt
        rw [← HX.out, HE.out, hl.1, hl.2, HQD.out, HQZ.out, HDn.out, HQ.out]
        rfl
      · exact HI.out j (by omega)

    · obtain rfl : k = 3 := by omega
      go_wp2
      go_ret
      exact ⟨by rw [set_yes HQ1.out HQ2.out HI.out]; rfl, HB1.out.trans (HB0.out.mono HB1.out.size)⟩

end Go.Proofs.YtaopkchkhdbfnaaGreatDoor.Pl

namespace Go.Proofs.YtaopkchkhdbfnaaGreatDoor.Pl
open Go.RowKit Go.Proofs.YtaopkchkhdbfnaaGreatDoor.Mem Go.Proofs.YtaopkchkhdbfnaaGreatDoor.Sec Go.Proofs.YtaopkchkhdbfnaaGreatDoor.Rd Go.Proofs.YtaopkchkhdbfnaaGreatDoor.Pk
set_option linter.unusedVariables false

theorem call_toWorldSettled (vs : Array Value) (w : World) : (callFunc 10 vs).run Tryz.prog w = .ok (.enter 10 vs) w := by simp [go_sem]
theorem call_eqWorldSettled (vs : Array Value) (w : World) : (callFunc 12 vs).run Tryz.prog w = .ok (.enter 12 vs) w := by simp [go_sem]

set_option maxRecDepth 100000 in
set_option maxHeartbeats 8000000 in
theorem lawSettled (w : World) (v : Value) (X : Wd) (h : WdR w v X) (hh : X.Held) (hL : Laid w) :
    Calls Tryz.prog 5 #[v] w fun e w' => e = .returned (.bool true) ∧ Below w.heap.size w w' := by
  obtain ⟨R, hR, hTx⟩ := reads_ex2
  have HR := hid hR
  have HTx := hid hTx
  have HW := hid h
  have HH := hid hh
  have HL := hid hL
  obtain ⟨a1, c1, a2, c2, a3, c3, a4, c4, a5, c5, a6, c6, a7, c7, L, rfl, _⟩ := h
  clear hR hTx hh hL
  obtain ⟨wa, hwa, ez, A0, B0⟩ := one_new w [.slice a1 X.D.sec.length c1, .slice a2 X.D.ep.length c2, .slice a3 X.D.pe.length c3, .slice a4 L.length c4, .slice a5 X.log.length c5, .slice a6 X.seen.length c6, .slice a7 X.rep.length c7] 31
  have HA := hid A0
  have HB := hid B0
  have k0 := A0.c 0 rfl
  have k1 := A0.c 1 rfl
  have k2 := A0.c 2 rfl
  have k3 := A0.c 3 rfl
  have k4 := A0.c 4 rfl
  have k5 := A0.c 5 rfl
  have k6 := A0.c 6 rfl
  clear A0 B0 ez
  go_enter Tryz.func5, Tryz.ntmps5
  go_wp2_with fail
  try simp only [hwa]
  clear hwa
  refine (szWorld wa _ X 1048576 (HW.out.below HB.out) HH.out (by decide) (by decide)).mono ?_
  rintro e w1 ⟨r, rfl, b1, hf⟩
  have HA1 := hid (HA.out.below b1 HA.out.lt)
  have HB1 := hid (HB.out.trans (b1.mono HB.out.size))
  have HF := hid hf
  clear k0 k1 k2 k3 k4 k5 k6 b1 HA HB hf
  by_cases hr : r < 0
  · go_wp2
    go_ret
    exact ⟨rfl, HB1.out⟩
  have HS : Hid X.Small := by
    rcases HF.out with h | h
    · omega
    · exact h
  clear HF
  have k0 := HA1.out.c 0 rfl
  have k1 := HA1.out.c 1 rfl
  have k2 := HA1.out.c 2 rfl
  have k3 := HA1.out.c 3 rfl
  have k4 := HA1.out.c 4 rfl
  have k5 := HA1.out.c 5 rfl
  have k6 := HA1.out.c 6 rfl
  go_wp2_with fail
  refine (toWorld w1 _ X (HW.out.below HB1.out) HS.out).mono ?_
  rintro e w2 ⟨v2, rfl, W2, b2⟩
  have HA2 := hid (HA1.out.below b2 HA1.out.lt)
  have HB2 := hid (HB1.out.trans (b2.mono HB1.out.size))
  have HW2 := hid W2
  clear k0 k1 k2 k3 k4 k5 k6 b2 W2 HA1 HB1
  go_wp2_with fail
  refine (sSettled R HR.out w2 v2 X HW2.out HS.out HH.out.d).mono ?_
  rintro e w3 ⟨rfl, b3⟩
  have HA3 := hid (HA2.out.below b3 HA2.out.lt)
  have HB3 := hid (HB2.out.trans (b3.mono HB2.out.size))
  generalize hq : X.settled R = q
  have HQ := hid hq
  clear b3 HA2 HB2 HW2 hq
  go_upto_region 6 with fail
  refine region_box rfl rfl rfl rfl rfl 31 _ rfl w.heap.size _ _ rfl HA3.out Tryz.underlying31 rfl (by kernel_rfl) 10 _ _ rfl call_toWorldSettled rfl [.slice none 0 0, .slice none 0 0, .slice none 0 0, .slice none 0 0, .slice none 0 0, .slice none 0 0, .slice none 0 0] 41 (fun ρ w => by unfold execOp; simp [go_sem]) 41 _ _ rfl (by kernel_rfl) (fun _ _ => rfl) (fun _ _ => rfl) (fun cs w' => WdR w' (.agg cs.toArray) X) ?_ ?_
  · refine (toWorld w3 _ X (HW.out.below HB3.out) HS.out).mono ?_
    rintro e w4 ⟨v4, rfl, W4, b4⟩
    have W4' := W4
    obtain ⟨z1, d1, z2, d2, z3, d3, z4, d4, z5, d5, z6, d6, z7, d7, M, rfl, _⟩ := W4
    exact ⟨[.slice z1 X.D.sec.length d1, .slice z2 X.D.ep.length d2, .slice z3 X.D.pe.length d3, .slice z4 M.length d4, .slice z5 X.log.length d5, .slice z6 X.seen.length d6, .slice z7 X.rep.length d7], rfl, rfl, rfl, W4', b4⟩
  rintro cs w4 wx W4 b4 X0 BX
  have HWx := hid ((WdR.below W4 BX))
  obtain ⟨z1, d1, z2, d2, z3, d3, z4, d4, z5, d5, z6, d6, z7, d7, M, ecs, _⟩ := W4
  obtain rfl : cs = [.slice z1 X.D.sec.length d1, .slice z2 X.D.ep.length d2, .slice z3 X.D.pe.length d3, .slice z4 M.length d4, .slice z5 X.log.length d5, .slice z6 X.seen.length d6, .slice z7 X.rep.length d7] := Rg.agg_inj ecs
  have HX := hid X0
  have HAx := hid ((HA3.out.below b4 HA3.out.lt).below BX (HA3.out.below b4 HA3.out.lt).lt)
  have HBx := hid ((HB3.out.trans (b4.mono HB3.out.size)).trans (BX.mono (HB3.out.trans (b4.mono HB3.out.size)).size))
  have y0 := X0.c 0 rfl
  have y1 := X0.c 1 rfl
  have y2 := X0.c 2 rfl
  have y3 := X0.c 3 rfl
  have y4 := X0.c 4 rfl
  have y5 := X0.c 5 rfl
  have y6 := X0.c 6 rfl
  clear b4 HA3 HB3 BX X0 ecs
  go_wp2_with fail
  refine (iSettled R HR.out HTx.out wx _ X HWx.out HS.out HH.out.d (HL.out.below HBx.out)).mono ?_
  rintro e w5 ⟨rfl, b5⟩
  rw [HQ.out]
  have HA5 := hid (HAx.out.below b5 HAx.out.lt)
  have HX5 := hid (HX.out.below b5 HX.out.lt)
  have HB5 := hid (HBx.out.trans (b5.mono HBx.out.size))
  have HW5 := hid (HWx.out.below b5)
  clear y0 y1 y2 y3 y4 y5 y6 b5 HAx HX HBx HWx
  go_upto_region 10 with fail
  refine region_eq (by kernel_rfl) rfl rfl rfl rfl rfl rfl rfl rfl rfl rfl rfl (by kernel_rfl) (by kernel_rfl) (by kernel_rfl) (by kernel_rfl) (by kernel_rfl) (by kernel_rfl) (by kernel_rfl) (by kernel_rfl) (by kernel_rfl) (fun _ _ _ _ h => h) (fun _ _ _ _ h => h)
    41 _ rfl w4.heap.size _ _ rfl HX5.out Tryz.underlying41 rfl (by kernel_rfl)
    31 _ rfl w.heap.size _ _ rfl HA5.out Tryz.underlying31 rfl (by kernel_rfl)
    10 _ _ rfl call_toWorldSettled rfl 12 _ _ _ rfl call_eqWorldSettled (fun _ => rfl) (fun _ => rfl) 4 _ rfl (fun _ => rfl)
    (fun V w' => WdR w' V X) ?_ ?_ ?_
  · intro w' hb
    refine (toWorld w' _ X (HW.out.below (HB5.out.trans (hb.mono HB5.out.size))) HS.out).mono ?_
    rintro e w6 ⟨v6, rfl, W6, b6⟩
    exact ⟨_, rfl, W6, b6⟩
  · rintro V w' hb W6
    exact eqWorld w' _ _ X (HW5.out.below hb) W6 HH.out
  · intro V w7 hb
    have HB7 := hid (HB5.out.trans (hb.mono HB5.out.size))
    clear hb
    go_wp2
    go_ret
    exact ⟨rfl, HB7.out⟩

end Go.Proofs.YtaopkchkhdbfnaaGreatDoor.Pl
