/-
  The walk of spec.Holders. Condition: lists and texts of at most 2^20.
  The walks of impl.isLeased and leaseIn. Condition: lists and texts of at most 2^20; the tables of sixteen sums and of the kinds' sizes and the error of a part that lacks stand in their variables.
  The walk of impl.isLive. No condition but that the host is the one of its place.
  A tally of a list of leases. Condition: at most 900 of them.
  The walk of impl.liveLeases. Condition: lists and texts of at most 2^20; the tables of sixteen sums and of the kinds' sizes and the error of a part that lacks stand in their variables.
  The walk of impl.Holders. Condition: lists and texts of at most 2^20; the tables of sixteen sums and of the kinds' sizes and the error of a part that lacks stand in their variables.
  The walk of laws.FnExactHolders: the law answers true, and nothing that was there is changed. Condition: the tables of sixteen sums and of the kinds' sizes and the error of a part that lacks stand in their variables.
-/
import Derived.Test.YtogebppolkfldaaGreatDoorJoin4
import Derived.Test.YtogebppolkfldaaGreatDoorJoin5
import Derived.Deep.DeepCutAuto
import Derived.Test.YtogebppolkfldaaGreatDoorJoin2
import Derived.Test.YtogebppolkfldaaGreatDoorJoin1
namespace Go.Proofs.YtogebppolkfldaaGreatDoor.Hd
open Go.RowKit Go.Proofs.YtogebppolkfldaaGreatDoor.Mem Go.Proofs.YtogebppolkfldaaGreatDoor.Sec Go.Proofs.YtogebppolkfldaaGreatDoor.Rd Go.Proofs.YtogebppolkfldaaGreatDoor.Pk Go.Proofs.YtogebppolkfldaaGreatDoor.Pl Go.Proofs.YtogebppolkfldaaGreatDoor.Rg
set_option linter.unusedVariables false

/-- What is told of a volume and of a group that were read: their leases, and whether they were. -/
def TupV (x y : Int) (ok : Bool) (V : Value) : Prop := ∃ (on : Bool) (ad : Option Addr) (n cap : Nat), V = .tuple #[.agg #[.int .i64 x, .int .i64 y, .bool on, .slice ad n cap], .bool ok]
def VolD (x y : Int) (V : Value) : Prop := ∃ (on : Bool) (ad : Option Addr) (n cap : Nat), V = .agg #[.int .i64 x, .int .i64 y, .bool on, .slice ad n cap]
def TupG (x y : Int) (V : Value) : Prop := ∃ (ok : Bool) (ad : Option Addr) (n cap : Nat), V = .tuple #[.agg #[.int .i64 x, .int .i64 y, .slice ad n cap], .bool ok]
def GrpD (x y : Int) (V : Value) : Prop := ∃ (ad : Option Addr) (n cap : Nat), V = .agg #[.int .i64 x, .int .i64 y, .slice ad n cap]
def IsB (ok : Bool) (V : Value) : Prop := V = .bool ok

theorem vol_cells {S : Nat → Option (Value → World → Prop)} {val : Nat → Value} {x y : Int} {i : Nat} (hs : S i = some (fun v _ => VolD x y v)) (v : Nat → Value) (w : World) (h : GG val S i v w) : ∃ ys, v i = .agg (List.toArray ys) ∧ ys.length = 4 ∧ ys.all (·.oneCell') = true := by
  unfold GG at h
  rw [hs] at h
  obtain ⟨on, ad, n, cap, h1⟩ := h
  exact ⟨[.int .i64 x, .int .i64 y, .bool on, .slice ad n cap], h1, rfl, rfl⟩
theorem grp_cells {S : Nat → Option (Value → World → Prop)} {val : Nat → Value} {x y : Int} {i : Nat} (hs : S i = some (fun v _ => GrpD x y v)) (v : Nat → Value) (w : World) (h : GG val S i v w) : ∃ ys, v i = .agg (List.toArray ys) ∧ ys.length = 3 ∧ ys.all (·.oneCell') = true := by
  unfold GG at h
  rw [hs] at h
  obtain ⟨ad, n, cap, h1⟩ := h
  exact ⟨[.int .i64 x, .int .i64 y, .slice ad n cap], h1, rfl, rfl⟩

theorem sV (R : ByteArray → Int × Nat) (hR : Reads R) (s : ByteArray) (hs : s.size ≤ 1048576) {x y : Int} {ok : Bool} (h : (∃ on l, readVol R s = some (x, y, on, l) ∧ ok = true) ∨ (readVol R s = none ∧ x = 0 ∧ y = 0 ∧ ok = false)) (w : World) :
    Calls Tryz.prog 16 #[.string s] w fun e w' => ∃ V, e = .returned V ∧ Below w.heap.size w w' ∧ TupV x y ok V := by
  refine (sReadVol R hR s hs w).mono ?_
  rintro e w' ⟨h', e', on', l', a, cap, ok', hi, rfl, _, hb⟩
  refine ⟨_, rfl, hb, on', a, l'.length, cap, ?_⟩
  rcases h with ⟨on, l, q, rfl⟩ | ⟨q, rfl, rfl, rfl⟩
  · rcases hi with ⟨q', _, rfl⟩ | ⟨q', _⟩
    · rw [q] at q'
      simp only [Option.some.injEq, Prod.mk.injEq] at q'
      obtain ⟨rfl, rfl, rfl, rfl⟩ := q'
      rfl
    · rw [q] at q'; cases q'
  · rcases hi with ⟨q', _, rfl⟩ | ⟨_, rfl, rfl, _, _, rfl⟩
    · rw [q] at q'; cases q'
    · rfl
theorem sG (R : ByteArray → Int × Nat) (hR : Reads R) (s : ByteArray) (hs : s.size ≤ 1048576) {x y : Int} (h : (∃ l, readGroup R s = some (x, y, l)) ∨ (readGroup R s = none ∧ x = 0 ∧ y = 0)) (w : World) :
    Calls Tryz.prog 17 #[.string s] w fun e w' => ∃ V, e = .returned V ∧ Below w.heap.size w w' ∧ TupG x y V := by
  refine (sReadGroup R hR s hs w).mono ?_
  rintro e w' ⟨h', e', l', a, cap, ok', hi, rfl, _, hb⟩
  refine ⟨_, rfl, hb, ok', a, l'.length, cap, ?_⟩
  rcases h with ⟨l, q⟩ | ⟨q, rfl, rfl⟩
  · rcases hi with ⟨q', _, rfl⟩ | ⟨q', _⟩
    · rw [q] at q'
      simp only [Option.some.injEq, Prod.mk.injEq] at q'
      obtain ⟨rfl, rfl, rfl⟩ := q'
      rfl
    · rw [q] at q'; cases q'
  · rcases hi with ⟨q', _, rfl⟩ | ⟨_, rfl, rfl, _, rfl⟩
    · rw [q] at q'; cases q'
    · rfl

theorem call_sSecOf (vs : Array Value) (w : World) : (callFunc 15 vs).run Tryz.prog w = .ok (.enter 15 vs) w := by simp [go_sem]
theorem call_sReadV (vs : Array Value) (w : World) : (callFunc 16 vs).run Tryz.prog w = .ok (.enter 16 vs) w := by simp [go_sem]
theorem call_sReadG (vs : Array Value) (w : World) : (callFunc 17 vs).run Tryz.prog w = .ok (.enter 17 vs) w := by simp [go_sem]
theorem pool_34s {R : ByteArray → Int × Nat} {l : List ByteArray} (h : poolOk R l = true) : l.length = 34 := by
  unfold poolOk at h
  simp only [Bool.and_eq_true, decide_eq_true_eq] at h
  exact h.1

/-- The sector of a lease: what is read of it as a volume and as a group. -/
theorem sector_is (R : ByteArray → Int × Nat) (hR : Reads R) (X : Wd) (h : X.ok R = true) (hs : X.Small) (k i : Int) (hk : (k = 3 ∨ k = 4) ∧ 0 ≤ Sector.sectorOf k i) :
    ∃ (p : Nat) (a e vh ve gh ge : Int) (ok : Bool), p < 34 ∧ Sector.sectorOf k i = (p : Int) ∧ held R X k i = ((leasesTo X 3).count (a, e) : Int) ∧
      ((∃ on l, readVol R (X.D.sec.getD p ByteArray.empty) = some (vh, ve, on, l) ∧ ok = true) ∨ (readVol R (X.D.sec.getD p ByteArray.empty) = none ∧ vh = 0 ∧ ve = 0 ∧ ok = false)) ∧
      ((∃ l, readGroup R (X.D.sec.getD p ByteArray.empty) = some (gh, ge, l)) ∨ (readGroup R (X.D.sec.getD p ByteArray.empty) = none ∧ gh = 0 ∧ ge = 0)) ∧
      ((ok = true ∧ vh = a ∧ ve = e) ∨ (ok = false ∧ gh = a ∧ ge = e)) := by
  obtain ⟨_, hp, _⟩ := ok_parts h
  have hl := pool_34s hp
  have hz : ∀ p, p < 34 → (X.D.sec.getD p ByteArray.empty).size ≤ 1048576 := fun p q => by
    have q' : p < X.D.sec.length := by omega
    exact hs.dt _ (by simp [List.getD, q'])
  rcases hk with ⟨rfl | rfl, hs⟩
  · obtain ⟨m, rfl, hm⟩ := sec3_in hs
    obtain ⟨⟨a, e, on, l⟩, q⟩ := vol_at hp m hm
    exact ⟨9 + m, a, e, a, e, 0, 0, true, by omega, sec3 m hm, held_vol h m hm q, .inl ⟨on, l, q, rfl⟩, .inr ⟨no_group hR (hz _ (by omega)) q, rfl, rfl⟩, .inl ⟨rfl, rfl, rfl⟩⟩
  · obtain ⟨m, rfl, hm⟩ := sec4_in hs
    obtain ⟨⟨a, e, l⟩, q⟩ := group_at hp m hm
    exact ⟨13 + m, a, e, 0, 0, a, e, false, by omega, sec4 m hm, held_group h m hm q, .inr ⟨no_vol hR (hz _ (by omega)) q, rfl, rfl, rfl⟩, .inl ⟨l, q⟩, .inr ⟨rfl, rfl, rfl⟩⟩

set_option maxRecDepth 100000 in
set_option maxHeartbeats 16000000 in
theorem sHolders (R : ByteArray → Int × Nat) (hR : Reads R) (w : World) (v : Value) (X : Wd) (i1 i2 : Int) (h : WdR w v X) (hs : X.Small) (hd : X.D.Held) :
    Calls Tryz.prog 5 #[v, .int .i64 i1, .int .i64 i2] w fun e w' => e = .returned (.int .i64 (held R X i1 i2)) ∧ Below w.heap.size w w' := by
  have HW := hid h
  obtain ⟨a1, c1, a2, c2, a3, c3, a4, c4, a5, c5, a6, c6, a7, c7, L, rfl, hm, s1, s2, s3, s4, s5, s6, s7⟩ := h
  have HS1 := hid s1
  have HS2 := hid s2
  have HS4 := hid s4
  have HSM := hid hs
  have HDH := hid hd
  have HM := hid hm
  have HRR := hid hR
  clear s1 s2 s3 s4 s5 s6 s7 hm hs hd hR
  obtain ⟨wa, hwa, ez, A0, B0⟩ := one_new w [.slice a1 X.D.sec.length c1, .slice a2 X.D.ep.length c2, .slice a3 X.D.pe.length c3, .slice a4 L.length c4, .slice a5 X.log.length c5, .slice a6 X.seen.length c6, .slice a7 X.rep.length c7] 41
  have k0 := A0.c 0 rfl
  have k1 := A0.c 1 rfl
  have k2 := A0.c 2 rfl
  have k3 := A0.c 3 rfl
  have k4 := A0.c 4 rfl
  have k5 := A0.c 5 rfl
  have k6 := A0.c 6 rfl
  have HA := hid A0
  have HB := hid B0
  clear A0 B0 ez
  go_enter Tryz.func5, Tryz.ntmps5
  go_upto_region 1 with fail
  try simp only [hwa]
  clear hwa
  go_cut [30] (fun c wr => ∃ q : Bool, c = .bool q ∧ Hid (q = true → held R X i1 i2 = 0) ∧ Hid (q = false → X.ok R = true ∧ (i1 = 3 ∨ i1 = 4) ∧ 0 ≤ Sector.sectorOf i1 i2) ∧ Hid (Below wa.heap.size wa wr))
  case first =>
    go_wp2_with fail
    clear k0 k1 k2 k3 k4 k5 k6
    refine (sWorldOk R HRR.out wa _ X (HW.out.below HB.out) HSM.out HDH.out).mono ?_
    rintro e w1 ⟨rfl, b1⟩
    have HB1 := hid b1
    clear b1 HA HB
    cases hq1 : X.ok R
    · have HN : Hid (held R X i1 i2 = 0) := held_no1 hq1 i1 i2
      clear hq1
      go_wp2
      go_meet
      exact ⟨true, rfl, fun _ => HN.out, fun h => (by cases h), HB1.out⟩
    have HQ1 := hid hq1
    clear hq1
    by_cases hk0 : i1 = 3 ∨ i1 = 4
    rotate_left
    · have HN : Hid (held R X i1 i2 = 0) := held_no2 (fun h => hk0 (.inl h)) (fun h => hk0 (.inr h)) i2
      have h3 : ¬ i1 = 3 := fun h => hk0 (.inl h)
      have h4 : ¬ i1 = 4 := fun h => hk0 (.inr h)
      clear hk0
      go_wp2
      go_meet
      exact ⟨true, rfl, fun _ => HN.out, fun h => (by cases h), HB1.out⟩
    rcases hk0 with rfl | rfl
    · go_wp2_with fail
      refine (Sector.spec_sector 3 i2 w1).mono ?_
      rintro e w2 ⟨rfl, b2⟩
      have HU := hid (HB1.out.trans (b2.mono HB1.out.size))
      clear b2
      by_cases hz : Sector.sectorOf 3 i2 < 0
      · have HN : Hid (held R X 3 i2 = 0) := held_no3 hz
        go_wp2
        go_meet
        exact ⟨true, rfl, fun _ => HN.out, fun h => (by cases h), HU.out⟩
      · have HN := hid hz
        go_wp2
        go_meet
        exact ⟨false, congrArg Value.bool (decide_eq_false (by have := HN.out; omega)), fun h => (by cases h), fun _ => ⟨HQ1.out, by simp, by have := HN.out; omega⟩, HU.out⟩
    · go_wp2_with fail
      refine (Sector.spec_sector 4 i2 w1).mono ?_
      rintro e w2 ⟨rfl, b2⟩
      have HU := hid (HB1.out.trans (b2.mono HB1.out.size))
      clear b2
      by_cases hz : Sector.sectorOf 4 i2 < 0
      · have HN : Hid (held R X 4 i2 = 0) := held_no3 hz
        go_wp2
        go_meet
        exact ⟨true, rfl, fun _ => HN.out, fun h => (by cases h), HU.out⟩
      · have HN := hid hz
        go_wp2
        go_meet
        exact ⟨false, congrArg Value.bool (decide_eq_false (by have := HN.out; omega)), fun h => (by cases h), fun _ => ⟨HQ1.out, by simp, by have := HN.out; omega⟩, HU.out⟩
  case rest =>
    obtain ⟨q, rfl, HN, HY, hb1⟩ := hcut
    obtain ⟨w2, hw2⟩ : ∃ w2, w2 = wc := ⟨_, rfl⟩
    subst hw2
    have HA2 := hid (HA.out.below hb1.out HA.out.lt)
    have HB2 := hid (HB.out.trans (hb1.out.mono HB.out.size))
    clear hb1 HA HB k0 k1 k2 k3 k4 k5 k6
    cases q
    rotate_left
    · go_wp2
      go_ret
      exact ⟨by rw [HN.out (by simp)]; rfl, HB2.out⟩
    have HQ1 := hid (HY.out (by simp)).1
    obtain ⟨pp, a, e, vh, ve, gh, ge, vok, hp, hsec, hheld, hcv, hcg, hcase⟩ := sector_is R HRR.out X HQ1.out HSM.out i1 i2 (HY.out (by simp)).2
    have HSC := hid (fun (u : World) => Sector.spec_sector i1 i2 u)
    rw [hsec] at HSC
    have HH := hid hheld
    have HCASE := hid hcase
    obtain ⟨hq3, hq4, hq5, _, _, _⟩ := ok_parts HQ1.out
    have HEP := hid (right_ep hq3)
    have HSL := hid (pool_34s hq4)
    have HL3 : Hid (L.length = 3) := by have := hosts_len hq5; rw [← HM.out, List.length_map] at this; exact this
    have HLM : Hid (∀ j, j < 3 → X.hs.getD j Ho.none = (L.getD j Hx.none).H) := fun j hj => by
      have hj' : j < L.length := by have := HL3.out; omega
      rw [← HM.out]
      simp [List.getD, hj']
    clear hq3 hq4 hq5 hsec hheld hcase
    obtain ⟨hb, ho, ea4, _⟩ := HS4.out.1 0 (by have := HL3.out; omega)
    obtain ⟨eb, eo, ea2, _⟩ := HS2.out 0 (by have := HEP.out; omega)
    obtain ⟨sb, so, ea1, _⟩ := HS1.out 0 (by have := HSL.out; omega)
    subst ea4
    subst ea2
    subst ea1
    have hps : pp < X.D.sec.length := by rw [HSL.out]; exact hp
    obtain ⟨sb', so', es, hcs⟩ := HS1.out pp hps
    cases es
    replace hcs : w.cell? ⟨sb, so + pp, none⟩ = some (.string (X.D.sec.getD pp ByteArray.empty)) := hcs
    have hsz : (X.D.sec.getD pp ByteArray.empty).size ≤ 1048576 := HSM.out.dt _ (by simp [List.getD, hps])
    generalize X.D.sec.getD pp ByteArray.empty = s at hcs hcv hcg hsz
    have HRV := hid (fun (u : World) => sV R HRR.out s hsz hcv u)
    have HRG := hid (fun (u : World) => sG R HRR.out s hsz hcg u)
    have hp34 : (pp : Int) < 34 := by omega
    have HCW := hid hcs
    clear hcs hsz hcv hcg hps
    have HC0 : Hid (w2.cell? ⟨w.heap.size, 0, none⟩ = some (.slice (some ⟨sb, so, none⟩) 34 c1)) := by have := HA2.out.c 0 rfl; rw [HSL.out] at this; exact this
    have HCS : Hid (w2.cell? ⟨sb, so + pp, none⟩ = some (.string s)) := Rg.cell_later HCW.out HB2.out
    go_upto_region 3 with fail
    refine region_boxed (val := fun i => [.pointer (some ⟨w.heap.size, 0, none⟩), .pointer (some ⟨w.heap.size, 0, none⟩), .slice (some ⟨sb, so, none⟩) 34 c1, .int .i64 i1, .int .i64 i2, .int .i64 (pp : Int), .pointer (some ⟨sb, so + pp, none⟩), .string s, undef, undef, undef, undef, undef, undef, undef].getD i undef) (sp := fun i => (([none, none, none, none, none, none, none, none, some (TupV vh ve vok), some (TupV vh ve vok), some (VolD vh ve), some (IsB vok), some (fun _ => True), some (fun _ => True), some (IsB vok)] : List (Option (Value → Prop))).getD i none).map fun p v _ => p v) true (by kernel_rfl) (by kernel_rfl) [some 32, some 33, some 34, some 35, some 36, some 37, some 38, some 39, some 40, some 31, some 41, some 42, some 7, none, some 8] (by kernel_rfl) 12 13 10 (by decide) (by decide) (by decide) [.int .i64 0, .int .i64 0, .bool false, .slice none 0 0] rfl rfl 55 (fun ρ w => by unfold execOp; simp [go_sem]) rfl rfl 55 _ _ rfl rfl rfl (by kernel_rfl) (by kernel_rfl) (by kernel_rfl) (vol_cells rfl) rfl rfl sp_still ?_ (fun v w3 g ys hb_ hG eA hg eY hr => ?_)
    · refine ⟨.inr (.inr (gVal rfl (.inl ⟨rfl, rfl⟩) rfl (fun Lb v act wy K => by
       have e1 : act.eval (.tmp 3) = .pointer (some ⟨w.heap.size, 0, none⟩) := (K.off (x := .tmp 3) (by kernel_rfl)).trans rfl
       show (execOp act.eval _).run Tryz.prog wy = .ok (.value (.pointer (some ⟨w.heap.size, 0, none⟩))) wy
       generalize act.eval = ρ at e1 ⊢
       unfold execOp
       simp [go_sem, e1]))), ?_⟩
      refine ⟨.inr (.inr (gVal rfl (.inl ⟨rfl, rfl⟩) rfl (fun Lb v act wy K => by
       have e1 : act.eval (.tmp 32) = .pointer (some ⟨w.heap.size, 0, none⟩) := K.at_val 0 (by kernel_rfl) (by kernel_rfl) rfl
       show (execOp act.eval _).run Tryz.prog wy = .ok (.value (.pointer (some ⟨w.heap.size, 0, none⟩))) wy
       generalize act.eval = ρ at e1 ⊢
       unfold execOp
       simp [go_sem, e1]))), ?_⟩
      refine ⟨.inr (.inr (gVal rfl (.inl ⟨rfl, rfl⟩) rfl (fun Lb v act wy K => by
       have e1 : act.eval (.tmp 33) = .pointer (some ⟨w.heap.size, 0, none⟩) := K.at_val 1 (by kernel_rfl) (by kernel_rfl) rfl
       have e2 := Rg.cell_later (HC0.out) K.bel
       show (execOp act.eval _).run Tryz.prog wy = .ok (.value (.slice (some ⟨sb, so, none⟩) 34 c1)) wy
       generalize act.eval = ρ at e1 ⊢
       unfold execOp
       simp [go_sem, e1, e2]))), ?_⟩
      refine ⟨.inr (.inr (gVal rfl (.inl ⟨rfl, rfl⟩) rfl (fun Lb v act wy K => by
       have e1 : act.eval (.tmp 1) = .int .i64 i1 := (K.off (x := .tmp 1) (by kernel_rfl)).trans rfl
       exact run_move _ rfl e1))), ?_⟩
      refine ⟨.inr (.inr (gVal rfl (.inl ⟨rfl, rfl⟩) rfl (fun Lb v act wy K => by
       have e1 : act.eval (.tmp 2) = .int .i64 i2 := (K.off (x := .tmp 2) (by kernel_rfl)).trans rfl
       exact run_move _ rfl e1))), ?_⟩
      refine ⟨.inr (.inr (gCall rfl (.inl ⟨rfl, rfl⟩) 15 #[.tmp 35, .tmp 36] _ (fun _ => #[.int .i64 i1, .int .i64 i2]) rfl call_sSecOf (fun Lb v act wy K => by
       have e1 : act.eval (.tmp 35) = .int .i64 i1 := K.at_val 3 (by kernel_rfl) (by kernel_rfl) rfl
       have e2 : act.eval (.tmp 36) = .int .i64 i2 := K.at_val 4 (by kernel_rfl) (by kernel_rfl) rfl
       simp only [List.map_toArray, List.map_cons, List.map_nil, e1, e2]) (fun v w hb hs => (HSC.out w).mono (fun e w' ⟨h1, h2⟩ => ⟨_, h1, h2, rfl⟩)))), ?_⟩
      refine ⟨.inr (.inr (gVal rfl (.inl ⟨rfl, rfl⟩) rfl (fun Lb v act wy K => by
       have e1 : act.eval (.tmp 34) = .slice (some ⟨sb, so, none⟩) 34 c1 := K.at_val 2 (by kernel_rfl) (by kernel_rfl) rfl
       have e2 : act.eval (.tmp 37) = .int .i64 (pp : Int) := K.at_val 5 (by kernel_rfl) (by kernel_rfl) rfl
       show (execOp act.eval _).run Tryz.prog wy = .ok (.value (.pointer (some ⟨sb, so + pp, none⟩))) wy
       generalize act.eval = ρ at e1 e2 ⊢
       unfold execOp
       simp [go_sem, e1, e2, hp34]))), ?_⟩
      refine ⟨.inr (.inr (gVal rfl (.inl ⟨rfl, rfl⟩) rfl (fun Lb v act wy K => by
       have e1 : act.eval (.tmp 38) = .pointer (some ⟨sb, so + pp, none⟩) := K.at_val 6 (by kernel_rfl) (by kernel_rfl) rfl
       have e2 := Rg.cell_later (HCS.out) K.bel
       show (execOp act.eval _).run Tryz.prog wy = .ok (.value (.string s)) wy
       generalize act.eval = ρ at e1 ⊢
       unfold execOp
       simp [go_sem, e1, e2]))), ?_⟩
      refine ⟨.inr (.inr (gCall rfl (.inl ⟨rfl, rfl⟩) 16 #[.tmp 39] _ (fun _ => #[.string s]) rfl call_sReadV (fun Lb v act wy K => by
       have e1 : act.eval (.tmp 39) = .string s := K.at_val 7 (by kernel_rfl) (by kernel_rfl) rfl
       simp only [List.map_toArray, List.map_cons, List.map_nil, e1]) (fun v w hb hs => (HRV.out w)))), ?_⟩
      refine ⟨.inr (.inr (gSp rfl (.inl ⟨rfl, rfl⟩) (fun v _ => (TupV vh ve vok) v) rfl (fun Lb v act wy K => by
       obtain ⟨u, e1, hp⟩ := K.at_sp (t := 40) (p := fun v _ => (TupV vh ve vok) v) 8 (by kernel_rfl) (by kernel_rfl) rfl
       exact ⟨u, run_move _ rfl e1, hp⟩))), ?_⟩
      refine ⟨.inr (.inr (gSp rfl (.inl ⟨rfl, rfl⟩) (fun v _ => (VolD vh ve) v) rfl (fun Lb v act wy K => by
       obtain ⟨u, e1, on, ad, n, cap, rfl⟩ := K.at_sp (t := 31) (p := fun v _ => (TupV vh ve vok) v) 9 (by kernel_rfl) (by kernel_rfl) rfl
       refine ⟨.agg #[.int .i64 vh, .int .i64 ve, .bool on, .slice ad n cap], ?_, on, ad, n, cap, rfl⟩
       show (execOp act.eval _).run Tryz.prog wy = .ok (.value (.agg #[.int .i64 vh, .int .i64 ve, .bool on, .slice ad n cap])) wy
       generalize act.eval = ρ at e1 ⊢
       unfold execOp
       simp [go_sem, e1]))), ?_⟩
      refine ⟨.inr (.inr (gSp rfl (.inl ⟨rfl, rfl⟩) (fun v _ => (IsB vok) v) rfl (fun Lb v act wy K => by
       obtain ⟨u, e1, on, ad, n, cap, rfl⟩ := K.at_sp (t := 31) (p := fun v _ => (TupV vh ve vok) v) 9 (by kernel_rfl) (by kernel_rfl) rfl
       refine ⟨.bool vok, ?_, rfl⟩
       show (execOp act.eval _).run Tryz.prog wy = .ok (.value (.bool vok)) wy
       generalize act.eval = ρ at e1 ⊢
       unfold execOp
       simp [go_sem, e1]))), ?_⟩
      refine ⟨.inl rfl, ?_⟩
      refine ⟨.inr (.inl rfl), ?_⟩
      refine ⟨.inr (.inr (gSp rfl (.inl ⟨rfl, rfl⟩) (fun v _ => (IsB vok) v) rfl (fun Lb v act wy K => by
       obtain ⟨u, e1, hp⟩ := K.at_sp (t := 42) (p := fun v _ => (IsB vok) v) 11 (by kernel_rfl) (by kernel_rfl) rfl
       exact ⟨u, run_assign _ rfl e1, hp⟩))), ?_⟩
      exact trivial
    obtain ⟨on, ad, n3, cap3, hJ⟩ : VolD vh ve (v 10) := hG 10 (by show 10 < 15; decide)
    have e14 : v 14 = .bool vok := hG 14 (by show 14 < 15; decide)
    obtain rfl : ys = [.int .i64 vh, .int .i64 ve, .bool on, .slice ad n3 cap3] := agg_inj (eY.symm.trans hJ)
    have HB3 := hid (HB2.out.trans (hb_.mono HB2.out.size))
    have HR3 := hid hr
    have HA3 := hid (HA2.out.below hb_ HA2.out.lt)
    have HG3 : Hid (w.heap.size < g) := Nat.lt_of_lt_of_le HA2.out.lt hg
    clear hG eY hJ hr
    simp only [putsAll, Act.put, List.setIfInBounds_toArray, List.set_cons_zero, List.set_cons_succ, eA, e14]
    clear eA hg hb_ e14
    have HC04 : Hid (w3.cell? ⟨w.heap.size, 0, none⟩ = some (.slice (some ⟨sb, so, none⟩) 34 c1)) := by have := HA3.out.c 0 rfl; rw [HSL.out] at this; exact this
    have HCS4 : Hid (w3.cell? ⟨sb, so + pp, none⟩ = some (.string s)) := Rg.cell_later HCW.out HB3.out
    clear HC0 HCS
    go_upto_region 4 with fail
    refine region_boxed (val := fun i => [.pointer (some ⟨w.heap.size, 0, none⟩), .pointer (some ⟨w.heap.size, 0, none⟩), .slice (some ⟨sb, so, none⟩) 34 c1, .int .i64 i1, .int .i64 i2, .int .i64 (pp : Int), .pointer (some ⟨sb, so + pp, none⟩), .string s, undef, undef, undef, undef, undef, undef, undef].getD i undef) (sp := fun i => (([none, none, none, none, none, none, none, none, some (TupG gh ge), some (TupG gh ge), some (GrpD gh ge), some (fun _ => True), some (fun _ => True), some (fun _ => True), some (fun _ => True)] : List (Option (Value → Prop))).getD i none).map fun p v _ => p v) true (by kernel_rfl) (by kernel_rfl) [some 44, some 45, some 46, some 47, some 48, some 49, some 50, some 51, some 52, some 43, some 53, some 54, some 9, none, some 10] (by kernel_rfl) 12 13 10 (by decide) (by decide) (by decide) [.int .i64 0, .int .i64 0, .slice none 0 0] rfl rfl 59 (fun ρ w => by unfold execOp; simp [go_sem]) rfl rfl 59 _ _ rfl rfl rfl (by kernel_rfl) (by kernel_rfl) (by kernel_rfl) (grp_cells rfl) rfl rfl sp_still ?_ (fun v4 w4 g4 ys4 hb_ hG eA hg eY hr => ?_)
    · refine ⟨.inr (.inr (gVal rfl (.inl ⟨rfl, rfl⟩) rfl (fun Lb v act wy K => by
       have e1 : act.eval (.tmp 3) = .pointer (some ⟨w.heap.size, 0, none⟩) := (K.off (x := .tmp 3) (by kernel_rfl)).trans rfl
       show (execOp act.eval _).run Tryz.prog wy = .ok (.value (.pointer (some ⟨w.heap.size, 0, none⟩))) wy
       generalize act.eval = ρ at e1 ⊢
       unfold execOp
       simp [go_sem, e1]))), ?_⟩
      refine ⟨.inr (.inr (gVal rfl (.inl ⟨rfl, rfl⟩) rfl (fun Lb v act wy K => by
       have e1 : act.eval (.tmp 44) = .pointer (some ⟨w.heap.size, 0, none⟩) := K.at_val 0 (by kernel_rfl) (by kernel_rfl) rfl
       show (execOp act.eval _).run Tryz.prog wy = .ok (.value (.pointer (some ⟨w.heap.size, 0, none⟩))) wy
       generalize act.eval = ρ at e1 ⊢
       unfold execOp
       simp [go_sem, e1]))), ?_⟩
      refine ⟨.inr (.inr (gVal rfl (.inl ⟨rfl, rfl⟩) rfl (fun Lb v act wy K => by
       have e1 : act.eval (.tmp 45) = .pointer (some ⟨w.heap.size, 0, none⟩) := K.at_val 1 (by kernel_rfl) (by kernel_rfl) rfl
       have e2 := Rg.cell_later (HC04.out) K.bel
       show (execOp act.eval _).run Tryz.prog wy = .ok (.value (.slice (some ⟨sb, so, none⟩) 34 c1)) wy
       generalize act.eval = ρ at e1 ⊢
       unfold execOp
       simp [go_sem, e1, e2]))), ?_⟩
      refine ⟨.inr (.inr (gVal rfl (.inl ⟨rfl, rfl⟩) rfl (fun Lb v act wy K => by
       have e1 : act.eval (.tmp 1) = .int .i64 i1 := (K.off (x := .tmp 1) (by kernel_rfl)).trans rfl
       exact run_move _ rfl e1))), ?_⟩
      refine ⟨.inr (.inr (gVal rfl (.inl ⟨rfl, rfl⟩) rfl (fun Lb v act wy K => by
       have e1 : act.eval (.tmp 2) = .int .i64 i2 := (K.off (x := .tmp 2) (by kernel_rfl)).trans rfl
       exact run_move _ rfl e1))), ?_⟩
      refine ⟨.inr (.inr (gCall rfl (.inl ⟨rfl, rfl⟩) 15 #[.tmp 47, .tmp 48] _ (fun _ => #[.int .i64 i1, .int .i64 i2]) rfl call_sSecOf (fun Lb v act wy K => by
       have e1 : act.eval (.tmp 47) = .int .i64 i1 := K.at_val 3 (by kernel_rfl) (by kernel_rfl) rfl
       have e2 : act.eval (.tmp 48) = .int .i64 i2 := K.at_val 4 (by kernel_rfl) (by kernel_rfl) rfl
       simp only [List.map_toArray, List.map_cons, List.map_nil, e1, e2]) (fun v w hb hs => (HSC.out w).mono (fun e w' ⟨h1, h2⟩ => ⟨_, h1, h2, rfl⟩)))), ?_⟩
      refine ⟨.inr (.inr (gVal rfl (.inl ⟨rfl, rfl⟩) rfl (fun Lb v act wy K => by
       have e1 : act.eval (.tmp 46) = .slice (some ⟨sb, so, none⟩) 34 c1 := K.at_val 2 (by kernel_rfl) (by kernel_rfl) rfl
       have e2 : act.eval (.tmp 49) = .int .i64 (pp : Int) := K.at_val 5 (by kernel_rfl) (by kernel_rfl) rfl
       show (execOp act.eval _).run Tryz.prog wy = .ok (.value (.pointer (some ⟨sb, so + pp, none⟩))) wy
       generalize act.eval = ρ at e1 e2 ⊢
       unfold execOp
       simp [go_sem, e1, e2, hp34]))), ?_⟩
      refine ⟨.inr (.inr (gVal rfl (.inl ⟨rfl, rfl⟩) rfl (fun Lb v act wy K => by
       have e1 : act.eval (.tmp 50) = .pointer (some ⟨sb, so + pp, none⟩) := K.at_val 6 (by kernel_rfl) (by kernel_rfl) rfl
       have e2 := Rg.cell_later (HCS4.out) K.bel
       show (execOp act.eval _).run Tryz.prog wy = .ok (.value (.string s)) wy
       generalize act.eval = ρ at e1 ⊢
       unfold execOp
       simp [go_sem, e1, e2]))), ?_⟩
      refine ⟨.inr (.inr (gCall rfl (.inl ⟨rfl, rfl⟩) 17 #[.tmp 51] _ (fun _ => #[.string s]) rfl call_sReadG (fun Lb v act wy K => by
       have e1 : act.eval (.tmp 51) = .string s := K.at_val 7 (by kernel_rfl) (by kernel_rfl) rfl
       simp only [List.map_toArray, List.map_cons, List.map_nil, e1]) (fun v w hb hs => (HRG.out w)))), ?_⟩
      refine ⟨.inr (.inr (gSp rfl (.inl ⟨rfl, rfl⟩) (fun v _ => (TupG gh ge) v) rfl (fun Lb v act wy K => by
       obtain ⟨u, e1, hp⟩ := K.at_sp (t := 52) (p := fun v _ => (TupG gh ge) v) 8 (by kernel_rfl) (by kernel_rfl) rfl
       exact ⟨u, run_move _ rfl e1, hp⟩))), ?_⟩
      refine ⟨.inr (.inr (gSp rfl (.inl ⟨rfl, rfl⟩) (fun v _ => (GrpD gh ge) v) rfl (fun Lb v act wy K => by
       obtain ⟨u, e1, ok, ad, n, cap, rfl⟩ := K.at_sp (t := 43) (p := fun v _ => (TupG gh ge) v) 9 (by kernel_rfl) (by kernel_rfl) rfl
       refine ⟨.agg #[.int .i64 gh, .int .i64 ge, .slice ad n cap], ?_, ad, n, cap, rfl⟩
       show (execOp act.eval _).run Tryz.prog wy = .ok (.value (.agg #[.int .i64 gh, .int .i64 ge, .slice ad n cap])) wy
       generalize act.eval = ρ at e1 ⊢
       unfold execOp
       simp [go_sem, e1]))), ?_⟩
      refine ⟨.inr (.inr (gSp rfl (.inl ⟨rfl, rfl⟩) (fun v _ => (fun _ => True) v) rfl (fun Lb v act wy K => by
       obtain ⟨u, e1, ok, ad, n, cap, rfl⟩ := K.at_sp (t := 43) (p := fun v _ => (TupG gh ge) v) 9 (by kernel_rfl) (by kernel_rfl) rfl
       refine ⟨.bool ok, ?_, trivial⟩
       show (execOp act.eval _).run Tryz.prog wy = .ok (.value (.bool ok)) wy
       generalize act.eval = ρ at e1 ⊢
       unfold execOp
       simp [go_sem, e1]))), ?_⟩
      refine ⟨.inl rfl, ?_⟩
      refine ⟨.inr (.inl rfl), ?_⟩
      refine ⟨.inr (.inr (gSp rfl (.inl ⟨rfl, rfl⟩) (fun v _ => (fun _ => True) v) rfl (fun Lb v act wy K => by
       obtain ⟨u, e1, hp⟩ := K.at_sp (t := 54) (p := fun v _ => (fun _ => True) v) 11 (by kernel_rfl) (by kernel_rfl) rfl
       exact ⟨u, run_assign _ rfl e1, hp⟩))), ?_⟩
      exact trivial
    obtain ⟨ad4, n4, cap4, hJ⟩ : GrpD gh ge (v4 10) := hG 10 (by show 10 < 15; decide)
    obtain rfl : ys4 = [.int .i64 gh, .int .i64 ge, .slice ad4 n4 cap4] := agg_inj (eY.symm.trans hJ)
    have HB4 := hid (HB3.out.trans (hb_.mono HB3.out.size))
    have HR4 := hid hr
    have HV4 := hid (HR3.out.below hb_ HR3.out.lt)
    have HA4 := hid (HA3.out.below hb_ HA3.out.lt)
    clear hG eY hJ hr HC04 HCS4
    simp only [putsAll, Act.put, List.setIfInBounds_toArray, List.set_cons_zero, List.set_cons_succ, eA]
    clear eA hg hb_
    have v0 := HV4.out.c 0 rfl
    have v1 := HV4.out.c 1 rfl
    have q0 := HR4.out.c 0 rfl
    have q1 := HR4.out.c 1 rfl
    have HLATER : Hid (∀ w5, Below w4.heap.size w4 w5 → Row w5 w4.heap.size [.int .i64 a, .int .i64 e] → ∀ u, Below w5.heap.size w5 u → Hid (u.cell? ⟨w.heap.size, 1, none⟩ = some (.slice (some ⟨eb, eo, none⟩) 3 c2)) ∧ Hid (u.cell? ⟨w.heap.size, 3, none⟩ = some (.slice (some ⟨hb, ho, none⟩) 3 c4)) ∧ Hid (u.rangeAt w4.heap.size 0 [.int .i64 a, .int .i64 e])) := fun w5 h45 hr5 u hu => by
      have hr := (HA4.out.below h45 HA4.out.lt).below hu (HA4.out.below h45 HA4.out.lt).lt
      refine ⟨?_, ?_, range_of_row (hr5.below hu hr5.lt)⟩
      · have := hr.c 1 rfl; rw [HEP.out] at this; exact this
      · have := hr.c 3 rfl; rw [HL3.out] at this; exact this
    obtain ⟨wl, hwl, ezl, AL, BL⟩ := one_new w4 [.int .i64 vh, .int .i64 ve] 53
    have HAL := hid AL
    have HBL := hid BL
    clear AL BL ezl
    have l0 := HAL.out.c 0 rfl
    have l1 := HAL.out.c 1 rfl
    have f0 := HAL.out.f 0
    have f1 := HAL.out.f 1
    go_upto_region 6 with fail
    try simp only [hwl]
    clear v0 v1 hwl
    go_upto_if 58 with fail
    go_cut [11] (fun pz wr => pz = .pointer (some ⟨w4.heap.size, 0, none⟩) ∧ Hid (Row wr w4.heap.size [.int .i64 a, .int .i64 e]) ∧ Hid (Below w4.heap.size w4 wr))
    case first =>
      have hcase := HCASE.out
      rcases hcase with ⟨hvok, hva, hve⟩ | ⟨hvok, hga, hge⟩
      · subst hvok
        subst hva
        subst hve
        go_wp2
        go_meet
        exact ⟨rfl, HAL.out, HBL.out⟩
      · subst hvok
        subst hga
        subst hge
        have HQ4 := hid (HR4.out.below HBL.out HR4.out.lt)
        have q0' := HQ4.out.c 0 rfl
        have q1' := HQ4.out.c 1 rfl
        go_wp2
        go_meet
        exact ⟨rfl, (HAL.out.set 0 _).set 1 _, below_set (below_set HBL.out _ _ _ (Nat.le_refl _)) _ _ _ (Nat.le_refl _)⟩
    case rest =>
      obtain ⟨rfl, HR5, HB45⟩ := hcut
      obtain ⟨w5, hw5⟩ : ∃ w5, w5 = wc := ⟨_, rfl⟩
      subst hw5
      have HB5 := hid (HB4.out.trans (HB45.out.mono HB4.out.size))
      have HCK := hid (HLATER.out w5 HB45.out HR5.out)
      clear q0 q1 l0 l1 f0 f1 HLATER HAL HBL HR5 HB45 HR4 HV4 HA4 HB4
      go_wp2
      go_loopw [12, 13] (fun nv i wr => ∃ k : Nat, k ≤ 3 ∧ i = .int .i64 (k : Int) ∧ nv = .int .i64 (((leasesTo X k).count (a, e) : Nat) : Int) ∧ Hid (Below w5.heap.size w5 wr)) (fun _ i _ => 3 - (intOf i).toNat)
      case atStart => exact ⟨0, Nat.zero_le _, rfl, rfl, Below.refl _ _⟩
      case round =>
        obtain ⟨k, hk, rfl, rfl, HBr⟩ := hrel
        by_cases hlt : k < 3
        · obtain ⟨HC1, HC3, HLR⟩ := HCK.out wr HBr.out
          have HBw := hid (HB5.out.trans (HBr.out.mono HB5.out.size))
          obtain ⟨b', off', ea, hrg, hou⟩ := (HS4.out.below HBw.out).range k (by rw [HL3.out]; exact hlt)
          cases ea
          have HX : Hid ((L.getD k Hx.none).H = X.hs.getD k Ho.none) := (HLM.out k hlt).symm
          obtain ⟨eb', eo', ee, hce⟩ := (Sl.below HS2.out HBw.out) k (by rw [HEP.out]; exact hlt)
          cases ee
          replace hce : wr.cell? ⟨eb, eo + k, none⟩ = some (.int .i64 (X.D.ep.getD k 0)) := hce
          generalize L.getD k Hx.none = x at hrg hou HX
          have hup : wr.cell? ⟨hb, ho + k * 16 + 2, none⟩ = some (.bool x.H.up) := hrg 2 _ rfl
          have hep : wr.cell? ⟨hb, ho + k * 16 + 1, none⟩ = some (.int .i64 x.H.ep) := hrg 1 _ rfl
          have HEQ := hid hep
          have hk3 : (k : Int) < 3 := by omega
          have HLV : Hid (liveAt X k = (x.H.up && decide (x.H.ep = X.D.ep.getD k 0))) := by show liveAt X k = _; unfold liveAt; rw [← HX.out]
          have HKE : Hid (keyAt X k = ((k : Int), x.H.ep)) := by show _ = _; unfold keyAt; rw [← HX.out]
          generalize X.D.ep.getD k 0 = E at hce HLV
          have HCE := hid hce
          have hcnt : (leasesTo X k).count (a, e) ≤ 3 := Nat.le_trans (List.count_le_length) (Nat.le_trans (leases_len X k) (by omega))
          clear hrg hou hce hep
          cases hu : x.H.up
          · rw [hu] at hup HLV
            have HUP := hid hup
            have HN : Hid ((leasesTo X (k + 1)).count (a, e) = (leasesTo X k).count (a, e)) := count_no1 (by rw [HLV.out]; rfl) (a, e)
            clear hu hup
            generalize (leasesTo X k).count (a, e) = c at *
            go_upto_region 12 with fail
            refine region_grow (val := fun i => [.pointer (some ⟨w.heap.size, 3, none⟩), .slice (some ⟨hb, ho, none⟩) 3 c4, .int .i64 (k : Int), .pointer (some ⟨hb, ho + k * 16, none⟩), .pointer (some ⟨hb, ho + k * 16 + 2, none⟩), .bool false, .bool false, undef, undef, undef, undef, undef, undef, undef, undef, undef, undef, undef, undef, undef, .bool false, .bool false, undef, undef, undef, undef, undef, undef, undef, undef, undef, undef, .bool false].getD i undef) (sp := fun _ => none) true (by kernel_rfl) (by kernel_rfl) [some 65, some 66, some 67, some 68, some 69, some 70, some 71, some 72, some 73, some 74, some 75, some 76, some 77, some 78, some 79, some 80, some 81, some 82, some 83, some 84, some 85, some 86, some 87, some 88, some 89, some 90, some 91, some 92, some 93, some 94, some 95, some 96, some 97] (by kernel_rfl) (fun _ _ h => by cases h) ?_ (fun v w12 hb_ hG => ?_)
            · refine ⟨gVal rfl (.inl ⟨rfl, rfl⟩) rfl (fun Lb v act wy K => by
               have e1 : act.eval (.tmp 3) = .pointer (some ⟨w.heap.size, 0, none⟩) := (K.off (x := .tmp 3) (by kernel_rfl)).trans rfl
               show (execOp act.eval _).run Tryz.prog wy = .ok (.value (.pointer (some ⟨w.heap.size, 3, none⟩))) wy
               generalize act.eval = ρ at e1 ⊢
               unfold execOp
               simp [go_sem, e1]), ?_⟩
              refine ⟨gVal rfl (.inl ⟨rfl, rfl⟩) rfl (fun Lb v act wy K => by
               have e1 : act.eval (.tmp 65) = .pointer (some ⟨w.heap.size, 3, none⟩) := K.at_val 0 (by kernel_rfl) (by kernel_rfl) rfl
               have e2 := Rg.cell_later (HC3.out) K.bel
               show (execOp act.eval _).run Tryz.prog wy = .ok (.value (.slice (some ⟨hb, ho, none⟩) 3 c4)) wy
               generalize act.eval = ρ at e1 ⊢
               unfold execOp
               simp [go_sem, e1, e2]), ?_⟩
              refine ⟨gVal rfl (.inl ⟨rfl, rfl⟩) rfl (fun Lb v act wy K => by
               have e1 : act.eval (.tmp 13) = .int .i64 (k : Int) := (K.off (x := .tmp 13) (by kernel_rfl)).trans rfl
               exact run_move _ rfl e1), ?_⟩
              refine ⟨gVal rfl (.inl ⟨rfl, rfl⟩) rfl (fun Lb v act wy K => by
               have e1 : act.eval (.tmp 66) = .slice (some ⟨hb, ho, none⟩) 3 c4 := K.at_val 1 (by kernel_rfl) (by kernel_rfl) rfl
               have e2 : act.eval (.tmp 67) = .int .i64 (k : Int) := K.at_val 2 (by kernel_rfl) (by kernel_rfl) rfl
               show (execOp act.eval _).run Tryz.prog wy = .ok (.value (.pointer (some ⟨hb, ho + k * 16, none⟩))) wy
               generalize act.eval = ρ at e1 e2 ⊢
               unfold execOp
               simp [go_sem, e1, e2, hk3]), ?_⟩
              refine ⟨gVal rfl (.inl ⟨rfl, rfl⟩) rfl (fun Lb v act wy K => by
               have e1 : act.eval (.tmp 68) = .pointer (some ⟨hb, ho + k * 16, none⟩) := K.at_val 3 (by kernel_rfl) (by kernel_rfl) rfl
               show (execOp act.eval _).run Tryz.prog wy = .ok (.value (.pointer (some ⟨hb, ho + k * 16 + 2, none⟩))) wy
               generalize act.eval = ρ at e1 ⊢
               unfold execOp
               simp [go_sem, e1]), ?_⟩
              refine ⟨gVal rfl (.inl ⟨rfl, rfl⟩) rfl (fun Lb v act wy K => by
               have e1 : act.eval (.tmp 69) = .pointer (some ⟨hb, ho + k * 16 + 2, none⟩) := K.at_val 4 (by kernel_rfl) (by kernel_rfl) rfl
               have e2 := Rg.cell_later (HUP.out) K.bel
               show (execOp act.eval _).run Tryz.prog wy = .ok (.value (.bool false)) wy
               generalize act.eval = ρ at e1 ⊢
               unfold execOp
               simp [go_sem, e1, e2]), ?_⟩
              refine ⟨gVal rfl (.inl ⟨rfl, rfl⟩) rfl (fun Lb v act wy K => by
               have e1 : act.eval (.tmp 70) = .bool false := K.at_val 5 (by kernel_rfl) (by kernel_rfl) rfl
               exact run_move _ rfl e1), ?_⟩
              refine ⟨gSkip rfl (.inr ⟨6, true, 71, rfl, (by kernel_rfl), (by kernel_rfl), rfl, rfl⟩) rfl rfl, ?_⟩
              refine ⟨gSkip rfl (.inr ⟨6, true, 71, rfl, (by kernel_rfl), (by kernel_rfl), rfl, rfl⟩) rfl rfl, ?_⟩
              refine ⟨gSkip rfl (.inr ⟨6, true, 71, rfl, (by kernel_rfl), (by kernel_rfl), rfl, rfl⟩) rfl rfl, ?_⟩
              refine ⟨gSkip rfl (.inr ⟨6, true, 71, rfl, (by kernel_rfl), (by kernel_rfl), rfl, rfl⟩) rfl rfl, ?_⟩
              refine ⟨gSkip rfl (.inr ⟨6, true, 71, rfl, (by kernel_rfl), (by kernel_rfl), rfl, rfl⟩) rfl rfl, ?_⟩
              refine ⟨gSkip rfl (.inr ⟨6, true, 71, rfl, (by kernel_rfl), (by kernel_rfl), rfl, rfl⟩) rfl rfl, ?_⟩
              refine ⟨gSkip rfl (.inr ⟨6, true, 71, rfl, (by kernel_rfl), (by kernel_rfl), rfl, rfl⟩) rfl rfl, ?_⟩
              refine ⟨gSkip rfl (.inr ⟨6, true, 71, rfl, (by kernel_rfl), (by kernel_rfl), rfl, rfl⟩) rfl rfl, ?_⟩
              refine ⟨gSkip rfl (.inr ⟨6, true, 71, rfl, (by kernel_rfl), (by kernel_rfl), rfl, rfl⟩) rfl rfl, ?_⟩
              refine ⟨gSkip rfl (.inr ⟨6, true, 71, rfl, (by kernel_rfl), (by kernel_rfl), rfl, rfl⟩) rfl rfl, ?_⟩
              refine ⟨gSkip rfl (.inr ⟨6, true, 71, rfl, (by kernel_rfl), (by kernel_rfl), rfl, rfl⟩) rfl rfl, ?_⟩
              refine ⟨gSkip rfl (.inr ⟨6, true, 71, rfl, (by kernel_rfl), (by kernel_rfl), rfl, rfl⟩) rfl rfl, ?_⟩
              refine ⟨gSkip rfl (.inr ⟨6, true, 71, rfl, (by kernel_rfl), (by kernel_rfl), rfl, rfl⟩) rfl rfl, ?_⟩
              refine ⟨gVal rfl (.inl ⟨rfl, rfl⟩) rfl (fun Lb v act wy K => by
               have e1 : act.eval (.tmp 71) = .bool false := K.at_val 6 (by kernel_rfl) (by kernel_rfl) rfl
               have ec : act.eval (.const (.bool false)) = .bool false := rfl
               show (execOp act.eval _).run Tryz.prog wy = .ok (.value (.bool false)) wy
               generalize act.eval = ρ at e1 ec ⊢
               unfold execOp
               simp [go_sem, e1, ec]), ?_⟩
              refine ⟨gVal rfl (.inl ⟨rfl, rfl⟩) rfl (fun Lb v act wy K => by
               have e1 : act.eval (.tmp 85) = .bool false := K.at_val 20 (by kernel_rfl) (by kernel_rfl) rfl
               exact run_move _ rfl e1), ?_⟩
              refine ⟨gSkip rfl (.inr ⟨21, true, 86, rfl, (by kernel_rfl), (by kernel_rfl), rfl, rfl⟩) rfl rfl, ?_⟩
              refine ⟨gSkip rfl (.inr ⟨21, true, 86, rfl, (by kernel_rfl), (by kernel_rfl), rfl, rfl⟩) rfl rfl, ?_⟩
              refine ⟨gSkip rfl (.inr ⟨21, true, 86, rfl, (by kernel_rfl), (by kernel_rfl), rfl, rfl⟩) rfl rfl, ?_⟩
              refine ⟨gSkip rfl (.inr ⟨21, true, 86, rfl, (by kernel_rfl), (by kernel_rfl), rfl, rfl⟩) rfl rfl, ?_⟩
              refine ⟨gSkip rfl (.inr ⟨21, true, 86, rfl, (by kernel_rfl), (by kernel_rfl), rfl, rfl⟩) rfl rfl, ?_⟩
              refine ⟨gSkip rfl (.inr ⟨21, true, 86, rfl, (by kernel_rfl), (by kernel_rfl), rfl, rfl⟩) rfl rfl, ?_⟩
              refine ⟨gSkip rfl (.inr ⟨21, true, 86, rfl, (by kernel_rfl), (by kernel_rfl), rfl, rfl⟩) rfl rfl, ?_⟩
              refine ⟨gSkip rfl (.inr ⟨21, true, 86, rfl, (by kernel_rfl), (by kernel_rfl), rfl, rfl⟩) rfl rfl, ?_⟩
              refine ⟨gSkip rfl (.inr ⟨21, true, 86, rfl, (by kernel_rfl), (by kernel_rfl), rfl, rfl⟩) rfl rfl, ?_⟩
              refine ⟨gSkip rfl (.inr ⟨21, true, 86, rfl, (by kernel_rfl), (by kernel_rfl), rfl, rfl⟩) rfl rfl, ?_⟩
              refine ⟨gVal rfl (.inl ⟨rfl, rfl⟩) rfl (fun Lb v act wy K => by
               have e1 : act.eval (.tmp 86) = .bool false := K.at_val 21 (by kernel_rfl) (by kernel_rfl) rfl
               have ec : act.eval (.const (.bool false)) = .bool false := rfl
               show (execOp act.eval _).run Tryz.prog wy = .ok (.value (.bool false)) wy
               generalize act.eval = ρ at e1 ec ⊢
               unfold execOp
               simp [go_sem, e1, ec]), ?_⟩
              exact trivial
            have eL : v 32 = .bool false := hG 32 (by show 32 < 33; decide)
            have HU := hid (HBr.out.trans (hb_.mono HBr.out.size))
            clear hG hb_
            simp only [putsAll, Act.put, List.setIfInBounds_toArray, List.set_cons_zero, List.set_cons_succ, eL]
            clear eL
            go_wp2
            exact ⟨⟨k + 1, by omega, by go_num, by rw [HN.out], HU.out⟩, by simp [intOf]; omega⟩
          rw [hu] at hup HLV
          have HUP := hid hup
          clear hu hup
          by_cases hxe : x.H.ep = E
          rotate_left
          · have HN : Hid ((leasesTo X (k + 1)).count (a, e) = (leasesTo X k).count (a, e)) := count_no1 (by rw [HLV.out, decide_eq_false hxe]; rfl) (a, e)
            generalize (leasesTo X k).count (a, e) = c at *
            go_upto_region 12 with fail
            refine region_grow (val := fun i => [.pointer (some ⟨w.heap.size, 3, none⟩), .slice (some ⟨hb, ho, none⟩) 3 c4, .int .i64 (k : Int), .pointer (some ⟨hb, ho + k * 16, none⟩), .pointer (some ⟨hb, ho + k * 16 + 2, none⟩), .bool true, .bool true, .pointer (some ⟨w.heap.size, 3, none⟩), .slice (some ⟨hb, ho, none⟩) 3 c4, .int .i64 (k : Int), .pointer (some ⟨hb, ho + k * 16, none⟩), .pointer (some ⟨hb, ho + k * 16 + 1, none⟩), .int .i64 x.H.ep, .pointer (some ⟨w.heap.size, 0, none⟩), .pointer (some ⟨w.heap.size, 1, none⟩), .slice (some ⟨eb, eo, none⟩) 3 c2, .int .i64 (k : Int), .pointer (some ⟨eb, eo + k, none⟩), .int .i64 E, .bool false, .bool false, .bool false, undef, undef, undef, undef, undef, undef, undef, undef, undef, undef, .bool false].getD i undef) (sp := fun _ => none) true (by kernel_rfl) (by kernel_rfl) [some 65, some 66, some 67, some 68, some 69, some 70, some 71, some 72, some 73, some 74, some 75, some 76, some 77, some 78, some 79, some 80, some 81, some 82, some 83, some 84, some 85, some 86, some 87, some 88, some 89, some 90, some 91, some 92, some 93, some 94, some 95, some 96, some 97] (by kernel_rfl) (fun _ _ h => by cases h) ?_ (fun v w12 hb_ hG => ?_)
            · refine ⟨gVal rfl (.inl ⟨rfl, rfl⟩) rfl (fun Lb v act wy K => by
               have e1 : act.eval (.tmp 3) = .pointer (some ⟨w.heap.size, 0, none⟩) := (K.off (x := .tmp 3) (by kernel_rfl)).trans rfl
               show (execOp act.eval _).run Tryz.prog wy = .ok (.value (.pointer (some ⟨w.heap.size, 3, none⟩))) wy
               generalize act.eval = ρ at e1 ⊢
               unfold execOp
               simp [go_sem, e1]), ?_⟩
              refine ⟨gVal rfl (.inl ⟨rfl, rfl⟩) rfl (fun Lb v act wy K => by
               have e1 : act.eval (.tmp 65) = .pointer (some ⟨w.heap.size, 3, none⟩) := K.at_val 0 (by kernel_rfl) (by kernel_rfl) rfl
               have e2 := Rg.cell_later (HC3.out) K.bel
               show (execOp act.eval _).run Tryz.prog wy = .ok (.value (.slice (some ⟨hb, ho, none⟩) 3 c4)) wy
               generalize act.eval = ρ at e1 ⊢
               unfold execOp
               simp [go_sem, e1, e2]), ?_⟩
              refine ⟨gVal rfl (.inl ⟨rfl, rfl⟩) rfl (fun Lb v act wy K => by
               have e1 : act.eval (.tmp 13) = .int .i64 (k : Int) := (K.off (x := .tmp 13) (by kernel_rfl)).trans rfl
               exact run_move _ rfl e1), ?_⟩
              refine ⟨gVal rfl (.inl ⟨rfl, rfl⟩) rfl (fun Lb v act wy K => by
               have e1 : act.eval (.tmp 66) = .slice (some ⟨hb, ho, none⟩) 3 c4 := K.at_val 1 (by kernel_rfl) (by kernel_rfl) rfl
               have e2 : act.eval (.tmp 67) = .int .i64 (k : Int) := K.at_val 2 (by kernel_rfl) (by kernel_rfl) rfl
               show (execOp act.eval _).run Tryz.prog wy = .ok (.value (.pointer (some ⟨hb, ho + k * 16, none⟩))) wy
               generalize act.eval = ρ at e1 e2 ⊢
               unfold execOp
               simp [go_sem, e1, e2, hk3]), ?_⟩
              refine ⟨gVal rfl (.inl ⟨rfl, rfl⟩) rfl (fun Lb v act wy K => by
               have e1 : act.eval (.tmp 68) = .pointer (some ⟨hb, ho + k * 16, none⟩) := K.at_val 3 (by kernel_rfl) (by kernel_rfl) rfl
               show (execOp act.eval _).run Tryz.prog wy = .ok (.value (.pointer (some ⟨hb, ho + k * 16 + 2, none⟩))) wy
               generalize act.eval = ρ at e1 ⊢
               unfold execOp
               simp [go_sem, e1]), ?_⟩
              refine ⟨gVal rfl (.inl ⟨rfl, rfl⟩) rfl (fun Lb v act wy K => by
               have e1 : act.eval (.tmp 69) = .pointer (some ⟨hb, ho + k * 16 + 2, none⟩) := K.at_val 4 (by kernel_rfl) (by kernel_rfl) rfl
               have e2 := Rg.cell_later (HUP.out) K.bel
               show (execOp act.eval _).run Tryz.prog wy = .ok (.value (.bool true)) wy
               generalize act.eval = ρ at e1 ⊢
               unfold execOp
               simp [go_sem, e1, e2]), ?_⟩
              refine ⟨gVal rfl (.inl ⟨rfl, rfl⟩) rfl (fun Lb v act wy K => by
               have e1 : act.eval (.tmp 70) = .bool true := K.at_val 5 (by kernel_rfl) (by kernel_rfl) rfl
               exact run_move _ rfl e1), ?_⟩
              refine ⟨gVal rfl (.inr ⟨6, true, 71, rfl, (by kernel_rfl), (by kernel_rfl), rfl, rfl⟩) rfl (fun Lb v act wy K => by
               have e1 : act.eval (.tmp 3) = .pointer (some ⟨w.heap.size, 0, none⟩) := (K.off (x := .tmp 3) (by kernel_rfl)).trans rfl
               show (execOp act.eval _).run Tryz.prog wy = .ok (.value (.pointer (some ⟨w.heap.size, 3, none⟩))) wy
               generalize act.eval = ρ at e1 ⊢
               unfold execOp
               simp [go_sem, e1]), ?_⟩
              refine ⟨gVal rfl (.inr ⟨6, true, 71, rfl, (by kernel_rfl), (by kernel_rfl), rfl, rfl⟩) rfl (fun Lb v act wy K => by
               have e1 : act.eval (.tmp 72) = .pointer (some ⟨w.heap.size, 3, none⟩) := K.at_val 7 (by kernel_rfl) (by kernel_rfl) rfl
               have e2 := Rg.cell_later (HC3.out) K.bel
               show (execOp act.eval _).run Tryz.prog wy = .ok (.value (.slice (some ⟨hb, ho, none⟩) 3 c4)) wy
               generalize act.eval = ρ at e1 ⊢
               unfold execOp
               simp [go_sem, e1, e2]), ?_⟩
              refine ⟨gVal rfl (.inr ⟨6, true, 71, rfl, (by kernel_rfl), (by kernel_rfl), rfl, rfl⟩) rfl (fun Lb v act wy K => by
               have e1 : act.eval (.tmp 13) = .int .i64 (k : Int) := (K.off (x := .tmp 13) (by kernel_rfl)).trans rfl
               exact run_move _ rfl e1), ?_⟩
              refine ⟨gVal rfl (.inr ⟨6, true, 71, rfl, (by kernel_rfl), (by kernel_rfl), rfl, rfl⟩) rfl (fun Lb v act wy K => by
               have e1 : act.eval (.tmp 73) = .slice (some ⟨hb, ho, none⟩) 3 c4 := K.at_val 8 (by kernel_rfl) (by kernel_rfl) rfl
               have e2 : act.eval (.tmp 74) = .int .i64 (k : Int) := K.at_val 9 (by kernel_rfl) (by kernel_rfl) rfl
               show (execOp act.eval _).run Tryz.prog wy = .ok (.value (.pointer (some ⟨hb, ho + k * 16, none⟩))) wy
               generalize act.eval = ρ at e1 e2 ⊢
               unfold execOp
               simp [go_sem, e1, e2, hk3]), ?_⟩
              refine ⟨gVal rfl (.inr ⟨6, true, 71, rfl, (by kernel_rfl), (by kernel_rfl), rfl, rfl⟩) rfl (fun Lb v act wy K => by
               have e1 : act.eval (.tmp 75) = .pointer (some ⟨hb, ho + k * 16, none⟩) := K.at_val 10 (by kernel_rfl) (by kernel_rfl) rfl
               show (execOp act.eval _).run Tryz.prog wy = .ok (.value (.pointer (some ⟨hb, ho + k * 16 + 1, none⟩))) wy
               generalize act.eval = ρ at e1 ⊢
               unfold execOp
               simp [go_sem, e1]), ?_⟩
              refine ⟨gVal rfl (.inr ⟨6, true, 71, rfl, (by kernel_rfl), (by kernel_rfl), rfl, rfl⟩) rfl (fun Lb v act wy K => by
               have e1 : act.eval (.tmp 76) = .pointer (some ⟨hb, ho + k * 16 + 1, none⟩) := K.at_val 11 (by kernel_rfl) (by kernel_rfl) rfl
               have e2 := Rg.cell_later (HEQ.out) K.bel
               show (execOp act.eval _).run Tryz.prog wy = .ok (.value (.int .i64 x.H.ep)) wy
               generalize act.eval = ρ at e1 ⊢
               unfold execOp
               simp [go_sem, e1, e2]), ?_⟩
              refine ⟨gVal rfl (.inr ⟨6, true, 71, rfl, (by kernel_rfl), (by kernel_rfl), rfl, rfl⟩) rfl (fun Lb v act wy K => by
               have e1 : act.eval (.tmp 3) = .pointer (some ⟨w.heap.size, 0, none⟩) := (K.off (x := .tmp 3) (by kernel_rfl)).trans rfl
               show (execOp act.eval _).run Tryz.prog wy = .ok (.value (.pointer (some ⟨w.heap.size, 0, none⟩))) wy
               generalize act.eval = ρ at e1 ⊢
               unfold execOp
               simp [go_sem, e1]), ?_⟩
              refine ⟨gVal rfl (.inr ⟨6, true, 71, rfl, (by kernel_rfl), (by kernel_rfl), rfl, rfl⟩) rfl (fun Lb v act wy K => by
               have e1 : act.eval (.tmp 78) = .pointer (some ⟨w.heap.size, 0, none⟩) := K.at_val 13 (by kernel_rfl) (by kernel_rfl) rfl
               show (execOp act.eval _).run Tryz.prog wy = .ok (.value (.pointer (some ⟨w.heap.size, 1, none⟩))) wy
               generalize act.eval = ρ at e1 ⊢
               unfold execOp
               simp [go_sem, e1]), ?_⟩
              refine ⟨gVal rfl (.inr ⟨6, true, 71, rfl, (by kernel_rfl), (by kernel_rfl), rfl, rfl⟩) rfl (fun Lb v act wy K => by
               have e1 : act.eval (.tmp 79) = .pointer (some ⟨w.heap.size, 1, none⟩) := K.at_val 14 (by kernel_rfl) (by kernel_rfl) rfl
               have e2 := Rg.cell_later (HC1.out) K.bel
               show (execOp act.eval _).run Tryz.prog wy = .ok (.value (.slice (some ⟨eb, eo, none⟩) 3 c2)) wy
               generalize act.eval = ρ at e1 ⊢
               unfold execOp
               simp [go_sem, e1, e2]), ?_⟩
              refine ⟨gVal rfl (.inr ⟨6, true, 71, rfl, (by kernel_rfl), (by kernel_rfl), rfl, rfl⟩) rfl (fun Lb v act wy K => by
               have e1 : act.eval (.tmp 13) = .int .i64 (k : Int) := (K.off (x := .tmp 13) (by kernel_rfl)).trans rfl
               exact run_move _ rfl e1), ?_⟩
              refine ⟨gVal rfl (.inr ⟨6, true, 71, rfl, (by kernel_rfl), (by kernel_rfl), rfl, rfl⟩) rfl (fun Lb v act wy K => by
               have e1 : act.eval (.tmp 80) = .slice (some ⟨eb, eo, none⟩) 3 c2 := K.at_val 15 (by kernel_rfl) (by kernel_rfl) rfl
               have e2 : act.eval (.tmp 81) = .int .i64 (k : Int) := K.at_val 16 (by kernel_rfl) (by kernel_rfl) rfl
               show (execOp act.eval _).run Tryz.prog wy = .ok (.value (.pointer (some ⟨eb, eo + k, none⟩))) wy
               generalize act.eval = ρ at e1 e2 ⊢
               unfold execOp
               simp [go_sem, e1, e2, hk3]), ?_⟩
              refine ⟨gVal rfl (.inr ⟨6, true, 71, rfl, (by kernel_rfl), (by kernel_rfl), rfl, rfl⟩) rfl (fun Lb v act wy K => by
               have e1 : act.eval (.tmp 82) = .pointer (some ⟨eb, eo + k, none⟩) := K.at_val 17 (by kernel_rfl) (by kernel_rfl) rfl
               have e2 := Rg.cell_later (HCE.out) K.bel
               show (execOp act.eval _).run Tryz.prog wy = .ok (.value (.int .i64 E)) wy
               generalize act.eval = ρ at e1 ⊢
               unfold execOp
               simp [go_sem, e1, e2]), ?_⟩
              refine ⟨gVal rfl (.inr ⟨6, true, 71, rfl, (by kernel_rfl), (by kernel_rfl), rfl, rfl⟩) rfl (fun Lb v act wy K => by
               have e1 : act.eval (.tmp 77) = .int .i64 x.H.ep := K.at_val 12 (by kernel_rfl) (by kernel_rfl) rfl
               have e2 : act.eval (.tmp 83) = .int .i64 E := K.at_val 18 (by kernel_rfl) (by kernel_rfl) rfl
               show (execOp act.eval _).run Tryz.prog wy = .ok (.value (.bool false)) wy
               generalize act.eval = ρ at e1 e2 ⊢
               unfold execOp
               simp [go_sem, e1, e2, hxe]), ?_⟩
              refine ⟨gVal rfl (.inl ⟨rfl, rfl⟩) rfl (fun Lb v act wy K => by
               have e1 : act.eval (.tmp 71) = .bool true := K.at_val 6 (by kernel_rfl) (by kernel_rfl) rfl
               have e2 : act.eval (.tmp 84) = .bool false := K.at_val 19 (by kernel_rfl) (by kernel_rfl) rfl
               show (execOp act.eval _).run Tryz.prog wy = .ok (.value (.bool false)) wy
               generalize act.eval = ρ at e1 e2 ⊢
               unfold execOp
               simp [go_sem, e1, e2]), ?_⟩
              refine ⟨gVal rfl (.inl ⟨rfl, rfl⟩) rfl (fun Lb v act wy K => by
               have e1 : act.eval (.tmp 85) = .bool false := K.at_val 20 (by kernel_rfl) (by kernel_rfl) rfl
               exact run_move _ rfl e1), ?_⟩
              refine ⟨gSkip rfl (.inr ⟨21, true, 86, rfl, (by kernel_rfl), (by kernel_rfl), rfl, rfl⟩) rfl rfl, ?_⟩
              refine ⟨gSkip rfl (.inr ⟨21, true, 86, rfl, (by kernel_rfl), (by kernel_rfl), rfl, rfl⟩) rfl rfl, ?_⟩
              refine ⟨gSkip rfl (.inr ⟨21, true, 86, rfl, (by kernel_rfl), (by kernel_rfl), rfl, rfl⟩) rfl rfl, ?_⟩
              refine ⟨gSkip rfl (.inr ⟨21, true, 86, rfl, (by kernel_rfl), (by kernel_rfl), rfl, rfl⟩) rfl rfl, ?_⟩
              refine ⟨gSkip rfl (.inr ⟨21, true, 86, rfl, (by kernel_rfl), (by kernel_rfl), rfl, rfl⟩) rfl rfl, ?_⟩
              refine ⟨gSkip rfl (.inr ⟨21, true, 86, rfl, (by kernel_rfl), (by kernel_rfl), rfl, rfl⟩) rfl rfl, ?_⟩
              refine ⟨gSkip rfl (.inr ⟨21, true, 86, rfl, (by kernel_rfl), (by kernel_rfl), rfl, rfl⟩) rfl rfl, ?_⟩
              refine ⟨gSkip rfl (.inr ⟨21, true, 86, rfl, (by kernel_rfl), (by kernel_rfl), rfl, rfl⟩) rfl rfl, ?_⟩
              refine ⟨gSkip rfl (.inr ⟨21, true, 86, rfl, (by kernel_rfl), (by kernel_rfl), rfl, rfl⟩) rfl rfl, ?_⟩
              refine ⟨gSkip rfl (.inr ⟨21, true, 86, rfl, (by kernel_rfl), (by kernel_rfl), rfl, rfl⟩) rfl rfl, ?_⟩
              refine ⟨gVal rfl (.inl ⟨rfl, rfl⟩) rfl (fun Lb v act wy K => by
               have e1 : act.eval (.tmp 86) = .bool false := K.at_val 21 (by kernel_rfl) (by kernel_rfl) rfl
               have ec : act.eval (.const (.bool false)) = .bool false := rfl
               show (execOp act.eval _).run Tryz.prog wy = .ok (.value (.bool false)) wy
               generalize act.eval = ρ at e1 ec ⊢
               unfold execOp
               simp [go_sem, e1, ec]), ?_⟩
              exact trivial
            have eL : v 32 = .bool false := hG 32 (by show 32 < 33; decide)
            have HU := hid (HBr.out.trans (hb_.mono HBr.out.size))
            clear hG hb_
            simp only [putsAll, Act.put, List.setIfInBounds_toArray, List.set_cons_zero, List.set_cons_succ, eL]
            clear eL
            go_wp2
            exact ⟨⟨k + 1, by omega, by go_num, by rw [HN.out], HU.out⟩, by simp [intOf]; omega⟩
          by_cases hxa : a = (k : Int)
          rotate_left
          · have HN : Hid ((leasesTo X (k + 1)).count (a, e) = (leasesTo X k).count (a, e)) := count_no2 (by rw [HKE.out]; exact fun q => hxa (congrArg Prod.fst q))
            generalize (leasesTo X k).count (a, e) = c at *
            go_upto_region 12 with fail
            refine region_grow (val := fun i => [.pointer (some ⟨w.heap.size, 3, none⟩), .slice (some ⟨hb, ho, none⟩) 3 c4, .int .i64 (k : Int), .pointer (some ⟨hb, ho + k * 16, none⟩), .pointer (some ⟨hb, ho + k * 16 + 2, none⟩), .bool true, .bool true, .pointer (some ⟨w.heap.size, 3, none⟩), .slice (some ⟨hb, ho, none⟩) 3 c4, .int .i64 (k : Int), .pointer (some ⟨hb, ho + k * 16, none⟩), .pointer (some ⟨hb, ho + k * 16 + 1, none⟩), .int .i64 x.H.ep, .pointer (some ⟨w.heap.size, 0, none⟩), .pointer (some ⟨w.heap.size, 1, none⟩), .slice (some ⟨eb, eo, none⟩) 3 c2, .int .i64 (k : Int), .pointer (some ⟨eb, eo + k, none⟩), .int .i64 E, .bool true, .bool true, .bool true, .agg (List.toArray [.int .i64 a, .int .i64 e]), .int .i64 (k : Int), .pointer (some ⟨w.heap.size, 3, none⟩), .slice (some ⟨hb, ho, none⟩) 3 c4, .int .i64 (k : Int), .pointer (some ⟨hb, ho + k * 16, none⟩), .pointer (some ⟨hb, ho + k * 16 + 1, none⟩), .int .i64 x.H.ep, .agg #[.int .i64 (k : Int), .int .i64 x.H.ep], .bool false, .bool false].getD i undef) (sp := fun _ => none) true (by kernel_rfl) (by kernel_rfl) [some 65, some 66, some 67, some 68, some 69, some 70, some 71, some 72, some 73, some 74, some 75, some 76, some 77, some 78, some 79, some 80, some 81, some 82, some 83, some 84, some 85, some 86, some 87, some 88, some 89, some 90, some 91, some 92, some 93, some 94, some 95, some 96, some 97] (by kernel_rfl) (fun _ _ h => by cases h) ?_ (fun v w12 hb_ hG => ?_)
            · refine ⟨gVal rfl (.inl ⟨rfl, rfl⟩) rfl (fun Lb v act wy K => by
               have e1 : act.eval (.tmp 3) = .pointer (some ⟨w.heap.size, 0, none⟩) := (K.off (x := .tmp 3) (by kernel_rfl)).trans rfl
               show (execOp act.eval _).run Tryz.prog wy = .ok (.value (.pointer (some ⟨w.heap.size, 3, none⟩))) wy
               generalize act.eval = ρ at e1 ⊢
               unfold execOp
               simp [go_sem, e1]), ?_⟩
              refine ⟨gVal rfl (.inl ⟨rfl, rfl⟩) rfl (fun Lb v act wy K => by
               have e1 : act.eval (.tmp 65) = .pointer (some ⟨w.heap.size, 3, none⟩) := K.at_val 0 (by kernel_rfl) (by kernel_rfl) rfl
               have e2 := Rg.cell_later (HC3.out) K.bel
               show (execOp act.eval _).run Tryz.prog wy = .ok (.value (.slice (some ⟨hb, ho, none⟩) 3 c4)) wy
               generalize act.eval = ρ at e1 ⊢
               unfold execOp
               simp [go_sem, e1, e2]), ?_⟩
              refine ⟨gVal rfl (.inl ⟨rfl, rfl⟩) rfl (fun Lb v act wy K => by
               have e1 : act.eval (.tmp 13) = .int .i64 (k : Int) := (K.off (x := .tmp 13) (by kernel_rfl)).trans rfl
               exact run_move _ rfl e1), ?_⟩
              refine ⟨gVal rfl (.inl ⟨rfl, rfl⟩) rfl (fun Lb v act wy K => by
               have e1 : act.eval (.tmp 66) = .slice (some ⟨hb, ho, none⟩) 3 c4 := K.at_val 1 (by kernel_rfl) (by kernel_rfl) rfl
               have e2 : act.eval (.tmp 67) = .int .i64 (k : Int) := K.at_val 2 (by kernel_rfl) (by kernel_rfl) rfl
               show (execOp act.eval _).run Tryz.prog wy = .ok (.value (.pointer (some ⟨hb, ho + k * 16, none⟩))) wy
               generalize act.eval = ρ at e1 e2 ⊢
               unfold execOp
               simp [go_sem, e1, e2, hk3]), ?_⟩
              refine ⟨gVal rfl (.inl ⟨rfl, rfl⟩) rfl (fun Lb v act wy K => by
               have e1 : act.eval (.tmp 68) = .pointer (some ⟨hb, ho + k * 16, none⟩) := K.at_val 3 (by kernel_rfl) (by kernel_rfl) rfl
               show (execOp act.eval _).run Tryz.prog wy = .ok (.value (.pointer (some ⟨hb, ho + k * 16 + 2, none⟩))) wy
               generalize act.eval = ρ at e1 ⊢
               unfold execOp
               simp [go_sem, e1]), ?_⟩
              refine ⟨gVal rfl (.inl ⟨rfl, rfl⟩) rfl (fun Lb v act wy K => by
               have e1 : act.eval (.tmp 69) = .pointer (some ⟨hb, ho + k * 16 + 2, none⟩) := K.at_val 4 (by kernel_rfl) (by kernel_rfl) rfl
               have e2 := Rg.cell_later (HUP.out) K.bel
               show (execOp act.eval _).run Tryz.prog wy = .ok (.value (.bool true)) wy
               generalize act.eval = ρ at e1 ⊢
               unfold execOp
               simp [go_sem, e1, e2]), ?_⟩
              refine ⟨gVal rfl (.inl ⟨rfl, rfl⟩) rfl (fun Lb v act wy K => by
               have e1 : act.eval (.tmp 70) = .bool true := K.at_val 5 (by kernel_rfl) (by kernel_rfl) rfl
               exact run_move _ rfl e1), ?_⟩
              refine ⟨gVal rfl (.inr ⟨6, true, 71, rfl, (by kernel_rfl), (by kernel_rfl), rfl, rfl⟩) rfl (fun Lb v act wy K => by
               have e1 : act.eval (.tmp 3) = .pointer (some ⟨w.heap.size, 0, none⟩) := (K.off (x := .tmp 3) (by kernel_rfl)).trans rfl
               show (execOp act.eval _).run Tryz.prog wy = .ok (.value (.pointer (some ⟨w.heap.size, 3, none⟩))) wy
               generalize act.eval = ρ at e1 ⊢
               unfold execOp
               simp [go_sem, e1]), ?_⟩
              refine ⟨gVal rfl (.inr ⟨6, true, 71, rfl, (by kernel_rfl), (by kernel_rfl), rfl, rfl⟩) rfl (fun Lb v act wy K => by
               have e1 : act.eval (.tmp 72) = .pointer (some ⟨w.heap.size, 3, none⟩) := K.at_val 7 (by kernel_rfl) (by kernel_rfl) rfl
               have e2 := Rg.cell_later (HC3.out) K.bel
               show (execOp act.eval _).run Tryz.prog wy = .ok (.value (.slice (some ⟨hb, ho, none⟩) 3 c4)) wy
               generalize act.eval = ρ at e1 ⊢
               unfold execOp
               simp [go_sem, e1, e2]), ?_⟩
              refine ⟨gVal rfl (.inr ⟨6, true, 71, rfl, (by kernel_rfl), (by kernel_rfl), rfl, rfl⟩) rfl (fun Lb v act wy K => by
               have e1 : act.eval (.tmp 13) = .int .i64 (k : Int) := (K.off (x := .tmp 13) (by kernel_rfl)).trans rfl
               exact run_move _ rfl e1), ?_⟩
              refine ⟨gVal rfl (.inr ⟨6, true, 71, rfl, (by kernel_rfl), (by kernel_rfl), rfl, rfl⟩) rfl (fun Lb v act wy K => by
               have e1 : act.eval (.tmp 73) = .slice (some ⟨hb, ho, none⟩) 3 c4 := K.at_val 8 (by kernel_rfl) (by kernel_rfl) rfl
               have e2 : act.eval (.tmp 74) = .int .i64 (k : Int) := K.at_val 9 (by kernel_rfl) (by kernel_rfl) rfl
               show (execOp act.eval _).run Tryz.prog wy = .ok (.value (.pointer (some ⟨hb, ho + k * 16, none⟩))) wy
               generalize act.eval = ρ at e1 e2 ⊢
               unfold execOp
               simp [go_sem, e1, e2, hk3]), ?_⟩
              refine ⟨gVal rfl (.inr ⟨6, true, 71, rfl, (by kernel_rfl), (by kernel_rfl), rfl, rfl⟩) rfl (fun Lb v act wy K => by
               have e1 : act.eval (.tmp 75) = .pointer (some ⟨hb, ho + k * 16, none⟩) := K.at_val 10 (by kernel_rfl) (by kernel_rfl) rfl
               show (execOp act.eval _).run Tryz.prog wy = .ok (.value (.pointer (some ⟨hb, ho + k * 16 + 1, none⟩))) wy
               generalize act.eval = ρ at e1 ⊢
               unfold execOp
               simp [go_sem, e1]), ?_⟩
              refine ⟨gVal rfl (.inr ⟨6, true, 71, rfl, (by kernel_rfl), (by kernel_rfl), rfl, rfl⟩) rfl (fun Lb v act wy K => by
               have e1 : act.eval (.tmp 76) = .pointer (some ⟨hb, ho + k * 16 + 1, none⟩) := K.at_val 11 (by kernel_rfl) (by kernel_rfl) rfl
               have e2 := Rg.cell_later (HEQ.out) K.bel
               show (execOp act.eval _).run Tryz.prog wy = .ok (.value (.int .i64 x.H.ep)) wy
               generalize act.eval = ρ at e1 ⊢
               unfold execOp
               simp [go_sem, e1, e2]), ?_⟩
              refine ⟨gVal rfl (.inr ⟨6, true, 71, rfl, (by kernel_rfl), (by kernel_rfl), rfl, rfl⟩) rfl (fun Lb v act wy K => by
               have e1 : act.eval (.tmp 3) = .pointer (some ⟨w.heap.size, 0, none⟩) := (K.off (x := .tmp 3) (by kernel_rfl)).trans rfl
               show (execOp act.eval _).run Tryz.prog wy = .ok (.value (.pointer (some ⟨w.heap.size, 0, none⟩))) wy
               generalize act.eval = ρ at e1 ⊢
               unfold execOp
               simp [go_sem, e1]), ?_⟩
              refine ⟨gVal rfl (.inr ⟨6, true, 71, rfl, (by kernel_rfl), (by kernel_rfl), rfl, rfl⟩) rfl (fun Lb v act wy K => by
               have e1 : act.eval (.tmp 78) = .pointer (some ⟨w.heap.size, 0, none⟩) := K.at_val 13 (by kernel_rfl) (by kernel_rfl) rfl
               show (execOp act.eval _).run Tryz.prog wy = .ok (.value (.pointer (some ⟨w.heap.size, 1, none⟩))) wy
               generalize act.eval = ρ at e1 ⊢
               unfold execOp
               simp [go_sem, e1]), ?_⟩
              refine ⟨gVal rfl (.inr ⟨6, true, 71, rfl, (by kernel_rfl), (by kernel_rfl), rfl, rfl⟩) rfl (fun Lb v act wy K => by
               have e1 : act.eval (.tmp 79) = .pointer (some ⟨w.heap.size, 1, none⟩) := K.at_val 14 (by kernel_rfl) (by kernel_rfl) rfl
               have e2 := Rg.cell_later (HC1.out) K.bel
               show (execOp act.eval _).run Tryz.prog wy = .ok (.value (.slice (some ⟨eb, eo, none⟩) 3 c2)) wy
               generalize act.eval = ρ at e1 ⊢
               unfold execOp
               simp [go_sem, e1, e2]), ?_⟩
              refine ⟨gVal rfl (.inr ⟨6, true, 71, rfl, (by kernel_rfl), (by kernel_rfl), rfl, rfl⟩) rfl (fun Lb v act wy K => by
               have e1 : act.eval (.tmp 13) = .int .i64 (k : Int) := (K.off (x := .tmp 13) (by kernel_rfl)).trans rfl
               exact run_move _ rfl e1), ?_⟩
              refine ⟨gVal rfl (.inr ⟨6, true, 71, rfl, (by kernel_rfl), (by kernel_rfl), rfl, rfl⟩) rfl (fun Lb v act wy K => by
               have e1 : act.eval (.tmp 80) = .slice (some ⟨eb, eo, none⟩) 3 c2 := K.at_val 15 (by kernel_rfl) (by kernel_rfl) rfl
               have e2 : act.eval (.tmp 81) = .int .i64 (k : Int) := K.at_val 16 (by kernel_rfl) (by kernel_rfl) rfl
               show (execOp act.eval _).run Tryz.prog wy = .ok (.value (.pointer (some ⟨eb, eo + k, none⟩))) wy
               generalize act.eval = ρ at e1 e2 ⊢
               unfold execOp
               simp [go_sem, e1, e2, hk3]), ?_⟩
              refine ⟨gVal rfl (.inr ⟨6, true, 71, rfl, (by kernel_rfl), (by kernel_rfl), rfl, rfl⟩) rfl (fun Lb v act wy K => by
               have e1 : act.eval (.tmp 82) = .pointer (some ⟨eb, eo + k, none⟩) := K.at_val 17 (by kernel_rfl) (by kernel_rfl) rfl
               have e2 := Rg.cell_later (HCE.out) K.bel
               show (execOp act.eval _).run Tryz.prog wy = .ok (.value (.int .i64 E)) wy
               generalize act.eval = ρ at e1 ⊢
               unfold execOp
               simp [go_sem, e1, e2]), ?_⟩
              refine ⟨gVal rfl (.inr ⟨6, true, 71, rfl, (by kernel_rfl), (by kernel_rfl), rfl, rfl⟩) rfl (fun Lb v act wy K => by
               have e1 : act.eval (.tmp 77) = .int .i64 x.H.ep := K.at_val 12 (by kernel_rfl) (by kernel_rfl) rfl
               have e2 : act.eval (.tmp 83) = .int .i64 E := K.at_val 18 (by kernel_rfl) (by kernel_rfl) rfl
               show (execOp act.eval _).run Tryz.prog wy = .ok (.value (.bool true)) wy
               generalize act.eval = ρ at e1 e2 ⊢
               unfold execOp
               simp [go_sem, e1, e2, hxe]), ?_⟩
              refine ⟨gVal rfl (.inl ⟨rfl, rfl⟩) rfl (fun Lb v act wy K => by
               have e1 : act.eval (.tmp 71) = .bool true := K.at_val 6 (by kernel_rfl) (by kernel_rfl) rfl
               have e2 : act.eval (.tmp 84) = .bool true := K.at_val 19 (by kernel_rfl) (by kernel_rfl) rfl
               show (execOp act.eval _).run Tryz.prog wy = .ok (.value (.bool true)) wy
               generalize act.eval = ρ at e1 e2 ⊢
               unfold execOp
               simp [go_sem, e1, e2]), ?_⟩
              refine ⟨gVal rfl (.inl ⟨rfl, rfl⟩) rfl (fun Lb v act wy K => by
               have e1 : act.eval (.tmp 85) = .bool true := K.at_val 20 (by kernel_rfl) (by kernel_rfl) rfl
               exact run_move _ rfl e1), ?_⟩
              refine ⟨gVal rfl (.inr ⟨21, true, 86, rfl, (by kernel_rfl), (by kernel_rfl), rfl, rfl⟩) rfl (fun Lb v act wy K => Rg.run_load_at 53 (.tmp 11) rfl _ _ ((K.off (x := .tmp 11) (by kernel_rfl)).trans rfl) _ (rangeAt_below HLR.out K.bel) _ Tryz.underlying53 rfl (by kernel_rfl)), ?_⟩
              refine ⟨gVal rfl (.inr ⟨21, true, 86, rfl, (by kernel_rfl), (by kernel_rfl), rfl, rfl⟩) rfl (fun Lb v act wy K => by
               have e1 : act.eval (.tmp 13) = .int .i64 (k : Int) := (K.off (x := .tmp 13) (by kernel_rfl)).trans rfl
               exact run_move _ rfl e1), ?_⟩
              refine ⟨gVal rfl (.inr ⟨21, true, 86, rfl, (by kernel_rfl), (by kernel_rfl), rfl, rfl⟩) rfl (fun Lb v act wy K => by
               have e1 : act.eval (.tmp 3) = .pointer (some ⟨w.heap.size, 0, none⟩) := (K.off (x := .tmp 3) (by kernel_rfl)).trans rfl
               show (execOp act.eval _).run Tryz.prog wy = .ok (.value (.pointer (some ⟨w.heap.size, 3, none⟩))) wy
               generalize act.eval = ρ at e1 ⊢
               unfold execOp
               simp [go_sem, e1]), ?_⟩
              refine ⟨gVal rfl (.inr ⟨21, true, 86, rfl, (by kernel_rfl), (by kernel_rfl), rfl, rfl⟩) rfl (fun Lb v act wy K => by
               have e1 : act.eval (.tmp 89) = .pointer (some ⟨w.heap.size, 3, none⟩) := K.at_val 24 (by kernel_rfl) (by kernel_rfl) rfl
               have e2 := Rg.cell_later (HC3.out) K.bel
               show (execOp act.eval _).run Tryz.prog wy = .ok (.value (.slice (some ⟨hb, ho, none⟩) 3 c4)) wy
               generalize act.eval = ρ at e1 ⊢
               unfold execOp
               simp [go_sem, e1, e2]), ?_⟩
              refine ⟨gVal rfl (.inr ⟨21, true, 86, rfl, (by kernel_rfl), (by kernel_rfl), rfl, rfl⟩) rfl (fun Lb v act wy K => by
               have e1 : act.eval (.tmp 13) = .int .i64 (k : Int) := (K.off (x := .tmp 13) (by kernel_rfl)).trans rfl
               exact run_move _ rfl e1), ?_⟩
              refine ⟨gVal rfl (.inr ⟨21, true, 86, rfl, (by kernel_rfl), (by kernel_rfl), rfl, rfl⟩) rfl (fun Lb v act wy K => by
               have e1 : act.eval (.tmp 90) = .slice (some ⟨hb, ho, none⟩) 3 c4 := K.at_val 25 (by kernel_rfl) (by kernel_rfl) rfl
               have e2 : act.eval (.tmp 91) = .int .i64 (k : Int) := K.at_val 26 (by kernel_rfl) (by kernel_rfl) rfl
               show (execOp act.eval _).run Tryz.prog wy = .ok (.value (.pointer (some ⟨hb, ho + k * 16, none⟩))) wy
               generalize act.eval = ρ at e1 e2 ⊢
               unfold execOp
               simp [go_sem, e1, e2, hk3]), ?_⟩
              refine ⟨gVal rfl (.inr ⟨21, true, 86, rfl, (by kernel_rfl), (by kernel_rfl), rfl, rfl⟩) rfl (fun Lb v act wy K => by
               have e1 : act.eval (.tmp 92) = .pointer (some ⟨hb, ho + k * 16, none⟩) := K.at_val 27 (by kernel_rfl) (by kernel_rfl) rfl
               show (execOp act.eval _).run Tryz.prog wy = .ok (.value (.pointer (some ⟨hb, ho + k * 16 + 1, none⟩))) wy
               generalize act.eval = ρ at e1 ⊢
               unfold execOp
               simp [go_sem, e1]), ?_⟩
              refine ⟨gVal rfl (.inr ⟨21, true, 86, rfl, (by kernel_rfl), (by kernel_rfl), rfl, rfl⟩) rfl (fun Lb v act wy K => by
               have e1 : act.eval (.tmp 93) = .pointer (some ⟨hb, ho + k * 16 + 1, none⟩) := K.at_val 28 (by kernel_rfl) (by kernel_rfl) rfl
               have e2 := Rg.cell_later (HEQ.out) K.bel
               show (execOp act.eval _).run Tryz.prog wy = .ok (.value (.int .i64 x.H.ep)) wy
               generalize act.eval = ρ at e1 ⊢
               unfold execOp
               simp [go_sem, e1, e2]), ?_⟩
              refine ⟨gVal rfl (.inr ⟨21, true, 86, rfl, (by kernel_rfl), (by kernel_rfl), rfl, rfl⟩) rfl (fun Lb v act wy K => by
               have e1 : act.eval (.tmp 88) = .int .i64 (k : Int) := K.at_val 23 (by kernel_rfl) (by kernel_rfl) rfl
               have e2 : act.eval (.tmp 94) = .int .i64 x.H.ep := K.at_val 29 (by kernel_rfl) (by kernel_rfl) rfl
               show (execOp act.eval _).run Tryz.prog wy = .ok (.value (.agg #[.int .i64 (k : Int), .int .i64 x.H.ep])) wy
               generalize act.eval = ρ at e1 e2 ⊢
               unfold execOp
               simp [go_sem, e1, e2]), ?_⟩
              refine ⟨gVal rfl (.inr ⟨21, true, 86, rfl, (by kernel_rfl), (by kernel_rfl), rfl, rfl⟩) rfl (fun Lb v act wy K => by
               have e1 : act.eval (.tmp 87) = .agg (List.toArray [.int .i64 a, .int .i64 e]) := K.at_val 22 (by kernel_rfl) (by kernel_rfl) rfl
               have e2 : act.eval (.tmp 95) = .agg #[.int .i64 (k : Int), .int .i64 x.H.ep] := K.at_val 30 (by kernel_rfl) (by kernel_rfl) rfl
               show (execOp act.eval _).run Tryz.prog wy = .ok (.value (.bool false)) wy
               generalize act.eval = ρ at e1 e2 ⊢
               unfold execOp
               simp [go_sem, e1, e2, hxa]), ?_⟩
              refine ⟨gVal rfl (.inl ⟨rfl, rfl⟩) rfl (fun Lb v act wy K => by
               have e1 : act.eval (.tmp 86) = .bool true := K.at_val 21 (by kernel_rfl) (by kernel_rfl) rfl
               have e2 : act.eval (.tmp 96) = .bool false := K.at_val 31 (by kernel_rfl) (by kernel_rfl) rfl
               show (execOp act.eval _).run Tryz.prog wy = .ok (.value (.bool false)) wy
               generalize act.eval = ρ at e1 e2 ⊢
               unfold execOp
               simp [go_sem, e1, e2]), ?_⟩
              exact trivial
            have eL : v 32 = .bool false := hG 32 (by show 32 < 33; decide)
            have HU := hid (HBr.out.trans (hb_.mono HBr.out.size))
            clear hG hb_
            simp only [putsAll, Act.put, List.setIfInBounds_toArray, List.set_cons_zero, List.set_cons_succ, eL]
            clear eL
            go_wp2
            exact ⟨⟨k + 1, by omega, by go_num, by rw [HN.out], HU.out⟩, by simp [intOf]; omega⟩
          by_cases hxb : e = x.H.ep
          rotate_left
          · have HN : Hid ((leasesTo X (k + 1)).count (a, e) = (leasesTo X k).count (a, e)) := count_no2 (by rw [HKE.out]; exact fun q => hxb (congrArg Prod.snd q))
            generalize (leasesTo X k).count (a, e) = c at *
            go_upto_region 12 with fail
            refine region_grow (val := fun i => [.pointer (some ⟨w.heap.size, 3, none⟩), .slice (some ⟨hb, ho, none⟩) 3 c4, .int .i64 (k : Int), .pointer (some ⟨hb, ho + k * 16, none⟩), .pointer (some ⟨hb, ho + k * 16 + 2, none⟩), .bool true, .bool true, .pointer (some ⟨w.heap.size, 3, none⟩), .slice (some ⟨hb, ho, none⟩) 3 c4, .int .i64 (k : Int), .pointer (some ⟨hb, ho + k * 16, none⟩), .pointer (some ⟨hb, ho + k * 16 + 1, none⟩), .int .i64 x.H.ep, .pointer (some ⟨w.heap.size, 0, none⟩), .pointer (some ⟨w.heap.size, 1, none⟩), .slice (some ⟨eb, eo, none⟩) 3 c2, .int .i64 (k : Int), .pointer (some ⟨eb, eo + k, none⟩), .int .i64 E, .bool true, .bool true, .bool true, .agg (List.toArray [.int .i64 a, .int .i64 e]), .int .i64 (k : Int), .pointer (some ⟨w.heap.size, 3, none⟩), .slice (some ⟨hb, ho, none⟩) 3 c4, .int .i64 (k : Int), .pointer (some ⟨hb, ho + k * 16, none⟩), .pointer (some ⟨hb, ho + k * 16 + 1, none⟩), .int .i64 x.H.ep, .agg #[.int .i64 (k : Int), .int .i64 x.H.ep], .bool false, .bool false].getD i undef) (sp := fun _ => none) true (by kernel_rfl) (by kernel_rfl) [some 65, some 66, some 67, some 68, some 69, some 70, some 71, some 72, some 73, some 74, some 75, some 76, some 77, some 78, some 79, some 80, some 81, some 82, some 83, some 84, some 85, some 86, some 87, some 88, some 89, some 90, some 91, some 92, some 93, some 94, some 95, some 96, some 97] (by kernel_rfl) (fun _ _ h => by cases h) ?_ (fun v w12 hb_ hG => ?_)
            · refine ⟨gVal rfl (.inl ⟨rfl, rfl⟩) rfl (fun Lb v act wy K => by
               have e1 : act.eval (.tmp 3) = .pointer (some ⟨w.heap.size, 0, none⟩) := (K.off (x := .tmp 3) (by kernel_rfl)).trans rfl
               show (execOp act.eval _).run Tryz.prog wy = .ok (.value (.pointer (some ⟨w.heap.size, 3, none⟩))) wy
               generalize act.eval = ρ at e1 ⊢
               unfold execOp
               simp [go_sem, e1]), ?_⟩
              refine ⟨gVal rfl (.inl ⟨rfl, rfl⟩) rfl (fun Lb v act wy K => by
               have e1 : act.eval (.tmp 65) = .pointer (some ⟨w.heap.size, 3, none⟩) := K.at_val 0 (by kernel_rfl) (by kernel_rfl) rfl
               have e2 := Rg.cell_later (HC3.out) K.bel
               show (execOp act.eval _).run Tryz.prog wy = .ok (.value (.slice (some ⟨hb, ho, none⟩) 3 c4)) wy
               generalize act.eval = ρ at e1 ⊢
               unfold execOp
               simp [go_sem, e1, e2]), ?_⟩
              refine ⟨gVal rfl (.inl ⟨rfl, rfl⟩) rfl (fun Lb v act wy K => by
               have e1 : act.eval (.tmp 13) = .int .i64 (k : Int) := (K.off (x := .tmp 13) (by kernel_rfl)).trans rfl
               exact run_move _ rfl e1), ?_⟩
              refine ⟨gVal rfl (.inl ⟨rfl, rfl⟩) rfl (fun Lb v act wy K => by
               have e1 : act.eval (.tmp 66) = .slice (some ⟨hb, ho, none⟩) 3 c4 := K.at_val 1 (by kernel_rfl) (by kernel_rfl) rfl
               have e2 : act.eval (.tmp 67) = .int .i64 (k : Int) := K.at_val 2 (by kernel_rfl) (by kernel_rfl) rfl
               show (execOp act.eval _).run Tryz.prog wy = .ok (.value (.pointer (some ⟨hb, ho + k * 16, none⟩))) wy
               generalize act.eval = ρ at e1 e2 ⊢
               unfold execOp
               simp [go_sem, e1, e2, hk3]), ?_⟩
              refine ⟨gVal rfl (.inl ⟨rfl, rfl⟩) rfl (fun Lb v act wy K => by
               have e1 : act.eval (.tmp 68) = .pointer (some ⟨hb, ho + k * 16, none⟩) := K.at_val 3 (by kernel_rfl) (by kernel_rfl) rfl
               show (execOp act.eval _).run Tryz.prog wy = .ok (.value (.pointer (some ⟨hb, ho + k * 16 + 2, none⟩))) wy
               generalize act.eval = ρ at e1 ⊢
               unfold execOp
               simp [go_sem, e1]), ?_⟩
              refine ⟨gVal rfl (.inl ⟨rfl, rfl⟩) rfl (fun Lb v act wy K => by
               have e1 : act.eval (.tmp 69) = .pointer (some ⟨hb, ho + k * 16 + 2, none⟩) := K.at_val 4 (by kernel_rfl) (by kernel_rfl) rfl
               have e2 := Rg.cell_later (HUP.out) K.bel
               show (execOp act.eval _).run Tryz.prog wy = .ok (.value (.bool true)) wy
               generalize act.eval = ρ at e1 ⊢
               unfold execOp
               simp [go_sem, e1, e2]), ?_⟩
              refine ⟨gVal rfl (.inl ⟨rfl, rfl⟩) rfl (fun Lb v act wy K => by
               have e1 : act.eval (.tmp 70) = .bool true := K.at_val 5 (by kernel_rfl) (by kernel_rfl) rfl
               exact run_move _ rfl e1), ?_⟩
              refine ⟨gVal rfl (.inr ⟨6, true, 71, rfl, (by kernel_rfl), (by kernel_rfl), rfl, rfl⟩) rfl (fun Lb v act wy K => by
               have e1 : act.eval (.tmp 3) = .pointer (some ⟨w.heap.size, 0, none⟩) := (K.off (x := .tmp 3) (by kernel_rfl)).trans rfl
               show (execOp act.eval _).run Tryz.prog wy = .ok (.value (.pointer (some ⟨w.heap.size, 3, none⟩))) wy
               generalize act.eval = ρ at e1 ⊢
               unfold execOp
               simp [go_sem, e1]), ?_⟩
              refine ⟨gVal rfl (.inr ⟨6, true, 71, rfl, (by kernel_rfl), (by kernel_rfl), rfl, rfl⟩) rfl (fun Lb v act wy K => by
               have e1 : act.eval (.tmp 72) = .pointer (some ⟨w.heap.size, 3, none⟩) := K.at_val 7 (by kernel_rfl) (by kernel_rfl) rfl
               have e2 := Rg.cell_later (HC3.out) K.bel
               show (execOp act.eval _).run Tryz.prog wy = .ok (.value (.slice (some ⟨hb, ho, none⟩) 3 c4)) wy
               generalize act.eval = ρ at e1 ⊢
               unfold execOp
               simp [go_sem, e1, e2]), ?_⟩
              refine ⟨gVal rfl (.inr ⟨6, true, 71, rfl, (by kernel_rfl), (by kernel_rfl), rfl, rfl⟩) rfl (fun Lb v act wy K => by
               have e1 : act.eval (.tmp 13) = .int .i64 (k : Int) := (K.off (x := .tmp 13) (by kernel_rfl)).trans rfl
               exact run_move _ rfl e1), ?_⟩
              refine ⟨gVal rfl (.inr ⟨6, true, 71, rfl, (by kernel_rfl), (by kernel_rfl), rfl, rfl⟩) rfl (fun Lb v act wy K => by
               have e1 : act.eval (.tmp 73) = .slice (some ⟨hb, ho, none⟩) 3 c4 := K.at_val 8 (by kernel_rfl) (by kernel_rfl) rfl
               have e2 : act.eval (.tmp 74) = .int .i64 (k : Int) := K.at_val 9 (by kernel_rfl) (by kernel_rfl) rfl
               show (execOp act.eval _).run Tryz.prog wy = .ok (.value (.pointer (some ⟨hb, ho + k * 16, none⟩))) wy
               generalize act.eval = ρ at e1 e2 ⊢
               unfold execOp
               simp [go_sem, e1, e2, hk3]), ?_⟩
              refine ⟨gVal rfl (.inr ⟨6, true, 71, rfl, (by kernel_rfl), (by kernel_rfl), rfl, rfl⟩) rfl (fun Lb v act wy K => by
               have e1 : act.eval (.tmp 75) = .pointer (some ⟨hb, ho + k * 16, none⟩) := K.at_val 10 (by kernel_rfl) (by kernel_rfl) rfl
               show (execOp act.eval _).run Tryz.prog wy = .ok (.value (.pointer (some ⟨hb, ho + k * 16 + 1, none⟩))) wy
               generalize act.eval = ρ at e1 ⊢
               unfold execOp
               simp [go_sem, e1]), ?_⟩
              refine ⟨gVal rfl (.inr ⟨6, true, 71, rfl, (by kernel_rfl), (by kernel_rfl), rfl, rfl⟩) rfl (fun Lb v act wy K => by
               have e1 : act.eval (.tmp 76) = .pointer (some ⟨hb, ho + k * 16 + 1, none⟩) := K.at_val 11 (by kernel_rfl) (by kernel_rfl) rfl
               have e2 := Rg.cell_later (HEQ.out) K.bel
               show (execOp act.eval _).run Tryz.prog wy = .ok (.value (.int .i64 x.H.ep)) wy
               generalize act.eval = ρ at e1 ⊢
               unfold execOp
               simp [go_sem, e1, e2]), ?_⟩
              refine ⟨gVal rfl (.inr ⟨6, true, 71, rfl, (by kernel_rfl), (by kernel_rfl), rfl, rfl⟩) rfl (fun Lb v act wy K => by
               have e1 : act.eval (.tmp 3) = .pointer (some ⟨w.heap.size, 0, none⟩) := (K.off (x := .tmp 3) (by kernel_rfl)).trans rfl
               show (execOp act.eval _).run Tryz.prog wy = .ok (.value (.pointer (some ⟨w.heap.size, 0, none⟩))) wy
               generalize act.eval = ρ at e1 ⊢
               unfold execOp
               simp [go_sem, e1]), ?_⟩
              refine ⟨gVal rfl (.inr ⟨6, true, 71, rfl, (by kernel_rfl), (by kernel_rfl), rfl, rfl⟩) rfl (fun Lb v act wy K => by
               have e1 : act.eval (.tmp 78) = .pointer (some ⟨w.heap.size, 0, none⟩) := K.at_val 13 (by kernel_rfl) (by kernel_rfl) rfl
               show (execOp act.eval _).run Tryz.prog wy = .ok (.value (.pointer (some ⟨w.heap.size, 1, none⟩))) wy
               generalize act.eval = ρ at e1 ⊢
               unfold execOp
               simp [go_sem, e1]), ?_⟩
              refine ⟨gVal rfl (.inr ⟨6, true, 71, rfl, (by kernel_rfl), (by kernel_rfl), rfl, rfl⟩) rfl (fun Lb v act wy K => by
               have e1 : act.eval (.tmp 79) = .pointer (some ⟨w.heap.size, 1, none⟩) := K.at_val 14 (by kernel_rfl) (by kernel_rfl) rfl
               have e2 := Rg.cell_later (HC1.out) K.bel
               show (execOp act.eval _).run Tryz.prog wy = .ok (.value (.slice (some ⟨eb, eo, none⟩) 3 c2)) wy
               generalize act.eval = ρ at e1 ⊢
               unfold execOp
               simp [go_sem, e1, e2]), ?_⟩
              refine ⟨gVal rfl (.inr ⟨6, true, 71, rfl, (by kernel_rfl), (by kernel_rfl), rfl, rfl⟩) rfl (fun Lb v act wy K => by
               have e1 : act.eval (.tmp 13) = .int .i64 (k : Int) := (K.off (x := .tmp 13) (by kernel_rfl)).trans rfl
               exact run_move _ rfl e1), ?_⟩
              refine ⟨gVal rfl (.inr ⟨6, true, 71, rfl, (by kernel_rfl), (by kernel_rfl), rfl, rfl⟩) rfl (fun Lb v act wy K => by
               have e1 : act.eval (.tmp 80) = .slice (some ⟨eb, eo, none⟩) 3 c2 := K.at_val 15 (by kernel_rfl) (by kernel_rfl) rfl
               have e2 : act.eval (.tmp 81) = .int .i64 (k : Int) := K.at_val 16 (by kernel_rfl) (by kernel_rfl) rfl
               show (execOp act.eval _).run Tryz.prog wy = .ok (.value (.pointer (some ⟨eb, eo + k, none⟩))) wy
               generalize act.eval = ρ at e1 e2 ⊢
               unfold execOp
               simp [go_sem, e1, e2, hk3]), ?_⟩
              refine ⟨gVal rfl (.inr ⟨6, true, 71, rfl, (by kernel_rfl), (by kernel_rfl), rfl, rfl⟩) rfl (fun Lb v act wy K => by
               have e1 : act.eval (.tmp 82) = .pointer (some ⟨eb, eo + k, none⟩) := K.at_val 17 (by kernel_rfl) (by kernel_rfl) rfl
               have e2 := Rg.cell_later (HCE.out) K.bel
               show (execOp act.eval _).run Tryz.prog wy = .ok (.value (.int .i64 E)) wy
               generalize act.eval = ρ at e1 ⊢
               unfold execOp
               simp [go_sem, e1, e2]), ?_⟩
              refine ⟨gVal rfl (.inr ⟨6, true, 71, rfl, (by kernel_rfl), (by kernel_rfl), rfl, rfl⟩) rfl (fun Lb v act wy K => by
               have e1 : act.eval (.tmp 77) = .int .i64 x.H.ep := K.at_val 12 (by kernel_rfl) (by kernel_rfl) rfl
               have e2 : act.eval (.tmp 83) = .int .i64 E := K.at_val 18 (by kernel_rfl) (by kernel_rfl) rfl
               show (execOp act.eval _).run Tryz.prog wy = .ok (.value (.bool true)) wy
               generalize act.eval = ρ at e1 e2 ⊢
               unfold execOp
               simp [go_sem, e1, e2, hxe]), ?_⟩
              refine ⟨gVal rfl (.inl ⟨rfl, rfl⟩) rfl (fun Lb v act wy K => by
               have e1 : act.eval (.tmp 71) = .bool true := K.at_val 6 (by kernel_rfl) (by kernel_rfl) rfl
               have e2 : act.eval (.tmp 84) = .bool true := K.at_val 19 (by kernel_rfl) (by kernel_rfl) rfl
               show (execOp act.eval _).run Tryz.prog wy = .ok (.value (.bool true)) wy
               generalize act.eval = ρ at e1 e2 ⊢
               unfold execOp
               simp [go_sem, e1, e2]), ?_⟩
              refine ⟨gVal rfl (.inl ⟨rfl, rfl⟩) rfl (fun Lb v act wy K => by
               have e1 : act.eval (.tmp 85) = .bool true := K.at_val 20 (by kernel_rfl) (by kernel_rfl) rfl
               exact run_move _ rfl e1), ?_⟩
              refine ⟨gVal rfl (.inr ⟨21, true, 86, rfl, (by kernel_rfl), (by kernel_rfl), rfl, rfl⟩) rfl (fun Lb v act wy K => Rg.run_load_at 53 (.tmp 11) rfl _ _ ((K.off (x := .tmp 11) (by kernel_rfl)).trans rfl) _ (rangeAt_below HLR.out K.bel) _ Tryz.underlying53 rfl (by kernel_rfl)), ?_⟩
              refine ⟨gVal rfl (.inr ⟨21, true, 86, rfl, (by kernel_rfl), (by kernel_rfl), rfl, rfl⟩) rfl (fun Lb v act wy K => by
               have e1 : act.eval (.tmp 13) = .int .i64 (k : Int) := (K.off (x := .tmp 13) (by kernel_rfl)).trans rfl
               exact run_move _ rfl e1), ?_⟩
              refine ⟨gVal rfl (.inr ⟨21, true, 86, rfl, (by kernel_rfl), (by kernel_rfl), rfl, rfl⟩) rfl (fun Lb v act wy K => by
               have e1 : act.eval (.tmp 3) = .pointer (some ⟨w.heap.size, 0, none⟩) := (K.off (x := .tmp 3) (by kernel_rfl)).trans rfl
               show (execOp act.eval _).run Tryz.prog wy = .ok (.value (.pointer (some ⟨w.heap.size, 3, none⟩))) wy
               generalize act.eval = ρ at e1 ⊢
               unfold execOp
               simp [go_sem, e1]), ?_⟩
              refine ⟨gVal rfl (.inr ⟨21, true, 86, rfl, (by kernel_rfl), (by kernel_rfl), rfl, rfl⟩) rfl (fun Lb v act wy K => by
               have e1 : act.eval (.tmp 89) = .pointer (some ⟨w.heap.size, 3, none⟩) := K.at_val 24 (by kernel_rfl) (by kernel_rfl) rfl
               have e2 := Rg.cell_later (HC3.out) K.bel
               show (execOp act.eval _).run Tryz.prog wy = .ok (.value (.slice (some ⟨hb, ho, none⟩) 3 c4)) wy
               generalize act.eval = ρ at e1 ⊢
               unfold execOp
               simp [go_sem, e1, e2]), ?_⟩
              refine ⟨gVal rfl (.inr ⟨21, true, 86, rfl, (by kernel_rfl), (by kernel_rfl), rfl, rfl⟩) rfl (fun Lb v act wy K => by
               have e1 : act.eval (.tmp 13) = .int .i64 (k : Int) := (K.off (x := .tmp 13) (by kernel_rfl)).trans rfl
               exact run_move _ rfl e1), ?_⟩
              refine ⟨gVal rfl (.inr ⟨21, true, 86, rfl, (by kernel_rfl), (by kernel_rfl), rfl, rfl⟩) rfl (fun Lb v act wy K => by
               have e1 : act.eval (.tmp 90) = .slice (some ⟨hb, ho, none⟩) 3 c4 := K.at_val 25 (by kernel_rfl) (by kernel_rfl) rfl
               have e2 : act.eval (.tmp 91) = .int .i64 (k : Int) := K.at_val 26 (by kernel_rfl) (by kernel_rfl) rfl
               show (execOp act.eval _).run Tryz.prog wy = .ok (.value (.pointer (some ⟨hb, ho + k * 16, none⟩))) wy
               generalize act.eval = ρ at e1 e2 ⊢
               unfold execOp
               simp [go_sem, e1, e2, hk3]), ?_⟩
              refine ⟨gVal rfl (.inr ⟨21, true, 86, rfl, (by kernel_rfl), (by kernel_rfl), rfl, rfl⟩) rfl (fun Lb v act wy K => by
               have e1 : act.eval (.tmp 92) = .pointer (some ⟨hb, ho + k * 16, none⟩) := K.at_val 27 (by kernel_rfl) (by kernel_rfl) rfl
               show (execOp act.eval _).run Tryz.prog wy = .ok (.value (.pointer (some ⟨hb, ho + k * 16 + 1, none⟩))) wy
               generalize act.eval = ρ at e1 ⊢
               unfold execOp
               simp [go_sem, e1]), ?_⟩
              refine ⟨gVal rfl (.inr ⟨21, true, 86, rfl, (by kernel_rfl), (by kernel_rfl), rfl, rfl⟩) rfl (fun Lb v act wy K => by
               have e1 : act.eval (.tmp 93) = .pointer (some ⟨hb, ho + k * 16 + 1, none⟩) := K.at_val 28 (by kernel_rfl) (by kernel_rfl) rfl
               have e2 := Rg.cell_later (HEQ.out) K.bel
               show (execOp act.eval _).run Tryz.prog wy = .ok (.value (.int .i64 x.H.ep)) wy
               generalize act.eval = ρ at e1 ⊢
               unfold execOp
               simp [go_sem, e1, e2]), ?_⟩
              refine ⟨gVal rfl (.inr ⟨21, true, 86, rfl, (by kernel_rfl), (by kernel_rfl), rfl, rfl⟩) rfl (fun Lb v act wy K => by
               have e1 : act.eval (.tmp 88) = .int .i64 (k : Int) := K.at_val 23 (by kernel_rfl) (by kernel_rfl) rfl
               have e2 : act.eval (.tmp 94) = .int .i64 x.H.ep := K.at_val 29 (by kernel_rfl) (by kernel_rfl) rfl
               show (execOp act.eval _).run Tryz.prog wy = .ok (.value (.agg #[.int .i64 (k : Int), .int .i64 x.H.ep])) wy
               generalize act.eval = ρ at e1 e2 ⊢
               unfold execOp
               simp [go_sem, e1, e2]), ?_⟩
              refine ⟨gVal rfl (.inr ⟨21, true, 86, rfl, (by kernel_rfl), (by kernel_rfl), rfl, rfl⟩) rfl (fun Lb v act wy K => by
               have e1 : act.eval (.tmp 87) = .agg (List.toArray [.int .i64 a, .int .i64 e]) := K.at_val 22 (by kernel_rfl) (by kernel_rfl) rfl
               have e2 : act.eval (.tmp 95) = .agg #[.int .i64 (k : Int), .int .i64 x.H.ep] := K.at_val 30 (by kernel_rfl) (by kernel_rfl) rfl
               show (execOp act.eval _).run Tryz.prog wy = .ok (.value (.bool false)) wy
               generalize act.eval = ρ at e1 e2 ⊢
               unfold execOp
               simp [go_sem, e1, e2, hxa, hxb]), ?_⟩
              refine ⟨gVal rfl (.inl ⟨rfl, rfl⟩) rfl (fun Lb v act wy K => by
               have e1 : act.eval (.tmp 86) = .bool true := K.at_val 21 (by kernel_rfl) (by kernel_rfl) rfl
               have e2 : act.eval (.tmp 96) = .bool false := K.at_val 31 (by kernel_rfl) (by kernel_rfl) rfl
               show (execOp act.eval _).run Tryz.prog wy = .ok (.value (.bool false)) wy
               generalize act.eval = ρ at e1 e2 ⊢
               unfold execOp
               simp [go_sem, e1, e2]), ?_⟩
              exact trivial
            have eL : v 32 = .bool false := hG 32 (by show 32 < 33; decide)
            have HU := hid (HBr.out.trans (hb_.mono HBr.out.size))
            clear hG hb_
            simp only [putsAll, Act.put, List.setIfInBounds_toArray, List.set_cons_zero, List.set_cons_succ, eL]
            clear eL
            go_wp2
            exact ⟨⟨k + 1, by omega, by go_num, by rw [HN.out], HU.out⟩, by simp [intOf]; omega⟩
          have HN : Hid ((leasesTo X (k + 1)).count (a, e) = (leasesTo X k).count (a, e) + 1) := count_yes (by rw [HLV.out, decide_eq_true hxe]; rfl) (by rw [HKE.out, hxa, hxb])
          generalize (leasesTo X k).count (a, e) = c at *
          go_upto_region 12 with fail
          refine region_grow (val := fun i => [.pointer (some ⟨w.heap.size, 3, none⟩), .slice (some ⟨hb, ho, none⟩) 3 c4, .int .i64 (k : Int), .pointer (some ⟨hb, ho + k * 16, none⟩), .pointer (some ⟨hb, ho + k * 16 + 2, none⟩), .bool true, .bool true, .pointer (some ⟨w.heap.size, 3, none⟩), .slice (some ⟨hb, ho, none⟩) 3 c4, .int .i64 (k : Int), .pointer (some ⟨hb, ho + k * 16, none⟩), .pointer (some ⟨hb, ho + k * 16 + 1, none⟩), .int .i64 x.H.ep, .pointer (some ⟨w.heap.size, 0, none⟩), .pointer (some ⟨w.heap.size, 1, none⟩), .slice (some ⟨eb, eo, none⟩) 3 c2, .int .i64 (k : Int), .pointer (some ⟨eb, eo + k, none⟩), .int .i64 E, .bool true, .bool true, .bool true, .agg (List.toArray [.int .i64 a, .int .i64 e]), .int .i64 (k : Int), .pointer (some ⟨w.heap.size, 3, none⟩), .slice (some ⟨hb, ho, none⟩) 3 c4, .int .i64 (k : Int), .pointer (some ⟨hb, ho + k * 16, none⟩), .pointer (some ⟨hb, ho + k * 16 + 1, none⟩), .int .i64 x.H.ep, .agg #[.int .i64 (k : Int), .int .i64 x.H.ep], .bool true, .bool true].getD i undef) (sp := fun _ => none) true (by kernel_rfl) (by kernel_rfl) [some 65, some 66, some 67, some 68, some 69, some 70, some 71, some 72, some 73, some 74, some 75, some 76, some 77, some 78, some 79, some 80, some 81, some 82, some 83, some 84, some 85, some 86, some 87, some 88, some 89, some 90, some 91, some 92, some 93, some 94, some 95, some 96, some 97] (by kernel_rfl) (fun _ _ h => by cases h) ?_ (fun v w12 hb_ hG => ?_)
          · refine ⟨gVal rfl (.inl ⟨rfl, rfl⟩) rfl (fun Lb v act wy K => by
             have e1 : act.eval (.tmp 3) = .pointer (some ⟨w.heap.size, 0, none⟩) := (K.off (x := .tmp 3) (by kernel_rfl)).trans rfl
             show (execOp act.eval _).run Tryz.prog wy = .ok (.value (.pointer (some ⟨w.heap.size, 3, none⟩))) wy
             generalize act.eval = ρ at e1 ⊢
             unfold execOp
             simp [go_sem, e1]), ?_⟩
            refine ⟨gVal rfl (.inl ⟨rfl, rfl⟩) rfl (fun Lb v act wy K => by
             have e1 : act.eval (.tmp 65) = .pointer (some ⟨w.heap.size, 3, none⟩) := K.at_val 0 (by kernel_rfl) (by kernel_rfl) rfl
             have e2 := Rg.cell_later (HC3.out) K.bel
             show (execOp act.eval _).run Tryz.prog wy = .ok (.value (.slice (some ⟨hb, ho, none⟩) 3 c4)) wy
             generalize act.eval = ρ at e1 ⊢
             unfold execOp
             simp [go_sem, e1, e2]), ?_⟩
            refine ⟨gVal rfl (.inl ⟨rfl, rfl⟩) rfl (fun Lb v act wy K => by
             have e1 : act.eval (.tmp 13) = .int .i64 (k : Int) := (K.off (x := .tmp 13) (by kernel_rfl)).trans rfl
             exact run_move _ rfl e1), ?_⟩
            refine ⟨gVal rfl (.inl ⟨rfl, rfl⟩) rfl (fun Lb v act wy K => by
             have e1 : act.eval (.tmp 66) = .slice (some ⟨hb, ho, none⟩) 3 c4 := K.at_val 1 (by kernel_rfl) (by kernel_rfl) rfl
             have e2 : act.eval (.tmp 67) = .int .i64 (k : Int) := K.at_val 2 (by kernel_rfl) (by kernel_rfl) rfl
             show (execOp act.eval _).run Tryz.prog wy = .ok (.value (.pointer (some ⟨hb, ho + k * 16, none⟩))) wy
             generalize act.eval = ρ at e1 e2 ⊢
             unfold execOp
             simp [go_sem, e1, e2, hk3]), ?_⟩
            refine ⟨gVal rfl (.inl ⟨rfl, rfl⟩) rfl (fun Lb v act wy K => by
             have e1 : act.eval (.tmp 68) = .pointer (some ⟨hb, ho + k * 16, none⟩) := K.at_val 3 (by kernel_rfl) (by kernel_rfl) rfl
             show (execOp act.eval _).run Tryz.prog wy = .ok (.value (.pointer (some ⟨hb, ho + k * 16 + 2, none⟩))) wy
             generalize act.eval = ρ at e1 ⊢
             unfold execOp
             simp [go_sem, e1]), ?_⟩
            refine ⟨gVal rfl (.inl ⟨rfl, rfl⟩) rfl (fun Lb v act wy K => by
             have e1 : act.eval (.tmp 69) = .pointer (some ⟨hb, ho + k * 16 + 2, none⟩) := K.at_val 4 (by kernel_rfl) (by kernel_rfl) rfl
             have e2 := Rg.cell_later (HUP.out) K.bel
             show (execOp act.eval _).run Tryz.prog wy = .ok (.value (.bool true)) wy
             generalize act.eval = ρ at e1 ⊢
             unfold execOp
             simp [go_sem, e1, e2]), ?_⟩
            refine ⟨gVal rfl (.inl ⟨rfl, rfl⟩) rfl (fun Lb v act wy K => by
             have e1 : act.eval (.tmp 70) = .bool true := K.at_val 5 (by kernel_rfl) (by kernel_rfl) rfl
             exact run_move _ rfl e1), ?_⟩
            refine ⟨gVal rfl (.inr ⟨6, true, 71, rfl, (by kernel_rfl), (by kernel_rfl), rfl, rfl⟩) rfl (fun Lb v act wy K => by
             have e1 : act.eval (.tmp 3) = .pointer (some ⟨w.heap.size, 0, none⟩) := (K.off (x := .tmp 3) (by kernel_rfl)).trans rfl
             show (execOp act.eval _).run Tryz.prog wy = .ok (.value (.pointer (some ⟨w.heap.size, 3, none⟩))) wy
             generalize act.eval = ρ at e1 ⊢
             unfold execOp
             simp [go_sem, e1]), ?_⟩
            refine ⟨gVal rfl (.inr ⟨6, true, 71, rfl, (by kernel_rfl), (by kernel_rfl), rfl, rfl⟩) rfl (fun Lb v act wy K => by
             have e1 : act.eval (.tmp 72) = .pointer (some ⟨w.heap.size, 3, none⟩) := K.at_val 7 (by kernel_rfl) (by kernel_rfl) rfl
             have e2 := Rg.cell_later (HC3.out) K.bel
             show (execOp act.eval _).run Tryz.prog wy = .ok (.value (.slice (some ⟨hb, ho, none⟩) 3 c4)) wy
             generalize act.eval = ρ at e1 ⊢
             unfold execOp
             simp [go_sem, e1, e2]), ?_⟩
            refine ⟨gVal rfl (.inr ⟨6, true, 71, rfl, (by kernel_rfl), (by kernel_rfl), rfl, rfl⟩) rfl (fun Lb v act wy K => by
             have e1 : act.eval (.tmp 13) = .int .i64 (k : Int) := (K.off (x := .tmp 13) (by kernel_rfl)).trans rfl
             exact run_move _ rfl e1), ?_⟩
            refine ⟨gVal rfl (.inr ⟨6, true, 71, rfl, (by kernel_rfl), (by kernel_rfl), rfl, rfl⟩) rfl (fun Lb v act wy K => by
             have e1 : act.eval (.tmp 73) = .slice (some ⟨hb, ho, none⟩) 3 c4 := K.at_val 8 (by kernel_rfl) (by kernel_rfl) rfl
             have e2 : act.eval (.tmp 74) = .int .i64 (k : Int) := K.at_val 9 (by kernel_rfl) (by kernel_rfl) rfl
             show (execOp act.eval _).run Tryz.prog wy = .ok (.value (.pointer (some ⟨hb, ho + k * 16, none⟩))) wy
             generalize act.eval = ρ at e1 e2 ⊢
             unfold execOp
             simp [go_sem, e1, e2, hk3]), ?_⟩
            refine ⟨gVal rfl (.inr ⟨6, true, 71, rfl, (by kernel_rfl), (by kernel_rfl), rfl, rfl⟩) rfl (fun Lb v act wy K => by
             have e1 : act.eval (.tmp 75) = .pointer (some ⟨hb, ho + k * 16, none⟩) := K.at_val 10 (by kernel_rfl) (by kernel_rfl) rfl
             show (execOp act.eval _).run Tryz.prog wy = .ok (.value (.pointer (some ⟨hb, ho + k * 16 + 1, none⟩))) wy
             generalize act.eval = ρ at e1 ⊢
             unfold execOp
             simp [go_sem, e1]), ?_⟩
            refine ⟨gVal rfl (.inr ⟨6, true, 71, rfl, (by kernel_rfl), (by kernel_rfl), rfl, rfl⟩) rfl (fun Lb v act wy K => by
             have e1 : act.eval (.tmp 76) = .pointer (some ⟨hb, ho + k * 16 + 1, none⟩) := K.at_val 11 (by kernel_rfl) (by kernel_rfl) rfl
             have e2 := Rg.cell_later (HEQ.out) K.bel
             show (execOp act.eval _).run Tryz.prog wy = .ok (.value (.int .i64 x.H.ep)) wy
             generalize act.eval = ρ at e1 ⊢
             unfold execOp
             simp [go_sem, e1, e2]), ?_⟩
            refine ⟨gVal rfl (.inr ⟨6, true, 71, rfl, (by kernel_rfl), (by kernel_rfl), rfl, rfl⟩) rfl (fun Lb v act wy K => by
             have e1 : act.eval (.tmp 3) = .pointer (some ⟨w.heap.size, 0, none⟩) := (K.off (x := .tmp 3) (by kernel_rfl)).trans rfl
             show (execOp act.eval _).run Tryz.prog wy = .ok (.value (.pointer (some ⟨w.heap.size, 0, none⟩))) wy
             generalize act.eval = ρ at e1 ⊢
             unfold execOp
             simp [go_sem, e1]), ?_⟩
            refine ⟨gVal rfl (.inr ⟨6, true, 71, rfl, (by kernel_rfl), (by kernel_rfl), rfl, rfl⟩) rfl (fun Lb v act wy K => by
             have e1 : act.eval (.tmp 78) = .pointer (some ⟨w.heap.size, 0, none⟩) := K.at_val 13 (by kernel_rfl) (by kernel_rfl) rfl
             show (execOp act.eval _).run Tryz.prog wy = .ok (.value (.pointer (some ⟨w.heap.size, 1, none⟩))) wy
             generalize act.eval = ρ at e1 ⊢
             unfold execOp
             simp [go_sem, e1]), ?_⟩
            refine ⟨gVal rfl (.inr ⟨6, true, 71, rfl, (by kernel_rfl), (by kernel_rfl), rfl, rfl⟩) rfl (fun Lb v act wy K => by
             have e1 : act.eval (.tmp 79) = .pointer (some ⟨w.heap.size, 1, none⟩) := K.at_val 14 (by kernel_rfl) (by kernel_rfl) rfl
             have e2 := Rg.cell_later (HC1.out) K.bel
             show (execOp act.eval _).run Tryz.prog wy = .ok (.value (.slice (some ⟨eb, eo, none⟩) 3 c2)) wy
             generalize act.eval = ρ at e1 ⊢
             unfold execOp
             simp [go_sem, e1, e2]), ?_⟩
            refine ⟨gVal rfl (.inr ⟨6, true, 71, rfl, (by kernel_rfl), (by kernel_rfl), rfl, rfl⟩) rfl (fun Lb v act wy K => by
             have e1 : act.eval (.tmp 13) = .int .i64 (k : Int) := (K.off (x := .tmp 13) (by kernel_rfl)).trans rfl
             exact run_move _ rfl e1), ?_⟩
            refine ⟨gVal rfl (.inr ⟨6, true, 71, rfl, (by kernel_rfl), (by kernel_rfl), rfl, rfl⟩) rfl (fun Lb v act wy K => by
             have e1 : act.eval (.tmp 80) = .slice (some ⟨eb, eo, none⟩) 3 c2 := K.at_val 15 (by kernel_rfl) (by kernel_rfl) rfl
             have e2 : act.eval (.tmp 81) = .int .i64 (k : Int) := K.at_val 16 (by kernel_rfl) (by kernel_rfl) rfl
             show (execOp act.eval _).run Tryz.prog wy = .ok (.value (.pointer (some ⟨eb, eo + k, none⟩))) wy
             generalize act.eval = ρ at e1 e2 ⊢
             unfold execOp
             simp [go_sem, e1, e2, hk3]), ?_⟩
            refine ⟨gVal rfl (.inr ⟨6, true, 71, rfl, (by kernel_rfl), (by kernel_rfl), rfl, rfl⟩) rfl (fun Lb v act wy K => by
             have e1 : act.eval (.tmp 82) = .pointer (some ⟨eb, eo + k, none⟩) := K.at_val 17 (by kernel_rfl) (by kernel_rfl) rfl
             have e2 := Rg.cell_later (HCE.out) K.bel
             show (execOp act.eval _).run Tryz.prog wy = .ok (.value (.int .i64 E)) wy
             generalize act.eval = ρ at e1 ⊢
             unfold execOp
             simp [go_sem, e1, e2]), ?_⟩
            refine ⟨gVal rfl (.inr ⟨6, true, 71, rfl, (by kernel_rfl), (by kernel_rfl), rfl, rfl⟩) rfl (fun Lb v act wy K => by
             have e1 : act.eval (.tmp 77) = .int .i64 x.H.ep := K.at_val 12 (by kernel_rfl) (by kernel_rfl) rfl
             have e2 : act.eval (.tmp 83) = .int .i64 E := K.at_val 18 (by kernel_rfl) (by kernel_rfl) rfl
             show (execOp act.eval _).run Tryz.prog wy = .ok (.value (.bool true)) wy
             generalize act.eval = ρ at e1 e2 ⊢
             unfold execOp
             simp [go_sem, e1, e2, hxe]), ?_⟩
            refine ⟨gVal rfl (.inl ⟨rfl, rfl⟩) rfl (fun Lb v act wy K => by
             have e1 : act.eval (.tmp 71) = .bool true := K.at_val 6 (by kernel_rfl) (by kernel_rfl) rfl
             have e2 : act.eval (.tmp 84) = .bool true := K.at_val 19 (by kernel_rfl) (by kernel_rfl) rfl
             show (execOp act.eval _).run Tryz.prog wy = .ok (.value (.bool true)) wy
             generalize act.eval = ρ at e1 e2 ⊢
             unfold execOp
             simp [go_sem, e1, e2]), ?_⟩
            refine ⟨gVal rfl (.inl ⟨rfl, rfl⟩) rfl (fun Lb v act wy K => by
             have e1 : act.eval (.tmp 85) = .bool true := K.at_val 20 (by kernel_rfl) (by kernel_rfl) rfl
             exact run_move _ rfl e1), ?_⟩
            refine ⟨gVal rfl (.inr ⟨21, true, 86, rfl, (by kernel_rfl), (by kernel_rfl), rfl, rfl⟩) rfl (fun Lb v act wy K => Rg.run_load_at 53 (.tmp 11) rfl _ _ ((K.off (x := .tmp 11) (by kernel_rfl)).trans rfl) _ (rangeAt_below HLR.out K.bel) _ Tryz.underlying53 rfl (by kernel_rfl)), ?_⟩
            refine ⟨gVal rfl (.inr ⟨21, true, 86, rfl, (by kernel_rfl), (by kernel_rfl), rfl, rfl⟩) rfl (fun Lb v act wy K => by
             have e1 : act.eval (.tmp 13) = .int .i64 (k : Int) := (K.off (x := .tmp 13) (by kernel_rfl)).trans rfl
             exact run_move _ rfl e1), ?_⟩
            refine ⟨gVal rfl (.inr ⟨21, true, 86, rfl, (by kernel_rfl), (by kernel_rfl), rfl, rfl⟩) rfl (fun Lb v act wy K => by
             have e1 : act.eval (.tmp 3) = .pointer (some ⟨w.heap.size, 0, none⟩) := (K.off (x := .tmp 3) (by kernel_rfl)).trans rfl
             show (execOp act.eval _).run Tryz.prog wy = .ok (.value (.pointer (some ⟨w.heap.size, 3, none⟩))) wy
             generalize act.eval = ρ at e1 ⊢
             unfold execOp
             simp [go_sem, e1]), ?_⟩
            refine ⟨gVal rfl (.inr ⟨21, true, 86, rfl, (by kernel_rfl), (by kernel_rfl), rfl, rfl⟩) rfl (fun Lb v act wy K => by
             have e1 : act.eval (.tmp 89) = .pointer (some ⟨w.heap.size, 3, none⟩) := K.at_val 24 (by kernel_rfl) (by kernel_rfl) rfl
             have e2 := Rg.cell_later (HC3.out) K.bel
             show (execOp act.eval _).run Tryz.prog wy = .ok (.value (.slice (some ⟨hb, ho, none⟩) 3 c4)) wy
             generalize act.eval = ρ at e1 ⊢
             unfold execOp
             simp [go_sem, e1, e2]), ?_⟩
            refine ⟨gVal rfl (.inr ⟨21, true, 86, rfl, (by kernel_rfl), (by kernel_rfl), rfl, rfl⟩) rfl (fun Lb v act wy K => by
             have e1 : act.eval (.tmp 13) = .int .i64 (k : Int) := (K.off (x := .tmp 13) (by kernel_rfl)).trans rfl
             exact run_move _ rfl e1), ?_⟩
            refine ⟨gVal rfl (.inr ⟨21, true, 86, rfl, (by kernel_rfl), (by kernel_rfl), rfl, rfl⟩) rfl (fun Lb v act wy K => by
             have e1 : act.eval (.tmp 90) = .slice (some ⟨hb, ho, none⟩) 3 c4 := K.at_val 25 (by kernel_rfl) (by kernel_rfl) rfl
             have e2 : act.eval (.tmp 91) = .int .i64 (k : Int) := K.at_val 26 (by kernel_rfl) (by kernel_rfl) rfl
             show (execOp act.eval _).run Tryz.prog wy = .ok (.value (.pointer (some ⟨hb, ho + k * 16, none⟩))) wy
             generalize act.eval = ρ at e1 e2 ⊢
             unfold execOp
             simp [go_sem, e1, e2, hk3]), ?_⟩
            refine ⟨gVal rfl (.inr ⟨21, true, 86, rfl, (by kernel_rfl), (by kernel_rfl), rfl, rfl⟩) rfl (fun Lb v act wy K => by
             have e1 : act.eval (.tmp 92) = .pointer (some ⟨hb, ho + k * 16, none⟩) := K.at_val 27 (by kernel_rfl) (by kernel_rfl) rfl
             show (execOp act.eval _).run Tryz.prog wy = .ok (.value (.pointer (some ⟨hb, ho + k * 16 + 1, none⟩))) wy
             generalize act.eval = ρ at e1 ⊢
             unfold execOp
             simp [go_sem, e1]), ?_⟩
            refine ⟨gVal rfl (.inr ⟨21, true, 86, rfl, (by kernel_rfl), (by kernel_rfl), rfl, rfl⟩) rfl (fun Lb v act wy K => by
             have e1 : act.eval (.tmp 93) = .pointer (some ⟨hb, ho + k * 16 + 1, none⟩) := K.at_val 28 (by kernel_rfl) (by kernel_rfl) rfl
             have e2 := Rg.cell_later (HEQ.out) K.bel
             show (execOp act.eval _).run Tryz.prog wy = .ok (.value (.int .i64 x.H.ep)) wy
             generalize act.eval = ρ at e1 ⊢
             unfold execOp
             simp [go_sem, e1, e2]), ?_⟩
            refine ⟨gVal rfl (.inr ⟨21, true, 86, rfl, (by kernel_rfl), (by kernel_rfl), rfl, rfl⟩) rfl (fun Lb v act wy K => by
             have e1 : act.eval (.tmp 88) = .int .i64 (k : Int) := K.at_val 23 (by kernel_rfl) (by kernel_rfl) rfl
             have e2 : act.eval (.tmp 94) = .int .i64 x.H.ep := K.at_val 29 (by kernel_rfl) (by kernel_rfl) rfl
             show (execOp act.eval _).run Tryz.prog wy = .ok (.value (.agg #[.int .i64 (k : Int), .int .i64 x.H.ep])) wy
             generalize act.eval = ρ at e1 e2 ⊢
             unfold execOp
             simp [go_sem, e1, e2]), ?_⟩
            refine ⟨gVal rfl (.inr ⟨21, true, 86, rfl, (by kernel_rfl), (by kernel_rfl), rfl, rfl⟩) rfl (fun Lb v act wy K => by
             have e1 : act.eval (.tmp 87) = .agg (List.toArray [.int .i64 a, .int .i64 e]) := K.at_val 22 (by kernel_rfl) (by kernel_rfl) rfl
             have e2 : act.eval (.tmp 95) = .agg #[.int .i64 (k : Int), .int .i64 x.H.ep] := K.at_val 30 (by kernel_rfl) (by kernel_rfl) rfl
             show (execOp act.eval _).run Tryz.prog wy = .ok (.value (.bool true)) wy
             generalize act.eval = ρ at e1 e2 ⊢
             unfold execOp
             simp [go_sem, e1, e2, hxa, hxb]), ?_⟩
            refine ⟨gVal rfl (.inl ⟨rfl, rfl⟩) rfl (fun Lb v act wy K => by
             have e1 : act.eval (.tmp 86) = .bool true := K.at_val 21 (by kernel_rfl) (by kernel_rfl) rfl
             have e2 : act.eval (.tmp 96) = .bool true := K.at_val 31 (by kernel_rfl) (by kernel_rfl) rfl
             show (execOp act.eval _).run Tryz.prog wy = .ok (.value (.bool true)) wy
             generalize act.eval = ρ at e1 e2 ⊢
             unfold execOp
             simp [go_sem, e1, e2]), ?_⟩
            exact trivial
          have eL : v 32 = .bool true := hG 32 (by show 32 < 33; decide)
          have HU := hid (HBr.out.trans (hb_.mono HBr.out.size))
          clear hG hb_
          simp only [putsAll, Act.put, List.setIfInBounds_toArray, List.set_cons_zero, List.set_cons_succ, eL]
          clear eL
          go_wp2
          exact ⟨⟨k + 1, by omega, by go_num, by rw [HN.out]; go_num, HU.out⟩, by simp [intOf]; omega⟩
        · obtain rfl : k = 3 := by omega
          go_wp2
          go_ret
          exact ⟨by rw [HH.out]; rfl, HB5.out.trans (HBr.out.mono HB5.out.size)⟩
end Go.Proofs.YtogebppolkfldaaGreatDoor.Hd

namespace Go.Proofs.YtogebppolkfldaaGreatDoor.Hd
open Go.RowKit Go.Proofs.YtogebppolkfldaaGreatDoor.Mem Go.Proofs.YtogebppolkfldaaGreatDoor.Sec Go.Proofs.YtogebppolkfldaaGreatDoor.Rd Go.Proofs.YtogebppolkfldaaGreatDoor.Pk Go.Proofs.YtogebppolkfldaaGreatDoor.Pl Go.Proofs.YtogebppolkfldaaGreatDoor.Rg
set_option linter.unusedVariables false

set_option maxRecDepth 100000 in
set_option maxHeartbeats 1000000 in
theorem iLeased (w : World) (k i : Int) (T : Sector.Kinds w) :
    Calls Tryz.prog 24 #[.int .i64 k, .int .i64 i] w fun e w' => e = .returned (.bool (decide ((k = 3 ∨ k = 4) ∧ 0 ≤ Sector.sectorOf k i))) ∧ w' = w := by
  by_cases h3 : k = 3
  · subst h3
    have HC := hid (Sector.impl_sector 3 i w T)
    generalize Sector.sectorOf 3 i = z at *
    go_enter Tryz.func24, Tryz.ntmps24
    go_wp2_with fail
    refine HC.out.mono ?_
    rintro e w' ⟨rfl, rfl⟩
    go_wp2
    go_ret
    exact ⟨by simp, rfl⟩
  by_cases h4 : k = 4
  · subst h4
    have HC := hid (Sector.impl_sector 4 i w T)
    generalize Sector.sectorOf 4 i = z at *
    go_enter Tryz.func24, Tryz.ntmps24
    go_wp2_with fail
    refine HC.out.mono ?_
    rintro e w' ⟨rfl, rfl⟩
    go_wp2
    go_ret
    exact ⟨by simp, rfl⟩
  · go_enter Tryz.func24, Tryz.ntmps24
    go_wp2
    go_ret
    exact ⟨by simp [h3, h4], rfl⟩

set_option maxRecDepth 100000 in
set_option maxHeartbeats 2000000 in
theorem leaseVol (R : ByteArray → Int × Nat) (hR : Reads R) (hT : ∀ s : ByteArray, s.size ≤ maxLen → Tx s (R s)) (w : World) (sb so sc m : Nat) (S : List ByteArray) (HS : Strs w (some ⟨sb, so, none⟩) S) (hn : S.length = 34) (hm : m < 4) (hz : ∀ x ∈ S, x.size ≤ 1048576) (hL : Laid w) {h e : Int} {on : Bool} {l : List Int} (q : readVol R (S.getD (9 + m) ByteArray.empty) = some (h, e, on, l)) :
    Calls Tryz.prog 28 #[.slice (some ⟨sb, so, none⟩) 34 sc, .int .i64 3, .int .i64 (m : Int)] w fun r w' => r = .returned (.agg #[.int .i64 h, .int .i64 e]) ∧ Below w.heap.size w w' := by
  have hso : ∀ u, Below w.heap.size w u → Calls Tryz.prog 59 #[.int .i64 3, .int .i64 (m : Int)] u fun e w' => e = .returned (.int .i64 ((9 + m : Nat) : Int)) ∧ w' = u := fun u hu => by rw [← sec3 m hm]; exact Sector.impl_sector 3 (m : Int) u (hL.below hu).k
  have hlt : 9 + m < S.length := by omega
  obtain ⟨b', o', ee, hc⟩ := HS (9 + m) hlt
  cases ee
  replace hc : w.cell? ⟨sb, so + (9 + m), none⟩ = some (.string (S.getD (9 + m) ByteArray.empty)) := hc
  have hsz : (S.getD (9 + m) ByteArray.empty).size ≤ 1048576 := hz _ (by simp [List.getD, hlt])
  generalize S.getD (9 + m) ByteArray.empty = s at *
  have hp34 : ((9 + m : Nat) : Int) < 34 := by omega
  generalize 9 + m = pp at *
  have HRV : Hid (∀ u, Below w.heap.size w u → Calls Tryz.prog 62 #[.string s] u fun r w' => ∃ a cap, r = .returned (.tuple #[.agg #[.int .i64 h, .int .i64 e, .bool on, .slice a l.length cap], .bool true]) ∧ Below u.heap.size u w') := fun u hu => by
    obtain ⟨⟨v, pv, hl'⟩, ht, hk, hg⟩ := hL.below hu
    refine (iReadVol R hR s hsz (no_flag R hR hT s hsz) u v pv hl' ht).mono ?_
    rintro r w' ⟨h', e', on', l', a, cap, ok, hi, rfl, hI, b⟩
    rcases hi with ⟨q', _, rfl⟩ | ⟨q', _⟩
    · rw [q] at q'
      simp only [Option.some.injEq, Prod.mk.injEq] at q'
      obtain ⟨rfl, rfl, rfl, rfl⟩ := q'
      exact ⟨a, cap, rfl, b⟩
    · rw [q] at q'; cases q'
  have HSO := hid hso
  obtain ⟨wa, hwa, ez, A0, B0⟩ := one_new w [.int .i64 0, .int .i64 0] 53
  have HC := hid (Rg.cell_later hc B0)
  have HA := hid A0
  have HB := hid B0
  have HWA := hid hwa
  clear hso hc HS hz hsz hL q A0 B0 ez hwa hn hm hlt
  go_enter Tryz.func28, Tryz.ntmps28
  go_upto_region 1 with fail
  try rw [show w.alloc (.cells #[.int .i64 0, .int .i64 0] 53) = wa from HWA.out]
  have hc1 := HC.out
  go_wp2_with fail
  refine (HSO.out wa HB.out).mono ?_
  rintro e1 w1 ⟨rfl, rfl⟩
  go_wp2_with fail
  clear hc1
  refine (HRV.out _ HB.out).mono ?_
  rintro e2 w2 ⟨a, cap, rfl, b2⟩
  have HA2 := hid (HA.out.below b2 HA.out.lt)
  have HB2 := hid (HB.out.trans (b2.mono HB.out.size))
  clear b2
  obtain ⟨wb, hwb, ezb, A1, B1⟩ := one_new w2 [.int .i64 h, .int .i64 e, .bool on, .slice a l.length cap] 55
  have HA3 := hid (HA2.out.below B1 HA2.out.lt)
  have HB3 := hid (HB2.out.trans (B1.mono HB2.out.size))
  have HA1 := hid A1
  have hne : w.heap.size < w2.heap.size := HA2.out.lt
  go_upto_region 4 with fail
  try simp only [hwb]
  clear hwb A1 B1
  have x0 := HA1.out.c 0 rfl
  have x1 := HA1.out.c 1 rfl
  have r0 := HA3.out.c 0 rfl
  have r1 := HA3.out.c 1 rfl
  have s0 := HA3.out.f 0
  have s1 := HA3.out.f 1
  go_wp2
  refine bodyPost_ret (results_row rfl _ _ w.heap.size [.int .i64 h, .int .i64 e] _ rfl ((HA3.out.set 0 _).set 1 _) Tryz.underlying53 rfl (by kernel_rfl)) rfl ?_
  exact ⟨rfl, below_set (below_set HB3.out _ _ _ (Nat.le_refl _)) _ _ _ (Nat.le_refl _)⟩

set_option maxRecDepth 100000 in
set_option maxHeartbeats 2000000 in
theorem leaseGroup (R : ByteArray → Int × Nat) (hR : Reads R) (w : World) (sb so sc m : Nat) (S : List ByteArray) (HS : Strs w (some ⟨sb, so, none⟩) S) (hn : S.length = 34) (hm : m < 3) (hz : ∀ x ∈ S, x.size ≤ 1048576) (hL : Laid w) {h e : Int} {l : List Int} (q : readGroup R (S.getD (13 + m) ByteArray.empty) = some (h, e, l)) :
    Calls Tryz.prog 28 #[.slice (some ⟨sb, so, none⟩) 34 sc, .int .i64 4, .int .i64 (m : Int)] w fun r w' => r = .returned (.agg #[.int .i64 h, .int .i64 e]) ∧ Below w.heap.size w w' := by
  have hso : ∀ u, Below w.heap.size w u → Calls Tryz.prog 59 #[.int .i64 4, .int .i64 (m : Int)] u fun e w' => e = .returned (.int .i64 ((13 + m : Nat) : Int)) ∧ w' = u := fun u hu => by rw [← sec4 m hm]; exact Sector.impl_sector 4 (m : Int) u (hL.below hu).k
  have hlt : 13 + m < S.length := by omega
  obtain ⟨b', o', ee, hc⟩ := HS (13 + m) hlt
  cases ee
  replace hc : w.cell? ⟨sb, so + (13 + m), none⟩ = some (.string (S.getD (13 + m) ByteArray.empty)) := hc
  have hsz : (S.getD (13 + m) ByteArray.empty).size ≤ 1048576 := hz _ (by simp [List.getD, hlt])
  generalize S.getD (13 + m) ByteArray.empty = s at *
  have hp34 : ((13 + m : Nat) : Int) < 34 := by omega
  generalize 13 + m = pp at *
  have HRV : Hid (∀ u, Below w.heap.size w u → Calls Tryz.prog 63 #[.string s] u fun r w' => ∃ a cap, r = .returned (.tuple #[.agg #[.int .i64 h, .int .i64 e, .slice a l.length cap], .bool true]) ∧ Below u.heap.size u w') := fun u hu => by
    obtain ⟨⟨v, pv, hl'⟩, ht, hk, hg⟩ := hL.below hu
    refine (iReadGroup R hR s hsz u v pv hl' ht).mono ?_
    rintro r w' ⟨h', e', l', a, cap, ok, hi, rfl, hI, b⟩
    rcases hi with ⟨q', _, rfl⟩ | ⟨q', _⟩
    · rw [q] at q'
      simp only [Option.some.injEq, Prod.mk.injEq] at q'
      obtain ⟨rfl, rfl, rfl⟩ := q'
      exact ⟨a, cap, rfl, b⟩
    · rw [q] at q'; cases q'
  have HSO := hid hso
  obtain ⟨wa, hwa, ez, A0, B0⟩ := one_new w [.int .i64 0, .int .i64 0] 53
  have HC := hid (Rg.cell_later hc B0)
  have HA := hid A0
  have HB := hid B0
  have HWA := hid hwa
  clear hso hc HS hz hsz hL q A0 B0 ez hwa hn hm hlt
  go_enter Tryz.func28, Tryz.ntmps28
  go_upto_region 1 with fail
  try rw [show w.alloc (.cells #[.int .i64 0, .int .i64 0] 53) = wa from HWA.out]
  have hc1 := HC.out
  go_wp2_with fail
  refine (HSO.out wa HB.out).mono ?_
  rintro e1 w1 ⟨rfl, rfl⟩
  go_wp2_with fail
  clear hc1
  refine (HRV.out _ HB.out).mono ?_
  rintro e2 w2 ⟨a, cap, rfl, b2⟩
  have HA2 := hid (HA.out.below b2 HA.out.lt)
  have HB2 := hid (HB.out.trans (b2.mono HB.out.size))
  clear b2
  obtain ⟨wb, hwb, ezb, A1, B1⟩ := one_new w2 [.int .i64 h, .int .i64 e, .slice a l.length cap] 59
  have HA3 := hid (HA2.out.below B1 HA2.out.lt)
  have HB3 := hid (HB2.out.trans (B1.mono HB2.out.size))
  have HA1 := hid A1
  have hne : w.heap.size < w2.heap.size := HA2.out.lt
  go_upto_region 6 with fail
  try simp only [hwb]
  clear hwb A1 B1
  have x0 := HA1.out.c 0 rfl
  have x1 := HA1.out.c 1 rfl
  have r0 := HA3.out.c 0 rfl
  have r1 := HA3.out.c 1 rfl
  have s0 := HA3.out.f 0
  have s1 := HA3.out.f 1
  go_wp2
  refine bodyPost_ret (results_row rfl _ _ w.heap.size [.int .i64 h, .int .i64 e] _ rfl ((HA3.out.set 0 _).set 1 _) Tryz.underlying53 rfl (by kernel_rfl)) rfl ?_
  exact ⟨rfl, below_set (below_set HB3.out _ _ _ (Nat.le_refl _)) _ _ _ (Nat.le_refl _)⟩

end Go.Proofs.YtogebppolkfldaaGreatDoor.Hd

namespace Go.Proofs.YtogebppolkfldaaGreatDoor.Pl
open Go.RowKit Go.Proofs.YtogebppolkfldaaGreatDoor.Mem Go.Proofs.YtogebppolkfldaaGreatDoor.Sec Go.Proofs.YtogebppolkfldaaGreatDoor.Rd Go.Proofs.YtogebppolkfldaaGreatDoor.Pk Go.Proofs.YtogebppolkfldaaGreatDoor.Rg
set_option linter.unusedVariables false

theorem call_iLive (vs : Array Value) (w : World) : (callFunc 61 vs).run Tryz.prog w = .ok (.enter 61 vs) w := by simp [go_sem]

set_option maxRecDepth 100000 in
set_option maxHeartbeats 4000000 in
theorem iLive (w : World) (x : Hx) (k eb eo ec : Nat) (ep : List Int) (hx : x.H.id = (k : Int)) (hk : k < 3) (he : ep.length = 3) (S : Ints w (some ⟨eb, eo, none⟩) ep) :
    Calls Tryz.prog 61 #[.agg x.cells.toArray, .slice (some ⟨eb, eo, none⟩) 3 ec] w fun e w' => e = .returned (.bool (x.H.up && decide (x.H.ep = ep.getD k 0))) ∧ Below w.heap.size w w' := by
  obtain ⟨eb', eo', ee, hce⟩ := S k (by rw [he]; exact hk)
  cases ee
  replace hce : w.cell? ⟨eb, eo + k, none⟩ = some (.int .i64 (ep.getD k 0)) := hce
  generalize ep.getD k 0 = E at hce
  have HXI := hid hx
  obtain ⟨wa, hwa, ez, A0, B0⟩ := one_new w x.cells 68
  have HCE := hid (Rg.cell_later hce B0)
  have HA := hid A0
  have HB := hid B0
  have HX0 : Hid (wa.cell? ⟨w.heap.size, 0, none⟩ = some (.int .i64 (k : Int))) := by rw [← hx]; exact A0.c 0 rfl
  have HX1 : Hid (wa.cell? ⟨w.heap.size, 1, none⟩ = some (.int .i64 x.H.ep)) := A0.c 1 rfl
  have hk3 : (k : Int) < 3 := by omega
  have HWA := hid hwa
  clear A0 B0 ez hce S hx hwa
  go_enter Tryz.func61, Tryz.ntmps61
  go_upto_region 1 with fail
  rw [show w.alloc (.cells x.cells.toArray 68) = wa from HWA.out]
  generalize Value.agg x.cells.toArray = V0
  have HDQ := hid (show (x.H.ep == E) = decide (x.H.ep = E) by by_cases h : x.H.ep = E <;> simp [h])
  cases hup : x.H.up
  · have HUP : Hid (wa.cell? ⟨w.heap.size, 2, none⟩ = some (.bool false)) := by rw [← hup]; exact HA.out.c 2 rfl
    have HUQ := hid hup
    clear hup
    refine region_grow (val := fun i => [.pointer (some ⟨w.heap.size, 2, none⟩), .bool false, .bool false, undef, undef, undef, undef, undef, undef, undef, undef, .bool false, .bool false].getD i undef) (sp := fun _ => none) true (by kernel_rfl) (by kernel_rfl) [some 5, some 6, some 7, some 8, some 9, some 10, some 11, some 12, some 13, some 14, some 15, some 16, some 4] (by kernel_rfl) (fun _ _ h => by cases h) ?_ (fun v w hb hG => ?_)
    · refine ⟨gVal rfl (.inl ⟨rfl, rfl⟩) rfl (fun Lb v act wy K => by
       have e1 : act.eval (.tmp 2) = .pointer (some ⟨w.heap.size, 0, none⟩) := (K.off (x := .tmp 2) (by kernel_rfl)).trans rfl
       show (execOp act.eval _).run Tryz.prog wy = .ok (.value (.pointer (some ⟨w.heap.size, 2, none⟩))) wy
       generalize act.eval = ρ at e1 ⊢
       unfold execOp
       simp [go_sem, e1]), ?_⟩
      refine ⟨gVal rfl (.inl ⟨rfl, rfl⟩) rfl (fun Lb v act wy K => by
       have e1 : act.eval (.tmp 5) = .pointer (some ⟨w.heap.size, 2, none⟩) := K.at_val 0 (by kernel_rfl) (by kernel_rfl) rfl
       have e2 := Rg.cell_later (HUP.out) K.bel
       show (execOp act.eval _).run Tryz.prog wy = .ok (.value (.bool false)) wy
       generalize act.eval = ρ at e1 ⊢
       unfold execOp
       simp [go_sem, e1, e2]), ?_⟩
      refine ⟨gVal rfl (.inl ⟨rfl, rfl⟩) rfl (fun Lb v act wy K => by
       have e1 : act.eval (.tmp 6) = .bool false := K.at_val 1 (by kernel_rfl) (by kernel_rfl) rfl
       exact run_move _ rfl e1), ?_⟩
      refine ⟨gSkip rfl (.inr ⟨2, true, 7, rfl, (by kernel_rfl), (by kernel_rfl), rfl, rfl⟩) rfl rfl, ?_⟩
      refine ⟨gSkip rfl (.inr ⟨2, true, 7, rfl, (by kernel_rfl), (by kernel_rfl), rfl, rfl⟩) rfl rfl, ?_⟩
      refine ⟨gSkip rfl (.inr ⟨2, true, 7, rfl, (by kernel_rfl), (by kernel_rfl), rfl, rfl⟩) rfl rfl, ?_⟩
      refine ⟨gSkip rfl (.inr ⟨2, true, 7, rfl, (by kernel_rfl), (by kernel_rfl), rfl, rfl⟩) rfl rfl, ?_⟩
      refine ⟨gSkip rfl (.inr ⟨2, true, 7, rfl, (by kernel_rfl), (by kernel_rfl), rfl, rfl⟩) rfl rfl, ?_⟩
      refine ⟨gSkip rfl (.inr ⟨2, true, 7, rfl, (by kernel_rfl), (by kernel_rfl), rfl, rfl⟩) rfl rfl, ?_⟩
      refine ⟨gSkip rfl (.inr ⟨2, true, 7, rfl, (by kernel_rfl), (by kernel_rfl), rfl, rfl⟩) rfl rfl, ?_⟩
      refine ⟨gSkip rfl (.inr ⟨2, true, 7, rfl, (by kernel_rfl), (by kernel_rfl), rfl, rfl⟩) rfl rfl, ?_⟩
      refine ⟨gVal rfl (.inl ⟨rfl, rfl⟩) rfl (fun Lb v act wy K => by
       have e1 : act.eval (.tmp 7) = .bool false := K.at_val 2 (by kernel_rfl) (by kernel_rfl) rfl
       have ec : act.eval (.const (.bool false)) = .bool false := rfl
       show (execOp act.eval _).run Tryz.prog wy = .ok (.value (.bool false)) wy
       generalize act.eval = ρ at e1 ec ⊢
       unfold execOp
       simp [go_sem, e1, ec]), ?_⟩
      refine ⟨gVal rfl (.inl ⟨rfl, rfl⟩) rfl (fun Lb v act wy K => by
       have e1 : act.eval (.tmp 16) = .bool false := K.at_val 11 (by kernel_rfl) (by kernel_rfl) rfl
       exact run_assign _ rfl e1), ?_⟩
      exact trivial
    have e12 : v 12 = .bool false := hG 12 (by show 12 < 13; decide)
    have HU := hid (HB.out.trans (hb.mono HB.out.size))
    clear hG hb
    simp only [putsAll, Act.put, List.setIfInBounds_toArray, List.set_cons_zero, List.set_cons_succ, e12]
    clear e12
    go_wp2
    go_ret
    exact ⟨by rw [HUQ.out]; rfl, HU.out⟩
  have HUP : Hid (wa.cell? ⟨w.heap.size, 2, none⟩ = some (.bool true)) := by rw [← hup]; exact HA.out.c 2 rfl
  have HUQ := hid hup
  clear hup
  refine region_grow (val := fun i => [.pointer (some ⟨w.heap.size, 2, none⟩), .bool true, .bool true, .pointer (some ⟨w.heap.size, 1, none⟩), .int .i64 x.H.ep, .slice (some ⟨eb, eo, none⟩) 3 ec, .pointer (some ⟨w.heap.size, 0, none⟩), .int .i64 (k : Int), .pointer (some ⟨eb, eo + k, none⟩), .int .i64 E, .bool (decide (x.H.ep = E)), .bool (decide (x.H.ep = E)), .bool (decide (x.H.ep = E))].getD i undef) (sp := fun _ => none) true (by kernel_rfl) (by kernel_rfl) [some 5, some 6, some 7, some 8, some 9, some 10, some 11, some 12, some 13, some 14, some 15, some 16, some 4] (by kernel_rfl) (fun _ _ h => by cases h) ?_ (fun v w hb hG => ?_)
  · refine ⟨gVal rfl (.inl ⟨rfl, rfl⟩) rfl (fun Lb v act wy K => by
     have e1 : act.eval (.tmp 2) = .pointer (some ⟨w.heap.size, 0, none⟩) := (K.off (x := .tmp 2) (by kernel_rfl)).trans rfl
     show (execOp act.eval _).run Tryz.prog wy = .ok (.value (.pointer (some ⟨w.heap.size, 2, none⟩))) wy
     generalize act.eval = ρ at e1 ⊢
     unfold execOp
     simp [go_sem, e1]), ?_⟩
    refine ⟨gVal rfl (.inl ⟨rfl, rfl⟩) rfl (fun Lb v act wy K => by
     have e1 : act.eval (.tmp 5) = .pointer (some ⟨w.heap.size, 2, none⟩) := K.at_val 0 (by kernel_rfl) (by kernel_rfl) rfl
     have e2 := Rg.cell_later (HUP.out) K.bel
     show (execOp act.eval _).run Tryz.prog wy = .ok (.value (.bool true)) wy
     generalize act.eval = ρ at e1 ⊢
     unfold execOp
     simp [go_sem, e1, e2]), ?_⟩
    refine ⟨gVal rfl (.inl ⟨rfl, rfl⟩) rfl (fun Lb v act wy K => by
     have e1 : act.eval (.tmp 6) = .bool true := K.at_val 1 (by kernel_rfl) (by kernel_rfl) rfl
     exact run_move _ rfl e1), ?_⟩
    refine ⟨gVal rfl (.inr ⟨2, true, 7, rfl, (by kernel_rfl), (by kernel_rfl), rfl, rfl⟩) rfl (fun Lb v act wy K => by
     have e1 : act.eval (.tmp 2) = .pointer (some ⟨w.heap.size, 0, none⟩) := (K.off (x := .tmp 2) (by kernel_rfl)).trans rfl
     show (execOp act.eval _).run Tryz.prog wy = .ok (.value (.pointer (some ⟨w.heap.size, 1, none⟩))) wy
     generalize act.eval = ρ at e1 ⊢
     unfold execOp
     simp [go_sem, e1]), ?_⟩
    refine ⟨gVal rfl (.inr ⟨2, true, 7, rfl, (by kernel_rfl), (by kernel_rfl), rfl, rfl⟩) rfl (fun Lb v act wy K => by
     have e1 : act.eval (.tmp 8) = .pointer (some ⟨w.heap.size, 1, none⟩) := K.at_val 3 (by kernel_rfl) (by kernel_rfl) rfl
     have e2 := Rg.cell_later (HX1.out) K.bel
     show (execOp act.eval _).run Tryz.prog wy = .ok (.value (.int .i64 x.H.ep)) wy
     generalize act.eval = ρ at e1 ⊢
     unfold execOp
     simp [go_sem, e1, e2]), ?_⟩
    refine ⟨gVal rfl (.inr ⟨2, true, 7, rfl, (by kernel_rfl), (by kernel_rfl), rfl, rfl⟩) rfl (fun Lb v act wy K => by
     have e1 : act.eval (.tmp 1) = .slice (some ⟨eb, eo, none⟩) 3 ec := (K.off (x := .tmp 1) (by kernel_rfl)).trans rfl
     exact run_move _ rfl e1), ?_⟩
    refine ⟨gVal rfl (.inr ⟨2, true, 7, rfl, (by kernel_rfl), (by kernel_rfl), rfl, rfl⟩) rfl (fun Lb v act wy K => by
     have e1 : act.eval (.tmp 2) = .pointer (some ⟨w.heap.size, 0, none⟩) := (K.off (x := .tmp 2) (by kernel_rfl)).trans rfl
     show (execOp act.eval _).run Tryz.prog wy = .ok (.value (.pointer (some ⟨w.heap.size, 0, none⟩))) wy
     generalize act.eval = ρ at e1 ⊢
     unfold execOp
     simp [go_sem, e1]), ?_⟩
    refine ⟨gVal rfl (.inr ⟨2, true, 7, rfl, (by kernel_rfl), (by kernel_rfl), rfl, rfl⟩) rfl (fun Lb v act wy K => by
     have e1 : act.eval (.tmp 11) = .pointer (some ⟨w.heap.size, 0, none⟩) := K.at_val 6 (by kernel_rfl) (by kernel_rfl) rfl
     have e2 := Rg.cell_later (HX0.out) K.bel
     show (execOp act.eval _).run Tryz.prog wy = .ok (.value (.int .i64 (k : Int))) wy
     generalize act.eval = ρ at e1 ⊢
     unfold execOp
     simp [go_sem, e1, e2]), ?_⟩
    refine ⟨gVal rfl (.inr ⟨2, true, 7, rfl, (by kernel_rfl), (by kernel_rfl), rfl, rfl⟩) rfl (fun Lb v act wy K => by
     have e1 : act.eval (.tmp 10) = .slice (some ⟨eb, eo, none⟩) 3 ec := K.at_val 5 (by kernel_rfl) (by kernel_rfl) rfl
     have e2 : act.eval (.tmp 12) = .int .i64 (k : Int) := K.at_val 7 (by kernel_rfl) (by kernel_rfl) rfl
     show (execOp act.eval _).run Tryz.prog wy = .ok (.value (.pointer (some ⟨eb, eo + k, none⟩))) wy
     generalize act.eval = ρ at e1 e2 ⊢
     unfold execOp
     simp [go_sem, e1, e2, hk3]), ?_⟩
    refine ⟨gVal rfl (.inr ⟨2, true, 7, rfl, (by kernel_rfl), (by kernel_rfl), rfl, rfl⟩) rfl (fun Lb v act wy K => by
     have e1 : act.eval (.tmp 13) = .pointer (some ⟨eb, eo + k, none⟩) := K.at_val 8 (by kernel_rfl) (by kernel_rfl) rfl
     have e2 := Rg.cell_later (HCE.out) K.bel
     show (execOp act.eval _).run Tryz.prog wy = .ok (.value (.int .i64 E)) wy
     generalize act.eval = ρ at e1 ⊢
     unfold execOp
     simp [go_sem, e1, e2]), ?_⟩
    refine ⟨gVal rfl (.inr ⟨2, true, 7, rfl, (by kernel_rfl), (by kernel_rfl), rfl, rfl⟩) rfl (fun Lb v act wy K => by
     have e1 : act.eval (.tmp 9) = .int .i64 x.H.ep := K.at_val 4 (by kernel_rfl) (by kernel_rfl) rfl
     have e2 : act.eval (.tmp 14) = .int .i64 E := K.at_val 9 (by kernel_rfl) (by kernel_rfl) rfl
     show (execOp act.eval _).run Tryz.prog wy = .ok (.value (.bool (decide (x.H.ep = E)))) wy
     generalize act.eval = ρ at e1 e2 ⊢
     unfold execOp
     simp [go_sem, e1, e2, HDQ.out]), ?_⟩
    refine ⟨gVal rfl (.inl ⟨rfl, rfl⟩) rfl (fun Lb v act wy K => by
     have e1 : act.eval (.tmp 7) = .bool true := K.at_val 2 (by kernel_rfl) (by kernel_rfl) rfl
     have e2 : act.eval (.tmp 15) = .bool (decide (x.H.ep = E)) := K.at_val 10 (by kernel_rfl) (by kernel_rfl) rfl
     show (execOp act.eval _).run Tryz.prog wy = .ok (.value (.bool (decide (x.H.ep = E)))) wy
     generalize act.eval = ρ at e1 e2 ⊢
     unfold execOp
     simp [go_sem, e1, e2]), ?_⟩
    refine ⟨gVal rfl (.inl ⟨rfl, rfl⟩) rfl (fun Lb v act wy K => by
     have e1 : act.eval (.tmp 16) = .bool (decide (x.H.ep = E)) := K.at_val 11 (by kernel_rfl) (by kernel_rfl) rfl
     exact run_assign _ rfl e1), ?_⟩
    exact trivial
  have e12 : v 12 = .bool (decide (x.H.ep = E)) := hG 12 (by show 12 < 13; decide)
  have HU := hid (HB.out.trans (hb.mono HB.out.size))
  clear hG hb
  simp only [putsAll, Act.put, List.setIfInBounds_toArray, List.set_cons_zero, List.set_cons_succ, e12]
  clear e12
  go_wp2
  go_ret
  exact ⟨by rw [HUQ.out]; rfl, HU.out⟩

end Go.Proofs.YtogebppolkfldaaGreatDoor.Pl

namespace Go.Proofs.YtogebppolkfldaaGreatDoor.Hd
open Go.RowKit Go.Proofs.YtogebppolkfldaaGreatDoor.Mem Go.Proofs.YtogebppolkfldaaGreatDoor.Rd
set_option linter.unusedVariables false

set_option maxRecDepth 100000 in
set_option maxHeartbeats 2000000 in
theorem tallyOf (L : List LK) (a : Option Addr) (cap : Nat) (w : World) (S : LksS w a L) (hl : L.length ≤ 900) :
    Calls Tryz.prog 25 #[.slice a L.length cap] w fun e w' => ∃ v T, e = .returned v ∧ TalO w' w.heap.size v T ∧ TalIs T L ∧ Below w.heap.size w w' := by
  have HS := hid S
  clear S
  go_enter Tryz.func25, Tryz.ntmps25
  go_wp2
  go_loopw [3, 9] (fun v i wr => ∃ (k : Nat) (T : Tal), k ≤ L.length ∧ i = .int .i64 (k : Int) ∧ Hid (TalO wr w.heap.size v T) ∧ Hid (TalIs T (L.take k)) ∧ Hid (Below w.heap.size w wr)) (fun _ i _ => L.length - (intOf i).toNat)
  case atStart => exact ⟨0, [], Nat.zero_le _, rfl, Or.inl ⟨_, rfl, rfl, rfl⟩, tal_nil, Below.refl _ _⟩
  case round =>
    obtain ⟨k, T, hk, rfl, HO, HT, HB⟩ := hrel
    have hTl : T.length ≤ 900 := by
      have h1 := HT.out.len
      rw [List.length_take] at h1
      omega
    obtain ⟨a1, c1, rfl, hs1⟩ := TalO.s HO.out
    have HS1 := hid hs1
    clear hs1
    by_cases hlt : k < L.length
    · obtain ⟨b, off, rfl, hc0⟩ := (Sl.below HS.out HB.out) (k * 2) (by omega)
      obtain ⟨b', off', e', hc1⟩ := (Sl.below HS.out HB.out) (k * 2 + 1) (by omega)
      cases e'
      replace hc0 := hc0.trans (congrArg some (lkc_at L k hlt).1)
      replace hc1 := hc1.trans (congrArg some (lkc_at L k hlt).2)
      rw [← Nat.add_assoc] at hc1
      have HTk : Hid (L.take (k + 1) = L.take k ++ [L.getD k (0, 0)]) := by
        rw [Hid, List.take_add_one]
        simp [List.getD, hlt]
      obtain ⟨x, hx0⟩ : ∃ x, L.getD k (0, 0) = x := ⟨_, rfl⟩
      rw [hx0] at hc0 hc1 HTk
      clear hx0
      obtain ⟨x1, x2⟩ := x
      simp only [] at hc0 hc1
      obtain ⟨wx, hwx, ezx, X0, BX⟩ := one_new wr [.int .i64 x1, .int .i64 x2] 53
      have HX := hid X0
      have HBX := hid (HB.out.trans (BX.mono HB.out.size))
      have HSX : Hid (TalS wx a1 T) := Sl.below HS1.out BX
      have HOX : Hid (TalO wx w.heap.size (.slice a1 T.length c1) T) := RowO.below HO.out BX
      clear X0 BX
      go_upto_region 5 with fail
      try simp only [hwx]
      have d0 := HX.out.c 0 rfl
      have d1 := HX.out.c 1 rfl
      go_wp2_with fail
      clear hwx d0 d1
      refine (place T (x1, x2) a1 c1 wx HSX.out (by omega)).mono ?_
      rintro e w1 ⟨z, rfl, hz, b1⟩
      have HB1 := hid (HBX.out.trans (b1.mono HBX.out.size))
      have HO1 : Hid (TalO w1 w.heap.size (.slice a1 T.length c1) T) := RowO.below HOX.out b1
      have HX1 := hid (HX.out.below b1 HX.out.lt)
      have hsz := HB1.out.size
      clear b1 hc0 hc1 HS1 HO HSX HOX HX HBX
      rcases hz with ⟨i, hi, rfl, hx⟩ | ⟨rfl, hx⟩
      · obtain ⟨g, cc, e⟩ := rowO_form HO1.out (by omega)
        simp only [Value.slice.injEq] at e
        obtain ⟨rfl, _, rfl⟩ := e
        obtain ⟨a2, c2, e2, hw⟩ := RowO.wr HO1.out
        cases e2
        obtain ⟨b2, o2, e2, hB2, hc2, hf2⟩ := hw (i * 3 + 2) (by omega)
        cases e2
        simp only [Nat.zero_add] at hc2 hf2
        replace hc2 := hc2.trans (congrArg some (tcs_at T i hi).2.2)
        have HT2 := hid (tal_found HT.out hi hx)
        have HO2 := hid (rowO_set HO1.out (i * 3 + 2) (by omega) (.int .i64 ((T.getD i ((0, 0), 0)).2 + 1)))
        have HE := hid (tcs_set T i hi ((T.getD i ((0, 0), 0)).2 + 1))
        have hbd : 0 ≤ (T.getD i ((0, 0), 0)).2 ∧ (T.getD i ((0, 0), 0)).2 ≤ 900 := by
          rw [tal_in HT.out hi hx]
          have := List.count_le_length (a := (x1, x2)) (l := L.take k)
          rw [List.length_take] at this
          omega
        have HBs := hid (below_set HB1.out g (i * 3 + 2) (.int .i64 ((T.getD i ((0, 0), 0)).2 + 1)) hB2)
        clear hw
        generalize hn : (T.getD i ((0, 0), 0)).2 = n at *
        have HN := hid hn
        clear hn
        go_wp2
        refine ⟨⟨k + 1, T.set i ((T.getD i ((0, 0), 0)).1, n + 1), by omega, by go_num, ?_, by rw [HTk.out]; exact HT2.out, HBs.out⟩, by simp [intOf]; omega⟩
        show RowO _ _ _ _ _ (T.set i ((T.getD i ((0, 0), 0)).1, n + 1)).length _
        rw [List.length_set, ← HE.out]
        exact HO2.out
      · have HT2 := hid (tal_new HT.out hx)
        have hwb : w.heap.size ≤ (w1.alloc (.cells #[.int .i64 x1, .int .i64 x2, .int .i64 1] 126)).heap.size := by have := lt_alloc w1 (.cells #[.int .i64 x1, .int .i64 x2, .int .i64 1] 126); omega
        clear hx
        have d0 := HX1.out.c 0 rfl
        have d1 := HX1.out.c 1 rfl
        go_wp2_with (at_builtin; refine wpList_app 76 126 (.agg #[.int .i64 0, .int .i64 0, .int .i64 0]) 3 24 Tryz.underlying76 infoMeet rfl (by decide) (by decide) _ rfl (.tmp 26) (.tmp 29) rfl w.heap.size _ T.length (tcs T) rfl (RowO.below HO1.out ((Below.refl _ _).alloc (Nat.le_refl _) _)) ⟨w1.heap.size, 0, none⟩ 1 1 [.int .i64 x1, .int .i64 x2, .int .i64 1] rfl rfl (three_row w1 x1 x2 1) (by intro u hu; simp only [List.mem_cons, List.not_mem_nil, or_false] at hu; rcases hu with rfl | rfl | rfl <;> rfl) (by omega) hwb ?_; intro v2 w2 r2 kk hi2)
        have hrb : ∀ b, rb (.slice a1 T.length c1) = some b → w.heap.size ≤ b := fun b hb => (RowO.lt HO1.out hb).1
        have HB2 : Hid (Below w.heap.size w w2) := (HB1.out.alloc HB1.out.size _).trans (kk.below hwb (fun b hb x => by have := hrb b x; omega))
        refine ⟨⟨k + 1, T ++ [((x1, x2), 1)], by omega, by go_num, ?_, by rw [HTk.out]; exact HT2.out, HB2⟩, by simp [intOf]; omega⟩
        show RowO _ _ _ _ _ (T ++ [((x1, x2), 1)]).length _
        rw [tcs_more, List.length_append]
        exact r2
    · obtain rfl : k = L.length := by omega
      have HT2 : Hid (TalIs T L) := by have := HT.out; rwa [List.take_length] at this
      go_wp2
      go_ret
      exact ⟨_, T, rfl, HO.out, HT2.out, HB.out⟩

end Go.Proofs.YtogebppolkfldaaGreatDoor.Hd

namespace Go.Proofs.YtogebppolkfldaaGreatDoor.Hd
open Go.RowKit Go.Proofs.YtogebppolkfldaaGreatDoor.Mem Go.Proofs.YtogebppolkfldaaGreatDoor.Sec Go.Proofs.YtogebppolkfldaaGreatDoor.Rd Go.Proofs.YtogebppolkfldaaGreatDoor.Pk Go.Proofs.YtogebppolkfldaaGreatDoor.Pl Go.Proofs.YtogebppolkfldaaGreatDoor.Rg
set_option linter.unusedVariables false

theorem pool_34 {R : ByteArray → Int × Nat} {l : List ByteArray} (h : poolOk R l = true) : l.length = 34 := by
  unfold poolOk at h
  simp only [Bool.and_eq_true, decide_eq_true_eq] at h
  exact h.1

theorem lease_row (w : World) (x y : Int) (t : TypeId) : Sl (w.alloc (.cells #[.int .i64 x, .int .i64 y] t)) (some ⟨w.heap.size, 0, none⟩) (1 * 2) (fun i => [Value.int .i64 x, .int .i64 y].getD i undef) :=
  (wr_new w #[.int .i64 x, .int .i64 y] _ 2 _ (fun i hi => by
    rcases i with _ | _ | i
    · rfl
    · rfl
    · omega)).sl

set_option maxRecDepth 100000 in
set_option maxHeartbeats 8000000 in
theorem iLeases (R : ByteArray → Int × Nat) (hR : Reads R) (w : World) (v : Value) (X : Wd) (h : WdR w v X) (hs : X.Small) (hd : X.D.Held) (hok : X.ok R = true) :
    Calls Tryz.prog 26 #[v] w fun e w' => ∃ u, e = .returned u ∧ LksO w' w.heap.size u (leasesTo X 3) ∧ Below w.heap.size w w' := by
  have HQ1 := hid hok
  clear hok
  have HW := hid h
  obtain ⟨a1, c1, a2, c2, a3, c3, a4, c4, a5, c5, a6, c6, a7, c7, L, rfl, hm, s1, s2, s3, s4, s5, s6, s7⟩ := h
  have HS1 := hid s1
  have HS2 := hid s2
  have HS4 := hid s4
  have HSM := hid hs
  have HDH := hid hd
  have HM := hid hm
  have HRR := hid hR
  clear s1 s2 s3 s4 s5 s6 s7 hm hs hd hR
  obtain ⟨hq3, hq4, hq5, _, _, _⟩ := ok_parts HQ1.out
  have HEP := hid (right_ep hq3)
  have HSL := hid (pool_34 hq4)
  have HHO := hid hq5
  have HPO := hid hq4
  have HL3 : Hid (L.length = 3) := by have := hosts_len hq5; rw [← HM.out, List.length_map] at this; exact this
  have HLM : Hid (∀ j, j < 3 → X.hs.getD j Ho.none = (L.getD j Hx.none).H) := fun j hj => by
    have hj' : j < L.length := by have := HL3.out; omega
    rw [← HM.out]
    simp [List.getD, hj']
  clear hq3 hq4 hq5
  obtain ⟨hb, ho, ea4, _⟩ := HS4.out.1 0 (by have := HL3.out; omega)
  obtain ⟨eb, eo, ea2, _⟩ := HS2.out 0 (by have := HEP.out; omega)
  obtain ⟨sb, so, ea1, _⟩ := HS1.out 0 (by have := HSL.out; omega)
  subst ea4
  subst ea2
  subst ea1
  obtain ⟨wa, hwa, ez, A0, B0⟩ := one_new w [.slice (some ⟨sb, so, none⟩) X.D.sec.length c1, .slice (some ⟨eb, eo, none⟩) X.D.ep.length c2, .slice a3 X.D.pe.length c3, .slice (some ⟨hb, ho, none⟩) L.length c4, .slice a5 X.log.length c5, .slice a6 X.seen.length c6, .slice a7 X.rep.length c7] 41
  have k0 := A0.c 0 rfl
  have k1 := A0.c 1 rfl
  have k2 := A0.c 2 rfl
  have k3 := A0.c 3 rfl
  have k4 := A0.c 4 rfl
  have k5 := A0.c 5 rfl
  have k6 := A0.c 6 rfl
  have HA := hid A0
  have HB0 := hid B0
  clear A0 B0 ez
  rw [HL3.out] at k3
  have C0 : Hid (∀ u, Below wa.heap.size wa u → Hid (u.cell? ⟨w.heap.size, 0, none⟩ = some (.slice (some ⟨sb, so, none⟩) 34 c1)) ∧ Hid (u.cell? ⟨w.heap.size, 1, none⟩ = some (.slice (some ⟨eb, eo, none⟩) 3 c2)) ∧ Hid (u.cell? ⟨w.heap.size, 3, none⟩ = some (.slice (some ⟨hb, ho, none⟩) 3 c4))) := fun u hu => by
    have hr := HA.out.below hu HA.out.lt
    refine ⟨?_, ?_, ?_⟩
    · have := hr.c 0 rfl; rw [HSL.out] at this; exact this
    · have := hr.c 1 rfl; rw [HEP.out] at this; exact this
    · have := hr.c 3 rfl; rw [HL3.out] at this; exact this
  go_enter Tryz.func26, Tryz.ntmps26
  go_wp2_with fail
  try simp only [hwa]
  try go_wp2
  clear hwa k0 k1 k2 k3 k4 k5 k6
  go_loopw [3, 9] (fun u i wr => ∃ k : Nat, k ≤ 3 ∧ i = .int .i64 (k : Int) ∧ Hid (LksO wr wa.heap.size u (leasesTo X k)) ∧ Hid (Below wa.heap.size wa wr)) (fun _ i _ => 3 - (intOf i).toNat)
  case atStart => exact ⟨0, Nat.zero_le _, rfl, Or.inl ⟨_, rfl, rfl, rfl⟩, Below.refl _ _⟩
  case round =>
    obtain ⟨k, hk, rfl, HO, HBk⟩ := hrel
    have hle := leases_len X k
    obtain ⟨la, lc, rfl, hls⟩ := LksO.s HO.out
    clear hls
    by_cases hlt : k < 3
    · have HB := hid (HB0.out.trans (HBk.out.mono HB0.out.size))
      obtain ⟨HC0, HC1, HC3⟩ := C0.out wr HBk.out
      obtain ⟨b', off', ea, hrg, hou⟩ := (HS4.out.below HB.out).range k (by rw [HL3.out]; exact hlt)
      cases ea
      have HX : Hid ((L.getD k Hx.none).H = X.hs.getD k Ho.none) := (HLM.out k hlt).symm
      obtain ⟨eb', eo', ee, hce⟩ := (Sl.below HS2.out HB.out) k (by rw [HEP.out]; exact hlt)
      cases ee
      replace hce : wr.cell? ⟨eb, eo + k, none⟩ = some (.int .i64 (X.D.ep.getD k 0)) := hce
      have hxi : (L.getD k Hx.none).H.id = (k : Int) := by
        have h1 := hosts_at HHO.out k hlt
        rw [HLM.out k hlt] at h1
        unfold hoIs at h1
        simp only [Bool.and_eq_true, decide_eq_true_eq] at h1
        exact h1.1
      generalize L.getD k Hx.none = x at hrg hou HX hxi
      have HXI := hid hxi
      have HRG := hid hrg
      clear hrg hou hce hxi
      have hk3 : (k : Int) < 3 := by omega
      go_upto_region 4 with fail
      apply wp_region_lit
      iterate 3 go_step
      refine wpList_elem rfl rfl rfl 68 _ rfl hb (ho + k * 16) rfl x.cells HRG.out _ Tryz.underlying68 rfl (by rw [hx_len]; kernel_rfl) [.int .i64 0, .int .i64 0, .bool false, .bool false, .bool false, .int .i64 0, .int .i64 0, .int .i64 0, .int .i64 0, .string ⟨#[]⟩, .int .i64 0, .int .i64 0, .int .i64 0, .string ⟨#[]⟩, .slice none 0 0, .int .i64 0] 68 (fun ρ w => by unfold execOp; simp [go_sem]) 68 _ _ rfl (by kernel_rfl) rfl rfl rfl rfl ?_
      intro wz R0 B0
      have HRz := hid R0
      have HRB := hid (range_of_row R0)
      have HBz := hid (HB.out.trans (B0.mono HB.out.size))
      have HBkz := hid (HBk.out.trans (B0.mono HBk.out.size))
      have HOz : Hid (LksO wz wa.heap.size (.slice la (leasesTo X k).length lc) (leasesTo X k)) := RowO.below HO.out B0
      replace HC1 := hid (Rg.cell_later HC1.out B0)
      clear R0 B0 HC0 HC3 HO
      simp only [Act.put, List.setIfInBounds_toArray, List.set_cons_zero, List.set_cons_succ]
      generalize Value.agg x.cells.toArray = V0
      have HLV := hid (fun (u : World) (hu : Below wz.heap.size wz u) => iLive u x k eb eo c2 X.D.ep HXI.out hlt HEP.out (Sl.below HS2.out (HBz.out.trans (hu.mono HBz.out.size))))
      obtain ⟨lv, hlv⟩ : ∃ lv, (x.H.up && decide (x.H.ep = X.D.ep.getD k 0)) = lv := ⟨_, rfl⟩
      rw [hlv] at HLV
      have HAT : Hid (liveAt X k = lv) := by show liveAt X k = lv; unfold liveAt; rw [← HX.out]; exact hlv
      have HKE : Hid (keyAt X k = ((k : Int), x.H.ep)) := by show _ = _; unfold keyAt; rw [← HX.out]
      clear hlv
      go_upto_region 5 with fail
      refine region_grow (val := fun i => [.agg (List.toArray x.cells), .pointer (some ⟨w.heap.size, 0, none⟩), .pointer (some ⟨w.heap.size, 1, none⟩), .slice (some ⟨eb, eo, none⟩) 3 c2, .bool lv].getD i undef) (sp := fun _ => none) false (by kernel_rfl) (by kernel_rfl) [some 13, some 14, some 15, some 16, some 17] (by kernel_rfl) (fun _ _ h => by cases h) ?_ (fun v w5 hb_ hG => ?_)
      · refine ⟨gVal rfl (.inl ⟨rfl, rfl⟩) rfl (fun Lb v act wy K => Rg.run_load_at 68 (.tmp 5) rfl _ _ ((K.off (x := .tmp 5) (by kernel_rfl)).trans rfl) _ (rangeAt_below HRB.out K.bel) _ Tryz.underlying68 rfl (by rw [hx_len]; kernel_rfl)), ?_⟩
        refine ⟨gVal rfl (.inl ⟨rfl, rfl⟩) rfl (fun Lb v act wy K => by
         have e1 : act.eval (.tmp 1) = .pointer (some ⟨w.heap.size, 0, none⟩) := (K.off (x := .tmp 1) (by kernel_rfl)).trans rfl
         show (execOp act.eval _).run Tryz.prog wy = .ok (.value (.pointer (some ⟨w.heap.size, 0, none⟩))) wy
         generalize act.eval = ρ at e1 ⊢
         unfold execOp
         simp [go_sem, e1]), ?_⟩
        refine ⟨gVal rfl (.inl ⟨rfl, rfl⟩) rfl (fun Lb v act wy K => by
         have e1 : act.eval (.tmp 14) = .pointer (some ⟨w.heap.size, 0, none⟩) := K.at_val 1 (by kernel_rfl) (by kernel_rfl) rfl
         show (execOp act.eval _).run Tryz.prog wy = .ok (.value (.pointer (some ⟨w.heap.size, 1, none⟩))) wy
         generalize act.eval = ρ at e1 ⊢
         unfold execOp
         simp [go_sem, e1]), ?_⟩
        refine ⟨gVal rfl (.inl ⟨rfl, rfl⟩) rfl (fun Lb v act wy K => by
         have e1 : act.eval (.tmp 15) = .pointer (some ⟨w.heap.size, 1, none⟩) := K.at_val 2 (by kernel_rfl) (by kernel_rfl) rfl
         have e2 := Rg.cell_later (HC1.out) K.bel
         show (execOp act.eval _).run Tryz.prog wy = .ok (.value (.slice (some ⟨eb, eo, none⟩) 3 c2)) wy
         generalize act.eval = ρ at e1 ⊢
         unfold execOp
         simp [go_sem, e1, e2]), ?_⟩
        refine ⟨gCall rfl (.inl ⟨rfl, rfl⟩) 61 #[.tmp 13, .tmp 16] _ (fun _ => #[.agg (List.toArray x.cells), .slice (some ⟨eb, eo, none⟩) 3 c2]) rfl call_iLive (fun Lb v act wy K => by
         have e1 : act.eval (.tmp 13) = .agg (List.toArray x.cells) := K.at_val 0 (by kernel_rfl) (by kernel_rfl) rfl
         have e2 : act.eval (.tmp 16) = .slice (some ⟨eb, eo, none⟩) 3 c2 := K.at_val 3 (by kernel_rfl) (by kernel_rfl) rfl
         simp only [List.map_toArray, List.map_cons, List.map_nil, e1, e2]) (fun v w hb hs => (HLV.out w hb).mono (fun e w' ⟨h1, h2⟩ => ⟨_, h1, h2, rfl⟩)), ?_⟩
        exact trivial
      have e4 : v 4 = .bool lv := hG 4 (by show 4 < 5; decide)
      have HO5 : Hid (LksO w5 wa.heap.size (.slice la (leasesTo X k).length lc) (leasesTo X k)) := RowO.below HOz.out hb_
      have HBk5 := hid (HBkz.out.trans (hb_.mono HBkz.out.size))
      have HR5 := hid (HRz.out.below hb_ HRz.out.lt)
      have hsz5 : wa.heap.size ≤ w5.heap.size := HBk5.out.size
      have hc0 := HR5.out.c 0 rfl
      have hc1 := HR5.out.c 1 rfl
      rw [HXI.out] at hc0
      clear hG hb_ HRz HRB HOz HLV
      simp only [putsAll, Act.put, List.setIfInBounds_toArray, List.set_cons_zero, List.set_cons_succ, e4]
      clear e4
      cases hl : lv
      · rw [hl] at HAT
        have HN := hid (leases_no HAT.out)
        clear hl hc0 hc1
        go_wp2
        exact ⟨⟨k + 1, by omega, by go_num, by rw [HN.out]; exact HO5.out, HBk5.out⟩, by simp [intOf]; omega⟩
      rw [hl] at HAT
      have HN := hid (leases_yes HAT.out)
      rw [HKE.out] at HN
      clear hl
      have hwb : wa.heap.size ≤ (w5.alloc (.cells #[.int .i64 (k : Int), .int .i64 x.H.ep] 53)).heap.size := by have := lt_alloc w5 (.cells #[.int .i64 (k : Int), .int .i64 x.H.ep] 53); omega
      go_wp2_with (at_builtin; refine wpList_app 78 53 (.agg #[.int .i64 0, .int .i64 0]) 2 16 Tryz.underlying78 infoLease rfl (by decide) (by decide) _ rfl (.tmp 18) (.tmp 24) rfl wa.heap.size _ (leasesTo X k).length (lkc (leasesTo X k)) rfl (RowO.below HO5.out ((Below.refl _ _).alloc (Nat.le_refl _) _)) ⟨w5.heap.size, 0, none⟩ 1 1 [.int .i64 (k : Int), .int .i64 x.H.ep] rfl rfl (lease_row w5 (k : Int) x.H.ep _) (by intro u hu; simp only [List.mem_cons, List.not_mem_nil, or_false] at hu; rcases hu with rfl | rfl <;> rfl) (by omega) hwb ?_; intro v2 w2 r2 kk hi2)
      have hrb : ∀ b, rb (.slice la (leasesTo X k).length lc) = some b → wa.heap.size ≤ b := fun b hb => (RowO.lt HO5.out hb).1
      have HB2 : Hid (Below wa.heap.size wa w2) := (HBk5.out.alloc HBk5.out.size _).trans (kk.below hwb (fun b hb x => by have := hrb b x; omega))
      refine ⟨⟨k + 1, by omega, by go_num, ?_, HB2.out⟩, by simp [intOf]; omega⟩
      show RowO _ _ _ _ _ (leasesTo X (k + 1)).length _
      rw [HN.out, lkc_more, List.length_append]
      exact r2
    · obtain rfl : k = 3 := by omega
      go_wp2
      go_ret
      exact ⟨_, rfl, RowO.mono HO.out HB0.out.size, HB0.out.trans (HBk.out.mono HB0.out.size)⟩

end Go.Proofs.YtogebppolkfldaaGreatDoor.Hd

namespace Go.Proofs.YtogebppolkfldaaGreatDoor.Hd
open Go.RowKit Go.Proofs.YtogebppolkfldaaGreatDoor.Mem Go.Proofs.YtogebppolkfldaaGreatDoor.Sec Go.Proofs.YtogebppolkfldaaGreatDoor.Rd Go.Proofs.YtogebppolkfldaaGreatDoor.Pk Go.Proofs.YtogebppolkfldaaGreatDoor.Pl Go.Proofs.YtogebppolkfldaaGreatDoor.Rg
set_option linter.unusedVariables false

theorem call_live (vs : Array Value) (w : World) : (callFunc 26 vs).run Tryz.prog w = .ok (.enter 26 vs) w := by simp [go_sem]
theorem call_tally (vs : Array Value) (w : World) : (callFunc 25 vs).run Tryz.prog w = .ok (.enter 25 vs) w := by simp [go_sem]
theorem call_times (vs : Array Value) (w : World) : (callFunc 27 vs).run Tryz.prog w = .ok (.enter 27 vs) w := by simp [go_sem]
theorem call_leaseIn (vs : Array Value) (w : World) : (callFunc 28 vs).run Tryz.prog w = .ok (.enter 28 vs) w := by simp [go_sem]

def P17 (LS : List LK) (V : Value) (u : World) : Prop := ∃ a cap, V = .slice a LS.length cap ∧ LksS u a LS
def P18 (LS : List LK) (V : Value) (u : World) : Prop := ∃ (T : Tal) (a : Option Addr) (cap : Nat), V = .slice a T.length cap ∧ TalS u a T ∧ TalIs T LS ∧ T.length ≤ 1000

/-- A lease in its kind: what it is, and how many hold it. -/
theorem leased_is (R : ByteArray → Int × Nat) (X : Wd) (h : X.ok R = true) (k i : Int) (hk : (k = 3 ∨ k = 4) ∧ 0 ≤ Sector.sectorOf k i) :
    ∃ (p : Nat) (a e : Int), p < 34 ∧ Sector.sectorOf k i = (p : Int) ∧ held R X k i = ((leasesTo X 3).count (a, e) : Int) ∧
      ((k = 3 ∧ (∃ m : Nat, i = (m : Int) ∧ m < 4 ∧ p = 9 + m) ∧ ∃ on l, readVol R (X.D.sec.getD p ByteArray.empty) = some (a, e, on, l)) ∨ (k = 4 ∧ (∃ m : Nat, i = (m : Int) ∧ m < 3 ∧ p = 13 + m) ∧ ∃ l, readGroup R (X.D.sec.getD p ByteArray.empty) = some (a, e, l))) := by
  obtain ⟨_, hp, _⟩ := ok_parts h
  rcases hk with ⟨rfl | rfl, hs⟩
  · obtain ⟨m, rfl, hm⟩ := sec3_in hs
    obtain ⟨⟨a, e, on, l⟩, q⟩ := vol_at hp m hm
    exact ⟨9 + m, a, e, by omega, sec3 m hm, held_vol h m hm q, .inl ⟨rfl, ⟨m, rfl, hm, rfl⟩, on, l, q⟩⟩
  · obtain ⟨m, rfl, hm⟩ := sec4_in hs
    obtain ⟨⟨a, e, l⟩, q⟩ := group_at hp m hm
    exact ⟨13 + m, a, e, by omega, sec4 m hm, held_group h m hm q, .inr ⟨rfl, ⟨m, rfl, hm, rfl⟩, l, q⟩⟩

set_option maxRecDepth 100000 in
set_option maxHeartbeats 8000000 in
theorem iHolders (R : ByteArray → Int × Nat) (hR : Reads R) (hT : ∀ s : ByteArray, s.size ≤ maxLen → Tx s (R s)) (w : World) (v : Value) (X : Wd) (i1 i2 : Int) (h : WdR w v X) (hs : X.Small) (hd : X.D.Held) (hL : Laid w) :
    Calls Tryz.prog 7 #[v, .int .i64 i1, .int .i64 i2] w fun e w' => e = .returned (.int .i64 (held R X i1 i2)) ∧ Below w.heap.size w w' := by
  have HTT := hid hT
  have HLA := hid hL
  clear hT hL
  have HW := hid h
  obtain ⟨a1, c1, a2, c2, a3, c3, a4, c4, a5, c5, a6, c6, a7, c7, L, rfl, hm, s1, s2, s3, s4, s5, s6, s7⟩ := h
  have HS1 := hid s1
  have HS2 := hid s2
  have HS4 := hid s4
  have HSM := hid hs
  have HDH := hid hd
  have HM := hid hm
  have HRR := hid hR
  clear s1 s2 s3 s4 s5 s6 s7 hm hs hd hR
  obtain ⟨wa, hwa, ez, A0, B0⟩ := one_new w [.slice a1 X.D.sec.length c1, .slice a2 X.D.ep.length c2, .slice a3 X.D.pe.length c3, .slice a4 L.length c4, .slice a5 X.log.length c5, .slice a6 X.seen.length c6, .slice a7 X.rep.length c7] 41
  have k0 := A0.c 0 rfl
  have k1 := A0.c 1 rfl
  have k2 := A0.c 2 rfl
  have k3 := A0.c 3 rfl
  have k4 := A0.c 4 rfl
  have k5 := A0.c 5 rfl
  have k6 := A0.c 6 rfl
  have HA := hid A0
  have HB := hid B0
  clear A0 B0 ez
  go_enter Tryz.func7, Tryz.ntmps7
  go_wp2_with fail
  try simp only [hwa]
  clear hwa k0 k1 k2 k3 k4 k5 k6
  refine (iWorldOk R HRR.out HTT.out wa _ X (HW.out.below HB.out) HSM.out HDH.out (HLA.out.below HB.out)).mono ?_
  rintro e w1 ⟨rfl, b1⟩
  have HA1 := hid (HA.out.below b1 HA.out.lt)
  have HB1 := hid (HB.out.trans (b1.mono HB.out.size))
  clear b1 HA HB
  cases hq1 : X.ok R
  · have HQ := hid hq1
    clear hq1
    go_wp2
    go_ret
    exact ⟨by rw [held_no1 HQ.out]; rfl, HB1.out⟩
  have HQ1 := hid hq1
  clear hq1
  go_wp2_with fail
  refine (iLeased w1 i1 i2 (HLA.out.below HB1.out).k).mono ?_
  rintro e w1' ⟨rfl, hw⟩
  subst hw
  by_cases hk : (i1 = 3 ∨ i1 = 4) ∧ 0 ≤ Sector.sectorOf i1 i2
  rotate_left
  · have HQ : Hid (held R X i1 i2 = 0) := if_neg (fun x => hk ⟨x.2.1, x.2.2⟩)
    rw [decide_eq_false hk]
    clear hk
    go_wp2
    go_ret
    exact ⟨by rw [HQ.out]; rfl, HB1.out⟩
  have HK := hid hk
  rw [decide_eq_true hk]
  clear hk
  obtain ⟨hq3, hq4, hq5, _, _, _⟩ := ok_parts HQ1.out
  have HEP := hid (right_ep hq3)
  have HSL := hid (pool_34 hq4)
  have HHO := hid hq5
  have HPO := hid hq4
  have HL3 : Hid (L.length = 3) := by have := hosts_len hq5; rw [← HM.out, List.length_map] at this; exact this
  have HLM : Hid (∀ j, j < 3 → X.hs.getD j Ho.none = (L.getD j Hx.none).H) := fun j hj => by
    have hj' : j < L.length := by have := HL3.out; omega
    rw [← HM.out]
    simp [List.getD, hj']
  clear hq3 hq4 hq5
  obtain ⟨hb, ho, ea4, _⟩ := HS4.out.1 0 (by have := HL3.out; omega)
  obtain ⟨eb, eo, ea2, _⟩ := HS2.out 0 (by have := HEP.out; omega)
  obtain ⟨sb, so, ea1, _⟩ := HS1.out 0 (by have := HSL.out; omega)
  subst ea4
  subst ea2
  subst ea1
  have C0 : Hid (∀ u, Below w1'.heap.size w1' u → Hid (u.cell? ⟨w.heap.size, 0, none⟩ = some (.slice (some ⟨sb, so, none⟩) 34 c1)) ∧ Hid (u.cell? ⟨w.heap.size, 1, none⟩ = some (.slice (some ⟨eb, eo, none⟩) 3 c2)) ∧ Hid (u.cell? ⟨w.heap.size, 3, none⟩ = some (.slice (some ⟨hb, ho, none⟩) 3 c4))) := fun u hu => by
    have hr := HA1.out.below hu HA1.out.lt
    refine ⟨?_, ?_, ?_⟩
    · have := hr.c 0 rfl; rw [HSL.out] at this; exact this
    · have := hr.c 1 rfl; rw [HEP.out] at this; exact this
    · have := hr.c 3 rfl; rw [HL3.out] at this; exact this
  obtain ⟨p, a, e, hp, hsec, hheld, hcase⟩ := leased_is R X HQ1.out i1 i2 HK.out
  have HH := hid hheld
  obtain ⟨LS, hLS⟩ : ∃ LS, leasesTo X 3 = LS := ⟨_, rfl⟩
  rw [hLS] at HH
  have HLEN : Hid (LS.length ≤ 3) := by rw [← hLS]; exact leases_len X 3
  have HLL : Hid (∀ u, Below w1'.heap.size w1' u → Calls Tryz.prog 26 #[.agg #[.slice (some ⟨sb, so, none⟩) 34 c1, .slice (some ⟨eb, eo, none⟩) 3 c2, .slice a3 X.D.pe.length c3, .slice (some ⟨hb, ho, none⟩) 3 c4, .slice a5 X.log.length c5, .slice a6 X.seen.length c6, .slice a7 X.rep.length c7]] u fun e w' => ∃ V, e = .returned V ∧ Below u.heap.size u w' ∧ P17 LS V w') := fun u hu => by
    have hh := HW.out.below (HB1.out.trans (hu.mono HB1.out.size))
    rw [HL3.out, HEP.out, HSL.out] at hh
    refine (iLeases R HRR.out u _ X hh HSM.out HDH.out HQ1.out).mono ?_
    rintro e w' ⟨V, rfl, hO, b⟩
    rw [hLS] at hO
    obtain ⟨aa, cc, rfl, hS⟩ := LksO.s hO
    exact ⟨_, rfl, b, aa, cc, rfl, hS⟩
  have HLI : Hid (∀ u, Below w1'.heap.size w1' u → Calls Tryz.prog 28 #[.slice (some ⟨sb, so, none⟩) 34 c1, .int .i64 i1, .int .i64 i2] u fun r w' => r = .returned (.agg #[.int .i64 a, .int .i64 e]) ∧ Below u.heap.size u w') := fun u hu => by
    have hb2 := HB1.out.trans (hu.mono HB1.out.size)
    have hL2 := HLA.out.below hb2
    have hS2 := Sl.below HS1.out hb2
    rcases hcase with ⟨rfl, ⟨m, rfl, hm, rfl⟩, on, l, q⟩ | ⟨rfl, ⟨m, rfl, hm, rfl⟩, l, q⟩
    · exact leaseVol R HRR.out HTT.out u sb so c1 m X.D.sec hS2 HSL.out hm HSM.out.dt hL2 q
    · exact leaseGroup R HRR.out u sb so c1 m X.D.sec hS2 HSL.out hm HSM.out.dt hL2 q
  have HRW : Hid (w1'.rangeAt w.heap.size 0 [.slice (some ⟨sb, so, none⟩) 34 c1, .slice (some ⟨eb, eo, none⟩) 3 c2, .slice a3 X.D.pe.length c3, .slice (some ⟨hb, ho, none⟩) 3 c4, .slice a5 X.log.length c5, .slice a6 X.seen.length c6, .slice a7 X.rep.length c7]) := by have := range_of_row HA1.out; rw [HL3.out, HEP.out, HSL.out] at this; exact this
  obtain ⟨HC0, HC1, HC3⟩ := C0.out w1' (Below.refl _ _)
  clear hp hsec hheld hcase hLS C0
  go_upto_region 3 with fail
  refine region_grow (val := fun i => [.agg #[.slice (some ⟨sb, so, none⟩) 34 c1, .slice (some ⟨eb, eo, none⟩) 3 c2, .slice a3 X.D.pe.length c3, .slice (some ⟨hb, ho, none⟩) 3 c4, .slice a5 X.log.length c5, .slice a6 X.seen.length c6, .slice a7 X.rep.length c7], undef, undef, .pointer (some ⟨w.heap.size, 0, none⟩), .pointer (some ⟨w.heap.size, 0, none⟩), .slice (some ⟨sb, so, none⟩) 34 c1, .int .i64 i1, .int .i64 i2, .agg #[.int .i64 a, .int .i64 e], .int .i64 (LS.count (a, e) : Int), .int .i64 (LS.count (a, e) : Int)].getD i undef)
    (sp := fun i => match i with | 1 => some (P17 LS) | 2 => some (P18 LS) | _ => none) true (by kernel_rfl) (by kernel_rfl) [some 16, some 17, some 18, some 19, some 20, some 21, some 22, some 23, some 24, some 25, some 6] (by kernel_rfl) ?_ ?_ (fun v w3 hb3 hG => ?_)
  · intro i p h
    match i, h with
    | 1, h =>
      cases h
      rintro x u u' ⟨aa, cc, rfl, hS⟩ b
      exact ⟨aa, cc, rfl, Sl.below hS b⟩
    | 2, h =>
      cases h
      rintro x u u' ⟨T, aa, cc, rfl, hS, hI, hl⟩ b
      exact ⟨T, aa, cc, rfl, Sl.below hS b, hI, hl⟩
    | 0, h => cases h
    | (n + 3), h => cases h
  · refine ⟨gVal rfl (.inl ⟨rfl, rfl⟩) rfl (fun Lb v act wy K => Rg.run_load_at 41 (.tmp 3) rfl _ _ ((K.off (x := .tmp 3) (by kernel_rfl)).trans rfl) _ (rangeAt_below HRW.out K.bel) _ Tryz.underlying41 rfl (by kernel_rfl)), ?_⟩
    refine ⟨gCall rfl (.inl ⟨rfl, rfl⟩) 26 #[.tmp 16] _ (fun _ => #[.agg #[.slice (some ⟨sb, so, none⟩) 34 c1, .slice (some ⟨eb, eo, none⟩) 3 c2, .slice a3 X.D.pe.length c3, .slice (some ⟨hb, ho, none⟩) 3 c4, .slice a5 X.log.length c5, .slice a6 X.seen.length c6, .slice a7 X.rep.length c7]]) rfl call_live (fun Lb v act wy K => by
      have e1 : act.eval (.tmp 16) = .agg #[.slice (some ⟨sb, so, none⟩) 34 c1, .slice (some ⟨eb, eo, none⟩) 3 c2, .slice a3 X.D.pe.length c3, .slice (some ⟨hb, ho, none⟩) 3 c4, .slice a5 X.log.length c5, .slice a6 X.seen.length c6, .slice a7 X.rep.length c7] := K.at_val 0 (by kernel_rfl) (by kernel_rfl) rfl
      simp only [List.map_toArray, List.map_cons, List.map_nil, e1]) (fun v w hb hs => HLL.out w hb), ?_⟩
    refine ⟨gCall rfl (.inl ⟨rfl, rfl⟩) 25 #[.tmp 17] _ (fun v => #[v 1]) rfl call_tally (fun Lb v act wy K => by
      have e1 : act.eval (.tmp 17) = v 1 := K.slots.eval_got 1 (K.up 1 (by kernel_rfl)) (by kernel_rfl)
      simp only [List.map_toArray, List.map_cons, List.map_nil, e1]) (fun v w hb hs => by
      obtain ⟨aa, cc, e1, hS⟩ : P17 LS (v 1) w := hs 1 (by kernel_rfl)
      rw [e1]
      refine (tallyOf LS aa cc w hS (by have := HLEN.out; omega)).mono ?_
      rintro e w' ⟨V, T, rfl, hO, hI, b⟩
      obtain ⟨ta, tc, rfl, hTS⟩ := TalO.s hO
      exact ⟨_, rfl, b, T, ta, tc, rfl, hTS, hI, by have := hI.len; have := HLEN.out; omega⟩), ?_⟩
    refine ⟨gVal rfl (.inl ⟨rfl, rfl⟩) rfl (fun Lb v act wy K => by
      have e1 : act.eval (.tmp 3) = .pointer (some ⟨w.heap.size, 0, none⟩) := (K.off (x := .tmp 3) (by kernel_rfl)).trans rfl
      show (execOp act.eval _).run Tryz.prog wy = .ok (.value (.pointer (some ⟨w.heap.size, 0, none⟩))) wy
      generalize act.eval = ρ at e1 ⊢
      unfold execOp
      simp [go_sem, e1]), ?_⟩
    refine ⟨gVal rfl (.inl ⟨rfl, rfl⟩) rfl (fun Lb v act wy K => by
      have e1 : act.eval (.tmp 19) = .pointer (some ⟨w.heap.size, 0, none⟩) := K.at_val 3 (by kernel_rfl) (by kernel_rfl) rfl
      show (execOp act.eval _).run Tryz.prog wy = .ok (.value (.pointer (some ⟨w.heap.size, 0, none⟩))) wy
      generalize act.eval = ρ at e1 ⊢
      unfold execOp
      simp [go_sem, e1]), ?_⟩
    refine ⟨gVal rfl (.inl ⟨rfl, rfl⟩) rfl (fun Lb v act wy K => by
      have e1 : act.eval (.tmp 20) = .pointer (some ⟨w.heap.size, 0, none⟩) := K.at_val 4 (by kernel_rfl) (by kernel_rfl) rfl
      have e2 := Rg.cell_later (HC0.out) K.bel
      show (execOp act.eval _).run Tryz.prog wy = .ok (.value (.slice (some ⟨sb, so, none⟩) 34 c1)) wy
      generalize act.eval = ρ at e1 ⊢
      unfold execOp
      simp [go_sem, e1, e2]), ?_⟩
    refine ⟨gVal rfl (.inl ⟨rfl, rfl⟩) rfl (fun Lb v act wy K => by
      have e1 : act.eval (.tmp 1) = .int .i64 i1 := (K.off (x := .tmp 1) (by kernel_rfl)).trans rfl
      exact run_move _ rfl e1), ?_⟩
    refine ⟨gVal rfl (.inl ⟨rfl, rfl⟩) rfl (fun Lb v act wy K => by
      have e1 : act.eval (.tmp 2) = .int .i64 i2 := (K.off (x := .tmp 2) (by kernel_rfl)).trans rfl
      exact run_move _ rfl e1), ?_⟩
    refine ⟨gCall rfl (.inl ⟨rfl, rfl⟩) 28 #[.tmp 21, .tmp 22, .tmp 23] _ (fun _ => #[.slice (some ⟨sb, so, none⟩) 34 c1, .int .i64 i1, .int .i64 i2]) rfl call_leaseIn (fun Lb v act wy K => by
      have e1 : act.eval (.tmp 21) = .slice (some ⟨sb, so, none⟩) 34 c1 := K.at_val 5 (by kernel_rfl) (by kernel_rfl) rfl
      have e2 : act.eval (.tmp 22) = .int .i64 i1 := K.at_val 6 (by kernel_rfl) (by kernel_rfl) rfl
      have e3 : act.eval (.tmp 23) = .int .i64 i2 := K.at_val 7 (by kernel_rfl) (by kernel_rfl) rfl
      simp only [List.map_toArray, List.map_cons, List.map_nil, e1, e2, e3]) (fun v w hb hs => (HLI.out w hb).mono (fun e w' ⟨h1, h2⟩ => ⟨_, h1, h2, rfl⟩)), ?_⟩
    refine ⟨gCall rfl (.inl ⟨rfl, rfl⟩) 27 #[.tmp 18, .tmp 24] _ (fun v => #[v 2, .agg #[.int .i64 a, .int .i64 e]]) rfl call_times (fun Lb v act wy K => by
      have e1 : act.eval (.tmp 18) = v 2 := K.slots.eval_got 2 (K.up 2 (by kernel_rfl)) (by kernel_rfl)
      have e2 : act.eval (.tmp 24) = .agg #[.int .i64 a, .int .i64 e] := K.at_val 8 (by kernel_rfl) (by kernel_rfl) rfl
      simp only [List.map_toArray, List.map_cons, List.map_nil, e1, e2]) (fun v w hb hs => by
      obtain ⟨T, aa, cc, e1, hS, hI, hl⟩ : P18 LS (v 2) w := hs 2 (by kernel_rfl)
      rw [e1]
      refine (timesOf T LS (a, e) aa cc w hS hl hI).mono ?_
      rintro e w' ⟨rfl, b⟩
      exact ⟨_, rfl, b, rfl⟩), ?_⟩
    refine ⟨gVal rfl (.inl ⟨rfl, rfl⟩) rfl (fun Lb v act wy K => by
      have e1 : act.eval (.tmp 25) = .int .i64 (LS.count (a, e) : Int) := K.at_val 9 (by kernel_rfl) (by kernel_rfl) rfl
      exact run_assign _ rfl e1), ?_⟩
    exact trivial
  have e10 : v 10 = .int .i64 (LS.count (a, e) : Int) := hG 10 (by show 10 < 11; decide)
  have HU := hid (HB1.out.trans (hb3.mono HB1.out.size))
  clear hG hb3
  simp only [putsAll, Act.put, List.setIfInBounds_toArray, List.set_cons_zero, List.set_cons_succ, e10]
  clear e10
  go_wp2
  go_ret
  exact ⟨by rw [HH.out]; rfl, HU.out⟩

end Go.Proofs.YtogebppolkfldaaGreatDoor.Hd

namespace Go.Proofs.YtogebppolkfldaaGreatDoor.Pl
open Go.RowKit Go.Proofs.YtogebppolkfldaaGreatDoor.Mem Go.Proofs.YtogebppolkfldaaGreatDoor.Sec Go.Proofs.YtogebppolkfldaaGreatDoor.Rd Go.Proofs.YtogebppolkfldaaGreatDoor.Pk
set_option linter.unusedVariables false

theorem call_toWorldHolders (vs : Array Value) (w : World) : (callFunc 6 vs).run Tryz.prog w = .ok (.enter 6 vs) w := by simp [go_sem]
theorem call_eqWorldHolders (vs : Array Value) (w : World) : (callFunc 8 vs).run Tryz.prog w = .ok (.enter 8 vs) w := by simp [go_sem]

set_option maxRecDepth 100000 in
set_option maxHeartbeats 8000000 in
theorem lawHolders (w : World) (v : Value) (X : Wd) (i1 i2 : Int) (h : WdR w v X) (hh : X.Held) (hL : Laid w) :
    Calls Tryz.prog 3 #[v, .int .i64 i1, .int .i64 i2] w fun e w' => e = .returned (.bool true) ∧ Below w.heap.size w w' := by
  obtain ⟨R, hR, hTx⟩ := reads_ex2
  have HR := hid hR
  have HTx := hid hTx
  have HW := hid h
  have HH := hid hh
  have HL := hid hL
  obtain ⟨a1, c1, a2, c2, a3, c3, a4, c4, a5, c5, a6, c6, a7, c7, L, rfl, _⟩ := h
  clear hR hTx hh hL
  obtain ⟨wa, hwa, ez, A0, B0⟩ := one_new w [.slice a1 X.D.sec.length c1, .slice a2 X.D.ep.length c2, .slice a3 X.D.pe.length c3, .slice a4 L.length c4, .slice a5 X.log.length c5, .slice a6 X.seen.length c6, .slice a7 X.rep.length c7] 31
  have HA := hid A0
  have HB := hid B0
  have k0 := A0.c 0 rfl
  have k1 := A0.c 1 rfl
  have k2 := A0.c 2 rfl
  have k3 := A0.c 3 rfl
  have k4 := A0.c 4 rfl
  have k5 := A0.c 5 rfl
  have k6 := A0.c 6 rfl
  clear A0 B0 ez
  go_enter Tryz.func3, Tryz.ntmps3
  go_wp2_with fail
  try simp only [hwa]
  clear hwa
  refine (szWorld wa _ X 1048576 (HW.out.below HB.out) HH.out (by decide) (by decide)).mono ?_
  rintro e w1 ⟨r, rfl, b1, hf⟩
  have HA1 := hid (HA.out.below b1 HA.out.lt)
  have HB1 := hid (HB.out.trans (b1.mono HB.out.size))
  have HF := hid hf
  clear k0 k1 k2 k3 k4 k5 k6 b1 HA HB hf
  by_cases hr : r < 0
  · go_wp2
    go_ret
    exact ⟨rfl, HB1.out⟩
  have HS : Hid X.Small := by
    rcases HF.out with h | h
    · omega
    · exact h
  clear HF
  have k0 := HA1.out.c 0 rfl
  have k1 := HA1.out.c 1 rfl
  have k2 := HA1.out.c 2 rfl
  have k3 := HA1.out.c 3 rfl
  have k4 := HA1.out.c 4 rfl
  have k5 := HA1.out.c 5 rfl
  have k6 := HA1.out.c 6 rfl
  go_wp2_with fail
  refine (toWorld w1 _ X (HW.out.below HB1.out) HS.out).mono ?_
  rintro e w2 ⟨v2, rfl, W2, b2⟩
  have HA2 := hid (HA1.out.below b2 HA1.out.lt)
  have HB2 := hid (HB1.out.trans (b2.mono HB1.out.size))
  have HW2 := hid W2
  clear k0 k1 k2 k3 k4 k5 k6 b2 W2 HA1 HB1
  go_wp2_with fail
  refine (Hd.sHolders R HR.out w2 v2 X i1 i2 HW2.out HS.out HH.out.d).mono ?_
  rintro e w3 ⟨rfl, b3⟩
  have HA3 := hid (HA2.out.below b3 HA2.out.lt)
  have HB3 := hid (HB2.out.trans (b3.mono HB2.out.size))
  generalize hq : Hd.held R X i1 i2 = q
  have HQ := hid hq
  clear b3 HA2 HB2 HW2 hq
  go_upto_region 6 with fail
  refine region_box rfl rfl rfl rfl rfl 31 _ rfl w.heap.size _ _ rfl HA3.out Tryz.underlying31 rfl (by kernel_rfl) 6 _ _ rfl call_toWorldHolders rfl [.slice none 0 0, .slice none 0 0, .slice none 0 0, .slice none 0 0, .slice none 0 0, .slice none 0 0, .slice none 0 0] 41 (fun ρ w => by unfold execOp; simp [go_sem]) 41 _ _ rfl (by kernel_rfl) (fun _ _ => rfl) (fun _ _ => rfl) (fun cs w' => WdR w' (.agg cs.toArray) X) ?_ ?_
  · refine (toWorld w3 _ X (HW.out.below HB3.out) HS.out).mono ?_
    rintro e w4 ⟨v4, rfl, W4, b4⟩
    have W4' := W4
    obtain ⟨z1, d1, z2, d2, z3, d3, z4, d4, z5, d5, z6, d6, z7, d7, M, rfl, _⟩ := W4
    exact ⟨[.slice z1 X.D.sec.length d1, .slice z2 X.D.ep.length d2, .slice z3 X.D.pe.length d3, .slice z4 M.length d4, .slice z5 X.log.length d5, .slice z6 X.seen.length d6, .slice z7 X.rep.length d7], rfl, rfl, rfl, W4', b4⟩
  rintro cs w4 wx W4 b4 X0 BX
  have HWx := hid ((WdR.below W4 BX))
  obtain ⟨z1, d1, z2, d2, z3, d3, z4, d4, z5, d5, z6, d6, z7, d7, M, ecs, _⟩ := W4
  obtain rfl : cs = [.slice z1 X.D.sec.length d1, .slice z2 X.D.ep.length d2, .slice z3 X.D.pe.length d3, .slice z4 M.length d4, .slice z5 X.log.length d5, .slice z6 X.seen.length d6, .slice z7 X.rep.length d7] := Rg.agg_inj ecs
  have HX := hid X0
  have HAx := hid ((HA3.out.below b4 HA3.out.lt).below BX (HA3.out.below b4 HA3.out.lt).lt)
  have HBx := hid ((HB3.out.trans (b4.mono HB3.out.size)).trans (BX.mono (HB3.out.trans (b4.mono HB3.out.size)).size))
  have y0 := X0.c 0 rfl
  have y1 := X0.c 1 rfl
  have y2 := X0.c 2 rfl
  have y3 := X0.c 3 rfl
  have y4 := X0.c 4 rfl
  have y5 := X0.c 5 rfl
  have y6 := X0.c 6 rfl
  clear b4 HA3 HB3 BX X0 ecs
  go_wp2_with fail
  refine (Hd.iHolders R HR.out HTx.out wx _ X i1 i2 HWx.out HS.out HH.out.d (HL.out.below HBx.out)).mono ?_
  rintro e w5 ⟨rfl, b5⟩
  rw [HQ.out]
  have HA5 := hid (HAx.out.below b5 HAx.out.lt)
  have HX5 := hid (HX.out.below b5 HX.out.lt)
  have HB5 := hid (HBx.out.trans (b5.mono HBx.out.size))
  have HW5 := hid (HWx.out.below b5)
  clear y0 y1 y2 y3 y4 y5 y6 b5 HAx HX HBx HWx
  go_upto_region 10 with fail
  refine region_eq (by kernel_rfl) rfl rfl rfl rfl rfl rfl rfl rfl rfl rfl rfl (by kernel_rfl) (by kernel_rfl) (by kernel_rfl) (by kernel_rfl) (by kernel_rfl) (by kernel_rfl) (by kernel_rfl) (by kernel_rfl) (by kernel_rfl) (fun _ _ _ _ h => h) (fun _ _ _ _ h => h)
    41 _ rfl w4.heap.size _ _ rfl HX5.out Tryz.underlying41 rfl (by kernel_rfl)
    31 _ rfl w.heap.size _ _ rfl HA5.out Tryz.underlying31 rfl (by kernel_rfl)
    6 _ _ rfl call_toWorldHolders rfl 8 _ _ _ rfl call_eqWorldHolders (fun _ => rfl) (fun _ => rfl) 4 _ rfl (fun _ => rfl)
    (fun V w' => WdR w' V X) ?_ ?_ ?_
  · intro w' hb
    refine (toWorld w' _ X (HW.out.below (HB5.out.trans (hb.mono HB5.out.size))) HS.out).mono ?_
    rintro e w6 ⟨v6, rfl, W6, b6⟩
    exact ⟨_, rfl, W6, b6⟩
  · rintro V w' hb W6
    exact eqWorld w' _ _ X (HW5.out.below hb) W6 HH.out
  · intro V w7 hb
    have HB7 := hid (HB5.out.trans (hb.mono HB5.out.size))
    clear hb
    go_wp2
    go_ret
    exact ⟨rfl, HB7.out⟩

end Go.Proofs.YtogebppolkfldaaGreatDoor.Pl
