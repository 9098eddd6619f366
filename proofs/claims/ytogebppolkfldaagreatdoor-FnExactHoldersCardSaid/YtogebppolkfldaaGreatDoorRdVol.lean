/-
  The walks of impl's cursor's flag and of impl.volParts. Condition: the table of sixteen sums and the error of a part that lacks stand in their variables.
-/
import Derived.Test.YtogebppolkfldaaGreatDoorRdNums
import Derived.Test.YtogebppolkfldaaGreatDoorRdHost
import Derived.Test.YtogebppolkfldaaGreatDoorSecVol
import Derived.Test.YtogebppolkfldaaGreatDoorRdGroup
import Derived.Test.YtogebppolkfldaaGreatDoorRdFrees
import Derived.RegionTactic
import Derived.BigRegion
import Derived.Deep.RegionWith
import Derived.RegionDies
namespace Go.Proofs.YtogebppolkfldaaGreatDoor.Rd
open Go.RowKit Go.Proofs.YtogebppolkfldaaGreatDoor.Mem Go.Proofs.YtogebppolkfldaaGreatDoor.Sec
set_option linter.unusedVariables false

theorem nums_split3 {R : ByteArray → Int × Nat} {s : ByteArray} {i : Nat} : ∀ {n : Nat} {x y f : Int} {z : Nat}, nums R s i 3 = some ([x, y, f], z) → nums R s i (n + 3) = (nums R s z n).map (fun p => (x :: y :: f :: p.1, p.2))
  | 0, x, y, f, z, h => by rw [h]; rfl
  | n + 1, x, y, f, z, h => by
    show nums R s i ((n + 3) + 1) = _
    conv => lhs; unfold nums
    rw [nums_split3 (n := n) h]
    conv => rhs; unfold nums
    cases nums R s z n with
    | none => rfl
    | some p =>
      simp only [Option.map_some, Option.bind_some]
      split <;> simp

/-- The flag: a number that is 0 or 1. -/
theorem flagOf (R : ByteArray → Int × Nat) (hR : Reads R) (s : ByteArray) (hs : s.size ≤ 1048576) (i : Nat) (w : World) (c : Nat) (h : Cur w c (rest s i)) (u : TypeId) (pv : Value) (hL : Lacks w u pv) (hc : 1 < c) :
    Calls Tryz.prog 127 #[.pointer (some ⟨c, 0, none⟩)] w fun e w' => ((R (rest s i)).2 ≠ 0 ∧ (R (rest s i)).1 ≤ 1 ∧ e = .returned (.bool (decide ((R (rest s i)).1 = 1))) ∧ Moved w w' c (rest s (i + (R (rest s i)).2))) ∨ (((R (rest s i)).2 = 0 ∨ 1 < (R (rest s i)).1) ∧ e = lack u pv ∧ Kept (fun b => b = c) w w') := by
  have HR := hid hR
  have HH := hid h
  have HL := hid hL
  clear hR h hL
  go_enter Tryz.func127, Tryz.ntmps127
  go_wp2_with fail
  refine (count R HR.out s hs i 1 w c HH.out u pv HL.out hc).mono ?_
  rintro e w1 (⟨hq, hle, rfl, M1⟩ | ⟨hq, rfl, k1⟩)
  · have HM := hid M1
    have HQ := hid hq
    have HX := hid hle
    clear M1 hq hle
    generalize hx : (R (rest s i)).1 = x
    have HE := hid hx
    clear hx
    go_wp2
    go_ret
    exact Or.inl ⟨HQ.out, by have := HX.out; have := HE.out; omega, by rw [HE.out]; rfl, HM.out⟩
  · have HQ := hid hq
    have HK := hid k1
    clear hq k1
    unfold lack
    go_wp2
    exact ⟨rfl, Or.inr ⟨HQ.out, rfl, HK.out⟩⟩

/-- No volume: a number lacks, or the flag is no flag. -/
def NoVol (R : ByteArray → Int × Nat) (s : ByteArray) (i : Nat) : Prop := nums R s i 7 = none ∨ ∃ x y f l z, nums R s i 7 = some (x :: y :: f :: l, z) ∧ 1 < f

theorem noVol_flag {R : ByteArray → Int × Nat} {s : ByteArray} {i : Nat} {x y : Int} {z : Nat} (h : nums R s i 2 = some ([x, y], z)) (hq : (R (rest s z)).2 = 0 ∨ 1 < (R (rest s z)).1) : NoVol R s i := by
  have h3 := nums_step h
  by_cases h0 : (R (rest s z)).2 = 0
  · rw [if_pos h0] at h3
    exact Or.inl (nums_none (k := 3) h3 4)
  · rw [if_neg h0] at h3
    have h7 := nums_split3 (n := 4) h3
    cases hn : nums R s (z + (R (rest s z)).2) 4 with
    | none => rw [hn] at h7; exact Or.inl h7
    | some p =>
      rw [hn] at h7
      exact Or.inr ⟨x, y, (R (rest s z)).1, p.1, p.2, h7, by rcases hq with q | q; exact absurd q h0; exact q⟩

set_option maxRecDepth 100000 in
set_option maxHeartbeats 2000000 in
theorem volParts (R : ByteArray → Int × Nat) (hR : Reads R) (s : ByteArray) (hs : s.size ≤ 1048576) (i : Nat) (w : World) (c : Nat) (h : Cur w c (rest s i)) (u : TypeId) (pv : Value) (hL : Lacks w u pv) (hc : 1 < c) :
    Calls Tryz.prog 98 #[.pointer (some ⟨c, 0, none⟩)] w fun e w' => ((∃ x y f l z a cap, nums R s i 7 = some (x :: y :: f :: l, z) ∧ f ≤ 1 ∧ e = .returned (vlV (x - 1) y (decide (f = 1)) a l.length cap) ∧ Ir w' w.heap.size (.slice a l.length cap) (l.map (· + -1)) ∧ l.length = 4) ∨ (NoVol R s i ∧ e = lack u pv)) ∧ Kept (fun b => b = c) w w' := by
  have HR := hid hR
  have HH := hid h
  have HL := hid hL
  have hlt := h.lt
  clear hR h hL
  go_enter Tryz.func98, Tryz.ntmps98
  go_wp2_with fail
  obtain ⟨wl, hwl, ez, A0, B0⟩ := one_new w [.int .i64 0, .int .i64 0, .bool false, .slice none 0 0] 55
  simp only [hwl]
  have HA := hid A0
  have HKl : Hid (Kept (fun b => b = c) w wl) := (Kept.of_below B0)
  have HLl := hid (HL.out.kept (Kept.of_below (S := fun _ => False) B0) (fun x => x))
  have HHl := hid (HH.out.below B0)
  clear hwl A0 B0
  refine (lease R HR.out s hs i wl c HHl.out u pv HLl.out hc).mono ?_
  rintro e w1 (⟨x, y, z, hn, rfl, M1⟩ | ⟨hn, rfl, k1⟩)
  · have HN2 := hid hn
    have HM1 := hid M1
    have HL1 := hid (HLl.out.kept M1.2 (by omega))
    have HA1 := hid (HA.out.kept M1.2 (by omega))
    have HK1 : Hid (Kept (fun b => b = c) w w1) := (HKl.out.trans M1.2).mono (fun b _ x => by rcases x with x | x <;> exact x)
    have hs1 := M1.2.size
    clear M1 hn
    go_wp2_with fail
    obtain ⟨w2, hw2, ez2, L0, B2⟩ := one_new w1 [.int .i64 (x - 1), .int .i64 y] 53
    simp only [hw2]
    have HA2 := hid (HA1.out.below B2 HA1.out.lt)
    have HLb := hid L0
    have HC2 := hid (HM1.out.1.below B2)
    have HL2 := hid (HL1.out.kept (Kept.of_below (S := fun _ => False) B2) (fun x => x))
    have HK2 : Hid (Kept (fun b => b = c) w w2) := (HK1.out.trans (Kept.of_below (S := fun _ => False) B2)).mono (fun b _ x => by rcases x with x | x; exact x; cases x)
    have l0 := L0.c 0 rfl
    have l1 := L0.c 1 rfl
    clear hw2 L0 B2 HA1 HL1
    refine (flagOf R HR.out s hs z w2 c HC2.out u pv HL2.out hc).mono ?_
    rintro e wf (⟨hq, hle, rfl, MF⟩ | ⟨hq, rfl, kf⟩)
    rotate_left
    · have HNV := hid (noVol_flag HN2.out hq)
      have HKf : Hid (Kept (fun b => b = c) w wf) := (HK2.out.trans kf).mono (fun b _ x => by rcases x with x | x <;> exact x)
      clear hq kf l0 l1
      unfold lack
      go_wp2
      exact ⟨rfl, Or.inr ⟨HNV.out, rfl⟩, HKf.out⟩
    have h3 := nums_step HN2.out
    rw [if_neg hq] at h3
    have HN := hid (nums_split3 (n := 4) h3)
    have HAf := hid (HA2.out.kept MF.2 (by omega))
    have HLf := hid (HLb.out.kept MF.2 (by omega))
    have HCf := hid MF.1
    have HLkf := hid (HL2.out.kept MF.2 (by omega))
    have HKf2 : Hid (Kept (fun b => b = c) w wf) := (HK2.out.trans MF.2).mono (fun b _ x => by rcases x with x | x <;> exact x)
    have hsf := MF.2.size
    clear MF h3 l0 l1 HA2 HLb HC2 HL2 HK2
    have l0 := HLf.out.c 0 rfl
    have l1 := HLf.out.c 1 rfl
    have HFle := hid hle
    generalize hff : (R (rest s z)).1 = f at HN HFle
    generalize hzz : z + (R (rest s z)).2 = z1 at HN HCf
    clear hq hle hff hzz HN2
    go_wp2_with fail
    have hNM := numbers R HR.out s hs z1 4 (by decide) (-1) (by decide) wf.drew c HCf.out.drew u pv HLkf.out.drew hc
    cases hnu : nums R s z1 4 with
    | none =>
      rw [hnu] at HN hNM
      have HN8 : Hid (NoVol R s i) := Or.inl HN
      have hNM' : Calls Tryz.prog 128 #[.pointer (some ⟨c, 0, none⟩), .int .i64 4, .int .i64 (-1)] wf.drew fun e w' => e = .panicked [{ v := .iface u pv, recovered := false }] ∧ Kept (fun b => b = c) wf.drew w' := hNM
      have HQ := hid hNM'
      clear hNM hNM' hnu HN
      have HKx : Hid (∀ w3, Kept (fun b => b = c) wf.drew w3 → Kept (fun b => b = c) w w3) := fun w3 k => (HKf2.out.trans (kundrew k)).mono (fun b _ x => by rcases x with x | x <;> exact x)
      go_region_dies
      all_goals (refine HQ.out.mono ?_; rintro e w3 ⟨rfl, k3'⟩; exact ⟨rfl, Or.inr ⟨HN8.out, rfl⟩, HKx.out w3 k3'⟩)
    | some p =>
      obtain ⟨l, z2⟩ := p
      rw [hnu] at HN hNM
      have HN8 : Hid (nums R s i 7 = some (x :: y :: f :: l, z2)) := HN
      have hl6 : l.length = 4 := nums_len hnu
      have HL6 := hid hl6
      have hNM' : Calls Tryz.prog 128 #[.pointer (some ⟨c, 0, none⟩), .int .i64 4, .int .i64 (-1)] wf.drew fun e w' => ∃ a cap, e = .returned (.slice a l.length cap) ∧ Ir w' wf.heap.size (.slice a l.length cap) (l.map (· + -1)) ∧ Kept (fun b => b = c) wf.drew w' := hNM.mono (fun e w' ⟨hg, k⟩ => by
        obtain ⟨v, rfl, hI, _⟩ := hg
        obtain ⟨a, cap, e2, _⟩ := Ir.w hI
        rw [List.length_map] at e2
        subst e2
        exact ⟨a, cap, rfl, hI, k⟩)
      have HQ := hid hNM'
      clear hNM hNM' hnu HN hl6
      go_region_with (first
        | (go_at_call 128; refine HQ.out.mono ?_; rintro e w3 ⟨a, cap, rfl, hI3, k3'⟩; have k3 := kundrew k3'; have hr0 := (HAf.out.kept k3 (by omega)).c 0 rfl; have hr1 := (HAf.out.kept k3 (by omega)).c 1 rfl; have hr2 := (HAf.out.kept k3 (by omega)).c 2 rfl; have hr3 := (HAf.out.kept k3 (by omega)).c 3 rfl; have fr0 := (HAf.out.kept k3 (by omega)).f 0; have fr1 := (HAf.out.kept k3 (by omega)).f 1; have fr2 := (HAf.out.kept k3 (by omega)).f 2; have fr3 := (HAf.out.kept k3 (by omega)).f 3; have q0 := (HLf.out.kept k3 (by omega)).c 0 rfl; have q1 := (HLf.out.kept k3 (by omega)).c 1 rfl))
      all_goals (have HKf : Kept (fun b => b = c) w ((((w3.setCell ⟨w.heap.size, 0, none⟩ (.int .i64 (x - 1))).setCell ⟨w.heap.size, 1, none⟩ (.int .i64 y)).setCell ⟨w.heap.size, 2, none⟩ (.bool (decide (f = 1)))).setCell ⟨w.heap.size, 3, none⟩ (.slice a l.length cap)) := (((((HKf2.out.trans k3).trans (kept_set _ _ _ _)).trans (kept_set _ _ _ _)).trans (kept_set _ _ _ _)).trans (kept_set _ _ _ _)).mono (fun b hb x => by rcases x with ((((x | x) | x) | x) | x) | x; exact x; exact x; omega; omega; omega; omega))
      all_goals (have HIf : Ir ((((w3.setCell ⟨w.heap.size, 0, none⟩ (.int .i64 (x - 1))).setCell ⟨w.heap.size, 1, none⟩ (.int .i64 y)).setCell ⟨w.heap.size, 2, none⟩ (.bool (decide (f = 1)))).setCell ⟨w.heap.size, 3, none⟩ (.slice a l.length cap)) w.heap.size (.slice a l.length cap) (l.map (· + -1)) := RowO.mono (RowO.kept hI3 ((((kept_set _ _ _ _).trans (kept_set _ _ _ _)).trans (kept_set _ _ _ _)).trans (kept_set _ _ _ _)) (fun b hb x => by have := (RowO.lt hI3 hb).1; rcases x with ((x | x) | x) | x <;> omega)) (by omega))
      all_goals (have HRw := ((((HAf.out.kept k3 (by omega)).set 0 (.int .i64 (x - 1))).set 1 (.int .i64 y)).set 2 (.bool (decide (f = 1)))).set 3 (.slice a l.length cap))
      all_goals (have HKf' := hid HKf; have HIf' := hid HIf; have HRw' := hid HRw; clear HKf HIf HRw hr0 hr1 hr2 hr3 fr0 fr1 fr2 fr3 q0 q1 k3 k3' hI3)
      all_goals (go_wp2; refine bodyPost_ret (results_row rfl _ _ w.heap.size [.int .i64 (x - 1), .int .i64 y, .bool (decide (f = 1)), .slice a l.length cap] _ rfl HRw'.out Tryz.underlying55 rfl (by kernel_rfl)) rfl ?_; exact ⟨Or.inl ⟨x, y, f, l, z2, a, cap, HN8.out, HFle.out, rfl, HIf'.out, HL6.out⟩, HKf'.out⟩)
  · have HN8 : Hid (NoVol R s i) := Or.inl (nums_none (k := 2) hn 5)
    have HK1 : Hid (Kept (fun b => b = c) w w1) := (HKl.out.trans k1).mono (fun b _ x => by rcases x with x | x <;> exact x)
    clear hn k1
    unfold lack
    go_wp2
    exact ⟨rfl, Or.inr ⟨HN8.out, rfl⟩, HK1.out⟩

end Go.Proofs.YtogebppolkfldaaGreatDoor.Rd
