/-
  The walks of impl.groupParts, impl.readKind at a group's sector, and impl.ReadGroup. Condition: the table of sixteen sums and the error of a part that lacks stand in their variables.
-/
import Derived.Test.YtogebppolkfldaaGreatDoorRdNums
import Derived.Test.YtogebppolkfldaaGreatDoorRdHost
import Derived.Test.YtogebppolkfldaaGreatDoorSecGroup
import Derived.RegionTactic
import Derived.BigRegion
import Derived.Deep.RegionWith
import Derived.RegionDies
namespace Go.Proofs.YtogebppolkfldaaGreatDoor.Rd
open Go.RowKit Go.Proofs.YtogebppolkfldaaGreatDoor.Mem Go.Proofs.YtogebppolkfldaaGreatDoor.Sec
set_option linter.unusedVariables false

theorem Cur.drew {w : World} {c : Nat} {r : ByteArray} (h : Cur w c r) : Cur w.drew c r := h
theorem Lacks.drew {w : World} {u : TypeId} {pv : Value} (h : Lacks w u pv) : Lacks w.drew u pv := h
theorem kundrew {S : Nat → Prop} {w w' : World} (h : Kept S w.drew w') : Kept S w w' := ⟨h.os, h.tape, h.output, h.size, h.block⟩

/-- The numbers behind a lease: n of them from place i on. -/
theorem nums_split {R : ByteArray → Int × Nat} {s : ByteArray} {i : Nat} : ∀ {n : Nat} {x y : Int} {z : Nat}, nums R s i 2 = some ([x, y], z) → nums R s i (n + 2) = (nums R s z n).map (fun p => (x :: y :: p.1, p.2))
  | 0, x, y, z, h => by rw [h]; rfl
  | n + 1, x, y, z, h => by
    show nums R s i ((n + 2) + 1) = _
    conv => lhs; unfold nums
    rw [nums_split (n := n) h]
    conv => rhs; unfold nums
    cases nums R s z n with
    | none => rfl
    | some p =>
      simp only [Option.map_some, Option.bind_some]
      split <;> simp

set_option maxRecDepth 100000 in
set_option maxHeartbeats 2000000 in
theorem groupParts (R : ByteArray → Int × Nat) (hR : Reads R) (s : ByteArray) (hs : s.size ≤ 1048576) (i : Nat) (w : World) (c : Nat) (h : Cur w c (rest s i)) (u : TypeId) (pv : Value) (hL : Lacks w u pv) (hc : 1 < c) :
    Calls Tryz.prog 101 #[.pointer (some ⟨c, 0, none⟩)] w fun e w' => ((∃ x y l z a cap, nums R s i 8 = some (x :: y :: l, z) ∧ e = .returned (gpV (x - 1) y a l.length cap) ∧ Ir w' w.heap.size (.slice a l.length cap) l ∧ l.length = 6) ∨ (nums R s i 8 = none ∧ e = lack u pv)) ∧ Kept (fun b => b = c) w w' := by
  have HR := hid hR
  have HH := hid h
  have HL := hid hL
  have hlt := h.lt
  clear hR h hL
  go_enter Tryz.func101, Tryz.ntmps101
  go_wp2_with fail
  obtain ⟨wl, hwl, ez, A0, B0⟩ := one_new w [.int .i64 0, .int .i64 0, .slice none 0 0] 59
  simp only [hwl]
  have HA := hid A0
  have HKl : Hid (Kept (fun b => b = c) w wl) := (Kept.of_below B0)
  have HLl := hid (HL.out.kept (Kept.of_below (S := fun _ => False) B0) (fun x => x))
  have HHl := hid (HH.out.below B0)
  clear hwl A0 B0
  refine (lease R HR.out s hs i wl c HHl.out u pv HLl.out hc).mono ?_
  rintro e w1 (⟨x, y, z, hn, rfl, M1⟩ | ⟨hn, rfl, k1⟩)
  · have HN := hid (nums_split (n := 6) hn)
    have HM1 := hid M1
    have HL1 := hid (HLl.out.kept M1.2 (by omega))
    have HA1 := hid (HA.out.kept M1.2 (by omega))
    have HK1 : Hid (Kept (fun b => b = c) w w1) := (HKl.out.trans M1.2).mono (fun b _ x => by rcases x with x | x <;> exact x)
    have hs1 := M1.2.size
    clear M1 hn
    go_wp2
    obtain ⟨w2, hw2, ez2, L0, B2⟩ := one_new w1 [.int .i64 (x - 1), .int .i64 y] 53
    simp only [hw2]
    have HA2 := hid (HA1.out.below B2 HA1.out.lt)
    have HLb := hid L0
    have HC2 := hid (HM1.out.1.below B2)
    have HL2 := hid (HL1.out.kept (Kept.of_below (S := fun _ => False) B2) (fun x => x))
    have HK2 : Hid (Kept (fun b => b = c) w w2) := (HK1.out.trans (Kept.of_below (S := fun _ => False) B2)).mono (fun b _ x => by rcases x with x | x; exact x; cases x)
    have l0 := L0.c 0 rfl
    have l1 := L0.c 1 rfl
    clear hw2 L0 B2 HA1 HL1
    have hNM := numbers R HR.out s hs z 6 (by decide) 0 (by decide) w2.drew c HC2.out.drew u pv HL2.out.drew hc
    cases hnu : nums R s z 6 with
    | none =>
      rw [hnu] at HN hNM
      have HN8 : Hid (nums R s i 8 = none) := HN
      have hNM' : Calls Tryz.prog 128 #[.pointer (some ⟨c, 0, none⟩), .int .i64 6, .int .i64 0] w2.drew fun e w' => e = .panicked [{ v := .iface u pv, recovered := false }] ∧ Kept (fun b => b = c) w2.drew w' := hNM
      have HQ := hid hNM'
      clear hNM hNM' hnu HN
      have HKx : Hid (∀ w3, Kept (fun b => b = c) w2.drew w3 → Kept (fun b => b = c) w w3) := fun w3 k => (HK2.out.trans (kundrew k)).mono (fun b _ x => by rcases x with x | x <;> exact x)
      go_region_dies
      all_goals (refine HQ.out.mono ?_; rintro e w3 ⟨rfl, k3'⟩; exact ⟨rfl, Or.inr ⟨HN8.out, rfl⟩, HKx.out w3 k3'⟩)
    | some p =>
      obtain ⟨l, z2⟩ := p
      rw [hnu] at HN hNM
      have HN8 : Hid (nums R s i 8 = some (x :: y :: l, z2)) := HN
      have hl6 : l.length = 6 := nums_len hnu
      have HL6 := hid hl6
      have hNM' : Calls Tryz.prog 128 #[.pointer (some ⟨c, 0, none⟩), .int .i64 6, .int .i64 0] w2.drew fun e w' => ∃ a cap, e = .returned (.slice a l.length cap) ∧ Ir w' w2.heap.size (.slice a l.length cap) l ∧ Kept (fun b => b = c) w2.drew w' := hNM.mono (fun e w' ⟨hg, k⟩ => by
        obtain ⟨v, rfl, hI, _⟩ := hg
        rw [show l.map (· + 0) = l by simp] at hI
        obtain ⟨a, cap, rfl, _⟩ := hI.w
        exact ⟨a, cap, rfl, hI, k⟩)
      have HQ := hid hNM'
      clear hNM hNM' hnu HN hl6
      go_region_with (first
        | (go_at_call 128; refine HQ.out.mono ?_; rintro e w3 ⟨a, cap, rfl, hI3, k3'⟩; have k3 := kundrew k3'; have hr0 := (HA2.out.kept k3 (by omega)).c 0 rfl; have hr1 := (HA2.out.kept k3 (by omega)).c 1 rfl; have hr2 := (HA2.out.kept k3 (by omega)).c 2 rfl; have fr0 := (HA2.out.kept k3 (by omega)).f 0; have fr1 := (HA2.out.kept k3 (by omega)).f 1; have fr2 := (HA2.out.kept k3 (by omega)).f 2; have q0 := (HLb.out.kept k3 (by omega)).c 0 rfl; have q1 := (HLb.out.kept k3 (by omega)).c 1 rfl))
      all_goals (have HKf : Kept (fun b => b = c) w (((w3.setCell ⟨w.heap.size, 0, none⟩ (.int .i64 (x - 1))).setCell ⟨w.heap.size, 1, none⟩ (.int .i64 y)).setCell ⟨w.heap.size, 2, none⟩ (.slice a l.length cap)) := ((((HK2.out.trans k3).trans (kept_set _ _ _ _)).trans (kept_set _ _ _ _)).trans (kept_set _ _ _ _)).mono (fun b hb x => by rcases x with (((x | x) | x) | x) | x; exact x; exact x; omega; omega; omega))
      all_goals (have HIf : Ir (((w3.setCell ⟨w.heap.size, 0, none⟩ (.int .i64 (x - 1))).setCell ⟨w.heap.size, 1, none⟩ (.int .i64 y)).setCell ⟨w.heap.size, 2, none⟩ (.slice a l.length cap)) w.heap.size (.slice a l.length cap) l := RowO.mono (RowO.kept hI3 (((kept_set _ _ _ _).trans (kept_set _ _ _ _)).trans (kept_set _ _ _ _)) (fun b hb x => by have := (RowO.lt hI3 hb).1; rcases x with (x | x) | x <;> omega)) (by omega))
      all_goals (have HRw := (((HA2.out.kept k3 (by omega)).set 0 (.int .i64 (x - 1))).set 1 (.int .i64 y)).set 2 (.slice a l.length cap))
      all_goals (have HKf' := hid HKf; have HIf' := hid HIf; have HRw' := hid HRw; clear HKf HIf HRw hr0 hr1 hr2 fr0 fr1 fr2 q0 q1 k3 k3' hI3)
      all_goals (go_wp2; refine bodyPost_ret (results_row rfl _ _ w.heap.size [.int .i64 (x - 1), .int .i64 y, .slice a l.length cap] _ rfl HRw'.out Tryz.underlying59 rfl (by kernel_rfl)) rfl ?_; exact ⟨Or.inl ⟨x, y, l, z2, a, cap, HN8.out, rfl, HIf'.out, HL6.out⟩, HKf'.out⟩)
  · have HN8 : Hid (nums R s i 8 = none) := nums_none (k := 2) hn 6
    have HK1 : Hid (Kept (fun b => b = c) w w1) := (HKl.out.trans k1).mono (fun b _ x => by rcases x with x | x <;> exact x)
    clear hn k1
    unfold lack
    go_wp2
    exact ⟨rfl, Or.inr ⟨HN8.out, rfl⟩, HK1.out⟩

end Go.Proofs.YtogebppolkfldaaGreatDoor.Rd
