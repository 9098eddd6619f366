/-
  The walk of impl.Format: a new disk's sectors. Condition: the tables of sixteen sums and of the kinds' sizes stand in their variables.
-/
import Derived.Test.YtfbnnhgaedficafDoorFm3
namespace Go.Proofs.YtfbnnhgaedficafDoor.Fm
open Go.RowKit Go.Proofs.YtfbnnhgaedficafDoor.Mem Go.Proofs.YtfbnnhgaedficafDoor.Sec
set_option linter.unusedVariables false

/-- The new row behind p places. -/
def part (p j : Nat) : Value := if j < p then .string (fmt.getD j ⟨#[]⟩) else .string ⟨#[]⟩

theorem part_succ (p : Nat) (x : ByteArray) (h : fmt.getD p ⟨#[]⟩ = x) (j : Nat) : (if j = p then .string x else part p j) = part (p + 1) j := by
  unfold part
  by_cases h1 : j = p
  · subst h1; rw [if_pos rfl, if_pos (by omega), h]
  · by_cases h2 : j < p
    · rw [if_neg h1, if_pos h2, if_pos (by omega)]
    · rw [if_neg h1, if_neg h2, if_neg (by omega)]

/-- Where each kind begins. -/
def off : Nat → Nat
  | 0 => 0
  | 1 => 3
  | 2 => 6
  | 3 => 9
  | 4 => 13
  | 5 => 16
  | _ => 34

theorem infoS : (Tryd.prog.info? 9).map (fun i => (i.zero, i.size, i.bytes)) = some (some (.string ⟨#[]⟩), 1, 16) := by kernel_rfl

theorem make34 (w : World) : (Instr.makeSlice 48 (.int .i64 34) (.int .i64 34)).run Tryd.prog w = .ok (.slice (some ⟨w.heap.size, 0, none⟩) 34 34) (w.alloc (.cells (madeCells #[.string ⟨#[]⟩] 34) 9)) :=
  make_rows (P := Tryd.prog) 48 9 (.string ⟨#[]⟩) 1 16 Tryd.underlying48 infoS .i64 .i64 34 (by decide) (by decide) w

theorem kinds_below {w w' : World} (T : Sector.Kinds w) (hg : 0 < w.heap.size) (b : Below w.heap.size w w') : Sector.Kinds w' := fun k hk => by
  rw [b.cell (p := ⟨0, k, none⟩) hg]; exact T k hk

theorem idx0 (w : World) : (Instr.index 90 (.agg #[.int .i64 3, .int .i64 3, .int .i64 3, .int .i64 4, .int .i64 3, .int .i64 18]) (.int .i64 0)).run Tryd.prog w = .ok (.int .i64 3) w := by kernel_rfl
theorem idx1 (w : World) : (Instr.index 90 (.agg #[.int .i64 3, .int .i64 3, .int .i64 3, .int .i64 4, .int .i64 3, .int .i64 18]) (.int .i64 1)).run Tryd.prog w = .ok (.int .i64 3) w := by kernel_rfl
theorem idx2 (w : World) : (Instr.index 90 (.agg #[.int .i64 3, .int .i64 3, .int .i64 3, .int .i64 4, .int .i64 3, .int .i64 18]) (.int .i64 2)).run Tryd.prog w = .ok (.int .i64 3) w := by kernel_rfl
theorem idx3 (w : World) : (Instr.index 90 (.agg #[.int .i64 3, .int .i64 3, .int .i64 3, .int .i64 4, .int .i64 3, .int .i64 18]) (.int .i64 3)).run Tryd.prog w = .ok (.int .i64 4) w := by kernel_rfl
theorem idx4 (w : World) : (Instr.index 90 (.agg #[.int .i64 3, .int .i64 3, .int .i64 3, .int .i64 4, .int .i64 3, .int .i64 18]) (.int .i64 4)).run Tryd.prog w = .ok (.int .i64 3) w := by kernel_rfl
theorem idx5 (w : World) : (Instr.index 90 (.agg #[.int .i64 3, .int .i64 3, .int .i64 3, .int .i64 4, .int .i64 3, .int .i64 18]) (.int .i64 5)).run Tryd.prog w = .ok (.int .i64 18) w := by kernel_rfl

theorem lit0 : ((0 : Nat) : Int) = 0 := rfl
theorem lit1 : ((1 : Nat) : Int) = 1 := rfl
theorem lit2 : ((2 : Nat) : Int) = 2 := rfl
theorem lit3 : ((3 : Nat) : Int) = 3 := rfl
theorem lit4 : ((4 : Nat) : Int) = 4 := rfl
theorem lit5 : ((5 : Nat) : Int) = 5 := rfl

set_option maxRecDepth 100000 in
set_option maxHeartbeats 4000000 in
theorem iFormat (w : World) (T : Sums w) (K : Sector.Kinds w) (hg : 0 < w.heap.size) :
    Calls Tryd.prog 26 #[] w fun r w' => ∃ g, r = .returned (.slice (some ⟨g, 0, none⟩) 34 34) ∧ w.heap.size ≤ g ∧ StrsW w' w.heap.size (some ⟨g, 0, none⟩) fmt ∧ Below w.heap.size w w' := by
  have HT := hid T
  have HK := hid K
  have HG := hid hg
  have hmk := make34
  obtain ⟨wm, hwm, em, Bm⟩ : ∃ wm, w.alloc (.cells (madeCells #[.string ⟨#[]⟩] 34) 9) = wm ∧ wm.heap.size = w.heap.size + 1 ∧ Below w.heap.size w wm := ⟨_, rfl, by simp, (Below.refl _ _).alloc (Nat.le_refl _) _⟩
  have HW : Hid (Wr wm w.heap.size (some ⟨w.heap.size, 0, none⟩) 34 (part 0)) := by
    rw [← hwm]
    exact (wr_made w (.string ⟨#[]⟩) 34 9).congr (fun j _ => by unfold part; rw [if_neg (by omega)])
  have HBm := hid Bm
  have HKm := hid (kinds_below K hg Bm)
  clear T K hg Bm
  have g0 : wm.cell? ⟨0, 0, none⟩ = some (.int .i64 3) := HKm.out 0 (by decide)
  have g1 : wm.cell? ⟨0, 1, none⟩ = some (.int .i64 3) := HKm.out 1 (by decide)
  have g2 : wm.cell? ⟨0, 2, none⟩ = some (.int .i64 3) := HKm.out 2 (by decide)
  have g3 : wm.cell? ⟨0, 3, none⟩ = some (.int .i64 4) := HKm.out 3 (by decide)
  have g4 : wm.cell? ⟨0, 4, none⟩ = some (.int .i64 3) := HKm.out 4 (by decide)
  have g5 : wm.cell? ⟨0, 5, none⟩ = some (.int .i64 18) := HKm.out 5 (by decide)
  go_enter Tryd.func26, Tryd.ntmps26
  go_wp2
  clear hmk hwm g0 g1 g2 g3 g4 g5
  go_loopw [7] (fun i wr => ∃ k : Nat, k ≤ 6 ∧ i = .int .i64 (k : Int) ∧ Hid (Wr wr w.heap.size (some ⟨w.heap.size, 0, none⟩) 34 (part (off k))) ∧ Hid (Below w.heap.size w wr)) (fun i _ => 6 - (intOf i).toNat)
  case atStart => exact ⟨0, Nat.zero_le _, rfl, HW, HBm⟩
  case round =>
    obtain ⟨k, hk, rfl, HWr, HBr⟩ := hrel
    clear HW
    by_cases hlt : k < 6
    · obtain ⟨wo, hwo⟩ : ∃ wo, wo = wr := ⟨_, rfl⟩
      subst hwo
      have hc : k = 0 ∨ k = 1 ∨ k = 2 ∨ k = 3 ∨ k = 4 ∨ k = 5 := by omega
      clear hlt hk
      rcases hc with rfl | rfl | rfl | rfl | rfl | rfl
      · simp only [lit0]
        have hix := idx0
        go_wp2
        clear hix
        go_loopw [12] (fun i wr => ∃ m : Nat, m ≤ 3 ∧ i = .int .i64 (m : Int) ∧ Hid (Wr wr w.heap.size (some ⟨w.heap.size, 0, none⟩) 34 (part (0 + m))) ∧ Hid (Below w.heap.size w wr)) (fun i _ => 3 - (intOf i).toNat)
        case atStart => exact ⟨0, Nat.zero_le _, rfl, HWr, HBr⟩
        case round =>
          obtain ⟨m, hm, rfl, HW', HB'⟩ := hrel
          by_cases hlt : m < 3
          · have HS : Hid (Sector.sectorOf 0 (m : Int) = ((0 + m : Nat) : Int)) := by
              have h1 := Sector.yes 0 (m : Int) (by decide) (by omega) (by show (m : Int) < 3; omega)
              have h2 : Sector.S 0 = 0 := by decide
              rw [h2] at h1
              have h3 : Sector.sectorOf 0 (m : Int) = (m : Int) + 0 := h1
              rw [Hid, h3]; omega
            have HX : Hid (fmt.getD (0 + m) ⟨#[]⟩ = fresh 0) := by
              have hc : m = 0 ∨ m = 1 ∨ m = 2 := by omega
              rcases hc with rfl | rfl | rfl <;> rfl
            obtain ⟨p, hp⟩ : ∃ p, p = 0 + m := ⟨_, rfl⟩
            have hp34 : p < 34 := by omega
            have HP := hid hp
            rw [← hp] at HW' HS HX
            clear hp
            go_wp2_with fail
            refine (Sector.impl_sector 0 (m : Int) wr (kinds_below HK.out HG.out HB'.out)).mono ?_
            rintro e w1 ⟨rfl, hw1⟩
            obtain rfl := hw1.symm
            rw [HS.out]
            go_wp2_with fail
            refine (freshSector 0 (by decide) wr (HT.out.below HB'.out)).mono ?_
            rintro e w2 ⟨rfl, b2⟩
            have HW2 := hid (HW'.out.below b2)
            have HB2 := hid (HB'.out.trans (b2.mono HB'.out.size))
            clear b2
            obtain ⟨b, off', e, _, hc, hf⟩ := HW2.out p hp34
            cases e
            rw [Nat.zero_add] at hc hf
            have HN := hid (HW2.out.set p hp34 (.string (fresh 0)))
            go_wp2
            refine ⟨⟨m + 1, by omega, by go_num, ?_, below_set HB2.out w.heap.size p _ (Nat.le_refl _)⟩, by simp [intOf]; omega⟩
            have h0 := HN.out
            rw [Nat.zero_add] at h0
            rw [show 0 + (m + 1) = p + 1 by have := HP.out; omega]
            exact h0.congr (fun j _ => part_succ p (fresh 0) HX.out j)
          · obtain rfl : m = 3 := by omega
            go_wp2
            exact ⟨⟨0 + 1, by decide, by go_num, HW', HB'⟩, by simp [intOf]⟩
      · simp only [lit1]
        have hix := idx1
        go_wp2
        clear hix
        go_loopw [12] (fun i wr => ∃ m : Nat, m ≤ 3 ∧ i = .int .i64 (m : Int) ∧ Hid (Wr wr w.heap.size (some ⟨w.heap.size, 0, none⟩) 34 (part (3 + m))) ∧ Hid (Below w.heap.size w wr)) (fun i _ => 3 - (intOf i).toNat)
        case atStart => exact ⟨0, Nat.zero_le _, rfl, HWr, HBr⟩
        case round =>
          obtain ⟨m, hm, rfl, HW', HB'⟩ := hrel
          by_cases hlt : m < 3
          · have HS : Hid (Sector.sectorOf 1 (m : Int) = ((3 + m : Nat) : Int)) := by
              have h1 := Sector.yes 1 (m : Int) (by decide) (by omega) (by show (m : Int) < 3; omega)
              have h2 : Sector.S 1 = 3 := by decide
              rw [h2] at h1
              have h3 : Sector.sectorOf 1 (m : Int) = (m : Int) + 3 := h1
              rw [Hid, h3]; omega
            have HX : Hid (fmt.getD (3 + m) ⟨#[]⟩ = fresh 1) := by
              have hc : m = 0 ∨ m = 1 ∨ m = 2 := by omega
              rcases hc with rfl | rfl | rfl <;> rfl
            obtain ⟨p, hp⟩ : ∃ p, p = 3 + m := ⟨_, rfl⟩
            have hp34 : p < 34 := by omega
            have HP := hid hp
            rw [← hp] at HW' HS HX
            clear hp
            go_wp2_with fail
            refine (Sector.impl_sector 1 (m : Int) wr (kinds_below HK.out HG.out HB'.out)).mono ?_
            rintro e w1 ⟨rfl, hw1⟩
            obtain rfl := hw1.symm
            rw [HS.out]
            go_wp2_with fail
            refine (freshSector 1 (by decide) wr (HT.out.below HB'.out)).mono ?_
            rintro e w2 ⟨rfl, b2⟩
            have HW2 := hid (HW'.out.below b2)
            have HB2 := hid (HB'.out.trans (b2.mono HB'.out.size))
            clear b2
            obtain ⟨b, off', e, _, hc, hf⟩ := HW2.out p hp34
            cases e
            rw [Nat.zero_add] at hc hf
            have HN := hid (HW2.out.set p hp34 (.string (fresh 1)))
            go_wp2
            refine ⟨⟨m + 1, by omega, by go_num, ?_, below_set HB2.out w.heap.size p _ (Nat.le_refl _)⟩, by simp [intOf]; omega⟩
            have h0 := HN.out
            rw [Nat.zero_add] at h0
            rw [show 3 + (m + 1) = p + 1 by have := HP.out; omega]
            exact h0.congr (fun j _ => part_succ p (fresh 1) HX.out j)
          · obtain rfl : m = 3 := by omega
            go_wp2
            exact ⟨⟨1 + 1, by decide, by go_num, HW', HB'⟩, by simp [intOf]⟩
      · simp only [lit2]
        have hix := idx2
        go_wp2
        clear hix
        go_loopw [12] (fun i wr => ∃ m : Nat, m ≤ 3 ∧ i = .int .i64 (m : Int) ∧ Hid (Wr wr w.heap.size (some ⟨w.heap.size, 0, none⟩) 34 (part (6 + m))) ∧ Hid (Below w.heap.size w wr)) (fun i _ => 3 - (intOf i).toNat)
        case atStart => exact ⟨0, Nat.zero_le _, rfl, HWr, HBr⟩
        case round =>
          obtain ⟨m, hm, rfl, HW', HB'⟩ := hrel
          by_cases hlt : m < 3
          · have HS : Hid (Sector.sectorOf 2 (m : Int) = ((6 + m : Nat) : Int)) := by
              have h1 := Sector.yes 2 (m : Int) (by decide) (by omega) (by show (m : Int) < 3; omega)
              have h2 : Sector.S 2 = 6 := by decide
              rw [h2] at h1
              have h3 : Sector.sectorOf 2 (m : Int) = (m : Int) + 6 := h1
              rw [Hid, h3]; omega
            have HX : Hid (fmt.getD (6 + m) ⟨#[]⟩ = fresh 2) := by
              have hc : m = 0 ∨ m = 1 ∨ m = 2 := by omega
              rcases hc with rfl | rfl | rfl <;> rfl
            obtain ⟨p, hp⟩ : ∃ p, p = 6 + m := ⟨_, rfl⟩
            have hp34 : p < 34 := by omega
            have HP := hid hp
            rw [← hp] at HW' HS HX
            clear hp
            go_wp2_with fail
            refine (Sector.impl_sector 2 (m : Int) wr (kinds_below HK.out HG.out HB'.out)).mono ?_
            rintro e w1 ⟨rfl, hw1⟩
            obtain rfl := hw1.symm
            rw [HS.out]
            go_wp2_with fail
            refine (freshSector 2 (by decide) wr (HT.out.below HB'.out)).mono ?_
            rintro e w2 ⟨rfl, b2⟩
            have HW2 := hid (HW'.out.below b2)
            have HB2 := hid (HB'.out.trans (b2.mono HB'.out.size))
            clear b2
            obtain ⟨b, off', e, _, hc, hf⟩ := HW2.out p hp34
            cases e
            rw [Nat.zero_add] at hc hf
            have HN := hid (HW2.out.set p hp34 (.string (fresh 2)))
            go_wp2
            refine ⟨⟨m + 1, by omega, by go_num, ?_, below_set HB2.out w.heap.size p _ (Nat.le_refl _)⟩, by simp [intOf]; omega⟩
            have h0 := HN.out
            rw [Nat.zero_add] at h0
            rw [show 6 + (m + 1) = p + 1 by have := HP.out; omega]
            exact h0.congr (fun j _ => part_succ p (fresh 2) HX.out j)
          · obtain rfl : m = 3 := by omega
            go_wp2
            exact ⟨⟨2 + 1, by decide, by go_num, HW', HB'⟩, by simp [intOf]⟩
      · simp only [lit3]
        have hix := idx3
        go_wp2
        clear hix
        go_loopw [12] (fun i wr => ∃ m : Nat, m ≤ 4 ∧ i = .int .i64 (m : Int) ∧ Hid (Wr wr w.heap.size (some ⟨w.heap.size, 0, none⟩) 34 (part (9 + m))) ∧ Hid (Below w.heap.size w wr)) (fun i _ => 4 - (intOf i).toNat)
        case atStart => exact ⟨0, Nat.zero_le _, rfl, HWr, HBr⟩
        case round =>
          obtain ⟨m, hm, rfl, HW', HB'⟩ := hrel
          by_cases hlt : m < 4
          · have HS : Hid (Sector.sectorOf 3 (m : Int) = ((9 + m : Nat) : Int)) := by
              have h1 := Sector.yes 3 (m : Int) (by decide) (by omega) (by show (m : Int) < 4; omega)
              have h2 : Sector.S 3 = 9 := by decide
              rw [h2] at h1
              have h3 : Sector.sectorOf 3 (m : Int) = (m : Int) + 9 := h1
              rw [Hid, h3]; omega
            have HX : Hid (fmt.getD (9 + m) ⟨#[]⟩ = fresh 3) := by
              have hc : m = 0 ∨ m = 1 ∨ m = 2 ∨ m = 3 := by omega
              rcases hc with rfl | rfl | rfl | rfl <;> rfl
            obtain ⟨p, hp⟩ : ∃ p, p = 9 + m := ⟨_, rfl⟩
            have hp34 : p < 34 := by omega
            have HP := hid hp
            rw [← hp] at HW' HS HX
            clear hp
            go_wp2_with fail
            refine (Sector.impl_sector 3 (m : Int) wr (kinds_below HK.out HG.out HB'.out)).mono ?_
            rintro e w1 ⟨rfl, hw1⟩
            obtain rfl := hw1.symm
            rw [HS.out]
            go_wp2_with fail
            refine (freshSector 3 (by decide) wr (HT.out.below HB'.out)).mono ?_
            rintro e w2 ⟨rfl, b2⟩
            have HW2 := hid (HW'.out.below b2)
            have HB2 := hid (HB'.out.trans (b2.mono HB'.out.size))
            clear b2
            obtain ⟨b, off', e, _, hc, hf⟩ := HW2.out p hp34
            cases e
            rw [Nat.zero_add] at hc hf
            have HN := hid (HW2.out.set p hp34 (.string (fresh 3)))
            go_wp2
            refine ⟨⟨m + 1, by omega, by go_num, ?_, below_set HB2.out w.heap.size p _ (Nat.le_refl _)⟩, by simp [intOf]; omega⟩
            have h0 := HN.out
            rw [Nat.zero_add] at h0
            rw [show 9 + (m + 1) = p + 1 by have := HP.out; omega]
            exact h0.congr (fun j _ => part_succ p (fresh 3) HX.out j)
          · obtain rfl : m = 4 := by omega
            go_wp2
            exact ⟨⟨3 + 1, by decide, by go_num, HW', HB'⟩, by simp [intOf]⟩
      · simp only [lit4]
        have hix := idx4
        go_wp2
        clear hix
        go_loopw [12] (fun i wr => ∃ m : Nat, m ≤ 3 ∧ i = .int .i64 (m : Int) ∧ Hid (Wr wr w.heap.size (some ⟨w.heap.size, 0, none⟩) 34 (part (13 + m))) ∧ Hid (Below w.heap.size w wr)) (fun i _ => 3 - (intOf i).toNat)
        case atStart => exact ⟨0, Nat.zero_le _, rfl, HWr, HBr⟩
        case round =>
          obtain ⟨m, hm, rfl, HW', HB'⟩ := hrel
          by_cases hlt : m < 3
          · have HS : Hid (Sector.sectorOf 4 (m : Int) = ((13 + m : Nat) : Int)) := by
              have h1 := Sector.yes 4 (m : Int) (by decide) (by omega) (by show (m : Int) < 3; omega)
              have h2 : Sector.S 4 = 13 := by decide
              rw [h2] at h1
              have h3 : Sector.sectorOf 4 (m : Int) = (m : Int) + 13 := h1
              rw [Hid, h3]; omega
            have HX : Hid (fmt.getD (13 + m) ⟨#[]⟩ = fresh 4) := by
              have hc : m = 0 ∨ m = 1 ∨ m = 2 := by omega
              rcases hc with rfl | rfl | rfl <;> rfl
            obtain ⟨p, hp⟩ : ∃ p, p = 13 + m := ⟨_, rfl⟩
            have hp34 : p < 34 := by omega
            have HP := hid hp
            rw [← hp] at HW' HS HX
            clear hp
            go_wp2_with fail
            refine (Sector.impl_sector 4 (m : Int) wr (kinds_below HK.out HG.out HB'.out)).mono ?_
            rintro e w1 ⟨rfl, hw1⟩
            obtain rfl := hw1.symm
            rw [HS.out]
            go_wp2_with fail
            refine (freshSector 4 (by decide) wr (HT.out.below HB'.out)).mono ?_
            rintro e w2 ⟨rfl, b2⟩
            have HW2 := hid (HW'.out.below b2)
            have HB2 := hid (HB'.out.trans (b2.mono HB'.out.size))
            clear b2
            obtain ⟨b, off', e, _, hc, hf⟩ := HW2.out p hp34
            cases e
            rw [Nat.zero_add] at hc hf
            have HN := hid (HW2.out.set p hp34 (.string (fresh 4)))
            go_wp2
            refine ⟨⟨m + 1, by omega, by go_num, ?_, below_set HB2.out w.heap.size p _ (Nat.le_refl _)⟩, by simp [intOf]; omega⟩
            have h0 := HN.out
            rw [Nat.zero_add] at h0
            rw [show 13 + (m + 1) = p + 1 by have := HP.out; omega]
            exact h0.congr (fun j _ => part_succ p (fresh 4) HX.out j)
          · obtain rfl : m = 3 := by omega
            go_wp2
            exact ⟨⟨4 + 1, by decide, by go_num, HW', HB'⟩, by simp [intOf]⟩
      · simp only [lit5]
        have hix := idx5
        go_wp2
        clear hix
        go_loopw [12] (fun i wr => ∃ m : Nat, m ≤ 18 ∧ i = .int .i64 (m : Int) ∧ Hid (Wr wr w.heap.size (some ⟨w.heap.size, 0, none⟩) 34 (part (16 + m))) ∧ Hid (Below w.heap.size w wr)) (fun i _ => 18 - (intOf i).toNat)
        case atStart => exact ⟨0, Nat.zero_le _, rfl, HWr, HBr⟩
        case round =>
          obtain ⟨m, hm, rfl, HW', HB'⟩ := hrel
          by_cases hlt : m < 18
          · have HS : Hid (Sector.sectorOf 5 (m : Int) = ((16 + m : Nat) : Int)) := by
              have h1 := Sector.yes 5 (m : Int) (by decide) (by omega) (by show (m : Int) < 18; omega)
              have h2 : Sector.S 5 = 16 := by decide
              rw [h2] at h1
              have h3 : Sector.sectorOf 5 (m : Int) = (m : Int) + 16 := h1
              rw [Hid, h3]; omega
            have HX : Hid (fmt.getD (16 + m) ⟨#[]⟩ = fresh 5) := by
              have hc : m = 0 ∨ m = 1 ∨ m = 2 ∨ m = 3 ∨ m = 4 ∨ m = 5 ∨ m = 6 ∨ m = 7 ∨ m = 8 ∨ m = 9 ∨ m = 10 ∨ m = 11 ∨ m = 12 ∨ m = 13 ∨ m = 14 ∨ m = 15 ∨ m = 16 ∨ m = 17 := by omega
              rcases hc with rfl | rfl | rfl | rfl | rfl | rfl | rfl | rfl | rfl | rfl | rfl | rfl | rfl | rfl | rfl | rfl | rfl | rfl <;> rfl
            obtain ⟨p, hp⟩ : ∃ p, p = 16 + m := ⟨_, rfl⟩
            have hp34 : p < 34 := by omega
            have HP := hid hp
            rw [← hp] at HW' HS HX
            clear hp
            go_wp2_with fail
            refine (Sector.impl_sector 5 (m : Int) wr (kinds_below HK.out HG.out HB'.out)).mono ?_
            rintro e w1 ⟨rfl, hw1⟩
            obtain rfl := hw1.symm
            rw [HS.out]
            go_wp2_with fail
            refine (freshSector 5 (by decide) wr (HT.out.below HB'.out)).mono ?_
            rintro e w2 ⟨rfl, b2⟩
            have HW2 := hid (HW'.out.below b2)
            have HB2 := hid (HB'.out.trans (b2.mono HB'.out.size))
            clear b2
            obtain ⟨b, off', e, _, hc, hf⟩ := HW2.out p hp34
            cases e
            rw [Nat.zero_add] at hc hf
            have HN := hid (HW2.out.set p hp34 (.string (fresh 5)))
            go_wp2
            refine ⟨⟨m + 1, by omega, by go_num, ?_, below_set HB2.out w.heap.size p _ (Nat.le_refl _)⟩, by simp [intOf]; omega⟩
            have h0 := HN.out
            rw [Nat.zero_add] at h0
            rw [show 16 + (m + 1) = p + 1 by have := HP.out; omega]
            exact h0.congr (fun j _ => part_succ p (fresh 5) HX.out j)
          · obtain rfl : m = 18 := by omega
            go_wp2
            exact ⟨⟨5 + 1, by decide, by go_num, HW', HB'⟩, by simp [intOf]⟩
    · obtain rfl : k = 6 := by omega
      go_wp2
      go_ret
      refine ⟨w.heap.size, rfl, Nat.le_refl _, ?_, HBr.out⟩
      unfold StrsW
      rw [fmt_length]
      exact HWr.out.congr (fun i hi => by unfold part; rw [if_pos (show i < off 6 from hi)]; rfl)

end Go.Proofs.YtfbnnhgaedficafDoor.Fm
