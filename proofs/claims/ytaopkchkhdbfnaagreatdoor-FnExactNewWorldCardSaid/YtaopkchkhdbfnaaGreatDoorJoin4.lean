/-
  The walk of impl.Format: a new disk's sectors. Condition: the tables of sixteen sums and of the kinds' sizes stand in their variables.
  The walk of spec.l3Swap: a sector of a disk of the call's own is another text, at once, or a refusal. No condition but three epochs and lengths of at most 2^19.
  The walk of spec.l3Without: a list of writes without one of them, in a row of its own. No condition but a length of at most 2^19.
  The walk of spec.l3Land: one write under way lands on a disk of the call's own, or a refusal. No condition but writes to sectors of the disk and lengths of at most 2^19.
  The walk of spec.l3Fence: a host's epoch is one more on a disk of the call's own, and its writes are gone, or a refusal. No condition but three epochs and lengths of at most 2^19.
  What a function of chapter 3 keeps in memory while it makes its answer: the argument's box, the result's block, its own disk with its box. No condition.
  The walk of slices.Repeat at one number and a count of three. No condition.
  The walk of impl.NewDisk: it answers as spec.NewDisk does, in rows of its own. No condition.
  The walks of impl.fallenHost and impl.NewWorld: a new world. Condition: the tables of sixteen sums and of the kinds' sizes stand in their variables.
  The walk of laws.FnExactNewWorld: the law answers true, and nothing that was there is changed. Condition: the tables of sixteen sums and of the kinds' sizes stand in their variables.
-/
import Derived.Test.YtaopkchkhdbfnaaGreatDoorJoin3
import Derived.Laws.CopyOwn
import Derived.Deep.RegionLaw
import Derived.Test.YtaopkchkhdbfnaaGreatDoorJoin1
import Derived.Deep.RegionHeldLaw
namespace Go.Proofs.YtaopkchkhdbfnaaGreatDoor.Fm
open Go.RowKit Go.Proofs.YtaopkchkhdbfnaaGreatDoor.Mem Go.Proofs.YtaopkchkhdbfnaaGreatDoor.Sec
set_option linter.unusedVariables false

/-- The new row behind p places. -/
def part (p j : Nat) : Value := if j < p then .string (fmt.getD j ⟨#[]⟩) else .string ⟨#[]⟩

theorem part_succ (p : Nat) (x : ByteArray) (h : fmt.getD p ⟨#[]⟩ = x) (j : Nat) : (if j = p then .string x else part p j) = part (p + 1) j := by
  unfold part
  by_cases h1 : j = p
  · subst h1; rw [if_pos rfl, if_pos (by omega), h]
  · by_cases h2 : j < p
    · rw [if_neg h1, if_pos h2, if_pos (by omega)]
    · rw [if_neg h1, if_neg h2, if_neg (by omega)]

/-- Where each kind begins. -/
def off : Nat → Nat
  | 0 => 0
  | 1 => 3
  | 2 => 6
  | 3 => 9
  | 4 => 13
  | 5 => 16
  | _ => 34

theorem infoS : (Tryz.prog.info? 9).map (fun i => (i.zero, i.size, i.bytes)) = some (some (.string ⟨#[]⟩), 1, 16) := by kernel_rfl

theorem make34 (w : World) : (Instr.makeSlice 22 (.int .i64 34) (.int .i64 34)).run Tryz.prog w = .ok (.slice (some ⟨w.heap.size, 0, none⟩) 34 34) (w.alloc (.cells (madeCells #[.string ⟨#[]⟩] 34) 9)) :=
  make_rows (P := Tryz.prog) 22 9 (.string ⟨#[]⟩) 1 16 Tryz.underlying22 infoS .i64 .i64 34 (by decide) (by decide) w

theorem kinds_below {w w' : World} (T : Sector.Kinds w) (hg : 0 < w.heap.size) (b : Below w.heap.size w w') : Sector.Kinds w' := fun k hk => by
  rw [b.cell (p := ⟨0, k, none⟩) hg]; exact T k hk

theorem idx0 (w : World) : (Instr.index 164 (.agg #[.int .i64 3, .int .i64 3, .int .i64 3, .int .i64 4, .int .i64 3, .int .i64 18]) (.int .i64 0)).run Tryz.prog w = .ok (.int .i64 3) w := by kernel_rfl
theorem idx1 (w : World) : (Instr.index 164 (.agg #[.int .i64 3, .int .i64 3, .int .i64 3, .int .i64 4, .int .i64 3, .int .i64 18]) (.int .i64 1)).run Tryz.prog w = .ok (.int .i64 3) w := by kernel_rfl
theorem idx2 (w : World) : (Instr.index 164 (.agg #[.int .i64 3, .int .i64 3, .int .i64 3, .int .i64 4, .int .i64 3, .int .i64 18]) (.int .i64 2)).run Tryz.prog w = .ok (.int .i64 3) w := by kernel_rfl
theorem idx3 (w : World) : (Instr.index 164 (.agg #[.int .i64 3, .int .i64 3, .int .i64 3, .int .i64 4, .int .i64 3, .int .i64 18]) (.int .i64 3)).run Tryz.prog w = .ok (.int .i64 4) w := by kernel_rfl
theorem idx4 (w : World) : (Instr.index 164 (.agg #[.int .i64 3, .int .i64 3, .int .i64 3, .int .i64 4, .int .i64 3, .int .i64 18]) (.int .i64 4)).run Tryz.prog w = .ok (.int .i64 3) w := by kernel_rfl
theorem idx5 (w : World) : (Instr.index 164 (.agg #[.int .i64 3, .int .i64 3, .int .i64 3, .int .i64 4, .int .i64 3, .int .i64 18]) (.int .i64 5)).run Tryz.prog w = .ok (.int .i64 18) w := by kernel_rfl

theorem lit0 : ((0 : Nat) : Int) = 0 := rfl
theorem lit1 : ((1 : Nat) : Int) = 1 := rfl
theorem lit2 : ((2 : Nat) : Int) = 2 := rfl
theorem lit5 : ((5 : Nat) : Int) = 5 := rfl

set_option maxRecDepth 100000 in
set_option maxHeartbeats 4000000 in
theorem iFormat (w : World) (T : Sums w) (K : Sector.Kinds w) (hg : 0 < w.heap.size) :
    Calls Tryz.prog 53 #[] w fun r w' => ∃ g, r = .returned (.slice (some ⟨g, 0, none⟩) 34 34) ∧ w.heap.size ≤ g ∧ StrsW w' w.heap.size (some ⟨g, 0, none⟩) fmt ∧ Below w.heap.size w w' := by
  have HT := hid T
  have HK := hid K
  have HG := hid hg
  have hmk := make34
  obtain ⟨wm, hwm, em, Bm⟩ : ∃ wm, w.alloc (.cells (madeCells #[.string ⟨#[]⟩] 34) 9) = wm ∧ wm.heap.size = w.heap.size + 1 ∧ Below w.heap.size w wm := ⟨_, rfl, by simp, (Below.refl _ _).alloc (Nat.le_refl _) _⟩
  have HW : Hid (Wr wm w.heap.size (some ⟨w.heap.size, 0, none⟩) 34 (part 0)) := by
    rw [← hwm]
    exact (wr_made w (.string ⟨#[]⟩) 34 9).congr (fun j _ => by unfold part; rw [if_neg (by omega)])
  have HBm := hid Bm
  have HKm := hid (kinds_below K hg Bm)
  clear T K hg Bm
  have g0 : wm.cell? ⟨0, 0, none⟩ = some (.int .i64 3) := HKm.out 0 (by decide)
  have g1 : wm.cell? ⟨0, 1, none⟩ = some (.int .i64 3) := HKm.out 1 (by decide)
  have g2 : wm.cell? ⟨0, 2, none⟩ = some (.int .i64 3) := HKm.out 2 (by decide)
  have g3 : wm.cell? ⟨0, 3, none⟩ = some (.int .i64 4) := HKm.out 3 (by decide)
  have g4 : wm.cell? ⟨0, 4, none⟩ = some (.int .i64 3) := HKm.out 4 (by decide)
  have g5 : wm.cell? ⟨0, 5, none⟩ = some (.int .i64 18) := HKm.out 5 (by decide)
  go_enter Tryz.func53, Tryz.ntmps53
  go_wp2
  clear hmk hwm g0 g1 g2 g3 g4 g5
  go_loopw [7] (fun i wr => ∃ k : Nat, k ≤ 6 ∧ i = .int .i64 (k : Int) ∧ Hid (Wr wr w.heap.size (some ⟨w.heap.size, 0, none⟩) 34 (part (off k))) ∧ Hid (Below w.heap.size w wr)) (fun i _ => 6 - (intOf i).toNat)
  case atStart => exact ⟨0, Nat.zero_le _, rfl, HW, HBm⟩
  case round =>
    obtain ⟨k, hk, rfl, HWr, HBr⟩ := hrel
    clear HW
    by_cases hlt : k < 6
    · obtain ⟨wo, hwo⟩ : ∃ wo, wo = wr := ⟨_, rfl⟩
      subst hwo
      have hc : k = 0 ∨ k = 1 ∨ k = 2 ∨ k = 3 ∨ k = 4 ∨ k = 5 := by omega
      clear hlt hk
      rcases hc with rfl | rfl | rfl | rfl | rfl | rfl
      · simp only [lit0]
        have hix := idx0
        go_wp2
        clear hix
        go_loopw [12] (fun i wr => ∃ m : Nat, m ≤ 3 ∧ i = .int .i64 (m : Int) ∧ Hid (Wr wr w.heap.size (some ⟨w.heap.size, 0, none⟩) 34 (part (0 + m))) ∧ Hid (Below w.heap.size w wr)) (fun i _ => 3 - (intOf i).toNat)
        case atStart => exact ⟨0, Nat.zero_le _, rfl, HWr, HBr⟩
        case round =>
          obtain ⟨m, hm, rfl, HW', HB'⟩ := hrel
          by_cases hlt : m < 3
          · have HS : Hid (Sector.sectorOf 0 (m : Int) = ((0 + m : Nat) : Int)) := by
              have h1 := Sector.yes 0 (m : Int) (by decide) (by omega) (by show (m : Int) < 3; omega)
              have h2 : Sector.S 0 = 0 := by decide
              rw [h2] at h1
              have h3 : Sector.sectorOf 0 (m : Int) = (m : Int) + 0 := h1
              rw [Hid, h3]; omega
            have HX : Hid (fmt.getD (0 + m) ⟨#[]⟩ = fresh 0) := by
              have hc : m = 0 ∨ m = 1 ∨ m = 2 := by omega
              rcases hc with rfl | rfl | rfl <;> rfl
            obtain ⟨p, hp⟩ : ∃ p, p = 0 + m := ⟨_, rfl⟩
            have hp34 : p < 34 := by omega
            have HP := hid hp
            rw [← hp] at HW' HS HX
            clear hp
            go_wp2_with fail
            refine (Sector.impl_sector 0 (m : Int) wr (kinds_below HK.out HG.out HB'.out)).mono ?_
            rintro e w1 ⟨rfl, hw1⟩
            obtain rfl := hw1.symm
            rw [HS.out]
            go_wp2_with fail
            refine (freshSector 0 (by decide) wr (HT.out.below HB'.out)).mono ?_
            rintro e w2 ⟨rfl, b2⟩
            have HW2 := hid (HW'.out.below b2)
            have HB2 := hid (HB'.out.trans (b2.mono HB'.out.size))
            clear b2
            obtain ⟨b, off', e, _, hc, hf⟩ := HW2.out p hp34
            cases e
            rw [Nat.zero_add] at hc hf
            have HN := hid (HW2.out.set p hp34 (.string (fresh 0)))
            go_wp2
            refine ⟨⟨m + 1, by omega, by go_num, ?_, below_set HB2.out w.heap.size p _ (Nat.le_refl _)⟩, by simp [intOf]; omega⟩
            have h0 := HN.out
            rw [Nat.zero_add] at h0
            rw [show 0 + (m + 1) = p + 1 by have := HP.out; omega]
            exact h0.congr (fun j _ => part_succ p (fresh 0) HX.out j)
          · obtain rfl : m = 3 := by omega
            go_wp2
            exact ⟨⟨0 + 1, by decide, by go_num, HW', HB'⟩, by simp [intOf]⟩
      · simp only [lit1]
        have hix := idx1
        go_wp2
        clear hix
        go_loopw [12] (fun i wr => ∃ m : Nat, m ≤ 3 ∧ i = .int .i64 (m : Int) ∧ Hid (Wr wr w.heap.size (some ⟨w.heap.size, 0, none⟩) 34 (part (3 + m))) ∧ Hid (Below w.heap.size w wr)) (fun i _ => 3 - (intOf i).toNat)
        case atStart => exact ⟨0, Nat.zero_le _, rfl, HWr, HBr⟩
        case round =>
          obtain ⟨m, hm, rfl, HW', HB'⟩ := hrel
          by_cases hlt : m < 3
          · have HS : Hid (Sector.sectorOf 1 (m : Int) = ((3 + m : Nat) : Int)) := by
              have h1 := Sector.yes 1 (m : Int) (by decide) (by omega) (by show (m : Int) < 3; omega)
              have h2 : Sector.S 1 = 3 := by decide
              rw [h2] at h1
              have h3 : Sector.sectorOf 1 (m : Int) = (m : Int) + 3 := h1
              rw [Hid, h3]; omega
            have HX : Hid (fmt.getD (3 + m) ⟨#[]⟩ = fresh 1) := by
              have hc : m = 0 ∨ m = 1 ∨ m = 2 := by omega
              rcases hc with rfl | rfl | rfl <;> rfl
            obtain ⟨p, hp⟩ : ∃ p, p = 3 + m := ⟨_, rfl⟩
            have hp34 : p < 34 := by omega
            have HP := hid hp
            rw [← hp] at HW' HS HX
            clear hp
            go_wp2_with fail
            refine (Sector.impl_sector 1 (m : Int) wr (kinds_below HK.out HG.out HB'.out)).mono ?_
            rintro e w1 ⟨rfl, hw1⟩
            obtain rfl := hw1.symm
            rw [HS.out]
            go_wp2_with fail
            refine (freshSector 1 (by decide) wr (HT.out.below HB'.out)).mono ?_
            rintro e w2 ⟨rfl, b2⟩
            have HW2 := hid (HW'.out.below b2)
            have HB2 := hid (HB'.out.trans (b2.mono HB'.out.size))
            clear b2
            obtain ⟨b, off', e, _, hc, hf⟩ := HW2.out p hp34
            cases e
            rw [Nat.zero_add] at hc hf
            have HN := hid (HW2.out.set p hp34 (.string (fresh 1)))
            go_wp2
            refine ⟨⟨m + 1, by omega, by go_num, ?_, below_set HB2.out w.heap.size p _ (Nat.le_refl _)⟩, by simp [intOf]; omega⟩
            have h0 := HN.out
            rw [Nat.zero_add] at h0
            rw [show 3 + (m + 1) = p + 1 by have := HP.out; omega]
            exact h0.congr (fun j _ => part_succ p (fresh 1) HX.out j)
          · obtain rfl : m = 3 := by omega
            go_wp2
            exact ⟨⟨1 + 1, by decide, by go_num, HW', HB'⟩, by simp [intOf]⟩
      · simp only [lit2]
        have hix := idx2
        go_wp2
        clear hix
        go_loopw [12] (fun i wr => ∃ m : Nat, m ≤ 3 ∧ i = .int .i64 (m : Int) ∧ Hid (Wr wr w.heap.size (some ⟨w.heap.size, 0, none⟩) 34 (part (6 + m))) ∧ Hid (Below w.heap.size w wr)) (fun i _ => 3 - (intOf i).toNat)
        case atStart => exact ⟨0, Nat.zero_le _, rfl, HWr, HBr⟩
        case round =>
          obtain ⟨m, hm, rfl, HW', HB'⟩ := hrel
          by_cases hlt : m < 3
          · have HS : Hid (Sector.sectorOf 2 (m : Int) = ((6 + m : Nat) : Int)) := by
              have h1 := Sector.yes 2 (m : Int) (by decide) (by omega) (by show (m : Int) < 3; omega)
              have h2 : Sector.S 2 = 6 := by decide
              rw [h2] at h1
              have h3 : Sector.sectorOf 2 (m : Int) = (m : Int) + 6 := h1
              rw [Hid, h3]; omega
            have HX : Hid (fmt.getD (6 + m) ⟨#[]⟩ = fresh 2) := by
              have hc : m = 0 ∨ m = 1 ∨ m = 2 := by omega
              rcases hc with rfl | rfl | rfl <;> rfl
            obtain ⟨p, hp⟩ : ∃ p, p = 6 + m := ⟨_, rfl⟩
            have hp34 : p < 34 := by omega
            have HP := hid hp
            rw [← hp] at HW' HS HX
            clear hp
            go_wp2_with fail
            refine (Sector.impl_sector 2 (m : Int) wr (kinds_below HK.out HG.out HB'.out)).mono ?_
            rintro e w1 ⟨rfl, hw1⟩
            obtain rfl := hw1.symm
            rw [HS.out]
            go_wp2_with fail
            refine (freshSector 2 (by decide) wr (HT.out.below HB'.out)).mono ?_
            rintro e w2 ⟨rfl, b2⟩
            have HW2 := hid (HW'.out.below b2)
            have HB2 := hid (HB'.out.trans (b2.mono HB'.out.size))
            clear b2
            obtain ⟨b, off', e, _, hc, hf⟩ := HW2.out p hp34
            cases e
            rw [Nat.zero_add] at hc hf
            have HN := hid (HW2.out.set p hp34 (.string (fresh 2)))
            go_wp2
            refine ⟨⟨m + 1, by omega, by go_num, ?_, below_set HB2.out w.heap.size p _ (Nat.le_refl _)⟩, by simp [intOf]; omega⟩
            have h0 := HN.out
            rw [Nat.zero_add] at h0
            rw [show 6 + (m + 1) = p + 1 by have := HP.out; omega]
            exact h0.congr (fun j _ => part_succ p (fresh 2) HX.out j)
          · obtain rfl : m = 3 := by omega
            go_wp2
            exact ⟨⟨2 + 1, by decide, by go_num, HW', HB'⟩, by simp [intOf]⟩
      · simp only [lit3]
        have hix := idx3
        go_wp2
        clear hix
        go_loopw [12] (fun i wr => ∃ m : Nat, m ≤ 4 ∧ i = .int .i64 (m : Int) ∧ Hid (Wr wr w.heap.size (some ⟨w.heap.size, 0, none⟩) 34 (part (9 + m))) ∧ Hid (Below w.heap.size w wr)) (fun i _ => 4 - (intOf i).toNat)
        case atStart => exact ⟨0, Nat.zero_le _, rfl, HWr, HBr⟩
        case round =>
          obtain ⟨m, hm, rfl, HW', HB'⟩ := hrel
          by_cases hlt : m < 4
          · have HS : Hid (Sector.sectorOf 3 (m : Int) = ((9 + m : Nat) : Int)) := by
              have h1 := Sector.yes 3 (m : Int) (by decide) (by omega) (by show (m : Int) < 4; omega)
              have h2 : Sector.S 3 = 9 := by decide
              rw [h2] at h1
              have h3 : Sector.sectorOf 3 (m : Int) = (m : Int) + 9 := h1
              rw [Hid, h3]; omega
            have HX : Hid (fmt.getD (9 + m) ⟨#[]⟩ = fresh 3) := by
              have hc : m = 0 ∨ m = 1 ∨ m = 2 ∨ m = 3 := by omega
              rcases hc with rfl | rfl | rfl | rfl <;> rfl
            obtain ⟨p, hp⟩ : ∃ p, p = 9 + m := ⟨_, rfl⟩
            have hp34 : p < 34 := by omega
            have HP := hid hp
            rw [← hp] at HW' HS HX
            clear hp
            go_wp2_with fail
            refine (Sector.impl_sector 3 (m : Int) wr (kinds_below HK.out HG.out HB'.out)).mono ?_
            rintro e w1 ⟨rfl, hw1⟩
            obtain rfl := hw1.symm
            rw [HS.out]
            go_wp2_with fail
            refine (freshSector 3 (by decide) wr (HT.out.below HB'.out)).mono ?_
            rintro e w2 ⟨rfl, b2⟩
            have HW2 := hid (HW'.out.below b2)
            have HB2 := hid (HB'.out.trans (b2.mono HB'.out.size))
            clear b2
            obtain ⟨b, off', e, _, hc, hf⟩ := HW2.out p hp34
            cases e
            rw [Nat.zero_add] at hc hf
            have HN := hid (HW2.out.set p hp34 (.string (fresh 3)))
            go_wp2
            refine ⟨⟨m + 1, by omega, by go_num, ?_, below_set HB2.out w.heap.size p _ (Nat.le_refl _)⟩, by simp [intOf]; omega⟩
            have h0 := HN.out
            rw [Nat.zero_add] at h0
            rw [show 9 + (m + 1) = p + 1 by have := HP.out; omega]
            exact h0.congr (fun j _ => part_succ p (fresh 3) HX.out j)
          · obtain rfl : m = 4 := by omega
            go_wp2
            exact ⟨⟨3 + 1, by decide, by go_num, HW', HB'⟩, by simp [intOf]⟩
      · simp only [lit4]
        have hix := idx4
        go_wp2
        clear hix
        go_loopw [12] (fun i wr => ∃ m : Nat, m ≤ 3 ∧ i = .int .i64 (m : Int) ∧ Hid (Wr wr w.heap.size (some ⟨w.heap.size, 0, none⟩) 34 (part (13 + m))) ∧ Hid (Below w.heap.size w wr)) (fun i _ => 3 - (intOf i).toNat)
        case atStart => exact ⟨0, Nat.zero_le _, rfl, HWr, HBr⟩
        case round =>
          obtain ⟨m, hm, rfl, HW', HB'⟩ := hrel
          by_cases hlt : m < 3
          · have HS : Hid (Sector.sectorOf 4 (m : Int) = ((13 + m : Nat) : Int)) := by
              have h1 := Sector.yes 4 (m : Int) (by decide) (by omega) (by show (m : Int) < 3; omega)
              have h2 : Sector.S 4 = 13 := by decide
              rw [h2] at h1
              have h3 : Sector.sectorOf 4 (m : Int) = (m : Int) + 13 := h1
              rw [Hid, h3]; omega
            have HX : Hid (fmt.getD (13 + m) ⟨#[]⟩ = fresh 4) := by
              have hc : m = 0 ∨ m = 1 ∨ m = 2 := by omega
              rcases hc with rfl | rfl | rfl <;> rfl
            obtain ⟨p, hp⟩ : ∃ p, p = 13 + m := ⟨_, rfl⟩
            have hp34 : p < 34 := by omega
            have HP := hid hp
            rw [← hp] at HW' HS HX
            clear hp
            go_wp2_with fail
            refine (Sector.impl_sector 4 (m : Int) wr (kinds_below HK.out HG.out HB'.out)).mono ?_
            rintro e w1 ⟨rfl, hw1⟩
            obtain rfl := hw1.symm
            rw [HS.out]
            go_wp2_with fail
            refine (freshSector 4 (by decide) wr (HT.out.below HB'.out)).mono ?_
            rintro e w2 ⟨rfl, b2⟩
            have HW2 := hid (HW'.out.below b2)
            have HB2 := hid (HB'.out.trans (b2.mono HB'.out.size))
            clear b2
            obtain ⟨b, off', e, _, hc, hf⟩ := HW2.out p hp34
            cases e
            rw [Nat.zero_add] at hc hf
            have HN := hid (HW2.out.set p hp34 (.string (fresh 4)))
            go_wp2
            refine ⟨⟨m + 1, by omega, by go_num, ?_, below_set HB2.out w.heap.size p _ (Nat.le_refl _)⟩, by simp [intOf]; omega⟩
            have h0 := HN.out
            rw [Nat.zero_add] at h0
            rw [show 13 + (m + 1) = p + 1 by have := HP.out; omega]
            exact h0.congr (fun j _ => part_succ p (fresh 4) HX.out j)
          · obtain rfl : m = 3 := by omega
            go_wp2
            exact ⟨⟨4 + 1, by decide, by go_num, HW', HB'⟩, by simp [intOf]⟩
      · simp only [lit5]
        have hix := idx5
        go_wp2
        clear hix
        go_loopw [12] (fun i wr => ∃ m : Nat, m ≤ 18 ∧ i = .int .i64 (m : Int) ∧ Hid (Wr wr w.heap.size (some ⟨w.heap.size, 0, none⟩) 34 (part (16 + m))) ∧ Hid (Below w.heap.size w wr)) (fun i _ => 18 - (intOf i).toNat)
        case atStart => exact ⟨0, Nat.zero_le _, rfl, HWr, HBr⟩
        case round =>
          obtain ⟨m, hm, rfl, HW', HB'⟩ := hrel
          by_cases hlt : m < 18
          · have HS : Hid (Sector.sectorOf 5 (m : Int) = ((16 + m : Nat) : Int)) := by
              have h1 := Sector.yes 5 (m : Int) (by decide) (by omega) (by show (m : Int) < 18; omega)
              have h2 : Sector.S 5 = 16 := by decide
              rw [h2] at h1
              have h3 : Sector.sectorOf 5 (m : Int) = (m : Int) + 16 := h1
              rw [Hid, h3]; omega
            have HX : Hid (fmt.getD (16 + m) ⟨#[]⟩ = fresh 5) := by
              have hc : m = 0 ∨ m = 1 ∨ m = 2 ∨ m = 3 ∨ m = 4 ∨ m = 5 ∨ m = 6 ∨ m = 7 ∨ m = 8 ∨ m = 9 ∨ m = 10 ∨ m = 11 ∨ m = 12 ∨ m = 13 ∨ m = 14 ∨ m = 15 ∨ m = 16 ∨ m = 17 := by omega
              rcases hc with rfl | rfl | rfl | rfl | rfl | rfl | rfl | rfl | rfl | rfl | rfl | rfl | rfl | rfl | rfl | rfl | rfl | rfl <;> rfl
            obtain ⟨p, hp⟩ : ∃ p, p = 16 + m := ⟨_, rfl⟩
            have hp34 : p < 34 := by omega
            have HP := hid hp
            rw [← hp] at HW' HS HX
            clear hp
            go_wp2_with fail
            refine (Sector.impl_sector 5 (m : Int) wr (kinds_below HK.out HG.out HB'.out)).mono ?_
            rintro e w1 ⟨rfl, hw1⟩
            obtain rfl := hw1.symm
            rw [HS.out]
            go_wp2_with fail
            refine (freshSector 5 (by decide) wr (HT.out.below HB'.out)).mono ?_
            rintro e w2 ⟨rfl, b2⟩
            have HW2 := hid (HW'.out.below b2)
            have HB2 := hid (HB'.out.trans (b2.mono HB'.out.size))
            clear b2
            obtain ⟨b, off', e, _, hc, hf⟩ := HW2.out p hp34
            cases e
            rw [Nat.zero_add] at hc hf
            have HN := hid (HW2.out.set p hp34 (.string (fresh 5)))
            go_wp2
            refine ⟨⟨m + 1, by omega, by go_num, ?_, below_set HB2.out w.heap.size p _ (Nat.le_refl _)⟩, by simp [intOf]; omega⟩
            have h0 := HN.out
            rw [Nat.zero_add] at h0
            rw [show 16 + (m + 1) = p + 1 by have := HP.out; omega]
            exact h0.congr (fun j _ => part_succ p (fresh 5) HX.out j)
          · obtain rfl : m = 18 := by omega
            go_wp2
            exact ⟨⟨5 + 1, by decide, by go_num, HW', HB'⟩, by simp [intOf]⟩
    · obtain rfl : k = 6 := by omega
      go_wp2
      go_ret
      refine ⟨w.heap.size, rfl, Nat.le_refl _, ?_, HBr.out⟩
      unfold StrsW
      rw [fmt_length]
      exact HWr.out.congr (fun i hi => by unfold part; rw [if_pos (show i < off 6 from hi)]; rfl)

end Go.Proofs.YtaopkchkhdbfnaaGreatDoor.Fm

namespace Go.Proofs.YtaopkchkhdbfnaaGreatDoor.Mem
open Go.RowKit Classical
set_option linter.unusedVariables false

/-- A write of the host to the sector is under way. -/
def Dk.Under (D : Dk) (h s : Int) : Prop := ∃ j, j < D.pe.length ∧ (D.pe.getD j Wt.none).host = h ∧ (D.pe.getD j Wt.none).sector = s

/-- What Swap makes of a right disk. -/
def Dk.swap (D : Dk) (h e s : Int) (old t : ByteArray) : Dk × Int :=
  if ((0 ≤ h ∧ h < 3) ∧ 0 ≤ s ∧ s < (D.sec.length : Int)) ∧ (t.size : Int) ≤ 700 ∧ (old.size : Int) ≤ 700 then (if D.ep.getD h.toNat 0 = e then (if D.sec.getD s.toNat ByteArray.empty = old ∧ ¬ ∃ j, j < D.pe.length ∧ (D.pe.getD j Wt.none).host = h ∧ (D.pe.getD j Wt.none).sector = s then (⟨D.sec.set s.toNat t, D.ep, D.pe⟩, 0) else (D, 4)) else (D, 2)) else (D, 1)

/-- A cell of an owned row is stored. -/
theorem RowO.set {w : World} {B : Nat} {e : TypeId} {k : Nat} {g n cap : Nat} {xs : List Value} (h : RowO w B e k (.slice (some ⟨g, 0, none⟩) n cap) n xs) (i : Nat) (hi : i < n * k) (u : Value) :
    RowO (w.setCell ⟨g, i, none⟩ u) B e k (.slice (some ⟨g, 0, none⟩) n cap) n (xs.set i u) := by
  rcases h with ⟨_, _, rfl, _⟩ | ⟨h, hc⟩
  · omega
  · exact Or.inr ⟨(h.stored i u).1, hc⟩

theorem sCells_set (l : List ByteArray) (i : Nat) (t : ByteArray) : sCells (l.set i t) = (sCells l).set i (.string t) := by unfold sCells; rw [List.map_set]

/-- An owned row that isn't empty begins its block. -/
theorem RowO.form {w : World} {B : Nat} {e : TypeId} {k : Nat} {v : Value} {n : Nat} {xs : List Value} (h : RowO w B e k v n xs) (hn : 0 < n) : ∃ g c, v = .slice (some ⟨g, 0, none⟩) n (c + 1) := by
  rcases h with ⟨_, _, rfl, _⟩ | ⟨h, a, c, e⟩
  · omega
  · rcases h.2 with ⟨e', _⟩ | ⟨g, cap, cur, e', _⟩
    · rw [e] at e'; cases e'
    · rw [e] at e'
      cases e'
      exact ⟨g, c, e⟩

/-- A sector of a disk of the call's own is stored. -/
theorem DkO.setSec {w : World} {B : Nat} {v2 v3 : Value} {g n cap i : Nat} {D : Dk} (O : DkO w B (.agg #[.slice (some ⟨g, 0, none⟩) n (cap + 1), v2, v3]) D) (hi : i < D.sec.length) (t : ByteArray) :
    DkO (w.setCell ⟨g, i, none⟩ (.string t)) B (.agg #[.slice (some ⟨g, 0, none⟩) n (cap + 1), v2, v3]) ⟨D.sec.set i t, D.ep, D.pe⟩ := by
  obtain ⟨_, _, _, e, r1, r2, r3, f1, f2⟩ := O
  cases e
  have hn : n = D.sec.length := by
    obtain ⟨_, _, e, _⟩ := r1.wr
    cases e; rfl
  subst hn
  refine ⟨_, _, _, rfl, ?_, r2.kept (kept_set w g i _) (fun b hb e => ?_), r3.kept (kept_set w g i _) (fun b hb e => ?_), f1, f2⟩
  · have h := r1.set i (by omega) (.string t)
    rw [← sCells_set] at h
    show RowO _ _ _ _ _ (D.sec.set i t).length _
    rw [List.length_set]
    exact h
  · subst e; exact (f1 b rfl).1 hb
  · subst e; exact (f1 b rfl).2 hb

end Go.Proofs.YtaopkchkhdbfnaaGreatDoor.Mem

namespace Go.Proofs.YtaopkchkhdbfnaaGreatDoor.Mem
open Go.RowKit
set_option linter.unusedVariables false

/-- 'append' on an empty slice without room, at the list of a plain region's operations. -/
theorem wpList_app_empty {P : Program} (t e : TypeId) (z : Value) (k bytes : Nat) (ht : P.underlying t = some (.slice e)) (hinfo : (P.info? e).map (fun i => (i.zero, i.size, i.bytes)) = some (some z, k, bytes)) (hzs : z.cells.size = k) (hk : 0 < k) (hby : bytes ≤ 1048576)
    {ops : Array Oper} {rest : List Oper} {o : Oper} {a : Act} {Q : Exit → Act → World → Prop} (w : World) (hgd : o.guard = none) (s x : Operand)
    (ho : o.op = .call { callee := .builtin .append, args := #[s, x], argTypes := #[t, t] })
    (b : Option Addr) (hs : a.eval s = .slice b 0 0) (ad : Option Addr) (m c : Nat) (news : List Value) (hx : a.eval x = .slice ad m c) (hl : news.length = m * k) (hS : Sl w ad (m * k) (fun i => news.getD i undef)) (h1 : ∀ u ∈ news, u.oneCell' = true) (hm : m ≤ 1048576)
    (hK : ∀ v' w', RowO w' w.heap.size e k v' m news → Below w.heap.size w w' → wpList P ops Q rest (a.put o.dst v') w') :
    wpList P ops Q (o :: rest) a w := by
  refine wpList_plain hgd fun K hK' => ?_
  obtain ⟨v', w', hr, h2, h3, _, _⟩ := run_app_empty (P := P) w t o.type e z k bytes ht hinfo hzs hk b ad m c news hl hS h1 hm hby
  unfold Oper.wp execOp
  simp only [ho, resolve, invoke, builtin, Sem.run_bind, Sem.run_pure, Result.andThen_ok, List.map_toArray, List.map_cons, List.map_nil, hs, hx, hr]
  exact hK' _ _ (hK v' w' h2 h3)

theorem wcell_take (l : List Wt) (n i : Nat) (h : i < n * 4) : wcell (l.take n) i = wcell l i := by
  unfold wcell
  have : i / 4 < n := by omega
  simp [List.getD_eq_getElem?_getD, this]
theorem wcell_drop (l : List Wt) (n i : Nat) : wcell (l.drop n) i = wcell l (n * 4 + i) := by
  unfold wcell
  rw [show (n * 4 + i) / 4 = n + i / 4 by omega, show (n * 4 + i) % 4 = i % 4 by omega]
  simp [List.getD_eq_getElem?_getD, List.getElem?_drop]

theorem wts_take {w : World} {a : Option Addr} {l : List Wt} (h : Wts w a l) (n : Nat) (hn : n ≤ l.length) : Sl w a (n * 4) (fun i => (wCells (l.take n)).getD i undef) := fun i hi => by
  obtain ⟨b, off, e, hc⟩ := h i (by omega)
  refine ⟨b, off, e, ?_⟩
  show _ = some ((wCells (l.take n)).getD i undef)
  rw [wCells_at _ _ (by rw [List.length_take]; omega), wcell_take l n i hi]
  exact hc
theorem wts_drop {w : World} {b off : Nat} {l : List Wt} (h : Wts w (some ⟨b, off, none⟩) l) (n : Nat) (hn : n ≤ l.length) : Sl w (some ⟨b, off + n * 4, none⟩) ((l.length - n) * 4) (fun i => (wCells (l.drop n)).getD i undef) := fun i hi => by
  obtain ⟨b', off', e, hc⟩ := h (n * 4 + i) (by omega)
  cases e
  refine ⟨b, off + n * 4, rfl, ?_⟩
  show _ = some ((wCells (l.drop n)).getD i undef)
  rw [wCells_at _ _ (by rw [List.length_drop]; omega), wcell_drop l n i, Nat.add_assoc]
  exact hc

theorem wCells_append (l m : List Wt) : wCells (l ++ m) = wCells l ++ wCells m := by unfold wCells; rw [List.flatMap_append]

end Go.Proofs.YtaopkchkhdbfnaaGreatDoor.Mem

namespace Go.Proofs.YtaopkchkhdbfnaaGreatDoor.Mem
open Go.RowKit Classical
set_option linter.unusedVariables false

/-- Write i may land: it is there, and none of the same host to the same sector stands ahead of it. -/
def Dk.CanLand (D : Dk) (i : Int) : Prop := 0 ≤ i ∧ i < (D.pe.length : Int) ∧ ∀ j, j < i.toNat → ¬ ((D.pe.getD j Wt.none).host = (D.pe.getD i.toNat Wt.none).host ∧ (D.pe.getD j Wt.none).sector = (D.pe.getD i.toNat Wt.none).sector)

/-- What Land makes of a right disk. -/
def Dk.land (D : Dk) (i : Int) : Dk × Bool :=
  if 0 ≤ i ∧ i < (D.pe.length : Int) ∧ ∀ j, j < i.toNat → ¬ ((D.pe.getD j Wt.none).host = (D.pe.getD i.toNat Wt.none).host ∧ (D.pe.getD j Wt.none).sector = (D.pe.getD i.toNat Wt.none).sector) then (⟨D.sec.set (D.pe.getD i.toNat Wt.none).sector.toNat (D.pe.getD i.toNat Wt.none).text, D.ep, D.pe.eraseIdx i.toNat⟩, true) else (D, false)

/-- A disk whose third list is another row that was laid behind. -/
theorem DkO.swapped {w w2 : World} {B : Nat} {v1 v2 v3 v3' : Value} {D : Dk} {l : List Wt} (O : DkO w B (.agg #[v1, v2, v3]) D) (b : Below w.heap.size w w2) (hB : B ≤ w.heap.size) (r : RowO w2 w.heap.size 148 4 v3' l.length (wCells l)) : DkO w2 B (.agg #[v1, v2, v3']) ⟨D.sec, D.ep, l⟩ := by
  have hlt := fun b hb => O.lt (b := b) hb
  obtain ⟨_, _, _, e, r1, r2, r3, f1, f2⟩ := O
  cases e
  refine ⟨v1, v2, v3', rfl, r1.below b, r2.below b, r.mono hB, fun b h => ⟨(f1 b h).1, fun h3 => ?_⟩, fun b h h3 => ?_⟩
  · have := (hlt b ⟨_, _, _, rfl, Or.inl h⟩).2; have := (r.lt h3).1; omega
  · have := (hlt b ⟨_, _, _, rfl, Or.inr (Or.inl h)⟩).2; have := (r.lt h3).1; omega

theorem RowO.cap {w : World} {B : Nat} {e : TypeId} {k : Nat} {a : Option Addr} {n c : Nat} {xs : List Value} (h : RowO w B e k (.slice a n c) n xs) : n ≤ c ∧ c ≤ maxLen := by
  rcases h with ⟨_, e, rfl, _⟩ | ⟨h, _⟩
  · cases e; exact ⟨Nat.le_refl _, Nat.zero_le _⟩
  · rcases h.2 with ⟨e, _⟩ | ⟨g, cap, cur, e, _, _, h1, h2, _⟩
    · cases e; exact ⟨Nat.le_refl _, Nat.zero_le _⟩
    · cases e; exact ⟨h1, h2⟩

/-- Where the blocks of a disk lie whose third list was laid behind. -/
theorem swapped_far {w w2 : World} {B n z : Nat} {v1 v2 v3 v3' : Value} {D : Dk} {k : Nat} {e : TypeId} {m : Nat} {xs : List Value} (O : DkO w B (.agg #[v1, v2, v3]) D) (hn : w.heap.size ≤ n) (r : RowO w2 z e k v3' m xs) (hz : n < z) :
    ∀ b, DkB (.agg #[v1, v2, v3']) b → b ≠ n := by
  rintro b ⟨_, _, _, e, hb⟩ rfl
  cases e
  rcases hb with hb | hb | hb
  · have := (O.lt ⟨_, _, _, rfl, Or.inl hb⟩).2; omega
  · have := (O.lt ⟨_, _, _, rfl, Or.inr (Or.inl hb)⟩).2; omega
  · have := (r.lt hb).1; omega

end Go.Proofs.YtaopkchkhdbfnaaGreatDoor.Mem

namespace Go.Proofs.YtaopkchkhdbfnaaGreatDoor.Mem
open Go.RowKit
set_option linter.unusedVariables false

/-- The writes of other hosts. -/
def others (l : List Wt) (h : Int) : List Wt := l.filter (fun x => decide (x.host ≠ h))

theorem take_more (l : List Wt) (k : Nat) (h : k < l.length) : l.take (k + 1) = l.take k ++ [l.getD k Wt.none] := by
  rw [List.take_add_one, List.getElem?_eq_getElem h, List.getD_eq_getElem?_getD, List.getElem?_eq_getElem h]
  rfl
theorem others_no (l : List Wt) (h : Int) (k : Nat) (hk : k < l.length) (he : (l.getD k Wt.none).host = h) : others (l.take (k + 1)) h = others (l.take k) h := by
  unfold others
  rw [take_more l k hk, List.filter_append]
  generalize l.getD k Wt.none = y at he ⊢
  simp [he]
theorem others_yes (l : List Wt) (h : Int) (k : Nat) (hk : k < l.length) (he : ¬ (l.getD k Wt.none).host = h) : others (l.take (k + 1)) h = others (l.take k) h ++ [l.getD k Wt.none] := by
  unfold others
  rw [take_more l k hk, List.filter_append]
  generalize l.getD k Wt.none = y at he ⊢
  simp [he]
theorem others_le (l : List Wt) (h : Int) (k : Nat) : (others (l.take k) h).length ≤ l.length := by
  unfold others
  exact Nat.le_trans (List.length_filter_le _ _) (by rw [List.length_take]; omega)

/-- What Fence makes of a right disk. -/
def Dk.fence (D : Dk) (h : Int) : Dk × Bool :=
  if (0 ≤ h ∧ h < 3) ∧ D.ep.getD h.toNat 0 < 100000 then (⟨D.sec, D.ep.set h.toNat (D.ep.getD h.toNat 0 + 1), others D.pe h⟩, true) else (D, false)

theorem iCells_set (l : List Int) (i : Nat) (z : Int) : iCells (l.set i z) = (iCells l).set i (.int .i64 z) := by unfold iCells; rw [List.map_set]

/-- An epoch of a disk of the call's own is stored. -/
theorem DkO.setEp {w : World} {B : Nat} {v1 v3 : Value} {g n cap i : Nat} {D : Dk} (O : DkO w B (.agg #[v1, .slice (some ⟨g, 0, none⟩) n (cap + 1), v3]) D) (hi : i < D.ep.length) (z : Int) :
    DkO (w.setCell ⟨g, i, none⟩ (.int .i64 z)) B (.agg #[v1, .slice (some ⟨g, 0, none⟩) n (cap + 1), v3]) ⟨D.sec, D.ep.set i z, D.pe⟩ := by
  obtain ⟨_, _, _, e, r1, r2, r3, f1, f2⟩ := O
  cases e
  have hn : n = D.ep.length := by
    obtain ⟨_, _, e, _⟩ := r2.wr
    cases e; rfl
  subst hn
  refine ⟨_, _, _, rfl, r1.kept (kept_set w g i _) (fun b hb e => ?_), ?_, r3.kept (kept_set w g i _) (fun b hb e => ?_), f1, f2⟩
  · subst e; exact (f1 b hb).1 rfl
  · have h := r2.set i (by omega) (.int .i64 z)
    rw [← iCells_set] at h
    show RowO _ _ _ _ _ (D.ep.set i z).length _
    rw [List.length_set]
    exact h
  · subst e; exact f2 b rfl hb

end Go.Proofs.YtaopkchkhdbfnaaGreatDoor.Mem

namespace Go.Proofs.YtaopkchkhdbfnaaGreatDoor.Mem
open Go.RowKit
set_option linter.unusedVariables false

structure ISt (w : World) (a0 a1 a2 : Value) (B nn : Nat) (p0 p1 p2 : Value) (E : Dk) (wk : World) : Prop where
  bel : Below w.heap.size w wk
  ra : Row wk w.heap.size [a0, a1, a2]
  rr : Row wk (w.heap.size + 1) [.slice none 0 0, .slice none 0 0, .slice none 0 0]
  rn : Row wk nn [p0, p1, p2]
  o : DkO wk B (.agg #[p0, p1, p2]) E
  lb : w.heap.size + 1 < B
  ln : B ≤ nn
  far : ∀ b, DkB (.agg #[p0, p1, p2]) b → b ≠ nn

theorem ISt.below {w : World} {a0 a1 a2 : Value} {B nn : Nat} {p0 p1 p2 : Value} {E : Dk} {wk w' : World} (h : ISt w a0 a1 a2 B nn p0 p1 p2 E wk) (b : Below wk.heap.size wk w') : ISt w a0 a1 a2 B nn p0 p1 p2 E w' :=
  ⟨h.bel.trans (b.mono h.bel.size), h.ra.below b h.ra.lt, h.rr.below b h.rr.lt, h.rn.below b h.rn.lt, h.o.below b, h.lb, h.ln, h.far⟩

theorem ISt.cells {w : World} {a0 a1 a2 : Value} {B nn : Nat} {p0 p1 p2 : Value} {E : Dk} {wk : World} (h : ISt w a0 a1 a2 B nn p0 p1 p2 E wk) :
    wk.cell? ⟨w.heap.size, 0, none⟩ = some a0 ∧ wk.cell? ⟨w.heap.size, 1, none⟩ = some a1 ∧ wk.cell? ⟨w.heap.size, 2, none⟩ = some a2 ∧
    wk.cell? ⟨w.heap.size + 1, 0, none⟩ = some (.slice none 0 0) ∧ wk.cell? ⟨w.heap.size + 1, 1, none⟩ = some (.slice none 0 0) ∧ wk.cell? ⟨w.heap.size + 1, 2, none⟩ = some (.slice none 0 0) ∧
    wk.frozen? ⟨w.heap.size + 1, 0, none⟩ = false ∧ wk.frozen? ⟨w.heap.size + 1, 1, none⟩ = false ∧ wk.frozen? ⟨w.heap.size + 1, 2, none⟩ = false ∧
    wk.cell? ⟨nn, 0, none⟩ = some p0 ∧ wk.cell? ⟨nn, 1, none⟩ = some p1 ∧ wk.cell? ⟨nn, 2, none⟩ = some p2 ∧ wk.frozen? ⟨nn, 2, none⟩ = false :=
  ⟨h.ra.c 0 rfl, h.ra.c 1 rfl, h.ra.c 2 rfl, h.rr.c 0 rfl, h.rr.c 1 rfl, h.rr.c 2 rfl, h.rr.f 0, h.rr.f 1, h.rr.f 2, h.rn.c 0 rfl, h.rn.c 1 rfl, h.rn.c 2 rfl, h.rn.f 2⟩

/-- The own disk is handed back. -/
theorem ISt.done {w : World} {a0 a1 a2 : Value} {B nn : Nat} {p0 p1 p2 : Value} {E : Dk} {wk : World} (h : ISt w a0 a1 a2 B nn p0 p1 p2 E wk) :
    DkW (((wk.setCell ⟨w.heap.size + 1, 0, none⟩ p0).setCell ⟨w.heap.size + 1, 1, none⟩ p1).setCell ⟨w.heap.size + 1, 2, none⟩ p2) w.heap.size (.agg #[p0, p1, p2]) E ∧
    Below w.heap.size w (((wk.setCell ⟨w.heap.size + 1, 0, none⟩ p0).setCell ⟨w.heap.size + 1, 1, none⟩ p1).setCell ⟨w.heap.size + 1, 2, none⟩ p2) ∧
    Row (((wk.setCell ⟨w.heap.size + 1, 0, none⟩ p0).setCell ⟨w.heap.size + 1, 1, none⟩ p1).setCell ⟨w.heap.size + 1, 2, none⟩ p2) (w.heap.size + 1) [p0, p1, p2] :=
  wrap_end h.lb h.bel h.o (Below.refl _ _) h.rr

theorem ISt.start {w w1 w2 wn : World} {a0 a1 a2 p0 p1 p2 : Value} {E : Dk} (HB : Below w.heap.size w w1) (HA : Row w1 w.heap.size [a0, a1, a2]) (HR : Row w1 (w.heap.size + 1) [.slice none 0 0, .slice none 0 0, .slice none 0 0])
    (O : DkO w2 w1.heap.size (.agg #[p0, p1, p2]) E) (b2 : Below w1.heap.size w1 w2) (N0 : Row wn w2.heap.size [p0, p1, p2]) (bn : Below w2.heap.size w2 wn) : ISt w a0 a1 a2 w1.heap.size w2.heap.size p0 p1 p2 E wn :=
  ⟨(HB.trans (b2.mono HB.size)).trans (bn.mono (Nat.le_trans HB.size b2.size)), (HA.below b2 HA.lt).below bn (HA.below b2 HA.lt).lt, (HR.below b2 HR.lt).below bn (HR.below b2 HR.lt).lt, N0, O.below bn, HR.lt, b2.size, fun b hb => by have := (O.lt hb).2; omega⟩

theorem Row.otherK {S : Nat → Prop} {w w' : World} {g : Nat} {xs : List Value} (h : Row w g xs) (k : Kept S w w') (hg : ¬ S g) : Row w' g xs := h.kept k hg

/-- A sector of the own disk is stored. -/
theorem ISt.setSec {w : World} {a0 a1 a2 : Value} {B nn : Nat} {g n cap i : Nat} {p1 p2 : Value} {E : Dk} {wk : World} (h : ISt w a0 a1 a2 B nn (.slice (some ⟨g, 0, none⟩) n (cap + 1)) p1 p2 E wk) (hi : i < E.sec.length) (t : ByteArray) :
    ISt w a0 a1 a2 B nn (.slice (some ⟨g, 0, none⟩) n (cap + 1)) p1 p2 ⟨E.sec.set i t, E.ep, E.pe⟩ (wk.setCell ⟨g, i, none⟩ (.string t)) := by
  have hg := h.o.lt (b := g) ⟨_, _, _, rfl, Or.inl rfl⟩
  have hf := h.far g ⟨_, _, _, rfl, Or.inl rfl⟩
  have k := kept_set wk g i (.string t)
  have := h.lb
  exact ⟨below_set h.bel g i _ (by omega), h.ra.kept k (by omega), h.rr.kept k (by omega), h.rn.kept k (fun e => hf e.symm), h.o.setSec hi t, h.lb, h.ln, h.far⟩

/-- An epoch of the own disk is stored. -/
theorem ISt.setEp {w : World} {a0 a1 a2 : Value} {B nn : Nat} {g n cap i : Nat} {p0 p2 : Value} {E : Dk} {wk : World} (h : ISt w a0 a1 a2 B nn p0 (.slice (some ⟨g, 0, none⟩) n (cap + 1)) p2 E wk) (hi : i < E.ep.length) (z : Int) :
    ISt w a0 a1 a2 B nn p0 (.slice (some ⟨g, 0, none⟩) n (cap + 1)) p2 ⟨E.sec, E.ep.set i z, E.pe⟩ (wk.setCell ⟨g, i, none⟩ (.int .i64 z)) := by
  have hg := h.o.lt (b := g) ⟨_, _, _, rfl, Or.inr (Or.inl rfl)⟩
  have hf := h.far g ⟨_, _, _, rfl, Or.inr (Or.inl rfl)⟩
  have k := kept_set wk g i (.int .i64 z)
  have := h.lb
  exact ⟨below_set h.bel g i _ (by omega), h.ra.kept k (by omega), h.rr.kept k (by omega), h.rn.kept k (fun e => hf e.symm), h.o.setEp hi z, h.lb, h.ln, h.far⟩

/-- Another list of writes is laid into the own disk. -/
theorem ISt.setPend {w : World} {a0 a1 a2 : Value} {B nn : Nat} {p0 p1 p2 v : Value} {E : Dk} {wk w2 : World} {l : List Wt} (h : ISt w a0 a1 a2 B nn p0 p1 p2 E wk) (b : Below wk.heap.size wk w2) (r : RowO w2 wk.heap.size 148 4 v l.length (wCells l)) :
    ISt w a0 a1 a2 B nn p0 p1 v ⟨E.sec, E.ep, l⟩ (w2.setCell ⟨nn, 2, none⟩ v) := by
  have hn := h.rn.lt
  have hB : B ≤ wk.heap.size := by have := h.ln; omega
  have o2 := h.o.swapped b hB r
  have far : ∀ c, DkB (.agg #[p0, p1, v]) c → c ≠ nn := by
    rintro c ⟨_, _, _, e, hc⟩
    cases e
    rcases hc with hc | hc | hc
    · exact h.far c ⟨_, _, _, rfl, Or.inl hc⟩
    · exact h.far c ⟨_, _, _, rfl, Or.inr (Or.inl hc)⟩
    · have := (r.lt hc).1; omega
  have k := kept_set w2 nn 2 v
  have := h.lb
  have := h.ln
  have h2 := h.below b
  exact ⟨below_set h2.bel nn 2 _ (by omega), h2.ra.kept k (by omega), h2.rr.kept k (by omega), by simpa using h2.rn.set 2 v, o2.kept k (fun c hc => far c hc), h.lb, h.ln, far⟩

/-- A write is appended to the own disk's. -/
theorem ISt.app {w : World} {a0 a1 a2 : Value} {B nn : Nat} {p0 p1 p2 v : Value} {E : Dk} {wk wa w2 : World} {x : Wt} (h : ISt w a0 a1 a2 B nn p0 p1 p2 E wk) (b : Below wk.heap.size wk wa) (k : Kept (fun b => rb p2 = some b) wa w2)
    (r : RowO w2 B 148 4 v (E.pe.length + 1) (wCells E.pe ++ x.cells)) (hi : rb v = none ∨ rb v = rb p2 ∨ (rb v = some wa.heap.size ∧ wa.heap.size < w2.heap.size)) :
    ISt w a0 a1 a2 B nn p0 p1 v ⟨E.sec, E.ep, E.pe ++ [x]⟩ (w2.setCell ⟨nn, 2, none⟩ v) := by
  have ha := h.below b
  have o2 := h.o.more1 b k r hi
  have hn := h.rn.lt
  have hsz := b.size
  have far : ∀ c, DkB (.agg #[p0, p1, v]) c → c ≠ nn := by
    rintro c ⟨_, _, _, e, hc⟩
    cases e
    rcases hc with hc | hc | hc
    · exact h.far c ⟨_, _, _, rfl, Or.inl hc⟩
    · exact h.far c ⟨_, _, _, rfl, Or.inr (Or.inl hc)⟩
    · rcases hi with e | e | e
      · rw [e] at hc; cases hc
      · rw [e] at hc; exact h.far c ⟨_, _, _, rfl, Or.inr (Or.inr hc)⟩
      · rw [e.1] at hc; cases hc; omega
  have p2B : ∀ c, rb p2 = some c → B ≤ c := fun c hc => (h.o.lt ⟨_, _, _, rfl, Or.inr (Or.inr hc)⟩).1
  have p2n : ¬ rb p2 = some nn := fun e => h.far nn ⟨_, _, _, rfl, Or.inr (Or.inr e)⟩ rfl
  have k2 := kept_set w2 nn 2 v
  have := h.lb
  have := h.ln
  have n2 := ha.rn.kept k p2n
  refine ⟨below_set (ha.bel.trans (k.below ha.bel.size (fun c hc e => by have := p2B c e; omega))) nn 2 _ (by omega), (ha.ra.kept k (fun e => by have := p2B _ e; omega)).kept k2 (by omega), (ha.rr.kept k (fun e => by have := p2B _ e; omega)).kept k2 (by omega), by simpa using n2.set 2 v, o2.kept k2 (fun c hc => far c hc), h.lb, h.ln, far⟩

end Go.Proofs.YtaopkchkhdbfnaaGreatDoor.Mem

namespace Go.Proofs.YtaopkchkhdbfnaaGreatDoor.Mem
open Go.RowKit
set_option linter.unusedVariables false

def rep3 (x : Int) (k : Nat) : List Value := List.replicate k (.int .i64 x) ++ List.replicate (3 - k) (.int .i64 0)

set_option maxRecDepth 100000 in
set_option maxHeartbeats 2000000 in
theorem mul13 (w : World) : Calls Tryz.prog 169 #[.int .u64 1, .int .u64 3] w fun e w' => e = .returned (.tuple #[.int .u64 0, .int .u64 3]) ∧ w' = w := by
  have hb1 : bits BinOp.and IntKind.u64 1 4294967295 = 1 := by decide +kernel
  have hb3 : bits BinOp.and IntKind.u64 3 4294967295 = 3 := by decide +kernel
  have hb0 : bits BinOp.and IntKind.u64 0 4294967295 = 0 := by decide +kernel
  have hu0 : IntKind.u64.wrap 0 = 0 := by decide +kernel
  have hu3 : IntKind.u64.wrap 3 = 3 := by decide +kernel
  go_enter Tryz.func169, Tryz.ntmps169
  go_wp2
  go_ret2
  exact ⟨rfl, rfl⟩

/-- One cell is copied into an own row. -/
theorem copy_one {w : World} (g off dLen dCap : Nat) (ad : Addr) (sLen sCap : Nat) (cur : List Value) (v : Value) (hg : w.heap[g]? = some (.cells cur.toArray 3 (0, 0))) (hn : 1 = Nat.min sLen dLen) (hc : w.cell? ad = some v) (hfit : off + 1 ≤ cur.length) (h1 : v.oneCell' = true) :
    ∃ w', (∀ ty, (Builtin.copy_ #[23, 23] ty #[.slice (some ⟨g, off, none⟩) dLen dCap, .slice (some ad) sLen sCap]).run Tryz.prog w = .ok (.int .i64 1) w') ∧ w'.heap[g]? = some (.cells (cur.take off ++ [v] ++ cur.drop (off + 1)).toArray 3 (0, 0)) ∧ Kept (fun b => b = g) w w' := by
  refine ⟨_, fun ty => run_copy_row (P := Tryz.prog) w 23 23 ty 3 g off dLen dCap ad sLen sCap cur.toArray 3 [v] Tryz.underlying23 (by kernel_rfl) hg (by simpa using hn) (fun j u hj => by
    rcases j with _ | j
    · cases hj
      rw [show ad.add 0 = ad from by cases ad; simp [Addr.add]]
      exact hc
    · simp at hj) (by simpa using hfit) (by intro u hu; simp at hu; subst hu; exact h1), ?_, ?_⟩
  · rw [setRow_heap w g cur.toArray _ 3 (0, 0) hg]
    simp
  · exact ⟨rfl, rfl, rfl, by simp [World.setRow], fun k _ hk => setRow_other w g k _ hk⟩

set_option maxRecDepth 100000 in
set_option maxHeartbeats 2000000 in
theorem repeat3 (w : World) (b off c : Nat) (x : Int) (hc : w.cell? ⟨b, off, none⟩ = some (.int .i64 x)) (hb : b < w.heap.size) :
    Calls Tryz.prog 118 #[.slice (some ⟨b, off, none⟩) 1 c, .int .i64 3] w fun e w' => ∃ v', e = .returned v' ∧ RowO w' w.heap.size 3 1 v' 3 [.int .i64 x, .int .i64 x, .int .i64 x] ∧ Below w.heap.size w w' ∧ w.heap.size < w'.heap.size ∧ rb v' = some w.heap.size := by
  obtain ⟨wm, hwm⟩ : ∃ wm, w.alloc (.cells (madeCells (Value.int .i64 0).cells (3 * 1)) 3) = wm := ⟨_, rfl⟩
  have hmk : (Instr.makeSlice 23 (.int .i64 3) (.int .i64 3)).run Tryz.prog w = .ok (.slice (some ⟨w.heap.size, 0, none⟩) 3 3) wm := by
    rw [← hwm]
    exact make_rows 23 3 (.int .i64 0) 1 8 Tryz.underlying23 info3' .i64 .i64 3 (by decide) (by decide) w
  have Bm : Below w.heap.size w wm := by rw [← hwm]; exact (Below.refl _ _).alloc (Nat.le_refl _) _
  have hgm : wm.heap[w.heap.size]? = some (.cells (rep3 x 0).toArray 3 (0, 0)) := by
    rw [← hwm, heap_alloc_new]
    have : madeCells (Value.int .i64 0).cells (3 * 1) = (rep3 x 0).toArray := by
      apply Array.ext
      · simp [madeCells, rep3]
      · intro i h1 h2
        have : i = 0 ∨ i = 1 ∨ i = 2 := by simp [madeCells] at h1; omega
        rcases this with rfl | rfl | rfl <;> simp [madeCells, rep3, Value.cells]
    rw [this]
  have hcm := (Bm.cell (p := ⟨b, off, none⟩) hb).trans hc
  obtain ⟨w1, hr1, hg1, k1⟩ := copy_one w.heap.size 0 3 3 ⟨b, off, none⟩ 1 c (rep3 x 0) (.int .i64 x) hgm rfl hcm (by simp [rep3]) rfl
  replace hg1 : w1.heap[w.heap.size]? = some (.cells (rep3 x 1).toArray 3 (0, 0)) := hg1
  have HG1 := hid hg1
  have HB1 := hid (Bm.trans (k1.below Bm.size (fun g hg e => by omega)))
  clear hwm Bm hgm hc hcm k1 hg1
  go_enter Tryz.func118, Tryz.ntmps118
  go_wp2_with fail
  refine (mul13 w).mono ?_
  rintro e w0 ⟨rfl, hw0⟩
  rw [hw0]
  clear hw0
  go_wp2
  clear hr1 hmk
  go_loopw [8] (fun i wr => ∃ k : Nat, 1 ≤ k ∧ k ≤ 3 ∧ i = .int .i64 (k : Int) ∧ Hid (wr.heap[w.heap.size]? = some (.cells (rep3 x k).toArray 3 (0, 0))) ∧ Hid (Below w.heap.size w wr)) (fun i _ => 3 - (intOf i).toNat)
  case atStart => exact ⟨1, Nat.le_refl _, by omega, rfl, HG1.out, HB1.out⟩
  case round =>
    obtain ⟨k, hk1, hk3, rfl, HG, HB⟩ := hrel
    have hkk : k = 1 ∨ k = 2 ∨ k = 3 := by omega
    rcases hkk with rfl | rfl | rfl
    · obtain ⟨w2, hr2, hg2, k2⟩ := copy_one (w := wr.drew) w.heap.size 1 2 2 ⟨w.heap.size, 0, none⟩ 1 3 (rep3 x 1) (.int .i64 x) HG.out rfl (cell_of_row wr w.heap.size 0 _ _ (0, 0) HG.out) (by simp [rep3]) rfl
      replace hg2 : w2.heap[w.heap.size]? = some (.cells (rep3 x 2).toArray 3 (0, 0)) := hg2
      have HG2 := hid hg2
      have HB2 := hid (HB.out.drew.trans (k2.below HB.out.size (fun g hg e => by omega)))
      clear hg2 k2
      go_wp2
      go_region
      go_wp2
      exact ⟨⟨2, by omega, by omega, by go_num, HG2.out, HB2.out⟩, by simp [intOf]⟩
    · obtain ⟨w2, hr2, hg2, k2⟩ := copy_one (w := wr.drew) w.heap.size 2 1 1 ⟨w.heap.size, 0, none⟩ 2 3 (rep3 x 2) (.int .i64 x) HG.out rfl (cell_of_row wr w.heap.size 0 _ _ (0, 0) HG.out) (by simp [rep3]) rfl
      replace hg2 : w2.heap[w.heap.size]? = some (.cells (rep3 x 3).toArray 3 (0, 0)) := hg2
      have HG2 := hid hg2
      have HB2 := hid (HB.out.drew.trans (k2.below HB.out.size (fun g hg e => by omega)))
      clear hg2 k2
      go_wp2
      go_region
      go_wp2
      exact ⟨⟨3, by omega, by omega, by go_num, HG2.out, HB2.out⟩, by simp [intOf]⟩
    · go_wp2
      go_ret
      have hlt : w.heap.size < wr.heap.size := (Array.getElem?_eq_some_iff.1 HG.out).1
      exact ⟨_, rfl, Or.inr ⟨⟨rfl, Or.inr ⟨w.heap.size, 3, _, rfl, Nat.le_refl _, HG.out, Nat.le_refl _, by unfold maxLen; omega, rfl, rfl⟩⟩, _, 2, rfl⟩, HB.out, hlt, rfl⟩

end Go.Proofs.YtaopkchkhdbfnaaGreatDoor.Mem

namespace Go.Proofs.YtaopkchkhdbfnaaGreatDoor.Mem
open Go.RowKit
set_option linter.unusedVariables false

/-- The end: the disk is laid into the result's block. -/
theorem new_end {w wz : World} {gs m : Nat} {a : Option Addr} {c : Nat} (hb : Below w.heap.size w wz) (R : Row wz w.heap.size [.slice none 0 0, .slice none 0 0, .slice none 0 0])
    (s : RowO wz (w.heap.size + 1) 9 1 (.slice (some ⟨gs, 0, none⟩) m m) (Dk.fresh m).sec.length (sCells (Dk.fresh m).sec)) (r : RowO wz (w.heap.size + 1) 3 1 (.slice a 3 c) 3 [.int .i64 1, .int .i64 1, .int .i64 1]) (hne : rb (.slice a 3 c) ≠ some gs) :
    DkW (((wz.setCell ⟨w.heap.size, 0, none⟩ (.slice (some ⟨gs, 0, none⟩) m m)).setCell ⟨w.heap.size, 1, none⟩ (.slice a 3 c)).setCell ⟨w.heap.size, 2, none⟩ (.slice none 0 0)) w.heap.size (.agg #[.slice (some ⟨gs, 0, none⟩) m m, .slice a 3 c, .slice none 0 0]) (Dk.fresh m) ∧
    Below w.heap.size w (((wz.setCell ⟨w.heap.size, 0, none⟩ (.slice (some ⟨gs, 0, none⟩) m m)).setCell ⟨w.heap.size, 1, none⟩ (.slice a 3 c)).setCell ⟨w.heap.size, 2, none⟩ (.slice none 0 0)) ∧
    Row (((wz.setCell ⟨w.heap.size, 0, none⟩ (.slice (some ⟨gs, 0, none⟩) m m)).setCell ⟨w.heap.size, 1, none⟩ (.slice a 3 c)).setCell ⟨w.heap.size, 2, none⟩ (.slice none 0 0)) w.heap.size [.slice (some ⟨gs, 0, none⟩) m m, .slice a 3 c, .slice none 0 0] := by
  have K3 := kept3 wz w.heap.size (.slice (some ⟨gs, 0, none⟩) m m) (.slice a 3 c) (.slice none 0 0)
  have s1 := s.kept K3 (fun g hg e => by have := (s.lt hg).1; omega)
  have s2 := r.kept K3 (fun g hg e => by have := (r.lt hg).1; omega)
  have O : DkO (((wz.setCell ⟨w.heap.size, 0, none⟩ (.slice (some ⟨gs, 0, none⟩) m m)).setCell ⟨w.heap.size, 1, none⟩ (.slice a 3 c)).setCell ⟨w.heap.size, 2, none⟩ (.slice none 0 0)) w.heap.size (.agg #[.slice (some ⟨gs, 0, none⟩) m m, .slice a 3 c, .slice none 0 0]) (Dk.fresh m) := ⟨_, _, _, rfl, s1.mono (by omega), s2.mono (by omega), Or.inl ⟨none, rfl, rfl, rfl⟩, fun b hb => ⟨fun h2 => by
    have h : b = gs := by
      unfold rb at hb
      split at hb
      · rename_i heq
        cases heq
        cases hb
        rfl
      · cases hb
    rw [h] at h2
    exact hne h2, fun h3 => by simp [rb] at h3⟩, fun b hb h3 => by simp [rb] at h3⟩
  exact ⟨O.w, below_set (below_set (below_set hb w.heap.size 0 _ (Nat.le_refl _)) w.heap.size 1 _ (Nat.le_refl _)) w.heap.size 2 _ (Nat.le_refl _), ((R.set 0 _).set 1 _).set 2 _⟩

set_option maxRecDepth 100000 in
set_option maxHeartbeats 2000000 in
theorem implNew (w : World) (n : Int) :
    Calls Tryz.prog 52 #[.int .i64 n] w fun e w' => ∃ v', e = .returned (.tuple #[v', .bool (Dk.newA n).2]) ∧ DkW w' w.heap.size v' (Dk.newA n).1 ∧ Below w.heap.size w w' := by
  have hp : Dk.newA n = if 1 ≤ n ∧ n ≤ 40 then (Dk.fresh n.toNat, true) else (Dk.nil, false) := rfl
  generalize Dk.newA n = P at *
  obtain ⟨P1, P2⟩ := P
  have HP := hid hp
  clear hp
  simp only []
  obtain ⟨wb, hwb, ez, R0, B0⟩ := one_new w [.slice none 0 0, .slice none 0 0, .slice none 0 0] 36
  have HR := hid R0
  have HB := hid B0
  have EZ := hid ez
  have m0 := R0.c 0 rfl
  have m1 := R0.c 1 rfl
  have m2 := R0.c 2 rfl
  have f0 := R0.f 0
  have f1 := R0.f 1
  have f2 := R0.f 2
  clear R0 B0 ez
  have E0 := hid (((HR.out.set 0 (.slice none 0 0)).set 1 (.slice none 0 0)).set 2 (.slice none 0 0))
  have EB := hid (below_set (below_set (below_set HB.out w.heap.size 0 (.slice none 0 0) (Nat.le_refl _)) w.heap.size 1 (.slice none 0 0) (Nat.le_refl _)) w.heap.size 2 (.slice none 0 0) (Nat.le_refl _))
  go_enter Tryz.func52, Tryz.ntmps52
  by_cases g1 : n < 1
  · have HP1 := hid (HP.out.trans (if_neg (fun q => by omega)))
    go_wp2
    refine bodyPost_ret (results_row2 rfl _ _ w.heap.size [.slice none 0 0, .slice none 0 0, .slice none 0 0] _ rfl E0.out Tryz.underlying36 rfl (by kernel_rfl)) rfl ?_
    cases HP1.out
    exact ⟨_, rfl, dkW_nil _ _, EB.out⟩
  by_cases g2 : 40 < n
  · have HP1 := hid (HP.out.trans (if_neg (fun q => by omega)))
    go_wp2
    refine bodyPost_ret (results_row2 rfl _ _ w.heap.size [.slice none 0 0, .slice none 0 0, .slice none 0 0] _ rfl E0.out Tryz.underlying36 rfl (by kernel_rfl)) rfl ?_
    cases HP1.out
    exact ⟨_, rfl, dkW_nil _ _, EB.out⟩
  obtain ⟨m, rfl⟩ : ∃ m : Nat, n = (m : Int) := Int.eq_ofNat_of_zero_le (by omega)
  have HP1 := hid (HP.out.trans (if_pos ⟨by omega, by omega⟩))
  rw [Int.toNat_natCast] at HP1
  have hm40 : m ≤ 40 := by omega
  have hmk : ∀ wz : World, (Instr.makeSlice 22 (.int .i64 (m : Int)) (.int .i64 (m : Int))).run Tryz.prog wz = .ok (.slice (some ⟨wz.heap.size, 0, none⟩) m m) (wz.alloc (.cells (madeCells #[.string ByteArray.empty] m) 9)) := fun wz => by
    have := make_rows (P := Tryz.prog) 22 9 (.string ByteArray.empty) 1 16 Tryz.underlying22 info9' .i64 .i64 m (by omega) (by omega) wz
    rw [Nat.mul_one] at this
    exact this
  generalize hMC : madeCells #[.string ByteArray.empty] m = MC at hmk
  have HMC := hid hMC
  clear hMC E0 EB
  have c1 : (wb.alloc (.cells #[.int .i64 1] 3)).cell? ⟨wb.heap.size, 0, none⟩ = some (.int .i64 1) := (Row.new wb [.int .i64 1] 3).c 0 rfl
  have c2 : ∀ o, ((wb.alloc (.cells #[.int .i64 1] 3)).alloc o).cell? ⟨wb.heap.size, 0, none⟩ = some (.int .i64 1) := fun o => ((Row.new wb [.int .i64 1] 3).alloc o).c 0 rfl
  have c3 : ∀ o, ((wb.alloc o).alloc (.cells #[.int .i64 1] 3)).cell? ⟨wb.heap.size + 1, 0, none⟩ = some (.int .i64 1) := fun o => by
    have := (Row.new (wb.alloc o) [.int .i64 1] 3).c 0 rfl
    rw [show (wb.alloc o).heap.size = wb.heap.size + 1 from by simp] at this
    exact this
  have H1 := hid (repeat3 ((wb.alloc (.cells MC 9)).alloc (.cells #[.int .i64 1] 3)).drew (wb.heap.size + 1) 0 1 1 (c3 _) (by show _ < ((wb.alloc _).alloc _).heap.size; simp))
  have H2 := hid (repeat3 ((wb.alloc (.cells #[.int .i64 1] 3)).alloc (.cells MC 9)).drew wb.heap.size 0 1 1 (c2 _) (by show _ < ((wb.alloc _).alloc _).heap.size; simp; omega))
  have H3 := hid (repeat3 (wb.alloc (.cells #[.int .i64 1] 3)).drew wb.heap.size 0 1 1 c1 (by show _ < (wb.alloc _).heap.size; simp))
  have F1 : ∀ (o p : Obj) (w5 : World), Below (((wb.alloc o).alloc p).drew).heap.size (((wb.alloc o).alloc p).drew) w5 → Below wb.heap.size wb w5 := fun o p w5 b => ((((Below.refl wb.heap.size wb).alloc (Nat.le_refl _) o).alloc (by simp) p).drew).trans (b.mono (by show _ ≤ ((wb.alloc _).alloc _).heap.size; simp; omega))
  have F3 : ∀ (o : Obj) (w5 : World), Below ((wb.alloc o).drew).heap.size ((wb.alloc o).drew) w5 → Below wb.heap.size wb w5 := fun o w5 b => (((Below.refl wb.heap.size wb).alloc (Nat.le_refl _) o).drew).trans (b.mono (by show _ ≤ (wb.alloc _).heap.size; simp))
  have G1 := hid F1
  have G3 := hid F3
  clear c1 c2 c3 HP F1 F3 m0 m1 m2 f0 f1 f2
  go_wp2
  go_region_with (go_at_call 118; first
    | (with_reducible refine H1.out.mono ?_; rintro e w5 ⟨v5, rfl, r5, b5, l5, e5⟩; have BB := hid (G1.out _ _ _ b5); have HR5 := hid (HR.out.below BB.out HR.out.lt); have m0 := HR5.out.c 0 rfl; have m1 := HR5.out.c 1 rfl; have m2 := HR5.out.c 2 rfl; have f0 := HR5.out.f 0; have f1 := HR5.out.f 1; have f2 := HR5.out.f 2; obtain ⟨a5, c5, ev5, _⟩ := r5.wr; subst ev5; have R5 := hid r5; have B5 := hid b5; have L5 := hid l5; have E5 := hid e5; clear r5 b5 l5 e5)
    | (with_reducible refine H2.out.mono ?_; rintro e w5 ⟨v5, rfl, r5, b5, l5, e5⟩; have BB := hid (G1.out _ _ _ b5); have HR5 := hid (HR.out.below BB.out HR.out.lt); have m0 := HR5.out.c 0 rfl; have m1 := HR5.out.c 1 rfl; have m2 := HR5.out.c 2 rfl; have f0 := HR5.out.f 0; have f1 := HR5.out.f 1; have f2 := HR5.out.f 2; obtain ⟨a5, c5, ev5, _⟩ := r5.wr; subst ev5; have R5 := hid r5; have B5 := hid b5; have L5 := hid l5; have E5 := hid e5; clear r5 b5 l5 e5)
    | (with_reducible refine H3.out.mono ?_; rintro e w5 ⟨v5, rfl, r5, b5, l5, e5⟩; have BB := hid (G3.out _ _ b5); have HR5 := hid (fun o => ((HR.out.below BB.out HR.out.lt).alloc o)); have m0 : ∀ o, (w5.alloc o).cell? ⟨w.heap.size, 0, none⟩ = some (.slice none 0 0) := fun o => (HR5.out o).c 0 rfl; have m1 : ∀ o, (w5.alloc o).cell? ⟨w.heap.size, 1, none⟩ = some (.slice none 0 0) := fun o => (HR5.out o).c 1 rfl; have m2 : ∀ o, (w5.alloc o).cell? ⟨w.heap.size, 2, none⟩ = some (.slice none 0 0) := fun o => (HR5.out o).c 2 rfl; have f0 : ∀ o, (w5.alloc o).frozen? ⟨w.heap.size, 0, none⟩ = false := fun o => (HR5.out o).f 0; have f1 : ∀ o, (w5.alloc o).frozen? ⟨w.heap.size, 1, none⟩ = false := fun o => (HR5.out o).f 1; have f2 : ∀ o, (w5.alloc o).frozen? ⟨w.heap.size, 2, none⟩ = false := fun o => (HR5.out o).f 2; obtain ⟨a5, c5, ev5, _⟩ := r5.wr; subst ev5; have R5 := hid r5; have B5 := hid b5; have L5 := hid l5; have E5 := hid e5; clear r5 b5 l5 e5))
  · have s1 := row_made wb m hm40
    rw [HMC.out] at s1
    have bs := (((Below.refl (wb.alloc (.cells MC 9)).heap.size (wb.alloc (.cells MC 9))).alloc (Nat.le_refl _) (.cells #[.int .i64 1] 3)).drew).trans (B5.out.mono (by show _ ≤ ((wb.alloc _).alloc _).heap.size; simp))
    have E := hid (new_end (HB.out.trans (BB.out.mono HB.out.size)) HR5.out ((s1.below bs).mono (by rw [EZ.out]; exact Nat.le_refl _)) (R5.out.mono (by show _ ≤ ((wb.alloc _).alloc _).heap.size; simp; have := EZ.out; omega)) (by rw [E5.out]; intro e; injection e with e; revert e; show ((wb.alloc _).alloc _).heap.size ≠ _; simp; omega))
    clear s1 bs
    go_wp2
    refine bodyPost_ret (results_row2 rfl _ _ w.heap.size [.slice (some ⟨wb.heap.size, 0, none⟩) m m, .slice a5 3 c5, .slice none 0 0] _ rfl E.out.2.2 Tryz.underlying36 rfl (by kernel_rfl)) rfl ?_
    cases HP1.out
    exact ⟨_, rfl, E.out.1, E.out.2.1⟩
  · have s1 := row_made (wb.alloc (.cells #[.int .i64 1] 3)) m hm40
    rw [HMC.out] at s1
    have bs := ((Below.refl ((wb.alloc (.cells #[.int .i64 1] 3)).alloc (.cells MC 9)).heap.size ((wb.alloc (.cells #[.int .i64 1] 3)).alloc (.cells MC 9))).drew).trans B5.out
    have hsz : (wb.alloc (.cells #[.int .i64 1] 3)).heap.size = wb.heap.size + 1 := by simp
    rw [hsz] at s1
    have E := hid (new_end (HB.out.trans (BB.out.mono HB.out.size)) HR5.out ((s1.below bs).mono (by rw [EZ.out]; omega)) (R5.out.mono (by show _ ≤ ((wb.alloc _).alloc _).heap.size; simp; have := EZ.out; omega)) (by rw [E5.out]; intro e; injection e with e; revert e; show ((wb.alloc _).alloc _).heap.size ≠ _; simp))
    clear s1 bs hsz
    go_wp2
    refine bodyPost_ret (results_row2 rfl _ _ w.heap.size [.slice (some ⟨wb.heap.size + 1, 0, none⟩) m m, .slice a5 3 c5, .slice none 0 0] _ rfl E.out.2.2 Tryz.underlying36 rfl (by kernel_rfl)) rfl ?_
    cases HP1.out
    exact ⟨_, rfl, E.out.1, E.out.2.1⟩
  · have s1 := row_made w5 m hm40
    rw [HMC.out] at s1
    have ba := (Below.refl w5.heap.size w5).alloc (Nat.le_refl _) (.cells MC 9)
    have hw5 := BB.out.size
    have l5 := L5.out
    have E := hid (new_end ((HB.out.trans (BB.out.mono HB.out.size)).trans (ba.mono (Nat.le_trans HB.out.size BB.out.size))) (HR5.out _) (s1.mono (by rw [← EZ.out]; exact hw5)) ((R5.out.below ba).mono (by show _ ≤ (wb.alloc _).heap.size; simp; have := EZ.out; omega)) (by rw [E5.out]; intro e; injection e with e; exact absurd e (Nat.ne_of_lt l5)))
    clear s1 ba hw5 l5
    go_wp2
    refine bodyPost_ret (results_row2 rfl _ _ w.heap.size [.slice (some ⟨w5.heap.size, 0, none⟩) m m, .slice a5 3 c5, .slice none 0 0] _ rfl E.out.2.2 Tryz.underlying36 rfl (by kernel_rfl)) rfl ?_
    cases HP1.out
    exact ⟨_, rfl, E.out.1, E.out.2.1⟩

end Go.Proofs.YtaopkchkhdbfnaaGreatDoor.Mem

namespace Go.Proofs.YtaopkchkhdbfnaaGreatDoor.Pl
open Go.RowKit Go.Proofs.YtaopkchkhdbfnaaGreatDoor.Mem Go.Proofs.YtaopkchkhdbfnaaGreatDoor.Sec Go.Proofs.YtaopkchkhdbfnaaGreatDoor.Rd Go.Proofs.YtaopkchkhdbfnaaGreatDoor.Fm
set_option linter.unusedVariables false

/-- One operation that answers a value, in a plain region. -/
theorem nw_value {P : Program} {ops : Array Oper} {rest : List Oper} {op : Oper} {a : Act} {w : World} {Q : Exit → Act → World → Prop} (hw : Region.wanted op (yielded ops a.tmps) = true) {v : Value} (hr : (execOp a.eval op).run P w = .ok (.value v) w)
    (h : wpList P ops Q rest (a.put op.dst v) w) : wpList P ops Q (op :: rest) a w :=
  wpList_step fun K hK => by
    rw [if_pos hw]
    unfold Oper.wp
    rw [hr, Oper.upon_value]
    exact hK _ _ h

set_option maxRecDepth 100000 in
set_option maxHeartbeats 4000000 in
theorem iFallen (w : World) (i : Int) : Calls Tryz.prog 54 #[.int .i64 i] w fun e w' => e = .returned (.agg #[.int .i64 i, .int .i64 0, .bool false, .bool false, .bool false, .int .i64 0, .int .i64 0, .int .i64 0, .int .i64 0, .string ⟨#[]⟩, .int .i64 0, .int .i64 0, .int .i64 0, .string ⟨#[]⟩, .slice none 0 0, .int .i64 0]) ∧ Below w.heap.size w w' := by
  obtain ⟨wb, hwb, ez, R0, B0⟩ := one_new w [.int .i64 0, .int .i64 0, .bool false, .bool false, .bool false, .int .i64 0, .int .i64 0, .int .i64 0, .int .i64 0, .string ⟨#[]⟩, .int .i64 0, .int .i64 0, .int .i64 0, .string ⟨#[]⟩, .slice none 0 0, .int .i64 0] 63
  have HR := hid R0
  have HB := hid B0
  clear R0 B0
  go_enter Tryz.func54, Tryz.ntmps54
  go_upto_region 1 with fail
  try simp only [hwb]
  clear hwb
  refine wp_region_list ?_
  refine nw_value rfl (v := .int .i64 i) rfl ?_
  refine nw_value rfl (v := .agg #[.int .i64 i, .int .i64 0, .bool false, .bool false, .bool false, .int .i64 0, .int .i64 0, .int .i64 0, .int .i64 0, .string ⟨#[]⟩, .int .i64 0, .int .i64 0, .int .i64 0, .string ⟨#[]⟩, .slice none 0 0, .int .i64 0]) (by kernel_rfl) ?_
  refine wpList_store_row rfl 63 _ _ rfl w.heap.size rfl [.int .i64 0, .int .i64 0, .bool false, .bool false, .bool false, .int .i64 0, .int .i64 0, .int .i64 0, .int .i64 0, .string ⟨#[]⟩, .int .i64 0, .int .i64 0, .int .i64 0, .string ⟨#[]⟩, .slice none 0 0, .int .i64 0] [.int .i64 i, .int .i64 0, .bool false, .bool false, .bool false, .int .i64 0, .int .i64 0, .int .i64 0, .int .i64 0, .string ⟨#[]⟩, .int .i64 0, .int .i64 0, .int .i64 0, .string ⟨#[]⟩, .slice none 0 0, .int .i64 0] rfl HR.out rfl (by kernel_rfl) rfl ?_
  have HR8 := hid (puts_row HR.out 0 [.int .i64 i, .int .i64 0, .bool false, .bool false, .bool false, .int .i64 0, .int .i64 0, .int .i64 0, .int .i64 0, .string ⟨#[]⟩, .int .i64 0, .int .i64 0, .int .i64 0, .string ⟨#[]⟩, .slice none 0 0, .int .i64 0])
  have HB8 := hid (puts_below HB.out (Nat.le_refl w.heap.size) 0 [.int .i64 i, .int .i64 0, .bool false, .bool false, .bool false, .int .i64 0, .int .i64 0, .int .i64 0, .int .i64 0, .string ⟨#[]⟩, .int .i64 0, .int .i64 0, .int .i64 0, .string ⟨#[]⟩, .slice none 0 0, .int .i64 0])
  generalize puts wb w.heap.size 0 [.int .i64 i, .int .i64 0, .bool false, .bool false, .bool false, .int .i64 0, .int .i64 0, .int .i64 0, .int .i64 0, .string ⟨#[]⟩, .int .i64 0, .int .i64 0, .int .i64 0, .string ⟨#[]⟩, .slice none 0 0, .int .i64 0] = w8 at *
  clear HR HB
  refine wpList_nil ?_
  go_wp2
  refine bodyPost_ret (results_row rfl _ _ w.heap.size [.int .i64 i, .int .i64 0, .bool false, .bool false, .bool false, .int .i64 0, .int .i64 0, .int .i64 0, .int .i64 0, .string ⟨#[]⟩, .int .i64 0, .int .i64 0, .int .i64 0, .string ⟨#[]⟩, .slice none 0 0, .int .i64 0] _ rfl HR8.out Tryz.underlying63 rfl (by kernel_rfl)) rfl ?_
  exact ⟨rfl, HB8.out⟩

theorem enters_fallen (a : Act) (o : Oper) (w : World) (xs : Array Operand) (ts : Array TypeId) (ho : o.op = .call { callee := .value (.func 54), args := xs, argTypes := ts }) (u : Value) (hv : xs.map a.eval = #[u]) :
    (execOp a.eval o).run Tryz.prog w = .ok (.enter 54 #[u]) w := by
  unfold execOp
  simp [ho, hv, go_sem, resolve, invoke]

/-- A fallen host, as one step of a region that draws its order. -/
theorem step_fallen {ops : Array Oper} {o : Oper} {a : Act} {w : World} {K : Act → World → Prop} {Q : Exit → Act → World → Prop} {E : Prop} (hgd : o.guard = none) (s : Operand) (ts : Array TypeId)
    (ho : o.op = .call { callee := .value (.func 54), args := #[s], argTypes := ts }) (i : Int) (hs : a.eval s = .int .i64 i)
    (hK : ∀ w', Below w.heap.size w w' → K (a.put o.dst (.agg #[.int .i64 i, .int .i64 0, .bool false, .bool false, .bool false, .int .i64 0, .int .i64 0, .int .i64 0, .int .i64 0, .string ⟨#[]⟩, .int .i64 0, .int .i64 0, .int .i64 0, .string ⟨#[]⟩, .slice none 0 0, .int .i64 0])) w') :
    if Region.wanted o (yielded ops a.tmps) = true then Oper.wp Tryz.prog o a w K Q else E := by
  have hw : Region.wanted o (yielded ops a.tmps) = true := by simp [Region.wanted, hgd]
  have hm : (#[s] : Array Operand).map a.eval = #[.int .i64 i] := by simp only [List.map_toArray, List.map_cons, List.map_nil, hs]
  rw [if_pos hw]
  unfold Oper.wp
  rw [enters_fallen a o w #[s] ts ho _ hm, Oper.upon_enter]
  refine (iFallen w i).mono ?_
  rintro e w' ⟨rfl, hb⟩
  exact hK w' hb

set_option maxRecDepth 100000 in
set_option maxHeartbeats 4000000 in
theorem iNewWorld (w : World) (T : Sums w) (K : Sector.Kinds w) (hg : 0 < w.heap.size) : Calls Tryz.prog 14 #[] w fun e w' => ∃ g1 o1 c1 g2 o2 c2 p3 c3 g4 o4 c4 g6 o6 c6, e = .returned (nwV g1 o1 c1 g2 o2 c2 p3 c3 g4 o4 c4 g6 o6 c6) ∧ Nw w' w.heap.size g1 o1 g2 o2 g4 o4 g6 o6 ∧ Below w.heap.size w w' := by
  have HT := hid T
  have HKi := hid K
  have Hg := hid hg
  clear T K hg
  obtain ⟨wb, hwb, ez, R0, B0⟩ := one_new w [.slice none 0 0, .slice none 0 0, .slice none 0 0, .slice none 0 0, .slice none 0 0, .slice none 0 0, .slice none 0 0] 41
  have HR := hid R0
  have HB := hid B0
  clear R0 B0
  go_enter Tryz.func14, Tryz.ntmps14
  go_wp2_with fail
  try simp only [hwb]
  clear hwb
  refine (implNew wb 34).mono ?_
  rintro e w1 ⟨v', rfl, hD, b1⟩
  rw [new34]
  rw [new34] at hD
  obtain ⟨p1, c1, p2, c2, p3, c3, rfl, hs, he, hp, n1, n2⟩ := hD
  obtain ⟨g2, o2, rfl⟩ : ∃ g2 o2, p2 = some ⟨g2, o2, none⟩ := by
    obtain ⟨b, o, e, _⟩ := he 0 (by decide)
    exact ⟨b, o, e⟩
  rw [f34s, f34e, f34p]
  have HE : Hid (IntsW w1 w.heap.size (some ⟨g2, o2, none⟩) [1, 1, 1]) := Wr.mono he (by omega)
  have h2 := Wr.foot_ge he (b := g2) ⟨by decide, o2, rfl⟩
  have h2s := HE.out.sl.lt (b := g2) ⟨by decide, o2, rfl⟩
  have HB1 := hid (HB.out.trans (b1.mono HB.out.size))
  have HR1 := hid (HR.out.below b1 (by omega))
  have hs1 := b1.size
  have hez := hid (show wb.heap.size = w.heap.size + 1 ∧ wb.heap.size ≤ g2 ∧ g2 < w1.heap.size ∧ wb.heap.size ≤ w1.heap.size from ⟨ez, h2, h2s, hs1⟩)
  clear hs he hp n1 n2 b1 HB HR ez h2 h2s hs1
  obtain ⟨wc, hwc, ec, RC, BC⟩ := one_new w1 [.slice p1 34 c1, .slice (some ⟨g2, o2, none⟩) 3 c2, .slice p3 0 c3] 36
  have HC := hid RC
  have HBC := hid BC
  have hec := hid ec
  clear RC BC ec
  go_wp2_with fail
  clear hwc
  have HBc := hid (HB1.out.trans (HBC.out.mono HB1.out.size))
  refine (iFormat wc (HT.out.below HBc.out) (kinds_below HKi.out Hg.out HBc.out) (Nat.lt_of_lt_of_le Hg.out HBc.out.size)).mono ?_
  rintro e w2 ⟨g1, rfl, hg1, hF, bF⟩
  have h1 := Wr.foot_ge hF (b := g1) ⟨by decide, 0, rfl⟩
  have h1s := hF.sl.lt (b := g1) ⟨by decide, 0, rfl⟩
  have HF := hid hF
  have HC2 := hid (HC.out.below bF (by have := hec.out; omega))
  have HB2 := hid (HB1.out.trans ((HBC.out.trans (bF.mono HBC.out.size)).mono HB1.out.size))
  have HBF := hid (HBC.out.trans (bF.mono HBC.out.size))
  have hs2 := bF.size
  have H1 := hid (show wc.heap.size ≤ g1 ∧ g1 < w2.heap.size ∧ wc.heap.size ≤ w2.heap.size from ⟨h1, h1s, hs2⟩)
  clear hF bF h1 h1s hs2
  have m0 := HC2.out.c 0 rfl
  have f0 := HC2.out.f 0
  obtain ⟨w3, hw3, C3, K3⟩ : ∃ w3, w2.setCell ⟨w1.heap.size, 0, none⟩ (.slice (some ⟨g1, 0, none⟩) 34 34) = w3 ∧ Row w3 w1.heap.size [.slice (some ⟨g1, 0, none⟩) 34 34, .slice (some ⟨g2, o2, none⟩) 3 c2, .slice p3 0 c3] ∧ Kept (fun b => b = w1.heap.size) w2 w3 := ⟨_, rfl, HC2.out.set 0 _, kept_set _ _ _ _⟩
  have hz3 : w3.heap.size = w2.heap.size := by rw [← hw3]; simp
  have HK3 := hid K3
  have HC3 := hid C3
  have HZ3 := hid hz3
  clear K3 hz3
  go_upto_region 3 with fail
  try simp only [hw3]
  clear hw3 m0 f0 HC2
  have n0 := C3.c 0 rfl
  have n1 := C3.c 1 rfl
  have n2 := C3.c 2 rfl
  have hmk := make3
  have hgt : w1.heap.size < w3.heap.size := World.block_lt_of_cell? w3 _ n0
  have HF3 : Hid (StrsW w3 w.heap.size (some ⟨g1, 0, none⟩) fmt) := (Wr.move HF.out HK3.out (fun b hb h => by obtain ⟨_, x, e⟩ := hb; cases e; have := H1.out; have := hec.out; omega)).mono (by have := hec.out; have := hez.out; omega)
  have HE3 : Hid (IntsW w3 w.heap.size (some ⟨g2, o2, none⟩) [1, 1, 1]) := Wr.move (Wr.below HE.out HBF.out) HK3.out (fun b hb h => by obtain ⟨_, x, e⟩ := hb; cases e; have := hez.out; omega)
  have HR3 := hid ((HR1.out.below HBF.out (by have := hez.out; omega)).kept HK3.out (show ¬ w.heap.size = w1.heap.size by have := hez.out; omega))
  have HB33 : Hid (Below w.heap.size w w3) := HB2.out.trans (HK3.out.below (by have := HB2.out.size; omega) (fun b hb h => by have := hez.out; omega))
  have HN := hid (show g1 ≠ g2 ∧ g1 < w3.heap.size ∧ g2 < w3.heap.size ∧ w.heap.size < w3.heap.size ∧ w.heap.size < g1 ∧ w.heap.size < g2 by have := H1.out; have := hec.out; have := hez.out; have := HZ3.out; omega)
  clear C3 HF HE HR1 HB1 HB2 HBF HK3 HBC HC HZ3 H1 hec hez
  go_cut [3] (fun pz wr => ∃ (gx g6 : Nat), pz = .pointer (some ⟨gx, 0, none⟩) ∧ gx ≠ g6 ∧ w3.heap.size ≤ gx ∧ w3.heap.size ≤ g6 ∧ Hid (Row wr gx [.slice (some ⟨g1, 0, none⟩) 34 34, .slice (some ⟨g2, o2, none⟩) 3 c2, .slice p3 0 c3, .slice none 0 0, .slice none 0 0, .slice (some ⟨g6, 0, none⟩) 3 3, .slice none 0 0]) ∧ Hid (IntsW wr w3.heap.size (some ⟨g6, 0, none⟩) [0, 0, 0]) ∧ Hid (Below w3.heap.size w3 wr))
  case first =>
    have hA := nw_boxA w3 (.slice (some ⟨g1, 0, none⟩) 34 34) (.slice (some ⟨g2, o2, none⟩) 3 c2) (.slice p3 0 c3)
    have hB := nw_boxB w3 (.slice (some ⟨g1, 0, none⟩) 34 34) (.slice (some ⟨g2, o2, none⟩) 3 c2) (.slice p3 0 c3)
    have HA := hid hA
    have HB := hid hB
    clear hA hB
    go_region
    all_goals (go_wp2_with fail; go_meet)
    all_goals (first | exact ⟨_, _, rfl, by omega, by omega, by omega, HA.out.1, HA.out.2.1, HA.out.2.2⟩ | exact ⟨_, _, rfl, by omega, by omega, by omega, HB.out.1, HB.out.2.1, HB.out.2.2⟩)
  case rest =>
    obtain ⟨gx, g6, rfl, hx6, hx3, h63, HX, H6, HB3⟩ := hcut
    obtain ⟨wx, hwx⟩ : ∃ wx, wx = wc := ⟨_, rfl⟩
    subst hwx
    have HG := hid (show gx < wx.heap.size ∧ w3.heap.size ≤ wx.heap.size ∧ g6 < wx.heap.size from ⟨HX.out.lt, HB3.out.size, H6.out.sl.lt (b := g6) ⟨by decide, 0, rfl⟩⟩)
    have HRx := hid (HR3.out.below HB3.out HN.out.2.2.2.1)
    have HFx : Hid (StrsW wx w.heap.size (some ⟨g1, 0, none⟩) fmt) := Wr.below HF3.out HB3.out
    have HEx : Hid (IntsW wx w.heap.size (some ⟨g2, o2, none⟩) [1, 1, 1]) := Wr.below HE3.out HB3.out
    have HBx := hid (HB33.out.trans (HB3.out.mono HB33.out.size))
    have HMM := hid (show gx ≠ g6 ∧ w3.heap.size ≤ gx ∧ w3.heap.size ≤ g6 from ⟨hx6, hx3, h63⟩)
    clear hmk HF3 HE3 HR3 HB33 HB3 HC3 n0 n1 n2 hgt hx6 hx3 h63
    go_wp2
    go_loopw [14] (fun i wr => ∃ (k : Nat) (v : Value), k ≤ 3 ∧ i = .int .i64 (k : Int) ∧ Hid (Row wr gx [.slice (some ⟨g1, 0, none⟩) 34 34, .slice (some ⟨g2, o2, none⟩) 3 c2, .slice p3 0 c3, v, .slice none 0 0, .slice (some ⟨g6, 0, none⟩) 3 3, .slice none 0 0]) ∧ Hid (RowO wr wx.heap.size 63 16 v k (nhs k)) ∧ Hid (Kept (fun b => b = gx) wx wr)) (fun i _ => 3 - (intOf i).toNat)
    case atStart => exact ⟨0, _, Nat.zero_le _, rfl, HX, Or.inl ⟨none, rfl, rfl, rfl⟩, Kept.refl _ _⟩
    case round =>
      obtain ⟨k, v, hk, rfl, HXk, HV, HK⟩ := hrel
      by_cases hlt : k < 3
      · have hv := HXk.out.c 3 rfl
        have HX2 := hid (nhs_next k hlt)
        go_upto_region 7 with fail
        go_region_law (first
          | (refine step_fallen rfl (.tmp 19) _ rfl (k : Int) rfl ?_; intro wn bn; have q2 := (HXk.out.below (undrew bn) HXk.out.lt).c 3 rfl; have q3 := fun o => ((HXk.out.below (undrew bn) HXk.out.lt).alloc o).c 3 rfl; have HS := hid (row_sl (Row.new wn [.int .i64 (k : Int), .int .i64 0, .bool false, .bool false, .bool false, .int .i64 0, .int .i64 0, .int .i64 0, .int .i64 0, .string ⟨#[]⟩, .int .i64 0, .int .i64 0, .int .i64 0, .string ⟨#[]⟩, .slice none 0 0, .int .i64 0] 63)); have HVa := hid (RowO.below (RowO.below HV.out (undrew bn)) ((Below.refl _ wn).alloc (Nat.le_refl _) (.cells #[.int .i64 (k : Int), .int .i64 0, .bool false, .bool false, .bool false, .int .i64 0, .int .i64 0, .int .i64 0, .int .i64 0, .string ⟨#[]⟩, .int .i64 0, .int .i64 0, .int .i64 0, .string ⟨#[]⟩, .slice none 0 0, .int .i64 0] 63))); have HXa := hid ((HXk.out.below (undrew bn) HXk.out.lt).alloc (.cells #[.int .i64 (k : Int), .int .i64 0, .bool false, .bool false, .bool false, .int .i64 0, .int .i64 0, .int .i64 0, .int .i64 0, .string ⟨#[]⟩, .int .i64 0, .int .i64 0, .int .i64 0, .string ⟨#[]⟩, .slice none 0 0, .int .i64 0] 63)); have HKa := hid ((HK.out.trans (Kept.of_below (S := fun _ => False) (undrew bn))).trans (Kept.of_below (S := fun _ => False) ((Below.refl _ wn).alloc (Nat.le_refl _) (.cells #[.int .i64 (k : Int), .int .i64 0, .bool false, .bool false, .bool false, .int .i64 0, .int .i64 0, .int .i64 0, .int .i64 0, .string ⟨#[]⟩, .int .i64 0, .int .i64 0, .int .i64 0, .string ⟨#[]⟩, .slice none 0 0, .int .i64 0] 63)))))
          | (refine step_app_own 37 63 (.agg Hx.none.cells.toArray) 16 144 Tryz.underlying37 infoHo (by rfl) (by decide) (by decide) (by rfl) (.tmp 18) (.tmp 21) (by rfl) wx.heap.size v k (nhs k) (by rfl) HVa.out ⟨wn.heap.size, 0, none⟩ 1 1 [.int .i64 (k : Int), .int .i64 0, .bool false, .bool false, .bool false, .int .i64 0, .int .i64 0, .int .i64 0, .int .i64 0, .string ⟨#[]⟩, .int .i64 0, .int .i64 0, .int .i64 0, .string ⟨#[]⟩, .slice none 0 0, .int .i64 0] (by rfl) rfl HS.out (host_one k) (by omega) HKa.out.size ?_; intro v1 w5 r5 k5; obtain ⟨a5, c5, rfl, _⟩ := r5.wr; have HV5 := hid r5; have HK5 := hid (HKa.out.trans k5); have HX5 := hid (HXa.out.kept k5 (fun h => by have := (RowO.lt HVa.out h).1; have := HG.out; omega)); have n3 := HX5.out.c 3 rfl; have f3 := HX5.out.f 3; clear r5 k5))
        all_goals
          have HX6 := hid (HX5.out.set 3 (.slice a5 (k + 1) c5))
          have HV6 := hid (RowO.kept HV5.out (kept_set w5 gx 3 (.slice a5 (k + 1) c5)) (fun b h e => by have := (RowO.lt HV5.out h).1; have := HG.out; omega))
          have HK6 := hid ((HK5.out.trans (kept_set w5 gx 3 (.slice a5 (k + 1) c5))).mono (T := fun b => b = gx) (fun b hb h => by
            rcases h with (((h | h) | h) | h) | h
            · exact h
            · exact h.elim
            · exact h.elim
            · have := (RowO.lt HVa.out h).1; omega
            · exact h))
          go_wp2
          refine ⟨⟨k + 1, _, by omega, by go_num, HX6.out, ?_, HK6.out⟩, by simp [intOf]; omega⟩
          rw [← HX2.out]
          exact HV6.out
      · obtain rfl : k = 3 := by omega
        go_upto_region 9 with fail
        obtain ⟨a4, c4, rfl, hW⟩ := HV.out.wr
        obtain ⟨g4, o4, rfl⟩ : ∃ g o, a4 = some ⟨g, o, none⟩ := by
          obtain ⟨b, o, e, _⟩ := hW 0 (by decide)
          exact ⟨b, o, e⟩
        have hR := HRx.out.kept HK.out (show ¬ w.heap.size = gx by have := HMM.out; have := HN.out; omega)
        have HW4 := hid (hW.congr (g := hcell NH) (fun i hi => nhs_all i hi))
        have h4 := Wr.foot_ge hW (b := g4) ⟨by decide, o4, rfl⟩
        have h4s := hW.sl.lt (b := g4) ⟨by decide, o4, rfl⟩
        refine wp_region_list ?_
        refine wpList_load_row rfl 41 _ rfl gx rfl [.slice (some ⟨g1, 0, none⟩) 34 34, .slice (some ⟨g2, o2, none⟩) 3 c2, .slice p3 0 c3, .slice (some ⟨g4, o4, none⟩) 3 c4, .slice none 0 0, .slice (some ⟨g6, 0, none⟩) 3 3, .slice none 0 0] _ HXk.out Tryz.underlying41 rfl (by kernel_rfl) ?_
        refine wpList_store_row rfl 41 _ _ rfl w.heap.size rfl [.slice none 0 0, .slice none 0 0, .slice none 0 0, .slice none 0 0, .slice none 0 0, .slice none 0 0, .slice none 0 0] [.slice (some ⟨g1, 0, none⟩) 34 34, .slice (some ⟨g2, o2, none⟩) 3 c2, .slice p3 0 c3, .slice (some ⟨g4, o4, none⟩) 3 c4, .slice none 0 0, .slice (some ⟨g6, 0, none⟩) 3 3, .slice none 0 0] rfl hR rfl (by kernel_rfl) rfl ?_
        have HR8 := hid (puts_row hR 0 [.slice (some ⟨g1, 0, none⟩) 34 34, .slice (some ⟨g2, o2, none⟩) 3 c2, .slice p3 0 c3, .slice (some ⟨g4, o4, none⟩) 3 c4, .slice none 0 0, .slice (some ⟨g6, 0, none⟩) 3 3, .slice none 0 0])
        have HK8 := hid (puts_kept wr w.heap.size 0 [.slice (some ⟨g1, 0, none⟩) 34 34, .slice (some ⟨g2, o2, none⟩) 3 c2, .slice p3 0 c3, .slice (some ⟨g4, o4, none⟩) 3 c4, .slice none 0 0, .slice (some ⟨g6, 0, none⟩) 3 3, .slice none 0 0])
        generalize puts wr w.heap.size 0 [.slice (some ⟨g1, 0, none⟩) 34 34, .slice (some ⟨g2, o2, none⟩) 3 c2, .slice p3 0 c3, .slice (some ⟨g4, o4, none⟩) 3 c4, .slice none 0 0, .slice (some ⟨g6, 0, none⟩) 3 3, .slice none 0 0] = w8 at *
        have HF8 : Hid (StrsW w8 w.heap.size (some ⟨g1, 0, none⟩) fmt) := Wr.move (Wr.move HFx.out HK.out (fun b hb h => by obtain ⟨_, x, e⟩ := hb; cases e; have := HMM.out; have := HN.out; omega)) HK8.out (fun b hb h => by obtain ⟨_, x, e⟩ := hb; cases e; have := HN.out; omega)
        have HE8 : Hid (IntsW w8 w.heap.size (some ⟨g2, o2, none⟩) [1, 1, 1]) := Wr.move (Wr.move HEx.out HK.out (fun b hb h => by obtain ⟨_, x, e⟩ := hb; cases e; have := HMM.out; have := HN.out; omega)) HK8.out (fun b hb h => by obtain ⟨_, x, e⟩ := hb; cases e; have := HN.out; omega)
        have H48 : Hid (Wr w8 w.heap.size (some ⟨g4, o4, none⟩) (3 * 16) (hcell NH)) := (Wr.move HW4.out HK8.out (fun b hb h => by obtain ⟨_, x, e⟩ := hb; cases e; have := HN.out; have := HG.out; omega)).mono (by have := HN.out; have := HG.out; omega)
        have H68 : Hid (IntsW w8 w.heap.size (some ⟨g6, 0, none⟩) [0, 0, 0]) := (Wr.move (Wr.move H6.out HK.out (fun b hb h => by obtain ⟨_, x, e⟩ := hb; cases e; have := HMM.out; omega)) HK8.out (fun b hb h => by obtain ⟨_, x, e⟩ := hb; cases e; have := HN.out; have := HMM.out; omega)).mono (by have := HN.out; omega)
        have HB8 : Hid (Below w.heap.size w w8) := HBx.out.trans (((HK.out.trans HK8.out).below (by have := HBx.out.size; omega) (fun b hb h => by have := HMM.out; have := HN.out; omega)))
        have HD := hid (show g1 ≠ g2 ∧ g1 ≠ g4 ∧ g1 ≠ g6 ∧ g2 ≠ g4 ∧ g2 ≠ g6 ∧ g4 ≠ g6 by have := HN.out; have := HMM.out; have := HG.out; omega)
        clear hR hW h4 h4s HXk HV HK HW4 HK8 HRx HFx HEx HBx H6 HX
        refine wpList_nil ?_
        go_wp2
        refine bodyPost_ret (results_row rfl _ _ w.heap.size [.slice (some ⟨g1, 0, none⟩) 34 34, .slice (some ⟨g2, o2, none⟩) 3 c2, .slice p3 0 c3, .slice (some ⟨g4, o4, none⟩) 3 c4, .slice none 0 0, .slice (some ⟨g6, 0, none⟩) 3 3, .slice none 0 0] _ rfl HR8.out Tryz.underlying41 rfl (by kernel_rfl)) rfl ?_
        exact ⟨g1, 0, 34, g2, o2, c2, p3, c3, g4, o4, c4, g6, 0, 3, rfl, ⟨HF8.out, HE8.out, H48.out, H68.out, HD.out.1, HD.out.2.1, HD.out.2.2.1, HD.out.2.2.2.1, HD.out.2.2.2.2.1, HD.out.2.2.2.2.2⟩, HB8.out⟩
end Go.Proofs.YtaopkchkhdbfnaaGreatDoor.Pl

namespace Go.Proofs.YtaopkchkhdbfnaaGreatDoor.Pl
open Go.RowKit Go.Proofs.YtaopkchkhdbfnaaGreatDoor.Mem Go.Proofs.YtaopkchkhdbfnaaGreatDoor.Sec Go.Proofs.YtaopkchkhdbfnaaGreatDoor.Rd Go.Proofs.YtaopkchkhdbfnaaGreatDoor.Fm
set_option linter.unusedVariables false

theorem Nw.kept {S : Nat → Prop} {w w' : World} {B g1 o1 g2 o2 g4 o4 g6 o6 : Nat} (h : Nw w B g1 o1 g2 o2 g4 o4 g6 o6) (k : Kept S w w') (n1 : ¬ S g1) (n2 : ¬ S g2) (n4 : ¬ S g4) (n6 : ¬ S g6) : Nw w' B g1 o1 g2 o2 g4 o4 g6 o6 :=
  ⟨Wr.move h.s1 k (fun b hb x => by obtain ⟨_, y, e⟩ := hb; cases e; exact n1 x), Wr.move h.s2 k (fun b hb x => by obtain ⟨_, y, e⟩ := hb; cases e; exact n2 x), Wr.move h.s4 k (fun b hb x => by obtain ⟨_, y, e⟩ := hb; cases e; exact n4 x), Wr.move h.s6 k (fun b hb x => by obtain ⟨_, y, e⟩ := hb; cases e; exact n6 x), h.n12, h.n14, h.n16, h.n24, h.n26, h.n46⟩
/-- Where its lists lie. -/
theorem Nw.at {w : World} {B g1 o1 g2 o2 g4 o4 g6 o6 : Nat} (h : Nw w B g1 o1 g2 o2 g4 o4 g6 o6) : (B ≤ g1 ∧ g1 < w.heap.size) ∧ (B ≤ g2 ∧ g2 < w.heap.size) ∧ (B ≤ g4 ∧ g4 < w.heap.size) ∧ (B ≤ g6 ∧ g6 < w.heap.size) :=
  ⟨⟨Wr.foot_ge h.s1 (b := g1) ⟨by decide, o1, rfl⟩, h.s1.sl.lt (b := g1) ⟨by decide, o1, rfl⟩⟩, ⟨Wr.foot_ge h.s2 (b := g2) ⟨by decide, o2, rfl⟩, h.s2.sl.lt (b := g2) ⟨by decide, o2, rfl⟩⟩, ⟨Wr.foot_ge h.s4 (b := g4) ⟨by decide, o4, rfl⟩, h.s4.sl.lt (b := g4) ⟨by decide, o4, rfl⟩⟩, ⟨Wr.foot_ge h.s6 (b := g6) ⟨by decide, o6, rfl⟩, h.s6.sl.lt (b := g6) ⟨by decide, o6, rfl⟩⟩⟩

theorem fmt_sizes : ∀ s ∈ fmt, s.size ≤ maxLen := by decide +kernel
theorem nw_held : NW.Held :=
  ⟨⟨by show fmt.length ≤ maxLen; rw [fmt_length]; unfold maxLen; omega, by show 3 ≤ maxLen; unfold maxLen; omega, by show 0 ≤ maxLen; omega, fmt_sizes, fun x hx => by simp [NW, ND] at hx⟩, by show 3 ≤ maxLen; unfold maxLen; omega, fun x hx => by
    simp only [NW, List.mem_cons, List.not_mem_nil, or_false] at hx
    rcases hx with rfl | rfl | rfl <;> exact ⟨Nat.zero_le _, Nat.zero_le _, Nat.zero_le _, fun y hy => by simp [fh, Ho.none] at hy⟩, by show 0 ≤ maxLen; omega, fun x hx => by simp [NW] at hx, by show 3 ≤ maxLen; unfold maxLen; omega, by show 0 ≤ maxLen; omega, fun x hx => by simp [NW] at hx⟩

set_option maxRecDepth 100000 in
set_option maxHeartbeats 4000000 in
theorem lawNewWorld (w : World) (T : Sums w) (K : Sector.Kinds w) (hg : 0 < w.heap.size) :
    Calls Tryz.prog 4 #[] w fun e w' => e = .returned (.bool true) ∧ Below w.heap.size w w' := by
  have HT := hid T
  have HK := hid K
  have HG := hid hg
  clear T K hg
  go_enter Tryz.func4, Tryz.ntmps4
  go_wp2_with fail
  refine (sNewWorld w).mono ?_
  rintro e w1 ⟨g1, o1, c1, g2, o2, c2, pg, c3, g4, o4, c4, g6, o6, c6, rfl, N1, b1⟩
  unfold nwV
  obtain ⟨wa, hwa, ea, RA, BA⟩ := one_new w1 [.slice (some ⟨g1, o1, none⟩) 34 c1, .slice (some ⟨g2, o2, none⟩) 3 c2, .slice pg 0 c3, .slice (some ⟨g4, o4, none⟩) 3 c4, .slice none 0 0, .slice (some ⟨g6, o6, none⟩) 3 c6, .slice none 0 0] 41
  have HNA := hid (N1.below BA)
  have HRA := hid RA
  have HWA := hid hwa
  clear hwa
  have HBA := hid (b1.trans (BA.mono b1.size))
  have HLA := hid (show w1.heap.size < wa.heap.size ∧ w.heap.size ≤ w1.heap.size ∧ (g1 < w1.heap.size ∧ g2 < w1.heap.size ∧ g4 < w1.heap.size ∧ g6 < w1.heap.size) from ⟨by omega, b1.size, N1.at.1.2, N1.at.2.1.2, N1.at.2.2.1.2, N1.at.2.2.2.2⟩)
  clear N1 RA BA ea b1
  go_wp2_with fail
  have hwa := HWA.out
  simp only [hwa]
  clear hwa HWA
  refine (iNewWorld wa (HT.out.below HBA.out) (kinds_below HK.out HG.out HBA.out) (Nat.lt_of_lt_of_le HG.out HBA.out.size)).mono ?_
  rintro e w2 ⟨h1, q1, d1, h2, q2, d2, ph, d3, h4, q4, d4, h6, q6, d6, rfl, N2, b2⟩
  unfold nwV
  obtain ⟨wb, hwb, eb, RB, BB⟩ := one_new w2 [.slice (some ⟨h1, q1, none⟩) 34 d1, .slice (some ⟨h2, q2, none⟩) 3 d2, .slice ph 0 d3, .slice (some ⟨h4, q4, none⟩) 3 d4, .slice none 0 0, .slice (some ⟨h6, q6, none⟩) 3 d6, .slice none 0 0] 41
  have HNB := hid (N2.below BB)
  have HRB := hid RB
  have HWB := hid hwb
  clear hwb
  have HRA2 := hid (HRA.out.below b2 HRA.out.lt)
  have HRAb := hid ((HRA.out.below b2 HRA.out.lt).below BB (by have := HRA.out.lt; have := b2.size; omega))
  have HNAb := hid ((HNA.out.below b2).below BB)
  have HBB := hid (HBA.out.trans ((b2.trans (BB.mono b2.size)).mono HBA.out.size))
  have HLB := hid (show w2.heap.size < wb.heap.size ∧ wa.heap.size ≤ w2.heap.size ∧ (wa.heap.size ≤ h1 ∧ h1 < w2.heap.size) ∧ (wa.heap.size ≤ h2 ∧ h2 < w2.heap.size) ∧ (wa.heap.size ≤ h4 ∧ h4 < w2.heap.size) ∧ (wa.heap.size ≤ h6 ∧ h6 < w2.heap.size) from ⟨by omega, b2.size, N2.at⟩)
  clear N2 RB BB eb b2 HNA HRA
  have m0 := HRA2.out.c 0 rfl
  have m1 := HRA2.out.c 1 rfl
  have m2 := HRA2.out.c 2 rfl
  have m3 := HRA2.out.c 3 rfl
  have m4 := HRA2.out.c 4 rfl
  have m5 := HRA2.out.c 5 rfl
  have m6 := HRA2.out.c 6 rfl
  have hgt := HRA2.out.lt
  go_wp2_with fail
  have hwb := HWB.out
  simp only [hwb]
  clear hwb HWB HRA2 hgt m0 m1 m2 m3 m4 m5 m6
  refine (eqWorld wb _ _ NW (HNB.out.read d1 d2 ph d3 d4 d6) (HNAb.out.read c1 c2 pg c3 c4 c6) nw_held).mono ?_
  rintro e w3 ⟨rfl, b3⟩
  have HR3 := hid (HRB.out.below b3 HRB.out.lt)
  have HA3 := hid (HRAb.out.below b3 HRAb.out.lt)
  have HN3 := hid (HNB.out.below b3)
  have HM3 := hid (HNAb.out.below b3)
  have HB3 := hid (HBB.out.trans (b3.mono HBB.out.size))
  have HL3 := hid b3.size
  clear b3 HNB HRB HRAb HNAb
  have n0 := HR3.out.c 0 rfl
  have n1 := HR3.out.c 1 rfl
  have n2 := HR3.out.c 2 rfl
  have n3 := HR3.out.c 3 rfl
  have n4 := HR3.out.c 4 rfl
  have n5 := HR3.out.c 5 rfl
  have n6 := HR3.out.c 6 rfl
  go_wp2_with fail
  clear n0 n1 n2 n3 n4 n5 n6
  refine (markNew w3 wa.heap.size h1 q1 d1 h2 q2 d2 ph d3 h4 q4 d4 h6 q6 d6 HN3.out).mono ?_
  rintro e w4 ⟨rfl, M4, k4⟩
  have HM4 := hid M4
  have HR4 := hid (HR3.out.kept k4 (fun h => by have := HLB.out; omega))
  have HA4 := hid (HA3.out.kept k4 (fun h => by have := HLB.out; have := HLA.out; omega))
  have HN4 := hid (HM3.out.kept k4 (fun h => by have := HLB.out; have := HLA.out; omega) (fun h => by have := HLB.out; have := HLA.out; omega) (fun h => by have := HLB.out; have := HLA.out; omega) (fun h => by have := HLB.out; have := HLA.out; omega))
  have HB4 := hid (HB3.out.trans (k4.below HB3.out.size (fun b hb h => by have := HLB.out; have := HLA.out; omega)))
  have HL4 := hid (show w3.heap.size ≤ w4.heap.size from k4.size)
  clear M4 k4 HR3 HA3 HM3 HN3
  have n0 := HR4.out.c 0 rfl
  have n1 := HR4.out.c 1 rfl
  have n2 := HR4.out.c 2 rfl
  have n3 := HR4.out.c 3 rfl
  have n4 := HR4.out.c 4 rfl
  have n5 := HR4.out.c 5 rfl
  have n6 := HR4.out.c 6 rfl
  go_wp2_with fail
  clear n0 n1 n2 n3 n4 n5 n6
  refine (heldNew w4 h1 q1 d1 h2 q2 d2 ph d3 h4 q4 d4 h6 q6 d6 HM4.out).mono ?_
  rintro e w5 ⟨rfl, b5⟩
  have HM5 := hid (HM4.out.below b5)
  have HR5 := hid (HR4.out.below b5 HR4.out.lt)
  have HA5 := hid (HA4.out.below b5 HA4.out.lt)
  have HN5 := hid (HN4.out.below b5)
  have HB5 := hid (HB4.out.trans (b5.mono HB4.out.size))
  clear b5 HM4 HR4 HA4 HN4
  go_wp2_with fail
  refine (iNewWorld w5 (HT.out.below HB5.out) (kinds_below HK.out HG.out HB5.out) (Nat.lt_of_lt_of_le HG.out HB5.out.size)).mono ?_
  rintro e w6 ⟨k1, r1, s1, k2, r2, s2, pk, s3, k4, r4, s4, k6, r6, s6, rfl, N6, b6⟩
  unfold nwV
  obtain ⟨wc, hwc, ec, RC, BC⟩ := one_new w6 [.slice (some ⟨k1, r1, none⟩) 34 s1, .slice (some ⟨k2, r2, none⟩) 3 s2, .slice pk 0 s3, .slice (some ⟨k4, r4, none⟩) 3 s4, .slice none 0 0, .slice (some ⟨k6, r6, none⟩) 3 s6, .slice none 0 0] 41
  have HNC := hid (N6.below BC)
  have HRC := hid RC
  have HWC := hid hwc
  clear hwc
  have hsz := b6.size
  have HRc := hid ((HR5.out.below b6 HR5.out.lt).below BC (by have := HR5.out.lt; omega))
  have HA6 := hid (HA5.out.below b6 HA5.out.lt)
  have HAc := hid ((HA5.out.below b6 HA5.out.lt).below BC (by have := HA5.out.lt; omega))
  have HNc := hid ((HN5.out.below b6).below BC)
  have HMc := hid ((HM5.out.below b6).below BC)
  have HBc := hid (HB5.out.trans ((b6.trans (BC.mono b6.size)).mono HB5.out.size))
  clear N6 RC BC ec b6 hsz HM5 HR5 HA5 HN5
  have m0 := HA6.out.c 0 rfl
  have m1 := HA6.out.c 1 rfl
  have m2 := HA6.out.c 2 rfl
  have m3 := HA6.out.c 3 rfl
  have m4 := HA6.out.c 4 rfl
  have m5 := HA6.out.c 5 rfl
  have m6 := HA6.out.c 6 rfl
  have hgt := HA6.out.lt
  go_wp2_with fail
  have hwc := HWC.out
  simp only [hwc]
  clear hwc HWC HA6 hgt m0 m1 m2 m3 m4 m5 m6
  refine (eqWorld wc _ _ NW (HNC.out.read s1 s2 pk s3 s4 s6) (HNc.out.read c1 c2 pg c3 c4 c6) nw_held).mono ?_
  rintro e w7 ⟨rfl, b7⟩
  have HM7 := hid (HMc.out.below b7)
  have HR7 := hid (HRc.out.below b7 HRc.out.lt)
  have HB7 := hid (HBc.out.trans (b7.mono HBc.out.size))
  clear b7 HMc HRc HAc HNc HNC HRC
  have n0 := HR7.out.c 0 rfl
  have n1 := HR7.out.c 1 rfl
  have n2 := HR7.out.c 2 rfl
  have n3 := HR7.out.c 3 rfl
  have n4 := HR7.out.c 4 rfl
  have n5 := HR7.out.c 5 rfl
  have n6 := HR7.out.c 6 rfl
  go_wp2_with fail
  clear n0 n1 n2 n3 n4 n5 n6
  refine (heldNew w7 h1 q1 d1 h2 q2 d2 ph d3 h4 q4 d4 h6 q6 d6 HM7.out).mono ?_
  rintro e w8 ⟨rfl, b8⟩
  have HB8 := hid (HB7.out.trans (b8.mono HB7.out.size))
  clear b8 HM7 HR7
  go_wp2
  go_ret
  exact ⟨rfl, HB8.out⟩

end Go.Proofs.YtaopkchkhdbfnaaGreatDoor.Pl
