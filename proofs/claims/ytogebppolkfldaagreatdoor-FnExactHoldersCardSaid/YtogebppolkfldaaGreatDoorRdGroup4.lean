/-
  The walk of spec.ReadGroup. No condition but texts of at most 2^20 bytes.
-/
import Derived.Test.YtogebppolkfldaaGreatDoorRdGroup3
namespace Go.Proofs.YtogebppolkfldaaGreatDoor.Rd
open Go.RowKit Go.Proofs.YtogebppolkfldaaGreatDoor.Mem Go.Proofs.YtogebppolkfldaaGreatDoor.Sec
set_option linter.unusedVariables false

set_option maxRecDepth 100000 in
set_option maxHeartbeats 4000000 in
theorem sReadGroup (R : ByteArray → Int × Nat) (hR : Reads R) (s : ByteArray) (hs : s.size ≤ 1048576) (w : World) :
    Calls Tryz.prog 17 #[.string s] w fun e w' => GroupOut R s w w' e := by
  have HR := hid hR
  clear hR
  go_enter Tryz.func17, Tryz.ntmps17
  go_wp2_with fail
  obtain ⟨wc, hwc, ec, A0, K0⟩ := one_new w [.int .i64 0, .int .i64 0, .slice none 0 0] 59
  simp only [hwc]
  clear hwc
  have HA := hid A0
  have HK := hid K0
  clear A0 K0
  refine (l4Vars R HR.out s hs 5 8 (by decide) (by decide) wc).mono ?_
  rintro e w1 ⟨hg, b1⟩
  have HA1 := hid (HA.out.below b1 HA.out.lt)
  have HB1 := hid (HK.out.trans (b1.mono HK.out.size))
  clear b1 HA HK
  cases hn : nums R s 5 8 with
  | none =>
    rw [hn] at hg
    obtain ⟨v, rfl⟩ := hg
    have HN : Hid (readGroup R s = none) := by unfold Hid readGroup; rw [hn]
    clear hn
    have a0 := HA1.out.c 0 rfl
    have a1 := HA1.out.c 1 rfl
    have a2 := HA1.out.c 2 rfl
    have f0 := HA1.out.f 0
    have f1 := HA1.out.f 1
    have f2 := HA1.out.f 2
    have HRA := hid (((HA1.out.set 0 (.int .i64 0)).set 1 (.int .i64 0)).set 2 (.slice none 0 0))
    have HBf := hid (below_set (below_set (below_set HB1.out w.heap.size 0 (.int .i64 0) (Nat.le_refl _)) w.heap.size 1 (.int .i64 0) (Nat.le_refl _)) w.heap.size 2 (.slice none 0 0) (Nat.le_refl _))
    go_wp2
    refine bodyPost_ret (gresults_one rfl _ _ w.heap.size _ _ rfl rfl (load_row HRA.out Tryz.underlying59 rfl (by kernel_rfl))) rfl ?_
    exact ⟨0, 0, [], none, 0, false, Or.inr ⟨HN.out, rfl, rfl, rfl, rfl⟩, rfl, gnone_row _ _ _, HBf.out⟩
  | some p =>
    obtain ⟨l, z⟩ := p
    rw [hn] at hg
    obtain ⟨v, rfl, hI⟩ := hg
    have hl := nums_len hn
    have hbd := nums_bd HR.out (by unfold maxLen; omega) hn
    obtain ⟨a, cap, rfl, hW⟩ := hI.w
    have h8 := ir_cap hI
    match l, hl with
    | [x, y, d0, d1, d2, d3, d4, d5], hl =>
    have k0 := hW.sl 0 (by simp)
    obtain ⟨g, off, rfl, c0⟩ := k0
    have hcells : ∀ i v, [x, y, d0, d1, d2, d3, d4, d5][i]? = some v → w1.cell? ⟨g, off + i, none⟩ = some (.int .i64 v) := by
      intro i v hi
      obtain ⟨hi8, hv⟩ := List.getElem?_eq_some_iff.1 hi
      obtain ⟨g1, off1, e1, c1⟩ := hW.sl i hi8
      cases e1
      rw [c1, ← hv]
      simp [List.getD, List.getElem?_eq_getElem hi8]
    have c1 := hcells 1 y rfl
    have c2 := hcells 2 d0 rfl
    have c3 := hcells 3 d1 rfl
    have c4 := hcells 4 d2 rfl
    have c5 := hcells 5 d3 rfl
    have c6 := hcells 6 d4 rfl
    have c7 := hcells 7 d5 rfl
    replace c0 : w1.cell? ⟨g, off + 0, none⟩ = some (.int .i64 x) := c0
    rw [Nat.add_zero] at c0
    have hx := hbd x (by simp)
    have hcap2 : ¬ cap = 2 := by simp at h8; omega
    have HN := hid hn
    have hz : (0 : Int) ≤ (z : Int) := by omega
    have h48 : ¬ (281474976710656 < Builtin.nextslicecap 6 0 * Tryz.t3.bytes) := by decide
    have hgl : g < w1.heap.size := World.block_lt_of_cell? w1 _ c0
    obtain ⟨cc, hcc, HC⟩ : ∃ cc, (Question.appendCap 6 0 3).cut (w1.tape (w1.drawn + 1) (Question.appendCap 6 0 3)) = cc + 1 ∧ Hid (6 ≤ cc + 1 ∧ cc + 1 ≤ maxLen) := by
      have a := grownCap_ge w1.drew 6 0 3
      have b := grownCap_le_maxLen w1.drew 6 0 3 (by unfold maxLen; omega)
      refine ⟨grownCap w1.drew 6 0 3 - 1, ?_, ?_⟩
      · show grownCap w1.drew 6 0 3 = _
        omega
      · unfold Hid
        omega
    have q0 : ∀ o1 o2 o3, (((w1.alloc o1).alloc o2).alloc o3).cell? ⟨g, off, none⟩ = some (.int .i64 x) := fun o1 o2 o3 => up3 o1 o2 o3 c0
    have q1 : ∀ o1 o2 o3, (((w1.alloc o1).alloc o2).alloc o3).cell? ⟨g, off + 1, none⟩ = some (.int .i64 y) := fun o1 o2 o3 => up3 o1 o2 o3 c1
    clear hn hbd hI hW hl h8 hcells
    go_wp2
    go_region
    · obtain ⟨wq, hwq⟩ : ∃ wq, (((w1.alloc (.cells #[] 3)).alloc (.cells ((#[.int .i64 d0, .int .i64 d1, .int .i64 d2, .int .i64 d3, .int .i64 d4, .int .i64 d5] : Array Value) ++ Builtin.zeroCells #[.int .i64 0] (cc - 5)) 3)).alloc (.cells #[.int .i64 (x - 1), .int .i64 y, .slice (some ⟨w1.heap.size + 1, 0, none⟩) 6 (cc + 1)] 59)).drew.drew = wq := ⟨_, rfl⟩
      have HQ : Hid (Grp w wq (w1.heap.size + 1 + 1) (w1.heap.size + 1) cc (x - 1) y [d0, d1, d2, d3, d4, d5]) := by rw [← hwq]; exact grp1 HA1.out HB1.out cc HC.out (x - 1) y d0 d1 d2 d3 d4 d5
      simp only [hwq]
      clear hwq c0 c1 c2 c3 c4 c5 c6 c7 q0 q1 hcc HA1 HB1 HC
      have HZq := hid HQ.out.1
      have HIq := hid HQ.out.2.1
      have HAq := hid HQ.out.2.2.1
      have HBq := hid HQ.out.2.2.2.1
      have hlr := HQ.out.2.2.2.2
      clear HQ
      have p0 := HZq.out.c 0 rfl
      have p1 := HZq.out.c 1 rfl
      have p2 := HZq.out.c 2 rfl
      have HSq : Hid (Ints wq (some ⟨w1.heap.size + 1, 0, none⟩) [d0, d1, d2, d3, d4, d5]) := by
        obtain ⟨a', cap', ea, hW⟩ := Ir.w HIq.out
        cases ea
        exact hW.sl
      go_wp2_with fail
      refine (sShowGroup wq (x - 1) y (some ⟨w1.heap.size + 1, 0, none⟩) (cc + 1) [d0, d1, d2, d3, d4, d5] HSq.out (by simp)).mono ?_
      rintro e w5 ⟨rfl, b5⟩
      have HA5 := hid (HAq.out.below b5 HAq.out.lt)
      have HZ5 := hid (HZq.out.below b5 HZq.out.lt)
      have HI5 := hid (RowO.below HIq.out b5)
      have HB5 := hid (HBq.out.trans (b5.mono HBq.out.size))
      clear b5 HAq HZq HBq HIq HSq p0 p1 p2
      have a0 := HA5.out.c 0 rfl
      have a1 := HA5.out.c 1 rfl
      have a2 := HA5.out.c 2 rfl
      have f0 := HA5.out.f 0
      have f1 := HA5.out.f 1
      have f2 := HA5.out.f 2
      have p0 := HZ5.out.c 0 rfl
      have p1 := HZ5.out.c 1 rfl
      have p2 := HZ5.out.c 2 rfl
      by_cases hsh : showGroup (x - 1) y [d0, d1, d2, d3, d4, d5] = s
      · have HN2 : Hid (readGroup R s = some (x - 1, y, [d0, d1, d2, d3, d4, d5])) := by unfold Hid readGroup; rw [HN.out]; simp only []; rw [if_pos hsh]
        have hne := Own.eqS_yes hsh
        generalize showGroup (x - 1) y [d0, d1, d2, d3, d4, d5] = sh at *
        have HRA := hid ((((HA5.out).set 0 (.int .i64 (x - 1))).set 1 (.int .i64 y)).set 2 (.slice (some ⟨w1.heap.size + 1, 0, none⟩) 6 (cc + 1)))
        have HBf := hid (below_set (below_set (below_set (HB5.out) w.heap.size 0 (.int .i64 (x - 1)) (Nat.le_refl _)) w.heap.size 1 (.int .i64 y) (Nat.le_refl _)) w.heap.size 2 (.slice (some ⟨w1.heap.size + 1, 0, none⟩) 6 (cc + 1)) (Nat.le_refl _))
        have HIf : Hid (Ir (((w5.setCell ⟨w.heap.size, 0, none⟩ (.int .i64 (x - 1))).setCell ⟨w.heap.size, 1, none⟩ (.int .i64 y)).setCell ⟨w.heap.size, 2, none⟩ (.slice (some ⟨w1.heap.size + 1, 0, none⟩) 6 (cc + 1))) w.heap.size (.slice (some ⟨w1.heap.size + 1, 0, none⟩) 6 (cc + 1)) [d0, d1, d2, d3, d4, d5]) := RowO.kept HI5.out (((kept_set _ _ _ _).trans (kept_set _ _ _ _)).trans (kept_set _ _ _ _)) (fun b hb x => by have hb' : some (w1.heap.size + 1) = some b := hb; cases hb'; rcases x with (x | x) | x <;> omega)
        go_wp2
        refine bodyPost_ret (gresults_one rfl _ _ w.heap.size _ _ rfl rfl (load_row HRA.out Tryz.underlying59 rfl (by kernel_rfl))) rfl ?_
        exact ⟨x - 1, y, [d0, d1, d2, d3, d4, d5], some ⟨w1.heap.size + 1, 0, none⟩, cc + 1, true, Or.inl ⟨HN2.out, by simp, rfl⟩, rfl, HIf.out, HBf.out⟩
      · have HN2 : Hid (readGroup R s = none) := by unfold Hid readGroup; rw [HN.out]; simp only []; rw [if_neg hsh]
        have hne := Own.eqS_no hsh
        generalize showGroup (x - 1) y [d0, d1, d2, d3, d4, d5] = sh at *
        have HRA := hid ((((HA5.out).set 0 (.int .i64 0)).set 1 (.int .i64 0)).set 2 (.slice none 0 0))
        have HBf := hid (below_set (below_set (below_set (HB5.out) w.heap.size 0 (.int .i64 0) (Nat.le_refl _)) w.heap.size 1 (.int .i64 0) (Nat.le_refl _)) w.heap.size 2 (.slice none 0 0) (Nat.le_refl _))
        go_wp2
        refine bodyPost_ret (gresults_one rfl _ _ w.heap.size _ _ rfl rfl (load_row HRA.out Tryz.underlying59 rfl (by kernel_rfl))) rfl ?_
        exact ⟨0, 0, [], none, 0, false, Or.inr ⟨HN2.out, rfl, rfl, rfl, rfl⟩, rfl, gnone_row _ _ _, HBf.out⟩
    · obtain ⟨wq, hwq⟩ : ∃ wq, (((w1.alloc (.cells #[] 3)).alloc (.cells #[.int .i64 (x - 1), .int .i64 y, .slice (some ⟨w1.heap.size + 1 + 1, 0, none⟩) 6 (cc + 1)] 59)).alloc (.cells ((#[.int .i64 d0, .int .i64 d1, .int .i64 d2, .int .i64 d3, .int .i64 d4, .int .i64 d5] : Array Value) ++ Builtin.zeroCells #[.int .i64 0] (cc - 5)) 3)).drew.drew = wq := ⟨_, rfl⟩
      have HQ : Hid (Grp w wq (w1.heap.size + 1) (w1.heap.size + 1 + 1) cc (x - 1) y [d0, d1, d2, d3, d4, d5]) := by rw [← hwq]; exact grp2 HA1.out HB1.out cc HC.out (x - 1) y d0 d1 d2 d3 d4 d5
      simp only [hwq]
      clear hwq c0 c1 c2 c3 c4 c5 c6 c7 q0 q1 hcc HA1 HB1 HC
      have HZq := hid HQ.out.1
      have HIq := hid HQ.out.2.1
      have HAq := hid HQ.out.2.2.1
      have HBq := hid HQ.out.2.2.2.1
      have hlr := HQ.out.2.2.2.2
      clear HQ
      have p0 := HZq.out.c 0 rfl
      have p1 := HZq.out.c 1 rfl
      have p2 := HZq.out.c 2 rfl
      have HSq : Hid (Ints wq (some ⟨w1.heap.size + 1 + 1, 0, none⟩) [d0, d1, d2, d3, d4, d5]) := by
        obtain ⟨a', cap', ea, hW⟩ := Ir.w HIq.out
        cases ea
        exact hW.sl
      go_wp2_with fail
      refine (sShowGroup wq (x - 1) y (some ⟨w1.heap.size + 1 + 1, 0, none⟩) (cc + 1) [d0, d1, d2, d3, d4, d5] HSq.out (by simp)).mono ?_
      rintro e w5 ⟨rfl, b5⟩
      have HA5 := hid (HAq.out.below b5 HAq.out.lt)
      have HZ5 := hid (HZq.out.below b5 HZq.out.lt)
      have HI5 := hid (RowO.below HIq.out b5)
      have HB5 := hid (HBq.out.trans (b5.mono HBq.out.size))
      clear b5 HAq HZq HBq HIq HSq p0 p1 p2
      have a0 := HA5.out.c 0 rfl
      have a1 := HA5.out.c 1 rfl
      have a2 := HA5.out.c 2 rfl
      have f0 := HA5.out.f 0
      have f1 := HA5.out.f 1
      have f2 := HA5.out.f 2
      have p0 := HZ5.out.c 0 rfl
      have p1 := HZ5.out.c 1 rfl
      have p2 := HZ5.out.c 2 rfl
      by_cases hsh : showGroup (x - 1) y [d0, d1, d2, d3, d4, d5] = s
      · have HN2 : Hid (readGroup R s = some (x - 1, y, [d0, d1, d2, d3, d4, d5])) := by unfold Hid readGroup; rw [HN.out]; simp only []; rw [if_pos hsh]
        have hne := Own.eqS_yes hsh
        generalize showGroup (x - 1) y [d0, d1, d2, d3, d4, d5] = sh at *
        have HRA := hid ((((HA5.out).set 0 (.int .i64 (x - 1))).set 1 (.int .i64 y)).set 2 (.slice (some ⟨w1.heap.size + 1 + 1, 0, none⟩) 6 (cc + 1)))
        have HBf := hid (below_set (below_set (below_set (HB5.out) w.heap.size 0 (.int .i64 (x - 1)) (Nat.le_refl _)) w.heap.size 1 (.int .i64 y) (Nat.le_refl _)) w.heap.size 2 (.slice (some ⟨w1.heap.size + 1 + 1, 0, none⟩) 6 (cc + 1)) (Nat.le_refl _))
        have HIf : Hid (Ir (((w5.setCell ⟨w.heap.size, 0, none⟩ (.int .i64 (x - 1))).setCell ⟨w.heap.size, 1, none⟩ (.int .i64 y)).setCell ⟨w.heap.size, 2, none⟩ (.slice (some ⟨w1.heap.size + 1 + 1, 0, none⟩) 6 (cc + 1))) w.heap.size (.slice (some ⟨w1.heap.size + 1 + 1, 0, none⟩) 6 (cc + 1)) [d0, d1, d2, d3, d4, d5]) := RowO.kept HI5.out (((kept_set _ _ _ _).trans (kept_set _ _ _ _)).trans (kept_set _ _ _ _)) (fun b hb x => by have hb' : some (w1.heap.size + 1 + 1) = some b := hb; cases hb'; rcases x with (x | x) | x <;> omega)
        go_wp2
        refine bodyPost_ret (gresults_one rfl _ _ w.heap.size _ _ rfl rfl (load_row HRA.out Tryz.underlying59 rfl (by kernel_rfl))) rfl ?_
        exact ⟨x - 1, y, [d0, d1, d2, d3, d4, d5], some ⟨w1.heap.size + 1 + 1, 0, none⟩, cc + 1, true, Or.inl ⟨HN2.out, by simp, rfl⟩, rfl, HIf.out, HBf.out⟩
      · have HN2 : Hid (readGroup R s = none) := by unfold Hid readGroup; rw [HN.out]; simp only []; rw [if_neg hsh]
        have hne := Own.eqS_no hsh
        generalize showGroup (x - 1) y [d0, d1, d2, d3, d4, d5] = sh at *
        have HRA := hid ((((HA5.out).set 0 (.int .i64 0)).set 1 (.int .i64 0)).set 2 (.slice none 0 0))
        have HBf := hid (below_set (below_set (below_set (HB5.out) w.heap.size 0 (.int .i64 0) (Nat.le_refl _)) w.heap.size 1 (.int .i64 0) (Nat.le_refl _)) w.heap.size 2 (.slice none 0 0) (Nat.le_refl _))
        go_wp2
        refine bodyPost_ret (gresults_one rfl _ _ w.heap.size _ _ rfl rfl (load_row HRA.out Tryz.underlying59 rfl (by kernel_rfl))) rfl ?_
        exact ⟨0, 0, [], none, 0, false, Or.inr ⟨HN2.out, rfl, rfl, rfl, rfl⟩, rfl, gnone_row _ _ _, HBf.out⟩
    · obtain ⟨wq, hwq⟩ : ∃ wq, (((w1.alloc (.cells #[.int .i64 (x - 1), .int .i64 y, .slice (some ⟨w1.heap.size + 1 + 1, 0, none⟩) 6 (cc + 1)] 59)).alloc (.cells #[] 3)).alloc (.cells ((#[.int .i64 d0, .int .i64 d1, .int .i64 d2, .int .i64 d3, .int .i64 d4, .int .i64 d5] : Array Value) ++ Builtin.zeroCells #[.int .i64 0] (cc - 5)) 3)).drew.drew = wq := ⟨_, rfl⟩
      have HQ : Hid (Grp w wq (w1.heap.size) (w1.heap.size + 1 + 1) cc (x - 1) y [d0, d1, d2, d3, d4, d5]) := by rw [← hwq]; exact grp3 HA1.out HB1.out cc HC.out (x - 1) y d0 d1 d2 d3 d4 d5
      simp only [hwq]
      clear hwq c0 c1 c2 c3 c4 c5 c6 c7 q0 q1 hcc HA1 HB1 HC
      have HZq := hid HQ.out.1
      have HIq := hid HQ.out.2.1
      have HAq := hid HQ.out.2.2.1
      have HBq := hid HQ.out.2.2.2.1
      have hlr := HQ.out.2.2.2.2
      clear HQ
      have p0 := HZq.out.c 0 rfl
      have p1 := HZq.out.c 1 rfl
      have p2 := HZq.out.c 2 rfl
      have HSq : Hid (Ints wq (some ⟨w1.heap.size + 1 + 1, 0, none⟩) [d0, d1, d2, d3, d4, d5]) := by
        obtain ⟨a', cap', ea, hW⟩ := Ir.w HIq.out
        cases ea
        exact hW.sl
      go_wp2_with fail
      refine (sShowGroup wq (x - 1) y (some ⟨w1.heap.size + 1 + 1, 0, none⟩) (cc + 1) [d0, d1, d2, d3, d4, d5] HSq.out (by simp)).mono ?_
      rintro e w5 ⟨rfl, b5⟩
      have HA5 := hid (HAq.out.below b5 HAq.out.lt)
      have HZ5 := hid (HZq.out.below b5 HZq.out.lt)
      have HI5 := hid (RowO.below HIq.out b5)
      have HB5 := hid (HBq.out.trans (b5.mono HBq.out.size))
      clear b5 HAq HZq HBq HIq HSq p0 p1 p2
      have a0 := HA5.out.c 0 rfl
      have a1 := HA5.out.c 1 rfl
      have a2 := HA5.out.c 2 rfl
      have f0 := HA5.out.f 0
      have f1 := HA5.out.f 1
      have f2 := HA5.out.f 2
      have p0 := HZ5.out.c 0 rfl
      have p1 := HZ5.out.c 1 rfl
      have p2 := HZ5.out.c 2 rfl
      by_cases hsh : showGroup (x - 1) y [d0, d1, d2, d3, d4, d5] = s
      · have HN2 : Hid (readGroup R s = some (x - 1, y, [d0, d1, d2, d3, d4, d5])) := by unfold Hid readGroup; rw [HN.out]; simp only []; rw [if_pos hsh]
        have hne := Own.eqS_yes hsh
        generalize showGroup (x - 1) y [d0, d1, d2, d3, d4, d5] = sh at *
        have HRA := hid ((((HA5.out).set 0 (.int .i64 (x - 1))).set 1 (.int .i64 y)).set 2 (.slice (some ⟨w1.heap.size + 1 + 1, 0, none⟩) 6 (cc + 1)))
        have HBf := hid (below_set (below_set (below_set (HB5.out) w.heap.size 0 (.int .i64 (x - 1)) (Nat.le_refl _)) w.heap.size 1 (.int .i64 y) (Nat.le_refl _)) w.heap.size 2 (.slice (some ⟨w1.heap.size + 1 + 1, 0, none⟩) 6 (cc + 1)) (Nat.le_refl _))
        have HIf : Hid (Ir (((w5.setCell ⟨w.heap.size, 0, none⟩ (.int .i64 (x - 1))).setCell ⟨w.heap.size, 1, none⟩ (.int .i64 y)).setCell ⟨w.heap.size, 2, none⟩ (.slice (some ⟨w1.heap.size + 1 + 1, 0, none⟩) 6 (cc + 1))) w.heap.size (.slice (some ⟨w1.heap.size + 1 + 1, 0, none⟩) 6 (cc + 1)) [d0, d1, d2, d3, d4, d5]) := RowO.kept HI5.out (((kept_set _ _ _ _).trans (kept_set _ _ _ _)).trans (kept_set _ _ _ _)) (fun b hb x => by have hb' : some (w1.heap.size + 1 + 1) = some b := hb; cases hb'; rcases x with (x | x) | x <;> omega)
        go_wp2
        refine bodyPost_ret (gresults_one rfl _ _ w.heap.size _ _ rfl rfl (load_row HRA.out Tryz.underlying59 rfl (by kernel_rfl))) rfl ?_
        exact ⟨x - 1, y, [d0, d1, d2, d3, d4, d5], some ⟨w1.heap.size + 1 + 1, 0, none⟩, cc + 1, true, Or.inl ⟨HN2.out, by simp, rfl⟩, rfl, HIf.out, HBf.out⟩
      · have HN2 : Hid (readGroup R s = none) := by unfold Hid readGroup; rw [HN.out]; simp only []; rw [if_neg hsh]
        have hne := Own.eqS_no hsh
        generalize showGroup (x - 1) y [d0, d1, d2, d3, d4, d5] = sh at *
        have HRA := hid ((((HA5.out).set 0 (.int .i64 0)).set 1 (.int .i64 0)).set 2 (.slice none 0 0))
        have HBf := hid (below_set (below_set (below_set (HB5.out) w.heap.size 0 (.int .i64 0) (Nat.le_refl _)) w.heap.size 1 (.int .i64 0) (Nat.le_refl _)) w.heap.size 2 (.slice none 0 0) (Nat.le_refl _))
        go_wp2
        refine bodyPost_ret (gresults_one rfl _ _ w.heap.size _ _ rfl rfl (load_row HRA.out Tryz.underlying59 rfl (by kernel_rfl))) rfl ?_
        exact ⟨0, 0, [], none, 0, false, Or.inr ⟨HN2.out, rfl, rfl, rfl, rfl⟩, rfl, gnone_row _ _ _, HBf.out⟩

end Go.Proofs.YtogebppolkfldaaGreatDoor.Rd
