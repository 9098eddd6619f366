/-
  The walks of impl.ReadHost, spec.ReadHost and laws.FnExactReadHost: the law answers true, and nothing that was there is changed. Condition: the table of sixteen sums and the error of a part that lacks stand in their variables.
  The walks of spec.ReadFrees and laws.FnExactReadFrees: the law answers true, and nothing that was there is changed. Condition: the table of sixteen sums and the error of a part that lacks stand in their variables.
  What a Var that is read says of the text: its bytes are the number's own, and a first byte below 128 is the number. No condition.
  A volume's text whose flag is read as more than 1 is not what is shown of it: so both sides refuse it. Condition: texts of at most 2^20 bytes.
  Plain: a journal's text; lists of sectors with texts in memory. No condition.
  The walks of spec.l4Piece, impl.showPiece, spec.l4OpOk and impl.isJournalOp. No condition but texts of at most 2^20 bytes.
  The walks of impl.areOuts, impl.isJournal and spec.l4JournalOk. No condition but texts and lists of at most 2^20.
  The walks of impl.isJournal and spec.l4JournalOk: both answer whether a journal is right. No condition but texts and lists of at most 2^20.
  The walk of spec.l4JournalOk: it answers whether a journal is right. No condition but texts and lists of at most 2^20.
  The walks of spec.ShowJournal, impl.showOp and impl.showOuts. No condition but texts and lists of at most 2^20.
  The walks of impl.showOp, impl.showOuts and impl.ShowJournal. Condition for the last: the table of sixteen sums holds what the program's text lays.
  The walks of impl.showOuts and impl.ShowJournal. Condition for the last: the table of sixteen sums holds what the program's text lays.
  Plain: what a piece and outs are read as. The walks of impl's cursor's piece, and of impl.outsParts. Condition: the error of a part that lacks stands in its variable.
-/
import Derived.Test.YtlbfcnpnfoapnaaGreatDoorRdHost
import Derived.Test.YtlbfcnpnfoapnaaGreatDoorJoin1
import Derived.RegionTactic
import Derived.BigRegion
import Derived.Laws.ResultCell
import Derived.Test.YtlbfcnpnfoapnaaGreatDoorRdFrees
import Derived.Test.YtlbfcnpnfoapnaaGreatDoorRdNum
import Derived.Test.YtlbfcnpnfoapnaaGreatDoorSecNum
import Derived.Test.YtlbfcnpnfoapnaaGreatDoorRdVol2
import Derived.Test.YtlbfcnpnfoapnaaGreatDoorSecRows
import Derived.Test.YtlbfcnpnfoapnaaGreatDoorSecLease2
import Derived.Laws.StructEq
import Derived.Deep.RegionWith
import Derived.Deep.RegionHeldLaw
import Derived.Test.YtlbfcnpnfoapnaaGreatDoorAppRow
namespace Go.Proofs.YtlbfcnpnfoapnaaGreatDoor.Rd
open Go.RowKit Go.Proofs.YtlbfcnpnfoapnaaGreatDoor.Mem Go.Proofs.YtlbfcnpnfoapnaaGreatDoor.Sec
set_option linter.unusedVariables false

/-- A struct out of its own block, and a slot. -/
theorem results_one {P : Program} {fn : Func} {p q : Tmp} {ty : TypeId} (h : fn.results = #[.cell p ty, .tmp q]) (tmps : Array Value) (w : World) (g : Nat) (v b : Value)
    (hp : tmps.getD p undef = .pointer (some ⟨g, 0, none⟩)) (hq : tmps.getD q undef = b) (h1 : (loadVar ty ⟨g, 0, none⟩).run P w = .ok v w) :
    (results fn tmps).run P w = .ok (.tuple #[v, b]) w := by
  rw [results_cell_tmp h, hp, hq]
  simp [asAddr, h1]

/-- What both sides answer. -/
def HostOut (R : ByteArray → Int × Nat) (s : ByteArray) (e : Ending) : Prop := (∃ b x y, readHost R s = some (b, x, y) ∧ e = .returned (.tuple #[hsV b x y, .bool true])) ∨ (readHost R s = none ∧ e = .returned (.tuple #[hsV 0 0 0, .bool false]))

set_option maxRecDepth 100000 in
set_option maxHeartbeats 2000000 in
theorem iReadHost (R : ByteArray → Int × Nat) (hR : Reads R) (s : ByteArray) (hs : s.size ≤ 1048576) (w : World) (u : TypeId) (pv : Value) (hL : Lacks w u pv) (T : Sums w) :
    Calls Tryz.prog 83 #[.string s] w fun e w' => HostOut R s e ∧ Below w.heap.size w w' := by
  have HR := hid hR
  have HL := hid hL
  have HT := hid T
  clear hR hL T
  go_enter Tryz.func83, Tryz.ntmps83
  go_wp2_with fail
  obtain ⟨wc, hwc, ec, A0, K0⟩ := one_new w [.int .i64 0, .int .i64 0, .int .i64 0] 78
  simp only [hwc]
  clear hwc
  have HA := hid A0
  have HK := hid K0
  clear A0 K0
  refine (readKindHost R HR.out s hs wc u pv (HL.out.kept (Kept.of_below (S := fun _ => False) HK.out) (fun x => x)) (HT.out.below HK.out)).mono ?_
  rintro e w1 (⟨b, x, y, hn, rfl, b1⟩ | ⟨hn, rfl, b1⟩)
  · have HN := hid hn
    have HA1 := hid (HA.out.below b1 HA.out.lt)
    have HB1 := hid (HK.out.trans (b1.mono HK.out.size))
    clear hn b1 HA
    have a0 := HA1.out.c 0 rfl
    have a1 := HA1.out.c 1 rfl
    have a2 := HA1.out.c 2 rfl
    have f0 := HA1.out.f 0
    have f1 := HA1.out.f 1
    have f2 := HA1.out.f 2
    have HRA := hid (((HA1.out.set 0 (.int .i64 b)).set 1 (.int .i64 x)).set 2 (.int .i64 y))
    have HBf := hid (below_set (below_set (below_set HB1.out w.heap.size 0 (.int .i64 b) (Nat.le_refl _)) w.heap.size 1 (.int .i64 x) (Nat.le_refl _)) w.heap.size 2 (.int .i64 y) (Nat.le_refl _))
    unfold hsV
    go_wp2
    refine bodyPost_ret (results_one rfl _ _ w.heap.size _ _ rfl rfl (load_row HRA.out Tryz.underlying78 rfl (by kernel_rfl))) rfl ?_
    exact ⟨Or.inl ⟨b, x, y, HN.out, rfl⟩, HBf.out⟩
  · have HN := hid hn
    have HA1 := hid (HA.out.below b1 HA.out.lt)
    have HB1 := hid (HK.out.trans (b1.mono HK.out.size))
    clear hn b1 HA
    have a0 := HA1.out.c 0 rfl
    have a1 := HA1.out.c 1 rfl
    have a2 := HA1.out.c 2 rfl
    have f0 := HA1.out.f 0
    have f1 := HA1.out.f 1
    have f2 := HA1.out.f 2
    have HRA := hid (((HA1.out.set 0 (.int .i64 0)).set 1 (.int .i64 0)).set 2 (.int .i64 0))
    have HBf := hid (below_set (below_set (below_set HB1.out w.heap.size 0 (.int .i64 0) (Nat.le_refl _)) w.heap.size 1 (.int .i64 0) (Nat.le_refl _)) w.heap.size 2 (.int .i64 0) (Nat.le_refl _))
    unfold hsV
    go_wp2
    refine bodyPost_ret (results_one rfl _ _ w.heap.size _ _ rfl rfl (load_row HRA.out Tryz.underlying78 rfl (by kernel_rfl))) rfl ?_
    exact ⟨Or.inr ⟨HN.out, rfl⟩, HBf.out⟩

set_option maxRecDepth 100000 in
set_option maxHeartbeats 2000000 in
theorem sReadHost (R : ByteArray → Int × Nat) (hR : Reads R) (s : ByteArray) (hs : s.size ≤ 1048576) (w : World) :
    Calls Tryz.prog 54 #[.string s] w fun e w' => HostOut R s e ∧ Below w.heap.size w w' := by
  have HR := hid hR
  clear hR
  go_enter Tryz.func54, Tryz.ntmps54
  go_wp2_with fail
  obtain ⟨wc, hwc, ec, A0, K0⟩ := one_new w [.int .i64 0, .int .i64 0, .int .i64 0] 78
  simp only [hwc]
  clear hwc
  have HA := hid A0
  have HK := hid K0
  clear A0 K0
  refine (l4Vars R HR.out s hs 5 3 (by decide) (by decide) wc).mono ?_
  rintro e w1 ⟨hg, b1⟩
  have HA1 := hid (HA.out.below b1 HA.out.lt)
  have HB1 := hid (HK.out.trans (b1.mono HK.out.size))
  clear b1 HA HK
  cases hn : nums R s 5 3 with
  | none =>
    rw [hn] at hg
    obtain ⟨v, rfl⟩ := hg
    have HN : Hid (readHost R s = none) := by unfold Hid readHost; rw [hn]
    clear hn
    have a0 := HA1.out.c 0 rfl
    have a1 := HA1.out.c 1 rfl
    have a2 := HA1.out.c 2 rfl
    have f0 := HA1.out.f 0
    have f1 := HA1.out.f 1
    have f2 := HA1.out.f 2
    have HRA := hid (((HA1.out.set 0 (.int .i64 0)).set 1 (.int .i64 0)).set 2 (.int .i64 0))
    have HBf := hid (below_set (below_set (below_set HB1.out w.heap.size 0 (.int .i64 0) (Nat.le_refl _)) w.heap.size 1 (.int .i64 0) (Nat.le_refl _)) w.heap.size 2 (.int .i64 0) (Nat.le_refl _))
    go_wp2
    refine bodyPost_ret (results_one rfl _ _ w.heap.size _ _ rfl rfl (load_row HRA.out Tryz.underlying78 rfl (by kernel_rfl))) rfl ?_
    exact ⟨Or.inr ⟨HN.out, rfl⟩, HBf.out⟩
  | some p =>
    obtain ⟨l, z⟩ := p
    rw [hn] at hg
    obtain ⟨v, rfl, hI⟩ := hg
    have hl := nums_len hn
    have hbd := nums_bd HR.out (by unfold maxLen; omega) hn
    obtain ⟨a, cap, rfl, hW⟩ := hI.w
    match l, hl with
    | [b, x, y], _ =>
    obtain ⟨g, off, rfl, c0⟩ := hW.sl 0 (by simp)
    obtain ⟨g1, off1, e1, c1⟩ := hW.sl 1 (by simp)
    obtain ⟨g2, off2, e2, c2⟩ := hW.sl 2 (by simp)
    cases e1; cases e2
    replace c0 : w1.cell? ⟨g, off + 0, none⟩ = some (.int .i64 b) := c0
    replace c1 : w1.cell? ⟨g, off + 1, none⟩ = some (.int .i64 x) := c1
    replace c2 : w1.cell? ⟨g, off + 2, none⟩ = some (.int .i64 y) := c2
    rw [Nat.add_zero] at c0
    have hx := hbd x (by simp)
    have HN := hid hn
    have hz : (0 : Int) ≤ (z : Int) := by omega
    simp only [List.length_cons, List.length_nil]
    clear hn hbd hI hW
    go_wp2
    obtain ⟨wz, hwz, ez, Z0, BZ⟩ := one_new w1 [.int .i64 0, .int .i64 0, .int .i64 0] 78
    have hgl : g < w1.heap.size := World.block_lt_of_cell? w1 _ c0
    have d0 := (BZ.cell (p := ⟨g, off, none⟩) hgl).trans c0
    have d1 := (BZ.cell (p := ⟨g, off + 1, none⟩) hgl).trans c1
    have d2 := (BZ.cell (p := ⟨g, off + 2, none⟩) hgl).trans c2
    have z0 := Z0.c 0 rfl
    have z1 := Z0.c 1 rfl
    have z2 := Z0.c 2 rfl
    have y0 := Z0.f 0
    have y1 := Z0.f 1
    have y2 := Z0.f 2
    have HZ := hid (((Z0.set 0 (.int .i64 b)).set 1 (.int .i64 (x - 1))).set 2 (.int .i64 y))
    have HAz := hid ((((HA1.out.below BZ HA1.out.lt).other (p := ⟨w1.heap.size, 0, none⟩) (by have := HA1.out.lt; show w.heap.size ≠ w1.heap.size; omega) (.int .i64 b)).other (p := ⟨w1.heap.size, 1, none⟩) (by have := HA1.out.lt; show w.heap.size ≠ w1.heap.size; omega) (.int .i64 (x - 1))).other (p := ⟨w1.heap.size, 2, none⟩) (by have := HA1.out.lt; show w.heap.size ≠ w1.heap.size; omega) (.int .i64 y))
    have HBz := hid (below_set (below_set (below_set (HB1.out.trans (BZ.mono HB1.out.size)) w1.heap.size 0 (.int .i64 b) HB1.out.size) w1.heap.size 1 (.int .i64 (x - 1)) HB1.out.size) w1.heap.size 2 (.int .i64 y) HB1.out.size)
    clear Z0 BZ
    go_region
    go_wp2_with fail
    obtain ⟨wq, hwq⟩ : ∃ wq, (((wz.setCell ⟨w1.heap.size, 0, none⟩ (.int .i64 b)).setCell ⟨w1.heap.size, 1, none⟩ (.int .i64 (x - 1))).setCell ⟨w1.heap.size, 2, none⟩ (.int .i64 y)).drew = wq := ⟨_, rfl⟩
    have HZq : Hid (Row wq w1.heap.size [.int .i64 b, .int .i64 (x - 1), .int .i64 y]) := by rw [← hwq]; exact HZ.out
    have HAq : Hid (Row wq w.heap.size [.int .i64 0, .int .i64 0, .int .i64 0]) := by rw [← hwq]; exact HAz.out
    have HBq : Hid (Below w.heap.size w wq) := by rw [← hwq]; exact HBz.out.drew
    simp only [hwq]
    clear hwq hwz d0 d1 d2 z0 z1 z2 y0 y1 y2 HZ HAz HBz c0 c1 c2
    refine (sShowHost b (x - 1) y wq).mono ?_
    rintro e w5 ⟨rfl, b5⟩
    have HA5 := hid (HAq.out.below b5 HAq.out.lt)
    have HZ5 := hid (HZq.out.below b5 HZq.out.lt)
    have HB5 := hid (HBq.out.trans (b5.mono HBq.out.size))
    clear b5 HAq HZq HBq
    have a0 := HA5.out.c 0 rfl
    have a1 := HA5.out.c 1 rfl
    have a2 := HA5.out.c 2 rfl
    have f0 := HA5.out.f 0
    have f1 := HA5.out.f 1
    have f2 := HA5.out.f 2
    have q0 := HZ5.out.c 0 rfl
    have q1 := HZ5.out.c 1 rfl
    have q2 := HZ5.out.c 2 rfl
    by_cases hsh : showHost b (x - 1) y = s
    · have HN2 : Hid (readHost R s = some (b, x - 1, y)) := by unfold Hid readHost; rw [HN.out]; simp only []; rw [if_pos hsh]
      have hne := Own.eqS_yes hsh
      generalize showHost b (x - 1) y = sh at *
      have HRA := hid ((((HA5.out).set 0 (.int .i64 b)).set 1 (.int .i64 (x - 1))).set 2 (.int .i64 y))
      have HBf := hid (below_set (below_set (below_set (HB5.out) w.heap.size 0 (.int .i64 b) (Nat.le_refl _)) w.heap.size 1 (.int .i64 (x - 1)) (Nat.le_refl _)) w.heap.size 2 (.int .i64 y) (Nat.le_refl _))
      go_wp2
      refine bodyPost_ret (results_one rfl _ _ w.heap.size _ _ rfl rfl (load_row HRA.out Tryz.underlying78 rfl (by kernel_rfl))) rfl ?_
      exact ⟨Or.inl ⟨b, x - 1, y, HN2.out, rfl⟩, HBf.out⟩
    · have HN2 : Hid (readHost R s = none) := by unfold Hid readHost; rw [HN.out]; simp only []; rw [if_neg hsh]
      have hne := Own.eqS_no hsh
      generalize showHost b (x - 1) y = sh at *
      have HRA := hid ((((HA5.out).set 0 (.int .i64 0)).set 1 (.int .i64 0)).set 2 (.int .i64 0))
      have HBf := hid (below_set (below_set (below_set (HB5.out) w.heap.size 0 (.int .i64 0) (Nat.le_refl _)) w.heap.size 1 (.int .i64 0) (Nat.le_refl _)) w.heap.size 2 (.int .i64 0) (Nat.le_refl _))
      go_wp2
      refine bodyPost_ret (results_one rfl _ _ w.heap.size _ _ rfl rfl (load_row HRA.out Tryz.underlying78 rfl (by kernel_rfl))) rfl ?_
      exact ⟨Or.inr ⟨HN2.out, rfl⟩, HBf.out⟩

end Go.Proofs.YtlbfcnpnfoapnaaGreatDoor.Rd

namespace Go.Proofs.YtlbfcnpnfoapnaaGreatDoor.Rd
open Go.RowKit Go.Proofs.YtlbfcnpnfoapnaaGreatDoor.Mem Go.Proofs.YtlbfcnpnfoapnaaGreatDoor.Sec Classical
set_option linter.unusedVariables false

theorem nums_one {R : ByteArray → Int × Nat} {s : ByteArray} {i : Nat} : nums R s i 1 = if (R (rest s i)).2 = 0 then none else some ([(R (rest s i)).1], i + (R (rest s i)).2) := nums_step (l := []) (e := i) rfl

theorem none_row (w : World) (B : Nat) (b : Option Addr) : Ir w B (.slice b 0 0) [] := Or.inl ⟨b, rfl, rfl, rfl⟩

set_option maxRecDepth 100000 in
set_option maxHeartbeats 2000000 in
theorem sReadFrees (R : ByteArray → Int × Nat) (hR : Reads R) (s : ByteArray) (hs : s.size ≤ 1048576) (w : World) :
    Calls Tryz.prog 34 #[.string s] w fun e w' => FreesOut R s w w' e := by
  have HR := hid hR
  have hRV := hR (rest s 5) (by rw [rest_size]; unfold maxLen; omega)
  have hx0 := hRV.x0
  have hle := hRV.le
  rw [rest_size] at hle
  clear hR hRV
  go_enter Tryz.func34, Tryz.ntmps34
  go_wp2_with fail
  refine (l4Vars R HR.out s hs 5 1 (by decide) (by decide) w).mono ?_
  rintro e w1 ⟨hg, b1⟩
  have HB1 := hid b1
  clear b1
  rw [nums_one] at hg
  by_cases hq : (R (rest s 5)).2 = 0
  · rw [if_pos hq] at hg
    obtain ⟨v, rfl⟩ := hg
    have HN : Hid (readFrees R s = none) := by unfold Hid readFrees freesNums; rw [if_pos (Or.inl hq)]
    have HBf := hid (HB1.out.alloc HB1.out.size (.cells #[] 3))
    clear hq hx0 hle
    go_wp2
    go_ret2
    exact ⟨_, [], false, Or.inr ⟨HN.out, rfl, rfl⟩, rfl, none_row _ _ _, HBf.out⟩
  · rw [if_neg hq] at hg
    obtain ⟨v, rfl, hI⟩ := hg
    have HF : Hid (∀ h : ¬ 12 < (R (rest s 5)).1, freesNums R s = nums R s (5 + (R (rest s 5)).2) (R (rest s 5)).1.toNat) := fun h => by
      unfold freesNums; rw [if_neg (by omega)]
    have HF2 : Hid (12 < (R (rest s 5)).1 → freesNums R s = none) := fun h => by unfold freesNums; rw [if_pos (Or.inr h)]
    generalize (R (rest s 5)).1 = x at *
    obtain ⟨a, cap, rfl, hW⟩ := hI.w
    obtain ⟨g, off, rfl, c0⟩ := hW.sl 0 (by simp)
    replace c0 : w1.cell? ⟨g, off + 0, none⟩ = some (.int .i64 x) := c0
    rw [Nat.add_zero] at c0
    have hi2 : 5 + (R (rest s 5)).2 ≤ 1048576 := by omega
    generalize 5 + (R (rest s 5)).2 = i2 at *
    have hi20 : (0 : Int) ≤ (i2 : Int) := by omega
    simp only [List.length_cons, List.length_nil]
    clear hI hW hq
    by_cases hm : 12 < x
    · have HN : Hid (readFrees R s = none) := by unfold Hid readFrees; rw [HF2.out hm]
      have HBf := hid (HB1.out.alloc HB1.out.size (.cells #[] 3))
      go_wp2
      go_ret2
      exact ⟨_, [], false, Or.inr ⟨HN.out, rfl, rfl⟩, rfl, none_row _ _ _, HBf.out⟩
    · have HFn := hid (HF.out hm)
      obtain ⟨n, rfl⟩ : ∃ n : Nat, x = (n : Int) := Int.eq_ofNat_of_zero_le hx0
      rw [Int.toNat_natCast] at HFn
      clear HF HF2 hx0
      go_wp2_with fail
      refine (l4Vars R HR.out s hs i2 n hi2 (by omega) w1).mono ?_
      rintro e w2 ⟨hg, b2⟩
      have HB2 := hid (HB1.out.trans (b2.mono HB1.out.size))
      have hs1 := HB1.out.size
      clear b2 c0
      cases hnu : nums R s i2 n with
      | none =>
        rw [hnu] at hg HFn
        obtain ⟨v2, rfl⟩ := hg
        have HN : Hid (readFrees R s = none) := by unfold Hid readFrees; rw [HFn.out]
        have HBf := hid (HB2.out.alloc HB2.out.size (.cells #[] 3))
        clear hnu
        go_wp2
        go_ret2
        exact ⟨_, [], false, Or.inr ⟨HN.out, rfl, rfl⟩, rfl, none_row _ _ _, HBf.out⟩
      | some p =>
        obtain ⟨l, z⟩ := p
        rw [hnu] at hg HFn
        obtain ⟨v2, rfl, hI⟩ := hg
        have hll : l.length ≤ 12 := by have := nums_len hnu; omega
        have hz0 : (0 : Int) ≤ (z : Int) := by omega
        have HI := hid (RowO.mono hI hs1)
        obtain ⟨a2, cap2, rfl, hW⟩ := hI.w
        have HS2 := hid hW.sl
        clear hnu hI hW
        go_wp2_with fail
        refine (sShowFrees w2 a2 cap2 l HS2.out (by omega)).mono ?_
        rintro e w3 ⟨rfl, b3⟩
        have HB3 := hid (HB2.out.trans (b3.mono HB2.out.size))
        have HI3 := hid (RowO.below HI.out b3)
        clear b3
        by_cases hsh : showFrees l = s
        · have HN2 : Hid (readFrees R s = some l) := by unfold Hid readFrees; rw [HFn.out]; simp only []; rw [if_pos hsh]
          have hne := Own.eqS_yes hsh
          generalize showFrees l = sh at *
          go_wp2
          go_ret2
          exact ⟨_, l, true, Or.inl ⟨HN2.out, rfl⟩, rfl, HI3.out, HB3.out⟩
        · have HN2 : Hid (readFrees R s = none) := by unfold Hid readFrees; rw [HFn.out]; simp only []; rw [if_neg hsh]
          have hne := Own.eqS_no hsh
          have HBf := hid (HB3.out.alloc HB3.out.size (.cells #[] 3))
          generalize showFrees l = sh at *
          go_wp2
          go_ret2
          exact ⟨_, [], false, Or.inr ⟨HN2.out, rfl, rfl⟩, rfl, none_row _ _ _, HBf.out⟩

/-- Two answers are alike. -/
theorem out_alike {R : ByteArray → Int × Nat} {s : ByteArray} {l l' : List Int} {ok ok' : Bool} (h : readFrees R s = some l ∧ ok = true ∨ readFrees R s = none ∧ l = [] ∧ ok = false) (h' : readFrees R s = some l' ∧ ok' = true ∨ readFrees R s = none ∧ l' = [] ∧ ok' = false) : l' = l ∧ ok' = ok := by
  rcases h with ⟨a, b⟩ | ⟨a, b, c⟩ <;> rcases h' with ⟨a', b'⟩ | ⟨a', b', c'⟩
  · rw [a] at a'; cases a'; exact ⟨rfl, by rw [b, b']⟩
  · rw [a] at a'; cases a'
  · rw [a] at a'; cases a'
  · exact ⟨by rw [b, b'], by rw [c, c']⟩

theorem out_len {R : ByteArray → Int × Nat} (hR : Reads R) {s : ByteArray} (hs : s.size ≤ 1048576) {l : List Int} {ok : Bool} (h : readFrees R s = some l ∧ ok = true ∨ readFrees R s = none ∧ l = [] ∧ ok = false) : l.length ≤ 12 := by
  rcases h with ⟨a, _⟩ | ⟨_, b, _⟩
  · unfold readFrees at a
    cases hf : freesNums R s with
    | none => rw [hf] at a; cases a
    | some p =>
      obtain ⟨m, z⟩ := p
      rw [hf] at a
      simp only [] at a
      split at a
      · cases a; exact frees_short_len hR hs hf
      · cases a
  · rw [b]; simp

end Go.Proofs.YtlbfcnpnfoapnaaGreatDoor.Rd

namespace Go.Proofs.YtlbfcnpnfoapnaaGreatDoor.Rd
open Go.RowKit Go.Proofs.YtlbfcnpnfoapnaaGreatDoor.Mem
open Go.Proofs.YtlbfcnpnfoapnaaGreatDoor.Var (bl val varS first_low spec_hit spec_none impl_read impl_cut impl_none hit_of hit_shape val_le len_take bl_length)
set_option linter.unusedVariables false

def Tx (s : ByteArray) (p : Int × Nat) : Prop := (p.2 ≠ 0 → varS p.1 = s.extract 0 p.2) ∧ (p.2 ≠ 0 → (bl s).getD 0 0 < 128 → p.1 = (bl s).getD 0 0)

theorem tx_none (s : ByteArray) (x : Int) : Tx s (x, 0) := ⟨fun h => absurd rfl h, fun h => absurd rfl h⟩

theorem val_first (s : ByteArray) (h0 : 0 < s.size) (h : (bl s).getD 0 0 < 128) : val ((bl s).take 1) = (bl s).getD 0 0 := by
  have hl := bl_length s
  unfold bl at *
  cases hd : s.data.toList with
  | nil => rw [hd] at hl; simp at hl; omega
  | cons c t =>
    rw [hd] at h
    simp only [List.map_cons, List.take_succ_cons, List.take_zero, val, List.getD_cons_zero] at *
    omega

theorem rv_ex2 (s : ByteArray) (hs : s.size ≤ maxLen) : ∃ p : Int × Nat, RV s p ∧ Tx s p := by
  rcases first_low s (min 7 s.size) (by omega) with ⟨m, h1, h2, h3⟩ | h1
  · by_cases hz : m = 0 ∨ (bl s).getD m 0 ≠ 0
    · have hv := val_le ((bl s).take (m + 1)) (by have := len_take s (m + 1); omega)
      refine ⟨(val ((bl s).take (m + 1)), m + 1), ⟨fun w => spec_hit s m w hs (by omega) (by omega) (hit_of s m (by omega) (by omega) h2 h3 hz) ?_, fun w => impl_read s m w hs (by omega) (by omega) h2 h3 hz, by show m + 1 ≤ s.size; omega, hv.1, hv.2⟩, fun _ => hit_of s m (by omega) (by omega) h2 h3 hz, fun _ hb => ?_⟩
      · intro k hk1 hkm hh
        obtain ⟨j, rfl, _, g2, _⟩ := hit_shape s k (by omega) (by omega) hh
        have := h2 j (by omega)
        omega
      · have hm : m = 0 := by
          by_cases e : m = 0
          · exact e
          · have := h2 0 (by omega)
            omega
        subst hm
        exact val_first s (by omega) hb
    · have hm : m ≠ 0 := fun e => hz (Or.inl e)
      have hb : (bl s).getD m 0 = 0 := by
        by_cases e : (bl s).getD m 0 = 0
        · exact e
        · exact absurd (Or.inr e) hz
      refine ⟨(0, 0), ⟨fun w => spec_none s w hs ?_, fun w => impl_cut s m w hs (by omega) (by omega) h2 hb hm, Nat.zero_le _, Int.le_refl _, by decide⟩, tx_none _ _⟩
      intro k hk1 hk7 hks hh
      obtain ⟨j, rfl, g1, g2, g3⟩ := hit_shape s k hks hk7 hh
      by_cases hj : j < m
      · have := h2 j hj; omega
      · by_cases e : j = m
        · subst e
          rcases g3 with g3 | g3
          · exact hm g3
          · exact g3 hb
        · have := g1 m (by omega); omega
  · refine ⟨(0, 0), ⟨fun w => spec_none s w hs ?_, fun w => impl_none s w hs (fun j a b => h1 j (by omega)), Nat.zero_le _, Int.le_refl _, by decide⟩, tx_none _ _⟩
    intro k hk1 hk7 hks hh
    obtain ⟨j, rfl, _, g2, _⟩ := hit_shape s k hks hk7 hh
    have := h1 j (by omega)
    omega

theorem reads_ex2 : ∃ R, Reads R ∧ ∀ s : ByteArray, s.size ≤ maxLen → Tx s (R s) := by
  have h : ∀ s : ByteArray, ∃ p : Int × Nat, s.size ≤ maxLen → RV s p ∧ Tx s p := fun s => by
    by_cases hs : s.size ≤ maxLen
    · obtain ⟨p, hp⟩ := rv_ex2 s hs
      exact ⟨p, fun _ => hp⟩
    · exact ⟨(0, 0), fun h => absurd h hs⟩
  obtain ⟨R, hR⟩ := Classical.axiomOfChoice h
  exact ⟨R, fun s hs => (hR s hs).1, fun s hs => (hR s hs).2⟩

/-- What is left behind a head is the tail. -/
theorem rest_app (a b : ByteArray) (n : Nat) (hn : n = a.size) : rest (a ++ b) n = b := by
  subst hn
  unfold rest
  apply ByteArray.ext
  simp
  have e1 : a.data.extract a.data.size (a.data.size + b.data.size) = #[] := by
    apply Array.eq_empty_of_size_eq_zero
    rw [Array.size_extract]
    omega
  have e2 : b.data.extract 0 b.data.size = b.data := Array.extract_size
  show a.data.extract a.data.size (a.data.size + b.data.size) ++ b.data.extract 0 b.data.size = b.data
  rw [e1, e2, Array.empty_append]

end Go.Proofs.YtlbfcnpnfoapnaaGreatDoor.Rd

namespace Go.Proofs.YtlbfcnpnfoapnaaGreatDoor.Rd
open Go.RowKit Go.Proofs.YtlbfcnpnfoapnaaGreatDoor.Mem Go.Proofs.YtlbfcnpnfoapnaaGreatDoor.Sec
open Go.Proofs.YtlbfcnpnfoapnaaGreatDoor.Var (bl varS)
set_option linter.unusedVariables false

theorem three_steps {R : ByteArray → Int × Nat} {s : ByteArray} {i n : Nat} {x y f : Int} {l : List Int} {z : Nat} (h : nums R s i (n + 3) = some (x :: y :: f :: l, z)) :
    ∃ k1 k2 k3, R (rest s i) = (x, k1) ∧ R (rest s (i + k1)) = (y, k2) ∧ R (rest s (i + k1 + k2)) = (f, k3) ∧ k1 ≠ 0 ∧ k2 ≠ 0 ∧ k3 ≠ 0 := by
  have s1 := nums_step (R := R) (s := s) (i := i) (k := 0) (l := []) (e := i) rfl
  by_cases q1 : (R (rest s i)).2 = 0
  · rw [if_pos q1] at s1
    rw [show n + 3 = (n + 2) + 1 by omega] at h
    have := nums_none (k := 1) s1 (n + 2)
    rw [show 1 + (n + 2) = (n + 2) + 1 by omega] at this
    rw [this] at h
    cases h
  rw [if_neg q1] at s1
  have s2 := nums_step s1
  by_cases q2 : (R (rest s (i + (R (rest s i)).2))).2 = 0
  · rw [if_pos q2] at s2
    have := nums_none (k := 2) s2 (n + 1)
    rw [show 2 + (n + 1) = n + 3 by omega] at this
    rw [this] at h
    cases h
  rw [if_neg q2] at s2
  have s3 := nums_step s2
  by_cases q3 : (R (rest s (i + (R (rest s i)).2 + (R (rest s (i + (R (rest s i)).2))).2))).2 = 0
  · rw [if_pos q3] at s3
    have := nums_none (k := 3) s3 n
    rw [show 3 + n = n + 3 by omega] at this
    rw [this] at h
    cases h
  rw [if_neg q3] at s3
  have h7 := nums_split3 (n := n) s3
  rw [h] at h7
  cases hn : nums R s (i + (R (rest s i)).2 + (R (rest s (i + (R (rest s i)).2))).2 + (R (rest s (i + (R (rest s i)).2 + (R (rest s (i + (R (rest s i)).2))).2))).2) n with
  | none => rw [hn] at h7; cases h7
  | some p =>
    rw [hn] at h7
    simp only [Option.map_some, Option.some.injEq, Prod.mk.injEq, List.cons.injEq] at h7
    obtain ⟨⟨rfl, rfl, rfl, _⟩, _⟩ := h7
    exact ⟨_, _, _, rfl, rfl, rfl, q1, q2, q3⟩

theorem vr_of {x : Int} (h0 : 0 ≤ x) (h1 : x ≤ 562949953421311) : vr x = varS x := by unfold vr; rw [if_pos ⟨h0, h1⟩]

theorem flag_bytes (on : Bool) : ∃ c : UInt8, flag on = ⟨#[c]⟩ ∧ c.toNat ≤ 1 := by
  cases on
  · exact ⟨0, by decide, by decide⟩
  · exact ⟨1, by decide, by decide⟩

theorem no_flag (R : ByteArray → Int × Nat) (hR : Reads R) (hT : ∀ s : ByteArray, s.size ≤ maxLen → Tx s (R s)) (s : ByteArray) (hs : s.size ≤ 1048576) : NoVol R s 5 → readVol R s = none := by
  rintro (h | ⟨x, y, f, l, z, h, hf⟩)
  · unfold readVol; rw [h]
  unfold readVol
  rw [h]
  simp only []
  rw [if_neg]
  intro hsh
  obtain ⟨k1, k2, k3, e1, e2, e3, q1, q2, q3⟩ := three_steps (n := 4) h
  have hb : ∀ i, (rest s i).size ≤ maxLen := fun i => by rw [rest_size]; unfold maxLen; omega
  have r1 := hR _ (hb 5)
  have r2 := hR _ (hb (5 + k1))
  have t1 := (hT _ (hb 5)).1
  have t2 := (hT _ (hb (5 + k1))).1
  have t3 := (hT _ (hb (5 + k1 + k2))).2
  rw [e1] at r1 t1
  rw [e2] at r2 t2
  rw [e3] at t3
  have z1 : (vr x).size = k1 := by rw [vr_of r1.x0 r1.x1, t1 q1]; have := r1.le; simp at this ⊢; omega
  have z2 : (vr y).size = k2 := by rw [vr_of r2.x0 r2.x1, t2 q2]; have := r2.le; simp at this ⊢; omega
  by_cases hv : volOk (x - 1) y (decide (f = 1)) (l.map (· + -1)) = true
  · obtain ⟨c, hc, hc1⟩ := flag_bytes (decide (f = 1))
    rw [← vol_yes hv] at hsh
    unfold summed showLs at hsh
    obtain ⟨A, hA⟩ : ∃ A, Go.Proofs.YtlbfcnpnfoapnaaGreatDoor.Fix.fxS (crc (⟨#[118]⟩ ++ (vr (x - 1 + 1) ++ vr y) ++ flag (decide (f = 1)) ++ vrs (-1) (l.map (· + -1)))) 4 = A := ⟨_, rfl⟩
    have hA4 : A.size = 4 := by rw [← hA, Go.Proofs.YtlbfcnpnfoapnaaGreatDoor.Fix.fxS_size]
    rw [hA] at hsh
    rw [show x - 1 + 1 = x by omega, hc] at hsh
    generalize vrs (-1) (l.map (· + -1)) = V at hsh
    have hs2 : (A ++ ⟨#[118]⟩ ++ vr x ++ vr y) ++ (⟨#[c]⟩ ++ V) = s := by rw [← hsh]; simp only [ByteArray.append_assoc]
    have hr := rest_app (A ++ ⟨#[118]⟩ ++ vr x ++ vr y) (⟨#[c]⟩ ++ V) (5 + k1 + k2) (by simp only [ByteArray.size_append, hA4, z1, z2]; rfl)
    rw [hs2] at hr
    rw [hr] at t3
    have hg : (bl (⟨#[c]⟩ ++ V)).getD 0 0 = (c.toNat : Int) := by simp [bl]
    rw [hg] at t3
    have := t3 q3 (by omega)
    simp at this
    omega
  · rw [vol_no (by simpa using hv)] at hsh
    have hk := r1.le
    rw [rest_size, ← hsh] at hk
    have h0 : (⟨#[]⟩ : ByteArray).size = 0 := rfl
    rw [h0] at hk
    have : k1 ≤ 0 - 5 := hk
    omega

end Go.Proofs.YtlbfcnpnfoapnaaGreatDoor.Rd

namespace Go.Proofs.YtlbfcnpnfoapnaaGreatDoor.Sec
open Go.RowKit Go.Proofs.YtlbfcnpnfoapnaaGreatDoor.Mem
set_option linter.unusedVariables false

/-- A sector that a journal writes. -/
structure Ou where
  sec : Int
  text : ByteArray

def Ou.none : Ou := ⟨0, ByteArray.empty⟩
def Ou.cells (x : Ou) : List Value := [.int .i64 x.sec, .string x.text]

/-- A journal. -/
structure Jn where
  txn : Int
  done : Bool
  kind : Int
  vol : Int
  to : Int
  at_ : Int
  text : ByteArray
  outs : List Ou

/-- Cell i of a list of them, two cells each. -/
def ocell (l : List Ou) (i : Nat) : Value := (l.getD (i / 2) Ou.none).cells.getD (i % 2) undef
def Ous (w : World) (a : Option Addr) (l : List Ou) : Prop := Sl w a (l.length * 2) (ocell l)
def OusW (w : World) (B : Nat) (a : Option Addr) (l : List Ou) : Prop := Wr w B a (l.length * 2) (ocell l)

theorem ocell_at (l : List Ou) (k j : Nat) (hj : j < 2) : ocell l (k * 2 + j) = (l.getD k Ou.none).cells.getD j undef := by
  unfold ocell
  rw [show (k * 2 + j) / 2 = k by omega, show (k * 2 + j) % 2 = j by omega]

theorem Ous.at_ {w : World} {a : Option Addr} {l : List Ou} (h : Ous w a l) (k : Nat) (hk : k < l.length) : ∃ b off, a = some ⟨b, off, none⟩ ∧
    w.cell? ⟨b, off + k * 2, none⟩ = some (.int .i64 (l.getD k Ou.none).sec) ∧ w.cell? ⟨b, off + k * 2 + 1, none⟩ = some (.string (l.getD k Ou.none).text) := by
  obtain ⟨b, off, rfl, h0⟩ := h (k * 2 + 0) (by omega)
  obtain ⟨b1, off1, e1, h1⟩ := h (k * 2 + 1) (by omega)
  cases e1
  rw [ocell_at l k _ (by omega)] at h0 h1
  exact ⟨b, off, rfl, h0, by rw [Nat.add_assoc]; exact h1⟩

/-- Number i of the list is right. -/
def outAt (l : List Ou) (i : Nat) : Prop := (0 ≤ (l.getD i Ou.none).sec ∧ (l.getD i Ou.none).sec ≤ 33) ∧ (0 < i → (l.getD (i - 1) Ou.none).sec < (l.getD i Ou.none).sec) ∧ ((l.getD i Ou.none).text.size : Int) ≤ 60

theorem outAt_dec (l : List Ou) : Nonempty (DecidablePred (outAt l)) := ⟨fun i => by unfold outAt; exact inferInstance⟩

def outsOk (l : List Ou) : Bool := (List.range l.length).all fun i => decide (0 ≤ (l.getD i Ou.none).sec ∧ (l.getD i Ou.none).sec ≤ 33) && decide (0 < i → (l.getD (i - 1) Ou.none).sec < (l.getD i Ou.none).sec) && decide (((l.getD i Ou.none).text.size : Int) ≤ 60)

theorem outsOk_iff (l : List Ou) : outsOk l = true ↔ ∀ i, i < l.length → outAt l i := by
  unfold outsOk outAt
  rw [List.all_eq_true]
  constructor
  · intro h i hi
    have := h i (List.mem_range.2 hi)
    rw [Bool.and_eq_true, Bool.and_eq_true] at this
    exact ⟨of_decide_eq_true this.1.1, of_decide_eq_true this.1.2, of_decide_eq_true this.2⟩
  · intro h i hi
    obtain ⟨a, b, c⟩ := h i (List.mem_range.1 hi)
    rw [Bool.and_eq_true, Bool.and_eq_true]
    exact ⟨⟨decide_eq_true a, decide_eq_true b⟩, decide_eq_true c⟩

theorem outsOk_no {l : List Ou} (i : Nat) (hi : i < l.length) (h : ¬ outAt l i) : outsOk l = false := by
  cases e : outsOk l with
  | false => rfl
  | true => exact absurd ((outsOk_iff l).1 e i hi) h

def opOk (kind vol to at_ : Int) (text : ByteArray) : Bool := decide (1 ≤ kind ∧ kind ≤ 20) && between 0 99 [vol, to, at_] && decide ((text.size : Int) ≤ 16)

def opNone (kind vol to at_ : Int) (text : ByteArray) : Prop := kind = 0 ∧ vol = 0 ∧ to = 0 ∧ at_ = 0 ∧ text.size = 0

def Jn.ok (J : Jn) : Bool :=
  if J.done then decide (0 ≤ J.txn ∧ J.txn ≤ 1000000) && (decide (J.kind = 0 ∧ J.vol = 0 ∧ J.to = 0 ∧ J.at_ = 0 ∧ J.text.size = 0) && decide (J.outs.length = 0))
  else decide (1 ≤ J.txn ∧ J.txn ≤ 1000000) && (opOk J.kind J.vol J.to J.at_ J.text && (decide (1 ≤ J.outs.length ∧ J.outs.length ≤ 8) && outsOk J.outs))

def piece (s : ByteArray) : ByteArray := vr (s.size : Int) ++ s

/-- The texts of sectors, one behind the other. -/
def outsS (l : List Ou) : ByteArray := l.foldl (fun s x => s ++ vr x.sec ++ piece x.text) ⟨#[]⟩

def Jn.head (J : Jn) : ByteArray := ⟨#[106]⟩ ++ vr J.txn ++ flag J.done ++ vr J.kind ++ vr J.vol ++ vr J.to ++ vr J.at_ ++ piece J.text ++ vr (J.outs.length : Int)
def Jn.show (J : Jn) : ByteArray := if J.ok then summed (J.head ++ outsS J.outs) else ⟨#[]⟩

theorem piece_size (s : ByteArray) : (piece s).size ≤ 7 + s.size := by
  have := vr_size (s.size : Int)
  unfold piece; rw [ByteArray.size_append]; omega

theorem outsS_take (l : List Ou) (k : Nat) (h : k < l.length) : outsS (l.take (k + 1)) = outsS (l.take k) ++ vr (l.getD k Ou.none).sec ++ piece (l.getD k Ou.none).text := by
  unfold outsS
  rw [List.take_add_one, List.foldl_append]
  simp [List.getD, h]

theorem outsS_size (l : List Ou) (hl : l.length ≤ 8) (h : ∀ i, i < l.length → ((l.getD i Ou.none).text.size : Int) ≤ 60) (k : Nat) (hk : k ≤ l.length) : (outsS (l.take k)).size ≤ 74 * k := by
  induction k with
  | zero => simp [outsS]; rfl
  | succ k ih =>
    have h1 := ih (by omega)
    have h2 := vr_size (l.getD k Ou.none).sec
    have h3 := piece_size (l.getD k Ou.none).text
    have h4 := h k (by omega)
    rw [outsS_take l k (by omega), ByteArray.size_append, ByteArray.size_append]
    omega

theorem head_size (J : Jn) (h : J.text.size ≤ 16) : J.head.size ≤ 100 := by
  have h0 := vr_size J.txn
  have h1 := vr_size J.kind
  have h2 := vr_size J.vol
  have h3 := vr_size J.to
  have h4 := vr_size J.at_
  have h5 := piece_size J.text
  have h6 := vr_size (J.outs.length : Int)
  have h7 : (flag J.done).size ≤ 7 := vr_size _
  unfold Jn.head
  simp only [ByteArray.size_append]
  have : (⟨#[106]⟩ : ByteArray).size = 1 := rfl
  omega

end Go.Proofs.YtlbfcnpnfoapnaaGreatDoor.Sec

namespace Go.Proofs.YtlbfcnpnfoapnaaGreatDoor.Sec
open Go.RowKit Go.Proofs.YtlbfcnpnfoapnaaGreatDoor.Mem
set_option linter.unusedVariables false

set_option maxHeartbeats 400000 in
theorem l4Piece (s : ByteArray) (w : World) (hs : s.size ≤ 1048576) : Calls Tryz.prog 130 #[.string s] w fun e w' => e = .returned (.string (piece s)) ∧ Below w.heap.size w w' := by
  have HD : Hid (vr (s.size : Int) ++ s = piece s) := rfl
  have hv := vr_size (s.size : Int)
  go_enter Tryz.func130, Tryz.ntmps130
  go_wp2_with fail
  refine (sVar (s.size : Int) _).mono ?_
  rintro e w1 ⟨rfl, b1⟩
  have HB := hid b1
  clear b1
  go_wp2
  go_ret
  exact ⟨Own.ret_str HD.out, HB.out⟩

set_option maxHeartbeats 400000 in
theorem showPiece (s : ByteArray) (w : World) (hs : s.size ≤ 1048576) : Calls Tryz.prog 148 #[.string s] w fun e w' => e = .returned (.string (piece s)) ∧ Below w.heap.size w w' := by
  have HD : Hid (vr (s.size : Int) ++ s = piece s) := rfl
  have hv := vr_size (s.size : Int)
  go_enter Tryz.func148, Tryz.ntmps148
  go_wp2_with fail
  refine (iVar (s.size : Int) _).mono ?_
  rintro e w1 ⟨rfl, b1⟩
  have HB := hid b1
  clear b1
  go_wp2
  go_ret
  exact ⟨Own.ret_str HD.out, HB.out⟩

/-- A call's value. -/
def opV (kind vol to at_ : Int) (text : ByteArray) : Value := .agg #[.int .i64 kind, .int .i64 vol, .int .i64 to, .int .i64 at_, .string text]

theorem op_no0 {k v t a : Int} {s : ByteArray} (h : ¬ (1 ≤ k ∧ k ≤ 20)) : opOk k v t a s = false := by unfold opOk; rw [decide_eq_false h]; rfl
theorem three {v t a : Int} : between 0 99 [v, t, a] = (decide (0 ≤ v ∧ v ≤ 99) && (decide (0 ≤ t ∧ t ≤ 99) && (decide (0 ≤ a ∧ a ≤ 99) && true))) := rfl
theorem op_no1 {k v t a : Int} {s : ByteArray} (h : between 0 99 [v, t, a] = false) : opOk k v t a s = false := by unfold opOk; rw [h, Bool.and_false]; rfl
theorem op_yes {k v t a : Int} {s : ByteArray} (h : 1 ≤ k ∧ k ≤ 20) (h1 : between 0 99 [v, t, a] = true) : opOk k v t a s = decide ((s.size : Int) ≤ 16) := by unfold opOk; rw [decide_eq_true h, h1]; rfl

set_option maxRecDepth 100000 in
set_option maxHeartbeats 1000000 in
theorem l4OpOk (k v t a : Int) (s : ByteArray) (w : World) (hs : s.size ≤ 1048576) :
    Calls Tryz.prog 155 #[opV k v t a s] w fun e w' => e = .returned (.bool (opOk k v t a s)) ∧ Below w.heap.size w w' := by
  unfold opV
  obtain ⟨wa, hwa, ez, A0, B0⟩ := one_new w [.int .i64 k, .int .i64 v, .int .i64 t, .int .i64 a, .string s] 82
  have k0 := A0.c 0 rfl
  have k1 := A0.c 1 rfl
  have k2 := A0.c 2 rfl
  have k3 := A0.c 3 rfl
  have k4 := A0.c 4 rfl
  have HB := hid B0
  clear A0 B0
  go_enter Tryz.func155, Tryz.ntmps155
  go_wp2_with fail
  by_cases c0 : 1 ≤ k ∧ k ≤ 20
  · have c0' := decide_eq_true c0
    have HC0 := hid c0
    clear c0
    refine (c0' ▸ l1In k 1 20 _).mono ?_
    rintro e w1 ⟨rfl, hw⟩
    obtain rfl := hw.symm
    go_wp2_with fail
    by_cases c1 : 0 ≤ v ∧ v ≤ 99
    · have c1' := decide_eq_true c1
      refine (c1' ▸ l1In v 0 99 _).mono ?_
      rintro e w1 ⟨rfl, hw⟩
      obtain rfl := hw.symm
      go_wp2_with fail
      by_cases c2 : 0 ≤ t ∧ t ≤ 99
      · have c2' := decide_eq_true c2
        refine (c2' ▸ l1In t 0 99 _).mono ?_
        rintro e w1 ⟨rfl, hw⟩
        obtain rfl := hw.symm
        go_wp2_with fail
        by_cases c3 : 0 ≤ a ∧ a ≤ 99
        · have c3' := decide_eq_true c3
          have HY : Hid (opOk k v t a s = decide ((s.size : Int) ≤ 16)) := op_yes HC0.out (by rw [three, c1', c2', c3']; rfl)
          clear c1 c2 c3
          refine (c3' ▸ l1In a 0 99 _).mono ?_
          rintro e w1 ⟨rfl, hw⟩
          obtain rfl := hw.symm
          go_wp2
          go_ret
          exact ⟨by rw [HY.out]; rfl, HB.out⟩
        · have c3' := decide_eq_false c3
          have HN : Hid (opOk k v t a s = false) := op_no1 (by rw [three, c3', c2', c1']; rfl)
          clear c1 c2 c3
          refine (c3' ▸ l1In a 0 99 _).mono ?_
          rintro e w1 ⟨rfl, hw⟩
          obtain rfl := hw.symm
          go_wp2
          go_ret
          exact ⟨by rw [HN.out]; rfl, HB.out⟩
      · have c2' := decide_eq_false c2
        have HN : Hid (opOk k v t a s = false) := op_no1 (by rw [three, c2', c1']; rfl)
        clear c1 c2
        refine (c2' ▸ l1In t 0 99 _).mono ?_
        rintro e w1 ⟨rfl, hw⟩
        obtain rfl := hw.symm
        go_wp2
        go_ret
        exact ⟨by rw [HN.out]; rfl, HB.out⟩
    · have c1' := decide_eq_false c1
      have HN : Hid (opOk k v t a s = false) := op_no1 (by rw [three, c1']; rfl)
      clear c1
      refine (c1' ▸ l1In v 0 99 _).mono ?_
      rintro e w1 ⟨rfl, hw⟩
      obtain rfl := hw.symm
      go_wp2
      go_ret
      exact ⟨by rw [HN.out]; rfl, HB.out⟩
  · have c0' := decide_eq_false c0
    have HN : Hid (opOk k v t a s = false) := op_no0 c0
    clear c0
    refine (c0' ▸ l1In k 1 20 _).mono ?_
    rintro e w1 ⟨rfl, hw⟩
    obtain rfl := hw.symm
    go_wp2
    go_ret
    exact ⟨by rw [HN.out]; rfl, HB.out⟩

theorem ints_new (w : World) (l : List Int) : Ints (w.alloc (.cells (l.map (Value.int .i64)).toArray 3)) (some ⟨w.heap.size, 0, none⟩) l :=
  (wr_new w _ 3 l.length (fun i => .int .i64 (l.getD i 0)) (fun i hi => by simp [List.getD, hi])).sl

set_option maxRecDepth 100000 in
set_option maxHeartbeats 1000000 in
theorem isJournalOp (k v t a : Int) (s : ByteArray) (w : World) (hs : s.size ≤ 1048576) :
    Calls Tryz.prog 146 #[opV k v t a s] w fun e w' => e = .returned (.bool (opOk k v t a s)) ∧ Below w.heap.size w w' := by
  unfold opV
  obtain ⟨wa, hwa, ez, A0, B0⟩ := one_new w [.int .i64 k, .int .i64 v, .int .i64 t, .int .i64 a, .string s] 82
  have k0 := A0.c 0 rfl
  have k1 := A0.c 1 rfl
  have k2 := A0.c 2 rfl
  have k3 := A0.c 3 rfl
  have k4 := A0.c 4 rfl
  have HA := hid A0
  have HB := hid B0
  clear A0 B0
  go_enter Tryz.func146, Tryz.ntmps146
  go_wp2_with fail
  obtain ⟨wb, hwb⟩ : ∃ wb, wa.alloc (.cells ([v, t, a].map (Value.int .i64)).toArray 3) = wb := ⟨_, rfl⟩
  have HI := hid (ints_new wa [v, t, a])
  have b2 : Below wa.heap.size wa (wa.alloc (.cells ([v, t, a].map (Value.int .i64)).toArray 3)) := (Below.refl _ _).alloc (Nat.le_refl _) _
  rw [hwb] at b2 HI
  rw [ez] at HI
  simp only [List.map_cons, List.map_nil] at hwb
  simp only [hwb]
  have HB2 := hid (HB.out.trans (b2.mono HB.out.size))
  replace k4 := (HA.out.below b2 HA.out.lt).c 4 rfl
  clear b2 hwb hwa k0 k1 k2 k3 HA
  by_cases c0 : 1 ≤ k ∧ k ≤ 20
  · have c0' := decide_eq_true c0
    have HC0 := hid c0
    clear c0
    refine (c0' ▸ isFrom k 1 20 _).mono ?_
    rintro e w1 ⟨rfl, hw⟩
    obtain rfl := hw.symm
    go_wp2_with fail
    refine (areFrom wb _ 3 [v, t, a] 0 99 HI.out (show 3 ≤ 1048576 by decide)).mono ?_
    rintro e w1 ⟨rfl, hw⟩
    obtain rfl := hw.symm
    cases hz : between 0 99 [v, t, a] with
    | true =>
      have HY := hid (op_yes (s := s) HC0.out hz)
      clear hz
      go_wp2
      go_ret
      exact ⟨by rw [HY.out]; rfl, HB2.out⟩
    | false =>
      have HN := hid (op_no1 (k := k) (s := s) hz)
      clear hz
      go_wp2
      go_ret
      exact ⟨by rw [HN.out]; rfl, HB2.out⟩
  · have c0' := decide_eq_false c0
    have HN : Hid (opOk k v t a s = false) := op_no0 c0
    clear c0
    refine (c0' ▸ isFrom k 1 20 _).mono ?_
    rintro e w1 ⟨rfl, hw⟩
    obtain rfl := hw.symm
    go_wp2
    go_ret
    exact ⟨by rw [HN.out]; rfl, HB2.out⟩

end Go.Proofs.YtlbfcnpnfoapnaaGreatDoor.Sec

namespace Go.Proofs.YtlbfcnpnfoapnaaGreatDoor.Sec
open Go.RowKit Go.Proofs.YtlbfcnpnfoapnaaGreatDoor.Mem
set_option linter.unusedVariables false

/-- The lowest sector that may follow the first k. -/
def low (l : List Ou) (k : Nat) : Int := if k = 0 then 0 else (l.getD (k - 1) Ou.none).sec + 1

theorem low_iff (l : List Ou) (k : Nat) (h : ∀ i, i < k → outAt l i) : (low l k ≤ (l.getD k Ou.none).sec ∧ (l.getD k Ou.none).sec ≤ 33) ↔ ((0 ≤ (l.getD k Ou.none).sec ∧ (l.getD k Ou.none).sec ≤ 33) ∧ (0 < k → (l.getD (k - 1) Ou.none).sec < (l.getD k Ou.none).sec)) := by
  unfold low
  by_cases hk : k = 0
  · subst hk; simp
  · rw [if_neg hk]
    have := (h (k - 1) (by omega)).1
    constructor
    · intro x; exact ⟨by omega, fun _ => by omega⟩
    · intro x; have := x.2 (by omega); omega

theorem low_bd (l : List Ou) (k : Nat) (h : ∀ i, i < k → outAt l i) : 0 ≤ low l k ∧ low l k ≤ 34 := by
  unfold low
  by_cases hk : k = 0
  · rw [if_pos hk]; omega
  · rw [if_neg hk]
    have := (h (k - 1) (by omega)).1
    omega

theorem low_succ (l : List Ou) (k : Nat) : low l (k + 1) = (l.getD k Ou.none).sec + 1 := rfl

theorem outs_step {l : List Ou} {k : Nat} (h : ∀ i, i < k → outAt l i) (hk : outAt l k) : ∀ i, i < k + 1 → outAt l i := fun i hi => by
  by_cases e : i = k
  · rw [e]; exact hk
  · exact h i (by omega)

set_option maxRecDepth 100000 in
set_option maxHeartbeats 1000000 in
theorem areOuts (w : World) (a : Option Addr) (cap : Nat) (l : List Ou) (S : Ous w a l) (hl : l.length ≤ 1048576) (hs : ∀ x ∈ l, x.text.size ≤ 1048576) :
    Calls Tryz.prog 147 #[.slice a l.length cap] w fun e w' => e = .returned (.bool (decide (l.length ≤ 8) && outsOk l)) ∧ Below w.heap.size w w' := by
  have HS := hid S
  have Hs : Hid (∀ k, (l.getD k Ou.none).text.size ≤ 1048576) := fun k => by
    by_cases h : k < l.length
    · exact hs _ (by simp [List.getD, h])
    · simp [List.getD, h, Ou.none]
  clear S hs
  by_cases hg : 8 < (l.length : Int)
  · have hg' : decide (l.length ≤ 8) = false := decide_eq_false (by omega)
    rw [hg']
    clear hg'
    go_enter Tryz.func147, Tryz.ntmps147
    go_wp2
    go_ret
    exact ⟨rfl, Below.refl _ _⟩
  have hg' : decide (l.length ≤ 8) = true := decide_eq_true (by omega)
  rw [hg', Bool.true_and]
  clear hg'
  have HZ := hid (low_succ l)
  go_enter Tryz.func147, Tryz.ntmps147
  go_wp2
  go_loopw [3, 11] (fun lo i wr => ∃ k : Nat, k ≤ l.length ∧ i = .int .i64 (k : Int) ∧ lo = .int .i64 (low l k) ∧ Hid (∀ i, i < k → outAt l i) ∧ Hid (Below w.heap.size w wr)) (fun _ i _ => l.length - (intOf i).toNat)
  case atStart => exact ⟨0, Nat.zero_le _, rfl, rfl, fun i hi => by omega, Below.refl _ _⟩
  case round =>
    obtain ⟨k, hk, rfl, rfl, HK, HB⟩ := hrel
    by_cases hlt : k < l.length
    · obtain ⟨b, off, rfl, c0, c1⟩ := Ous.at_ (HS.out.below HB.out) k hlt
      have HI := hid (low_iff l k HK.out)
      have hbd := low_bd l k HK.out
      have hsz := Hs.out k
      have HN := hid (outsOk_no k hlt)
      have HST := hid (fun h => outs_step (k := k) HK.out h)
      have HLS := hid (low_succ l k)
      have HAt : Hid (outAt l k ↔ ((0 ≤ (l.getD k Ou.none).sec ∧ (l.getD k Ou.none).sec ≤ 33) ∧ (0 < k → (l.getD (k - 1) Ou.none).sec < (l.getD k Ou.none).sec)) ∧ ((l.getD k Ou.none).text.size : Int) ≤ 60) := by
        unfold outAt
        exact ⟨fun x => ⟨⟨x.1, x.2.1⟩, x.2.2⟩, fun x => ⟨x.1.1, x.1.2, x.2⟩⟩
      rw [← HI.out] at HAt
      generalize l.getD k Ou.none = x at c0 c1 hsz HAt HLS
      clear HI
      obtain ⟨xs, xt⟩ := x
      simp only [] at c0 c1 hsz HAt HLS
      generalize low l k = lo at *
      go_wp2_with fail
      obtain ⟨wo, hwo, ez, O0, B0⟩ := one_new wr [.int .i64 xs, .string xt] 119
      simp only [hwo]
      have d0 := O0.c 0 rfl
      have d1 := O0.c 1 rfl
      have HBo := hid (HB.out.trans (B0.mono HB.out.size))
      clear hwo O0 B0 c0 c1
      by_cases c : lo ≤ xs ∧ xs ≤ 33
      · have c' := decide_eq_true c
        refine (c' ▸ isFrom xs lo 33 _).mono ?_
        rintro e w1 ⟨rfl, hw⟩
        obtain rfl := hw.symm
        by_cases h60 : 60 < (xt.size : Int)
        · have HR := hid (HN.out (fun x => by have := (HAt.out.1 x).2; omega))
          clear c
          go_wp2
          go_ret
          exact ⟨by rw [HR.out]; rfl, HBo.out⟩
        · have HR := hid (HST.out (HAt.out.2 ⟨c, by omega⟩))
          have hx33 : xs ≤ 33 := c.2
          have hx0 : 0 ≤ xs := by omega
          clear c
          go_wp2
          exact ⟨⟨k + 1, by omega, by go_num, by rw [HLS.out], HR, HBo⟩, by simp [intOf]; omega⟩
      · have c' := decide_eq_false c
        have HR := hid (HN.out (fun x => c (HAt.out.1 x).1))
        clear c
        refine (c' ▸ isFrom xs lo 33 _).mono ?_
        rintro e w1 ⟨rfl, hw⟩
        obtain rfl := hw.symm
        go_wp2
        go_ret
        exact ⟨by rw [HR.out]; rfl, HBo.out⟩
    · obtain rfl : k = l.length := by omega
      have HR := hid ((outsOk_iff l).2 HK.out)
      go_wp2
      go_ret
      exact ⟨by rw [HR.out]; rfl, HB.out⟩

theorem stOp : Tryz.prog.underlying 82 = some (.struct (Tryz.prog.fieldsOf 82)) := by kernel_rfl
theorem heldOp : Tryz.prog.stoodInHeld 82 = false := by kernel_rfl
theorem guardOp : Tryz.prog.eqGuardType Tryz.prog.depth 82 = false := by kernel_rfl

theorem eql_op (k v t a : Int) (s : ByteArray) (w : World) : (binOp .eql 82 (.agg #[.int .i64 k, .int .i64 v, .int .i64 t, .int .i64 a, .string s]) (.agg #[.int .i64 0, .int .i64 0, .int .i64 0, .int .i64 0, .string ⟨#[]⟩])).run Tryz.prog w = .ok (.bool (decide (k = 0 ∧ v = 0 ∧ t = 0 ∧ a = 0 ∧ s.size = 0))) w := by
  rw [run_eql_struct, run_equalIn_agg w 9999 82 _ _ stOp heldOp]
  unfold Program.fieldsOf
  rw [Tryz.underlying82]
  by_cases h5 : s.size = 0
  · obtain rfl : s = ⟨#[]⟩ := by
      apply ByteArray.ext
      have : s.data.size = 0 := h5
      exact Array.eq_empty_of_size_eq_zero this
    by_cases h1 : k = 0 <;> by_cases h2 : v = 0 <;> by_cases h3 : t = 0 <;> by_cases h4 : a = 0 <;> simp [Op.eqFields, part, go_sem, h1, h2, h3, h4, Tryz.underlying3]
  · have hne : ¬ s.toList = [] := fun e => h5 (by
      rw [ByteArray.toList_eq] at e
      show s.data.size = 0
      rw [← Array.length_toList, e]; rfl)
    by_cases h1 : k = 0 <;> by_cases h2 : v = 0 <;> by_cases h3 : t = 0 <;> by_cases h4 : a = 0 <;> simp [Op.eqFields, part, go_sem, h1, h2, h3, h4, h5, hne, Tryz.underlying3]

end Go.Proofs.YtlbfcnpnfoapnaaGreatDoor.Sec

namespace Go.Proofs.YtlbfcnpnfoapnaaGreatDoor.Sec
open Go.RowKit Go.Proofs.YtlbfcnpnfoapnaaGreatDoor.Mem
set_option linter.unusedVariables false

/-- A journal's cells, its list at a. -/
def Jn.cells (J : Jn) (a : Option Addr) (cap : Nat) : List Value := [.int .i64 J.txn, .bool J.done, .int .i64 J.kind, .int .i64 J.vol, .int .i64 J.to, .int .i64 J.at_, .string J.text, .slice a J.outs.length cap]
def jnV (J : Jn) (a : Option Addr) (cap : Nat) : Value := .agg (J.cells a cap).toArray

/-- All of it is of a size that the law lets by. -/
structure Jn.Small (J : Jn) : Prop where
  text : J.text.size ≤ 1048576
  outs : J.outs.length ≤ 1048576
  each : ∀ x ∈ J.outs, x.text.size ≤ 1048576

theorem jok_done {J : Jn} (h : J.done = true) : J.ok = (decide (0 ≤ J.txn ∧ J.txn ≤ 1000000) && (decide (J.kind = 0 ∧ J.vol = 0 ∧ J.to = 0 ∧ J.at_ = 0 ∧ J.text.size = 0) && decide (J.outs.length = 0))) := by unfold Jn.ok; rw [if_pos h]
theorem jok_not {J : Jn} (h : J.done = false) : J.ok = (decide (1 ≤ J.txn ∧ J.txn ≤ 1000000) && (opOk J.kind J.vol J.to J.at_ J.text && (decide (1 ≤ J.outs.length ∧ J.outs.length ≤ 8) && outsOk J.outs))) := by unfold Jn.ok; rw [if_neg (by rw [h]; decide)]

set_option maxRecDepth 100000 in
set_option maxHeartbeats 2000000 in
theorem isJournal (w : World) (J : Jn) (a : Option Addr) (cap : Nat) (S : Ous w a J.outs) (hs : J.Small) :
    Calls Tryz.prog 119 #[jnV J a cap] w fun r w' => r = .returned (.bool J.ok) ∧ Below w.heap.size w w' := by
  unfold jnV
  obtain ⟨txn, dn, k, v, t, at_, s, l⟩ := J
  have z1 : s.size ≤ 1048576 := hs.text
  have z2 : l.length ≤ 1048576 := hs.outs
  have HS := hid S
  have HSm := hid hs
  clear S hs
  cases dn with
  | true =>
    have HE := hid (jok_done (J := ⟨txn, true, k, v, t, at_, s, l⟩) rfl)
    simp only [] at HE
    generalize (Jn.mk txn true k v t at_ s l).ok = q at *
    unfold Jn.cells
    simp only []
    obtain ⟨wa, hwa, ez, A0, B0⟩ := one_new w [.int .i64 txn, .bool true, .int .i64 k, .int .i64 v, .int .i64 t, .int .i64 at_, .string s, .slice a l.length cap] 85
    have k0 := A0.c 0 rfl
    have k1 := A0.c 1 rfl
    have k2 := A0.c 2 rfl
    have k3 := A0.c 3 rfl
    have k4 := A0.c 4 rfl
    have k5 := A0.c 5 rfl
    have k6 := A0.c 6 rfl
    have k7 := A0.c 7 rfl
    have HB := hid B0
    have hgo := guardOp
    clear A0 B0
    go_enter Tryz.func119, Tryz.ntmps119
    go_wp2_with fail
    by_cases c0 : 0 ≤ txn ∧ txn ≤ 1000000
    · have c0' := decide_eq_true c0
      rw [c0', Bool.true_and] at HE
      clear c0
      refine (c0' ▸ isFrom txn 0 1000000 _).mono ?_
      rintro r w1 ⟨rfl, hw⟩
      obtain rfl := hw.symm
      have heq := eql_op k v t at_ s
      by_cases c1 : k = 0 ∧ v = 0 ∧ t = 0 ∧ at_ = 0 ∧ s.size = 0
      · rw [decide_eq_true c1] at HE
        simp only [decide_eq_true c1] at heq
        clear c1
        by_cases c2 : (l.length : Int) = 0
        · have HQ : Hid (q = true) := by rw [Hid, HE.out, decide_eq_true (show l.length = 0 by omega)]; rfl
          have c2' : ((l.length : Int) == 0) = true := by simpa using c2
          clear c2
          go_wp2
          go_ret
          exact ⟨by rw [HQ.out]; rfl, HB.out⟩
        · have HQ : Hid (q = false) := by rw [Hid, HE.out, decide_eq_false (show ¬ l.length = 0 by omega)]; rfl
          have c2' : ((l.length : Int) == 0) = false := by simpa using c2
          clear c2
          go_wp2
          go_ret
          exact ⟨by rw [HQ.out]; rfl, HB.out⟩
      · rw [decide_eq_false c1] at HE
        simp only [decide_eq_false c1] at heq
        clear c1
        go_wp2
        go_ret
        exact ⟨by rw [HE.out]; rfl, HB.out⟩
    · have c0' := decide_eq_false c0
      rw [c0', Bool.false_and] at HE
      clear c0
      refine (c0' ▸ isFrom txn 0 1000000 _).mono ?_
      rintro r w1 ⟨rfl, hw⟩
      obtain rfl := hw.symm
      go_wp2
      go_ret
      exact ⟨by rw [HE.out]; rfl, HB.out⟩
  | false =>
    have HE := hid (jok_not (J := ⟨txn, false, k, v, t, at_, s, l⟩) rfl)
    simp only [] at HE
    have Hs3 : Hid (∀ x ∈ l, x.text.size ≤ 1048576) := HSm.out.each
    generalize (Jn.mk txn false k v t at_ s l).ok = q at *
    unfold Jn.cells
    simp only []
    obtain ⟨wa, hwa, ez, A0, B0⟩ := one_new w [.int .i64 txn, .bool false, .int .i64 k, .int .i64 v, .int .i64 t, .int .i64 at_, .string s, .slice a l.length cap] 85
    have k0 := A0.c 0 rfl
    have k1 := A0.c 1 rfl
    have k2 := A0.c 2 rfl
    have k3 := A0.c 3 rfl
    have k4 := A0.c 4 rfl
    have k5 := A0.c 5 rfl
    have k6 := A0.c 6 rfl
    have k7 := A0.c 7 rfl
    have HA := hid A0
    have HB := hid B0
    clear A0 B0
    go_enter Tryz.func119, Tryz.ntmps119
    go_wp2_with fail
    by_cases c0 : 1 ≤ txn ∧ txn ≤ 1000000
    · have c0' := decide_eq_true c0
      rw [c0', Bool.true_and] at HE
      clear c0
      refine (c0' ▸ isFrom txn 1 1000000 _).mono ?_
      rintro r w1 ⟨rfl, hw⟩
      obtain rfl := hw.symm
      go_wp2_with fail
      refine (isJournalOp k v t at_ s _ z1).mono ?_
      rintro r w2 ⟨rfl, b2⟩
      replace k7 := (HA.out.below b2 HA.out.lt).c 7 rfl
      have HB2 := hid (HB.out.trans (b2.mono HB.out.size))
      clear b2 hwa k0 k1 k2 k3 k4 k5 k6 HA
      cases hz : opOk k v t at_ s with
      | true =>
        rw [hz, Bool.true_and] at HE
        clear hz
        by_cases c2 : 0 < (l.length : Int)
        · go_wp2_with fail
          refine (areOuts w2 a cap l (HS.out.below HB2.out) z2 Hs3.out).mono ?_
          rintro r w3 ⟨rfl, b3⟩
          have HB3 := hid (HB2.out.trans (b3.mono HB2.out.size))
          have HQ : Hid (q = (decide (l.length ≤ 8) && outsOk l)) := by
            rw [Hid, HE.out]
            congr 1
            exact decide_eq_decide.2 ⟨fun x => x.2, fun x => ⟨by omega, x⟩⟩
          generalize (decide (l.length ≤ 8) && outsOk l) = z at *
          clear b3
          go_wp2
          go_ret
          exact ⟨by rw [HQ.out]; rfl, HB3.out⟩
        · have HQ : Hid (q = false) := by rw [Hid, HE.out, decide_eq_false (show ¬ (1 ≤ l.length ∧ l.length ≤ 8) by omega)]; rfl
          go_wp2
          go_ret
          exact ⟨by rw [HQ.out]; rfl, HB2.out⟩
      | false =>
        rw [hz, Bool.false_and] at HE
        clear hz
        go_wp2
        go_ret
        exact ⟨by rw [HE.out]; rfl, HB2.out⟩
    · have c0' := decide_eq_false c0
      rw [c0', Bool.false_and] at HE
      clear c0
      refine (c0' ▸ isFrom txn 1 1000000 _).mono ?_
      rintro r w1 ⟨rfl, hw⟩
      obtain rfl := hw.symm
      go_wp2
      go_ret
      exact ⟨by rw [HE.out]; rfl, HB.out⟩

end Go.Proofs.YtlbfcnpnfoapnaaGreatDoor.Sec

namespace Go.Proofs.YtlbfcnpnfoapnaaGreatDoor.Sec
open Go.RowKit Go.Proofs.YtlbfcnpnfoapnaaGreatDoor.Mem
set_option linter.unusedVariables false

set_option maxRecDepth 100000 in
set_option maxHeartbeats 2000000 in
theorem jnOk_done (w : World) (txn k v t at_ : Int) (s : ByteArray) (l : List Ou) (a : Option Addr) (cap : Nat) (z1 : s.size ≤ 1048576) (z2 : l.length ≤ 1048576) :
    Calls Tryz.prog 129 #[jnV ⟨txn, true, k, v, t, at_, s, l⟩ a cap] w fun r w' => r = .returned (.bool (Jn.mk txn true k v t at_ s l).ok) ∧ Below w.heap.size w w' := by
  unfold jnV
  have HE := hid (jok_done (J := ⟨txn, true, k, v, t, at_, s, l⟩) rfl)
  simp only [] at HE
  generalize (Jn.mk txn true k v t at_ s l).ok = q at *
  unfold Jn.cells
  simp only []
  obtain ⟨wa, hwa, ez, A0, B0⟩ := one_new w [.int .i64 txn, .bool true, .int .i64 k, .int .i64 v, .int .i64 t, .int .i64 at_, .string s, .slice a l.length cap] 85
  have k0 := A0.c 0 rfl
  have k1 := A0.c 1 rfl
  have k2 := A0.c 2 rfl
  have k3 := A0.c 3 rfl
  have k4 := A0.c 4 rfl
  have k5 := A0.c 5 rfl
  have k6 := A0.c 6 rfl
  have k7 := A0.c 7 rfl
  have HB := hid B0
  have hgo := guardOp
  clear A0 B0
  go_enter Tryz.func129, Tryz.ntmps129
  go_wp2_with fail
  by_cases c0 : 0 ≤ txn ∧ txn ≤ 1000000
  · have c0' := decide_eq_true c0
    rw [c0', Bool.true_and] at HE
    clear c0
    refine (c0' ▸ l1In txn 0 1000000 _).mono ?_
    rintro r w1 ⟨rfl, hw⟩
    obtain rfl := hw.symm
    have heq := eql_op k v t at_ s
    by_cases c1 : k = 0 ∧ v = 0 ∧ t = 0 ∧ at_ = 0 ∧ s.size = 0
    · rw [decide_eq_true c1] at HE
      simp only [decide_eq_true c1] at heq
      clear c1
      by_cases c2 : (l.length : Int) = 0
      · have HQ : Hid (q = true) := by rw [Hid, HE.out, decide_eq_true (show l.length = 0 by omega)]; rfl
        have c2' : ((l.length : Int) == 0) = true := by simpa using c2
        clear c2
        go_wp2
        go_ret
        exact ⟨by rw [HQ.out]; rfl, HB.out⟩
      · have HQ : Hid (q = false) := by rw [Hid, HE.out, decide_eq_false (show ¬ l.length = 0 by omega)]; rfl
        have c2' : ((l.length : Int) == 0) = false := by simpa using c2
        clear c2
        go_wp2
        go_ret
        exact ⟨by rw [HQ.out]; rfl, HB.out⟩
    · rw [decide_eq_false c1] at HE
      simp only [decide_eq_false c1] at heq
      clear c1
      go_wp2
      go_ret
      exact ⟨by rw [HE.out]; rfl, HB.out⟩
  · have c0' := decide_eq_false c0
    rw [c0', Bool.false_and] at HE
    clear c0
    refine (c0' ▸ l1In txn 0 1000000 _).mono ?_
    rintro r w1 ⟨rfl, hw⟩
    obtain rfl := hw.symm
    go_wp2
    go_ret
    exact ⟨by rw [HE.out]; rfl, HB.out⟩

set_option maxRecDepth 100000 in
set_option maxHeartbeats 4000000 in
theorem jnOk_not (w : World) (txn k v t at_ : Int) (s : ByteArray) (l : List Ou) (a : Option Addr) (cap : Nat) (S : Ous w a l) (z1 : s.size ≤ 1048576) (z2 : l.length ≤ 1048576) (z3 : ∀ x ∈ l, x.text.size ≤ 1048576) :
    Calls Tryz.prog 129 #[jnV ⟨txn, false, k, v, t, at_, s, l⟩ a cap] w fun r w' => r = .returned (.bool (Jn.mk txn false k v t at_ s l).ok) ∧ Below w.heap.size w w' := by
  unfold jnV
  have HE := hid (jok_not (J := ⟨txn, false, k, v, t, at_, s, l⟩) rfl)
  simp only [] at HE
  have HS := hid S
  have Hs : Hid (∀ k, (l.getD k Ou.none).text.size ≤ 1048576) := fun k => by
    by_cases h : k < l.length
    · exact z3 _ (by simp [List.getD, h])
    · simp [List.getD, h, Ou.none]
  clear S z3
  generalize (Jn.mk txn false k v t at_ s l).ok = q at *
  unfold Jn.cells
  simp only []
  obtain ⟨wa, hwa, ez, A0, B0⟩ := one_new w [.int .i64 txn, .bool false, .int .i64 k, .int .i64 v, .int .i64 t, .int .i64 at_, .string s, .slice a l.length cap] 85
  have k0 := A0.c 0 rfl
  have k1 := A0.c 1 rfl
  have k2 := A0.c 2 rfl
  have k3 := A0.c 3 rfl
  have k4 := A0.c 4 rfl
  have k5 := A0.c 5 rfl
  have k6 := A0.c 6 rfl
  have k7 := A0.c 7 rfl
  have HA := hid A0
  have HB := hid B0
  clear A0 B0
  go_enter Tryz.func129, Tryz.ntmps129
  go_wp2_with fail
  by_cases c0 : 0 ≤ txn ∧ txn ≤ 1000000
  · have c0' := decide_eq_true c0
    refine (c0' ▸ l1In txn 0 1000000 _).mono ?_
    rintro r w1 ⟨rfl, hw⟩
    obtain rfl := hw.symm
    by_cases c1 : txn < 1
    · have HQ : Hid (q = false) := by rw [Hid, HE.out, decide_eq_false (show ¬ (1 ≤ txn ∧ txn ≤ 1000000) by omega)]; rfl
      clear c0
      go_wp2
      go_ret
      exact ⟨by rw [HQ.out]; rfl, HB.out⟩
    rw [decide_eq_true (show 1 ≤ txn ∧ txn ≤ 1000000 by omega), Bool.true_and] at HE
    have c1d : decide (txn < 1) = false := decide_eq_false c1
    clear c0
    go_wp2_with fail
    refine (l4OpOk k v t at_ s _ z1).mono ?_
    rintro r w2 ⟨rfl, b2⟩
    have HA2 := hid (HA.out.below b2 HA.out.lt)
    replace k7 := HA2.out.c 7 rfl
    have HB2 := hid (HB.out.trans (b2.mono HB.out.size))
    clear b2 hwa k0 k1 k2 k3 k4 k5 k6 HA
    cases hz : opOk k v t at_ s with
    | false =>
      rw [hz, Bool.false_and] at HE
      clear hz
      go_wp2
      go_ret
      exact ⟨by rw [HE.out]; rfl, HB2.out⟩
    | true =>
      rw [hz, Bool.true_and] at HE
      clear hz
      go_wp2_with fail
      by_cases c2 : 1 ≤ (l.length : Int) ∧ (l.length : Int) ≤ 8
      · have c2' := decide_eq_true c2
        rw [decide_eq_true (show 1 ≤ l.length ∧ l.length ≤ 8 by omega), Bool.true_and] at HE
        have hl8 : l.length ≤ 8 := by omega
        clear c2
        refine (c2' ▸ l1In (l.length : Int) 1 8 _).mono ?_
        rintro r w3 ⟨rfl, hw⟩
        obtain rfl := hw.symm
        go_wp2
        go_loopw [3] (fun i wr => ∃ k : Nat, k ≤ l.length ∧ i = .int .i64 (k : Int) ∧ Hid (∀ i, i < k → outAt l i) ∧ Hid (Below w2.heap.size w2 wr)) (fun i _ => l.length - (intOf i).toNat)
        case atStart => exact ⟨0, Nat.zero_le _, rfl, fun i hi => by omega, Below.refl _ _⟩
        case round =>
          obtain ⟨i, hi, rfl, HK, HBr⟩ := hrel
          have HBw := hid (HB2.out.trans (HBr.out.mono HB2.out.size))
          have m7 := (HA2.out.below HBr.out HA2.out.lt).c 7 rfl
          by_cases hlt : i < l.length
          · obtain ⟨b, off, rfl, e0, e1⟩ := Ous.at_ (HS.out.below HBw.out) i hlt
            have hsz := Hs.out i
            have HN := hid (outsOk_no i hlt)
            have HST := hid (fun h => outs_step (k := i) HK.out h)
            have HAt : Hid (outAt l i ↔ ((0 ≤ (l.getD i Ou.none).sec ∧ (l.getD i Ou.none).sec ≤ 33) ∧ (0 < i → (l.getD (i - 1) Ou.none).sec < (l.getD i Ou.none).sec)) ∧ ((l.getD i Ou.none).text.size : Int) ≤ 60) := by
              unfold outAt
              exact ⟨fun x => ⟨⟨x.1, x.2.1⟩, x.2.2⟩, fun x => ⟨x.1.1, x.1.2, x.2⟩⟩
            generalize l.getD i Ou.none = x at e0 e1 hsz HAt
            obtain ⟨xs, xt⟩ := x
            simp only [] at e0 e1 hsz HAt
            have hne : Nonempty (BW wr) := ⟨⟨wr, Below.refl _ _⟩⟩
            replace e0 := BW.cell e0
            replace e1 := BW.cell e1
            have n7 := BW.cell m7
            clear k7
            by_cases d0 : 0 ≤ xs ∧ xs ≤ 33
            · have d0' := decide_eq_true d0
              cases i with
              | zero =>
                simp only [Nat.zero_mul, Nat.add_zero] at e0 e1
                by_cases h60 : 60 < (xt.size : Int)
                · have HR := hid (HN.out (fun x => by have := (HAt.out.1 x).2; omega))
                  clear d0
                  go_wp2
                  refine wp_region_bw (by kernel_rfl) (by kernel_rfl) ?_
                  repeat (go_big_quiet_step (first
                    | (go_at_call 60; refine bw_same (v := .bool true) (d0' ▸ l1In xs 0 33 _))))
                  refine wpQuiet_nil ?_
                  intro _ hw'
                  obtain ⟨u, rfl⟩ := hw'
                  have HU := hid (HBw.out.trans (u.bel.mono HBw.out.size))
                  have HUr := hid (HBr.out.trans (u.bel.mono HBr.out.size))
                  clear e0 e1 n7 m7 
                  go_wp2
                  go_ret
                  exact ⟨by rw [HE.out, HR.out]; rfl, HU.out⟩
                · have HR := hid (HST.out (HAt.out.2 ⟨⟨d0, fun h => by omega⟩, by omega⟩))
                  clear d0
                  go_wp2
                  refine wp_region_bw (by kernel_rfl) (by kernel_rfl) ?_
                  repeat (go_big_quiet_step (first
                    | (go_at_call 60; refine bw_same (v := .bool true) (d0' ▸ l1In xs 0 33 _))))
                  refine wpQuiet_nil ?_
                  intro _ hw'
                  obtain ⟨u, rfl⟩ := hw'
                  have HU := hid (HBw.out.trans (u.bel.mono HBw.out.size))
                  have HUr := hid (HBr.out.trans (u.bel.mono HBr.out.size))
                  clear e0 e1 n7 m7 
                  go_wp2
                  exact ⟨⟨1, by omega, by go_num, HR, HUr⟩, by simp [intOf]; omega⟩
              | succ m =>
                obtain ⟨b', off', eb, p0, _⟩ := Ous.at_ (HS.out.below HBw.out) m (by omega)
                cases eb
                rw [show m + 1 - 1 = m from rfl] at HAt
                generalize (l.getD m Ou.none).sec = ys at p0 HAt
                replace p0 := BW.cell p0
                have hm0 : (0 : Int) < ((m + 1 : Nat) : Int) := by omega
                have hm1 : ((m + 1 : Nat) : Int) - 1 = (m : Int) := by omega
                have hm2 : (m : Int) < (l.length : Int) := by omega
                by_cases d1 : xs ≤ ys
                · have HR := hid (HN.out (fun x => by have := (HAt.out.1 x).1.2 (by omega); omega))
                  clear d0
                  go_wp2
                  refine wp_region_bw (by kernel_rfl) (by kernel_rfl) ?_
                  repeat (go_big_quiet_step (first
                    | (go_at_call 60; refine bw_same (v := .bool true) (d0' ▸ l1In xs 0 33 _))))
                  refine wpQuiet_nil ?_
                  intro _ hw'
                  obtain ⟨u, rfl⟩ := hw'
                  have HU := hid (HBw.out.trans (u.bel.mono HBw.out.size))
                  have HUr := hid (HBr.out.trans (u.bel.mono HBr.out.size))
                  clear e0 e1 n7 m7 p0
                  go_wp2
                  go_ret
                  exact ⟨by rw [HE.out, HR.out]; rfl, HU.out⟩
                have d1' : decide (xs ≤ ys) = false := decide_eq_false d1
                by_cases h60 : 60 < (xt.size : Int)
                · have HR := hid (HN.out (fun x => by have := (HAt.out.1 x).2; omega))
                  clear d0
                  go_wp2
                  refine wp_region_bw (by kernel_rfl) (by kernel_rfl) ?_
                  repeat (go_big_quiet_step (first
                    | (go_at_call 60; refine bw_same (v := .bool true) (d0' ▸ l1In xs 0 33 _))))
                  refine wpQuiet_nil ?_
                  intro _ hw'
                  obtain ⟨u, rfl⟩ := hw'
                  have HU := hid (HBw.out.trans (u.bel.mono HBw.out.size))
                  have HUr := hid (HBr.out.trans (u.bel.mono HBr.out.size))
                  clear e0 e1 n7 m7 p0
                  go_wp2
                  go_ret
                  exact ⟨by rw [HE.out, HR.out]; rfl, HU.out⟩
                · have HR := hid (HST.out (HAt.out.2 ⟨⟨d0, fun h => by omega⟩, by omega⟩))
                  clear d0
                  go_wp2
                  refine wp_region_bw (by kernel_rfl) (by kernel_rfl) ?_
                  repeat (go_big_quiet_step (first
                    | (go_at_call 60; refine bw_same (v := .bool true) (d0' ▸ l1In xs 0 33 _))))
                  refine wpQuiet_nil ?_
                  intro _ hw'
                  obtain ⟨u, rfl⟩ := hw'
                  have HU := hid (HBw.out.trans (u.bel.mono HBw.out.size))
                  have HUr := hid (HBr.out.trans (u.bel.mono HBr.out.size))
                  clear e0 e1 n7 m7 p0
                  go_wp2
                  exact ⟨⟨m + 1 + 1, by omega, by go_num, HR, HUr⟩, by simp [intOf]; omega⟩
            · have d0' := decide_eq_false d0
              have HR := hid (HN.out (fun x => d0 (HAt.out.1 x).1.1))
              clear d0
              go_wp2
              refine wp_region_bw (by kernel_rfl) (by kernel_rfl) ?_
              repeat (go_big_quiet_step (first
                | (go_at_call 60; refine bw_same (v := .bool false) (d0' ▸ l1In xs 0 33 _))))
              refine wpQuiet_nil ?_
              intro _ hw'
              obtain ⟨u, rfl⟩ := hw'
              have HU := hid (HBw.out.trans (u.bel.mono HBw.out.size))
              have HUr := hid (HBr.out.trans (u.bel.mono HBr.out.size))
              clear e0 e1 n7 m7 
              go_wp2
              go_ret
              exact ⟨by rw [HE.out, HR.out]; rfl, HU.out⟩
          · obtain rfl : i = l.length := by omega
            have HR := hid ((outsOk_iff l).2 HK.out)
            go_wp2
            go_ret
            exact ⟨by rw [HE.out, HR.out]; rfl, HBw.out⟩
      · have c2' := decide_eq_false c2
        rw [decide_eq_false (show ¬ (1 ≤ l.length ∧ l.length ≤ 8) by omega), Bool.false_and] at HE
        clear c2
        refine (c2' ▸ l1In (l.length : Int) 1 8 _).mono ?_
        rintro r w3 ⟨rfl, hw⟩
        obtain rfl := hw.symm
        go_wp2
        go_ret
        exact ⟨by rw [HE.out]; rfl, HB2.out⟩
  · have c0' := decide_eq_false c0
    have HQ : Hid (q = false) := by rw [Hid, HE.out, decide_eq_false (show ¬ (1 ≤ txn ∧ txn ≤ 1000000) by omega)]; rfl
    clear c0
    refine (c0' ▸ l1In txn 0 1000000 _).mono ?_
    rintro r w1 ⟨rfl, hw⟩
    obtain rfl := hw.symm
    go_wp2
    go_ret
    exact ⟨by rw [HQ.out]; rfl, HB.out⟩

theorem l4JournalOk (w : World) (J : Jn) (a : Option Addr) (cap : Nat) (S : Ous w a J.outs) (hs : J.Small) :
    Calls Tryz.prog 129 #[jnV J a cap] w fun r w' => r = .returned (.bool J.ok) ∧ Below w.heap.size w w' := by
  obtain ⟨txn, dn, k, v, t, at_, s, l⟩ := J
  cases dn
  · exact jnOk_not w txn k v t at_ s l a cap S hs.text hs.outs hs.each
  · exact jnOk_done w txn k v t at_ s l a cap hs.text hs.outs

end Go.Proofs.YtlbfcnpnfoapnaaGreatDoor.Sec

namespace Go.Proofs.YtlbfcnpnfoapnaaGreatDoor.Sec
open Go.RowKit Go.Proofs.YtlbfcnpnfoapnaaGreatDoor.Mem
set_option linter.unusedVariables false

/-- What a right journal's parts are bounded by. -/
structure Jn.Fine (J : Jn) : Prop where
  text : J.text.size ≤ 16
  outs : J.outs.length ≤ 8
  each : ∀ i, i < J.outs.length → ((J.outs.getD i Ou.none).text.size : Int) ≤ 60
  kind : 0 ≤ J.kind ∧ J.kind ≤ 99
  vol : 0 ≤ J.vol ∧ J.vol ≤ 99
  to : 0 ≤ J.to ∧ J.to ≤ 99
  at_ : 0 ≤ J.at_ ∧ J.at_ ≤ 99

theorem Jn.fine {J : Jn} (h : J.ok = true) : J.Fine := by
  cases hd : J.done with
  | true =>
    rw [jok_done hd, Bool.and_eq_true, Bool.and_eq_true] at h
    obtain ⟨h1, h2, h3⟩ := h
    have a := of_decide_eq_true h2
    have b := of_decide_eq_true h3
    exact ⟨by omega, by omega, fun i hi => by omega, by omega, by omega, by omega, by omega⟩
  | false =>
    rw [jok_not hd, Bool.and_eq_true, Bool.and_eq_true, Bool.and_eq_true] at h
    obtain ⟨h1, h2, h3, h4⟩ := h
    unfold opOk at h2
    rw [Bool.and_eq_true, Bool.and_eq_true, three, Bool.and_eq_true, Bool.and_eq_true, Bool.and_eq_true] at h2
    obtain ⟨⟨a, b, c, d, _⟩, e⟩ := h2
    have a' := of_decide_eq_true a
    have b' := of_decide_eq_true b
    have c' := of_decide_eq_true c
    have d' := of_decide_eq_true d
    have e' := of_decide_eq_true e
    have l' := of_decide_eq_true h3
    exact ⟨by omega, by omega, fun i hi => ((outsOk_iff _).1 h4 i hi).2.2, by omega, by omega, by omega, by omega⟩

theorem jn_no {J : Jn} (h : J.ok = false) : J.show = ⟨#[]⟩ := by unfold Jn.show; rw [h]; rfl
theorem jn_yes {J : Jn} (h : J.ok = true) : summed (J.head ++ outsS J.outs) = J.show := by unfold Jn.show; rw [h]; rfl

theorem jn_size {J : Jn} (h : J.Fine) : (J.head ++ outsS J.outs).size ≤ 1048576 := by
  have h1 := head_size J h.text
  have h2 := outsS_size J.outs h.outs h.each J.outs.length (Nat.le_refl _)
  rw [List.take_length] at h2
  have := h.outs
  rw [ByteArray.size_append]; omega

set_option maxRecDepth 100000 in
set_option maxHeartbeats 4000000 in
theorem sShowJournal (w : World) (J : Jn) (a : Option Addr) (cap : Nat) (S : Ous w a J.outs) (hs : J.Small) :
    Calls Tryz.prog 87 #[jnV J a cap] w fun r w' => r = .returned (.string J.show) ∧ Below w.heap.size w w' := by
  have HS := hid S
  have HSm := hid hs
  clear S hs
  obtain ⟨txn, dn, k, v, t, at_, s, l⟩ := J
  have HV : Hid (jnV ⟨txn, dn, k, v, t, at_, s, l⟩ a cap = .agg #[.int .i64 txn, .bool dn, .int .i64 k, .int .i64 v, .int .i64 t, .int .i64 at_, .string s, .slice a l.length cap]) := rfl
  rw [HV.out]
  obtain ⟨wa, hwa, ez, A0, B0⟩ := one_new w [.int .i64 txn, .bool dn, .int .i64 k, .int .i64 v, .int .i64 t, .int .i64 at_, .string s, .slice a l.length cap] 85
  have k0 := A0.c 0 rfl
  have k1 := A0.c 1 rfl
  have k2 := A0.c 2 rfl
  have k3 := A0.c 3 rfl
  have k4 := A0.c 4 rfl
  have k5 := A0.c 5 rfl
  have k6 := A0.c 6 rfl
  have k7 := A0.c 7 rfl
  have HA := hid A0
  have HB := hid B0
  clear A0 B0
  go_enter Tryz.func87, Tryz.ntmps87
  go_wp2_with fail
  refine (l4JournalOk wa ⟨txn, dn, k, v, t, at_, s, l⟩ a cap (HS.out.below HB.out) HSm.out).mono ?_
  rintro r w2 ⟨rfl, b2⟩
  have HA2 := hid (HA.out.below b2 HA.out.lt)
  have HB2 := hid (HB.out.trans (b2.mono HB.out.size))
  clear b2 hwa HA k0 k1 k2 k3 k4 k5 k6 k7
  cases hf : (Jn.mk txn dn k v t at_ s l).ok with
  | false =>
    have HN := hid (jn_no hf)
    clear hf
    go_wp2
    go_ret
    exact ⟨Own.ret_str HN.out.symm, HB2.out⟩
  | true =>
    have HY := hid (jn_yes hf)
    have HF := hid (Jn.fine hf)
    have HZ := hid (jn_size HF.out)
    have HO := hid (outsS_size l HF.out.outs HF.out.each)
    have HL8 : Hid (l.length ≤ 8) := HF.out.outs
    have HE : Hid (∀ i, i < l.length → ((l.getD i Ou.none).text.size : Int) ≤ 60) := HF.out.each
    have zt : s.size ≤ 16 := HF.out.text
    have z0 := vr_size txn
    have z1 := vr_size k
    have z2 := vr_size v
    have z3 := vr_size t
    have z4 := vr_size at_
    have z5 := piece_size s
    have z6 := vr_size (l.length : Int)
    have z7 : (flag dn).size ≤ 7 := vr_size _
    have HH := hid (head_size ⟨txn, dn, k, v, t, at_, s, l⟩ zt)
    have HD : Hid ((⟨#[106]⟩ : ByteArray) ++ vr txn ++ flag dn ++ vr k ++ vr v ++ vr t ++ vr at_ ++ piece s ++ vr (l.length : Int) = (Jn.mk txn dn k v t at_ s l).head) := rfl
    clear hf
    go_wp2
    have k0 := BW.cell (HA2.out.c 0 rfl)
    have k1 := BW.cell (HA2.out.c 1 rfl)
    have k2 := BW.cell (HA2.out.c 2 rfl)
    have k3 := BW.cell (HA2.out.c 3 rfl)
    have k4 := BW.cell (HA2.out.c 4 rfl)
    have k5 := BW.cell (HA2.out.c 5 rfl)
    have k6 := BW.cell (HA2.out.c 6 rfl)
    have k7 := BW.cell (HA2.out.c 7 rfl)
    have hne : Nonempty (BW w2) := ⟨⟨w2, Below.refl _ _⟩⟩
    refine wp_region_bw (by kernel_rfl) (by kernel_rfl) ?_
    repeat (go_big_quiet_step (first
      | (go_at_call 92; refine bw_below (sVar _ _))
      | (go_at_call 91; refine bw_below (l4Flag dn _))
      | (go_at_call 130; refine bw_below (l4Piece s _ (by omega)))))
    refine wpQuiet_nil ?_
    intro w3 hw'
    obtain ⟨u, hu⟩ := hw'
    have b3 := u.bel
    rw [← hu] at b3
    clear hu
    have HA3 := hid (HA2.out.below b3 HA2.out.lt)
    have HB3 := hid (HB2.out.trans (b3.mono HB2.out.size))
    clear b3 k0 k1 k2 k3 k4 k5 k6 k7 HA2 hne
    rw [HD.out]
    generalize (Jn.mk txn dn k v t at_ s l).head = p at *
    have zp := HH.out
    clear z0 z1 z2 z3 z4 z5 z6 z7
    go_wp2
    go_loopw [3, 4] (fun s i wr => ∃ k : Nat, k ≤ l.length ∧ i = .int .i64 (k : Int) ∧ s = .string (p ++ outsS (l.take k)) ∧ Hid (Below w3.heap.size w3 wr)) (fun _ i _ => l.length - (intOf i).toNat)
    case atStart => exact ⟨0, Nat.zero_le _, rfl, by rw [show outsS (l.take 0) = ⟨#[]⟩ from rfl, append_empty], Below.refl _ _⟩
    case round =>
      obtain ⟨i, hi, rfl, rfl, HBr⟩ := hrel
      have HBw := hid (HB3.out.trans (HBr.out.mono HB3.out.size))
      have m7 := (HA3.out.below HBr.out HA3.out.lt).c 7 rfl
      by_cases hlt : i < l.length
      · obtain ⟨b, off, rfl, e0, e1⟩ := Ous.at_ (HS.out.below HBw.out) i hlt
        have hsz := HE.out i hlt
        have HT := hid (outsS_take l i hlt)
        have hz := HO.out i (by omega)
        have h8 := HL8.out
        generalize l.getD i Ou.none = x at e0 e1 hsz HT
        obtain ⟨xs, xt⟩ := x
        simp only [] at e0 e1 hsz HT
        generalize outsS (l.take i) = o at *
        have hps : (p ++ o).size ≤ 1000 := by rw [ByteArray.size_append]; omega
        have HAs : Hid (p ++ o ++ vr xs ++ piece xt = p ++ (o ++ vr xs ++ piece xt)) := by rw [Hid, append_assoc, append_assoc, append_assoc]
        generalize p ++ o = q at *
        have y1 := vr_size xs
        have y2 := piece_size xt
        have hne : Nonempty (BW wr) := ⟨⟨wr, Below.refl _ _⟩⟩
        replace e0 := BW.cell e0
        replace e1 := BW.cell e1
        have n7 := BW.cell m7
        go_wp2
        refine wp_region_bw (by kernel_rfl) (by kernel_rfl) ?_
        repeat (go_big_quiet_step (first
          | (go_at_call 92; refine bw_below (sVar _ _))
          | (go_at_call 130; refine bw_below (l4Piece xt _ (by omega)))))
        refine wpQuiet_nil ?_
        intro _ hw'
        obtain ⟨u, rfl⟩ := hw'
        have HUr := hid (HBr.out.trans (u.bel.mono HBr.out.size))
        clear e0 e1 n7 m7
        go_wp2
        exact ⟨⟨i + 1, by omega, by go_num, by rw [HT.out, ← HAs.out], HUr⟩, by simp [intOf]; omega⟩
      · obtain rfl : i = l.length := by omega
        have HE2 : Hid (outsS (l.take l.length) = outsS l) := by rw [Hid, List.take_length]
        rw [HE2.out]
        generalize p ++ outsS l = q at *
        go_wp2_with fail
        refine (l4Sum q _ HZ.out).mono ?_
        rintro r w4 ⟨rfl, b4⟩
        have HB4 := hid (HBw.out.trans (b4.mono HBw.out.size))
        clear b4 m7
        go_wp2
        go_ret
        exact ⟨Own.ret_str HY.out, HB4.out⟩

end Go.Proofs.YtlbfcnpnfoapnaaGreatDoor.Sec

namespace Go.Proofs.YtlbfcnpnfoapnaaGreatDoor.Sec
open Go.RowKit Go.Proofs.YtlbfcnpnfoapnaaGreatDoor.Mem
set_option linter.unusedVariables false

def opS (k v t a : Int) (s : ByteArray) : ByteArray := vrs 0 [k, v, t, a] ++ piece s

theorem four_bd {k v t a : Int} (hk : 0 ≤ k ∧ k ≤ 99) (hv : 0 ≤ v ∧ v ≤ 99) (ht : 0 ≤ t ∧ t ≤ 99) (ha : 0 ≤ a ∧ a ≤ 99) : ∀ i, i < [k, v, t, a].length → -1 ≤ [k, v, t, a].getD i 0 ∧ [k, v, t, a].getD i 0 ≤ 1000000 := by
  intro i hi
  have : i = 0 ∨ i = 1 ∨ i = 2 ∨ i = 3 := by simp at hi; omega
  rcases this with rfl | rfl | rfl | rfl <;> simp <;> omega

theorem box5_below {wa w1 w2 : World} {g : Nat} {x0 x1 x2 x3 x4 : Value} (hg : g < wa.heap.size) (b : Below w1.heap.size w1 w2) (h : w1.cell? ⟨g, 0, none⟩ = some x0 ∧ w1.cell? ⟨g, 1, none⟩ = some x1 ∧ w1.cell? ⟨g, 2, none⟩ = some x2 ∧ w1.cell? ⟨g, 3, none⟩ = some x3 ∧ w1.cell? ⟨g, 4, none⟩ = some x4 ∧ Below wa.heap.size wa w1) :
    w2.cell? ⟨g, 0, none⟩ = some x0 ∧ w2.cell? ⟨g, 1, none⟩ = some x1 ∧ w2.cell? ⟨g, 2, none⟩ = some x2 ∧ w2.cell? ⟨g, 3, none⟩ = some x3 ∧ w2.cell? ⟨g, 4, none⟩ = some x4 ∧ Below wa.heap.size wa w2 := by
  obtain ⟨a0, a1, a2, a3, a4, bl⟩ := h
  have hl : g < w1.heap.size := Nat.lt_of_lt_of_le hg bl.size
  have c := fun j => b.cell (p := ⟨g, j, none⟩) hl
  exact ⟨(c 0).trans a0, (c 1).trans a1, (c 2).trans a2, (c 3).trans a3, (c 4).trans a4, bl.trans (b.mono bl.size)⟩

theorem box5_alloc {wa w1 : World} {g : Nat} {x0 x1 x2 x3 x4 : Value} (hg : g < wa.heap.size) (h : w1.cell? ⟨g, 0, none⟩ = some x0 ∧ w1.cell? ⟨g, 1, none⟩ = some x1 ∧ w1.cell? ⟨g, 2, none⟩ = some x2 ∧ w1.cell? ⟨g, 3, none⟩ = some x3 ∧ w1.cell? ⟨g, 4, none⟩ = some x4 ∧ Below wa.heap.size wa w1) (o : Obj) :
    (w1.alloc o).cell? ⟨g, 0, none⟩ = some x0 ∧ (w1.alloc o).cell? ⟨g, 1, none⟩ = some x1 ∧ (w1.alloc o).cell? ⟨g, 2, none⟩ = some x2 ∧ (w1.alloc o).cell? ⟨g, 3, none⟩ = some x3 ∧ (w1.alloc o).cell? ⟨g, 4, none⟩ = some x4 ∧ Below wa.heap.size wa (w1.alloc o) :=
  box5_below hg ((Below.refl _ _).alloc (Nat.le_refl _) o) h

set_option maxRecDepth 100000 in
set_option maxHeartbeats 2000000 in
theorem showOp (k v t a : Int) (s : ByteArray) (w : World) (hs : s.size ≤ 16) (hk : 0 ≤ k ∧ k ≤ 99) (hv : 0 ≤ v ∧ v ≤ 99) (ht : 0 ≤ t ∧ t ≤ 99) (ha : 0 ≤ a ∧ a ≤ 99) :
    Calls Tryz.prog 120 #[opV k v t a s] w fun e w' => e = .returned (.string (opS k v t a s)) ∧ Below w.heap.size w w' := by
  have HBd := hid (four_bd hk hv ht ha)
  have HD : Hid (vrs 0 [k, v, t, a] ++ piece s = opS k v t a s) := rfl
  have zp := piece_size s
  have zv : (vrs 0 [k, v, t, a]).size ≤ 28 := by have := vrs_size 0 [k, v, t, a]; simpa using this
  unfold opV
  obtain ⟨wa, hwa, ez, A0, B0⟩ := one_new w [.int .i64 k, .int .i64 v, .int .i64 t, .int .i64 a, .string s] 82
  have k0 := A0.c 0 rfl
  have k1 := A0.c 1 rfl
  have k2 := A0.c 2 rfl
  have k3 := A0.c 3 rfl
  have k4 := A0.c 4 rfl
  have HA := hid A0
  have HB := hid B0
  have hwn : ∀ w : World, (Instr.buildSlice 24 4 #[(0, .int .i64 k), (1, .int .i64 v), (2, .int .i64 t), (3, .int .i64 a)]).run Tryz.prog w = .ok (.slice (some ⟨w.heap.size, 0, none⟩) 4 4) (w.alloc (.cells #[.int .i64 k, .int .i64 v, .int .i64 t, .int .i64 a] 3)) := fun _ => by kernel_rfl
  clear A0 B0 hk hv ht ha
  go_enter Tryz.func120, Tryz.ntmps120
  go_wp2
  have Q0 := hid (show wa.drew.cell? ⟨w.heap.size, 0, none⟩ = some (.int .i64 k) ∧ wa.drew.cell? ⟨w.heap.size, 1, none⟩ = some (.int .i64 v) ∧ wa.drew.cell? ⟨w.heap.size, 2, none⟩ = some (.int .i64 t) ∧ wa.drew.cell? ⟨w.heap.size, 3, none⟩ = some (.int .i64 a) ∧ wa.drew.cell? ⟨w.heap.size, 4, none⟩ = some (.string s) ∧ Below wa.heap.size wa wa.drew from ⟨k0, k1, k2, k3, k4, (Below.refl _ wa).drew⟩)
  have hg : w.heap.size < wa.heap.size := by omega
  have QA := hid (show (wa.alloc (.cells #[.int .i64 k, .int .i64 v, .int .i64 t, .int .i64 a] 3)).drew.cell? ⟨w.heap.size, 0, none⟩ = some (.int .i64 k) ∧ (wa.alloc (.cells #[.int .i64 k, .int .i64 v, .int .i64 t, .int .i64 a] 3)).drew.cell? ⟨w.heap.size, 1, none⟩ = some (.int .i64 v) ∧ (wa.alloc (.cells #[.int .i64 k, .int .i64 v, .int .i64 t, .int .i64 a] 3)).drew.cell? ⟨w.heap.size, 2, none⟩ = some (.int .i64 t) ∧ (wa.alloc (.cells #[.int .i64 k, .int .i64 v, .int .i64 t, .int .i64 a] 3)).drew.cell? ⟨w.heap.size, 3, none⟩ = some (.int .i64 a) ∧ (wa.alloc (.cells #[.int .i64 k, .int .i64 v, .int .i64 t, .int .i64 a] 3)).drew.cell? ⟨w.heap.size, 4, none⟩ = some (.string s) ∧ Below wa.heap.size wa (wa.alloc (.cells #[.int .i64 k, .int .i64 v, .int .i64 t, .int .i64 a] 3)).drew from
    box5_below hg ((Below.refl _ wa).alloc (Nat.le_refl _) _).drew ⟨k0, k1, k2, k3, k4, Below.refl _ wa⟩)
  have HI : Hid (Ints (wa.alloc (.cells #[.int .i64 k, .int .i64 v, .int .i64 t, .int .i64 a] 3)).drew (some ⟨wa.heap.size, 0, none⟩) [k, v, t, a]) := ints_new wa [k, v, t, a]
  rw [ez] at HI
  clear k0 k1 k2 k3 k4 hwa
  go_region_held_law (fun w' => w'.cell? ⟨w.heap.size, 0, none⟩ = some (.int .i64 k) ∧ w'.cell? ⟨w.heap.size, 1, none⟩ = some (.int .i64 v) ∧ w'.cell? ⟨w.heap.size, 2, none⟩ = some (.int .i64 t) ∧ w'.cell? ⟨w.heap.size, 3, none⟩ = some (.int .i64 a) ∧ w'.cell? ⟨w.heap.size, 4, none⟩ = some (.string s) ∧ Below wa.heap.size wa w')
    (first | with_reducible exact Q2.out | with_reducible exact Q1.out | with_reducible exact Q0.out | with_reducible assumption | with_reducible exact QA.out)
    (first
      | (go_at_call 115; refine (showNumbers _ _ 4 [k, v, t, a] 0 HI.out (by simp) (by decide) HBd.out).mono ?_; rintro e w1 ⟨rfl, b1⟩; have Q1 := hid (box5_below hg b1 QA.out); clear b1)
      | (go_at_call 148; refine (showPiece s _ (by omega)).mono ?_; rintro e w2 ⟨rfl, b2⟩; have Q2 := hid (box5_below hg b2 Q1.out); clear b2))
  all_goals (have HB2 := hid (HB.out.trans (Q2.out.2.2.2.2.2.mono HB.out.size)); clear Q0 Q1 Q2; go_wp2; go_ret; exact ⟨Own.ret_str HD.out, HB2.out⟩)

end Go.Proofs.YtlbfcnpnfoapnaaGreatDoor.Sec

namespace Go.Proofs.YtlbfcnpnfoapnaaGreatDoor.Sec
open Go.RowKit Go.Proofs.YtlbfcnpnfoapnaaGreatDoor.Mem
set_option linter.unusedVariables false

set_option maxRecDepth 100000 in
set_option maxHeartbeats 2000000 in
theorem showOuts (w : World) (a : Option Addr) (cap : Nat) (l : List Ou) (S : Ous w a l) (hl : l.length ≤ 8) (he : ∀ i, i < l.length → ((l.getD i Ou.none).text.size : Int) ≤ 60) :
    Calls Tryz.prog 121 #[.slice a l.length cap] w fun e w' => e = .returned (.string (vr (l.length : Int) ++ outsS l)) ∧ Below w.heap.size w w' := by
  have HS := hid S
  have HO := hid (outsS_size l hl he)
  have HE := hid he
  have HN := hid (Build.Bd.new w)
  have zl := vr_size (l.length : Int)
  clear S he
  go_enter Tryz.func121, Tryz.ntmps121
  go_wp2_with fail
  obtain ⟨wa, hwa⟩ : ∃ wa, w.alloc (.cells #[.pointer none, .slice none 0 0] 162) = wa := ⟨_, rfl⟩
  have HB0 : Hid (Below w.heap.size w wa) := by rw [← hwa]; exact (Below.refl _ _).alloc (Nat.le_refl _) _
  rw [hwa] at HN
  simp only [hwa]
  clear hwa
  refine (iVar (l.length : Int) _).mono ?_
  rintro e w1 ⟨rfl, b1⟩
  have HB1 := hid (HB0.out.trans (b1.mono HB0.out.size))
  have HD1 := hid (HN.out.below b1)
  clear b1 HN HB0
  go_wp2_with fail
  refine (Build.write w.heap.size w.heap.size _ (vr (l.length : Int)) w1 HD1.out (by show 0 + _ ≤ _; omega) HB1.out.size).mono ?_
  rintro e w2 ⟨rfl, hD2, b2⟩
  rw [empty_append] at hD2
  have HD2 := hid hD2
  have HB2 := hid (HB1.out.trans b2)
  clear hD2 b2 HD1 HB1
  generalize hp : vr (l.length : Int) = p at *
  have HP := hid hp
  clear hp
  go_wp2
  go_loopw [12] (fun i wr => ∃ k : Nat, k ≤ l.length ∧ i = .int .i64 (k : Int) ∧ Hid (Build.Bd w.heap.size w.heap.size (p ++ outsS (l.take k)) wr) ∧ Hid (Below w.heap.size w wr)) (fun i _ => l.length - (intOf i).toNat)
  case atStart => exact ⟨0, Nat.zero_le _, rfl, by rw [show outsS (l.take 0) = ⟨#[]⟩ from rfl, append_empty]; exact HD2, HB2⟩
  case round =>
    obtain ⟨k, hk, rfl, HD, HB⟩ := hrel
    by_cases hlt : k < l.length
    · obtain ⟨b, off, rfl, c0, c1⟩ := Ous.at_ (HS.out.below HB.out) k hlt
      have hsz := HE.out k hlt
      have HT := hid (outsS_take l k hlt)
      have hz := HO.out k (by omega)
      generalize l.getD k Ou.none = x at c0 c1 hsz HT
      obtain ⟨xs, xt⟩ := x
      simp only [] at c0 c1 hsz HT
      generalize outsS (l.take k) = o at *
      have hps : (p ++ o).size ≤ 1000 := by rw [ByteArray.size_append]; omega
      have HAs : Hid (p ++ o ++ vr xs ++ piece xt = p ++ (o ++ vr xs ++ piece xt)) := by rw [Hid, append_assoc, append_assoc, append_assoc]
      generalize p ++ o = q at *
      have y1 := vr_size xs
      have y2 := piece_size xt
      have hlb := HD.out.lt
      go_wp2_with fail
      obtain ⟨wo, hwo⟩ : ∃ wo, wr.alloc (.cells #[.int .i64 xs, .string xt] 119) = wo := ⟨_, rfl⟩
      have RO : wo.heap[wr.heap.size]? = some (.cells [Value.int .i64 xs, .string xt].toArray 119 (0, 0)) := by rw [← hwo]; exact heap_alloc_new wr _
      have B0 : Below wr.heap.size wr wo := by rw [← hwo]; exact (Below.refl _ _).alloc (Nat.le_refl _) _
      have hso : wr.heap.size < wo.heap.size := by rw [← hwo]; exact lt_alloc _ _
      simp only [hwo]
      have HBo := hid (HB.out.trans (B0.mono HB.out.size))
      have HDo := hid (HD.out.below B0)
      clear hwo B0 c0 c1
      refine (iVar xs _).mono ?_
      rintro e w3 ⟨rfl, b3⟩
      have RO3 : w3.heap[wr.heap.size]? = some (.cells [Value.int .i64 xs, .string xt].toArray 119 (0, 0)) := by rw [b3.block _ hso]; exact RO
      have HB3 := hid (HBo.out.trans (b3.mono HBo.out.size))
      have HD3 := hid (HDo.out.below b3)
      have hs3 := b3.size
      clear b3 RO
      have HR3 := hid RO3
      clear RO3
      go_wp2_with fail
      refine (Build.write_others w.heap.size w.heap.size q (vr xs) w3 HD3.out (by omega) HB3.out.size).mono ?_
      rintro e w4 ⟨rfl, hD4, b4, o4⟩
      have HR4 := hid (o4.row (by omega) (by decide) HR3.out)
      have HD4 := hid hD4
      have HB4 := hid (HB3.out.trans b4)
      have d1 : w4.cell? ⟨wr.heap.size, 1, none⟩ = some (.string xt) := by rw [cell_of_row w4 wr.heap.size 1 _ _ (0, 0) HR4.out]; rfl
      have d0 : w4.cell? ⟨wr.heap.size, 0, none⟩ = some (.int .i64 xs) := by rw [cell_of_row w4 wr.heap.size 0 _ _ (0, 0) HR4.out]; rfl
      clear hD4 b4 o4
      go_wp2_with fail
      refine (showPiece xt _ (by omega)).mono ?_
      rintro e w5 ⟨rfl, b5⟩
      have HB5 := hid (HB4.out.trans (b5.mono HB4.out.size))
      have HD5 := hid (HD4.out.below b5)
      clear b5 d0 d1
      have hqv : (q ++ vr xs).size ≤ 1007 := by rw [ByteArray.size_append]; omega
      go_wp2_with fail
      refine (Build.write w.heap.size w.heap.size (q ++ vr xs) (piece xt) w5 HD5.out (by omega) HB5.out.size).mono ?_
      rintro e w6 ⟨rfl, hD6, b6⟩
      have HD6 := hid hD6
      have HB6 := hid (HB5.out.trans b6)
      clear hD6 b6
      go_wp2
      exact ⟨⟨k + 1, by omega, by go_num, by rw [HT.out, ← HAs.out]; exact HD6, HB6⟩, by simp [intOf]; omega⟩
    · obtain rfl : k = l.length := by omega
      have HD' : Hid (Build.Bd w.heap.size w.heap.size (p ++ outsS l) wr) := by have := HD.out; rwa [List.take_length] at this
      go_wp2_with fail
      refine (Build.string w.heap.size w.heap.size (p ++ outsS l) wr HD'.out HB.out.size).mono ?_
      rintro e w1 ⟨rfl, b1⟩
      have HB1 := hid (HB.out.trans b1)
      clear b1
      go_wp2
      go_ret
      exact ⟨Own.ret_str (by rw [HP.out]), HB1.out⟩

theorem vrs4 (k v t a : Int) : vrs 0 [k, v, t, a] = vr k ++ vr v ++ vr t ++ vr a := by
  unfold vrs
  simp only [List.foldl_cons, List.foldl_nil, Int.sub_zero, empty_append]

theorem head_impl (J : Jn) : (⟨#[106]⟩ : ByteArray) ++ vr J.txn ++ flag J.done ++ opS J.kind J.vol J.to J.at_ J.text ++ (vr (J.outs.length : Int) ++ outsS J.outs) = J.head ++ outsS J.outs := by
  unfold opS Jn.head
  rw [vrs4]
  simp only [append_assoc]

set_option maxRecDepth 100000 in
set_option maxHeartbeats 4000000 in
theorem iShowJournal (w : World) (J : Jn) (a : Option Addr) (cap : Nat) (S : Ous w a J.outs) (hs : J.Small) (T : Sums w) :
    Calls Tryz.prog 79 #[jnV J a cap] w fun r w' => r = .returned (.string J.show) ∧ Below w.heap.size w w' := by
  have HS := hid S
  have HSm := hid hs
  have HT := hid T
  clear S hs T
  obtain ⟨txn, dn, k, v, t, at_, s, l⟩ := J
  have HV : Hid (jnV ⟨txn, dn, k, v, t, at_, s, l⟩ a cap = .agg #[.int .i64 txn, .bool dn, .int .i64 k, .int .i64 v, .int .i64 t, .int .i64 at_, .string s, .slice a l.length cap]) := rfl
  rw [HV.out]
  obtain ⟨wa, hwa, ez, A0, B0⟩ := one_new w [.int .i64 txn, .bool dn, .int .i64 k, .int .i64 v, .int .i64 t, .int .i64 at_, .string s, .slice a l.length cap] 85
  have k0 := A0.c 0 rfl
  have k1 := A0.c 1 rfl
  have k2 := A0.c 2 rfl
  have k3 := A0.c 3 rfl
  have k4 := A0.c 4 rfl
  have k5 := A0.c 5 rfl
  have k6 := A0.c 6 rfl
  have k7 := A0.c 7 rfl
  have HA := hid A0
  have HB := hid B0
  clear A0 B0
  go_enter Tryz.func79, Tryz.ntmps79
  go_wp2_with fail
  refine (isJournal wa ⟨txn, dn, k, v, t, at_, s, l⟩ a cap (HS.out.below HB.out) HSm.out).mono ?_
  rintro r w2 ⟨rfl, b2⟩
  have HA2 := hid (HA.out.below b2 HA.out.lt)
  have HB2 := hid (HB.out.trans (b2.mono HB.out.size))
  have HT2 := hid (HT.out.below HB2.out)
  clear b2 hwa HA k0 k1 k2 k3 k4 k5 k6 k7
  cases hf : (Jn.mk txn dn k v t at_ s l).ok with
  | false =>
    have HN := hid (jn_no hf)
    clear hf
    go_wp2
    go_ret
    exact ⟨Own.ret_str HN.out.symm, HB2.out⟩
  | true =>
    have HY := hid (jn_yes hf)
    have HF := hid (Jn.fine hf)
    have HZ := hid (jn_size HF.out)
    have HI := hid (head_impl ⟨txn, dn, k, v, t, at_, s, l⟩)
    have zo : (outsS l).size ≤ 592 := by have := outsS_size l HF.out.outs HF.out.each l.length (Nat.le_refl _); rw [List.take_length] at this; have := HF.out.outs; simp only [] at *; omega
    have z0 := vr_size txn
    have z6 := vr_size (l.length : Int)
    have z7 : (flag dn).size ≤ 7 := vr_size _
    have z8 : (opS k v t at_ s).size ≤ 51 := by
      have h1 := vrs_size 0 [k, v, t, at_]
      have h2 := piece_size s
      have h3 : s.size ≤ 16 := HF.out.text
      have h4 : [k, v, t, at_].length = 4 := rfl
      unfold opS
      rw [ByteArray.size_append]; omega
    have z9 : (vr (l.length : Int) ++ outsS l).size ≤ 599 := by rw [ByteArray.size_append]; omega
    have HZ' : Hid (((⟨#[106]⟩ : ByteArray) ++ vr txn ++ flag dn ++ opS k v t at_ s ++ (vr (l.length : Int) ++ outsS l)).size ≤ 1048576) := by
      rw [Hid, show (⟨#[106]⟩ : ByteArray) ++ vr txn ++ flag dn ++ opS k v t at_ s ++ (vr (l.length : Int) ++ outsS l) = _ from HI.out]; exact HZ.out
    have HR : Hid (summed ((⟨#[106]⟩ : ByteArray) ++ vr txn ++ flag dn ++ opS k v t at_ s ++ (vr (l.length : Int) ++ outsS l)) = (Jn.mk txn dn k v t at_ s l).show) := by
      rw [Hid, show (⟨#[106]⟩ : ByteArray) ++ vr txn ++ flag dn ++ opS k v t at_ s ++ (vr (l.length : Int) ++ outsS l) = _ from HI.out]; exact HY.out
    generalize hou : vr (l.length : Int) ++ outsS l = ou at *
    have HOu := hid hou
    clear hf hou
    go_wp2
    have k0 := BW.cell (HA2.out.c 0 rfl)
    have k1 := BW.cell (HA2.out.c 1 rfl)
    have k2 := BW.cell (HA2.out.c 2 rfl)
    have k3 := BW.cell (HA2.out.c 3 rfl)
    have k4 := BW.cell (HA2.out.c 4 rfl)
    have k5 := BW.cell (HA2.out.c 5 rfl)
    have k6 := BW.cell (HA2.out.c 6 rfl)
    have k7 := BW.cell (HA2.out.c 7 rfl)
    have hne : Nonempty (BW w2) := ⟨⟨w2, Below.refl _ _⟩⟩
    refine wp_region_bw (by kernel_rfl) (by kernel_rfl) ?_
    repeat (go_big_quiet_step (first
      | (go_at_call 118; refine bw_below (iVar _ _))
      | (go_at_call 114; refine bw_below (showFlag dn _))
      | (go_at_call 120; refine bw_below (showOp k v t at_ s _ HF.out.text HF.out.kind HF.out.vol HF.out.to HF.out.at_))
      | (go_at_call 121; refine bw_below (HOu.out ▸ showOuts _ a cap l (HS.out.below (HB2.out.trans ((BW.bel _).mono HB2.out.size))) HF.out.outs HF.out.each))
      | (go_at_call 112; refine bw_below (withSum' _ _ HZ'.out (HT2.out.below (BW.bel _))))))
    refine wpQuiet_nil ?_
    intro _ hw'
    obtain ⟨u, rfl⟩ := hw'
    have HU := hid (HB2.out.trans (u.bel.mono HB2.out.size))
    clear k0 k1 k2 k3 k4 k5 k6 k7
    go_wp2
    go_ret
    exact ⟨Own.ret_str HR.out, HU.out⟩

end Go.Proofs.YtlbfcnpnfoapnaaGreatDoor.Sec

namespace Go.Proofs.YtlbfcnpnfoapnaaGreatDoor.Rd
open Go.RowKit Go.Proofs.YtlbfcnpnfoapnaaGreatDoor.Mem Go.Proofs.YtlbfcnpnfoapnaaGreatDoor.Sec
set_option linter.unusedVariables false

/-- A piece at a place: its text, and where it ends. -/
def pieceAt (R : ByteArray → Int × Nat) (s : ByteArray) (i : Nat) : Option (ByteArray × Nat) :=
  if (R (rest s i)).2 = 0 then none
  else if ((rest s (i + (R (rest s i)).2)).size : Int) < (R (rest s i)).1 then none
  else some ((rest s (i + (R (rest s i)).2)).extract 0 (R (rest s i)).1.toNat, i + (R (rest s i)).2 + (R (rest s i)).1.toNat)

theorem pieceAt_size {R : ByteArray → Int × Nat} {s : ByteArray} {i : Nat} {t : ByteArray} {z : Nat} (h : pieceAt R s i = some (t, z)) : t.size ≤ s.size := by
  unfold pieceAt at h
  split at h
  · cases h
  · split at h
    · cases h
    · simp only [Option.some.injEq, Prod.mk.injEq] at h
      rw [← h.1, ByteArray.size_extract, rest_size]
      omega

/-- Outs at a place. -/
def outsAt (R : ByteArray → Int × Nat) (s : ByteArray) (i : Nat) : Nat → Option (List Ou × Nat)
  | 0 => some ([], i)
  | k + 1 => (outsAt R s i k).bind fun p => if (R (rest s p.2)).2 = 0 then none else (pieceAt R s (p.2 + (R (rest s p.2)).2)).map fun q => (p.1 ++ [⟨(R (rest s p.2)).1, q.1⟩], q.2)

theorem outsAt_len {R : ByteArray → Int × Nat} {s : ByteArray} {i : Nat} : ∀ {k : Nat} {l : List Ou} {e : Nat}, outsAt R s i k = some (l, e) → l.length = k ∧ ∀ x ∈ l, x.text.size ≤ s.size
  | 0, l, e, h => by simp [outsAt] at h; obtain ⟨rfl, _⟩ := h; simp
  | k + 1, l, e, h => by
    unfold outsAt at h
    cases hk : outsAt R s i k with
    | none => rw [hk] at h; cases h
    | some p =>
      obtain ⟨l0, e0⟩ := p
      rw [hk] at h
      simp only [Option.bind_some] at h
      split at h
      · cases h
      · cases hp : pieceAt R s (e0 + (R (rest s e0)).2) with
        | none => rw [hp] at h; cases h
        | some q =>
          obtain ⟨t, z⟩ := q
          rw [hp] at h
          simp only [Option.map_some, Option.some.injEq, Prod.mk.injEq] at h
          obtain ⟨rfl, rfl⟩ := h
          have ih := outsAt_len hk
          refine ⟨by simp [ih.1], fun x hx => ?_⟩
          rcases List.mem_append.1 hx with hx | hx
          · exact ih.2 x hx
          · obtain rfl := List.mem_singleton.1 hx
            exact pieceAt_size hp

theorem outsAt_none {R : ByteArray → Int × Nat} {s : ByteArray} {i k : Nat} (h : outsAt R s i k = none) : ∀ n, outsAt R s i (k + n) = none
  | 0 => h
  | n + 1 => by
    show outsAt R s i ((k + n) + 1) = none
    unfold outsAt
    rw [outsAt_none h n]
    rfl

theorem outsAt_step {R : ByteArray → Int × Nat} {s : ByteArray} {i k : Nat} {l : List Ou} {e : Nat} (h : outsAt R s i k = some (l, e)) :
    outsAt R s i (k + 1) = if (R (rest s e)).2 = 0 then none else (pieceAt R s (e + (R (rest s e)).2)).map fun q => (l ++ [⟨(R (rest s e)).1, q.1⟩], q.2) := by
  conv => lhs; unfold outsAt
  rw [h]
  rfl

set_option maxRecDepth 100000 in
set_option maxHeartbeats 1000000 in
/-- A piece: how many bytes, then they; or a part lacks. -/
theorem piece (R : ByteArray → Int × Nat) (hR : Reads R) (s : ByteArray) (hs : s.size ≤ 1048576) (i : Nat) (w : World) (c : Nat) (h : Cur w c (rest s i)) (u : TypeId) (pv : Value) (hL : Lacks w u pv) (hc : 1 < c) :
    Calls Tryz.prog 161 #[.pointer (some ⟨c, 0, none⟩)] w fun e w' => (∃ t z, pieceAt R s i = some (t, z) ∧ e = .returned (.string t) ∧ Moved w w' c (rest s z)) ∨ (pieceAt R s i = none ∧ e = lack u pv ∧ Kept (fun b => b = c) w w') := by
  have HR := hid hR
  have HH := hid h
  have HL := hid hL
  have hx0 : 0 ≤ (R (rest s i)).1 := (hR (rest s i) (by rw [rest_size]; unfold maxLen; omega)).x0
  clear hR h hL
  go_enter Tryz.func161, Tryz.ntmps161
  go_wp2_with fail
  refine (number R HR.out s hs i w c HH.out u pv HL.out).mono ?_
  rintro e w1 (⟨hq, rfl, M1⟩ | ⟨hq, rfl, hw⟩)
  · obtain ⟨n, hn⟩ : ∃ n : Nat, (R (rest s i)).1 = (n : Int) := Int.eq_ofNat_of_zero_le hx0
    have HP : Hid (pieceAt R s i = if ((rest s (i + (R (rest s i)).2)).size : Int) < (n : Int) then none else some ((rest s (i + (R (rest s i)).2)).extract 0 n, i + (R (rest s i)).2 + n)) := by
      unfold Hid pieceAt; rw [if_neg hq, hn, Int.toNat_natCast]
    have HM := hid M1
    have HL1 := hid (HL.out.kept M1.2 (by omega))
    rw [hn]
    clear hq M1 hx0 hn
    generalize i + (R (rest s i)).2 = i2 at *
    have hsz : (rest s i2).size ≤ 1048576 := by rw [rest_size]; omega
    by_cases hlt : ((rest s i2).size : Int) < (n : Int)
    · have HN : Hid (pieceAt R s i = none) := by rw [Hid, HP.out, if_pos hlt]
      go_wp2_with fail
      refine (take_no w1 c (rest s i2) (n : Int) HM.out.1 hlt u pv HL1.out).mono ?_
      rintro e w2 ⟨rfl, hw⟩
      obtain rfl := hw.symm
      unfold lack
      clear hlt
      go_wp2
      exact ⟨rfl, Or.inr ⟨HN.out, rfl, HM.out.2⟩⟩
    · have HN : Hid (pieceAt R s i = some ((rest s i2).extract 0 n, i2 + n)) := by rw [Hid, HP.out, if_neg hlt]
      have HRR := hid (rest_rest s i2 n)
      go_wp2_with fail
      refine (take_yes w1 c (rest s i2) n HM.out.1 (by omega) hsz).mono ?_
      rintro e w2 ⟨rfl, hw⟩
      have HM2 : Hid (Moved w w2 c (rest s (i2 + n))) := HM.out.trans (by rw [hw, HRR.out]; exact moved_set HM.out.1 _)
      clear hw hlt
      generalize (rest s i2).extract 0 n = t at *
      go_wp2
      go_ret
      exact Or.inl ⟨t, i2 + n, HN.out, rfl, HM2.out⟩
  · have HN : Hid (pieceAt R s i = none) := by unfold Hid pieceAt; rw [if_pos hq]
    obtain rfl := hw.symm
    clear hq hw
    unfold lack
    go_wp2
    exact ⟨rfl, Or.inr ⟨HN.out, rfl, Kept.refl _ _⟩⟩

/-- The cells of a list of outs, and a row of them of its own. -/
def oc (l : List Ou) : List Value := l.flatMap Ou.cells
theorem oc_len (l : List Ou) : (oc l).length = l.length * 2 := by
  induction l with
  | nil => rfl
  | cons x l ih => simp only [oc, List.flatMap_cons, List.length_append, List.length_cons] at *; rw [ih]; simp [Ou.cells]; omega
theorem oc_app (l : List Ou) (x : Ou) : oc l ++ x.cells = oc (l ++ [x]) := by simp [oc]
theorem oc_at (l : List Ou) (i : Nat) (h : i < l.length * 2) : (oc l).getD i undef = ocell l i := by
  induction l generalizing i with
  | nil => simp at h
  | cons x l ih =>
    have e : oc (x :: l) = Value.int .i64 x.sec :: .string x.text :: oc l := rfl
    rw [e]
    match i, h with
    | 0, _ => rfl
    | 1, _ => rfl
    | i + 2, h =>
      have := ih i (by simp only [List.length_cons] at h; omega)
      show (oc l).getD i undef = _
      rw [this]
      unfold ocell
      rw [show (i + 2) / 2 = i / 2 + 1 by omega, show (i + 2) % 2 = i % 2 by omega]
      rfl

def Or2 (w : World) (B : Nat) (v : Value) (l : List Ou) : Prop := RowO w B 119 2 v l.length (oc l)

theorem Or2.w {w : World} {B : Nat} {v : Value} {l : List Ou} (h : Or2 w B v l) : ∃ a cap, v = .slice a l.length cap ∧ OusW w B a l := by
  obtain ⟨a, cap, e, hw⟩ := RowO.wr h
  exact ⟨a, cap, e, hw.congr (fun i hi => oc_at l i hi)⟩

theorem infoOut : (Tryz.prog.info? 119).map (fun i => (i.zero, i.size, i.bytes)) = some (some (.agg #[.int .i64 0, .string ByteArray.empty]), 2, 24) := by kernel_rfl

theorem one_out (w : World) (x : Int) (t : ByteArray) : Sl (w.alloc (.cells #[.int .i64 x, .string t] 119)) (some ⟨w.heap.size, 0, none⟩) (1 * 2) (fun i => [Value.int .i64 x, .string t].getD i undef) :=
  (wr_new w _ 119 2 (fun i => [Value.int .i64 x, .string t].getD i undef) (fun i hi => by
    have : i = 0 ∨ i = 1 := by omega
    rcases this with rfl | rfl <;> rfl)).sl

/-- The outs of a journal's text: how many, then they. -/
def outsAll (R : ByteArray → Int × Nat) (s : ByteArray) (i : Nat) : Option (List Ou × Nat) :=
  if (R (rest s i)).2 = 0 ∨ 8 < (R (rest s i)).1 then none else outsAt R s (i + (R (rest s i)).2) (R (rest s i)).1.toNat

set_option maxRecDepth 100000 in
set_option maxHeartbeats 2000000 in
theorem outsParts (R : ByteArray → Int × Nat) (hR : Reads R) (s : ByteArray) (hs : s.size ≤ 1048576) (i : Nat) (w : World) (c : Nat) (h : Cur w c (rest s i)) (u : TypeId) (pv : Value) (hL : Lacks w u pv) (hc : 1 < c) :
    Calls Tryz.prog 152 #[.pointer (some ⟨c, 0, none⟩)] w fun e w' => ((∃ l z a cap, outsAll R s i = some (l, z) ∧ e = .returned (.slice a l.length cap) ∧ Or2 w' w.heap.size (.slice a l.length cap) l) ∨ (outsAll R s i = none ∧ e = lack u pv)) ∧ Kept (fun b => b = c) w w' := by
  have HR := hid hR
  have HH := hid h
  have HL := hid hL
  have hcl := h.lt
  have hx0 : 0 ≤ (R (rest s i)).1 := (hR (rest s i) (by rw [rest_size]; unfold maxLen; omega)).x0
  clear hR h hL
  go_enter Tryz.func152, Tryz.ntmps152
  go_wp2_with fail
  refine (count R HR.out s hs i 8 w c HH.out u pv HL.out hc).mono ?_
  rintro e w1 (⟨hq, hm, rfl, M1⟩ | ⟨hq, rfl, k1⟩)
  · have HF : Hid (outsAll R s i = outsAt R s (i + (R (rest s i)).2) (R (rest s i)).1.toNat) := by
      unfold Hid outsAll; rw [if_neg (by omega)]
    have HM := hid M1
    have hws1 := M1.2.size
    clear M1 hq
    generalize i + (R (rest s i)).2 = i2 at *
    obtain ⟨n, hn⟩ : ∃ n : Nat, (R (rest s i)).1 = (n : Int) := Int.eq_ofNat_of_zero_le hx0
    rw [hn] at HF hm
    rw [Int.toNat_natCast] at HF
    rw [hn]
    clear hn hx0
    go_wp2
    go_loopw [3, 7] (fun v j wr => ∃ (k : Nat) (l : List Ou) (z : Nat), k ≤ n ∧ j = .int .i64 (k : Int) ∧ Hid (outsAt R s i2 k = some (l, z)) ∧ Hid (Or2 wr w.heap.size v l) ∧ Hid (Cur wr c (rest s z)) ∧ Hid (Kept (fun b => b = c) w wr)) (fun _ j _ => n - (intOf j).toNat)
    case atStart => exact ⟨0, [], i2, Nat.zero_le _, rfl, rfl, Or.inl ⟨_, rfl, rfl, rfl⟩, HM.out.1, HM.out.2⟩
    case round =>
      obtain ⟨k, l, z, hk, rfl, HN, HI, HC, HK⟩ := hrel
      have hl : l.length ≤ 8 := by have := (outsAt_len HN.out).1; omega
      obtain ⟨a, cap, rfl, _⟩ := HI.out.w
      have hws := HK.out.size
      by_cases hlt : k < n
      · have HST := hid (outsAt_step HN.out)
        have HLr := hid (HL.out.kept HK.out (by omega))
        go_wp2_with fail
        refine (number R HR.out s hs z wr c HC.out u pv HLr.out).mono ?_
        rintro e w2 (⟨hq, rfl, M2⟩ | ⟨hq, rfl, hw⟩)
        · have HX : Hid (outsAt R s i2 (k + 1) = (pieceAt R s (z + (R (rest s z)).2)).map fun q => (l ++ [⟨(R (rest s z)).1, q.1⟩], q.2)) := by rw [Hid, HST.out, if_neg hq]
          have HM2 := hid M2
          have HL2 := hid (HLr.out.kept M2.2 (by omega))
          have HI2 : Hid (Or2 w2 w.heap.size (.slice a l.length cap) l) := RowO.kept HI.out M2.2 (fun b hb x => by have := (RowO.lt HI.out hb).1; omega)
          have HK2 : Hid (Kept (fun b => b = c) w w2) := (HK.out.trans M2.2).mono (fun b _ x => by rcases x with x | x <;> exact x)
          clear M2 hq HST HLr
          generalize (R (rest s z)).1 = x at *
          generalize z + (R (rest s z)).2 = z2 at *
          go_wp2_with fail
          refine (piece R HR.out s hs z2 w2 c HM2.out.1 u pv HL2.out hc).mono ?_
          rintro e w3 (⟨t, z3, hp, rfl, M3⟩ | ⟨hp, rfl, k3⟩)
          · have HX2 : Hid (outsAt R s i2 (k + 1) = some (l ++ [⟨x, t⟩], z3)) := by rw [Hid, HX.out, hp]; rfl
            have HM3 := hid M3
            have HI3 : Hid (Or2 w3 w.heap.size (.slice a l.length cap) l) := RowO.kept HI2.out M3.2 (fun b hb x => by have := (RowO.lt HI2.out hb).1; omega)
            have HK3 : Hid (Kept (fun b => b = c) w w3) := (HK2.out.trans M3.2).mono (fun b _ x => by rcases x with x | x <;> exact x)
            have hws3 := HK3.out.size
            clear M3 hp HX HI2 HM2 HL2
            have hwb : w.heap.size ≤ (w3.alloc (.cells #[.int .i64 x, .string t] 119)).heap.size := by have := lt_alloc w3 (.cells #[.int .i64 x, .string t] 119); omega
            go_wp2_with (at_builtin; refine wpList_app 83 119 (.agg #[.int .i64 0, .string ByteArray.empty]) 2 24 Tryz.underlying83 infoOut rfl (by decide) (by decide) _ rfl (.tmp 11) (.tmp 16) rfl w.heap.size _ l.length (oc l) rfl (RowO.below HI3.out ((Below.refl _ _).alloc (Nat.le_refl _) _)) ⟨w3.heap.size, 0, none⟩ 1 1 [.int .i64 x, .string t] rfl rfl (one_out w3 x t) (by intro u hu; simp at hu; rcases hu with rfl | rfl <;> rfl) (by omega) hwb ?_; intro v2 w4 r2 kk hi2; obtain ⟨p2, d2, e2, _⟩ := r2.wr; subst e2)
            have hrb : ∀ b, rb (.slice a l.length cap) = some b → w.heap.size ≤ b := fun b hb => (RowO.lt HI3.out hb).1
            have HC2 : Cur w4 c (rest s z3) := cur_kept ((HM3.out.1).below ((Below.refl _ _).alloc (Nat.le_refl _) _)) kk (fun x => by have := hrb c x; omega)
            have HK4 : Kept (fun b => b = c) w w4 := (HK3.out.trans ((Kept.of_below (S := fun _ => False) ((Below.refl _ w3).alloc (Nat.le_refl _) (.cells #[.int .i64 x, .string t] 119))).trans kk)).mono (fun b hb x => by rcases x with x | (x | x); exact x; cases x; (have := hrb b x; omega))
            exact ⟨⟨k + 1, l ++ [⟨x, t⟩], z3, by omega, by go_num, HX2, by unfold Or2; rw [← oc_app, List.length_append]; exact r2, HC2, HK4⟩, by simp [intOf]; omega⟩
          · have HX2 : Hid (outsAll R s i = none) := by
              have hz : outsAt R s i2 (k + 1) = none := by rw [HX.out, hp]; rfl
              have := outsAt_none hz (n - (k + 1))
              rw [Hid, HF.out]
              rwa [show k + 1 + (n - (k + 1)) = n by omega] at this
            have HK3 : Hid (Kept (fun b => b = c) w w3) := (HK2.out.trans k3).mono (fun b _ x => by rcases x with x | x <;> exact x)
            clear hp k3
            unfold lack
            go_wp2
            exact ⟨rfl, Or.inr ⟨HX2.out, rfl⟩, HK3.out⟩
        · have HX2 : Hid (outsAll R s i = none) := by
            have hz : outsAt R s i2 (k + 1) = none := by rw [HST.out, if_pos hq]
            have := outsAt_none hz (n - (k + 1))
            rw [Hid, HF.out]
            rwa [show k + 1 + (n - (k + 1)) = n by omega] at this
          obtain rfl := hw.symm
          clear hq hw
          unfold lack
          go_wp2
          exact ⟨rfl, Or.inr ⟨HX2.out, rfl⟩, HK.out⟩
      · obtain rfl : k = n := by omega
        go_wp2
        go_ret
        exact ⟨Or.inl ⟨l, z, a, cap, HF.out.trans HN.out, rfl, HI.out⟩, HK.out⟩
  · have HX2 : Hid (outsAll R s i = none) := by unfold Hid outsAll; rw [if_pos hq]
    have HK1 := hid k1
    clear hq k1
    unfold lack
    go_wp2
    exact ⟨rfl, Or.inr ⟨HX2.out, rfl⟩, HK1.out⟩

end Go.Proofs.YtlbfcnpnfoapnaaGreatDoor.Rd
