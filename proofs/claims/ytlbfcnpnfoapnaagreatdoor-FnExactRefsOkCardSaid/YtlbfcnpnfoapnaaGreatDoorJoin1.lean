/-
  The walk of laws.eqLease: a lease is itself. No condition.
  The walks of impl.ReadHost, spec.ReadHost and laws.FnExactReadHost: the law answers true, and nothing that was there is changed. Condition: the table of sixteen sums and the error of a part that lacks stand in their variables.
  The walks of laws.toWrite, laws.toWriteS and laws.toDisk: a disk laid anew. No condition but lengths of at most 2^20.
  The walks of laws.szStringS, laws.szIntS, laws.szWrite, laws.szWriteS and laws.szDisk: where they leave a number that isn't below 0, all lengths are at most what was left. No condition but texts that Go can hold.
  The walks of laws.eqStringS, laws.eqIntS, laws.eqWrite, laws.eqWriteS and laws.eqDisk: they tell whether two lists, writes or disks are the same. No condition.
  The walks of laws.markText, laws.markStringS, laws.markIntS, laws.heldStringS and laws.heldIntS: marks are laid into a slice, one after the other, and found there again. No condition but slices that may be written and numbers that are not too great.
  The walks of spec.ReadFrees and laws.FnExactReadFrees: the law answers true, and nothing that was there is changed. Condition: the table of sixteen sums and the error of a part that lacks stand in their variables.
  What a Var that is read says of the text: its bytes are the number's own, and a first byte below 128 is the number. No condition.
  A volume's text whose flag is read as more than 1 is not what is shown of it: so both sides refuse it. Condition: texts of at most 2^20 bytes.
  Plain: a journal's text; lists of sectors with texts in memory. No condition.
  The walks of spec.l4Piece, impl.showPiece, spec.l4OpOk and impl.isJournalOp. No condition but texts of at most 2^20 bytes.
  The walks of impl.areOuts, impl.isJournal and spec.l4JournalOk. No condition but texts and lists of at most 2^20.
  The walks of impl.isJournal and spec.l4JournalOk: both answer whether a journal is right. No condition but texts and lists of at most 2^20.
  The walk of spec.l4JournalOk: it answers whether a journal is right. No condition but texts and lists of at most 2^20.
  The walks of spec.ShowJournal, impl.showOp and impl.showOuts. No condition but texts and lists of at most 2^20.
  The walks of impl.showOp, impl.showOuts and impl.ShowJournal. Condition for the last: the table of sixteen sums holds what the program's text lays.
-/
import Derived.Test.YtlbfcnpnfoapnaaGreatDoorSecHost2
import Derived.Test.YtlbfcnpnfoapnaaGreatDoorRdHost
import Derived.RegionTactic
import Derived.BigRegion
import Derived.Laws.ResultCell
import Derived.Test.YtlbfcnpnfoapnaaGreatDoorToRows
import Derived.Test.YtlbfcnpnfoapnaaGreatDoorOwn
import Derived.Outline
import Derived.Deep.QuietTactic
import Derived.BigQuiet
import Derived.Laws.BytesArg
import Derived.Deep.RegionWith
import Derived.Test.YtlbfcnpnfoapnaaGreatDoorRdFrees
import Derived.Test.YtlbfcnpnfoapnaaGreatDoorRdNum
import Derived.Test.YtlbfcnpnfoapnaaGreatDoorSecNum
import Derived.Test.YtlbfcnpnfoapnaaGreatDoorRdVol2
import Derived.Test.YtlbfcnpnfoapnaaGreatDoorSecRows
import Derived.Test.YtlbfcnpnfoapnaaGreatDoorSecLease2
import Derived.Laws.StructEq
import Derived.Deep.RegionHeldLaw
namespace Go.Proofs.YtlbfcnpnfoapnaaGreatDoor.Sec
open Go.RowKit Go.Proofs.YtlbfcnpnfoapnaaGreatDoor.Mem
set_option linter.unusedVariables false

end Go.Proofs.YtlbfcnpnfoapnaaGreatDoor.Sec

namespace Go.Proofs.YtlbfcnpnfoapnaaGreatDoor.Rd
open Go.RowKit Go.Proofs.YtlbfcnpnfoapnaaGreatDoor.Mem Go.Proofs.YtlbfcnpnfoapnaaGreatDoor.Sec
set_option linter.unusedVariables false

/-- A struct out of its own block, and a slot. -/
theorem results_one {P : Program} {fn : Func} {p q : Tmp} {ty : TypeId} (h : fn.results = #[.cell p ty, .tmp q]) (tmps : Array Value) (w : World) (g : Nat) (v b : Value)
    (hp : tmps.getD p undef = .pointer (some ⟨g, 0, none⟩)) (hq : tmps.getD q undef = b) (h1 : (loadVar ty ⟨g, 0, none⟩).run P w = .ok v w) :
    (results fn tmps).run P w = .ok (.tuple #[v, b]) w := by
  rw [results_cell_tmp h, hp, hq]
  simp [asAddr, h1]

/-- What both sides answer. -/
def HostOut (R : ByteArray → Int × Nat) (s : ByteArray) (e : Ending) : Prop := (∃ b x y, readHost R s = some (b, x, y) ∧ e = .returned (.tuple #[hsV b x y, .bool true])) ∨ (readHost R s = none ∧ e = .returned (.tuple #[hsV 0 0 0, .bool false]))

set_option maxRecDepth 100000 in
set_option maxHeartbeats 2000000 in
theorem iReadHost (R : ByteArray → Int × Nat) (hR : Reads R) (s : ByteArray) (hs : s.size ≤ 1048576) (w : World) (u : TypeId) (pv : Value) (hL : Lacks w u pv) (T : Sums w) :
    Calls Tryz.prog 83 #[.string s] w fun e w' => HostOut R s e ∧ Below w.heap.size w w' := by
  have HR := hid hR
  have HL := hid hL
  have HT := hid T
  clear hR hL T
  go_enter Tryz.func83, Tryz.ntmps83
  go_wp2_with fail
  obtain ⟨wc, hwc, ec, A0, K0⟩ := one_new w [.int .i64 0, .int .i64 0, .int .i64 0] 78
  simp only [hwc]
  clear hwc
  have HA := hid A0
  have HK := hid K0
  clear A0 K0
  refine (readKindHost R HR.out s hs wc u pv (HL.out.kept (Kept.of_below (S := fun _ => False) HK.out) (fun x => x)) (HT.out.below HK.out)).mono ?_
  rintro e w1 (⟨b, x, y, hn, rfl, b1⟩ | ⟨hn, rfl, b1⟩)
  · have HN := hid hn
    have HA1 := hid (HA.out.below b1 HA.out.lt)
    have HB1 := hid (HK.out.trans (b1.mono HK.out.size))
    clear hn b1 HA
    have a0 := HA1.out.c 0 rfl
    have a1 := HA1.out.c 1 rfl
    have a2 := HA1.out.c 2 rfl
    have f0 := HA1.out.f 0
    have f1 := HA1.out.f 1
    have f2 := HA1.out.f 2
    have HRA := hid (((HA1.out.set 0 (.int .i64 b)).set 1 (.int .i64 x)).set 2 (.int .i64 y))
    have HBf := hid (below_set (below_set (below_set HB1.out w.heap.size 0 (.int .i64 b) (Nat.le_refl _)) w.heap.size 1 (.int .i64 x) (Nat.le_refl _)) w.heap.size 2 (.int .i64 y) (Nat.le_refl _))
    unfold hsV
    go_wp2
    refine bodyPost_ret (results_one rfl _ _ w.heap.size _ _ rfl rfl (load_row HRA.out Tryz.underlying78 rfl (by kernel_rfl))) rfl ?_
    exact ⟨Or.inl ⟨b, x, y, HN.out, rfl⟩, HBf.out⟩
  · have HN := hid hn
    have HA1 := hid (HA.out.below b1 HA.out.lt)
    have HB1 := hid (HK.out.trans (b1.mono HK.out.size))
    clear hn b1 HA
    have a0 := HA1.out.c 0 rfl
    have a1 := HA1.out.c 1 rfl
    have a2 := HA1.out.c 2 rfl
    have f0 := HA1.out.f 0
    have f1 := HA1.out.f 1
    have f2 := HA1.out.f 2
    have HRA := hid (((HA1.out.set 0 (.int .i64 0)).set 1 (.int .i64 0)).set 2 (.int .i64 0))
    have HBf := hid (below_set (below_set (below_set HB1.out w.heap.size 0 (.int .i64 0) (Nat.le_refl _)) w.heap.size 1 (.int .i64 0) (Nat.le_refl _)) w.heap.size 2 (.int .i64 0) (Nat.le_refl _))
    unfold hsV
    go_wp2
    refine bodyPost_ret (results_one rfl _ _ w.heap.size _ _ rfl rfl (load_row HRA.out Tryz.underlying78 rfl (by kernel_rfl))) rfl ?_
    exact ⟨Or.inr ⟨HN.out, rfl⟩, HBf.out⟩

set_option maxRecDepth 100000 in
set_option maxHeartbeats 2000000 in
theorem sReadHost (R : ByteArray → Int × Nat) (hR : Reads R) (s : ByteArray) (hs : s.size ≤ 1048576) (w : World) :
    Calls Tryz.prog 54 #[.string s] w fun e w' => HostOut R s e ∧ Below w.heap.size w w' := by
  have HR := hid hR
  clear hR
  go_enter Tryz.func54, Tryz.ntmps54
  go_wp2_with fail
  obtain ⟨wc, hwc, ec, A0, K0⟩ := one_new w [.int .i64 0, .int .i64 0, .int .i64 0] 78
  simp only [hwc]
  clear hwc
  have HA := hid A0
  have HK := hid K0
  clear A0 K0
  refine (l4Vars R HR.out s hs 5 3 (by decide) (by decide) wc).mono ?_
  rintro e w1 ⟨hg, b1⟩
  have HA1 := hid (HA.out.below b1 HA.out.lt)
  have HB1 := hid (HK.out.trans (b1.mono HK.out.size))
  clear b1 HA HK
  cases hn : nums R s 5 3 with
  | none =>
    rw [hn] at hg
    obtain ⟨v, rfl⟩ := hg
    have HN : Hid (readHost R s = none) := by unfold Hid readHost; rw [hn]
    clear hn
    have a0 := HA1.out.c 0 rfl
    have a1 := HA1.out.c 1 rfl
    have a2 := HA1.out.c 2 rfl
    have f0 := HA1.out.f 0
    have f1 := HA1.out.f 1
    have f2 := HA1.out.f 2
    have HRA := hid (((HA1.out.set 0 (.int .i64 0)).set 1 (.int .i64 0)).set 2 (.int .i64 0))
    have HBf := hid (below_set (below_set (below_set HB1.out w.heap.size 0 (.int .i64 0) (Nat.le_refl _)) w.heap.size 1 (.int .i64 0) (Nat.le_refl _)) w.heap.size 2 (.int .i64 0) (Nat.le_refl _))
    go_wp2
    refine bodyPost_ret (results_one rfl _ _ w.heap.size _ _ rfl rfl (load_row HRA.out Tryz.underlying78 rfl (by kernel_rfl))) rfl ?_
    exact ⟨Or.inr ⟨HN.out, rfl⟩, HBf.out⟩
  | some p =>
    obtain ⟨l, z⟩ := p
    rw [hn] at hg
    obtain ⟨v, rfl, hI⟩ := hg
    have hl := nums_len hn
    have hbd := nums_bd HR.out (by unfold maxLen; omega) hn
    obtain ⟨a, cap, rfl, hW⟩ := hI.w
    match l, hl with
    | [b, x, y], _ =>
    obtain ⟨g, off, rfl, c0⟩ := hW.sl 0 (by simp)
    obtain ⟨g1, off1, e1, c1⟩ := hW.sl 1 (by simp)
    obtain ⟨g2, off2, e2, c2⟩ := hW.sl 2 (by simp)
    cases e1; cases e2
    replace c0 : w1.cell? ⟨g, off + 0, none⟩ = some (.int .i64 b) := c0
    replace c1 : w1.cell? ⟨g, off + 1, none⟩ = some (.int .i64 x) := c1
    replace c2 : w1.cell? ⟨g, off + 2, none⟩ = some (.int .i64 y) := c2
    rw [Nat.add_zero] at c0
    have hx := hbd x (by simp)
    have HN := hid hn
    have hz : (0 : Int) ≤ (z : Int) := by omega
    simp only [List.length_cons, List.length_nil]
    clear hn hbd hI hW
    go_wp2
    obtain ⟨wz, hwz, ez, Z0, BZ⟩ := one_new w1 [.int .i64 0, .int .i64 0, .int .i64 0] 78
    have hgl : g < w1.heap.size := World.block_lt_of_cell? w1 _ c0
    have d0 := (BZ.cell (p := ⟨g, off, none⟩) hgl).trans c0
    have d1 := (BZ.cell (p := ⟨g, off + 1, none⟩) hgl).trans c1
    have d2 := (BZ.cell (p := ⟨g, off + 2, none⟩) hgl).trans c2
    have z0 := Z0.c 0 rfl
    have z1 := Z0.c 1 rfl
    have z2 := Z0.c 2 rfl
    have y0 := Z0.f 0
    have y1 := Z0.f 1
    have y2 := Z0.f 2
    have HZ := hid (((Z0.set 0 (.int .i64 b)).set 1 (.int .i64 (x - 1))).set 2 (.int .i64 y))
    have HAz := hid ((((HA1.out.below BZ HA1.out.lt).other (p := ⟨w1.heap.size, 0, none⟩) (by have := HA1.out.lt; show w.heap.size ≠ w1.heap.size; omega) (.int .i64 b)).other (p := ⟨w1.heap.size, 1, none⟩) (by have := HA1.out.lt; show w.heap.size ≠ w1.heap.size; omega) (.int .i64 (x - 1))).other (p := ⟨w1.heap.size, 2, none⟩) (by have := HA1.out.lt; show w.heap.size ≠ w1.heap.size; omega) (.int .i64 y))
    have HBz := hid (below_set (below_set (below_set (HB1.out.trans (BZ.mono HB1.out.size)) w1.heap.size 0 (.int .i64 b) HB1.out.size) w1.heap.size 1 (.int .i64 (x - 1)) HB1.out.size) w1.heap.size 2 (.int .i64 y) HB1.out.size)
    clear Z0 BZ
    go_region
    go_wp2_with fail
    obtain ⟨wq, hwq⟩ : ∃ wq, (((wz.setCell ⟨w1.heap.size, 0, none⟩ (.int .i64 b)).setCell ⟨w1.heap.size, 1, none⟩ (.int .i64 (x - 1))).setCell ⟨w1.heap.size, 2, none⟩ (.int .i64 y)).drew = wq := ⟨_, rfl⟩
    have HZq : Hid (Row wq w1.heap.size [.int .i64 b, .int .i64 (x - 1), .int .i64 y]) := by rw [← hwq]; exact HZ.out
    have HAq : Hid (Row wq w.heap.size [.int .i64 0, .int .i64 0, .int .i64 0]) := by rw [← hwq]; exact HAz.out
    have HBq : Hid (Below w.heap.size w wq) := by rw [← hwq]; exact HBz.out.drew
    simp only [hwq]
    clear hwq hwz d0 d1 d2 z0 z1 z2 y0 y1 y2 HZ HAz HBz c0 c1 c2
    refine (sShowHost b (x - 1) y wq).mono ?_
    rintro e w5 ⟨rfl, b5⟩
    have HA5 := hid (HAq.out.below b5 HAq.out.lt)
    have HZ5 := hid (HZq.out.below b5 HZq.out.lt)
    have HB5 := hid (HBq.out.trans (b5.mono HBq.out.size))
    clear b5 HAq HZq HBq
    have a0 := HA5.out.c 0 rfl
    have a1 := HA5.out.c 1 rfl
    have a2 := HA5.out.c 2 rfl
    have f0 := HA5.out.f 0
    have f1 := HA5.out.f 1
    have f2 := HA5.out.f 2
    have q0 := HZ5.out.c 0 rfl
    have q1 := HZ5.out.c 1 rfl
    have q2 := HZ5.out.c 2 rfl
    by_cases hsh : showHost b (x - 1) y = s
    · have HN2 : Hid (readHost R s = some (b, x - 1, y)) := by unfold Hid readHost; rw [HN.out]; simp only []; rw [if_pos hsh]
      have hne := Own.eqS_yes hsh
      generalize showHost b (x - 1) y = sh at *
      have HRA := hid ((((HA5.out).set 0 (.int .i64 b)).set 1 (.int .i64 (x - 1))).set 2 (.int .i64 y))
      have HBf := hid (below_set (below_set (below_set (HB5.out) w.heap.size 0 (.int .i64 b) (Nat.le_refl _)) w.heap.size 1 (.int .i64 (x - 1)) (Nat.le_refl _)) w.heap.size 2 (.int .i64 y) (Nat.le_refl _))
      go_wp2
      refine bodyPost_ret (results_one rfl _ _ w.heap.size _ _ rfl rfl (load_row HRA.out Tryz.underlying78 rfl (by kernel_rfl))) rfl ?_
      exact ⟨Or.inl ⟨b, x - 1, y, HN2.out, rfl⟩, HBf.out⟩
    · have HN2 : Hid (readHost R s = none) := by unfold Hid readHost; rw [HN.out]; simp only []; rw [if_neg hsh]
      have hne := Own.eqS_no hsh
      generalize showHost b (x - 1) y = sh at *
      have HRA := hid ((((HA5.out).set 0 (.int .i64 0)).set 1 (.int .i64 0)).set 2 (.int .i64 0))
      have HBf := hid (below_set (below_set (below_set (HB5.out) w.heap.size 0 (.int .i64 0) (Nat.le_refl _)) w.heap.size 1 (.int .i64 0) (Nat.le_refl _)) w.heap.size 2 (.int .i64 0) (Nat.le_refl _))
      go_wp2
      refine bodyPost_ret (results_one rfl _ _ w.heap.size _ _ rfl rfl (load_row HRA.out Tryz.underlying78 rfl (by kernel_rfl))) rfl ?_
      exact ⟨Or.inr ⟨HN2.out, rfl⟩, HBf.out⟩

end Go.Proofs.YtlbfcnpnfoapnaaGreatDoor.Rd

namespace Go.Proofs.YtlbfcnpnfoapnaaGreatDoor.Mem
open Go.RowKit
set_option linter.unusedVariables false

/-- A write under way. -/
structure Wt where
  host : Int
  epoch : Int
  sector : Int
  text : ByteArray

def Wt.none : Wt := ⟨0, 0, 0, ByteArray.empty⟩
def Wt.cells (x : Wt) : List Value := [.int .i64 x.host, .int .i64 x.epoch, .int .i64 x.sector, .string x.text]
def Wt.val (x : Wt) : Value := .agg #[.int .i64 x.host, .int .i64 x.epoch, .int .i64 x.sector, .string x.text]

/-- Cell i of a list of writes, four cells each. -/
def wcell (l : List Wt) (i : Nat) : Value := (l.getD (i / 4) Wt.none).cells.getD (i % 4) undef
def Wts (w : World) (a : Option Addr) (l : List Wt) : Prop := Sl w a (l.length * 4) (wcell l)
def WtsW (w : World) (B : Nat) (a : Option Addr) (l : List Wt) : Prop := Wr w B a (l.length * 4) (wcell l)

theorem wcell_at (l : List Wt) (k j : Nat) (hj : j < 4) : wcell l (k * 4 + j) = (l.getD k Wt.none).cells.getD j undef := by
  unfold wcell
  rw [show (k * 4 + j) / 4 = k by omega, show (k * 4 + j) % 4 = j by omega]

/-- The four cells of write k. -/
theorem Wts.at_ {w : World} {a : Option Addr} {l : List Wt} (h : Wts w a l) (k : Nat) (hk : k < l.length) : ∃ b off, a = some ⟨b, off, none⟩ ∧
    w.cell? ⟨b, off + k * 4, none⟩ = some (.int .i64 (l.getD k Wt.none).host) ∧ w.cell? ⟨b, off + k * 4 + 1, none⟩ = some (.int .i64 (l.getD k Wt.none).epoch) ∧
    w.cell? ⟨b, off + k * 4 + 2, none⟩ = some (.int .i64 (l.getD k Wt.none).sector) ∧ w.cell? ⟨b, off + k * 4 + 3, none⟩ = some (.string (l.getD k Wt.none).text) := by
  obtain ⟨b, off, rfl, h0⟩ := h (k * 4 + 0) (by omega)
  obtain ⟨b1, off1, e1, h1⟩ := h (k * 4 + 1) (by omega)
  obtain ⟨b2, off2, e2, h2⟩ := h (k * 4 + 2) (by omega)
  obtain ⟨b3, off3, e3, h3⟩ := h (k * 4 + 3) (by omega)
  cases e1; cases e2; cases e3
  rw [wcell_at l k _ (by omega)] at h0 h1 h2 h3
  exact ⟨b, off, rfl, h0, by rw [Nat.add_assoc]; exact h1, by rw [Nat.add_assoc]; exact h2, by rw [Nat.add_assoc]; exact h3⟩

/-- What stands in the new row behind k rounds. -/
def partW (l : List Wt) (k : Nat) (i : Nat) : Value := if i < k * 4 then wcell l i else Wt.none.cells.getD (i % 4) undef

theorem partW_succ (l : List Wt) (k : Nat) (j : Nat) : (if j / 4 = k then [Value.int .i64 (l.getD k Wt.none).host, .int .i64 (l.getD k Wt.none).epoch, .int .i64 (l.getD k Wt.none).sector, .string (l.getD k Wt.none).text].getD (j % 4) undef else partW l k j) = partW l (k + 1) j := by
  unfold partW
  by_cases h : j / 4 = k
  · rw [if_pos h, if_pos (by omega)]
    unfold wcell
    rw [h]; rfl
  · by_cases h2 : j < k * 4
    · rw [if_neg h, if_pos h2, if_pos (by omega)]
    · rw [if_neg h, if_neg h2, if_neg (by omega)]

/-- The four cells of write k, which may be written. -/
theorem wr_at {w : World} {B b : Nat} {m : Nat} {f : Nat → Value} (h : Wr w B (some ⟨b, 0, none⟩) m f) (k : Nat) (hk : k * 4 + 4 ≤ m) :
    (∃ v, w.cell? ⟨b, k * 4, none⟩ = some v) ∧ (∃ v, w.cell? ⟨b, k * 4 + 1, none⟩ = some v) ∧ (∃ v, w.cell? ⟨b, k * 4 + 2, none⟩ = some v) ∧ (∃ v, w.cell? ⟨b, k * 4 + 3, none⟩ = some v) ∧
    w.frozen? ⟨b, k * 4, none⟩ = false ∧ w.frozen? ⟨b, k * 4 + 1, none⟩ = false ∧ w.frozen? ⟨b, k * 4 + 2, none⟩ = false ∧ w.frozen? ⟨b, k * 4 + 3, none⟩ = false := by
  obtain ⟨_, _, e0, _, h0, z0⟩ := h (k * 4) (by omega)
  obtain ⟨_, _, e1, _, h1, z1⟩ := h (k * 4 + 1) (by omega)
  obtain ⟨_, _, e2, _, h2, z2⟩ := h (k * 4 + 2) (by omega)
  obtain ⟨_, _, e3, _, h3, z3⟩ := h (k * 4 + 3) (by omega)
  cases e0; cases e1; cases e2; cases e3
  rw [Nat.zero_add] at h0 h1 h2 h3 z0 z1 z2 z3
  exact ⟨⟨_, h0⟩, ⟨_, h1⟩, ⟨_, h2⟩, ⟨_, h3⟩, z0, z1, z2, z3⟩

/-- A disk. -/
structure Dk where
  sec : List ByteArray
  ep : List Int
  pe : List Wt

/-- v is the disk D in world w. -/
def DkR (w : World) (v : Value) (D : Dk) : Prop := ∃ a1 c1 a2 c2 a3 c3, v = .agg #[.slice a1 D.sec.length c1, .slice a2 D.ep.length c2, .slice a3 D.pe.length c3] ∧ Strs w a1 D.sec ∧ Ints w a2 D.ep ∧ Wts w a3 D.pe

/-- The same, in blocks from B on, no two lists in one block; they may be written. -/
def DkW (w : World) (B : Nat) (v : Value) (D : Dk) : Prop := ∃ a1 c1 a2 c2 a3 c3, v = .agg #[.slice a1 D.sec.length c1, .slice a2 D.ep.length c2, .slice a3 D.pe.length c3] ∧ StrsW w B a1 D.sec ∧ IntsW w B a2 D.ep ∧ WtsW w B a3 D.pe ∧
  (∀ b, foot a1 D.sec.length b → ¬ foot a2 D.ep.length b ∧ ¬ foot a3 (D.pe.length * 4) b) ∧ (∀ b, foot a2 D.ep.length b → ¬ foot a3 (D.pe.length * 4) b)

theorem DkR.below {w w' : World} {v : Value} {D : Dk} (h : DkR w v D) (b : Below w.heap.size w w') : DkR w' v D := by
  obtain ⟨a1, c1, a2, c2, a3, c3, e, s1, s2, s3⟩ := h
  exact ⟨a1, c1, a2, c2, a3, c3, e, Sl.below s1 b, Sl.below s2 b, Sl.below s3 b⟩

theorem DkW.read {w : World} {B : Nat} {v : Value} {D : Dk} (h : DkW w B v D) : DkR w v D := by
  obtain ⟨a1, c1, a2, c2, a3, c3, e, s1, s2, s3, _⟩ := h
  exact ⟨a1, c1, a2, c2, a3, c3, e, Wr.sl s1, Wr.sl s2, Wr.sl s3⟩

theorem DkW.below {w w' : World} {B : Nat} {v : Value} {D : Dk} (h : DkW w B v D) (b : Below w.heap.size w w') : DkW w' B v D := by
  obtain ⟨a1, c1, a2, c2, a3, c3, e, s1, s2, s3, f1, f2⟩ := h
  exact ⟨a1, c1, a2, c2, a3, c3, e, Wr.below s1 b, Wr.below s2 b, Wr.below s3 b, f1, f2⟩

end Go.Proofs.YtlbfcnpnfoapnaaGreatDoor.Mem

namespace Go.Proofs.YtlbfcnpnfoapnaaGreatDoor.Mem
open Go.RowKit
set_option linter.unusedVariables false

/-- What is left: a number below 0, or one not above what was, and all fits. -/
def FitS (r left : Int) (l : List ByteArray) : Prop := r < 0 ∨ (0 ≤ r ∧ r ≤ left ∧ (l.length : Int) ≤ left ∧ ∀ s ∈ l, (s.size : Int) ≤ left)
def FitN (r left : Int) (n : Nat) : Prop := r < 0 ∨ (0 ≤ r ∧ r ≤ left ∧ (n : Int) ≤ left)
def FitW (r left : Int) (l : List Wt) : Prop := r < 0 ∨ (0 ≤ r ∧ r ≤ left ∧ (l.length : Int) ≤ left ∧ ∀ s ∈ l, (s.text.size : Int) ≤ left)

set_option maxRecDepth 100000 in
set_option maxHeartbeats 1000000 in
theorem szStringS (w : World) (a : Option Addr) (cap : Nat) (l : List ByteArray) (left : Int) (S : Strs w a l) (hl : l.length ≤ maxLen) (hs : ∀ s ∈ l, s.size ≤ maxLen) (h0 : 0 ≤ left) (h1 : left ≤ 1048576) :
    Calls Tryz.prog 7 #[.slice a l.length cap, .int .i64 left] w fun e w' => ∃ r, e = .returned (.int .i64 r) ∧ w' = w ∧ FitS r left l := by
  unfold maxLen at hl hs
  have HS := hid S
  have Hs := hid hs
  clear S hs
  by_cases hb : left < (l.length : Int)
  · go_enter Tryz.func7, Tryz.ntmps7
    go_wp2
    go_ret
    exact ⟨_, rfl, rfl, Or.inl (by decide)⟩
  · go_enter Tryz.func7, Tryz.ntmps7
    go_wp2
    go_loop [1, 5] (fun x i => ∃ (k : Nat) (m : Int), k ≤ l.length ∧ i = .int .i64 (k : Int) ∧ x = .int .i64 m ∧ 0 ≤ m ∧ m ≤ left ∧ Hid (∀ j, j < k → ((l.getD j ByteArray.empty).size : Int) ≤ left)) (fun _ i => l.length - (intOf i).toNat)
    case atStart => exact ⟨0, _, Nat.zero_le _, rfl, rfl, by omega, by omega, fun j hj => by omega⟩
    case round =>
      obtain ⟨k, m, hk, rfl, rfl, hm0, hm1, HJ⟩ := hrel
      by_cases hlt : k < l.length
      · obtain ⟨b, off, rfl, hc⟩ := HS.out k hlt
        replace hc : w.cell? ⟨b, off + k, none⟩ = some (.string (l.getD k ByteArray.empty)) := hc
        have hx2 : (l.getD k ByteArray.empty).size ≤ 9223372036854775807 := by
          rw [List.getD, List.getElem?_eq_getElem hlt]; exact Hs.out _ (List.getElem_mem hlt)
        generalize hx : l.getD k ByteArray.empty = x at hc hx2
        have HX := hid hx
        clear hx
        by_cases hneg : m < (x.size : Int)
        · go_wp2
          go_ret
          exact ⟨_, rfl, rfl, Or.inl (by decide)⟩
        · go_wp2
          go_round
          case rel => exact ⟨k + 1, m - x.size, by omega, by go_num, rfl, by omega, by omega, fun j hj => by
            by_cases h : j = k
            · subst h; rw [HX.out]; omega
            · exact HJ.out j (by omega)⟩
          case measure => simp [intOf]; omega
      · obtain rfl : k = l.length := by omega
        go_wp2
        go_ret
        refine ⟨_, rfl, rfl, Or.inr ⟨hm0, hm1, by omega, fun s hs => ?_⟩⟩
        obtain ⟨j, hj, rfl⟩ := List.getElem_of_mem hs
        have := HJ.out j hj
        rwa [List.getD, List.getElem?_eq_getElem hj] at this

/-- The sizes that Go can hold. -/
structure Dk.Held (D : Dk) : Prop where
  h1 : D.sec.length ≤ maxLen
  h2 : D.ep.length ≤ maxLen
  h3 : D.pe.length ≤ maxLen
  t1 : ∀ s ∈ D.sec, s.size ≤ maxLen
  t3 : ∀ x ∈ D.pe, x.text.size ≤ maxLen

/-- The sizes that the laws look at. -/
structure Dk.Small (D : Dk) (m : Int) : Prop where
  h1 : (D.sec.length : Int) ≤ m
  h2 : (D.ep.length : Int) ≤ m
  h3 : (D.pe.length : Int) ≤ m
  t1 : ∀ s ∈ D.sec, (s.size : Int) ≤ m
  t3 : ∀ x ∈ D.pe, (x.text.size : Int) ≤ m

def FitD (r left : Int) (D : Dk) : Prop := r < 0 ∨ (0 ≤ r ∧ r ≤ left ∧ D.Small left)

end Go.Proofs.YtlbfcnpnfoapnaaGreatDoor.Mem

namespace Go.Proofs.YtlbfcnpnfoapnaaGreatDoor.Mem
open Go.RowKit Classical
set_option linter.unusedVariables false

theorem getD_ext {α : Type} {l m : List α} (d : α) (hl : l.length = m.length) (h : ∀ j, j < l.length → l.getD j d = m.getD j d) : l = m := by
  apply List.ext_getElem hl
  intro i h1 h2
  have := h i h1
  rwa [List.getD, List.getElem?_eq_getElem h1, List.getD, List.getElem?_eq_getElem h2] at this

set_option maxRecDepth 100000 in
set_option maxHeartbeats 1000000 in
theorem eqStringS (w : World) (a b : Option Addr) (ca cb : Nat) (l m : List ByteArray) (S : Strs w a l) (T : Strs w b m) (hl : l.length ≤ maxLen) (hm : m.length ≤ maxLen) :
    Calls Tryz.prog 12 #[.slice a l.length ca, .slice b m.length cb] w fun e w' => e = .returned (.bool (decide (l = m))) ∧ Below w.heap.size w w' := by
  unfold maxLen at hl hm
  have HS := hid S
  have HT := hid T
  clear S T
  by_cases hne : l.length = m.length
  · have Hne := hid hne
    rw [← hne]
    clear hne hm
    generalize hq : decide (l = m) = q
    have HQ := hid hq
    clear hq
    go_enter Tryz.func12, Tryz.ntmps12
    go_wp2
    go_loopw [5] (fun i wr => ∃ k : Nat, k ≤ l.length ∧ i = .int .i64 (k : Int) ∧ Hid (∀ j, j < k → l.getD j ByteArray.empty = m.getD j ByteArray.empty) ∧ Hid (Below w.heap.size w wr)) (fun i _ => l.length - (intOf i).toNat)
    case atStart => exact ⟨0, Nat.zero_le _, rfl, fun j hj => by omega, Below.refl _ _⟩
    case round =>
      obtain ⟨k, hk, rfl, HJ, HB⟩ := hrel
      by_cases hlt : k < l.length
      · obtain ⟨b1, o1, rfl, hc1⟩ := (HS.out.below HB.out) k hlt
        obtain ⟨b2, o2, rfl, hc2⟩ := (HT.out.below HB.out) k (Hne.out ▸ hlt)
        replace hc1 : wr.cell? ⟨b1, o1 + k, none⟩ = some (.string (l.getD k ByteArray.empty)) := hc1
        replace hc2 : wr.cell? ⟨b2, o2 + k, none⟩ = some (.string (m.getD k ByteArray.empty)) := hc2
        generalize hx : l.getD k ByteArray.empty = x at hc1
        generalize hy : m.getD k ByteArray.empty = y at hc2
        have HX := hid hx
        have HY := hid hy
        clear hx hy
        by_cases he : x = y
        · have he' := Own.eqS_yes he
          have HE := hid he
          clear he
          go_wp2
          go_quiet (fail)
          go_wp2
          exact ⟨⟨k + 1, by omega, by go_num, fun j hj => by
            by_cases h : j = k
            · subst h; rw [HX.out, HY.out]; exact HE.out
            · exact HJ.out j (by omega), below_drewN HB.out nq⟩, by simp [intOf]; omega⟩
        · have he' := Own.eqS_no he
          have HE := hid he
          clear he
          go_wp2
          go_quiet (fail)
          go_wp2
          go_ret
          refine ⟨?_, below_drewN HB.out nq⟩
          rw [← HQ.out, decide_eq_false (fun e => HE.out (by rw [← HX.out, ← HY.out, e]))]
          rfl
      · obtain rfl : k = l.length := by omega
        go_wp2
        go_ret
        refine ⟨?_, HB.out⟩
        rw [← HQ.out, decide_eq_true (getD_ext ByteArray.empty Hne.out HJ.out)]
        rfl
  · have hne' : ¬ (l.length : Int) = (m.length : Int) := by omega
    have HQ := hid (decide_eq_false (p := l = m) (fun e => hne (by rw [e])))
    rw [HQ.out]
    go_enter Tryz.func12, Tryz.ntmps12
    go_wp2
    go_ret
    exact ⟨rfl, Below.refl _ _⟩

set_option maxRecDepth 100000 in
set_option maxHeartbeats 1000000 in
theorem eqIntS (w : World) (a b : Option Addr) (ca cb : Nat) (l m : List Int) (S : Ints w a l) (T : Ints w b m) (hl : l.length ≤ maxLen) (hm : m.length ≤ maxLen) :
    Calls Tryz.prog 11 #[.slice a l.length ca, .slice b m.length cb] w fun e w' => e = .returned (.bool (decide (l = m))) ∧ Below w.heap.size w w' := by
  unfold maxLen at hl hm
  have HS := hid S
  have HT := hid T
  clear S T
  by_cases hne : l.length = m.length
  · have Hne := hid hne
    rw [← hne]
    clear hne hm
    generalize hq : decide (l = m) = q
    have HQ := hid hq
    clear hq
    go_enter Tryz.func11, Tryz.ntmps11
    go_wp2
    go_loopw [5] (fun i wr => ∃ k : Nat, k ≤ l.length ∧ i = .int .i64 (k : Int) ∧ Hid (∀ j, j < k → l.getD j 0 = m.getD j 0) ∧ Hid (Below w.heap.size w wr)) (fun i _ => l.length - (intOf i).toNat)
    case atStart => exact ⟨0, Nat.zero_le _, rfl, fun j hj => by omega, Below.refl _ _⟩
    case round =>
      obtain ⟨k, hk, rfl, HJ, HB⟩ := hrel
      by_cases hlt : k < l.length
      · obtain ⟨b1, o1, rfl, hc1⟩ := (HS.out.below HB.out) k hlt
        obtain ⟨b2, o2, rfl, hc2⟩ := (HT.out.below HB.out) k (Hne.out ▸ hlt)
        replace hc1 : wr.cell? ⟨b1, o1 + k, none⟩ = some (.int .i64 (l.getD k 0)) := hc1
        replace hc2 : wr.cell? ⟨b2, o2 + k, none⟩ = some (.int .i64 (m.getD k 0)) := hc2
        generalize hx : l.getD k 0 = x at hc1
        generalize hy : m.getD k 0 = y at hc2
        have HX := hid hx
        have HY := hid hy
        clear hx hy
        by_cases he : x = y
        · have HE := hid he
          go_wp2
          go_quiet (fail)
          go_wp2
          exact ⟨⟨k + 1, by omega, by go_num, fun j hj => by
            by_cases h : j = k
            · subst h; rw [HX.out, HY.out]; exact HE.out
            · exact HJ.out j (by omega), below_drewN HB.out nq⟩, by simp [intOf]; omega⟩
        · have HE := hid he
          go_wp2
          go_quiet (fail)
          go_wp2
          go_ret
          refine ⟨?_, below_drewN HB.out nq⟩
          rw [← HQ.out, decide_eq_false (fun e => HE.out (by rw [← HX.out, ← HY.out, e]))]
          rfl
      · obtain rfl : k = l.length := by omega
        go_wp2
        go_ret
        refine ⟨?_, HB.out⟩
        rw [← HQ.out, decide_eq_true (getD_ext 0 Hne.out HJ.out)]
        rfl
  · have hne' : ¬ (l.length : Int) = (m.length : Int) := by omega
    have HQ := hid (decide_eq_false (p := l = m) (fun e => hne (by rw [e])))
    rw [HQ.out]
    go_enter Tryz.func11, Tryz.ntmps11
    go_wp2
    go_ret
    exact ⟨rfl, Below.refl _ _⟩

end Go.Proofs.YtlbfcnpnfoapnaaGreatDoor.Mem

namespace Go.Proofs.YtlbfcnpnfoapnaaGreatDoor.Mem
open Go.RowKit
set_option linter.unusedVariables false

/-- The digits of q, none of 0; at most f. -/
def mkF : Nat → Nat → List Int
  | 0, _ => []
  | f + 1, q => if q = 0 then [] else mkF f (q / 10) ++ [48 + ((q % 10 : Nat) : Int)]
theorem mkF_zero (f : Nat) : mkF f 0 = [] := by cases f <;> simp [mkF]
theorem mkF_pos (f q : Nat) (h : q ≠ 0) : mkF (f + 1) q = mkF f (q / 10) ++ [48 + ((q % 10 : Nat) : Int)] := by rw [mkF, if_neg h]

/-- Mark k. -/
def markS (k : Nat) : ByteArray := strOfNums (109 :: mkF 20 k)

def MInv (M : Nat) (l : List Int) (q f : Nat) : Prop := q < 10 ^ f ∧ l.length + f = 20 ∧ mkF f q ++ l = mkF 20 M

theorem minv_start (M : Nat) (h : M < 100000000000000000000) : MInv M [] M 20 := ⟨by show M < 100000000000000000000; exact h, rfl, by simp⟩
theorem minv_more {M : Nat} {l : List Int} {q f : Nat} (h : MInv M l q f) (hq : q ≠ 0) : ∃ g, f = g + 1 ∧ MInv M ((48 + (q : Int) % 10) :: l) (q / 10) g := by
  obtain ⟨h1, h2, h3⟩ := h
  cases f with
  | zero => simp at h1; omega
  | succ g =>
    refine ⟨g, rfl, by rw [Nat.pow_succ] at h1; omega, by simp; omega, ?_⟩
    rw [mkF_pos g q hq] at h3
    rw [← h3]; simp
theorem minv_end {M : Nat} {l : List Int} {f : Nat} (h : MInv M l 0 f) : l = mkF 20 M := by
  have := h.2.2
  rw [mkF_zero] at this
  exact this
theorem minv_len {M : Nat} {l : List Int} {q f : Nat} (h : MInv M l q f) : l.length ≤ 20 := by have := h.2.1; omega
theorem mstr_cons (x : Int) (l : List Int) : strOfNums [x] ++ strOfNums l = strOfNums (x :: l) := by
  apply ByteArray.ext
  simp [strOfNums, ByteArray.data_append]
theorem mstr_m (l : List Int) : (⟨#[109]⟩ : ByteArray) ++ strOfNums l = strOfNums (109 :: l) := mstr_cons 109 l
theorem mstr_one (x : Int) : (strOfNums [x]).size = 1 := rfl

set_option maxRecDepth 100000 in
set_option maxHeartbeats 1000000 in
theorem markText (M : Nat) (w : World) (h0 : 0 < M) (h1 : (M : Int) ≤ 4611686018427387904) :
    Calls Tryz.prog 38 #[.int .i64 (M : Int)] w fun e w' => e = .returned (.string (markS M)) ∧ Below w.heap.size w w' := by
  have hneg : ¬ (M : Int) ≤ 0 := by omega
  go_enter Tryz.func38, Tryz.ntmps38
  go_wp2
  go_loopw [0, 3] (fun x s wr => ∃ (l : List Int) (q f : Nat), Hid (MInv M l q f) ∧ (q : Int) ≤ 4611686018427387904 ∧ x = .int .i64 (q : Int) ∧ s = .string (strOfNums l) ∧ Below w.heap.size w wr) (fun x _ _ => (intOf x).toNat)
  case atStart => exact ⟨[], M, 20, minv_start M (by omega), h1, rfl, rfl, Below.refl _ _⟩
  case round =>
    obtain ⟨l, q, f, hI, hq, rfl, rfl, hbel⟩ := hrel
    have hl := minv_len hI.out
    have hls := strOfNums_size l
    by_cases hlt : q = 0
    · subst hlt
      have Hf : Hid ((⟨#[109]⟩ : ByteArray) ++ strOfNums l = markS M) := by
        show _ = _
        rw [mstr_m, minv_end hI.out]; rfl
      have h9 : (⟨#[109]⟩ : ByteArray).size = 1 := rfl
      go_wp2
      go_ret
      exact ⟨Own.ret_str Hf.out, hbel⟩
    · obtain ⟨g, rfl, hI'⟩ := minv_more hI.out hlt
      have hne : (0 : Int) < (q : Int) := by omega
      have HS : Hid (strOfNums [48 + (q : Int) % 10] ++ strOfNums l = strOfNums ((48 + (q : Int) % 10) :: l)) := mstr_cons _ _
      have Hn : Hid (((q / 10 : Nat) : Int) = (q : Int) / 10) := by show _ = _; omega
      have hone := mstr_one (48 + (q : Int) % 10)
      have HI : Hid (MInv M ((48 + (q : Int) % 10) :: l) (q / 10) g) := hI'
      have hcv := fun (b len : Nat) (x : Int) (wx : World) (hc : wx.cell? ⟨b, 0, none⟩ = some (.int .u8 x)) => run_convert_bytes_arg (P := Tryz.prog) wx 38 5 Tryz.underlying38 Tryz.underlying5 b 0 1 len [x] rfl (fun i hi => by obtain rfl : i = 0 := (by omega); simpa using hc) 9 Tryz.underlying9
      clear hI'
      go_wp2
      go_roundw
      case rel => exact ⟨(48 + (q : Int) % 10) :: l, q / 10, g, HI, by rw [Hn.out]; omega, by rw [Hn.out], by rw [HS.out], hbel.alloc hbel.size _⟩
      case measure => simp [intOf]; omega

/-- What stands in the slice behind j rounds of marking from k on. -/
def msS (f : Nat → Value) (k j : Nat) (i : Nat) : Value := if i < j then .string (markS (k + i)) else f i
def msI (f : Nat → Value) (k j : Nat) (i : Nat) : Value := if i < j then .int .i64 ((k + i : Nat) : Int) else f i

theorem msS_succ (f : Nat → Value) (k j : Nat) (i : Nat) : (if i = j then Value.string (markS (k + j)) else msS f k j i) = msS f k (j + 1) i := by
  unfold msS
  by_cases h : i = j
  · subst h; simp
  · by_cases h2 : i < j
    · simp [h, h2, Nat.lt_succ_of_lt h2]
    · simp [h, h2, show ¬ i < j + 1 by omega]
theorem msI_succ (f : Nat → Value) (k j : Nat) (i : Nat) : (if i = j then Value.int .i64 ((k + j : Nat) : Int) else msI f k j i) = msI f k (j + 1) i := by
  unfold msI
  by_cases h : i = j
  · subst h; simp
  · by_cases h2 : i < j
    · simp [h, h2, Nat.lt_succ_of_lt h2]
    · simp [h, h2, show ¬ i < j + 1 by omega]

set_option maxRecDepth 100000 in
set_option maxHeartbeats 1000000 in
theorem markStringS (w : World) (B : Nat) (a : Option Addr) (n cap k : Nat) (f : Nat → Value) (S : Wr w B a n f) (hk : 0 < k) (hb : k + n ≤ 4611686018427387904) :
    Calls Tryz.prog 13 #[.slice a n cap, .int .i64 (k : Int)] w fun e w' => e = .returned (.int .i64 ((k + n : Nat) : Int)) ∧ Wr w' B a n (fun i => .string (markS (k + i))) ∧ Kept (foot a n) w w' := by
  have HS := hid S
  clear S
  go_enter Tryz.func13, Tryz.ntmps13
  go_wp2
  go_loopw [1, 5] (fun x i wr => ∃ j : Nat, j ≤ n ∧ i = .int .i64 (j : Int) ∧ x = .int .i64 ((k + j : Nat) : Int) ∧ Hid (Wr wr B a n (msS f k j)) ∧ Hid (Kept (foot a n) w wr)) (fun _ i _ => n - (intOf i).toNat)
  case atStart => exact ⟨0, Nat.zero_le _, rfl, rfl, HS.out.congr (fun i _ => by simp [msS]), Kept.refl _ _⟩
  case round =>
    obtain ⟨j, hj, rfl, rfl, HW, HK⟩ := hrel
    by_cases hlt : j < n
    · obtain ⟨b, off, rfl, hB, hc, hz⟩ := HW.out j hlt
      go_wp2_with fail
      refine (markText (k + j) _ (by omega) (by omega)).mono ?_
      rintro e w1 ⟨rfl, b1⟩
      have HW1 := hid (HW.out.below b1)
      have HK1 := hid (HK.out.trans (Kept.of_below (S := fun _ => False) b1))
      obtain ⟨b', off', e', hB', hc', hz'⟩ := HW1.out j hlt
      cases e'
      clear b1 hc hz
      go_wp2
      refine ⟨⟨j + 1, by omega, by go_num, by go_num, ?_, ?_⟩, by simp [intOf]; omega⟩
      · exact (HW1.out.set j hlt (.string (markS (k + j)))).congr (fun i _ => msS_succ f k j i)
      · exact (HK1.out.trans (kept_set w1 b (off + j) _)).mono (fun b2 _ h => by
          rcases h with (h | h) | h
          · exact h
          · exact h.elim
          · subst h; exact ⟨by omega, off, rfl⟩)
    · obtain rfl : j = n := by omega
      go_wp2
      go_ret
      exact ⟨rfl, HW.out.congr (fun i hi => by simp [msS, hi]), HK.out⟩

set_option maxRecDepth 100000 in
set_option maxHeartbeats 1000000 in
theorem markIntS (w : World) (B : Nat) (a : Option Addr) (n cap k : Nat) (f : Nat → Value) (S : Wr w B a n f) (hb : k + n ≤ 4611686018427387904) :
    Calls Tryz.prog 14 #[.slice a n cap, .int .i64 (k : Int)] w fun e w' => e = .returned (.int .i64 ((k + n : Nat) : Int)) ∧ Wr w' B a n (fun i => .int .i64 ((k + i : Nat) : Int)) ∧ Kept (foot a n) w w' := by
  have HS := hid S
  clear S
  go_enter Tryz.func14, Tryz.ntmps14
  go_wp2
  go_loopw [1, 5] (fun x i wr => ∃ j : Nat, j ≤ n ∧ i = .int .i64 (j : Int) ∧ x = .int .i64 ((k + j : Nat) : Int) ∧ Hid (Wr wr B a n (msI f k j)) ∧ Hid (Kept (foot a n) w wr)) (fun _ i _ => n - (intOf i).toNat)
  case atStart => exact ⟨0, Nat.zero_le _, rfl, rfl, HS.out.congr (fun i _ => by simp [msI]), Kept.refl _ _⟩
  case round =>
    obtain ⟨j, hj, rfl, rfl, HW, HK⟩ := hrel
    by_cases hlt : j < n
    · obtain ⟨b, off, rfl, hB, hc, hz⟩ := HW.out j hlt
      go_wp2
      refine ⟨⟨j + 1, by omega, by go_num, by go_num, ?_, ?_⟩, by simp [intOf]; omega⟩
      · exact (HW.out.set j hlt (.int .i64 ((k + j : Nat) : Int))).congr (fun i _ => msI_succ f k j i)
      · exact (HK.out.trans (kept_set wr b (off + j) _)).mono (fun b2 _ h => by
          rcases h with h | h
          · exact h
          · subst h; exact ⟨by omega, off, rfl⟩)
    · obtain rfl : j = n := by omega
      go_wp2
      go_ret
      exact ⟨rfl, HW.out.congr (fun i hi => by simp [msI, hi]), HK.out⟩

set_option maxRecDepth 100000 in
set_option maxHeartbeats 1000000 in
theorem heldStringS (w : World) (a : Option Addr) (n cap k : Nat) (S : Sl w a n (fun i => .string (markS (k + i)))) (hk : 0 < k) (hb : k + n ≤ 4611686018427387904) :
    Calls Tryz.prog 75 #[.slice a n cap, .int .i64 (k : Int)] w fun e w' => e = .returned (.int .i64 ((k + n : Nat) : Int)) ∧ Below w.heap.size w w' := by
  have HS := hid S
  clear S
  go_enter Tryz.func75, Tryz.ntmps75
  go_wp2
  go_loopw [1, 5] (fun x i wr => ∃ j : Nat, j ≤ n ∧ i = .int .i64 (j : Int) ∧ x = .int .i64 ((k + j : Nat) : Int) ∧ Hid (Below w.heap.size w wr)) (fun _ i _ => n - (intOf i).toNat)
  case atStart => exact ⟨0, Nat.zero_le _, rfl, rfl, Below.refl _ _⟩
  case round =>
    obtain ⟨j, hj, rfl, rfl, HB⟩ := hrel
    by_cases hlt : j < n
    · obtain ⟨b, off, rfl, hc⟩ := (HS.out.below HB.out) j hlt
      replace hc : wr.cell? ⟨b, off + j, none⟩ = some (.string (markS (k + j))) := hc
      have hlb := World.block_lt_of_cell? wr _ hc
      have he' : ((markS (k + j)).toList == (markS (k + j)).toList) = true := Own.eqS_yes rfl
      go_wp2
      go_region_with (go_at_call 38; refine (markText (k + j) _ (by omega) (by omega)).mono ?_; rintro e w1 ⟨rfl, b1'⟩; have b1 := undrew b1'; have hc1 := (b1.cell (p := ⟨b, off + j, none⟩) hlb).trans hc)
      all_goals (have HB1 := hid (HB.out.trans (b1.mono HB.out.size)); clear b1 b1' hc hc1; go_wp2)
      all_goals exact ⟨⟨j + 1, by omega, by go_num, by go_num, HB1⟩, by simp [intOf]; omega⟩
    · obtain rfl : j = n := by omega
      go_wp2
      go_ret
      exact ⟨rfl, HB.out⟩

set_option maxRecDepth 100000 in
set_option maxHeartbeats 1000000 in
theorem heldIntS (w : World) (a : Option Addr) (n cap k : Nat) (S : Sl w a n (fun i => .int .i64 ((k + i : Nat) : Int))) (hb : k + n ≤ 4611686018427387904) :
    Calls Tryz.prog 15 #[.slice a n cap, .int .i64 (k : Int)] w fun e w' => e = .returned (.int .i64 ((k + n : Nat) : Int)) ∧ Below w.heap.size w w' := by
  have HS := hid S
  clear S
  go_enter Tryz.func15, Tryz.ntmps15
  go_wp2
  go_loopw [1, 5] (fun x i wr => ∃ j : Nat, j ≤ n ∧ i = .int .i64 (j : Int) ∧ x = .int .i64 ((k + j : Nat) : Int) ∧ Hid (Below w.heap.size w wr)) (fun _ i _ => n - (intOf i).toNat)
  case atStart => exact ⟨0, Nat.zero_le _, rfl, rfl, Below.refl _ _⟩
  case round =>
    obtain ⟨j, hj, rfl, rfl, HB⟩ := hrel
    by_cases hlt : j < n
    · obtain ⟨b, off, rfl, hc⟩ := (HS.out.below HB.out) j hlt
      replace hc : wr.cell? ⟨b, off + j, none⟩ = some (.int .i64 ((k + j : Nat) : Int)) := hc
      go_wp2
      exact ⟨⟨j + 1, by omega, by go_num, by go_num, HB⟩, by simp [intOf]; omega⟩
    · obtain rfl : j = n := by omega
      go_wp2
      go_ret
      exact ⟨rfl, HB.out⟩

end Go.Proofs.YtlbfcnpnfoapnaaGreatDoor.Mem

namespace Go.Proofs.YtlbfcnpnfoapnaaGreatDoor.Rd
open Go.RowKit Go.Proofs.YtlbfcnpnfoapnaaGreatDoor.Mem Go.Proofs.YtlbfcnpnfoapnaaGreatDoor.Sec Classical
set_option linter.unusedVariables false

theorem nums_one {R : ByteArray → Int × Nat} {s : ByteArray} {i : Nat} : nums R s i 1 = if (R (rest s i)).2 = 0 then none else some ([(R (rest s i)).1], i + (R (rest s i)).2) := nums_step (l := []) (e := i) rfl

theorem none_row (w : World) (B : Nat) (b : Option Addr) : Ir w B (.slice b 0 0) [] := Or.inl ⟨b, rfl, rfl, rfl⟩

set_option maxRecDepth 100000 in
set_option maxHeartbeats 2000000 in
theorem sReadFrees (R : ByteArray → Int × Nat) (hR : Reads R) (s : ByteArray) (hs : s.size ≤ 1048576) (w : World) :
    Calls Tryz.prog 34 #[.string s] w fun e w' => FreesOut R s w w' e := by
  have HR := hid hR
  have hRV := hR (rest s 5) (by rw [rest_size]; unfold maxLen; omega)
  have hx0 := hRV.x0
  have hle := hRV.le
  rw [rest_size] at hle
  clear hR hRV
  go_enter Tryz.func34, Tryz.ntmps34
  go_wp2_with fail
  refine (l4Vars R HR.out s hs 5 1 (by decide) (by decide) w).mono ?_
  rintro e w1 ⟨hg, b1⟩
  have HB1 := hid b1
  clear b1
  rw [nums_one] at hg
  by_cases hq : (R (rest s 5)).2 = 0
  · rw [if_pos hq] at hg
    obtain ⟨v, rfl⟩ := hg
    have HN : Hid (readFrees R s = none) := by unfold Hid readFrees freesNums; rw [if_pos (Or.inl hq)]
    have HBf := hid (HB1.out.alloc HB1.out.size (.cells #[] 3))
    clear hq hx0 hle
    go_wp2
    go_ret2
    exact ⟨_, [], false, Or.inr ⟨HN.out, rfl, rfl⟩, rfl, none_row _ _ _, HBf.out⟩
  · rw [if_neg hq] at hg
    obtain ⟨v, rfl, hI⟩ := hg
    have HF : Hid (∀ h : ¬ 12 < (R (rest s 5)).1, freesNums R s = nums R s (5 + (R (rest s 5)).2) (R (rest s 5)).1.toNat) := fun h => by
      unfold freesNums; rw [if_neg (by omega)]
    have HF2 : Hid (12 < (R (rest s 5)).1 → freesNums R s = none) := fun h => by unfold freesNums; rw [if_pos (Or.inr h)]
    generalize (R (rest s 5)).1 = x at *
    obtain ⟨a, cap, rfl, hW⟩ := hI.w
    obtain ⟨g, off, rfl, c0⟩ := hW.sl 0 (by simp)
    replace c0 : w1.cell? ⟨g, off + 0, none⟩ = some (.int .i64 x) := c0
    rw [Nat.add_zero] at c0
    have hi2 : 5 + (R (rest s 5)).2 ≤ 1048576 := by omega
    generalize 5 + (R (rest s 5)).2 = i2 at *
    have hi20 : (0 : Int) ≤ (i2 : Int) := by omega
    simp only [List.length_cons, List.length_nil]
    clear hI hW hq
    by_cases hm : 12 < x
    · have HN : Hid (readFrees R s = none) := by unfold Hid readFrees; rw [HF2.out hm]
      have HBf := hid (HB1.out.alloc HB1.out.size (.cells #[] 3))
      go_wp2
      go_ret2
      exact ⟨_, [], false, Or.inr ⟨HN.out, rfl, rfl⟩, rfl, none_row _ _ _, HBf.out⟩
    · have HFn := hid (HF.out hm)
      obtain ⟨n, rfl⟩ : ∃ n : Nat, x = (n : Int) := Int.eq_ofNat_of_zero_le hx0
      rw [Int.toNat_natCast] at HFn
      clear HF HF2 hx0
      go_wp2_with fail
      refine (l4Vars R HR.out s hs i2 n hi2 (by omega) w1).mono ?_
      rintro e w2 ⟨hg, b2⟩
      have HB2 := hid (HB1.out.trans (b2.mono HB1.out.size))
      have hs1 := HB1.out.size
      clear b2 c0
      cases hnu : nums R s i2 n with
      | none =>
        rw [hnu] at hg HFn
        obtain ⟨v2, rfl⟩ := hg
        have HN : Hid (readFrees R s = none) := by unfold Hid readFrees; rw [HFn.out]
        have HBf := hid (HB2.out.alloc HB2.out.size (.cells #[] 3))
        clear hnu
        go_wp2
        go_ret2
        exact ⟨_, [], false, Or.inr ⟨HN.out, rfl, rfl⟩, rfl, none_row _ _ _, HBf.out⟩
      | some p =>
        obtain ⟨l, z⟩ := p
        rw [hnu] at hg HFn
        obtain ⟨v2, rfl, hI⟩ := hg
        have hll : l.length ≤ 12 := by have := nums_len hnu; omega
        have hz0 : (0 : Int) ≤ (z : Int) := by omega
        have HI := hid (RowO.mono hI hs1)
        obtain ⟨a2, cap2, rfl, hW⟩ := hI.w
        have HS2 := hid hW.sl
        clear hnu hI hW
        go_wp2_with fail
        refine (sShowFrees w2 a2 cap2 l HS2.out (by omega)).mono ?_
        rintro e w3 ⟨rfl, b3⟩
        have HB3 := hid (HB2.out.trans (b3.mono HB2.out.size))
        have HI3 := hid (RowO.below HI.out b3)
        clear b3
        by_cases hsh : showFrees l = s
        · have HN2 : Hid (readFrees R s = some l) := by unfold Hid readFrees; rw [HFn.out]; simp only []; rw [if_pos hsh]
          have hne := Own.eqS_yes hsh
          generalize showFrees l = sh at *
          go_wp2
          go_ret2
          exact ⟨_, l, true, Or.inl ⟨HN2.out, rfl⟩, rfl, HI3.out, HB3.out⟩
        · have HN2 : Hid (readFrees R s = none) := by unfold Hid readFrees; rw [HFn.out]; simp only []; rw [if_neg hsh]
          have hne := Own.eqS_no hsh
          have HBf := hid (HB3.out.alloc HB3.out.size (.cells #[] 3))
          generalize showFrees l = sh at *
          go_wp2
          go_ret2
          exact ⟨_, [], false, Or.inr ⟨HN2.out, rfl, rfl⟩, rfl, none_row _ _ _, HBf.out⟩

/-- Two answers are alike. -/
theorem out_alike {R : ByteArray → Int × Nat} {s : ByteArray} {l l' : List Int} {ok ok' : Bool} (h : readFrees R s = some l ∧ ok = true ∨ readFrees R s = none ∧ l = [] ∧ ok = false) (h' : readFrees R s = some l' ∧ ok' = true ∨ readFrees R s = none ∧ l' = [] ∧ ok' = false) : l' = l ∧ ok' = ok := by
  rcases h with ⟨a, b⟩ | ⟨a, b, c⟩ <;> rcases h' with ⟨a', b'⟩ | ⟨a', b', c'⟩
  · rw [a] at a'; cases a'; exact ⟨rfl, by rw [b, b']⟩
  · rw [a] at a'; cases a'
  · rw [a] at a'; cases a'
  · exact ⟨by rw [b, b'], by rw [c, c']⟩

theorem out_len {R : ByteArray → Int × Nat} (hR : Reads R) {s : ByteArray} (hs : s.size ≤ 1048576) {l : List Int} {ok : Bool} (h : readFrees R s = some l ∧ ok = true ∨ readFrees R s = none ∧ l = [] ∧ ok = false) : l.length ≤ 12 := by
  rcases h with ⟨a, _⟩ | ⟨_, b, _⟩
  · unfold readFrees at a
    cases hf : freesNums R s with
    | none => rw [hf] at a; cases a
    | some p =>
      obtain ⟨m, z⟩ := p
      rw [hf] at a
      simp only [] at a
      split at a
      · cases a; exact frees_short_len hR hs hf
      · cases a
  · rw [b]; simp

end Go.Proofs.YtlbfcnpnfoapnaaGreatDoor.Rd

namespace Go.Proofs.YtlbfcnpnfoapnaaGreatDoor.Rd
open Go.RowKit Go.Proofs.YtlbfcnpnfoapnaaGreatDoor.Mem
open Go.Proofs.YtlbfcnpnfoapnaaGreatDoor.Var (bl val varS first_low spec_hit spec_none impl_read impl_cut impl_none hit_of hit_shape val_le len_take bl_length)
set_option linter.unusedVariables false

def Tx (s : ByteArray) (p : Int × Nat) : Prop := (p.2 ≠ 0 → varS p.1 = s.extract 0 p.2) ∧ (p.2 ≠ 0 → (bl s).getD 0 0 < 128 → p.1 = (bl s).getD 0 0)

theorem tx_none (s : ByteArray) (x : Int) : Tx s (x, 0) := ⟨fun h => absurd rfl h, fun h => absurd rfl h⟩

theorem val_first (s : ByteArray) (h0 : 0 < s.size) (h : (bl s).getD 0 0 < 128) : val ((bl s).take 1) = (bl s).getD 0 0 := by
  have hl := bl_length s
  unfold bl at *
  cases hd : s.data.toList with
  | nil => rw [hd] at hl; simp at hl; omega
  | cons c t =>
    rw [hd] at h
    simp only [List.map_cons, List.take_succ_cons, List.take_zero, val, List.getD_cons_zero] at *
    omega

theorem rv_ex2 (s : ByteArray) (hs : s.size ≤ maxLen) : ∃ p : Int × Nat, RV s p ∧ Tx s p := by
  rcases first_low s (min 7 s.size) (by omega) with ⟨m, h1, h2, h3⟩ | h1
  · by_cases hz : m = 0 ∨ (bl s).getD m 0 ≠ 0
    · have hv := val_le ((bl s).take (m + 1)) (by have := len_take s (m + 1); omega)
      refine ⟨(val ((bl s).take (m + 1)), m + 1), ⟨fun w => spec_hit s m w hs (by omega) (by omega) (hit_of s m (by omega) (by omega) h2 h3 hz) ?_, fun w => impl_read s m w hs (by omega) (by omega) h2 h3 hz, by show m + 1 ≤ s.size; omega, hv.1, hv.2⟩, fun _ => hit_of s m (by omega) (by omega) h2 h3 hz, fun _ hb => ?_⟩
      · intro k hk1 hkm hh
        obtain ⟨j, rfl, _, g2, _⟩ := hit_shape s k (by omega) (by omega) hh
        have := h2 j (by omega)
        omega
      · have hm : m = 0 := by
          by_cases e : m = 0
          · exact e
          · have := h2 0 (by omega)
            omega
        subst hm
        exact val_first s (by omega) hb
    · have hm : m ≠ 0 := fun e => hz (Or.inl e)
      have hb : (bl s).getD m 0 = 0 := by
        by_cases e : (bl s).getD m 0 = 0
        · exact e
        · exact absurd (Or.inr e) hz
      refine ⟨(0, 0), ⟨fun w => spec_none s w hs ?_, fun w => impl_cut s m w hs (by omega) (by omega) h2 hb hm, Nat.zero_le _, Int.le_refl _, by decide⟩, tx_none _ _⟩
      intro k hk1 hk7 hks hh
      obtain ⟨j, rfl, g1, g2, g3⟩ := hit_shape s k hks hk7 hh
      by_cases hj : j < m
      · have := h2 j hj; omega
      · by_cases e : j = m
        · subst e
          rcases g3 with g3 | g3
          · exact hm g3
          · exact g3 hb
        · have := g1 m (by omega); omega
  · refine ⟨(0, 0), ⟨fun w => spec_none s w hs ?_, fun w => impl_none s w hs (fun j a b => h1 j (by omega)), Nat.zero_le _, Int.le_refl _, by decide⟩, tx_none _ _⟩
    intro k hk1 hk7 hks hh
    obtain ⟨j, rfl, _, g2, _⟩ := hit_shape s k hks hk7 hh
    have := h1 j (by omega)
    omega

theorem reads_ex2 : ∃ R, Reads R ∧ ∀ s : ByteArray, s.size ≤ maxLen → Tx s (R s) := by
  have h : ∀ s : ByteArray, ∃ p : Int × Nat, s.size ≤ maxLen → RV s p ∧ Tx s p := fun s => by
    by_cases hs : s.size ≤ maxLen
    · obtain ⟨p, hp⟩ := rv_ex2 s hs
      exact ⟨p, fun _ => hp⟩
    · exact ⟨(0, 0), fun h => absurd h hs⟩
  obtain ⟨R, hR⟩ := Classical.axiomOfChoice h
  exact ⟨R, fun s hs => (hR s hs).1, fun s hs => (hR s hs).2⟩

/-- What is left behind a head is the tail. -/
theorem rest_app (a b : ByteArray) (n : Nat) (hn : n = a.size) : rest (a ++ b) n = b := by
  subst hn
  unfold rest
  apply ByteArray.ext
  simp
  have e1 : a.data.extract a.data.size (a.data.size + b.data.size) = #[] := by
    apply Array.eq_empty_of_size_eq_zero
    rw [Array.size_extract]
    omega
  have e2 : b.data.extract 0 b.data.size = b.data := Array.extract_size
  show a.data.extract a.data.size (a.data.size + b.data.size) ++ b.data.extract 0 b.data.size = b.data
  rw [e1, e2, Array.empty_append]

end Go.Proofs.YtlbfcnpnfoapnaaGreatDoor.Rd

namespace Go.Proofs.YtlbfcnpnfoapnaaGreatDoor.Rd
open Go.RowKit Go.Proofs.YtlbfcnpnfoapnaaGreatDoor.Mem Go.Proofs.YtlbfcnpnfoapnaaGreatDoor.Sec
open Go.Proofs.YtlbfcnpnfoapnaaGreatDoor.Var (bl varS)
set_option linter.unusedVariables false

theorem three_steps {R : ByteArray → Int × Nat} {s : ByteArray} {i n : Nat} {x y f : Int} {l : List Int} {z : Nat} (h : nums R s i (n + 3) = some (x :: y :: f :: l, z)) :
    ∃ k1 k2 k3, R (rest s i) = (x, k1) ∧ R (rest s (i + k1)) = (y, k2) ∧ R (rest s (i + k1 + k2)) = (f, k3) ∧ k1 ≠ 0 ∧ k2 ≠ 0 ∧ k3 ≠ 0 := by
  have s1 := nums_step (R := R) (s := s) (i := i) (k := 0) (l := []) (e := i) rfl
  by_cases q1 : (R (rest s i)).2 = 0
  · rw [if_pos q1] at s1
    rw [show n + 3 = (n + 2) + 1 by omega] at h
    have := nums_none (k := 1) s1 (n + 2)
    rw [show 1 + (n + 2) = (n + 2) + 1 by omega] at this
    rw [this] at h
    cases h
  rw [if_neg q1] at s1
  have s2 := nums_step s1
  by_cases q2 : (R (rest s (i + (R (rest s i)).2))).2 = 0
  · rw [if_pos q2] at s2
    have := nums_none (k := 2) s2 (n + 1)
    rw [show 2 + (n + 1) = n + 3 by omega] at this
    rw [this] at h
    cases h
  rw [if_neg q2] at s2
  have s3 := nums_step s2
  by_cases q3 : (R (rest s (i + (R (rest s i)).2 + (R (rest s (i + (R (rest s i)).2))).2))).2 = 0
  · rw [if_pos q3] at s3
    have := nums_none (k := 3) s3 n
    rw [show 3 + n = n + 3 by omega] at this
    rw [this] at h
    cases h
  rw [if_neg q3] at s3
  have h7 := nums_split3 (n := n) s3
  rw [h] at h7
  cases hn : nums R s (i + (R (rest s i)).2 + (R (rest s (i + (R (rest s i)).2))).2 + (R (rest s (i + (R (rest s i)).2 + (R (rest s (i + (R (rest s i)).2))).2))).2) n with
  | none => rw [hn] at h7; cases h7
  | some p =>
    rw [hn] at h7
    simp only [Option.map_some, Option.some.injEq, Prod.mk.injEq, List.cons.injEq] at h7
    obtain ⟨⟨rfl, rfl, rfl, _⟩, _⟩ := h7
    exact ⟨_, _, _, rfl, rfl, rfl, q1, q2, q3⟩

theorem vr_of {x : Int} (h0 : 0 ≤ x) (h1 : x ≤ 562949953421311) : vr x = varS x := by unfold vr; rw [if_pos ⟨h0, h1⟩]

theorem flag_bytes (on : Bool) : ∃ c : UInt8, flag on = ⟨#[c]⟩ ∧ c.toNat ≤ 1 := by
  cases on
  · exact ⟨0, by decide, by decide⟩
  · exact ⟨1, by decide, by decide⟩

theorem no_flag (R : ByteArray → Int × Nat) (hR : Reads R) (hT : ∀ s : ByteArray, s.size ≤ maxLen → Tx s (R s)) (s : ByteArray) (hs : s.size ≤ 1048576) : NoVol R s 5 → readVol R s = none := by
  rintro (h | ⟨x, y, f, l, z, h, hf⟩)
  · unfold readVol; rw [h]
  unfold readVol
  rw [h]
  simp only []
  rw [if_neg]
  intro hsh
  obtain ⟨k1, k2, k3, e1, e2, e3, q1, q2, q3⟩ := three_steps (n := 4) h
  have hb : ∀ i, (rest s i).size ≤ maxLen := fun i => by rw [rest_size]; unfold maxLen; omega
  have r1 := hR _ (hb 5)
  have r2 := hR _ (hb (5 + k1))
  have t1 := (hT _ (hb 5)).1
  have t2 := (hT _ (hb (5 + k1))).1
  have t3 := (hT _ (hb (5 + k1 + k2))).2
  rw [e1] at r1 t1
  rw [e2] at r2 t2
  rw [e3] at t3
  have z1 : (vr x).size = k1 := by rw [vr_of r1.x0 r1.x1, t1 q1]; have := r1.le; simp at this ⊢; omega
  have z2 : (vr y).size = k2 := by rw [vr_of r2.x0 r2.x1, t2 q2]; have := r2.le; simp at this ⊢; omega
  by_cases hv : volOk (x - 1) y (decide (f = 1)) (l.map (· + -1)) = true
  · obtain ⟨c, hc, hc1⟩ := flag_bytes (decide (f = 1))
    rw [← vol_yes hv] at hsh
    unfold summed showLs at hsh
    obtain ⟨A, hA⟩ : ∃ A, Go.Proofs.YtlbfcnpnfoapnaaGreatDoor.Fix.fxS (crc (⟨#[118]⟩ ++ (vr (x - 1 + 1) ++ vr y) ++ flag (decide (f = 1)) ++ vrs (-1) (l.map (· + -1)))) 4 = A := ⟨_, rfl⟩
    have hA4 : A.size = 4 := by rw [← hA, Go.Proofs.YtlbfcnpnfoapnaaGreatDoor.Fix.fxS_size]
    rw [hA] at hsh
    rw [show x - 1 + 1 = x by omega, hc] at hsh
    generalize vrs (-1) (l.map (· + -1)) = V at hsh
    have hs2 : (A ++ ⟨#[118]⟩ ++ vr x ++ vr y) ++ (⟨#[c]⟩ ++ V) = s := by rw [← hsh]; simp only [ByteArray.append_assoc]
    have hr := rest_app (A ++ ⟨#[118]⟩ ++ vr x ++ vr y) (⟨#[c]⟩ ++ V) (5 + k1 + k2) (by simp only [ByteArray.size_append, hA4, z1, z2]; rfl)
    rw [hs2] at hr
    rw [hr] at t3
    have hg : (bl (⟨#[c]⟩ ++ V)).getD 0 0 = (c.toNat : Int) := by simp [bl]
    rw [hg] at t3
    have := t3 q3 (by omega)
    simp at this
    omega
  · rw [vol_no (by simpa using hv)] at hsh
    have hk := r1.le
    rw [rest_size, ← hsh] at hk
    have h0 : (⟨#[]⟩ : ByteArray).size = 0 := rfl
    rw [h0] at hk
    have : k1 ≤ 0 - 5 := hk
    omega

end Go.Proofs.YtlbfcnpnfoapnaaGreatDoor.Rd

namespace Go.Proofs.YtlbfcnpnfoapnaaGreatDoor.Sec
open Go.RowKit Go.Proofs.YtlbfcnpnfoapnaaGreatDoor.Mem
set_option linter.unusedVariables false

/-- A sector that a journal writes. -/
structure Ou where
  sec : Int
  text : ByteArray

def Ou.none : Ou := ⟨0, ByteArray.empty⟩
def Ou.cells (x : Ou) : List Value := [.int .i64 x.sec, .string x.text]

/-- A journal. -/
structure Jn where
  txn : Int
  done : Bool
  kind : Int
  vol : Int
  to : Int
  at_ : Int
  text : ByteArray
  outs : List Ou

/-- Cell i of a list of them, two cells each. -/
def ocell (l : List Ou) (i : Nat) : Value := (l.getD (i / 2) Ou.none).cells.getD (i % 2) undef
def Ous (w : World) (a : Option Addr) (l : List Ou) : Prop := Sl w a (l.length * 2) (ocell l)
def OusW (w : World) (B : Nat) (a : Option Addr) (l : List Ou) : Prop := Wr w B a (l.length * 2) (ocell l)

theorem ocell_at (l : List Ou) (k j : Nat) (hj : j < 2) : ocell l (k * 2 + j) = (l.getD k Ou.none).cells.getD j undef := by
  unfold ocell
  rw [show (k * 2 + j) / 2 = k by omega, show (k * 2 + j) % 2 = j by omega]

theorem Ous.at_ {w : World} {a : Option Addr} {l : List Ou} (h : Ous w a l) (k : Nat) (hk : k < l.length) : ∃ b off, a = some ⟨b, off, none⟩ ∧
    w.cell? ⟨b, off + k * 2, none⟩ = some (.int .i64 (l.getD k Ou.none).sec) ∧ w.cell? ⟨b, off + k * 2 + 1, none⟩ = some (.string (l.getD k Ou.none).text) := by
  obtain ⟨b, off, rfl, h0⟩ := h (k * 2 + 0) (by omega)
  obtain ⟨b1, off1, e1, h1⟩ := h (k * 2 + 1) (by omega)
  cases e1
  rw [ocell_at l k _ (by omega)] at h0 h1
  exact ⟨b, off, rfl, h0, by rw [Nat.add_assoc]; exact h1⟩

/-- Number i of the list is right. -/
def outAt (l : List Ou) (i : Nat) : Prop := (0 ≤ (l.getD i Ou.none).sec ∧ (l.getD i Ou.none).sec ≤ 33) ∧ (0 < i → (l.getD (i - 1) Ou.none).sec < (l.getD i Ou.none).sec) ∧ ((l.getD i Ou.none).text.size : Int) ≤ 60

theorem outAt_dec (l : List Ou) : Nonempty (DecidablePred (outAt l)) := ⟨fun i => by unfold outAt; exact inferInstance⟩

def outsOk (l : List Ou) : Bool := (List.range l.length).all fun i => decide (0 ≤ (l.getD i Ou.none).sec ∧ (l.getD i Ou.none).sec ≤ 33) && decide (0 < i → (l.getD (i - 1) Ou.none).sec < (l.getD i Ou.none).sec) && decide (((l.getD i Ou.none).text.size : Int) ≤ 60)

theorem outsOk_iff (l : List Ou) : outsOk l = true ↔ ∀ i, i < l.length → outAt l i := by
  unfold outsOk outAt
  rw [List.all_eq_true]
  constructor
  · intro h i hi
    have := h i (List.mem_range.2 hi)
    rw [Bool.and_eq_true, Bool.and_eq_true] at this
    exact ⟨of_decide_eq_true this.1.1, of_decide_eq_true this.1.2, of_decide_eq_true this.2⟩
  · intro h i hi
    obtain ⟨a, b, c⟩ := h i (List.mem_range.1 hi)
    rw [Bool.and_eq_true, Bool.and_eq_true]
    exact ⟨⟨decide_eq_true a, decide_eq_true b⟩, decide_eq_true c⟩

theorem outsOk_no {l : List Ou} (i : Nat) (hi : i < l.length) (h : ¬ outAt l i) : outsOk l = false := by
  cases e : outsOk l with
  | false => rfl
  | true => exact absurd ((outsOk_iff l).1 e i hi) h

def opOk (kind vol to at_ : Int) (text : ByteArray) : Bool := decide (1 ≤ kind ∧ kind ≤ 20) && between 0 99 [vol, to, at_] && decide ((text.size : Int) ≤ 16)

def opNone (kind vol to at_ : Int) (text : ByteArray) : Prop := kind = 0 ∧ vol = 0 ∧ to = 0 ∧ at_ = 0 ∧ text.size = 0

def Jn.ok (J : Jn) : Bool :=
  if J.done then decide (0 ≤ J.txn ∧ J.txn ≤ 1000000) && (decide (J.kind = 0 ∧ J.vol = 0 ∧ J.to = 0 ∧ J.at_ = 0 ∧ J.text.size = 0) && decide (J.outs.length = 0))
  else decide (1 ≤ J.txn ∧ J.txn ≤ 1000000) && (opOk J.kind J.vol J.to J.at_ J.text && (decide (1 ≤ J.outs.length ∧ J.outs.length ≤ 8) && outsOk J.outs))

def piece (s : ByteArray) : ByteArray := vr (s.size : Int) ++ s

/-- The texts of sectors, one behind the other. -/
def outsS (l : List Ou) : ByteArray := l.foldl (fun s x => s ++ vr x.sec ++ piece x.text) ⟨#[]⟩

def Jn.head (J : Jn) : ByteArray := ⟨#[106]⟩ ++ vr J.txn ++ flag J.done ++ vr J.kind ++ vr J.vol ++ vr J.to ++ vr J.at_ ++ piece J.text ++ vr (J.outs.length : Int)
def Jn.show (J : Jn) : ByteArray := if J.ok then summed (J.head ++ outsS J.outs) else ⟨#[]⟩

theorem piece_size (s : ByteArray) : (piece s).size ≤ 7 + s.size := by
  have := vr_size (s.size : Int)
  unfold piece; rw [ByteArray.size_append]; omega

theorem outsS_take (l : List Ou) (k : Nat) (h : k < l.length) : outsS (l.take (k + 1)) = outsS (l.take k) ++ vr (l.getD k Ou.none).sec ++ piece (l.getD k Ou.none).text := by
  unfold outsS
  rw [List.take_add_one, List.foldl_append]
  simp [List.getD, h]

theorem outsS_size (l : List Ou) (hl : l.length ≤ 8) (h : ∀ i, i < l.length → ((l.getD i Ou.none).text.size : Int) ≤ 60) (k : Nat) (hk : k ≤ l.length) : (outsS (l.take k)).size ≤ 74 * k := by
  induction k with
  | zero => simp [outsS]; rfl
  | succ k ih =>
    have h1 := ih (by omega)
    have h2 := vr_size (l.getD k Ou.none).sec
    have h3 := piece_size (l.getD k Ou.none).text
    have h4 := h k (by omega)
    rw [outsS_take l k (by omega), ByteArray.size_append, ByteArray.size_append]
    omega

theorem head_size (J : Jn) (h : J.text.size ≤ 16) : J.head.size ≤ 100 := by
  have h0 := vr_size J.txn
  have h1 := vr_size J.kind
  have h2 := vr_size J.vol
  have h3 := vr_size J.to
  have h4 := vr_size J.at_
  have h5 := piece_size J.text
  have h6 := vr_size (J.outs.length : Int)
  have h7 : (flag J.done).size ≤ 7 := vr_size _
  unfold Jn.head
  simp only [ByteArray.size_append]
  have : (⟨#[106]⟩ : ByteArray).size = 1 := rfl
  omega

end Go.Proofs.YtlbfcnpnfoapnaaGreatDoor.Sec

namespace Go.Proofs.YtlbfcnpnfoapnaaGreatDoor.Sec
open Go.RowKit Go.Proofs.YtlbfcnpnfoapnaaGreatDoor.Mem
set_option linter.unusedVariables false

set_option maxHeartbeats 400000 in
theorem l4Piece (s : ByteArray) (w : World) (hs : s.size ≤ 1048576) : Calls Tryz.prog 130 #[.string s] w fun e w' => e = .returned (.string (piece s)) ∧ Below w.heap.size w w' := by
  have HD : Hid (vr (s.size : Int) ++ s = piece s) := rfl
  have hv := vr_size (s.size : Int)
  go_enter Tryz.func130, Tryz.ntmps130
  go_wp2_with fail
  refine (sVar (s.size : Int) _).mono ?_
  rintro e w1 ⟨rfl, b1⟩
  have HB := hid b1
  clear b1
  go_wp2
  go_ret
  exact ⟨Own.ret_str HD.out, HB.out⟩

set_option maxHeartbeats 400000 in
theorem showPiece (s : ByteArray) (w : World) (hs : s.size ≤ 1048576) : Calls Tryz.prog 148 #[.string s] w fun e w' => e = .returned (.string (piece s)) ∧ Below w.heap.size w w' := by
  have HD : Hid (vr (s.size : Int) ++ s = piece s) := rfl
  have hv := vr_size (s.size : Int)
  go_enter Tryz.func148, Tryz.ntmps148
  go_wp2_with fail
  refine (iVar (s.size : Int) _).mono ?_
  rintro e w1 ⟨rfl, b1⟩
  have HB := hid b1
  clear b1
  go_wp2
  go_ret
  exact ⟨Own.ret_str HD.out, HB.out⟩

/-- A call's value. -/
def opV (kind vol to at_ : Int) (text : ByteArray) : Value := .agg #[.int .i64 kind, .int .i64 vol, .int .i64 to, .int .i64 at_, .string text]

theorem op_no0 {k v t a : Int} {s : ByteArray} (h : ¬ (1 ≤ k ∧ k ≤ 20)) : opOk k v t a s = false := by unfold opOk; rw [decide_eq_false h]; rfl
theorem three {v t a : Int} : between 0 99 [v, t, a] = (decide (0 ≤ v ∧ v ≤ 99) && (decide (0 ≤ t ∧ t ≤ 99) && (decide (0 ≤ a ∧ a ≤ 99) && true))) := rfl
theorem op_no1 {k v t a : Int} {s : ByteArray} (h : between 0 99 [v, t, a] = false) : opOk k v t a s = false := by unfold opOk; rw [h, Bool.and_false]; rfl
theorem op_yes {k v t a : Int} {s : ByteArray} (h : 1 ≤ k ∧ k ≤ 20) (h1 : between 0 99 [v, t, a] = true) : opOk k v t a s = decide ((s.size : Int) ≤ 16) := by unfold opOk; rw [decide_eq_true h, h1]; rfl

set_option maxRecDepth 100000 in
set_option maxHeartbeats 1000000 in
theorem l4OpOk (k v t a : Int) (s : ByteArray) (w : World) (hs : s.size ≤ 1048576) :
    Calls Tryz.prog 155 #[opV k v t a s] w fun e w' => e = .returned (.bool (opOk k v t a s)) ∧ Below w.heap.size w w' := by
  unfold opV
  obtain ⟨wa, hwa, ez, A0, B0⟩ := one_new w [.int .i64 k, .int .i64 v, .int .i64 t, .int .i64 a, .string s] 82
  have k0 := A0.c 0 rfl
  have k1 := A0.c 1 rfl
  have k2 := A0.c 2 rfl
  have k3 := A0.c 3 rfl
  have k4 := A0.c 4 rfl
  have HB := hid B0
  clear A0 B0
  go_enter Tryz.func155, Tryz.ntmps155
  go_wp2_with fail
  by_cases c0 : 1 ≤ k ∧ k ≤ 20
  · have c0' := decide_eq_true c0
    have HC0 := hid c0
    clear c0
    refine (c0' ▸ l1In k 1 20 _).mono ?_
    rintro e w1 ⟨rfl, hw⟩
    obtain rfl := hw.symm
    go_wp2_with fail
    by_cases c1 : 0 ≤ v ∧ v ≤ 99
    · have c1' := decide_eq_true c1
      refine (c1' ▸ l1In v 0 99 _).mono ?_
      rintro e w1 ⟨rfl, hw⟩
      obtain rfl := hw.symm
      go_wp2_with fail
      by_cases c2 : 0 ≤ t ∧ t ≤ 99
      · have c2' := decide_eq_true c2
        refine (c2' ▸ l1In t 0 99 _).mono ?_
        rintro e w1 ⟨rfl, hw⟩
        obtain rfl := hw.symm
        go_wp2_with fail
        by_cases c3 : 0 ≤ a ∧ a ≤ 99
        · have c3' := decide_eq_true c3
          have HY : Hid (opOk k v t a s = decide ((s.size : Int) ≤ 16)) := op_yes HC0.out (by rw [three, c1', c2', c3']; rfl)
          clear c1 c2 c3
          refine (c3' ▸ l1In a 0 99 _).mono ?_
          rintro e w1 ⟨rfl, hw⟩
          obtain rfl := hw.symm
          go_wp2
          go_ret
          exact ⟨by rw [HY.out]; rfl, HB.out⟩
        · have c3' := decide_eq_false c3
          have HN : Hid (opOk k v t a s = false) := op_no1 (by rw [three, c3', c2', c1']; rfl)
          clear c1 c2 c3
          refine (c3' ▸ l1In a 0 99 _).mono ?_
          rintro e w1 ⟨rfl, hw⟩
          obtain rfl := hw.symm
          go_wp2
          go_ret
          exact ⟨by rw [HN.out]; rfl, HB.out⟩
      · have c2' := decide_eq_false c2
        have HN : Hid (opOk k v t a s = false) := op_no1 (by rw [three, c2', c1']; rfl)
        clear c1 c2
        refine (c2' ▸ l1In t 0 99 _).mono ?_
        rintro e w1 ⟨rfl, hw⟩
        obtain rfl := hw.symm
        go_wp2
        go_ret
        exact ⟨by rw [HN.out]; rfl, HB.out⟩
    · have c1' := decide_eq_false c1
      have HN : Hid (opOk k v t a s = false) := op_no1 (by rw [three, c1']; rfl)
      clear c1
      refine (c1' ▸ l1In v 0 99 _).mono ?_
      rintro e w1 ⟨rfl, hw⟩
      obtain rfl := hw.symm
      go_wp2
      go_ret
      exact ⟨by rw [HN.out]; rfl, HB.out⟩
  · have c0' := decide_eq_false c0
    have HN : Hid (opOk k v t a s = false) := op_no0 c0
    clear c0
    refine (c0' ▸ l1In k 1 20 _).mono ?_
    rintro e w1 ⟨rfl, hw⟩
    obtain rfl := hw.symm
    go_wp2
    go_ret
    exact ⟨by rw [HN.out]; rfl, HB.out⟩

theorem ints_new (w : World) (l : List Int) : Ints (w.alloc (.cells (l.map (Value.int .i64)).toArray 3)) (some ⟨w.heap.size, 0, none⟩) l :=
  (wr_new w _ 3 l.length (fun i => .int .i64 (l.getD i 0)) (fun i hi => by simp [List.getD, hi])).sl

set_option maxRecDepth 100000 in
set_option maxHeartbeats 1000000 in
theorem isJournalOp (k v t a : Int) (s : ByteArray) (w : World) (hs : s.size ≤ 1048576) :
    Calls Tryz.prog 146 #[opV k v t a s] w fun e w' => e = .returned (.bool (opOk k v t a s)) ∧ Below w.heap.size w w' := by
  unfold opV
  obtain ⟨wa, hwa, ez, A0, B0⟩ := one_new w [.int .i64 k, .int .i64 v, .int .i64 t, .int .i64 a, .string s] 82
  have k0 := A0.c 0 rfl
  have k1 := A0.c 1 rfl
  have k2 := A0.c 2 rfl
  have k3 := A0.c 3 rfl
  have k4 := A0.c 4 rfl
  have HA := hid A0
  have HB := hid B0
  clear A0 B0
  go_enter Tryz.func146, Tryz.ntmps146
  go_wp2_with fail
  obtain ⟨wb, hwb⟩ : ∃ wb, wa.alloc (.cells ([v, t, a].map (Value.int .i64)).toArray 3) = wb := ⟨_, rfl⟩
  have HI := hid (ints_new wa [v, t, a])
  have b2 : Below wa.heap.size wa (wa.alloc (.cells ([v, t, a].map (Value.int .i64)).toArray 3)) := (Below.refl _ _).alloc (Nat.le_refl _) _
  rw [hwb] at b2 HI
  rw [ez] at HI
  simp only [List.map_cons, List.map_nil] at hwb
  simp only [hwb]
  have HB2 := hid (HB.out.trans (b2.mono HB.out.size))
  replace k4 := (HA.out.below b2 HA.out.lt).c 4 rfl
  clear b2 hwb hwa k0 k1 k2 k3 HA
  by_cases c0 : 1 ≤ k ∧ k ≤ 20
  · have c0' := decide_eq_true c0
    have HC0 := hid c0
    clear c0
    refine (c0' ▸ isFrom k 1 20 _).mono ?_
    rintro e w1 ⟨rfl, hw⟩
    obtain rfl := hw.symm
    go_wp2_with fail
    refine (areFrom wb _ 3 [v, t, a] 0 99 HI.out (show 3 ≤ 1048576 by decide)).mono ?_
    rintro e w1 ⟨rfl, hw⟩
    obtain rfl := hw.symm
    cases hz : between 0 99 [v, t, a] with
    | true =>
      have HY := hid (op_yes (s := s) HC0.out hz)
      clear hz
      go_wp2
      go_ret
      exact ⟨by rw [HY.out]; rfl, HB2.out⟩
    | false =>
      have HN := hid (op_no1 (k := k) (s := s) hz)
      clear hz
      go_wp2
      go_ret
      exact ⟨by rw [HN.out]; rfl, HB2.out⟩
  · have c0' := decide_eq_false c0
    have HN : Hid (opOk k v t a s = false) := op_no0 c0
    clear c0
    refine (c0' ▸ isFrom k 1 20 _).mono ?_
    rintro e w1 ⟨rfl, hw⟩
    obtain rfl := hw.symm
    go_wp2
    go_ret
    exact ⟨by rw [HN.out]; rfl, HB2.out⟩

end Go.Proofs.YtlbfcnpnfoapnaaGreatDoor.Sec

namespace Go.Proofs.YtlbfcnpnfoapnaaGreatDoor.Sec
open Go.RowKit Go.Proofs.YtlbfcnpnfoapnaaGreatDoor.Mem
set_option linter.unusedVariables false

/-- The lowest sector that may follow the first k. -/
def low (l : List Ou) (k : Nat) : Int := if k = 0 then 0 else (l.getD (k - 1) Ou.none).sec + 1

theorem low_iff (l : List Ou) (k : Nat) (h : ∀ i, i < k → outAt l i) : (low l k ≤ (l.getD k Ou.none).sec ∧ (l.getD k Ou.none).sec ≤ 33) ↔ ((0 ≤ (l.getD k Ou.none).sec ∧ (l.getD k Ou.none).sec ≤ 33) ∧ (0 < k → (l.getD (k - 1) Ou.none).sec < (l.getD k Ou.none).sec)) := by
  unfold low
  by_cases hk : k = 0
  · subst hk; simp
  · rw [if_neg hk]
    have := (h (k - 1) (by omega)).1
    constructor
    · intro x; exact ⟨by omega, fun _ => by omega⟩
    · intro x; have := x.2 (by omega); omega

theorem low_bd (l : List Ou) (k : Nat) (h : ∀ i, i < k → outAt l i) : 0 ≤ low l k ∧ low l k ≤ 34 := by
  unfold low
  by_cases hk : k = 0
  · rw [if_pos hk]; omega
  · rw [if_neg hk]
    have := (h (k - 1) (by omega)).1
    omega

theorem low_succ (l : List Ou) (k : Nat) : low l (k + 1) = (l.getD k Ou.none).sec + 1 := rfl

theorem outs_step {l : List Ou} {k : Nat} (h : ∀ i, i < k → outAt l i) (hk : outAt l k) : ∀ i, i < k + 1 → outAt l i := fun i hi => by
  by_cases e : i = k
  · rw [e]; exact hk
  · exact h i (by omega)

set_option maxRecDepth 100000 in
set_option maxHeartbeats 1000000 in
theorem areOuts (w : World) (a : Option Addr) (cap : Nat) (l : List Ou) (S : Ous w a l) (hl : l.length ≤ 1048576) (hs : ∀ x ∈ l, x.text.size ≤ 1048576) :
    Calls Tryz.prog 147 #[.slice a l.length cap] w fun e w' => e = .returned (.bool (decide (l.length ≤ 8) && outsOk l)) ∧ Below w.heap.size w w' := by
  have HS := hid S
  have Hs : Hid (∀ k, (l.getD k Ou.none).text.size ≤ 1048576) := fun k => by
    by_cases h : k < l.length
    · exact hs _ (by simp [List.getD, h])
    · simp [List.getD, h, Ou.none]
  clear S hs
  by_cases hg : 8 < (l.length : Int)
  · have hg' : decide (l.length ≤ 8) = false := decide_eq_false (by omega)
    rw [hg']
    clear hg'
    go_enter Tryz.func147, Tryz.ntmps147
    go_wp2
    go_ret
    exact ⟨rfl, Below.refl _ _⟩
  have hg' : decide (l.length ≤ 8) = true := decide_eq_true (by omega)
  rw [hg', Bool.true_and]
  clear hg'
  have HZ := hid (low_succ l)
  go_enter Tryz.func147, Tryz.ntmps147
  go_wp2
  go_loopw [3, 11] (fun lo i wr => ∃ k : Nat, k ≤ l.length ∧ i = .int .i64 (k : Int) ∧ lo = .int .i64 (low l k) ∧ Hid (∀ i, i < k → outAt l i) ∧ Hid (Below w.heap.size w wr)) (fun _ i _ => l.length - (intOf i).toNat)
  case atStart => exact ⟨0, Nat.zero_le _, rfl, rfl, fun i hi => by omega, Below.refl _ _⟩
  case round =>
    obtain ⟨k, hk, rfl, rfl, HK, HB⟩ := hrel
    by_cases hlt : k < l.length
    · obtain ⟨b, off, rfl, c0, c1⟩ := Ous.at_ (HS.out.below HB.out) k hlt
      have HI := hid (low_iff l k HK.out)
      have hbd := low_bd l k HK.out
      have hsz := Hs.out k
      have HN := hid (outsOk_no k hlt)
      have HST := hid (fun h => outs_step (k := k) HK.out h)
      have HLS := hid (low_succ l k)
      have HAt : Hid (outAt l k ↔ ((0 ≤ (l.getD k Ou.none).sec ∧ (l.getD k Ou.none).sec ≤ 33) ∧ (0 < k → (l.getD (k - 1) Ou.none).sec < (l.getD k Ou.none).sec)) ∧ ((l.getD k Ou.none).text.size : Int) ≤ 60) := by
        unfold outAt
        exact ⟨fun x => ⟨⟨x.1, x.2.1⟩, x.2.2⟩, fun x => ⟨x.1.1, x.1.2, x.2⟩⟩
      rw [← HI.out] at HAt
      generalize l.getD k Ou.none = x at c0 c1 hsz HAt HLS
      clear HI
      obtain ⟨xs, xt⟩ := x
      simp only [] at c0 c1 hsz HAt HLS
      generalize low l k = lo at *
      go_wp2_with fail
      obtain ⟨wo, hwo, ez, O0, B0⟩ := one_new wr [.int .i64 xs, .string xt] 119
      simp only [hwo]
      have d0 := O0.c 0 rfl
      have d1 := O0.c 1 rfl
      have HBo := hid (HB.out.trans (B0.mono HB.out.size))
      clear hwo O0 B0 c0 c1
      by_cases c : lo ≤ xs ∧ xs ≤ 33
      · have c' := decide_eq_true c
        refine (c' ▸ isFrom xs lo 33 _).mono ?_
        rintro e w1 ⟨rfl, hw⟩
        obtain rfl := hw.symm
        by_cases h60 : 60 < (xt.size : Int)
        · have HR := hid (HN.out (fun x => by have := (HAt.out.1 x).2; omega))
          clear c
          go_wp2
          go_ret
          exact ⟨by rw [HR.out]; rfl, HBo.out⟩
        · have HR := hid (HST.out (HAt.out.2 ⟨c, by omega⟩))
          have hx33 : xs ≤ 33 := c.2
          have hx0 : 0 ≤ xs := by omega
          clear c
          go_wp2
          exact ⟨⟨k + 1, by omega, by go_num, by rw [HLS.out], HR, HBo⟩, by simp [intOf]; omega⟩
      · have c' := decide_eq_false c
        have HR := hid (HN.out (fun x => c (HAt.out.1 x).1))
        clear c
        refine (c' ▸ isFrom xs lo 33 _).mono ?_
        rintro e w1 ⟨rfl, hw⟩
        obtain rfl := hw.symm
        go_wp2
        go_ret
        exact ⟨by rw [HR.out]; rfl, HBo.out⟩
    · obtain rfl : k = l.length := by omega
      have HR := hid ((outsOk_iff l).2 HK.out)
      go_wp2
      go_ret
      exact ⟨by rw [HR.out]; rfl, HB.out⟩

theorem stOp : Tryz.prog.underlying 82 = some (.struct (Tryz.prog.fieldsOf 82)) := by kernel_rfl
theorem heldOp : Tryz.prog.stoodInHeld 82 = false := by kernel_rfl
theorem guardOp : Tryz.prog.eqGuardType Tryz.prog.depth 82 = false := by kernel_rfl

theorem eql_op (k v t a : Int) (s : ByteArray) (w : World) : (binOp .eql 82 (.agg #[.int .i64 k, .int .i64 v, .int .i64 t, .int .i64 a, .string s]) (.agg #[.int .i64 0, .int .i64 0, .int .i64 0, .int .i64 0, .string ⟨#[]⟩])).run Tryz.prog w = .ok (.bool (decide (k = 0 ∧ v = 0 ∧ t = 0 ∧ a = 0 ∧ s.size = 0))) w := by
  rw [run_eql_struct, run_equalIn_agg w 9999 82 _ _ stOp heldOp]
  unfold Program.fieldsOf
  rw [Tryz.underlying82]
  by_cases h5 : s.size = 0
  · obtain rfl : s = ⟨#[]⟩ := by
      apply ByteArray.ext
      have : s.data.size = 0 := h5
      exact Array.eq_empty_of_size_eq_zero this
    by_cases h1 : k = 0 <;> by_cases h2 : v = 0 <;> by_cases h3 : t = 0 <;> by_cases h4 : a = 0 <;> simp [Op.eqFields, part, go_sem, h1, h2, h3, h4, Tryz.underlying3]
  · have hne : ¬ s.toList = [] := fun e => h5 (by
      rw [ByteArray.toList_eq] at e
      show s.data.size = 0
      rw [← Array.length_toList, e]; rfl)
    by_cases h1 : k = 0 <;> by_cases h2 : v = 0 <;> by_cases h3 : t = 0 <;> by_cases h4 : a = 0 <;> simp [Op.eqFields, part, go_sem, h1, h2, h3, h4, h5, hne, Tryz.underlying3]

end Go.Proofs.YtlbfcnpnfoapnaaGreatDoor.Sec

namespace Go.Proofs.YtlbfcnpnfoapnaaGreatDoor.Sec
open Go.RowKit Go.Proofs.YtlbfcnpnfoapnaaGreatDoor.Mem
set_option linter.unusedVariables false

/-- A journal's cells, its list at a. -/
def Jn.cells (J : Jn) (a : Option Addr) (cap : Nat) : List Value := [.int .i64 J.txn, .bool J.done, .int .i64 J.kind, .int .i64 J.vol, .int .i64 J.to, .int .i64 J.at_, .string J.text, .slice a J.outs.length cap]
def jnV (J : Jn) (a : Option Addr) (cap : Nat) : Value := .agg (J.cells a cap).toArray

/-- All of it is of a size that the law lets by. -/
structure Jn.Small (J : Jn) : Prop where
  text : J.text.size ≤ 1048576
  outs : J.outs.length ≤ 1048576
  each : ∀ x ∈ J.outs, x.text.size ≤ 1048576

theorem jok_done {J : Jn} (h : J.done = true) : J.ok = (decide (0 ≤ J.txn ∧ J.txn ≤ 1000000) && (decide (J.kind = 0 ∧ J.vol = 0 ∧ J.to = 0 ∧ J.at_ = 0 ∧ J.text.size = 0) && decide (J.outs.length = 0))) := by unfold Jn.ok; rw [if_pos h]
theorem jok_not {J : Jn} (h : J.done = false) : J.ok = (decide (1 ≤ J.txn ∧ J.txn ≤ 1000000) && (opOk J.kind J.vol J.to J.at_ J.text && (decide (1 ≤ J.outs.length ∧ J.outs.length ≤ 8) && outsOk J.outs))) := by unfold Jn.ok; rw [if_neg (by rw [h]; decide)]

set_option maxRecDepth 100000 in
set_option maxHeartbeats 2000000 in
theorem isJournal (w : World) (J : Jn) (a : Option Addr) (cap : Nat) (S : Ous w a J.outs) (hs : J.Small) :
    Calls Tryz.prog 119 #[jnV J a cap] w fun r w' => r = .returned (.bool J.ok) ∧ Below w.heap.size w w' := by
  unfold jnV
  obtain ⟨txn, dn, k, v, t, at_, s, l⟩ := J
  have z1 : s.size ≤ 1048576 := hs.text
  have z2 : l.length ≤ 1048576 := hs.outs
  have HS := hid S
  have HSm := hid hs
  clear S hs
  cases dn with
  | true =>
    have HE := hid (jok_done (J := ⟨txn, true, k, v, t, at_, s, l⟩) rfl)
    simp only [] at HE
    generalize (Jn.mk txn true k v t at_ s l).ok = q at *
    unfold Jn.cells
    simp only []
    obtain ⟨wa, hwa, ez, A0, B0⟩ := one_new w [.int .i64 txn, .bool true, .int .i64 k, .int .i64 v, .int .i64 t, .int .i64 at_, .string s, .slice a l.length cap] 85
    have k0 := A0.c 0 rfl
    have k1 := A0.c 1 rfl
    have k2 := A0.c 2 rfl
    have k3 := A0.c 3 rfl
    have k4 := A0.c 4 rfl
    have k5 := A0.c 5 rfl
    have k6 := A0.c 6 rfl
    have k7 := A0.c 7 rfl
    have HB := hid B0
    have hgo := guardOp
    clear A0 B0
    go_enter Tryz.func119, Tryz.ntmps119
    go_wp2_with fail
    by_cases c0 : 0 ≤ txn ∧ txn ≤ 1000000
    · have c0' := decide_eq_true c0
      rw [c0', Bool.true_and] at HE
      clear c0
      refine (c0' ▸ isFrom txn 0 1000000 _).mono ?_
      rintro r w1 ⟨rfl, hw⟩
      obtain rfl := hw.symm
      have heq := eql_op k v t at_ s
      by_cases c1 : k = 0 ∧ v = 0 ∧ t = 0 ∧ at_ = 0 ∧ s.size = 0
      · rw [decide_eq_true c1] at HE
        simp only [decide_eq_true c1] at heq
        clear c1
        by_cases c2 : (l.length : Int) = 0
        · have HQ : Hid (q = true) := by rw [Hid, HE.out, decide_eq_true (show l.length = 0 by omega)]; rfl
          have c2' : ((l.length : Int) == 0) = true := by simpa using c2
          clear c2
          go_wp2
          go_ret
          exact ⟨by rw [HQ.out]; rfl, HB.out⟩
        · have HQ : Hid (q = false) := by rw [Hid, HE.out, decide_eq_false (show ¬ l.length = 0 by omega)]; rfl
          have c2' : ((l.length : Int) == 0) = false := by simpa using c2
          clear c2
          go_wp2
          go_ret
          exact ⟨by rw [HQ.out]; rfl, HB.out⟩
      · rw [decide_eq_false c1] at HE
        simp only [decide_eq_false c1] at heq
        clear c1
        go_wp2
        go_ret
        exact ⟨by rw [HE.out]; rfl, HB.out⟩
    · have c0' := decide_eq_false c0
      rw [c0', Bool.false_and] at HE
      clear c0
      refine (c0' ▸ isFrom txn 0 1000000 _).mono ?_
      rintro r w1 ⟨rfl, hw⟩
      obtain rfl := hw.symm
      go_wp2
      go_ret
      exact ⟨by rw [HE.out]; rfl, HB.out⟩
  | false =>
    have HE := hid (jok_not (J := ⟨txn, false, k, v, t, at_, s, l⟩) rfl)
    simp only [] at HE
    have Hs3 : Hid (∀ x ∈ l, x.text.size ≤ 1048576) := HSm.out.each
    generalize (Jn.mk txn false k v t at_ s l).ok = q at *
    unfold Jn.cells
    simp only []
    obtain ⟨wa, hwa, ez, A0, B0⟩ := one_new w [.int .i64 txn, .bool false, .int .i64 k, .int .i64 v, .int .i64 t, .int .i64 at_, .string s, .slice a l.length cap] 85
    have k0 := A0.c 0 rfl
    have k1 := A0.c 1 rfl
    have k2 := A0.c 2 rfl
    have k3 := A0.c 3 rfl
    have k4 := A0.c 4 rfl
    have k5 := A0.c 5 rfl
    have k6 := A0.c 6 rfl
    have k7 := A0.c 7 rfl
    have HA := hid A0
    have HB := hid B0
    clear A0 B0
    go_enter Tryz.func119, Tryz.ntmps119
    go_wp2_with fail
    by_cases c0 : 1 ≤ txn ∧ txn ≤ 1000000
    · have c0' := decide_eq_true c0
      rw [c0', Bool.true_and] at HE
      clear c0
      refine (c0' ▸ isFrom txn 1 1000000 _).mono ?_
      rintro r w1 ⟨rfl, hw⟩
      obtain rfl := hw.symm
      go_wp2_with fail
      refine (isJournalOp k v t at_ s _ z1).mono ?_
      rintro r w2 ⟨rfl, b2⟩
      replace k7 := (HA.out.below b2 HA.out.lt).c 7 rfl
      have HB2 := hid (HB.out.trans (b2.mono HB.out.size))
      clear b2 hwa k0 k1 k2 k3 k4 k5 k6 HA
      cases hz : opOk k v t at_ s with
      | true =>
        rw [hz, Bool.true_and] at HE
        clear hz
        by_cases c2 : 0 < (l.length : Int)
        · go_wp2_with fail
          refine (areOuts w2 a cap l (HS.out.below HB2.out) z2 Hs3.out).mono ?_
          rintro r w3 ⟨rfl, b3⟩
          have HB3 := hid (HB2.out.trans (b3.mono HB2.out.size))
          have HQ : Hid (q = (decide (l.length ≤ 8) && outsOk l)) := by
            rw [Hid, HE.out]
            congr 1
            exact decide_eq_decide.2 ⟨fun x => x.2, fun x => ⟨by omega, x⟩⟩
          generalize (decide (l.length ≤ 8) && outsOk l) = z at *
          clear b3
          go_wp2
          go_ret
          exact ⟨by rw [HQ.out]; rfl, HB3.out⟩
        · have HQ : Hid (q = false) := by rw [Hid, HE.out, decide_eq_false (show ¬ (1 ≤ l.length ∧ l.length ≤ 8) by omega)]; rfl
          go_wp2
          go_ret
          exact ⟨by rw [HQ.out]; rfl, HB2.out⟩
      | false =>
        rw [hz, Bool.false_and] at HE
        clear hz
        go_wp2
        go_ret
        exact ⟨by rw [HE.out]; rfl, HB2.out⟩
    · have c0' := decide_eq_false c0
      rw [c0', Bool.false_and] at HE
      clear c0
      refine (c0' ▸ isFrom txn 1 1000000 _).mono ?_
      rintro r w1 ⟨rfl, hw⟩
      obtain rfl := hw.symm
      go_wp2
      go_ret
      exact ⟨by rw [HE.out]; rfl, HB.out⟩

end Go.Proofs.YtlbfcnpnfoapnaaGreatDoor.Sec

namespace Go.Proofs.YtlbfcnpnfoapnaaGreatDoor.Sec
open Go.RowKit Go.Proofs.YtlbfcnpnfoapnaaGreatDoor.Mem
set_option linter.unusedVariables false

set_option maxRecDepth 100000 in
set_option maxHeartbeats 2000000 in
theorem jnOk_done (w : World) (txn k v t at_ : Int) (s : ByteArray) (l : List Ou) (a : Option Addr) (cap : Nat) (z1 : s.size ≤ 1048576) (z2 : l.length ≤ 1048576) :
    Calls Tryz.prog 129 #[jnV ⟨txn, true, k, v, t, at_, s, l⟩ a cap] w fun r w' => r = .returned (.bool (Jn.mk txn true k v t at_ s l).ok) ∧ Below w.heap.size w w' := by
  unfold jnV
  have HE := hid (jok_done (J := ⟨txn, true, k, v, t, at_, s, l⟩) rfl)
  simp only [] at HE
  generalize (Jn.mk txn true k v t at_ s l).ok = q at *
  unfold Jn.cells
  simp only []
  obtain ⟨wa, hwa, ez, A0, B0⟩ := one_new w [.int .i64 txn, .bool true, .int .i64 k, .int .i64 v, .int .i64 t, .int .i64 at_, .string s, .slice a l.length cap] 85
  have k0 := A0.c 0 rfl
  have k1 := A0.c 1 rfl
  have k2 := A0.c 2 rfl
  have k3 := A0.c 3 rfl
  have k4 := A0.c 4 rfl
  have k5 := A0.c 5 rfl
  have k6 := A0.c 6 rfl
  have k7 := A0.c 7 rfl
  have HB := hid B0
  have hgo := guardOp
  clear A0 B0
  go_enter Tryz.func129, Tryz.ntmps129
  go_wp2_with fail
  by_cases c0 : 0 ≤ txn ∧ txn ≤ 1000000
  · have c0' := decide_eq_true c0
    rw [c0', Bool.true_and] at HE
    clear c0
    refine (c0' ▸ l1In txn 0 1000000 _).mono ?_
    rintro r w1 ⟨rfl, hw⟩
    obtain rfl := hw.symm
    have heq := eql_op k v t at_ s
    by_cases c1 : k = 0 ∧ v = 0 ∧ t = 0 ∧ at_ = 0 ∧ s.size = 0
    · rw [decide_eq_true c1] at HE
      simp only [decide_eq_true c1] at heq
      clear c1
      by_cases c2 : (l.length : Int) = 0
      · have HQ : Hid (q = true) := by rw [Hid, HE.out, decide_eq_true (show l.length = 0 by omega)]; rfl
        have c2' : ((l.length : Int) == 0) = true := by simpa using c2
        clear c2
        go_wp2
        go_ret
        exact ⟨by rw [HQ.out]; rfl, HB.out⟩
      · have HQ : Hid (q = false) := by rw [Hid, HE.out, decide_eq_false (show ¬ l.length = 0 by omega)]; rfl
        have c2' : ((l.length : Int) == 0) = false := by simpa using c2
        clear c2
        go_wp2
        go_ret
        exact ⟨by rw [HQ.out]; rfl, HB.out⟩
    · rw [decide_eq_false c1] at HE
      simp only [decide_eq_false c1] at heq
      clear c1
      go_wp2
      go_ret
      exact ⟨by rw [HE.out]; rfl, HB.out⟩
  · have c0' := decide_eq_false c0
    rw [c0', Bool.false_and] at HE
    clear c0
    refine (c0' ▸ l1In txn 0 1000000 _).mono ?_
    rintro r w1 ⟨rfl, hw⟩
    obtain rfl := hw.symm
    go_wp2
    go_ret
    exact ⟨by rw [HE.out]; rfl, HB.out⟩

set_option maxRecDepth 100000 in
set_option maxHeartbeats 4000000 in
theorem jnOk_not (w : World) (txn k v t at_ : Int) (s : ByteArray) (l : List Ou) (a : Option Addr) (cap : Nat) (S : Ous w a l) (z1 : s.size ≤ 1048576) (z2 : l.length ≤ 1048576) (z3 : ∀ x ∈ l, x.text.size ≤ 1048576) :
    Calls Tryz.prog 129 #[jnV ⟨txn, false, k, v, t, at_, s, l⟩ a cap] w fun r w' => r = .returned (.bool (Jn.mk txn false k v t at_ s l).ok) ∧ Below w.heap.size w w' := by
  unfold jnV
  have HE := hid (jok_not (J := ⟨txn, false, k, v, t, at_, s, l⟩) rfl)
  simp only [] at HE
  have HS := hid S
  have Hs : Hid (∀ k, (l.getD k Ou.none).text.size ≤ 1048576) := fun k => by
    by_cases h : k < l.length
    · exact z3 _ (by simp [List.getD, h])
    · simp [List.getD, h, Ou.none]
  clear S z3
  generalize (Jn.mk txn false k v t at_ s l).ok = q at *
  unfold Jn.cells
  simp only []
  obtain ⟨wa, hwa, ez, A0, B0⟩ := one_new w [.int .i64 txn, .bool false, .int .i64 k, .int .i64 v, .int .i64 t, .int .i64 at_, .string s, .slice a l.length cap] 85
  have k0 := A0.c 0 rfl
  have k1 := A0.c 1 rfl
  have k2 := A0.c 2 rfl
  have k3 := A0.c 3 rfl
  have k4 := A0.c 4 rfl
  have k5 := A0.c 5 rfl
  have k6 := A0.c 6 rfl
  have k7 := A0.c 7 rfl
  have HA := hid A0
  have HB := hid B0
  clear A0 B0
  go_enter Tryz.func129, Tryz.ntmps129
  go_wp2_with fail
  by_cases c0 : 0 ≤ txn ∧ txn ≤ 1000000
  · have c0' := decide_eq_true c0
    refine (c0' ▸ l1In txn 0 1000000 _).mono ?_
    rintro r w1 ⟨rfl, hw⟩
    obtain rfl := hw.symm
    by_cases c1 : txn < 1
    · have HQ : Hid (q = false) := by rw [Hid, HE.out, decide_eq_false (show ¬ (1 ≤ txn ∧ txn ≤ 1000000) by omega)]; rfl
      clear c0
      go_wp2
      go_ret
      exact ⟨by rw [HQ.out]; rfl, HB.out⟩
    rw [decide_eq_true (show 1 ≤ txn ∧ txn ≤ 1000000 by omega), Bool.true_and] at HE
    have c1d : decide (txn < 1) = false := decide_eq_false c1
    clear c0
    go_wp2_with fail
    refine (l4OpOk k v t at_ s _ z1).mono ?_
    rintro r w2 ⟨rfl, b2⟩
    have HA2 := hid (HA.out.below b2 HA.out.lt)
    replace k7 := HA2.out.c 7 rfl
    have HB2 := hid (HB.out.trans (b2.mono HB.out.size))
    clear b2 hwa k0 k1 k2 k3 k4 k5 k6 HA
    cases hz : opOk k v t at_ s with
    | false =>
      rw [hz, Bool.false_and] at HE
      clear hz
      go_wp2
      go_ret
      exact ⟨by rw [HE.out]; rfl, HB2.out⟩
    | true =>
      rw [hz, Bool.true_and] at HE
      clear hz
      go_wp2_with fail
      by_cases c2 : 1 ≤ (l.length : Int) ∧ (l.length : Int) ≤ 8
      · have c2' := decide_eq_true c2
        rw [decide_eq_true (show 1 ≤ l.length ∧ l.length ≤ 8 by omega), Bool.true_and] at HE
        have hl8 : l.length ≤ 8 := by omega
        clear c2
        refine (c2' ▸ l1In (l.length : Int) 1 8 _).mono ?_
        rintro r w3 ⟨rfl, hw⟩
        obtain rfl := hw.symm
        go_wp2
        go_loopw [3] (fun i wr => ∃ k : Nat, k ≤ l.length ∧ i = .int .i64 (k : Int) ∧ Hid (∀ i, i < k → outAt l i) ∧ Hid (Below w2.heap.size w2 wr)) (fun i _ => l.length - (intOf i).toNat)
        case atStart => exact ⟨0, Nat.zero_le _, rfl, fun i hi => by omega, Below.refl _ _⟩
        case round =>
          obtain ⟨i, hi, rfl, HK, HBr⟩ := hrel
          have HBw := hid (HB2.out.trans (HBr.out.mono HB2.out.size))
          have m7 := (HA2.out.below HBr.out HA2.out.lt).c 7 rfl
          by_cases hlt : i < l.length
          · obtain ⟨b, off, rfl, e0, e1⟩ := Ous.at_ (HS.out.below HBw.out) i hlt
            have hsz := Hs.out i
            have HN := hid (outsOk_no i hlt)
            have HST := hid (fun h => outs_step (k := i) HK.out h)
            have HAt : Hid (outAt l i ↔ ((0 ≤ (l.getD i Ou.none).sec ∧ (l.getD i Ou.none).sec ≤ 33) ∧ (0 < i → (l.getD (i - 1) Ou.none).sec < (l.getD i Ou.none).sec)) ∧ ((l.getD i Ou.none).text.size : Int) ≤ 60) := by
              unfold outAt
              exact ⟨fun x => ⟨⟨x.1, x.2.1⟩, x.2.2⟩, fun x => ⟨x.1.1, x.1.2, x.2⟩⟩
            generalize l.getD i Ou.none = x at e0 e1 hsz HAt
            obtain ⟨xs, xt⟩ := x
            simp only [] at e0 e1 hsz HAt
            have hne : Nonempty (BW wr) := ⟨⟨wr, Below.refl _ _⟩⟩
            replace e0 := BW.cell e0
            replace e1 := BW.cell e1
            have n7 := BW.cell m7
            clear k7
            by_cases d0 : 0 ≤ xs ∧ xs ≤ 33
            · have d0' := decide_eq_true d0
              cases i with
              | zero =>
                simp only [Nat.zero_mul, Nat.add_zero] at e0 e1
                by_cases h60 : 60 < (xt.size : Int)
                · have HR := hid (HN.out (fun x => by have := (HAt.out.1 x).2; omega))
                  clear d0
                  go_wp2
                  refine wp_region_bw (by kernel_rfl) (by kernel_rfl) ?_
                  repeat (go_big_quiet_step (first
                    | (go_at_call 60; refine bw_same (v := .bool true) (d0' ▸ l1In xs 0 33 _))))
                  refine wpQuiet_nil ?_
                  intro _ hw'
                  obtain ⟨u, rfl⟩ := hw'
                  have HU := hid (HBw.out.trans (u.bel.mono HBw.out.size))
                  have HUr := hid (HBr.out.trans (u.bel.mono HBr.out.size))
                  clear e0 e1 n7 m7 
                  go_wp2
                  go_ret
                  exact ⟨by rw [HE.out, HR.out]; rfl, HU.out⟩
                · have HR := hid (HST.out (HAt.out.2 ⟨⟨d0, fun h => by omega⟩, by omega⟩))
                  clear d0
                  go_wp2
                  refine wp_region_bw (by kernel_rfl) (by kernel_rfl) ?_
                  repeat (go_big_quiet_step (first
                    | (go_at_call 60; refine bw_same (v := .bool true) (d0' ▸ l1In xs 0 33 _))))
                  refine wpQuiet_nil ?_
                  intro _ hw'
                  obtain ⟨u, rfl⟩ := hw'
                  have HU := hid (HBw.out.trans (u.bel.mono HBw.out.size))
                  have HUr := hid (HBr.out.trans (u.bel.mono HBr.out.size))
                  clear e0 e1 n7 m7 
                  go_wp2
                  exact ⟨⟨1, by omega, by go_num, HR, HUr⟩, by simp [intOf]; omega⟩
              | succ m =>
                obtain ⟨b', off', eb, p0, _⟩ := Ous.at_ (HS.out.below HBw.out) m (by omega)
                cases eb
                rw [show m + 1 - 1 = m from rfl] at HAt
                generalize (l.getD m Ou.none).sec = ys at p0 HAt
                replace p0 := BW.cell p0
                have hm0 : (0 : Int) < ((m + 1 : Nat) : Int) := by omega
                have hm1 : ((m + 1 : Nat) : Int) - 1 = (m : Int) := by omega
                have hm2 : (m : Int) < (l.length : Int) := by omega
                by_cases d1 : xs ≤ ys
                · have HR := hid (HN.out (fun x => by have := (HAt.out.1 x).1.2 (by omega); omega))
                  clear d0
                  go_wp2
                  refine wp_region_bw (by kernel_rfl) (by kernel_rfl) ?_
                  repeat (go_big_quiet_step (first
                    | (go_at_call 60; refine bw_same (v := .bool true) (d0' ▸ l1In xs 0 33 _))))
                  refine wpQuiet_nil ?_
                  intro _ hw'
                  obtain ⟨u, rfl⟩ := hw'
                  have HU := hid (HBw.out.trans (u.bel.mono HBw.out.size))
                  have HUr := hid (HBr.out.trans (u.bel.mono HBr.out.size))
                  clear e0 e1 n7 m7 p0
                  go_wp2
                  go_ret
                  exact ⟨by rw [HE.out, HR.out]; rfl, HU.out⟩
                have d1' : decide (xs ≤ ys) = false := decide_eq_false d1
                by_cases h60 : 60 < (xt.size : Int)
                · have HR := hid (HN.out (fun x => by have := (HAt.out.1 x).2; omega))
                  clear d0
                  go_wp2
                  refine wp_region_bw (by kernel_rfl) (by kernel_rfl) ?_
                  repeat (go_big_quiet_step (first
                    | (go_at_call 60; refine bw_same (v := .bool true) (d0' ▸ l1In xs 0 33 _))))
                  refine wpQuiet_nil ?_
                  intro _ hw'
                  obtain ⟨u, rfl⟩ := hw'
                  have HU := hid (HBw.out.trans (u.bel.mono HBw.out.size))
                  have HUr := hid (HBr.out.trans (u.bel.mono HBr.out.size))
                  clear e0 e1 n7 m7 p0
                  go_wp2
                  go_ret
                  exact ⟨by rw [HE.out, HR.out]; rfl, HU.out⟩
                · have HR := hid (HST.out (HAt.out.2 ⟨⟨d0, fun h => by omega⟩, by omega⟩))
                  clear d0
                  go_wp2
                  refine wp_region_bw (by kernel_rfl) (by kernel_rfl) ?_
                  repeat (go_big_quiet_step (first
                    | (go_at_call 60; refine bw_same (v := .bool true) (d0' ▸ l1In xs 0 33 _))))
                  refine wpQuiet_nil ?_
                  intro _ hw'
                  obtain ⟨u, rfl⟩ := hw'
                  have HU := hid (HBw.out.trans (u.bel.mono HBw.out.size))
                  have HUr := hid (HBr.out.trans (u.bel.mono HBr.out.size))
                  clear e0 e1 n7 m7 p0
                  go_wp2
                  exact ⟨⟨m + 1 + 1, by omega, by go_num, HR, HUr⟩, by simp [intOf]; omega⟩
            · have d0' := decide_eq_false d0
              have HR := hid (HN.out (fun x => d0 (HAt.out.1 x).1.1))
              clear d0
              go_wp2
              refine wp_region_bw (by kernel_rfl) (by kernel_rfl) ?_
              repeat (go_big_quiet_step (first
                | (go_at_call 60; refine bw_same (v := .bool false) (d0' ▸ l1In xs 0 33 _))))
              refine wpQuiet_nil ?_
              intro _ hw'
              obtain ⟨u, rfl⟩ := hw'
              have HU := hid (HBw.out.trans (u.bel.mono HBw.out.size))
              have HUr := hid (HBr.out.trans (u.bel.mono HBr.out.size))
              clear e0 e1 n7 m7 
              go_wp2
              go_ret
              exact ⟨by rw [HE.out, HR.out]; rfl, HU.out⟩
          · obtain rfl : i = l.length := by omega
            have HR := hid ((outsOk_iff l).2 HK.out)
            go_wp2
            go_ret
            exact ⟨by rw [HE.out, HR.out]; rfl, HBw.out⟩
      · have c2' := decide_eq_false c2
        rw [decide_eq_false (show ¬ (1 ≤ l.length ∧ l.length ≤ 8) by omega), Bool.false_and] at HE
        clear c2
        refine (c2' ▸ l1In (l.length : Int) 1 8 _).mono ?_
        rintro r w3 ⟨rfl, hw⟩
        obtain rfl := hw.symm
        go_wp2
        go_ret
        exact ⟨by rw [HE.out]; rfl, HB2.out⟩
  · have c0' := decide_eq_false c0
    have HQ : Hid (q = false) := by rw [Hid, HE.out, decide_eq_false (show ¬ (1 ≤ txn ∧ txn ≤ 1000000) by omega)]; rfl
    clear c0
    refine (c0' ▸ l1In txn 0 1000000 _).mono ?_
    rintro r w1 ⟨rfl, hw⟩
    obtain rfl := hw.symm
    go_wp2
    go_ret
    exact ⟨by rw [HQ.out]; rfl, HB.out⟩

theorem l4JournalOk (w : World) (J : Jn) (a : Option Addr) (cap : Nat) (S : Ous w a J.outs) (hs : J.Small) :
    Calls Tryz.prog 129 #[jnV J a cap] w fun r w' => r = .returned (.bool J.ok) ∧ Below w.heap.size w w' := by
  obtain ⟨txn, dn, k, v, t, at_, s, l⟩ := J
  cases dn
  · exact jnOk_not w txn k v t at_ s l a cap S hs.text hs.outs hs.each
  · exact jnOk_done w txn k v t at_ s l a cap hs.text hs.outs

end Go.Proofs.YtlbfcnpnfoapnaaGreatDoor.Sec

namespace Go.Proofs.YtlbfcnpnfoapnaaGreatDoor.Sec
open Go.RowKit Go.Proofs.YtlbfcnpnfoapnaaGreatDoor.Mem
set_option linter.unusedVariables false

/-- What a right journal's parts are bounded by. -/
structure Jn.Fine (J : Jn) : Prop where
  text : J.text.size ≤ 16
  outs : J.outs.length ≤ 8
  each : ∀ i, i < J.outs.length → ((J.outs.getD i Ou.none).text.size : Int) ≤ 60
  kind : 0 ≤ J.kind ∧ J.kind ≤ 99
  vol : 0 ≤ J.vol ∧ J.vol ≤ 99
  to : 0 ≤ J.to ∧ J.to ≤ 99
  at_ : 0 ≤ J.at_ ∧ J.at_ ≤ 99

theorem Jn.fine {J : Jn} (h : J.ok = true) : J.Fine := by
  cases hd : J.done with
  | true =>
    rw [jok_done hd, Bool.and_eq_true, Bool.and_eq_true] at h
    obtain ⟨h1, h2, h3⟩ := h
    have a := of_decide_eq_true h2
    have b := of_decide_eq_true h3
    exact ⟨by omega, by omega, fun i hi => by omega, by omega, by omega, by omega, by omega⟩
  | false =>
    rw [jok_not hd, Bool.and_eq_true, Bool.and_eq_true, Bool.and_eq_true] at h
    obtain ⟨h1, h2, h3, h4⟩ := h
    unfold opOk at h2
    rw [Bool.and_eq_true, Bool.and_eq_true, three, Bool.and_eq_true, Bool.and_eq_true, Bool.and_eq_true] at h2
    obtain ⟨⟨a, b, c, d, _⟩, e⟩ := h2
    have a' := of_decide_eq_true a
    have b' := of_decide_eq_true b
    have c' := of_decide_eq_true c
    have d' := of_decide_eq_true d
    have e' := of_decide_eq_true e
    have l' := of_decide_eq_true h3
    exact ⟨by omega, by omega, fun i hi => ((outsOk_iff _).1 h4 i hi).2.2, by omega, by omega, by omega, by omega⟩

theorem jn_no {J : Jn} (h : J.ok = false) : J.show = ⟨#[]⟩ := by unfold Jn.show; rw [h]; rfl
theorem jn_yes {J : Jn} (h : J.ok = true) : summed (J.head ++ outsS J.outs) = J.show := by unfold Jn.show; rw [h]; rfl

theorem jn_size {J : Jn} (h : J.Fine) : (J.head ++ outsS J.outs).size ≤ 1048576 := by
  have h1 := head_size J h.text
  have h2 := outsS_size J.outs h.outs h.each J.outs.length (Nat.le_refl _)
  rw [List.take_length] at h2
  have := h.outs
  rw [ByteArray.size_append]; omega

set_option maxRecDepth 100000 in
set_option maxHeartbeats 4000000 in
theorem sShowJournal (w : World) (J : Jn) (a : Option Addr) (cap : Nat) (S : Ous w a J.outs) (hs : J.Small) :
    Calls Tryz.prog 87 #[jnV J a cap] w fun r w' => r = .returned (.string J.show) ∧ Below w.heap.size w w' := by
  have HS := hid S
  have HSm := hid hs
  clear S hs
  obtain ⟨txn, dn, k, v, t, at_, s, l⟩ := J
  have HV : Hid (jnV ⟨txn, dn, k, v, t, at_, s, l⟩ a cap = .agg #[.int .i64 txn, .bool dn, .int .i64 k, .int .i64 v, .int .i64 t, .int .i64 at_, .string s, .slice a l.length cap]) := rfl
  rw [HV.out]
  obtain ⟨wa, hwa, ez, A0, B0⟩ := one_new w [.int .i64 txn, .bool dn, .int .i64 k, .int .i64 v, .int .i64 t, .int .i64 at_, .string s, .slice a l.length cap] 85
  have k0 := A0.c 0 rfl
  have k1 := A0.c 1 rfl
  have k2 := A0.c 2 rfl
  have k3 := A0.c 3 rfl
  have k4 := A0.c 4 rfl
  have k5 := A0.c 5 rfl
  have k6 := A0.c 6 rfl
  have k7 := A0.c 7 rfl
  have HA := hid A0
  have HB := hid B0
  clear A0 B0
  go_enter Tryz.func87, Tryz.ntmps87
  go_wp2_with fail
  refine (l4JournalOk wa ⟨txn, dn, k, v, t, at_, s, l⟩ a cap (HS.out.below HB.out) HSm.out).mono ?_
  rintro r w2 ⟨rfl, b2⟩
  have HA2 := hid (HA.out.below b2 HA.out.lt)
  have HB2 := hid (HB.out.trans (b2.mono HB.out.size))
  clear b2 hwa HA k0 k1 k2 k3 k4 k5 k6 k7
  cases hf : (Jn.mk txn dn k v t at_ s l).ok with
  | false =>
    have HN := hid (jn_no hf)
    clear hf
    go_wp2
    go_ret
    exact ⟨Own.ret_str HN.out.symm, HB2.out⟩
  | true =>
    have HY := hid (jn_yes hf)
    have HF := hid (Jn.fine hf)
    have HZ := hid (jn_size HF.out)
    have HO := hid (outsS_size l HF.out.outs HF.out.each)
    have HL8 : Hid (l.length ≤ 8) := HF.out.outs
    have HE : Hid (∀ i, i < l.length → ((l.getD i Ou.none).text.size : Int) ≤ 60) := HF.out.each
    have zt : s.size ≤ 16 := HF.out.text
    have z0 := vr_size txn
    have z1 := vr_size k
    have z2 := vr_size v
    have z3 := vr_size t
    have z4 := vr_size at_
    have z5 := piece_size s
    have z6 := vr_size (l.length : Int)
    have z7 : (flag dn).size ≤ 7 := vr_size _
    have HH := hid (head_size ⟨txn, dn, k, v, t, at_, s, l⟩ zt)
    have HD : Hid ((⟨#[106]⟩ : ByteArray) ++ vr txn ++ flag dn ++ vr k ++ vr v ++ vr t ++ vr at_ ++ piece s ++ vr (l.length : Int) = (Jn.mk txn dn k v t at_ s l).head) := rfl
    clear hf
    go_wp2
    have k0 := BW.cell (HA2.out.c 0 rfl)
    have k1 := BW.cell (HA2.out.c 1 rfl)
    have k2 := BW.cell (HA2.out.c 2 rfl)
    have k3 := BW.cell (HA2.out.c 3 rfl)
    have k4 := BW.cell (HA2.out.c 4 rfl)
    have k5 := BW.cell (HA2.out.c 5 rfl)
    have k6 := BW.cell (HA2.out.c 6 rfl)
    have k7 := BW.cell (HA2.out.c 7 rfl)
    have hne : Nonempty (BW w2) := ⟨⟨w2, Below.refl _ _⟩⟩
    refine wp_region_bw (by kernel_rfl) (by kernel_rfl) ?_
    repeat (go_big_quiet_step (first
      | (go_at_call 92; refine bw_below (sVar _ _))
      | (go_at_call 91; refine bw_below (l4Flag dn _))
      | (go_at_call 130; refine bw_below (l4Piece s _ (by omega)))))
    refine wpQuiet_nil ?_
    intro w3 hw'
    obtain ⟨u, hu⟩ := hw'
    have b3 := u.bel
    rw [← hu] at b3
    clear hu
    have HA3 := hid (HA2.out.below b3 HA2.out.lt)
    have HB3 := hid (HB2.out.trans (b3.mono HB2.out.size))
    clear b3 k0 k1 k2 k3 k4 k5 k6 k7 HA2 hne
    rw [HD.out]
    generalize (Jn.mk txn dn k v t at_ s l).head = p at *
    have zp := HH.out
    clear z0 z1 z2 z3 z4 z5 z6 z7
    go_wp2
    go_loopw [3, 4] (fun s i wr => ∃ k : Nat, k ≤ l.length ∧ i = .int .i64 (k : Int) ∧ s = .string (p ++ outsS (l.take k)) ∧ Hid (Below w3.heap.size w3 wr)) (fun _ i _ => l.length - (intOf i).toNat)
    case atStart => exact ⟨0, Nat.zero_le _, rfl, by rw [show outsS (l.take 0) = ⟨#[]⟩ from rfl, append_empty], Below.refl _ _⟩
    case round =>
      obtain ⟨i, hi, rfl, rfl, HBr⟩ := hrel
      have HBw := hid (HB3.out.trans (HBr.out.mono HB3.out.size))
      have m7 := (HA3.out.below HBr.out HA3.out.lt).c 7 rfl
      by_cases hlt : i < l.length
      · obtain ⟨b, off, rfl, e0, e1⟩ := Ous.at_ (HS.out.below HBw.out) i hlt
        have hsz := HE.out i hlt
        have HT := hid (outsS_take l i hlt)
        have hz := HO.out i (by omega)
        have h8 := HL8.out
        generalize l.getD i Ou.none = x at e0 e1 hsz HT
        obtain ⟨xs, xt⟩ := x
        simp only [] at e0 e1 hsz HT
        generalize outsS (l.take i) = o at *
        have hps : (p ++ o).size ≤ 1000 := by rw [ByteArray.size_append]; omega
        have HAs : Hid (p ++ o ++ vr xs ++ piece xt = p ++ (o ++ vr xs ++ piece xt)) := by rw [Hid, append_assoc, append_assoc, append_assoc]
        generalize p ++ o = q at *
        have y1 := vr_size xs
        have y2 := piece_size xt
        have hne : Nonempty (BW wr) := ⟨⟨wr, Below.refl _ _⟩⟩
        replace e0 := BW.cell e0
        replace e1 := BW.cell e1
        have n7 := BW.cell m7
        go_wp2
        refine wp_region_bw (by kernel_rfl) (by kernel_rfl) ?_
        repeat (go_big_quiet_step (first
          | (go_at_call 92; refine bw_below (sVar _ _))
          | (go_at_call 130; refine bw_below (l4Piece xt _ (by omega)))))
        refine wpQuiet_nil ?_
        intro _ hw'
        obtain ⟨u, rfl⟩ := hw'
        have HUr := hid (HBr.out.trans (u.bel.mono HBr.out.size))
        clear e0 e1 n7 m7
        go_wp2
        exact ⟨⟨i + 1, by omega, by go_num, by rw [HT.out, ← HAs.out], HUr⟩, by simp [intOf]; omega⟩
      · obtain rfl : i = l.length := by omega
        have HE2 : Hid (outsS (l.take l.length) = outsS l) := by rw [Hid, List.take_length]
        rw [HE2.out]
        generalize p ++ outsS l = q at *
        go_wp2_with fail
        refine (l4Sum q _ HZ.out).mono ?_
        rintro r w4 ⟨rfl, b4⟩
        have HB4 := hid (HBw.out.trans (b4.mono HBw.out.size))
        clear b4 m7
        go_wp2
        go_ret
        exact ⟨Own.ret_str HY.out, HB4.out⟩

end Go.Proofs.YtlbfcnpnfoapnaaGreatDoor.Sec

namespace Go.Proofs.YtlbfcnpnfoapnaaGreatDoor.Sec
open Go.RowKit Go.Proofs.YtlbfcnpnfoapnaaGreatDoor.Mem
set_option linter.unusedVariables false

def opS (k v t a : Int) (s : ByteArray) : ByteArray := vrs 0 [k, v, t, a] ++ piece s

theorem four_bd {k v t a : Int} (hk : 0 ≤ k ∧ k ≤ 99) (hv : 0 ≤ v ∧ v ≤ 99) (ht : 0 ≤ t ∧ t ≤ 99) (ha : 0 ≤ a ∧ a ≤ 99) : ∀ i, i < [k, v, t, a].length → -1 ≤ [k, v, t, a].getD i 0 ∧ [k, v, t, a].getD i 0 ≤ 1000000 := by
  intro i hi
  have : i = 0 ∨ i = 1 ∨ i = 2 ∨ i = 3 := by simp at hi; omega
  rcases this with rfl | rfl | rfl | rfl <;> simp <;> omega

theorem box5_below {wa w1 w2 : World} {g : Nat} {x0 x1 x2 x3 x4 : Value} (hg : g < wa.heap.size) (b : Below w1.heap.size w1 w2) (h : w1.cell? ⟨g, 0, none⟩ = some x0 ∧ w1.cell? ⟨g, 1, none⟩ = some x1 ∧ w1.cell? ⟨g, 2, none⟩ = some x2 ∧ w1.cell? ⟨g, 3, none⟩ = some x3 ∧ w1.cell? ⟨g, 4, none⟩ = some x4 ∧ Below wa.heap.size wa w1) :
    w2.cell? ⟨g, 0, none⟩ = some x0 ∧ w2.cell? ⟨g, 1, none⟩ = some x1 ∧ w2.cell? ⟨g, 2, none⟩ = some x2 ∧ w2.cell? ⟨g, 3, none⟩ = some x3 ∧ w2.cell? ⟨g, 4, none⟩ = some x4 ∧ Below wa.heap.size wa w2 := by
  obtain ⟨a0, a1, a2, a3, a4, bl⟩ := h
  have hl : g < w1.heap.size := Nat.lt_of_lt_of_le hg bl.size
  have c := fun j => b.cell (p := ⟨g, j, none⟩) hl
  exact ⟨(c 0).trans a0, (c 1).trans a1, (c 2).trans a2, (c 3).trans a3, (c 4).trans a4, bl.trans (b.mono bl.size)⟩

theorem box5_alloc {wa w1 : World} {g : Nat} {x0 x1 x2 x3 x4 : Value} (hg : g < wa.heap.size) (h : w1.cell? ⟨g, 0, none⟩ = some x0 ∧ w1.cell? ⟨g, 1, none⟩ = some x1 ∧ w1.cell? ⟨g, 2, none⟩ = some x2 ∧ w1.cell? ⟨g, 3, none⟩ = some x3 ∧ w1.cell? ⟨g, 4, none⟩ = some x4 ∧ Below wa.heap.size wa w1) (o : Obj) :
    (w1.alloc o).cell? ⟨g, 0, none⟩ = some x0 ∧ (w1.alloc o).cell? ⟨g, 1, none⟩ = some x1 ∧ (w1.alloc o).cell? ⟨g, 2, none⟩ = some x2 ∧ (w1.alloc o).cell? ⟨g, 3, none⟩ = some x3 ∧ (w1.alloc o).cell? ⟨g, 4, none⟩ = some x4 ∧ Below wa.heap.size wa (w1.alloc o) :=
  box5_below hg ((Below.refl _ _).alloc (Nat.le_refl _) o) h

set_option maxRecDepth 100000 in
set_option maxHeartbeats 2000000 in
theorem showOp (k v t a : Int) (s : ByteArray) (w : World) (hs : s.size ≤ 16) (hk : 0 ≤ k ∧ k ≤ 99) (hv : 0 ≤ v ∧ v ≤ 99) (ht : 0 ≤ t ∧ t ≤ 99) (ha : 0 ≤ a ∧ a ≤ 99) :
    Calls Tryz.prog 120 #[opV k v t a s] w fun e w' => e = .returned (.string (opS k v t a s)) ∧ Below w.heap.size w w' := by
  have HBd := hid (four_bd hk hv ht ha)
  have HD : Hid (vrs 0 [k, v, t, a] ++ piece s = opS k v t a s) := rfl
  have zp := piece_size s
  have zv : (vrs 0 [k, v, t, a]).size ≤ 28 := by have := vrs_size 0 [k, v, t, a]; simpa using this
  unfold opV
  obtain ⟨wa, hwa, ez, A0, B0⟩ := one_new w [.int .i64 k, .int .i64 v, .int .i64 t, .int .i64 a, .string s] 82
  have k0 := A0.c 0 rfl
  have k1 := A0.c 1 rfl
  have k2 := A0.c 2 rfl
  have k3 := A0.c 3 rfl
  have k4 := A0.c 4 rfl
  have HA := hid A0
  have HB := hid B0
  have hwn : ∀ w : World, (Instr.buildSlice 24 4 #[(0, .int .i64 k), (1, .int .i64 v), (2, .int .i64 t), (3, .int .i64 a)]).run Tryz.prog w = .ok (.slice (some ⟨w.heap.size, 0, none⟩) 4 4) (w.alloc (.cells #[.int .i64 k, .int .i64 v, .int .i64 t, .int .i64 a] 3)) := fun _ => by kernel_rfl
  clear A0 B0 hk hv ht ha
  go_enter Tryz.func120, Tryz.ntmps120
  go_wp2
  have Q0 := hid (show wa.drew.cell? ⟨w.heap.size, 0, none⟩ = some (.int .i64 k) ∧ wa.drew.cell? ⟨w.heap.size, 1, none⟩ = some (.int .i64 v) ∧ wa.drew.cell? ⟨w.heap.size, 2, none⟩ = some (.int .i64 t) ∧ wa.drew.cell? ⟨w.heap.size, 3, none⟩ = some (.int .i64 a) ∧ wa.drew.cell? ⟨w.heap.size, 4, none⟩ = some (.string s) ∧ Below wa.heap.size wa wa.drew from ⟨k0, k1, k2, k3, k4, (Below.refl _ wa).drew⟩)
  have hg : w.heap.size < wa.heap.size := by omega
  have QA := hid (show (wa.alloc (.cells #[.int .i64 k, .int .i64 v, .int .i64 t, .int .i64 a] 3)).drew.cell? ⟨w.heap.size, 0, none⟩ = some (.int .i64 k) ∧ (wa.alloc (.cells #[.int .i64 k, .int .i64 v, .int .i64 t, .int .i64 a] 3)).drew.cell? ⟨w.heap.size, 1, none⟩ = some (.int .i64 v) ∧ (wa.alloc (.cells #[.int .i64 k, .int .i64 v, .int .i64 t, .int .i64 a] 3)).drew.cell? ⟨w.heap.size, 2, none⟩ = some (.int .i64 t) ∧ (wa.alloc (.cells #[.int .i64 k, .int .i64 v, .int .i64 t, .int .i64 a] 3)).drew.cell? ⟨w.heap.size, 3, none⟩ = some (.int .i64 a) ∧ (wa.alloc (.cells #[.int .i64 k, .int .i64 v, .int .i64 t, .int .i64 a] 3)).drew.cell? ⟨w.heap.size, 4, none⟩ = some (.string s) ∧ Below wa.heap.size wa (wa.alloc (.cells #[.int .i64 k, .int .i64 v, .int .i64 t, .int .i64 a] 3)).drew from
    box5_below hg ((Below.refl _ wa).alloc (Nat.le_refl _) _).drew ⟨k0, k1, k2, k3, k4, Below.refl _ wa⟩)
  have HI : Hid (Ints (wa.alloc (.cells #[.int .i64 k, .int .i64 v, .int .i64 t, .int .i64 a] 3)).drew (some ⟨wa.heap.size, 0, none⟩) [k, v, t, a]) := ints_new wa [k, v, t, a]
  rw [ez] at HI
  clear k0 k1 k2 k3 k4 hwa
  go_region_held_law (fun w' => w'.cell? ⟨w.heap.size, 0, none⟩ = some (.int .i64 k) ∧ w'.cell? ⟨w.heap.size, 1, none⟩ = some (.int .i64 v) ∧ w'.cell? ⟨w.heap.size, 2, none⟩ = some (.int .i64 t) ∧ w'.cell? ⟨w.heap.size, 3, none⟩ = some (.int .i64 a) ∧ w'.cell? ⟨w.heap.size, 4, none⟩ = some (.string s) ∧ Below wa.heap.size wa w')
    (first | with_reducible exact Q2.out | with_reducible exact Q1.out | with_reducible exact Q0.out | with_reducible assumption | with_reducible exact QA.out)
    (first
      | (go_at_call 115; refine (showNumbers _ _ 4 [k, v, t, a] 0 HI.out (by simp) (by decide) HBd.out).mono ?_; rintro e w1 ⟨rfl, b1⟩; have Q1 := hid (box5_below hg b1 QA.out); clear b1)
      | (go_at_call 148; refine (showPiece s _ (by omega)).mono ?_; rintro e w2 ⟨rfl, b2⟩; have Q2 := hid (box5_below hg b2 Q1.out); clear b2))
  all_goals (have HB2 := hid (HB.out.trans (Q2.out.2.2.2.2.2.mono HB.out.size)); clear Q0 Q1 Q2; go_wp2; go_ret; exact ⟨Own.ret_str HD.out, HB2.out⟩)

end Go.Proofs.YtlbfcnpnfoapnaaGreatDoor.Sec
