/-
  The walks of laws.markText, laws.markStringS, laws.markIntS, laws.heldStringS and laws.heldIntS: marks are laid into a slice, one after the other, and found there again. No condition but slices that may be written and numbers that are not too great.
  The walks of laws.toWrite, laws.toWriteS and laws.toDisk: a disk laid anew. No condition but lengths of at most 2^20.
  The walks of laws.szStringS, laws.szIntS, laws.szWrite, laws.szWriteS and laws.szDisk: where they leave a number that isn't below 0, all lengths are at most what was left. No condition but texts that Go can hold.
  The walks of laws.eqStringS, laws.eqIntS, laws.eqWrite, laws.eqWriteS and laws.eqDisk: they tell whether two lists, writes or disks are the same. No condition.
  A slice of flags: the walks of laws.toBoolS, laws.eqBoolS, laws.szBoolS, laws.markBoolS and laws.heldBoolS. No condition but a length of at most 2^20.
  Plain: cells stored one behind the other. No condition.
  A list of a pool's volumes in memory, and the walks of laws.szPVolS, laws.eqPVolS and what they call. No condition but lists of at most 2^20.
  The walks of laws.toPVol, laws.toPVolS and laws.toPool: a pool laid anew, its lists apart from one another. No condition but lists of at most 2^20.
  The walks of laws.markPVolS, laws.markPool, laws.heldPVolS and laws.heldPool: marks are laid into a pool and found there again. No condition but lists that may be written and lie apart.
  Plain: which pools are right. The walk of spec.ModelOk. No condition but lists of at most 2^20.
  The walks of impl.namedParts, impl.highestVol, spec.l5Vol and small parts beside them; calls compared. No condition.
  Places and volumes, as structs, held against others. No condition.
  The program's own volumes: each in a block of its own. The walks of impl.volumeOf, impl.hasEachPlace, impl.isVolume. No condition.
  A list of volumes that a call makes by append, each with two lists of its own. No condition.
  The walk of impl.poolOf: the program's volumes told as a pool, all lists new. No condition but at most 2^20 volumes.
  The walk of laws.eqLease: a lease is itself. No condition.
-/
import Derived.Test.YtlbfcnpnfoapnaaGreatDoorToRows
import Derived.Test.YtlbfcnpnfoapnaaGreatDoorOwn
import Derived.Laws.BytesArg
import Derived.Outline
import Derived.Deep.QuietTactic
import Derived.BigQuiet
import Derived.RegionTactic
import Derived.BigRegion
import Derived.Deep.RegionWith
import Derived.Test.YtlbfcnpnfoapnaaGreatDoorMem
import Derived.Test.YtlbfcnpnfoapnaaGreatDoorQuietB
import Derived.Test.YtlbfcnpnfoapnaaGreatDoorRows
import Derived.Laws.StructEq
import Derived.ChangeKeysEq
import Derived.Test.YtlbfcnpnfoapnaaGreatDoorAppRow
import Derived.Test.YtlbfcnpnfoapnaaGreatDoorSecHost2
namespace Go.Proofs.YtlbfcnpnfoapnaaGreatDoor.Mem
open Go.RowKit
set_option linter.unusedVariables false

/-- The digits of q, none of 0; at most f. -/
def mkF : Nat → Nat → List Int
  | 0, _ => []
  | f + 1, q => if q = 0 then [] else mkF f (q / 10) ++ [48 + ((q % 10 : Nat) : Int)]
theorem mkF_zero (f : Nat) : mkF f 0 = [] := by cases f <;> simp [mkF]
theorem mkF_pos (f q : Nat) (h : q ≠ 0) : mkF (f + 1) q = mkF f (q / 10) ++ [48 + ((q % 10 : Nat) : Int)] := by rw [mkF, if_neg h]

/-- Mark k. -/
def markS (k : Nat) : ByteArray := strOfNums (109 :: mkF 20 k)

def MInv (M : Nat) (l : List Int) (q f : Nat) : Prop := q < 10 ^ f ∧ l.length + f = 20 ∧ mkF f q ++ l = mkF 20 M

theorem minv_start (M : Nat) (h : M < 100000000000000000000) : MInv M [] M 20 := ⟨by show M < 100000000000000000000; exact h, rfl, by simp⟩
theorem minv_more {M : Nat} {l : List Int} {q f : Nat} (h : MInv M l q f) (hq : q ≠ 0) : ∃ g, f = g + 1 ∧ MInv M ((48 + (q : Int) % 10) :: l) (q / 10) g := by
  obtain ⟨h1, h2, h3⟩ := h
  cases f with
  | zero => simp at h1; omega
  | succ g =>
    refine ⟨g, rfl, by rw [Nat.pow_succ] at h1; omega, by simp; omega, ?_⟩
    rw [mkF_pos g q hq] at h3
    rw [← h3]; simp
theorem minv_end {M : Nat} {l : List Int} {f : Nat} (h : MInv M l 0 f) : l = mkF 20 M := by
  have := h.2.2
  rw [mkF_zero] at this
  exact this
theorem minv_len {M : Nat} {l : List Int} {q f : Nat} (h : MInv M l q f) : l.length ≤ 20 := by have := h.2.1; omega
theorem mstr_cons (x : Int) (l : List Int) : strOfNums [x] ++ strOfNums l = strOfNums (x :: l) := by
  apply ByteArray.ext
  simp [strOfNums, ByteArray.data_append]
theorem mstr_m (l : List Int) : (⟨#[109]⟩ : ByteArray) ++ strOfNums l = strOfNums (109 :: l) := mstr_cons 109 l
theorem mstr_one (x : Int) : (strOfNums [x]).size = 1 := rfl

set_option maxRecDepth 100000 in
set_option maxHeartbeats 1000000 in
theorem markText (M : Nat) (w : World) (h0 : 0 < M) (h1 : (M : Int) ≤ 4611686018427387904) :
    Calls Tryz.prog 38 #[.int .i64 (M : Int)] w fun e w' => e = .returned (.string (markS M)) ∧ Below w.heap.size w w' := by
  have hneg : ¬ (M : Int) ≤ 0 := by omega
  go_enter Tryz.func38, Tryz.ntmps38
  go_wp2
  go_loopw [0, 3] (fun x s wr => ∃ (l : List Int) (q f : Nat), Hid (MInv M l q f) ∧ (q : Int) ≤ 4611686018427387904 ∧ x = .int .i64 (q : Int) ∧ s = .string (strOfNums l) ∧ Below w.heap.size w wr) (fun x _ _ => (intOf x).toNat)
  case atStart => exact ⟨[], M, 20, minv_start M (by omega), h1, rfl, rfl, Below.refl _ _⟩
  case round =>
    obtain ⟨l, q, f, hI, hq, rfl, rfl, hbel⟩ := hrel
    have hl := minv_len hI.out
    have hls := strOfNums_size l
    by_cases hlt : q = 0
    · subst hlt
      have Hf : Hid ((⟨#[109]⟩ : ByteArray) ++ strOfNums l = markS M) := by
        show _ = _
        rw [mstr_m, minv_end hI.out]; rfl
      have h9 : (⟨#[109]⟩ : ByteArray).size = 1 := rfl
      go_wp2
      go_ret
      exact ⟨Own.ret_str Hf.out, hbel⟩
    · obtain ⟨g, rfl, hI'⟩ := minv_more hI.out hlt
      have hne : (0 : Int) < (q : Int) := by omega
      have HS : Hid (strOfNums [48 + (q : Int) % 10] ++ strOfNums l = strOfNums ((48 + (q : Int) % 10) :: l)) := mstr_cons _ _
      have Hn : Hid (((q / 10 : Nat) : Int) = (q : Int) / 10) := by show _ = _; omega
      have hone := mstr_one (48 + (q : Int) % 10)
      have HI : Hid (MInv M ((48 + (q : Int) % 10) :: l) (q / 10) g) := hI'
      have hcv := fun (b len : Nat) (x : Int) (wx : World) (hc : wx.cell? ⟨b, 0, none⟩ = some (.int .u8 x)) => run_convert_bytes_arg (P := Tryz.prog) wx 38 5 Tryz.underlying38 Tryz.underlying5 b 0 1 len [x] rfl (fun i hi => by obtain rfl : i = 0 := (by omega); simpa using hc) 9 Tryz.underlying9
      clear hI'
      go_wp2
      go_roundw
      case rel => exact ⟨(48 + (q : Int) % 10) :: l, q / 10, g, HI, by rw [Hn.out]; omega, by rw [Hn.out], by rw [HS.out], hbel.alloc hbel.size _⟩
      case measure => simp [intOf]; omega

/-- What stands in the slice behind j rounds of marking from k on. -/
def msS (f : Nat → Value) (k j : Nat) (i : Nat) : Value := if i < j then .string (markS (k + i)) else f i
def msI (f : Nat → Value) (k j : Nat) (i : Nat) : Value := if i < j then .int .i64 ((k + i : Nat) : Int) else f i

theorem msS_succ (f : Nat → Value) (k j : Nat) (i : Nat) : (if i = j then Value.string (markS (k + j)) else msS f k j i) = msS f k (j + 1) i := by
  unfold msS
  by_cases h : i = j
  · subst h; simp
  · by_cases h2 : i < j
    · simp [h, h2, Nat.lt_succ_of_lt h2]
    · simp [h, h2, show ¬ i < j + 1 by omega]
theorem msI_succ (f : Nat → Value) (k j : Nat) (i : Nat) : (if i = j then Value.int .i64 ((k + j : Nat) : Int) else msI f k j i) = msI f k (j + 1) i := by
  unfold msI
  by_cases h : i = j
  · subst h; simp
  · by_cases h2 : i < j
    · simp [h, h2, Nat.lt_succ_of_lt h2]
    · simp [h, h2, show ¬ i < j + 1 by omega]

set_option maxRecDepth 100000 in
set_option maxHeartbeats 1000000 in
theorem markStringS (w : World) (B : Nat) (a : Option Addr) (n cap k : Nat) (f : Nat → Value) (S : Wr w B a n f) (hk : 0 < k) (hb : k + n ≤ 4611686018427387904) :
    Calls Tryz.prog 13 #[.slice a n cap, .int .i64 (k : Int)] w fun e w' => e = .returned (.int .i64 ((k + n : Nat) : Int)) ∧ Wr w' B a n (fun i => .string (markS (k + i))) ∧ Kept (foot a n) w w' := by
  have HS := hid S
  clear S
  go_enter Tryz.func13, Tryz.ntmps13
  go_wp2
  go_loopw [1, 5] (fun x i wr => ∃ j : Nat, j ≤ n ∧ i = .int .i64 (j : Int) ∧ x = .int .i64 ((k + j : Nat) : Int) ∧ Hid (Wr wr B a n (msS f k j)) ∧ Hid (Kept (foot a n) w wr)) (fun _ i _ => n - (intOf i).toNat)
  case atStart => exact ⟨0, Nat.zero_le _, rfl, rfl, HS.out.congr (fun i _ => by simp [msS]), Kept.refl _ _⟩
  case round =>
    obtain ⟨j, hj, rfl, rfl, HW, HK⟩ := hrel
    by_cases hlt : j < n
    · obtain ⟨b, off, rfl, hB, hc, hz⟩ := HW.out j hlt
      go_wp2_with fail
      refine (markText (k + j) _ (by omega) (by omega)).mono ?_
      rintro e w1 ⟨rfl, b1⟩
      have HW1 := hid (HW.out.below b1)
      have HK1 := hid (HK.out.trans (Kept.of_below (S := fun _ => False) b1))
      obtain ⟨b', off', e', hB', hc', hz'⟩ := HW1.out j hlt
      cases e'
      clear b1 hc hz
      go_wp2
      refine ⟨⟨j + 1, by omega, by go_num, by go_num, ?_, ?_⟩, by simp [intOf]; omega⟩
      · exact (HW1.out.set j hlt (.string (markS (k + j)))).congr (fun i _ => msS_succ f k j i)
      · exact (HK1.out.trans (kept_set w1 b (off + j) _)).mono (fun b2 _ h => by
          rcases h with (h | h) | h
          · exact h
          · exact h.elim
          · subst h; exact ⟨by omega, off, rfl⟩)
    · obtain rfl : j = n := by omega
      go_wp2
      go_ret
      exact ⟨rfl, HW.out.congr (fun i hi => by simp [msS, hi]), HK.out⟩

set_option maxRecDepth 100000 in
set_option maxHeartbeats 1000000 in
theorem markIntS (w : World) (B : Nat) (a : Option Addr) (n cap k : Nat) (f : Nat → Value) (S : Wr w B a n f) (hb : k + n ≤ 4611686018427387904) :
    Calls Tryz.prog 14 #[.slice a n cap, .int .i64 (k : Int)] w fun e w' => e = .returned (.int .i64 ((k + n : Nat) : Int)) ∧ Wr w' B a n (fun i => .int .i64 ((k + i : Nat) : Int)) ∧ Kept (foot a n) w w' := by
  have HS := hid S
  clear S
  go_enter Tryz.func14, Tryz.ntmps14
  go_wp2
  go_loopw [1, 5] (fun x i wr => ∃ j : Nat, j ≤ n ∧ i = .int .i64 (j : Int) ∧ x = .int .i64 ((k + j : Nat) : Int) ∧ Hid (Wr wr B a n (msI f k j)) ∧ Hid (Kept (foot a n) w wr)) (fun _ i _ => n - (intOf i).toNat)
  case atStart => exact ⟨0, Nat.zero_le _, rfl, rfl, HS.out.congr (fun i _ => by simp [msI]), Kept.refl _ _⟩
  case round =>
    obtain ⟨j, hj, rfl, rfl, HW, HK⟩ := hrel
    by_cases hlt : j < n
    · obtain ⟨b, off, rfl, hB, hc, hz⟩ := HW.out j hlt
      go_wp2
      refine ⟨⟨j + 1, by omega, by go_num, by go_num, ?_, ?_⟩, by simp [intOf]; omega⟩
      · exact (HW.out.set j hlt (.int .i64 ((k + j : Nat) : Int))).congr (fun i _ => msI_succ f k j i)
      · exact (HK.out.trans (kept_set wr b (off + j) _)).mono (fun b2 _ h => by
          rcases h with h | h
          · exact h
          · subst h; exact ⟨by omega, off, rfl⟩)
    · obtain rfl : j = n := by omega
      go_wp2
      go_ret
      exact ⟨rfl, HW.out.congr (fun i hi => by simp [msI, hi]), HK.out⟩

set_option maxRecDepth 100000 in
set_option maxHeartbeats 1000000 in
theorem heldStringS (w : World) (a : Option Addr) (n cap k : Nat) (S : Sl w a n (fun i => .string (markS (k + i)))) (hk : 0 < k) (hb : k + n ≤ 4611686018427387904) :
    Calls Tryz.prog 75 #[.slice a n cap, .int .i64 (k : Int)] w fun e w' => e = .returned (.int .i64 ((k + n : Nat) : Int)) ∧ Below w.heap.size w w' := by
  have HS := hid S
  clear S
  go_enter Tryz.func75, Tryz.ntmps75
  go_wp2
  go_loopw [1, 5] (fun x i wr => ∃ j : Nat, j ≤ n ∧ i = .int .i64 (j : Int) ∧ x = .int .i64 ((k + j : Nat) : Int) ∧ Hid (Below w.heap.size w wr)) (fun _ i _ => n - (intOf i).toNat)
  case atStart => exact ⟨0, Nat.zero_le _, rfl, rfl, Below.refl _ _⟩
  case round =>
    obtain ⟨j, hj, rfl, rfl, HB⟩ := hrel
    by_cases hlt : j < n
    · obtain ⟨b, off, rfl, hc⟩ := (HS.out.below HB.out) j hlt
      replace hc : wr.cell? ⟨b, off + j, none⟩ = some (.string (markS (k + j))) := hc
      have hlb := World.block_lt_of_cell? wr _ hc
      have he' : ((markS (k + j)).toList == (markS (k + j)).toList) = true := Own.eqS_yes rfl
      go_wp2
      go_region_with (go_at_call 38; refine (markText (k + j) _ (by omega) (by omega)).mono ?_; rintro e w1 ⟨rfl, b1'⟩; have b1 := undrew b1'; have hc1 := (b1.cell (p := ⟨b, off + j, none⟩) hlb).trans hc)
      all_goals (have HB1 := hid (HB.out.trans (b1.mono HB.out.size)); clear b1 b1' hc hc1; go_wp2)
      all_goals exact ⟨⟨j + 1, by omega, by go_num, by go_num, HB1⟩, by simp [intOf]; omega⟩
    · obtain rfl : j = n := by omega
      go_wp2
      go_ret
      exact ⟨rfl, HB.out⟩

set_option maxRecDepth 100000 in
set_option maxHeartbeats 1000000 in
theorem heldIntS (w : World) (a : Option Addr) (n cap k : Nat) (S : Sl w a n (fun i => .int .i64 ((k + i : Nat) : Int))) (hb : k + n ≤ 4611686018427387904) :
    Calls Tryz.prog 15 #[.slice a n cap, .int .i64 (k : Int)] w fun e w' => e = .returned (.int .i64 ((k + n : Nat) : Int)) ∧ Below w.heap.size w w' := by
  have HS := hid S
  clear S
  go_enter Tryz.func15, Tryz.ntmps15
  go_wp2
  go_loopw [1, 5] (fun x i wr => ∃ j : Nat, j ≤ n ∧ i = .int .i64 (j : Int) ∧ x = .int .i64 ((k + j : Nat) : Int) ∧ Hid (Below w.heap.size w wr)) (fun _ i _ => n - (intOf i).toNat)
  case atStart => exact ⟨0, Nat.zero_le _, rfl, rfl, Below.refl _ _⟩
  case round =>
    obtain ⟨j, hj, rfl, rfl, HB⟩ := hrel
    by_cases hlt : j < n
    · obtain ⟨b, off, rfl, hc⟩ := (HS.out.below HB.out) j hlt
      replace hc : wr.cell? ⟨b, off + j, none⟩ = some (.int .i64 ((k + j : Nat) : Int)) := hc
      go_wp2
      exact ⟨⟨j + 1, by omega, by go_num, by go_num, HB⟩, by simp [intOf]; omega⟩
    · obtain rfl : j = n := by omega
      go_wp2
      go_ret
      exact ⟨rfl, HB.out⟩

end Go.Proofs.YtlbfcnpnfoapnaaGreatDoor.Mem

namespace Go.Proofs.YtlbfcnpnfoapnaaGreatDoor.Mem
open Go.RowKit
set_option linter.unusedVariables false

/-- A write under way. -/
structure Wt where
  host : Int
  epoch : Int
  sector : Int
  text : ByteArray

def Wt.none : Wt := ⟨0, 0, 0, ByteArray.empty⟩
def Wt.cells (x : Wt) : List Value := [.int .i64 x.host, .int .i64 x.epoch, .int .i64 x.sector, .string x.text]
def Wt.val (x : Wt) : Value := .agg #[.int .i64 x.host, .int .i64 x.epoch, .int .i64 x.sector, .string x.text]

/-- Cell i of a list of writes, four cells each. -/
def wcell (l : List Wt) (i : Nat) : Value := (l.getD (i / 4) Wt.none).cells.getD (i % 4) undef
def Wts (w : World) (a : Option Addr) (l : List Wt) : Prop := Sl w a (l.length * 4) (wcell l)
def WtsW (w : World) (B : Nat) (a : Option Addr) (l : List Wt) : Prop := Wr w B a (l.length * 4) (wcell l)

theorem wcell_at (l : List Wt) (k j : Nat) (hj : j < 4) : wcell l (k * 4 + j) = (l.getD k Wt.none).cells.getD j undef := by
  unfold wcell
  rw [show (k * 4 + j) / 4 = k by omega, show (k * 4 + j) % 4 = j by omega]

/-- The four cells of write k. -/
theorem Wts.at_ {w : World} {a : Option Addr} {l : List Wt} (h : Wts w a l) (k : Nat) (hk : k < l.length) : ∃ b off, a = some ⟨b, off, none⟩ ∧
    w.cell? ⟨b, off + k * 4, none⟩ = some (.int .i64 (l.getD k Wt.none).host) ∧ w.cell? ⟨b, off + k * 4 + 1, none⟩ = some (.int .i64 (l.getD k Wt.none).epoch) ∧
    w.cell? ⟨b, off + k * 4 + 2, none⟩ = some (.int .i64 (l.getD k Wt.none).sector) ∧ w.cell? ⟨b, off + k * 4 + 3, none⟩ = some (.string (l.getD k Wt.none).text) := by
  obtain ⟨b, off, rfl, h0⟩ := h (k * 4 + 0) (by omega)
  obtain ⟨b1, off1, e1, h1⟩ := h (k * 4 + 1) (by omega)
  obtain ⟨b2, off2, e2, h2⟩ := h (k * 4 + 2) (by omega)
  obtain ⟨b3, off3, e3, h3⟩ := h (k * 4 + 3) (by omega)
  cases e1; cases e2; cases e3
  rw [wcell_at l k _ (by omega)] at h0 h1 h2 h3
  exact ⟨b, off, rfl, h0, by rw [Nat.add_assoc]; exact h1, by rw [Nat.add_assoc]; exact h2, by rw [Nat.add_assoc]; exact h3⟩

/-- What stands in the new row behind k rounds. -/
def partW (l : List Wt) (k : Nat) (i : Nat) : Value := if i < k * 4 then wcell l i else Wt.none.cells.getD (i % 4) undef

theorem partW_succ (l : List Wt) (k : Nat) (j : Nat) : (if j / 4 = k then [Value.int .i64 (l.getD k Wt.none).host, .int .i64 (l.getD k Wt.none).epoch, .int .i64 (l.getD k Wt.none).sector, .string (l.getD k Wt.none).text].getD (j % 4) undef else partW l k j) = partW l (k + 1) j := by
  unfold partW
  by_cases h : j / 4 = k
  · rw [if_pos h, if_pos (by omega)]
    unfold wcell
    rw [h]; rfl
  · by_cases h2 : j < k * 4
    · rw [if_neg h, if_pos h2, if_pos (by omega)]
    · rw [if_neg h, if_neg h2, if_neg (by omega)]

/-- The four cells of write k, which may be written. -/
theorem wr_at {w : World} {B b : Nat} {m : Nat} {f : Nat → Value} (h : Wr w B (some ⟨b, 0, none⟩) m f) (k : Nat) (hk : k * 4 + 4 ≤ m) :
    (∃ v, w.cell? ⟨b, k * 4, none⟩ = some v) ∧ (∃ v, w.cell? ⟨b, k * 4 + 1, none⟩ = some v) ∧ (∃ v, w.cell? ⟨b, k * 4 + 2, none⟩ = some v) ∧ (∃ v, w.cell? ⟨b, k * 4 + 3, none⟩ = some v) ∧
    w.frozen? ⟨b, k * 4, none⟩ = false ∧ w.frozen? ⟨b, k * 4 + 1, none⟩ = false ∧ w.frozen? ⟨b, k * 4 + 2, none⟩ = false ∧ w.frozen? ⟨b, k * 4 + 3, none⟩ = false := by
  obtain ⟨_, _, e0, _, h0, z0⟩ := h (k * 4) (by omega)
  obtain ⟨_, _, e1, _, h1, z1⟩ := h (k * 4 + 1) (by omega)
  obtain ⟨_, _, e2, _, h2, z2⟩ := h (k * 4 + 2) (by omega)
  obtain ⟨_, _, e3, _, h3, z3⟩ := h (k * 4 + 3) (by omega)
  cases e0; cases e1; cases e2; cases e3
  rw [Nat.zero_add] at h0 h1 h2 h3 z0 z1 z2 z3
  exact ⟨⟨_, h0⟩, ⟨_, h1⟩, ⟨_, h2⟩, ⟨_, h3⟩, z0, z1, z2, z3⟩

/-- A disk. -/
structure Dk where
  sec : List ByteArray
  ep : List Int
  pe : List Wt

/-- v is the disk D in world w. -/
def DkR (w : World) (v : Value) (D : Dk) : Prop := ∃ a1 c1 a2 c2 a3 c3, v = .agg #[.slice a1 D.sec.length c1, .slice a2 D.ep.length c2, .slice a3 D.pe.length c3] ∧ Strs w a1 D.sec ∧ Ints w a2 D.ep ∧ Wts w a3 D.pe

/-- The same, in blocks from B on, no two lists in one block; they may be written. -/
def DkW (w : World) (B : Nat) (v : Value) (D : Dk) : Prop := ∃ a1 c1 a2 c2 a3 c3, v = .agg #[.slice a1 D.sec.length c1, .slice a2 D.ep.length c2, .slice a3 D.pe.length c3] ∧ StrsW w B a1 D.sec ∧ IntsW w B a2 D.ep ∧ WtsW w B a3 D.pe ∧
  (∀ b, foot a1 D.sec.length b → ¬ foot a2 D.ep.length b ∧ ¬ foot a3 (D.pe.length * 4) b) ∧ (∀ b, foot a2 D.ep.length b → ¬ foot a3 (D.pe.length * 4) b)

theorem DkR.below {w w' : World} {v : Value} {D : Dk} (h : DkR w v D) (b : Below w.heap.size w w') : DkR w' v D := by
  obtain ⟨a1, c1, a2, c2, a3, c3, e, s1, s2, s3⟩ := h
  exact ⟨a1, c1, a2, c2, a3, c3, e, Sl.below s1 b, Sl.below s2 b, Sl.below s3 b⟩

theorem DkW.read {w : World} {B : Nat} {v : Value} {D : Dk} (h : DkW w B v D) : DkR w v D := by
  obtain ⟨a1, c1, a2, c2, a3, c3, e, s1, s2, s3, _⟩ := h
  exact ⟨a1, c1, a2, c2, a3, c3, e, Wr.sl s1, Wr.sl s2, Wr.sl s3⟩

theorem DkW.below {w w' : World} {B : Nat} {v : Value} {D : Dk} (h : DkW w B v D) (b : Below w.heap.size w w') : DkW w' B v D := by
  obtain ⟨a1, c1, a2, c2, a3, c3, e, s1, s2, s3, f1, f2⟩ := h
  exact ⟨a1, c1, a2, c2, a3, c3, e, Wr.below s1 b, Wr.below s2 b, Wr.below s3 b, f1, f2⟩

end Go.Proofs.YtlbfcnpnfoapnaaGreatDoor.Mem

namespace Go.Proofs.YtlbfcnpnfoapnaaGreatDoor.Mem
open Go.RowKit
set_option linter.unusedVariables false

/-- What is left: a number below 0, or one not above what was, and all fits. -/
def FitS (r left : Int) (l : List ByteArray) : Prop := r < 0 ∨ (0 ≤ r ∧ r ≤ left ∧ (l.length : Int) ≤ left ∧ ∀ s ∈ l, (s.size : Int) ≤ left)
def FitN (r left : Int) (n : Nat) : Prop := r < 0 ∨ (0 ≤ r ∧ r ≤ left ∧ (n : Int) ≤ left)
def FitW (r left : Int) (l : List Wt) : Prop := r < 0 ∨ (0 ≤ r ∧ r ≤ left ∧ (l.length : Int) ≤ left ∧ ∀ s ∈ l, (s.text.size : Int) ≤ left)

set_option maxRecDepth 100000 in
set_option maxHeartbeats 1000000 in
theorem szStringS (w : World) (a : Option Addr) (cap : Nat) (l : List ByteArray) (left : Int) (S : Strs w a l) (hl : l.length ≤ maxLen) (hs : ∀ s ∈ l, s.size ≤ maxLen) (h0 : 0 ≤ left) (h1 : left ≤ 1048576) :
    Calls Tryz.prog 7 #[.slice a l.length cap, .int .i64 left] w fun e w' => ∃ r, e = .returned (.int .i64 r) ∧ w' = w ∧ FitS r left l := by
  unfold maxLen at hl hs
  have HS := hid S
  have Hs := hid hs
  clear S hs
  by_cases hb : left < (l.length : Int)
  · go_enter Tryz.func7, Tryz.ntmps7
    go_wp2
    go_ret
    exact ⟨_, rfl, rfl, Or.inl (by decide)⟩
  · go_enter Tryz.func7, Tryz.ntmps7
    go_wp2
    go_loop [1, 5] (fun x i => ∃ (k : Nat) (m : Int), k ≤ l.length ∧ i = .int .i64 (k : Int) ∧ x = .int .i64 m ∧ 0 ≤ m ∧ m ≤ left ∧ Hid (∀ j, j < k → ((l.getD j ByteArray.empty).size : Int) ≤ left)) (fun _ i => l.length - (intOf i).toNat)
    case atStart => exact ⟨0, _, Nat.zero_le _, rfl, rfl, by omega, by omega, fun j hj => by omega⟩
    case round =>
      obtain ⟨k, m, hk, rfl, rfl, hm0, hm1, HJ⟩ := hrel
      by_cases hlt : k < l.length
      · obtain ⟨b, off, rfl, hc⟩ := HS.out k hlt
        replace hc : w.cell? ⟨b, off + k, none⟩ = some (.string (l.getD k ByteArray.empty)) := hc
        have hx2 : (l.getD k ByteArray.empty).size ≤ 9223372036854775807 := by
          rw [List.getD, List.getElem?_eq_getElem hlt]; exact Hs.out _ (List.getElem_mem hlt)
        generalize hx : l.getD k ByteArray.empty = x at hc hx2
        have HX := hid hx
        clear hx
        by_cases hneg : m < (x.size : Int)
        · go_wp2
          go_ret
          exact ⟨_, rfl, rfl, Or.inl (by decide)⟩
        · go_wp2
          go_round
          case rel => exact ⟨k + 1, m - x.size, by omega, by go_num, rfl, by omega, by omega, fun j hj => by
            by_cases h : j = k
            · subst h; rw [HX.out]; omega
            · exact HJ.out j (by omega)⟩
          case measure => simp [intOf]; omega
      · obtain rfl : k = l.length := by omega
        go_wp2
        go_ret
        refine ⟨_, rfl, rfl, Or.inr ⟨hm0, hm1, by omega, fun s hs => ?_⟩⟩
        obtain ⟨j, hj, rfl⟩ := List.getElem_of_mem hs
        have := HJ.out j hj
        rwa [List.getD, List.getElem?_eq_getElem hj] at this

/-- The sizes that Go can hold. -/
structure Dk.Held (D : Dk) : Prop where
  h1 : D.sec.length ≤ maxLen
  h2 : D.ep.length ≤ maxLen
  h3 : D.pe.length ≤ maxLen
  t1 : ∀ s ∈ D.sec, s.size ≤ maxLen
  t3 : ∀ x ∈ D.pe, x.text.size ≤ maxLen

/-- The sizes that the laws look at. -/
structure Dk.Small (D : Dk) (m : Int) : Prop where
  h1 : (D.sec.length : Int) ≤ m
  h2 : (D.ep.length : Int) ≤ m
  h3 : (D.pe.length : Int) ≤ m
  t1 : ∀ s ∈ D.sec, (s.size : Int) ≤ m
  t3 : ∀ x ∈ D.pe, (x.text.size : Int) ≤ m

def FitD (r left : Int) (D : Dk) : Prop := r < 0 ∨ (0 ≤ r ∧ r ≤ left ∧ D.Small left)

end Go.Proofs.YtlbfcnpnfoapnaaGreatDoor.Mem

namespace Go.Proofs.YtlbfcnpnfoapnaaGreatDoor.Mem
open Go.RowKit Classical
set_option linter.unusedVariables false

theorem getD_ext {α : Type} {l m : List α} (d : α) (hl : l.length = m.length) (h : ∀ j, j < l.length → l.getD j d = m.getD j d) : l = m := by
  apply List.ext_getElem hl
  intro i h1 h2
  have := h i h1
  rwa [List.getD, List.getElem?_eq_getElem h1, List.getD, List.getElem?_eq_getElem h2] at this

set_option maxRecDepth 100000 in
set_option maxHeartbeats 1000000 in
theorem eqStringS (w : World) (a b : Option Addr) (ca cb : Nat) (l m : List ByteArray) (S : Strs w a l) (T : Strs w b m) (hl : l.length ≤ maxLen) (hm : m.length ≤ maxLen) :
    Calls Tryz.prog 12 #[.slice a l.length ca, .slice b m.length cb] w fun e w' => e = .returned (.bool (decide (l = m))) ∧ Below w.heap.size w w' := by
  unfold maxLen at hl hm
  have HS := hid S
  have HT := hid T
  clear S T
  by_cases hne : l.length = m.length
  · have Hne := hid hne
    rw [← hne]
    clear hne hm
    generalize hq : decide (l = m) = q
    have HQ := hid hq
    clear hq
    go_enter Tryz.func12, Tryz.ntmps12
    go_wp2
    go_loopw [5] (fun i wr => ∃ k : Nat, k ≤ l.length ∧ i = .int .i64 (k : Int) ∧ Hid (∀ j, j < k → l.getD j ByteArray.empty = m.getD j ByteArray.empty) ∧ Hid (Below w.heap.size w wr)) (fun i _ => l.length - (intOf i).toNat)
    case atStart => exact ⟨0, Nat.zero_le _, rfl, fun j hj => by omega, Below.refl _ _⟩
    case round =>
      obtain ⟨k, hk, rfl, HJ, HB⟩ := hrel
      by_cases hlt : k < l.length
      · obtain ⟨b1, o1, rfl, hc1⟩ := (HS.out.below HB.out) k hlt
        obtain ⟨b2, o2, rfl, hc2⟩ := (HT.out.below HB.out) k (Hne.out ▸ hlt)
        replace hc1 : wr.cell? ⟨b1, o1 + k, none⟩ = some (.string (l.getD k ByteArray.empty)) := hc1
        replace hc2 : wr.cell? ⟨b2, o2 + k, none⟩ = some (.string (m.getD k ByteArray.empty)) := hc2
        generalize hx : l.getD k ByteArray.empty = x at hc1
        generalize hy : m.getD k ByteArray.empty = y at hc2
        have HX := hid hx
        have HY := hid hy
        clear hx hy
        by_cases he : x = y
        · have he' := Own.eqS_yes he
          have HE := hid he
          clear he
          go_wp2
          go_quiet (fail)
          go_wp2
          exact ⟨⟨k + 1, by omega, by go_num, fun j hj => by
            by_cases h : j = k
            · subst h; rw [HX.out, HY.out]; exact HE.out
            · exact HJ.out j (by omega), below_drewN HB.out nq⟩, by simp [intOf]; omega⟩
        · have he' := Own.eqS_no he
          have HE := hid he
          clear he
          go_wp2
          go_quiet (fail)
          go_wp2
          go_ret
          refine ⟨?_, below_drewN HB.out nq⟩
          rw [← HQ.out, decide_eq_false (fun e => HE.out (by rw [← HX.out, ← HY.out, e]))]
          rfl
      · obtain rfl : k = l.length := by omega
        go_wp2
        go_ret
        refine ⟨?_, HB.out⟩
        rw [← HQ.out, decide_eq_true (getD_ext ByteArray.empty Hne.out HJ.out)]
        rfl
  · have hne' : ¬ (l.length : Int) = (m.length : Int) := by omega
    have HQ := hid (decide_eq_false (p := l = m) (fun e => hne (by rw [e])))
    rw [HQ.out]
    go_enter Tryz.func12, Tryz.ntmps12
    go_wp2
    go_ret
    exact ⟨rfl, Below.refl _ _⟩

set_option maxRecDepth 100000 in
set_option maxHeartbeats 1000000 in
theorem eqIntS (w : World) (a b : Option Addr) (ca cb : Nat) (l m : List Int) (S : Ints w a l) (T : Ints w b m) (hl : l.length ≤ maxLen) (hm : m.length ≤ maxLen) :
    Calls Tryz.prog 11 #[.slice a l.length ca, .slice b m.length cb] w fun e w' => e = .returned (.bool (decide (l = m))) ∧ Below w.heap.size w w' := by
  unfold maxLen at hl hm
  have HS := hid S
  have HT := hid T
  clear S T
  by_cases hne : l.length = m.length
  · have Hne := hid hne
    rw [← hne]
    clear hne hm
    generalize hq : decide (l = m) = q
    have HQ := hid hq
    clear hq
    go_enter Tryz.func11, Tryz.ntmps11
    go_wp2
    go_loopw [5] (fun i wr => ∃ k : Nat, k ≤ l.length ∧ i = .int .i64 (k : Int) ∧ Hid (∀ j, j < k → l.getD j 0 = m.getD j 0) ∧ Hid (Below w.heap.size w wr)) (fun i _ => l.length - (intOf i).toNat)
    case atStart => exact ⟨0, Nat.zero_le _, rfl, fun j hj => by omega, Below.refl _ _⟩
    case round =>
      obtain ⟨k, hk, rfl, HJ, HB⟩ := hrel
      by_cases hlt : k < l.length
      · obtain ⟨b1, o1, rfl, hc1⟩ := (HS.out.below HB.out) k hlt
        obtain ⟨b2, o2, rfl, hc2⟩ := (HT.out.below HB.out) k (Hne.out ▸ hlt)
        replace hc1 : wr.cell? ⟨b1, o1 + k, none⟩ = some (.int .i64 (l.getD k 0)) := hc1
        replace hc2 : wr.cell? ⟨b2, o2 + k, none⟩ = some (.int .i64 (m.getD k 0)) := hc2
        generalize hx : l.getD k 0 = x at hc1
        generalize hy : m.getD k 0 = y at hc2
        have HX := hid hx
        have HY := hid hy
        clear hx hy
        by_cases he : x = y
        · have HE := hid he
          go_wp2
          go_quiet (fail)
          go_wp2
          exact ⟨⟨k + 1, by omega, by go_num, fun j hj => by
            by_cases h : j = k
            · subst h; rw [HX.out, HY.out]; exact HE.out
            · exact HJ.out j (by omega), below_drewN HB.out nq⟩, by simp [intOf]; omega⟩
        · have HE := hid he
          go_wp2
          go_quiet (fail)
          go_wp2
          go_ret
          refine ⟨?_, below_drewN HB.out nq⟩
          rw [← HQ.out, decide_eq_false (fun e => HE.out (by rw [← HX.out, ← HY.out, e]))]
          rfl
      · obtain rfl : k = l.length := by omega
        go_wp2
        go_ret
        refine ⟨?_, HB.out⟩
        rw [← HQ.out, decide_eq_true (getD_ext 0 Hne.out HJ.out)]
        rfl
  · have hne' : ¬ (l.length : Int) = (m.length : Int) := by omega
    have HQ := hid (decide_eq_false (p := l = m) (fun e => hne (by rw [e])))
    rw [HQ.out]
    go_enter Tryz.func11, Tryz.ntmps11
    go_wp2
    go_ret
    exact ⟨rfl, Below.refl _ _⟩

end Go.Proofs.YtlbfcnpnfoapnaaGreatDoor.Mem

namespace Go.Proofs.YtlbfcnpnfoapnaaGreatDoor.Mem
open Go.RowKit
set_option linter.unusedVariables false

def Bls (w : World) (a : Option Addr) (l : List Bool) : Prop := Sl w a l.length (fun i => .bool (l.getD i false))
def BlsW (w : World) (B : Nat) (a : Option Addr) (l : List Bool) : Prop := Wr w B a l.length (fun i => .bool (l.getD i false))

theorem infoBl : (Tryz.prog.info? 4).map (fun i => (i.zero, i.size, i.bytes)) = some (some (.bool false), 1, 1) := by kernel_rfl

def partB (l : List Bool) (k : Nat) (i : Nat) : Value := .bool (if i < k then l.getD i false else false)
theorem partB_succ (l : List Bool) (k : Nat) : (fun j => if j = k then Value.bool (l.getD k false) else partB l k j) = partB l (k + 1) := by
  funext j
  unfold partB
  by_cases h : j = k
  · subst h; simp
  · by_cases h2 : j < k
    · simp [h, h2, Nat.lt_succ_of_lt h2]
    · simp [h, h2, show ¬ j < k + 1 by omega]

set_option maxRecDepth 100000 in
set_option maxHeartbeats 1000000 in
theorem eqBoolS (w : World) (a b : Option Addr) (ca cb : Nat) (l m : List Bool) (S : Bls w a l) (T : Bls w b m) (hl : l.length ≤ maxLen) (hd : l = m) :
    Calls Tryz.prog 116 #[.slice a l.length ca, .slice b m.length cb] w fun e w' => e = .returned (.bool true) ∧ Below w.heap.size w w' := by
  subst hd
  unfold maxLen at hl
  have HS := hid S
  have HT := hid T
  clear S T
  go_enter Tryz.func116, Tryz.ntmps116
  go_wp2
  go_loopw [5] (fun i wr => ∃ k : Nat, k ≤ l.length ∧ i = .int .i64 (k : Int) ∧ Hid (Below w.heap.size w wr)) (fun i _ => l.length - (intOf i).toNat)
  case atStart => exact ⟨0, Nat.zero_le _, rfl, Below.refl _ _⟩
  case round =>
    obtain ⟨k, hk, rfl, HB⟩ := hrel
    by_cases hlt : k < l.length
    · obtain ⟨b1, o1, rfl, hc1⟩ := (HS.out.below HB.out) k hlt
      obtain ⟨b2, o2, rfl, hc2⟩ := (HT.out.below HB.out) k hlt
      replace hc1 : wr.cell? ⟨b1, o1 + k, none⟩ = some (.bool (l.getD k false)) := hc1
      replace hc2 : wr.cell? ⟨b2, o2 + k, none⟩ = some (.bool (l.getD k false)) := hc2
      generalize l.getD k false = x at hc1 hc2
      go_wp2
      go_quiet (fail)
      go_wp2
      exact ⟨⟨k + 1, by omega, by go_num, below_drewN HB.out nq⟩, by simp [intOf]; omega⟩
    · obtain rfl : k = l.length := by omega
      go_wp2
      go_ret
      exact ⟨rfl, HB.out⟩

/-- The flag that is laid as mark k. -/
def markB (k : Nat) : Bool := (k : Int) % 3 == 0
theorem markB_at (k j : Nat) : markB (k + j) = (((k : Int) + (j : Int)) % 3 == 0) := by unfold markB; rw [Int.natCast_add]
def msB (f : Nat → Value) (k j : Nat) (i : Nat) : Value := if i < j then .bool (markB (k + i)) else f i
theorem msB_succ (f : Nat → Value) (k j : Nat) (i : Nat) : (if i = j then Value.bool (markB (k + j)) else msB f k j i) = msB f k (j + 1) i := by
  unfold msB
  by_cases h : i = j
  · subst h; simp
  · by_cases h2 : i < j
    · simp [h, h2, Nat.lt_succ_of_lt h2]
    · simp [h, h2, show ¬ i < j + 1 by omega]

set_option maxRecDepth 100000 in
set_option maxHeartbeats 1000000 in
theorem markBoolS (w : World) (B : Nat) (a : Option Addr) (n cap k : Nat) (f : Nat → Value) (S : Wr w B a n f) (hb : k + n ≤ 4611686018427387904) :
    Calls Tryz.prog 73 #[.slice a n cap, .int .i64 (k : Int)] w fun e w' => e = .returned (.int .i64 ((k + n : Nat) : Int)) ∧ Wr w' B a n (fun i => .bool (markB (k + i))) ∧ Kept (foot a n) w w' := by
  have HS := hid S
  clear S
  go_enter Tryz.func73, Tryz.ntmps73
  go_wp2
  go_loopw [1, 5] (fun x i wr => ∃ j : Nat, j ≤ n ∧ i = .int .i64 (j : Int) ∧ x = .int .i64 ((k + j : Nat) : Int) ∧ Hid (Wr wr B a n (msB f k j)) ∧ Hid (Kept (foot a n) w wr)) (fun _ i _ => n - (intOf i).toNat)
  case atStart => exact ⟨0, Nat.zero_le _, rfl, rfl, HS.out.congr (fun i _ => by simp [msB]), Kept.refl _ _⟩
  case round =>
    obtain ⟨j, hj, rfl, rfl, HW, HK⟩ := hrel
    by_cases hlt : j < n
    · obtain ⟨b, off, rfl, hB, hc, hz⟩ := HW.out j hlt
      have HM : ∀ q, markB (k + j) = q → Hid (Wr (wr.setCell ⟨b, off + j, none⟩ (.bool q)) B (some ⟨b, off, none⟩) n (msB f k (j + 1))) := fun q hq => by
        subst hq
        exact (HW.out.set j hlt (.bool (markB (k + j)))).congr (fun i _ => msB_succ f k j i)
      have HK2 : ∀ q, Hid (Kept (foot (some ⟨b, off, none⟩) n) w (wr.setCell ⟨b, off + j, none⟩ (.bool q))) := fun q =>
        (HK.out.trans (kept_set wr b (off + j) _)).mono (fun b2 _ h => by
          rcases h with h | h
          · exact h
          · subst h; exact ⟨by omega, off, rfl⟩)
      have H1 := HM _ (markB_at k j)
      have H2 := HK2 (((k : Int) + (j : Int)) % 3 == 0)
      clear HM HK2 HW HK
      go_wp2
      exact ⟨⟨j + 1, by omega, by go_num, by go_num, H1, H2⟩, by simp [intOf]; omega⟩
    · obtain rfl : j = n := by omega
      go_wp2
      go_ret
      exact ⟨rfl, HW.out.congr (fun i hi => by simp [msB, hi]), HK.out⟩

set_option maxRecDepth 100000 in
set_option maxHeartbeats 1000000 in
theorem heldBoolS (w : World) (a : Option Addr) (n cap k : Nat) (S : Sl w a n (fun i => .bool (markB (k + i)))) (hb : k + n ≤ 4611686018427387904) :
    Calls Tryz.prog 74 #[.slice a n cap, .int .i64 (k : Int)] w fun e w' => e = .returned (.int .i64 ((k + n : Nat) : Int)) ∧ Below w.heap.size w w' := by
  have HS := hid S
  clear S
  go_enter Tryz.func74, Tryz.ntmps74
  go_wp2
  go_loopw [1, 5] (fun x i wr => ∃ j : Nat, j ≤ n ∧ i = .int .i64 (j : Int) ∧ x = .int .i64 ((k + j : Nat) : Int) ∧ Hid (Below w.heap.size w wr)) (fun _ i _ => n - (intOf i).toNat)
  case atStart => exact ⟨0, Nat.zero_le _, rfl, rfl, Below.refl _ _⟩
  case round =>
    obtain ⟨j, hj, rfl, rfl, HB⟩ := hrel
    by_cases hlt : j < n
    · obtain ⟨b, off, rfl, hc⟩ := (HS.out.below HB.out) j hlt
      replace hc : wr.cell? ⟨b, off + j, none⟩ = some (.bool (markB (k + j))) := hc
      rw [markB_at] at hc
      cases hq : (((k : Int) + (j : Int)) % 3 == 0) with
      | true =>
        rw [hq] at hc
        go_wp2
        exact ⟨⟨j + 1, by omega, by go_num, by go_num, HB⟩, by simp [intOf]; omega⟩
      | false =>
        rw [hq] at hc
        go_wp2
        exact ⟨⟨j + 1, by omega, by go_num, by go_num, HB⟩, by simp [intOf]; omega⟩
    · obtain rfl : j = n := by omega
      go_wp2
      go_ret
      exact ⟨rfl, HB.out⟩

end Go.Proofs.YtlbfcnpnfoapnaaGreatDoor.Mem

namespace Go.Proofs.YtlbfcnpnfoapnaaGreatDoor.Pl
open Go.RowKit Go.Proofs.YtlbfcnpnfoapnaaGreatDoor.Mem
set_option linter.unusedVariables false

/-- Cells stored one behind the other. -/
def puts (w : World) (g : Nat) : Nat → List Value → World
  | _, [] => w
  | i, v :: vs => puts (w.setCell ⟨g, i, none⟩ v) g (i + 1) vs

def listed (xs : List Value) : Nat → List Value → List Value
  | _, [] => xs
  | i, v :: vs => listed (xs.set i v) (i + 1) vs

theorem puts_row {w : World} {g : Nat} {xs : List Value} (h : Row w g xs) (i : Nat) (vs : List Value) : Row (puts w g i vs) g (listed xs i vs) := by
  induction vs generalizing w xs i with
  | nil => exact h
  | cons v vs ih => exact ih (h.set i v) (i + 1)

theorem puts_other {w : World} {g b : Nat} {xs : List Value} (h : Row w b xs) (hb : b ≠ g) (i : Nat) (vs : List Value) : Row (puts w g i vs) b xs := by
  induction vs generalizing w i with
  | nil => exact h
  | cons v vs ih => exact ih (h.other (p := ⟨g, i, none⟩) hb v) (i + 1)

theorem puts_kept (w : World) (g i : Nat) (vs : List Value) : Kept (fun b => b = g) w (puts w g i vs) := by
  induction vs generalizing w i with
  | nil => exact Kept.refl _ _
  | cons v vs ih => exact ((kept_set w g i v).trans (ih (w.setCell ⟨g, i, none⟩ v) (i + 1))).mono (fun b _ h => by rcases h with h | h <;> exact h)

theorem puts_below {B : Nat} {w w' : World} {g : Nat} (h : Below B w w') (hg : B ≤ g) (i : Nat) (vs : List Value) : Below B w (puts w' g i vs) := by
  induction vs generalizing w' i with
  | nil => exact h
  | cons v vs ih => exact ih (below_set h g i v hg) (i + 1)

theorem puts_size (w : World) (g i : Nat) (vs : List Value) : (puts w g i vs).heap.size = w.heap.size := by
  induction vs generalizing w i with
  | nil => rfl
  | cons v vs ih => rw [puts, ih]; simp

theorem three_news (w : World) (xs ys zs : List Value) (t u : TypeId) :
    ∃ wc, ((w.alloc (.cells xs.toArray t)).alloc (.cells ys.toArray u)).alloc (.cells zs.toArray u) = wc ∧ wc.heap.size = w.heap.size + 1 + 1 + 1 ∧
      Row wc w.heap.size xs ∧ Row wc (w.heap.size + 1) ys ∧ Row wc (w.heap.size + 1 + 1) zs ∧ Below w.heap.size w wc := by
  have e0 : (w.alloc (.cells xs.toArray t)).heap.size = w.heap.size + 1 := by simp
  have e1 : ((w.alloc (.cells xs.toArray t)).alloc (.cells ys.toArray u)).heap.size = w.heap.size + 1 + 1 := by simp
  have r1 := Row.new (w.alloc (.cells xs.toArray t)) ys u
  have r2 := Row.new ((w.alloc (.cells xs.toArray t)).alloc (.cells ys.toArray u)) zs u
  rw [e0] at r1
  rw [e1] at r2
  exact ⟨_, rfl, by simp, ((Row.new w xs t).alloc _).alloc _, r1.alloc _, r2, (((Below.refl _ _).alloc (Nat.le_refl _) _).alloc (by omega) _).alloc (by omega) _⟩

end Go.Proofs.YtlbfcnpnfoapnaaGreatDoor.Pl

namespace Go.Proofs.YtlbfcnpnfoapnaaGreatDoor.Pl
open Go.RowKit Go.Proofs.YtlbfcnpnfoapnaaGreatDoor.Mem
set_option linter.unusedVariables false

/-- A volume without blocks: what it holds, and where its two lists lie. -/
structure Pv where
  on : Bool
  ha : Option Addr
  hc : Nat
  hs : List Bool
  ta : Option Addr
  tc : Nat
  ts : List ByteArray

def Pv.none : Pv := ⟨false, Option.none, 0, [], Option.none, 0, []⟩
def Pv.cells (x : Pv) : List Value := [.bool x.on, .slice x.ha x.hs.length x.hc, .slice x.ta x.ts.length x.tc]
def Pv.val (x : Pv) : Value := .agg #[.bool x.on, .slice x.ha x.hs.length x.hc, .slice x.ta x.ts.length x.tc]
/-- What it holds, wherever it lies. -/
def Pv.data (x : Pv) : Bool × List Bool × List ByteArray := (x.on, x.hs, x.ts)
def Pv.foot (x : Pv) (b : Nat) : Prop := Mem.foot x.ha x.hs.length b ∨ Mem.foot x.ta x.ts.length b
def Pv.apart (x y : Pv) : Prop := ∀ b, x.foot b → ¬ y.foot b

def pcell (L : List Pv) (i : Nat) : Value := (L.getD (i / 3) Pv.none).cells.getD (i % 3) undef

structure Pvs (w : World) (a : Option Addr) (L : List Pv) : Prop where
  row : Sl w a (L.length * 3) (pcell L)
  each : ∀ x ∈ L, Bls w x.ha x.hs ∧ Strs w x.ta x.ts

structure PvsW (w : World) (B : Nat) (a : Option Addr) (L : List Pv) : Prop where
  row : Wr w B a (L.length * 3) (pcell L)
  each : ∀ x ∈ L, BlsW w B x.ha x.hs ∧ StrsW w B x.ta x.ts
  own : ∀ x ∈ L, ∀ b, foot x.ha x.hs.length b → ¬ foot x.ta x.ts.length b
  two : L.Pairwise Pv.apart
  off : ∀ x ∈ L, ∀ b, x.foot b → ¬ foot a (L.length * 3) b

/-- A pool's value. -/
def plV (a : Option Addr) (n cap : Nat) : Value := .agg #[.slice a n cap]

theorem PvsW.r {w : World} {B : Nat} {a : Option Addr} {L : List Pv} (h : PvsW w B a L) : Pvs w a L := ⟨h.row.sl, fun x hx => ⟨(h.each x hx).1.sl, (h.each x hx).2.sl⟩⟩
theorem Pvs.below {w w' : World} {a : Option Addr} {L : List Pv} (h : Pvs w a L) (k : Below w.heap.size w w') : Pvs w' a L := ⟨h.row.below k, fun x hx => ⟨Sl.below (h.each x hx).1 k, Sl.below (h.each x hx).2 k⟩⟩
theorem PvsW.below {w w' : World} {B : Nat} {a : Option Addr} {L : List Pv} (h : PvsW w B a L) (k : Below w.heap.size w w') : PvsW w' B a L := ⟨h.row.below k, fun x hx => ⟨Wr.below (h.each x hx).1 k, Wr.below (h.each x hx).2 k⟩, h.own, h.two, h.off⟩
theorem PvsW.mono {w : World} {B B' : Nat} {a : Option Addr} {L : List Pv} (h : PvsW w B a L) (hb : B' ≤ B) : PvsW w B' a L := ⟨h.row.mono hb, fun x hx => ⟨Wr.mono (h.each x hx).1 hb, Wr.mono (h.each x hx).2 hb⟩, h.own, h.two, h.off⟩
theorem PvsW.foot_ge {w : World} {B : Nat} {a : Option Addr} {L : List Pv} (h : PvsW w B a L) {x : Pv} (hx : x ∈ L) {b : Nat} (hb : x.foot b) : B ≤ b := by
  rcases hb with hb | hb
  · exact Wr.foot_ge (h.each x hx).1 hb
  · exact Wr.foot_ge (h.each x hx).2 hb
/-- What lies in blocks from B on stands where only blocks below B turn. -/
theorem PvsW.kept {S : Nat → Prop} {w w' : World} {B : Nat} {a : Option Addr} {L : List Pv} (h : PvsW w B a L) (k : Kept S w w') (hn : ∀ b, B ≤ b → ¬ S b) : PvsW w' B a L :=
  ⟨h.row.move k (fun b hb => hn b (h.row.foot_ge hb)), fun x hx => ⟨Wr.move (h.each x hx).1 k (fun b hb => hn b (Wr.foot_ge (h.each x hx).1 hb)), Wr.move (h.each x hx).2 k (fun b hb => hn b (Wr.foot_ge (h.each x hx).2 hb))⟩, h.own, h.two, h.off⟩

theorem pcell_at (L : List Pv) (k j : Nat) (hj : j < 3) : pcell L (k * 3 + j) = (L.getD k Pv.none).cells.getD j undef := by
  unfold pcell
  rw [show (k * 3 + j) / 3 = k by omega, show (k * 3 + j) % 3 = j by omega]

theorem Pvs.at_ {w : World} {a : Option Addr} {L : List Pv} (h : Pvs w a L) (k : Nat) (hk : k < L.length) : ∃ b off, a = some ⟨b, off, none⟩ ∧
    w.cell? ⟨b, off + k * 3, none⟩ = some (.bool (L.getD k Pv.none).on) ∧ w.cell? ⟨b, off + k * 3 + 1, none⟩ = some (.slice (L.getD k Pv.none).ha (L.getD k Pv.none).hs.length (L.getD k Pv.none).hc) ∧ w.cell? ⟨b, off + k * 3 + 2, none⟩ = some (.slice (L.getD k Pv.none).ta (L.getD k Pv.none).ts.length (L.getD k Pv.none).tc) ∧ Bls w (L.getD k Pv.none).ha (L.getD k Pv.none).hs ∧ Strs w (L.getD k Pv.none).ta (L.getD k Pv.none).ts := by
  obtain ⟨b, off, rfl, h0⟩ := h.row (k * 3 + 0) (by omega)
  obtain ⟨b1, off1, e1, h1⟩ := h.row (k * 3 + 1) (by omega)
  cases e1
  obtain ⟨b2, off2, e2, h2⟩ := h.row (k * 3 + 2) (by omega)
  cases e2
  rw [pcell_at L k _ (by omega)] at h0 h1 h2
  exact ⟨b, off, rfl, h0, by rw [Nat.add_assoc]; exact h1, by rw [Nat.add_assoc]; exact h2, h.each _ (by simp [List.getD, hk])⟩

/-- At most n of each. -/
def Pv.Upto (n : Int) (x : Pv) : Prop := (x.hs.length : Int) ≤ n ∧ (x.ts.length : Int) ≤ n ∧ ∀ s ∈ x.ts, (s.size : Int) ≤ n
theorem Pv.Upto.mono {n m : Int} {x : Pv} (h : x.Upto n) (hm : n ≤ m) : x.Upto m := ⟨Int.le_trans h.1 hm, Int.le_trans h.2.1 hm, fun s hs => Int.le_trans (h.2.2 s hs) hm⟩

/-- What is left: a number below 0, or one not above what was, and all fits. -/
def FitPv (r left : Int) (L : List Pv) : Prop := r < 0 ∨ (0 ≤ r ∧ r ≤ left ∧ (L.length : Int) ≤ left ∧ ∀ x ∈ L, x.Upto left)

set_option maxRecDepth 100000 in
set_option maxHeartbeats 1000000 in
theorem eqPVol (w : World) (x y : Pv) (S : Bls w x.ha x.hs ∧ Strs w x.ta x.ts) (T : Bls w y.ha y.hs ∧ Strs w y.ta y.ts) (hd : x.data = y.data) (hx : x.Upto maxLen) :
    Calls Tryz.prog 72 #[x.val, y.val] w fun r w' => r = .returned (.bool true) ∧ Below w.heap.size w w' := by
  obtain ⟨on, ha, hc, hs, ta, tc, ts⟩ := x
  obtain ⟨on', ha', hc', hs', ta', tc', ts'⟩ := y
  simp only [Pv.data, Prod.mk.injEq] at hd
  obtain ⟨rfl, rfl, rfl⟩ := hd
  unfold Pv.val
  simp only [] at S T ⊢
  have h3 : hs.length ≤ maxLen := by have := hx.1; simp only [] at this; omega
  have h4 : ts.length ≤ maxLen := by have := hx.2.1; simp only [] at this; omega
  have HS := hid S
  have HT := hid T
  have H3 := hid h3
  have H4 := hid h4
  clear S T hx h3 h4
  obtain ⟨wa, hwa, ez, A0, C0, B0⟩ := two_new w [.bool on, .slice ha hs.length hc, .slice ta ts.length tc] [.bool on, .slice ha' hs.length hc', .slice ta' ts.length tc'] 65 65
  have k0 := A0.c 0 rfl
  have k1 := A0.c 1 rfl
  have j0 := C0.c 0 rfl
  have j1 := C0.c 1 rfl
  have HA := hid A0
  have HC := hid C0
  have HB := hid B0
  clear A0 B0 C0
  go_enter Tryz.func72, Tryz.ntmps72
  go_wp2_with fail
  refine (eqBoolS wa ha ha' hc hc' hs hs (HS.out.1.below HB.out) (HT.out.1.below HB.out) H3.out rfl).mono ?_
  rintro r w1 ⟨rfl, b1⟩
  have k2 := (HA.out.below b1 HA.out.lt).c 2 rfl
  have j2 := (HC.out.below b1 HC.out.lt).c 2 rfl
  have HB1 := hid (HB.out.trans (b1.mono HB.out.size))
  clear b1 hwa k0 k1 j0 j1
  go_wp2_with fail
  refine (eqStringS w1 ta ta' tc tc' ts ts (HS.out.2.below HB1.out) (HT.out.2.below HB1.out) H4.out H4.out).mono ?_
  rintro r w2 ⟨rfl, b2⟩
  have HB2 := hid (HB1.out.trans (b2.mono HB1.out.size))
  rw [decide_eq_true rfl]
  clear b2
  go_wp2
  go_ret
  exact ⟨rfl, HB2.out⟩

set_option maxRecDepth 100000 in
set_option maxHeartbeats 1000000 in
theorem eqPVolS (w : World) (a b : Option Addr) (ca cb : Nat) (L M : List Pv) (S : Pvs w a L) (T : Pvs w b M) (hd : L.map Pv.data = M.map Pv.data) (hl : L.length ≤ maxLen) (he : ∀ x ∈ L, x.Upto maxLen) :
    Calls Tryz.prog 47 #[.slice a L.length ca, .slice b M.length cb] w fun e w' => e = .returned (.bool true) ∧ Below w.heap.size w w' := by
  have hlm : L.length = M.length := by have := congrArg List.length hd; simpa using this
  rw [← hlm]
  unfold maxLen at hl
  have HS := hid S
  have HT := hid T
  have HE : Hid (∀ k, k < L.length → (L.getD k Pv.none).data = (M.getD k Pv.none).data ∧ (L.getD k Pv.none).Upto maxLen) := fun k hk => by
    have h1 : (L.map Pv.data)[k]? = (M.map Pv.data)[k]? := by rw [hd]
    have hk2 : k < M.length := by omega
    simp only [List.getElem?_map, List.getElem?_eq_getElem hk, List.getElem?_eq_getElem hk2, Option.map_some, Option.some.injEq] at h1
    simp only [List.getD, List.getElem?_eq_getElem hk, List.getElem?_eq_getElem hk2, Option.getD_some]
    exact ⟨h1, he _ (List.getElem_mem hk)⟩
  have HL := hid hlm
  clear S T hd he hlm
  go_enter Tryz.func47, Tryz.ntmps47
  go_wp2
  go_loopw [5] (fun i wr => ∃ k : Nat, k ≤ L.length ∧ i = .int .i64 (k : Int) ∧ Hid (Below w.heap.size w wr)) (fun i _ => L.length - (intOf i).toNat)
  case atStart => exact ⟨0, Nat.zero_le _, rfl, Below.refl _ _⟩
  case round =>
    obtain ⟨k, hk, rfl, HB⟩ := hrel
    by_cases hlt : k < L.length
    · obtain ⟨b1, o1, rfl, c0, c1, c2, i1, i2⟩ := Pvs.at_ (HS.out.below HB.out) k hlt
      obtain ⟨b2, o2, rfl, d0, d1, d2, j1, j2⟩ := Pvs.at_ (HT.out.below HB.out) k (by have := HL.out; omega)
      obtain ⟨hx, hm⟩ := HE.out k hlt
      generalize L.getD k Pv.none = x at c0 c1 c2 i1 i2 hx hm
      generalize M.getD k Pv.none = y at d0 d1 d2 j1 j2 hx
      have HI1 := hid i1
      have HI2 := hid i2
      have HJ1 := hid j1
      have HJ2 := hid j2
      have HM := hid hm
      have HX := hid hx
      have hne : Nonempty (BW wr) := ⟨⟨wr, Below.refl _ _⟩⟩
      replace c0 := BW.cell c0
      replace c1 := BW.cell c1
      replace c2 := BW.cell c2
      replace d0 := BW.cell d0
      replace d1 := BW.cell d1
      replace d2 := BW.cell d2
      clear i1 i2 j1 j2 hm hx
      go_wp2
      refine wp_region_bw (by kernel_rfl) (by kernel_rfl) ?_
      repeat (go_big_quiet_step (first
        | (go_at_call 72; refine bw_below (eqPVol _ x y ⟨Sl.below HI1.out (BW.bel _), Sl.below HI2.out (BW.bel _)⟩ ⟨Sl.below HJ1.out (BW.bel _), Sl.below HJ2.out (BW.bel _)⟩ HX.out HM.out))))
      refine wpQuiet_nil ?_
      intro _ hw'
      obtain ⟨u, rfl⟩ := hw'
      have HU := hid (HB.out.trans (u.bel.mono HB.out.size))
      clear c0 c1 c2 d0 d1 d2
      go_wp2
      exact ⟨⟨k + 1, by omega, by go_num, HU⟩, by simp [intOf]; omega⟩
    · obtain rfl : k = L.length := by omega
      go_wp2
      go_ret
      exact ⟨rfl, HB.out⟩

set_option maxRecDepth 100000 in
set_option maxHeartbeats 1000000 in
theorem eqPool (w : World) (a b : Option Addr) (ca cb : Nat) (L M : List Pv) (S : Pvs w a L) (T : Pvs w b M) (hd : L.map Pv.data = M.map Pv.data) (hl : L.length ≤ maxLen) (he : ∀ x ∈ L, x.Upto maxLen) :
    Calls Tryz.prog 20 #[plV a L.length ca, plV b M.length cb] w fun e w' => e = .returned (.bool true) ∧ Below w.heap.size w w' := by
  unfold plV
  have HS := hid S
  have HT := hid T
  have HD := hid hd
  have HL := hid hl
  have HE := hid he
  clear S T hd hl he
  obtain ⟨wa, hwa, ez, A0, C0, B0⟩ := two_new w [.slice a L.length ca] [.slice b M.length cb] 33 33
  have k0 := A0.c 0 rfl
  have j0 := C0.c 0 rfl
  have HB := hid B0
  clear A0 B0 C0
  go_enter Tryz.func20, Tryz.ntmps20
  go_wp2_with fail
  refine (eqPVolS wa a b ca cb L M (HS.out.below HB.out) (HT.out.below HB.out) HD.out HL.out HE.out).mono ?_
  rintro r w1 ⟨rfl, b1⟩
  have HB1 := hid (HB.out.trans (b1.mono HB.out.size))
  clear b1 hwa k0 j0
  go_wp2
  go_ret
  exact ⟨rfl, HB1.out⟩

end Go.Proofs.YtlbfcnpnfoapnaaGreatDoor.Pl

namespace Go.Proofs.YtlbfcnpnfoapnaaGreatDoor.Pl
open Go.RowKit Go.Proofs.YtlbfcnpnfoapnaaGreatDoor.Mem
set_option linter.unusedVariables false

theorem foot_new {g n b : Nat} (h : foot (some ⟨g, 0, none⟩) n b) : b = g := by
  obtain ⟨_, off, e⟩ := h
  injection e with e
  injection e with e1
  exact e1.symm

theorem infoPv : (Tryz.prog.info? 65).map (fun i => (i.zero, i.size, i.bytes)) = some (some (.agg #[.bool false, .slice none 0 0, .slice none 0 0]), 3, 56) := by kernel_rfl

/-- The cells of the new row behind k rounds. -/
def partPv (L : List Pv) (i : Nat) : Value := if i < L.length * 3 then pcell L i else Pv.none.cells.getD (i % 3) undef

theorem setPv {w : World} {B b : Nat} {m : Nat} {f : Nat → Value} (h : Wr w B (some ⟨b, 0, none⟩) m f) (k : Nat) (hk : k * 3 + 3 ≤ m) (v0 v1 v2 : Value) :
    Wr (((w.setCell ⟨b, k * 3, none⟩ v0).setCell ⟨b, k * 3 + 1, none⟩ v1).setCell ⟨b, k * 3 + 2, none⟩ v2) B (some ⟨b, 0, none⟩) m (fun j => if j / 3 = k then [v0, v1, v2].getD (j % 3) undef else f j) := by
  have h0 := h.set (k * 3) (by omega) v0
  have h1 := h0.set (k * 3 + 1) (by omega) v1
  have h2 := h1.set (k * 3 + 2) (by omega) v2
  simp only [Nat.zero_add] at h2
  refine h2.congr (fun j _ => ?_)
  by_cases hj : j / 3 = k
  · have : j = k * 3 ∨ j = k * 3 + 1 ∨ j = k * 3 + 2 := by omega
    rcases this with rfl | rfl | rfl
    · rw [if_neg (by omega), if_neg (by omega), if_pos rfl, if_pos (by omega), show k * 3 % 3 = 0 by omega]; rfl
    · rw [if_neg (by omega), if_pos rfl, if_pos (by omega), show (k * 3 + 1) % 3 = 1 by omega]; rfl
    · rw [if_pos rfl, if_pos (by omega), show (k * 3 + 2) % 3 = 2 by omega]; rfl
  · rw [if_neg (by omega), if_neg (by omega), if_neg (by omega), if_neg hj]

theorem partPv_succ (L : List Pv) (x : Pv) (j : Nat) : (if j / 3 = L.length then x.cells.getD (j % 3) undef else partPv L j) = partPv (L ++ [x]) j := by
  unfold partPv pcell
  simp only [List.length_append, List.length_cons, List.length_nil]
  by_cases h : j / 3 = L.length
  · rw [if_pos h, if_pos (by omega), h]
    simp [List.getD]
  · by_cases h2 : j < L.length * 3
    · have h3 : j / 3 < L.length := by omega
      rw [if_neg h, if_pos h2, if_pos (by omega)]
      simp [List.getD, List.getElem?_append_left h3]
    · rw [if_neg h, if_neg h2, if_neg (by omega)]

theorem wr_Pv {w : World} {B b : Nat} {m : Nat} {f : Nat → Value} (h : Wr w B (some ⟨b, 0, none⟩) m f) (k : Nat) (hk : k * 3 + 3 ≤ m) :
    (∃ v, w.cell? ⟨b, k * 3, none⟩ = some v) ∧ (∃ v, w.cell? ⟨b, k * 3 + 1, none⟩ = some v) ∧ (∃ v, w.cell? ⟨b, k * 3 + 2, none⟩ = some v) ∧ w.frozen? ⟨b, k * 3, none⟩ = false ∧ w.frozen? ⟨b, k * 3 + 1, none⟩ = false ∧ w.frozen? ⟨b, k * 3 + 2, none⟩ = false := by
  obtain ⟨_, _, e0, _, h0, z0⟩ := h (k * 3) (by omega)
  obtain ⟨_, _, e1, _, h1, z1⟩ := h (k * 3 + 1) (by omega)
  obtain ⟨_, _, e2, _, h2, z2⟩ := h (k * 3 + 2) (by omega)
  cases e0
  cases e1
  cases e2
  rw [Nat.zero_add] at h0 h1 h2 z0 z1 z2
  exact ⟨⟨_, h0⟩, ⟨_, h1⟩, ⟨_, h2⟩, z0, z1, z2⟩

theorem kept_Pv (w : World) (b k : Nat) (v0 v1 v2 : Value) : Kept (fun x => x = b) w (((w.setCell ⟨b, k * 3, none⟩ v0).setCell ⟨b, k * 3 + 1, none⟩ v1).setCell ⟨b, k * 3 + 2, none⟩ v2) := ((((kept_set _ _ _ _).trans (kept_set _ _ _ _)).trans (kept_set _ _ _ _))).mono (fun b _ h => by rcases h with (h | h) | h <;> exact h)

/-- What has been laid so far, in blocks from C on and below D. -/
structure PvLaid (w : World) (C : Nat) (M : List Pv) : Prop where
  each : ∀ x ∈ M, BlsW w C x.ha x.hs ∧ StrsW w C x.ta x.ts
  own : ∀ x ∈ M, ∀ b, foot x.ha x.hs.length b → ¬ foot x.ta x.ts.length b
  two : M.Pairwise Pv.apart

theorem PvLaid.below {w w' : World} {C : Nat} {M : List Pv} (h : PvLaid w C M) (k : Below w.heap.size w w') : PvLaid w' C M :=
  ⟨fun x hx => ⟨Wr.below (h.each x hx).1 k, Wr.below (h.each x hx).2 k⟩, h.own, h.two⟩
theorem PvLaid.kept {S : Nat → Prop} {w w' : World} {C : Nat} {M : List Pv} (h : PvLaid w C M) (k : Kept S w w') (hn : ∀ b, C ≤ b → ¬ S b) : PvLaid w' C M :=
  ⟨fun x hx => ⟨Wr.move (h.each x hx).1 k (fun b hb => hn b (Wr.foot_ge (h.each x hx).1 hb)), Wr.move (h.each x hx).2 k (fun b hb => hn b (Wr.foot_ge (h.each x hx).2 hb))⟩, h.own, h.two⟩
theorem PvLaid.foot_lt {w : World} {C : Nat} {M : List Pv} (h : PvLaid w C M) {x : Pv} (hx : x ∈ M) {b : Nat} (hb : x.foot b) : C ≤ b ∧ b < w.heap.size := by
  rcases hb with hb | hb
  · exact ⟨Wr.foot_ge (h.each x hx).1 hb, Sl.lt (h.each x hx).1.sl hb⟩
  · exact ⟨Wr.foot_ge (h.each x hx).2 hb, Sl.lt (h.each x hx).2.sl hb⟩
/-- One more, whose lists lie in blocks that are new. -/
theorem PvLaid.more {w w' : World} {C : Nat} {M : List Pv} {x : Pv} (h : PvLaid w C M) (hC : C ≤ w.heap.size) (k : Below w.heap.size w w') (h1 : BlsW w' w.heap.size x.ha x.hs) (h2 : StrsW w' w.heap.size x.ta x.ts) (ho : ∀ b, foot x.ha x.hs.length b → ¬ foot x.ta x.ts.length b) : PvLaid w' C (M ++ [x]) := by
  have hk := h.below k
  refine ⟨fun y hy => ?_, fun y hy => ?_, ?_⟩
  · rcases List.mem_append.1 hy with hy | hy
    · exact hk.each y hy
    · obtain rfl : y = x := by simpa using hy
      exact ⟨Wr.mono h1 hC, Wr.mono h2 hC⟩
  · rcases List.mem_append.1 hy with hy | hy
    · exact hk.own y hy
    · obtain rfl : y = x := by simpa using hy
      exact ho
  · refine List.pairwise_append.2 ⟨h.two, List.pairwise_singleton _ _, fun y hy z hz b hb hb' => ?_⟩
    obtain rfl : z = x := by simpa using hz
    have hlt := (h.foot_lt hy hb).2
    rcases hb' with hb' | hb'
    · have := Wr.foot_ge h1 hb'; omega
    · have := Wr.foot_ge h2 hb'; omega

end Go.Proofs.YtlbfcnpnfoapnaaGreatDoor.Pl

namespace Go.Proofs.YtlbfcnpnfoapnaaGreatDoor.Pl
open Go.RowKit Go.Proofs.YtlbfcnpnfoapnaaGreatDoor.Mem
set_option linter.unusedVariables false

/-- What a volume is behind marks from k on. -/
def mkPv (x : Pv) (k : Nat) : Pv := ⟨markB k, x.ha, x.hc, (List.range x.hs.length).map (fun i => markB (k + 1 + i)), x.ta, x.tc, (List.range x.ts.length).map (fun i => markS (k + 1 + x.hs.length + i))⟩
def Pv.sz (x : Pv) : Nat := 1 + x.hs.length + x.ts.length
def marksPv : List Pv → Nat → List Pv
  | [], _ => []
  | x :: L, k => mkPv x k :: marksPv L (k + x.sz)
def totPv : List Pv → Nat
  | [] => 0
  | x :: L => x.sz + totPv L

theorem marksPv_length (L : List Pv) (k : Nat) : (marksPv L k).length = L.length := by
  induction L generalizing k with
  | nil => rfl
  | cons x L ih => simp [marksPv, ih]
theorem totPv_append (P Q : List Pv) : totPv (P ++ Q) = totPv P + totPv Q := by
  induction P with
  | nil => simp [totPv]
  | cons x P ih => simp [totPv, ih]; omega
theorem marksPv_append (P Q : List Pv) (k : Nat) : marksPv (P ++ Q) k = marksPv P k ++ marksPv Q (k + totPv P) := by
  induction P generalizing k with
  | nil => simp [marksPv, totPv]
  | cons x P ih => simp only [List.cons_append, marksPv, ih, totPv]; rw [show k + x.sz + totPv P = k + (x.sz + totPv P) by omega]

/-- The blocks of a pool. -/
def pfoot (a : Option Addr) (L : List Pv) (b : Nat) : Prop := foot a (L.length * 3) b ∨ ∃ x ∈ L, x.foot b

theorem PvsW.pfoot_ge {w : World} {B : Nat} {a : Option Addr} {L : List Pv} (h : PvsW w B a L) {b : Nat} (hb : pfoot a L b) : B ≤ b ∧ b < w.heap.size := by
  rcases hb with hb | ⟨x, hx, hb | hb⟩
  · exact ⟨h.row.foot_ge hb, h.row.sl.lt hb⟩
  · exact ⟨Wr.foot_ge (h.each x hx).1 hb, Sl.lt (h.each x hx).1.sl hb⟩
  · exact ⟨Wr.foot_ge (h.each x hx).2 hb, Sl.lt (h.each x hx).2.sl hb⟩

theorem getD_mid (P Q : List Pv) (x : Pv) : (P ++ x :: Q).getD P.length Pv.none = x := by simp [List.getD]

theorem pcell_mid (P Q : List Pv) (x y : Pv) (i : Nat) (h : i / 3 ≠ P.length) : pcell (P ++ x :: Q) i = pcell (P ++ y :: Q) i := by
  unfold pcell
  have : (P ++ x :: Q).getD (i / 3) Pv.none = (P ++ y :: Q).getD (i / 3) Pv.none := by
    simp only [List.getD, List.getElem?_append, List.getElem?_cons]
    by_cases h1 : i / 3 < P.length
    · simp [h1]
    · have h2 : ¬ i / 3 - P.length = 0 := by omega
      simp [h1, h2]
  rw [this]

theorem pcell_here (P Q : List Pv) (x : Pv) (j : Nat) (hj : j < 3) : pcell (P ++ x :: Q) (P.length * 3 + j) = x.cells.getD j undef := by
  rw [pcell_at _ _ _ hj, getD_mid]

theorem PvsW.turn {S : Nat → Prop} {w w' : World} {B : Nat} {a : Option Addr} {P Q : List Pv} {x y : Pv} (h : PvsW w B a (P ++ x :: Q)) (e1 : y.ha = x.ha) (e2 : y.hs.length = x.hs.length) (e3 : y.ta = x.ta) (e4 : y.ts.length = x.ts.length)
    (row : Wr w' B a ((P ++ x :: Q).length * 3) (pcell (P ++ y :: Q))) (k : Kept S w w') (hS : ∀ b, S b → x.foot b ∨ foot a ((P ++ x :: Q).length * 3) b) (h1 : BlsW w' B y.ha y.hs) (h2 : StrsW w' B y.ta y.ts) : PvsW w' B a (P ++ y :: Q) := by
  have hlen : (P ++ y :: Q).length = (P ++ x :: Q).length := by simp
  have hf : y.foot = x.foot := by funext b; unfold Pv.foot; rw [e1, e2, e3, e4]
  have htwo := List.pairwise_append.1 h.two
  have htwo2 := List.pairwise_cons.1 htwo.2.1
  have hother : ∀ z, z ∈ P ∨ z ∈ Q → BlsW w' B z.ha z.hs ∧ StrsW w' B z.ta z.ts := fun z hz => by
    have hzm : z ∈ P ++ x :: Q := by rcases hz with hz | hz <;> simp [hz]
    have hn : ∀ b, z.foot b → ¬ S b := fun b hb hs => by
      rcases hS b hs with hx | hx
      · rcases hz with hz | hz
        · exact htwo.2.2 z hz x (by simp) b hb hx
        · exact htwo2.1 z hz b hx hb
      · exact h.off z hzm b hb hx
    exact ⟨Wr.move (h.each z hzm).1 k (fun b hb => hn b (Or.inl hb)), Wr.move (h.each z hzm).2 k (fun b hb => hn b (Or.inr hb))⟩
  refine ⟨by rw [hlen]; exact row, fun z hz => ?_, fun z hz => ?_, ?_, fun z hz b hb => ?_⟩
  · rcases List.mem_append.1 hz with hz | hz
    · exact hother z (Or.inl hz)
    · rcases List.mem_cons.1 hz with rfl | hz
      · exact ⟨h1, h2⟩
      · exact hother z (Or.inr hz)
  · rcases List.mem_append.1 hz with hz | hz
    · exact h.own z (by simp [hz])
    · rcases List.mem_cons.1 hz with rfl | hz
      · rw [e1, e2, e3, e4]; exact h.own x (by simp)
      · exact h.own z (by simp [hz])
  · refine List.pairwise_append.2 ⟨htwo.1, List.pairwise_cons.2 ⟨fun z hz b hb => htwo2.1 z hz b (hf ▸ hb), htwo2.2⟩, fun z hz u hu b hb hb' => ?_⟩
    rcases List.mem_cons.1 hu with rfl | hu
    · exact htwo.2.2 z hz x (by simp) b hb (hf ▸ hb')
    · exact htwo.2.2 z hz u (by simp [hu]) b hb hb'
  · rw [hlen]
    rcases List.mem_append.1 hz with hz | hz
    · exact h.off z (by simp [hz]) b hb
    · rcases List.mem_cons.1 hz with rfl | hz
      · exact h.off x (by simp) b (hf ▸ hb)
      · exact h.off z (by simp [hz]) b hb

/-- The flag is stored. -/
theorem PvsW.setOn {w : World} {B b off : Nat} {P Q : List Pv} {x : Pv} (h : PvsW w B (some ⟨b, off, none⟩) (P ++ x :: Q)) (q : Bool) :
    PvsW (w.setCell ⟨b, off + P.length * 3, none⟩ (.bool q)) B (some ⟨b, off, none⟩) (P ++ { x with on := q } :: Q) := by
  have hlen : P.length * 3 < (P ++ x :: Q).length * 3 := by rw [List.length_append, List.length_cons]; omega
  have hk := kept_set w b (off + P.length * 3) (.bool q)
  have hn : ∀ c, x.foot c → ¬ c = b := fun c hc e => by
    subst e
    exact h.off x (by simp) c hc ⟨by omega, off, rfl⟩
  refine h.turn (y := { x with on := q }) rfl rfl rfl rfl ?_ hk (fun c hc => Or.inr (by subst hc; exact ⟨by omega, off, rfl⟩)) (Wr.move (h.each x (by simp)).1 hk (fun c hc => hn c (Or.inl hc))) (Wr.move (h.each x (by simp)).2 hk (fun c hc => hn c (Or.inr hc)))
  refine (h.row.set (P.length * 3) hlen (.bool q)).congr (fun j _ => ?_)
  by_cases hj : j / 3 = P.length
  · have : j = P.length * 3 ∨ j = P.length * 3 + 1 ∨ j = P.length * 3 + 2 := by omega
    rcases this with rfl | rfl | rfl
    · rw [if_pos rfl]; exact (pcell_here P Q { x with on := q } 0 (by omega)).symm
    · rw [if_neg (by omega), pcell_here P Q _ 1 (by omega), pcell_here P Q _ 1 (by omega)]; rfl
    · rw [if_neg (by omega), pcell_here P Q _ 2 (by omega), pcell_here P Q _ 2 (by omega)]; rfl
  · rw [if_neg (by omega)]; exact pcell_mid P Q _ _ j hj

/-- The flags' list is written over. -/
theorem PvsW.setHas {w w' : World} {B : Nat} {a : Option Addr} {P Q : List Pv} {x : Pv} (h : PvsW w B a (P ++ x :: Q)) (k : Kept (foot x.ha x.hs.length) w w') (l : List Bool) (hl : l.length = x.hs.length) (h1 : BlsW w' B x.ha l) : PvsW w' B a (P ++ { x with hs := l } :: Q) := by
  have hx : x ∈ P ++ x :: Q := by simp
  refine h.turn (y := { x with hs := l }) rfl hl rfl rfl ?_ k (fun b hb => Or.inl (Or.inl hb)) h1 (Wr.move (h.each x hx).2 k (fun b hb hb' => h.own x hx b hb' hb))
  refine (h.row.move k (fun b hb hb' => h.off x hx b (Or.inl hb') hb)).congr (fun j _ => ?_)
  by_cases hj : j / 3 = P.length
  · have : j = P.length * 3 + 0 ∨ j = P.length * 3 + 1 ∨ j = P.length * 3 + 2 := by omega
    rcases this with rfl | rfl | rfl
    · rw [pcell_here P Q _ 0 (by omega), pcell_here P Q _ 0 (by omega)]; rfl
    · rw [pcell_here P Q _ 1 (by omega), pcell_here P Q _ 1 (by omega)]; show _ = Value.slice x.ha l.length x.hc; rw [hl]; rfl
    · rw [pcell_here P Q _ 2 (by omega), pcell_here P Q _ 2 (by omega)]; rfl
  · exact pcell_mid P Q _ _ j hj

/-- The texts' list is written over. -/
theorem PvsW.setTexts {w w' : World} {B : Nat} {a : Option Addr} {P Q : List Pv} {x : Pv} (h : PvsW w B a (P ++ x :: Q)) (k : Kept (foot x.ta x.ts.length) w w') (l : List ByteArray) (hl : l.length = x.ts.length) (h1 : StrsW w' B x.ta l) : PvsW w' B a (P ++ { x with ts := l } :: Q) := by
  have hx : x ∈ P ++ x :: Q := by simp
  refine h.turn (y := { x with ts := l }) rfl rfl rfl hl ?_ k (fun b hb => Or.inl (Or.inr hb)) (Wr.move (h.each x hx).1 k (fun b hb hb' => h.own x hx b hb hb')) h1
  refine (h.row.move k (fun b hb hb' => h.off x hx b (Or.inr hb') hb)).congr (fun j _ => ?_)
  by_cases hj : j / 3 = P.length
  · have : j = P.length * 3 + 0 ∨ j = P.length * 3 + 1 ∨ j = P.length * 3 + 2 := by omega
    rcases this with rfl | rfl | rfl
    · rw [pcell_here P Q _ 0 (by omega), pcell_here P Q _ 0 (by omega)]; rfl
    · rw [pcell_here P Q _ 1 (by omega), pcell_here P Q _ 1 (by omega)]; rfl
    · rw [pcell_here P Q _ 2 (by omega), pcell_here P Q _ 2 (by omega)]; show _ = Value.slice x.ta l.length x.tc; rw [hl]; rfl
  · exact pcell_mid P Q _ _ j hj

theorem strs_marks {w : World} {B : Nat} {a : Option Addr} {n k : Nat} (h : Wr w B a n (fun i => .string (markS (k + i)))) : StrsW w B a ((List.range n).map (fun i => markS (k + i))) := by
  unfold StrsW
  rw [List.length_map, List.length_range]
  exact h.congr (fun i hi => by simp [List.getD, hi])
theorem bls_marks {w : World} {B : Nat} {a : Option Addr} {n k : Nat} (h : Wr w B a n (fun i => .bool (markB (k + i)))) : BlsW w B a ((List.range n).map (fun i => markB (k + i))) := by
  unfold BlsW
  rw [List.length_map, List.length_range]
  exact h.congr (fun i hi => by simp [List.getD, hi])

theorem foot_marks (P Q : List Pv) (x : Pv) (k : Nat) (a : Option Addr) : foot a ((marksPv P k ++ x :: Q).length * 3) = foot a ((P ++ x :: Q).length * 3) := by
  simp [marksPv_length]

set_option maxRecDepth 100000 in
set_option maxHeartbeats 2000000 in
theorem markPVolS (w : World) (B : Nat) (a : Option Addr) (cap k : Nat) (L : List Pv) (S : PvsW w B a L) (hk : 0 < k) (hb : k + totPv L ≤ 4611686018427387904) (hl : L.length ≤ 1048576) :
    Calls Tryz.prog 48 #[.slice a L.length cap, .int .i64 (k : Int)] w fun e w' => e = .returned (.int .i64 ((k + totPv L : Nat) : Int)) ∧ PvsW w' B a (marksPv L k) ∧ Kept (pfoot a L) w w' := by
  have HS := hid S
  have HT := hid hb
  clear S hb
  go_enter Tryz.func48, Tryz.ntmps48
  go_wp2
  go_loopw [1, 5] (fun x i wr => ∃ (P Q : List Pv) (n m : Nat), n ≤ L.length ∧ i = .int .i64 (n : Int) ∧ x = .int .i64 (m : Int) ∧ Hid (L = P ++ Q) ∧ Hid (P.length = n) ∧ Hid (m = k + totPv P) ∧ Hid (PvsW wr B a (marksPv P k ++ Q)) ∧ Hid (Kept (pfoot a L) w wr)) (fun _ i _ => L.length - (intOf i).toNat)
  case atStart => exact ⟨[], L, 0, k, Nat.zero_le _, rfl, rfl, rfl, rfl, rfl, HS, Kept.refl _ _⟩
  case round =>
    obtain ⟨P, Q, n, m, hn, rfl, rfl, HL, HN, HM, HW, HK⟩ := hrel
    by_cases hlt : n < L.length
    · obtain ⟨x, Q', HQ⟩ : ∃ x Q', Hid (Q = x :: Q') := by
        cases Q with
        | nil =>
          have h1 := congrArg List.length HL.out
          rw [List.append_nil] at h1
          have h2 := HN.out
          omega
        | cons x Q' => exact ⟨x, Q', rfl⟩
      have hq := HQ.out
      subst hq
      have hpl : (marksPv P k).length = n := by rw [marksPv_length]; exact HN.out
      have hlt2 : n < (marksPv P k ++ x :: Q').length := by rw [List.length_append, hpl]; simp
      have hmt : m + x.sz ≤ 4611686018427387904 := by
        have h1 := HT.out
        rw [HL.out, totPv_append] at h1
        have h2 := HM.out
        simp only [totPv] at h1
        omega
      have hsz : x.sz = 1 + x.hs.length + x.ts.length := rfl
      have hxm : ∀ b, x.foot b → pfoot a L b := fun b hb => Or.inr ⟨x, by rw [HL.out]; simp, hb⟩
      have hpa : ∀ b, foot a (L.length * 3) b → pfoot a L b := fun b hb => Or.inl hb
      have HX := hid hxm
      obtain ⟨b, off, rfl, c0, _⟩ := Pvs.at_ HW.out.r n hlt2
      obtain ⟨b', off', e', hB', c0', z0⟩ := HW.out.row (n * 3) (by omega)
      cases e'
      have HP := hid hpl
      have HW1 : Hid (PvsW (wr.setCell ⟨b, off + n * 3, none⟩ (.bool ((m : Int) % 3 == 0))) B (some ⟨b, off, none⟩) (marksPv P k ++ { x with on := ((m : Int) % 3 == 0) } :: Q')) := by
        have h := HW.out.setOn ((m : Int) % 3 == 0)
        rw [hpl] at h
        exact h
      have HK1 : Hid (Kept (pfoot (some ⟨b, off, none⟩) L) w (wr.setCell ⟨b, off + n * 3, none⟩ (.bool ((m : Int) % 3 == 0)))) := (HK.out.trans (kept_set wr b (off + n * 3) _)).mono (fun c _ hc => by
        rcases hc with hc | hc
        · exact hc
        · subst hc; exact Or.inl ⟨by omega, off, rfl⟩)
      obtain ⟨w1, hw1⟩ : ∃ w1, wr.setCell ⟨b, off + n * 3, none⟩ (.bool ((m : Int) % 3 == 0)) = w1 := ⟨_, rfl⟩
      rw [hw1] at HW1 HK1
      clear hxm hpa hpl
      have hm1 : (m : Int) + 1 ≤ 4611686018427387904 := by omega
      obtain ⟨b2, off2, e2, _, d1, d2, _⟩ := Pvs.at_ HW1.out.r n (by rw [List.length_append, HP.out]; simp)
      cases e2
      rw [show ((marksPv P k ++ { x with on := ((m : Int) % 3 == 0) } :: Q').getD n Pv.none) = { x with on := ((m : Int) % 3 == 0) } by rw [← HP.out]; exact getD_mid _ _ _] at d1 d2
      simp only [] at d1 d2
      clear c0 HW HK
      go_wp2_with fail
      clear hw1
      have hx1 := HW1.out.each { x with on := ((m : Int) % 3 == 0) } (by simp)
      refine (markBoolS w1 B x.ha x.hs.length x.hc (m + 1) _ hx1.1 (by omega)).mono ?_
      rintro e w2 ⟨rfl, S2, K2⟩
      have HW2 := hid (HW1.out.setHas K2 _ (by simp) (bls_marks S2))
      have HK2 : Hid (Kept (pfoot (some ⟨b, off, none⟩) L) w w2) := (HK1.out.trans K2).mono (fun c _ hc => by
        rcases hc with hc | hc
        · exact hc
        · exact HX.out c (Or.inl hc))
      obtain ⟨b2, off2, e2, _, _, d3, _⟩ := Pvs.at_ HW2.out.r n (by rw [List.length_append, HP.out]; simp)
      cases e2
      rw [show ((marksPv P k ++ { x with on := ((m : Int) % 3 == 0), hs := (List.range x.hs.length).map (fun i => markB (m + 1 + i)) } :: Q').getD n Pv.none) = { x with on := ((m : Int) % 3 == 0), hs := (List.range x.hs.length).map (fun i => markB (m + 1 + i)) } by rw [← HP.out]; exact getD_mid _ _ _] at d3
      simp only [] at d3
      clear d1 d2 HW1 HK1 S2 K2 hx1
      go_wp2_with fail
      have hx2 := HW2.out.each { x with on := ((m : Int) % 3 == 0), hs := (List.range x.hs.length).map (fun i => markB (m + 1 + i)) } (by simp)
      refine (markStringS w2 B x.ta x.ts.length x.tc (m + 1 + x.hs.length) _ hx2.2 (by omega) (by omega)).mono ?_
      rintro e w3 ⟨rfl, S3, K3⟩
      have HW3 := hid (HW2.out.setTexts K3 _ (by simp) (strs_marks S3))
      have HK3 : Hid (Kept (pfoot (some ⟨b, off, none⟩) L) w w3) := (HK2.out.trans K3).mono (fun c _ hc => by
        rcases hc with hc | hc
        · exact hc
        · exact HX.out c (Or.inr hc))
      clear d3 HW2 HK2 S3 K3 hx2
      go_wp2
      refine ⟨⟨P ++ [x], Q', n + 1, m + 1 + x.hs.length + x.ts.length, by omega, by go_num, rfl, ?_, ?_, ?_, ?_, HK3⟩, by simp [intOf]; omega⟩
      · rw [Hid, HL.out, List.append_assoc]; rfl
      · rw [Hid, List.length_append, HN.out]; rfl
      · rw [Hid, totPv_append, HM.out]; simp only [totPv, Pv.sz]; omega
      · have := HW3.out
        rw [Hid, marksPv_append]
        simp only [marksPv, List.append_assoc, List.singleton_append]
        rw [← HM.out]
        exact this
    · obtain rfl : n = L.length := by omega
      have hQ : Q = [] := by
        have h1 := congrArg List.length HL.out
        have h2 := HN.out
        rw [List.length_append] at h1
        exact List.eq_nil_of_length_eq_zero (by omega)
      have HP : Hid (P = L) := by
        have h1 := HL.out
        rw [hQ, List.append_nil] at h1
        exact h1.symm
      have HQ := hid hQ
      clear hQ
      go_wp2
      go_ret
      refine ⟨?_, ?_, HK.out⟩
      · rw [HM.out, HP.out]; rfl
      · have := HW.out
        rw [HP.out, HQ.out, List.append_nil] at this
        exact this

set_option maxRecDepth 100000 in
set_option maxHeartbeats 2000000 in
theorem heldPVolS (w : World) (a : Option Addr) (cap k : Nat) (L : List Pv) (S : Pvs w a (marksPv L k)) (hk : 0 < k) (hb : k + totPv L ≤ 4611686018427387904) (hl : L.length ≤ 1048576) :
    Calls Tryz.prog 49 #[.slice a L.length cap, .int .i64 (k : Int)] w fun e w' => e = .returned (.int .i64 ((k + totPv L : Nat) : Int)) ∧ Below w.heap.size w w' := by
  have HS := hid S
  have HT := hid hb
  clear S hb
  go_enter Tryz.func49, Tryz.ntmps49
  go_wp2
  go_loopw [1, 5] (fun x i wr => ∃ (P Q : List Pv) (n m : Nat), n ≤ L.length ∧ i = .int .i64 (n : Int) ∧ x = .int .i64 (m : Int) ∧ Hid (L = P ++ Q) ∧ Hid (P.length = n) ∧ Hid (m = k + totPv P) ∧ Hid (Below w.heap.size w wr)) (fun _ i _ => L.length - (intOf i).toNat)
  case atStart => exact ⟨[], L, 0, k, Nat.zero_le _, rfl, rfl, rfl, rfl, rfl, Below.refl _ _⟩
  case round =>
    obtain ⟨P, Q, n, m, hn, rfl, rfl, HL, HN, HM, HB⟩ := hrel
    by_cases hlt : n < L.length
    · obtain ⟨x, Q', HQ⟩ : ∃ x Q', Hid (Q = x :: Q') := by
        cases Q with
        | nil =>
          have h1 := congrArg List.length HL.out
          rw [List.append_nil] at h1
          have h2 := HN.out
          omega
        | cons x Q' => exact ⟨x, Q', rfl⟩
      have hq := HQ.out
      subst hq
      have hmt : m + x.sz ≤ 4611686018427387904 := by
        have h1 := HT.out
        rw [HL.out, totPv_append] at h1
        have h2 := HM.out
        simp only [totPv] at h1
        omega
      have hsz : x.sz = 1 + x.hs.length + x.ts.length := rfl
      have hm0 : 0 < m := by have := HM.out; omega
      obtain ⟨b, off, rfl, c0, c1, c2, i1, i2⟩ := Pvs.at_ (HS.out.below HB.out) n (by rw [marksPv_length]; exact hlt)
      rw [show (marksPv L k).getD n Pv.none = mkPv x m by
        rw [HL.out, marksPv_append, HM.out, ← HN.out, ← marksPv_length P k]; exact getD_mid _ _ _] at c0 c1 c2 i1 i2
      have HI1 : Hid (Sl wr x.ha x.hs.length (fun i => .bool (markB (m + 1 + i)))) := by
        unfold Bls mkPv at i1
        simp only [List.length_map, List.length_range] at i1
        exact Sl.congr i1 (fun i hi => by simp [List.getD, hi])
      have HI2 : Hid (Sl wr x.ta x.ts.length (fun i => .string (markS (m + 1 + x.hs.length + i)))) := by
        unfold Strs mkPv at i2
        simp only [List.length_map, List.length_range] at i2
        exact Sl.congr i2 (fun i hi => by simp [List.getD, hi])
      simp only [mkPv, List.length_map, List.length_range] at c0 c1 c2
      unfold markB at c0
      clear i1 i2
      have hgo : ∀ q : Bool, ((m : Int) % 3 == 0) = q → True := fun _ _ => trivial
      clear hgo
      have hm1 : (m : Int) + 1 ≤ 4611686018427387904 := by omega
      have hC2 : Hid (∀ w', Below wr.heap.size wr w' → w'.cell? ⟨b, off + n * 3 + 2, none⟩ = some (.slice x.ta x.ts.length x.tc)) := fun w' hb' => by
        rw [cell_block (hb'.block b (World.block_lt_of_cell? _ _ c2))]; exact c2
      cases hq : ((m : Int) % 3 == 0) with
      | true =>
        rw [hq] at c0
        go_wp2_with fail
        refine (heldBoolS wr x.ha x.hs.length x.hc (m + 1) HI1.out (by omega)).mono ?_
        rintro e w2 ⟨rfl, b2⟩
        have d2 := hC2.out w2 b2
        have HB2 := hid (HB.out.trans (b2.mono HB.out.size))
        have HI3 := hid (HI2.out.below b2)
        clear b2 c0 c1 c2 hq
        have h5 : m + 1 + x.hs.length + x.ts.length ≤ 4611686018427387904 := by omega
        generalize hm2 : m + 1 + x.hs.length = m2 at *
        have h4 : ¬ (m2 : Int) < 0 := by omega
        have HM2 := hid hm2
        have HMT := hid hmt
        have H5 := hid h5
        have H6 : Hid (0 < m2) := by show 0 < m2; omega
        clear hm2 hmt hsz h5 hm1 hm0
        go_wp2_with fail
        have h5 := H5.out
        have h6 := H6.out
        refine (heldStringS w2 x.ta x.ts.length x.tc m2 HI3.out (by omega) (by omega)).mono ?_
        rintro e w3 ⟨rfl, b3⟩
        have HB3 := hid (HB2.out.trans (b3.mono HB2.out.size))
        clear b3 d2
        generalize hm3 : m2 + x.ts.length = m3 at *
        have HM3 := hid hm3
        clear hm3
        go_wp2
        refine ⟨⟨P ++ [x], Q', n + 1, m3, by omega, by go_num, rfl, ?_, ?_, ?_, HB3⟩, by simp [intOf]; omega⟩
        · rw [Hid, HL.out, List.append_assoc]; rfl
        · rw [Hid, List.length_append, HN.out]; rfl
        · rw [Hid, totPv_append, ← HM3.out, ← HM2.out, HM.out]; simp only [totPv, Pv.sz]; omega
      | false =>
        rw [hq] at c0
        go_wp2_with fail
        refine (heldBoolS wr x.ha x.hs.length x.hc (m + 1) HI1.out (by omega)).mono ?_
        rintro e w2 ⟨rfl, b2⟩
        have d2 := hC2.out w2 b2
        have HB2 := hid (HB.out.trans (b2.mono HB.out.size))
        have HI3 := hid (HI2.out.below b2)
        clear b2 c0 c1 c2 hq
        have h5 : m + 1 + x.hs.length + x.ts.length ≤ 4611686018427387904 := by omega
        generalize hm2 : m + 1 + x.hs.length = m2 at *
        have h4 : ¬ (m2 : Int) < 0 := by omega
        have HM2 := hid hm2
        have HMT := hid hmt
        have H5 := hid h5
        have H6 : Hid (0 < m2) := by show 0 < m2; omega
        clear hm2 hmt hsz h5 hm1 hm0
        go_wp2_with fail
        have h5 := H5.out
        have h6 := H6.out
        refine (heldStringS w2 x.ta x.ts.length x.tc m2 HI3.out (by omega) (by omega)).mono ?_
        rintro e w3 ⟨rfl, b3⟩
        have HB3 := hid (HB2.out.trans (b3.mono HB2.out.size))
        clear b3 d2
        generalize hm3 : m2 + x.ts.length = m3 at *
        have HM3 := hid hm3
        clear hm3
        go_wp2
        refine ⟨⟨P ++ [x], Q', n + 1, m3, by omega, by go_num, rfl, ?_, ?_, ?_, HB3⟩, by simp [intOf]; omega⟩
        · rw [Hid, HL.out, List.append_assoc]; rfl
        · rw [Hid, List.length_append, HN.out]; rfl
        · rw [Hid, totPv_append, ← HM3.out, ← HM2.out, HM.out]; simp only [totPv, Pv.sz]; omega
    · obtain rfl : n = L.length := by omega
      have hQ : Q = [] := by
        have h1 := congrArg List.length HL.out
        have h2 := HN.out
        rw [List.length_append] at h1
        exact List.eq_nil_of_length_eq_zero (by omega)
      have HP : Hid (P = L) := by
        have h1 := HL.out
        rw [hQ, List.append_nil] at h1
        exact h1.symm
      clear hQ
      go_wp2
      go_ret
      refine ⟨?_, HB.out⟩
      rw [HM.out, HP.out]; rfl

set_option maxRecDepth 100000 in
set_option maxHeartbeats 2000000 in
theorem markPool (w : World) (B : Nat) (a : Option Addr) (cap k : Nat) (L : List Pv) (S : PvsW w B a L) (hk : 0 < k) (hb : k + totPv L ≤ 4611686018427387904) (hl : L.length ≤ 1048576) :
    Calls Tryz.prog 21 #[plV a L.length cap, .int .i64 (k : Int)] w fun e w' => e = .returned (.int .i64 ((k + totPv L : Nat) : Int)) ∧ PvsW w' B a (marksPv L k) ∧ Kept (pfoot a L) w w' := by
  unfold plV
  have HS := hid S
  have HT := hid hb
  have HL := hid hl
  clear S hb hl
  go_enter Tryz.func21, Tryz.ntmps21
  go_wp2_with fail
  obtain ⟨wa, hwa, ez, A0, B0⟩ := one_new w [.slice a L.length cap] 33
  simp only [hwa]
  clear hwa ez A0
  have HB := hid B0
  clear B0
  refine (markPVolS wa B a cap k L (HS.out.below HB.out) hk HT.out HL.out).mono ?_
  rintro r w1 ⟨rfl, S1, K1⟩
  have HS1 := hid S1
  have HK1 : Hid (Kept (pfoot a L) w w1) := ((Kept.of_below (S := fun _ => False) HB.out).trans K1).mono (fun b _ h => by
    rcases h with h | h
    · exact h.elim
    · exact h)
  clear S1 K1
  go_wp2
  go_ret
  exact ⟨rfl, HS1.out, HK1.out⟩

set_option maxRecDepth 100000 in
set_option maxHeartbeats 2000000 in
theorem heldPool (w : World) (a : Option Addr) (cap k : Nat) (L : List Pv) (S : Pvs w a (marksPv L k)) (hk : 0 < k) (hb : k + totPv L ≤ 4611686018427387904) (hl : L.length ≤ 1048576) :
    Calls Tryz.prog 22 #[plV a L.length cap, .int .i64 (k : Int)] w fun e w' => e = .returned (.int .i64 ((k + totPv L : Nat) : Int)) ∧ Below w.heap.size w w' := by
  unfold plV
  have HS := hid S
  have HT := hid hb
  have HL := hid hl
  clear S hb hl
  go_enter Tryz.func22, Tryz.ntmps22
  go_wp2_with fail
  obtain ⟨wa, hwa, ez, A0, B0⟩ := one_new w [.slice a L.length cap] 33
  simp only [hwa]
  clear hwa ez A0
  have HB := hid B0
  clear B0
  refine (heldPVolS wa a cap k L (HS.out.below HB.out) hk HT.out HL.out).mono ?_
  rintro r w1 ⟨rfl, b1⟩
  have HB1 := hid (HB.out.trans (b1.mono HB.out.size))
  clear b1
  have h0 : ¬ ((k + totPv L : Nat) : Int) < 0 := by omega
  go_wp2
  go_ret
  exact ⟨rfl, HB1.out⟩

end Go.Proofs.YtlbfcnpnfoapnaaGreatDoor.Pl

namespace Go.Proofs.YtlbfcnpnfoapnaaGreatDoor.Pl
open Go.RowKit Go.Proofs.YtlbfcnpnfoapnaaGreatDoor.Mem
set_option linter.unusedVariables false

/-- Is what stands at one number of a volume not right. -/
def plBad (on h : Bool) (t : ByteArray) : Bool := (h && !on) || ((!h && !decide (t = ⟨#[]⟩)) || decide (16 < t.size))
def placeOk (x : Pv) (k : Nat) : Bool := !plBad x.on (x.hs.getD k false) (x.ts.getD k ByteArray.empty)
def Pv.ok (x : Pv) : Bool := (decide (x.hs.length = 4) && decide (x.ts.length = 4)) && (List.range 4).all (placeOk x)
/-- Is a pool right. -/
def modelOk (L : List Pv) : Bool := decide (L.length = 4) && L.all Pv.ok

theorem pv_ok_data {x y : Pv} (h : x.data = y.data) : x.ok = y.ok := by
  obtain ⟨a, b, c, d, e, f, g⟩ := x
  obtain ⟨a', b', c', d', e', f', g'⟩ := y
  simp only [Pv.data, Prod.mk.injEq] at h
  obtain ⟨rfl, rfl, rfl⟩ := h
  rfl
theorem modelOk_data {L M : List Pv} (h : L.map Pv.data = M.map Pv.data) : modelOk L = modelOk M := by
  have hl : L.length = M.length := by have := congrArg List.length h; simpa using this
  have e : ∀ L : List Pv, L.all Pv.ok = (L.map Pv.data).all (fun d => Pv.ok ⟨d.1, Option.none, 0, d.2.1, Option.none, 0, d.2.2⟩) := fun L => by
    rw [List.all_map]
    congr 1
  unfold modelOk
  rw [hl, e, e, h]

theorem pall_take {X : Type} (f : X → Bool) (d : X) (L : List X) (k : Nat) (hk : k < L.length) (h : (L.take k).all f = true) (h1 : f (L.getD k d) = true) : (L.take (k + 1)).all f = true := by
  rw [List.take_add_one, List.all_append, h, List.getElem?_eq_getElem hk]
  rw [List.getD, List.getElem?_eq_getElem hk] at h1
  simpa using h1
theorem pall_no {X : Type} (f : X → Bool) (d : X) (L : List X) (k : Nat) (hk : k < L.length) (h1 : f (L.getD k d) = false) : L.all f = false := by
  rw [List.all_eq_false]
  rw [List.getD, List.getElem?_eq_getElem hk] at h1
  exact ⟨L[k], List.getElem_mem hk, by simpa using h1⟩

theorem pv_no1 {x : Pv} (h : ¬ x.hs.length = 4) : x.ok = false := by unfold Pv.ok; rw [decide_eq_false h]; rfl
theorem pv_no2 {x : Pv} (h : ¬ x.ts.length = 4) : x.ok = false := by unfold Pv.ok; rw [decide_eq_false h, Bool.and_false]; rfl
theorem pv_no3 {x : Pv} (k : Nat) (hk : k < 4) (h : placeOk x k = false) : x.ok = false := by
  unfold Pv.ok
  have : (List.range 4).all (placeOk x) = false := by rw [List.all_eq_false]; exact ⟨k, List.mem_range.2 hk, by simpa using h⟩
  rw [this, Bool.and_false]
theorem pv_yes {x : Pv} (h1 : x.hs.length = 4) (h2 : x.ts.length = 4) (h3 : ∀ j, j < 4 → placeOk x j = true) : x.ok = true := by
  unfold Pv.ok
  have : (List.range 4).all (placeOk x) = true := by rw [List.all_eq_true]; exact fun k hk => h3 k (List.mem_range.1 hk)
  rw [this, decide_eq_true h1, decide_eq_true h2]; rfl

end Go.Proofs.YtlbfcnpnfoapnaaGreatDoor.Pl

namespace Go.Proofs.YtlbfcnpnfoapnaaGreatDoor.Pl
open Go.RowKit Go.Proofs.YtlbfcnpnfoapnaaGreatDoor.Mem
set_option linter.unusedVariables false

/-- A call's value. -/
def opV (k v t a : Int) (s : ByteArray) : Value := .agg #[.int .i64 k, .int .i64 v, .int .i64 t, .int .i64 a, .string s]

/-- What of a call its kind names. -/
def nmv (k v : Int) : Int := if k = 6 then 0 else v
def nmt (k t : Int) : Int := if k = 5 then t else 0
def nma (k a : Int) : Int := if k = 3 ∨ k = 4 ∨ k = 7 then a else 0
def nms (k : Int) (s : ByteArray) : ByteArray := if k = 3 then s else ⟨#[]⟩

theorem bytes_no {a b : ByteArray} (h : ¬ a = b) : (a.toList == b.toList) = false := by
  simp only [beq_eq_false_iff_ne, ne_eq]
  intro e
  rw [ByteArray.toList_eq, ByteArray.toList_eq] at e
  exact h (ByteArray.ext (Array.toList_inj.1 e))

theorem stOpT : Tryz.prog.underlying 82 = some (.struct (Tryz.prog.fieldsOf 82)) := by kernel_rfl
theorem heldOpT : Tryz.prog.stoodInHeld 82 = false := by kernel_rfl
theorem guardOpT : Tryz.prog.eqGuardType Tryz.prog.depth 82 = false := by kernel_rfl

theorem equal_op (k v t a k' v' t' a' : Int) (s s' : ByteArray) (w : World) : (Op.equalIn 10000 82 (.agg #[.int .i64 k, .int .i64 v, .int .i64 t, .int .i64 a, .string s]) (.agg #[.int .i64 k', .int .i64 v', .int .i64 t', .int .i64 a', .string s'])).run Tryz.prog w = .ok (decide (k = k' ∧ v = v' ∧ t = t' ∧ a = a' ∧ s = s')) w := by
  rw [run_equalIn_agg w 9999 82 _ _ stOpT heldOpT]
  unfold Program.fieldsOf
  rw [Tryz.underlying82]
  by_cases h5 : s = s'
  · subst h5
    by_cases h1 : k = k' <;> by_cases h2 : v = v' <;> by_cases h3 : t = t' <;> by_cases h4 : a = a' <;> simp [Op.eqFields, part, go_sem, h1, h2, h3, h4, Tryz.underlying3]
  · have hne := bytes_no h5
    by_cases h1 : k = k' <;> by_cases h2 : v = v' <;> by_cases h3 : t = t' <;> by_cases h4 : a = a' <;> simp [Op.eqFields, part, go_sem, h1, h2, h3, h4, h5, hne, Tryz.underlying3]

theorem eql_op (k v t a k' v' t' a' : Int) (s s' : ByteArray) (w : World) : (binOp .eql 82 (.agg #[.int .i64 k, .int .i64 v, .int .i64 t, .int .i64 a, .string s]) (.agg #[.int .i64 k', .int .i64 v', .int .i64 t', .int .i64 a', .string s'])).run Tryz.prog w = .ok (.bool (decide (k = k' ∧ v = v' ∧ t = t' ∧ a = a' ∧ s = s'))) w := by
  rw [run_eql_struct, equal_op]
  rfl
theorem neq_op (k v t a k' v' t' a' : Int) (s s' : ByteArray) (w : World) : (binOp .neq 82 (.agg #[.int .i64 k, .int .i64 v, .int .i64 t, .int .i64 a, .string s]) (.agg #[.int .i64 k', .int .i64 v', .int .i64 t', .int .i64 a', .string s'])).run Tryz.prog w = .ok (.bool (!decide (k = k' ∧ v = v' ∧ t = t' ∧ a = a' ∧ s = s'))) w := by
  rw [run_neq_struct, equal_op]
  rfl

theorem eql_is {k v t a k' v' t' a' : Int} {s s' : ByteArray} {q : Bool} (hq : decide (k = k' ∧ v = v' ∧ t = t' ∧ a = a' ∧ s = s') = q) (w : World) : (binOp .eql 82 (.agg #[.int .i64 k, .int .i64 v, .int .i64 t, .int .i64 a, .string s]) (.agg #[.int .i64 k', .int .i64 v', .int .i64 t', .int .i64 a', .string s'])).run Tryz.prog w = .ok (.bool q) w := by
  rw [eql_op, hq]
theorem neq_is {k v t a k' v' t' a' : Int} {s s' : ByteArray} {q : Bool} (hq : decide (k = k' ∧ v = v' ∧ t = t' ∧ a = a' ∧ s = s') = q) (w : World) : (binOp .neq 82 (.agg #[.int .i64 k, .int .i64 v, .int .i64 t, .int .i64 a, .string s]) (.agg #[.int .i64 k', .int .i64 v', .int .i64 t', .int .i64 a', .string s'])).run Tryz.prog w = .ok (.bool (!q)) w := by
  rw [neq_op, hq]

set_option maxHeartbeats 400000 in
theorem isFrom (x lo hi : Int) (w : World) :
    Calls Tryz.prog 145 #[.int .i64 x, .int .i64 lo, .int .i64 hi] w fun e w' => e = .returned (.bool (decide (lo ≤ x ∧ x ≤ hi))) ∧ w' = w := by
  by_cases h1 : lo ≤ x
  · by_cases h2 : x ≤ hi
    · rw [decide_eq_true (And.intro h1 h2)]
      go_enter Tryz.func145, Tryz.ntmps145
      go_wp2
      go_ret
      exact ⟨rfl, rfl⟩
    · rw [decide_eq_false (fun h => h2 h.2)]
      go_enter Tryz.func145, Tryz.ntmps145
      go_wp2
      go_ret
      exact ⟨rfl, rfl⟩
  · rw [decide_eq_false (fun h => h1 h.1)]
    go_enter Tryz.func145, Tryz.ntmps145
    go_wp2
    go_ret
    exact ⟨rfl, rfl⟩

set_option maxHeartbeats 400000 in
theorem l3Host (x : Int) (w : World) :
    Calls Tryz.prog 154 #[.int .i64 x] w fun e w' => e = .returned (.bool (decide (0 ≤ x ∧ x < 3))) ∧ w' = w := by
  by_cases h1 : 0 ≤ x
  · by_cases h2 : x < 3
    · rw [decide_eq_true (And.intro h1 h2)]
      go_enter Tryz.func154, Tryz.ntmps154
      go_wp2
      go_ret
      exact ⟨rfl, rfl⟩
    · rw [decide_eq_false (fun h => h2 h.2)]
      go_enter Tryz.func154, Tryz.ntmps154
      go_wp2
      go_ret
      exact ⟨rfl, rfl⟩
  · rw [decide_eq_false (fun h => h1 h.1)]
    go_enter Tryz.func154, Tryz.ntmps154
    go_wp2
    go_ret
    exact ⟨rfl, rfl⟩

/-- The highest number that Vol may be. -/
def top (k : Int) : Int := if k = 10 ∨ k = 11 ∨ k = 12 then 2 else 3

theorem beq_no {a b : Int} (h : ¬ a = b) : (a == b) = false := by simpa using h

end Go.Proofs.YtlbfcnpnfoapnaaGreatDoor.Pl

namespace Go.Proofs.YtlbfcnpnfoapnaaGreatDoor.Pl
open Go.RowKit Go.Proofs.YtlbfcnpnfoapnaaGreatDoor.Mem
set_option linter.unusedVariables false

theorem stPlT : Tryz.prog.underlying 103 = some (.struct (Tryz.prog.fieldsOf 103)) := by kernel_rfl
theorem heldPlT : Tryz.prog.stoodInHeld 103 = false := by kernel_rfl
theorem stVoT : Tryz.prog.underlying 106 = some (.struct (Tryz.prog.fieldsOf 106)) := by kernel_rfl
theorem heldVoT : Tryz.prog.stoodInHeld 106 = false := by kernel_rfl
theorem cellsPl : Tryz.prog.cellsOf 103 = 2 := by kernel_rfl

theorem equal_pl (d : Nat) (h h' : Bool) (t t' : ByteArray) (w : World) : (Op.equalIn (d + 2) 103 (.agg #[.bool h, .string t]) (.agg #[.bool h', .string t'])).run Tryz.prog w = .ok (decide (h = h' ∧ t = t')) w := by
  rw [run_equalIn_agg w (d + 1) 103 _ _ stPlT heldPlT]
  unfold Program.fieldsOf
  rw [Tryz.underlying103]
  by_cases h5 : t = t'
  · subst h5
    by_cases h1 : h = h' <;> simp [Op.eqFields, part, go_sem, h1, Tryz.underlying4]
  · have hne := bytes_no h5
    by_cases h1 : h = h' <;> simp [Op.eqFields, part, go_sem, h1, h5, hne, Tryz.underlying4]

theorem neq_pl {h h' : Bool} {t t' : ByteArray} {q : Bool} (hq : decide (h = h' ∧ t = t') = q) (w : World) : (binOp .neq 103 (.agg #[.bool h, .string t]) (.agg #[.bool h', .string t'])).run Tryz.prog w = .ok (.bool (!q)) w := by
  rw [run_neq_struct, equal_pl 9998, hq]
  rfl

theorem imp_no {p q : Prop} [Decidable p] [Decidable q] (h : p → ¬ q) : (decide p && decide q) = false := by simpa using h
theorem imp_yes {p q : Prop} [Decidable p] [Decidable q] (h : ¬ (p → ¬ q)) : (decide p && decide q) = true := by simpa using h

set_option maxRecDepth 100000 in
theorem equal_vo (on on' h0 h1 h2 h3 h0' h1' h2' h3' : Bool) (t0 t1 t2 t3 t0' t1' t2' t3' : ByteArray) (w : World) :
    (Op.equalIn 10000 106 (.agg #[.bool on, .bool h0, .string t0, .bool h1, .string t1, .bool h2, .string t2, .bool h3, .string t3]) (.agg #[.bool on', .bool h0', .string t0', .bool h1', .string t1', .bool h2', .string t2', .bool h3', .string t3'])).run Tryz.prog w =
      .ok (decide (on = on') && (decide (h0 = h0' ∧ t0 = t0') && (decide (h1 = h1' ∧ t1 = t1') && (decide (h2 = h2' ∧ t2 = t2') && decide (h3 = h3' ∧ t3 = t3'))))) w := by
  rw [run_equalIn_agg w 9999 106 _ _ stVoT heldVoT]
  unfold Program.fieldsOf
  rw [Tryz.underlying106]
  obtain ⟨i, hi⟩ : ∃ i, Tryz.prog.info? 103 = some i := ⟨_, rfl⟩
  have ha := fun (xs ys : Array Value) (w : World) => run_equalIn_array (P := Tryz.prog) w 9998 xs ys Tryz.underlying104 hi
  clear hi
  rw [cellsPl] at ha
  have he := equal_pl 9996
  have hr : List.range 4 = [0, 1, 2, 3] := rfl
  rw [hr] at ha
  by_cases g : on = on'
  · simp [Op.eqFields, Op.eqItems, part, go_sem, Tryz.underlying4, g, ha, he]
    by_cases a0 : h0 = h0' → ¬ t0 = t0'
    · rw [if_pos a0, imp_no a0]; rfl
    rw [if_neg a0, imp_yes a0]
    by_cases a1 : h1 = h1' → ¬ t1 = t1'
    · rw [if_pos a1, imp_no a1]; rfl
    rw [if_neg a1, imp_yes a1]
    by_cases a2 : h2 = h2' → ¬ t2 = t2'
    · rw [if_pos a2, imp_no a2]; rfl
    rw [if_neg a2, imp_yes a2]
    by_cases a3 : h3 = h3' → ¬ t3 = t3'
    · rw [if_pos a3, imp_no a3]; rfl
    rw [if_neg a3, imp_yes a3]; rfl
  · simp [Op.eqFields, Op.eqItems, part, go_sem, Tryz.underlying4, g, ha, he]

theorem eql_vo {on on' h0 h1 h2 h3 h0' h1' h2' h3' : Bool} {t0 t1 t2 t3 t0' t1' t2' t3' : ByteArray} {q : Bool}
    (hq : (decide (on = on') && (decide (h0 = h0' ∧ t0 = t0') && (decide (h1 = h1' ∧ t1 = t1') && (decide (h2 = h2' ∧ t2 = t2') && decide (h3 = h3' ∧ t3 = t3'))))) = q) (w : World) :
    (binOp .eql 106 (.agg #[.bool on, .bool h0, .string t0, .bool h1, .string t1, .bool h2, .string t2, .bool h3, .string t3]) (.agg #[.bool on', .bool h0', .string t0', .bool h1', .string t1', .bool h2', .string t2', .bool h3', .string t3'])).run Tryz.prog w = .ok (.bool q) w := by
  rw [run_eql_struct, equal_vo, hq]
  rfl

end Go.Proofs.YtlbfcnpnfoapnaaGreatDoor.Pl

namespace Go.Proofs.YtlbfcnpnfoapnaaGreatDoor.Pl
open Go.RowKit Go.Proofs.YtlbfcnpnfoapnaaGreatDoor.Mem
set_option linter.unusedVariables false

/-- A volume's cells behind k places. -/
def ivK (on : Bool) (h : Nat → Bool) (t : Nat → ByteArray) (k : Nat) : List Value :=
  .bool on :: (List.range 4).flatMap fun i => [.bool (if i < k then h i else false), .string (if i < k then t i else ⟨#[]⟩)]
/-- A volume's cells. -/
def ivR (on : Bool) (h : Nat → Bool) (t : Nat → ByteArray) : List Value := [.bool on, .bool (h 0), .string (t 0), .bool (h 1), .string (t 1), .bool (h 2), .string (t 2), .bool (h 3), .string (t 3)]
theorem ivK_4 (on : Bool) (h : Nat → Bool) (t : Nat → ByteArray) : ivK on h t 4 = ivR on h t := rfl
theorem ivK_0 (on : Bool) (h : Nat → Bool) (t : Nat → ByteArray) : ivK on h t 0 = [.bool on, .bool false, .string ⟨#[]⟩, .bool false, .string ⟨#[]⟩, .bool false, .string ⟨#[]⟩, .bool false, .string ⟨#[]⟩] := rfl
theorem ivK_succ (on : Bool) (h : Nat → Bool) (t : Nat → ByteArray) (k : Nat) (hk : k < 4) : ((ivK on h t k).set (1 + k * 2) (.bool (h k))).set (1 + k * 2 + 1) (.string (t k)) = ivK on h t (k + 1) := by
  have : k = 0 ∨ k = 1 ∨ k = 2 ∨ k = 3 := by omega
  rcases this with rfl | rfl | rfl | rfl <;> rfl
theorem ivK_len (on : Bool) (h : Nat → Bool) (t : Nat → ByteArray) (k : Nat) : (ivK on h t k).length = 9 := rfl

theorem row_ex {w : World} {g : Nat} {xs : List Value} (h : Row w g xs) (i : Nat) (hi : i < xs.length) : ∃ v, w.cell? ⟨g, i, none⟩ = some v := ⟨xs[i], h.c i (List.getElem?_eq_getElem hi)⟩

def Pv.h (x : Pv) (i : Nat) : Bool := x.hs.getD i false
def Pv.t (x : Pv) (i : Nat) : ByteArray := x.ts.getD i ByteArray.empty

theorem index_pl0 (b0 b1 b2 b3 : Bool) (s0 s1 s2 s3 : ByteArray) (w : World) : (Instr.index 104 (.agg #[.bool b0, .string s0, .bool b1, .string s1, .bool b2, .string s2, .bool b3, .string s3]) (.int .i64 0)).run Tryz.prog w = .ok (.agg #[.bool b0, .string s0]) w := by kernel_rfl
theorem index_pl1 (b0 b1 b2 b3 : Bool) (s0 s1 s2 s3 : ByteArray) (w : World) : (Instr.index 104 (.agg #[.bool b0, .string s0, .bool b1, .string s1, .bool b2, .string s2, .bool b3, .string s3]) (.int .i64 1)).run Tryz.prog w = .ok (.agg #[.bool b1, .string s1]) w := by kernel_rfl
theorem index_pl2 (b0 b1 b2 b3 : Bool) (s0 s1 s2 s3 : ByteArray) (w : World) : (Instr.index 104 (.agg #[.bool b0, .string s0, .bool b1, .string s1, .bool b2, .string s2, .bool b3, .string s3]) (.int .i64 2)).run Tryz.prog w = .ok (.agg #[.bool b2, .string s2]) w := by kernel_rfl
theorem index_pl3 (b0 b1 b2 b3 : Bool) (s0 s1 s2 s3 : ByteArray) (w : World) : (Instr.index 104 (.agg #[.bool b0, .string s0, .bool b1, .string s1, .bool b2, .string s2, .bool b3, .string s3]) (.int .i64 3)).run Tryz.prog w = .ok (.agg #[.bool b3, .string s3]) w := by kernel_rfl
theorem index_pl (h : Nat → Bool) (t : Nat → ByteArray) (k : Nat) (hk : k < 4) (w : World) : (Instr.index 104 (.agg #[.bool (h 0), .string (t 0), .bool (h 1), .string (t 1), .bool (h 2), .string (t 2), .bool (h 3), .string (t 3)]) (.int .i64 (k : Int))).run Tryz.prog w = .ok (.agg #[.bool (h k), .string (t k)]) w := by
  have : k = 0 ∨ k = 1 ∨ k = 2 ∨ k = 3 := by omega
  rcases this with rfl | rfl | rfl | rfl
  · exact index_pl0 _ _ _ _ _ _ _ _ w
  · exact index_pl1 _ _ _ _ _ _ _ _ w
  · exact index_pl2 _ _ _ _ _ _ _ _ w
  · exact index_pl3 _ _ _ _ _ _ _ _ w

/-- Is what stands at one number of the program's volume right, whatever the volume. -/
def ivPl (h : Bool) (t : ByteArray) : Bool := !(decide (16 < t.size) || (!h && !decide (t = ⟨#[]⟩)))
def ivZ (h : Nat → Bool) (t : Nat → ByteArray) : Bool := decide (false = h 0 ∧ ⟨#[]⟩ = t 0) && (decide (false = h 1 ∧ ⟨#[]⟩ = t 1) && (decide (false = h 2 ∧ ⟨#[]⟩ = t 2) && decide (false = h 3 ∧ ⟨#[]⟩ = t 3)))
def ivOk (on : Bool) (h : Nat → Bool) (t : Nat → ByteArray) : Bool := (List.range 4).all (fun k => ivPl (h k) (t k)) && (on || ivZ h t)

end Go.Proofs.YtlbfcnpnfoapnaaGreatDoor.Pl

namespace Go.Proofs.YtlbfcnpnfoapnaaGreatDoor.Pl
open Go.RowKit Go.Proofs.YtlbfcnpnfoapnaaGreatDoor.Mem
set_option linter.unusedVariables false

theorem sl_cells (w : World) (cs : List Value) (t : TypeId) (m : Nat) (h : cs.length = m) : Sl (w.alloc (.cells cs.toArray t)) (some ⟨w.heap.size, 0, none⟩) m (fun i => cs.getD i undef) :=
  (wr_new w cs.toArray t m _ (fun i hi => by
    have hi' : i < cs.length := by omega
    rw [List.getElem?_toArray, List.getElem?_eq_getElem hi', List.getD_eq_getElem?_getD, List.getElem?_eq_getElem hi']
    rfl)).sl

def pcs (l : List Pv) : List Value := l.flatMap Pv.cells
theorem pcs_length (l : List Pv) : (pcs l).length = l.length * 3 := by
  induction l with
  | nil => rfl
  | cons x l ih =>
    show (x.cells ++ pcs l).length = _
    rw [List.length_append, ih]
    simp [Pv.cells]; omega
theorem pcs_at (l : List Pv) (i : Nat) (h : i < l.length * 3) : (pcs l).getD i undef = pcell l i := by
  induction l generalizing i with
  | nil => simp at h
  | cons x l ih =>
    show (x.cells ++ pcs l).getD i undef = _
    have hx : x.cells.length = 3 := rfl
    rw [List.getD_eq_getElem?_getD]
    by_cases h4 : i < 3
    · rw [List.getElem?_append_left (by omega)]
      unfold pcell
      rw [show i / 3 = 0 by omega, show i % 3 = i by omega]
      rw [List.getD_eq_getElem?_getD]
      rfl
    · rw [List.getElem?_append_right (by omega), hx, ← List.getD_eq_getElem?_getD, ih (i - 3) (by simp at h; omega)]
      unfold pcell
      rw [show (i - 3) % 3 = i % 3 by omega]
      congr 2
      rw [show i / 3 = (i - 3) / 3 + 1 by omega]
      rfl
theorem pcs_more (l : List Pv) (x : Pv) : pcs (l ++ [x]) = pcs l ++ x.cells := by simp [pcs]

/-- The list so far: its row and what it holds in blocks from C on, apart from one another. -/
structure Grw (C : Nat) (M : List Pv) (v : Value) (w : World) : Prop where
  row : RowO w C 65 3 v M.length (pcs M)
  laid : PvLaid w C M
  off : ∀ x ∈ M, ∀ b, x.foot b → ¬ rb v = some b
  ge : C ≤ w.heap.size

theorem grw_none (C : Nat) (b : Option Addr) (w : World) (h : C ≤ w.heap.size) : Grw C [] (.slice b 0 0) w :=
  ⟨Or.inl ⟨b, rfl, rfl, rfl⟩, ⟨fun x hx => by simp at hx, fun x hx => by simp at hx, List.Pairwise.nil⟩, fun x hx => by simp at hx, h⟩

theorem Grw.below {C : Nat} {M : List Pv} {v : Value} {w w' : World} (h : Grw C M v w) (k : Below w.heap.size w w') : Grw C M v w' :=
  ⟨RowO.below h.row k, h.laid.below k, h.off, Nat.le_trans h.ge k.size⟩
theorem Grw.alloc {C : Nat} {M : List Pv} {v : Value} {w : World} (h : Grw C M v w) (o : Obj) : Grw C M v (w.alloc o) := h.below ((Below.refl _ _).alloc (Nat.le_refl _) o)
theorem Grw.kept {S : Nat → Prop} {C : Nat} {M : List Pv} {v : Value} {w w' : World} (h : Grw C M v w) (k : Kept S w w') (hn : ∀ b, C ≤ b → ¬ S b) : Grw C M v w' :=
  ⟨RowO.kept h.row k (fun b hb => hn b (RowO.lt h.row hb).1), h.laid.kept k hn, h.off, Nat.le_trans h.ge k.size⟩

/-- A volume of its own: two lists in blocks from C on, apart. -/
structure Two (C : Nat) (x : Pv) (w : World) : Prop where
  has : BlsW w C x.ha x.hs
  txt : StrsW w C x.ta x.ts
  own : ∀ b, foot x.ha x.hs.length b → ¬ foot x.ta x.ts.length b
theorem Two.below {C : Nat} {x : Pv} {w w' : World} (h : Two C x w) (k : Below w.heap.size w w') : Two C x w' := ⟨Wr.below h.has k, Wr.below h.txt k, h.own⟩
theorem Two.mono {C C' : Nat} {x : Pv} {w : World} (h : Two C x w) (hc : C' ≤ C) : Two C' x w := ⟨Wr.mono h.has hc, Wr.mono h.txt hc, h.own⟩
theorem Two.foot {C : Nat} {x : Pv} {w : World} (h : Two C x w) {b : Nat} (hb : x.foot b) : C ≤ b ∧ b < w.heap.size := by
  rcases hb with hb | hb
  · exact ⟨Wr.foot_ge h.has hb, Sl.lt h.has.sl hb⟩
  · exact ⟨Wr.foot_ge h.txt hb, Sl.lt h.txt.sl hb⟩
theorem Two.kept {S : Nat → Prop} {C : Nat} {x : Pv} {w w' : World} (h : Two C x w) (k : Kept S w w') (hn : ∀ b, C ≤ b → ¬ S b) : Two C x w' :=
  ⟨Wr.move h.has k (fun b hb => hn b (Wr.foot_ge h.has hb)), Wr.move h.txt k (fun b hb => hn b (Wr.foot_ge h.txt hb)), h.own⟩

/-- One more: the list was made when the blocks ended at E, the volume lies from E on. -/
theorem Grw.more {C E : Nat} {M : List Pv} {v v' : Value} {x : Pv} {w0 w w1 : World} (h0 : Grw C M v w0) (hE : w0.heap.size ≤ E) (hb : Below w0.heap.size w0 w) (hx : Two E x w)
    (r : RowO w1 C 65 3 v' (M.length + 1) (pcs M ++ x.cells)) (k : Kept (fun b => rb v = some b) w w1) (t : rb v' = none ∨ rb v' = rb v ∨ (rb v' = some w.heap.size ∧ w.heap.size < w1.heap.size)) : Grw C (M ++ [x]) v' w1 := by
  have h := h0.below hb
  have hv : ∀ b, rb v = some b → b < w0.heap.size := fun b e => (RowO.lt h0.row e).2
  have hsz := hb.size
  refine ⟨by rw [pcs_more, List.length_append]; exact r, ⟨fun y hy => ?_, fun y hy => ?_, ?_⟩, fun y hy b hb1 hb2 => ?_, Nat.le_trans h.ge k.size⟩
  · rcases List.mem_append.1 hy with hy | hy
    · exact ⟨Wr.move (h.laid.each y hy).1 k (fun b hb1 => h.off y hy b (Or.inl hb1)), Wr.move (h.laid.each y hy).2 k (fun b hb1 => h.off y hy b (Or.inr hb1))⟩
    · obtain rfl : y = x := by simpa using hy
      have hn : ∀ b, y.foot b → ¬ rb v = some b := fun b hb1 hb2 => by
        have := (hx.foot hb1).1
        have := hv b hb2
        omega
      have hCE : C ≤ E := Nat.le_trans h0.ge hE
      exact ⟨Wr.mono (Wr.move hx.has k (fun b hb1 => hn b (Or.inl hb1))) hCE, Wr.mono (Wr.move hx.txt k (fun b hb1 => hn b (Or.inr hb1))) hCE⟩
  · rcases List.mem_append.1 hy with hy | hy
    · exact h.laid.own y hy
    · obtain rfl : y = x := by simpa using hy
      exact hx.own
  · refine List.pairwise_append.2 ⟨h.laid.two, List.pairwise_singleton _ _, fun y hy z hz b hb1 hb2 => ?_⟩
    obtain rfl : z = x := by simpa using hz
    have h1 := (h0.laid.foot_lt hy hb1).2
    have h2 := (hx.foot hb2).1
    omega
  · rcases List.mem_append.1 hy with hy | hy
    · rcases t with t | t | ⟨t, _⟩
      · rw [t] at hb2; cases hb2
      · rw [t] at hb2; exact h.off y hy b hb1 hb2
      · rw [t] at hb2
        cases hb2
        have := (h.laid.foot_lt hy hb1).2
        omega
    · obtain rfl : y = x := by simpa using hy
      have h2 := hx.foot hb1
      rcases t with t | t | ⟨t, _⟩
      · rw [t] at hb2; cases hb2
      · rw [t] at hb2; have := hv b hb2; omega
      · rw [t] at hb2
        cases hb2
        omega

/-- The list when it is whole. -/
theorem Grw.whole {C : Nat} {M : List Pv} {v : Value} {w : World} (h : Grw C M v w) : ∃ a cap, v = .slice a M.length cap ∧ PvsW w C a M := by
  obtain ⟨a, cap, rfl, hw⟩ := h.row.wr
  refine ⟨a, cap, rfl, hw.congr (fun i hi => pcs_at M i hi), h.laid.each, h.laid.own, h.laid.two, fun x hx b hb1 hb2 => ?_⟩
  exact h.off x hx b hb1 (RowO.foot h.row rfl hb2)

theorem pcells_one (x : Pv) : ∀ u ∈ x.cells, u.oneCell' = true := by
  intro u hu
  simp only [Pv.cells, List.mem_cons, List.not_mem_nil, or_false] at hu
  rcases hu with rfl | rfl | rfl <;> rfl

theorem infoPvI : (Tryz.prog.info? 65).map (fun i => (i.zero, i.size, i.bytes)) = some (some Pv.none.val, 3, 56) := by kernel_rfl

end Go.Proofs.YtlbfcnpnfoapnaaGreatDoor.Pl

namespace Go.Proofs.YtlbfcnpnfoapnaaGreatDoor.Pl
open Go.RowKit Go.Proofs.YtlbfcnpnfoapnaaGreatDoor.Mem
set_option linter.unusedVariables false

abbrev Iv := Bool × (Nat → Bool) × (Nat → ByteArray)
def Iv.none : Iv := (false, fun _ => false, fun _ => ⟨#[]⟩)
/-- What a volume holds, as lists. -/
def ivData (d : Iv) : Bool × List Bool × List ByteArray := (d.1, (List.range 4).map d.2.1, (List.range 4).map d.2.2)

/-- Volumes behind pointers. -/
structure Ivs (w : World) (a : Option Addr) (G : List Nat) (D : List Iv) : Prop where
  len : G.length = D.length
  row : Sl w a G.length (fun i => .pointer (some ⟨G.getD i 0, 0, none⟩))
  each : ∀ i, i < G.length → Row w (G.getD i 0) (ivR (D.getD i Iv.none).1 (D.getD i Iv.none).2.1 (D.getD i Iv.none).2.2)
theorem Ivs.below {w w' : World} {a : Option Addr} {G : List Nat} {D : List Iv} (h : Ivs w a G D) (k : Below w.heap.size w w') : Ivs w' a G D :=
  ⟨h.len, h.row.below k, fun i hi => (h.each i hi).below k (h.each i hi).lt⟩

/-- A volume that is being told: its box, and its two lists so far. -/
structure Inn (wz : World) (on : Bool) (vh vt : Value) (hs : List Bool) (ts : List ByteArray) (w : World) : Prop where
  bel : Below wz.heap.size wz w
  box : Row w wz.heap.size [.bool on, vh, vt]
  r1 : RowO w (wz.heap.size + 1) 4 1 vh hs.length (hs.map .bool)
  r2 : RowO w (wz.heap.size + 1) 9 1 vt ts.length (ts.map .string)
  ap : ∀ b, rb vh = some b → ¬ rb vt = some b
  ge : wz.heap.size + 1 ≤ w.heap.size

theorem Inn.below {wz : World} {on : Bool} {vh vt : Value} {hs : List Bool} {ts : List ByteArray} {w w' : World} (h : Inn wz on vh vt hs ts w) (k : Below w.heap.size w w') : Inn wz on vh vt hs ts w' :=
  ⟨h.bel.trans (k.mono h.bel.size), h.box.below k h.box.lt, RowO.below h.r1 k, RowO.below h.r2 k, h.ap, Nat.le_trans h.ge k.size⟩
theorem Inn.alloc {wz : World} {on : Bool} {vh vt : Value} {hs : List Bool} {ts : List ByteArray} {w : World} (h : Inn wz on vh vt hs ts w) (o : Obj) : Inn wz on vh vt hs ts (w.alloc o) := h.below ((Below.refl _ _).alloc (Nat.le_refl _) o)

theorem Inn.moreH {wz : World} {on : Bool} {vh vt vh' : Value} {hs : List Bool} {ts : List ByteArray} {w w1 : World} {q : Bool} (h : Inn wz on vh vt hs ts w)
    (r : RowO w1 (wz.heap.size + 1) 4 1 vh' (hs.length + 1) (hs.map .bool ++ [.bool q])) (k : Kept (fun b => rb vh = some b) w w1) (t : rb vh' = none ∨ rb vh' = rb vh ∨ (rb vh' = some w.heap.size ∧ w.heap.size < w1.heap.size)) :
    Row w1 wz.heap.size [.bool on, vh, vt] ∧ Inn wz on vh' vt (hs ++ [q]) ts (w1.setCell ⟨wz.heap.size, 1, none⟩ vh') := by
  have hge : ∀ b, rb vh = some b → wz.heap.size + 1 ≤ b := fun b e => (RowO.lt h.r1 e).1
  have b1 : Row w1 wz.heap.size [.bool on, vh, vt] := h.box.kept k (fun e => by have := hge _ e; omega)
  have hb : Below wz.heap.size wz w1 := h.bel.trans (k.below h.bel.size (fun b hb e => by have := hge _ e; omega))
  have ks := kept_set w1 wz.heap.size 1 vh'
  refine ⟨b1, below_set hb wz.heap.size 1 vh' (Nat.le_refl _), b1.set 1 vh', ?_, ?_, fun b e1 e2 => ?_, ?_⟩
  · have := RowO.kept r ks (fun b e1 e2 => by have := (RowO.lt r e1).1; omega)
    simpa using this
  · refine RowO.kept (RowO.kept h.r2 k (fun b e1 e2 => h.ap b e2 e1)) ks (fun b e1 e2 => by have := (RowO.lt h.r2 e1).1; omega)
  · have h2 := (RowO.lt h.r2 e2).2
    rcases t with t | t | ⟨t, _⟩
    · rw [t] at e1; cases e1
    · rw [t] at e1; exact h.ap b e1 e2
    · rw [t] at e1; cases e1; omega
  · have := h.ge
    have := k.size
    simp
    omega

theorem Inn.moreT {wz : World} {on : Bool} {vh vt vt' : Value} {hs : List Bool} {ts : List ByteArray} {w w1 : World} {q : ByteArray} (h : Inn wz on vh vt hs ts w)
    (r : RowO w1 (wz.heap.size + 1) 9 1 vt' (ts.length + 1) (ts.map .string ++ [.string q])) (k : Kept (fun b => rb vt = some b) w w1) (t : rb vt' = none ∨ rb vt' = rb vt ∨ (rb vt' = some w.heap.size ∧ w.heap.size < w1.heap.size)) :
    Row w1 wz.heap.size [.bool on, vh, vt] ∧ Inn wz on vh vt' hs (ts ++ [q]) (w1.setCell ⟨wz.heap.size, 2, none⟩ vt') := by
  have hge : ∀ b, rb vt = some b → wz.heap.size + 1 ≤ b := fun b e => (RowO.lt h.r2 e).1
  have b1 : Row w1 wz.heap.size [.bool on, vh, vt] := h.box.kept k (fun e => by have := hge _ e; omega)
  have hb : Below wz.heap.size wz w1 := h.bel.trans (k.below h.bel.size (fun b hb e => by have := hge _ e; omega))
  have ks := kept_set w1 wz.heap.size 2 vt'
  refine ⟨b1, below_set hb wz.heap.size 2 vt' (Nat.le_refl _), b1.set 2 vt', ?_, ?_, fun b e1 e2 => ?_, ?_⟩
  · refine RowO.kept (RowO.kept h.r1 k (fun b e1 e2 => h.ap b e1 e2)) ks (fun b e1 e2 => by have := (RowO.lt h.r1 e1).1; omega)
  · have := RowO.kept r ks (fun b e1 e2 => by have := (RowO.lt r e1).1; omega)
    simpa using this
  · have h2 := (RowO.lt h.r1 e1).2
    rcases t with t | t | ⟨t, _⟩
    · rw [t] at e2; cases e2
    · rw [t] at e2; exact h.ap b e1 e2
    · rw [t] at e2; cases e2; omega
  · have := h.ge
    have := k.size
    simp
    omega

/-- A volume that is told: its value. -/
theorem Inn.two {wz : World} {on : Bool} {vh vt : Value} {hs : List Bool} {ts : List ByteArray} {w : World} (h : Inn wz on vh vt hs ts w) : ∃ x : Pv, x.data = (on, hs, ts) ∧ x.cells = [.bool on, vh, vt] ∧ Two (wz.heap.size + 1) x w := by
  obtain ⟨a1, c1, rfl, w1⟩ := h.r1.wr
  obtain ⟨a2, c2, rfl, w2⟩ := h.r2.wr
  refine ⟨⟨on, a1, c1, hs, a2, c2, ts⟩, rfl, rfl, ?_, ?_, fun b e1 e2 => ?_⟩
  · unfold BlsW
    simp only [Nat.mul_one] at w1
    exact w1.congr (fun i hi => by simp [List.getD, hi])
  · unfold StrsW
    simp only [Nat.mul_one] at w2
    exact w2.congr (fun i hi => by simp [List.getD, hi])
  · exact h.ap b (RowO.foot h.r1 rfl (by simpa using e1)) (RowO.foot h.r2 rfl (by simpa using e2))

theorem range_more {X : Type} (f : Nat → X) (k : Nat) : (List.range k).map f ++ [f k] = (List.range (k + 1)).map f := by rw [List.range_succ, List.map_append]; rfl

set_option maxRecDepth 100000 in
set_option maxHeartbeats 4000000 in
theorem poolOf (w : World) (a : Option Addr) (cap : Nat) (G : List Nat) (D : List Iv) (S : Ivs w a G D) (hl : G.length ≤ 1048575) :
    Calls Tryz.prog 46 #[.slice a G.length cap] w fun r w' => ∃ a' cap' M, r = .returned (plV a' (M : List Pv).length cap') ∧ PvsW w' w.heap.size a' M ∧ M.map Pv.data = D.map ivData ∧ Below w.heap.size w w' := by
  have HS := hid S
  clear S
  obtain ⟨wa, hwa, ez, A0, C0, B0⟩ := two_new w [.slice none 0 0] [.slice none 0 0] 33 33
  have HA := hid A0
  have HC := hid C0
  have HB := hid B0
  have HZ := hid ez
  clear A0 B0 C0 ez
  go_enter Tryz.func46, Tryz.ntmps46
  go_wp2
  try simp only [hwa]
  clear hwa
  go_loopw [11] (fun i wr => ∃ (k : Nat) (M : List Pv) (v : Value), k ≤ G.length ∧ i = .int .i64 (k : Int) ∧ Hid (M.length = k) ∧ Hid (M.map Pv.data = (D.take k).map ivData) ∧ Hid (Row wr (w.heap.size + 1) [v]) ∧ Hid (Row wr w.heap.size [.slice none 0 0]) ∧ Hid (Grw (w.heap.size + 2) M v wr) ∧ Hid (Below w.heap.size w wr)) (fun i _ => G.length - (intOf i).toNat)
  case atStart => exact ⟨0, [], .slice none 0 0, Nat.zero_le _, rfl, rfl, rfl, HC, HA, grw_none _ _ _ (by have := HZ.out; omega), HB⟩
  case round =>
    obtain ⟨k, M, v, hk, rfl, HN, HD, HO, HR, HG, HW⟩ := hrel
    clear HA HC HB HZ
    obtain ⟨wz, hwz⟩ : ∃ wz, wz = wr := ⟨_, rfl⟩
    subst hwz
    by_cases hlt : k < G.length
    · obtain ⟨b, off, rfl, c0⟩ := (HS.out.below HW.out).row k hlt
      have R := (HS.out.below HW.out).each k hlt
      have hdx : (D.take (k + 1)).map ivData = (D.take k).map ivData ++ [ivData (D.getD k Iv.none)] := by
        have hk2 : k < D.length := by rw [← HS.out.len]; exact hlt
        rw [List.take_add_one, List.map_append, List.getElem?_eq_getElem hk2]
        simp only [Option.toList_some, List.map_cons, List.map_nil, List.getD, List.getElem?_eq_getElem hk2, Option.getD_some]
      replace c0 : wz.cell? ⟨b, off + k, none⟩ = some (.pointer (some ⟨G.getD k 0, 0, none⟩)) := c0
      generalize G.getD k 0 = g at c0 R
      generalize D.getD k Iv.none = d at R hdx
      obtain ⟨on, h, t⟩ := d
      have HDx := hid hdx
      simp only [] at R
      have q0 := R.c 0 rfl
      have q1 := R.c 1 rfl
      have q2 := R.c 2 rfl
      have q3 := R.c 3 rfl
      have q4 := R.c 4 rfl
      have q5 := R.c 5 rfl
      have q6 := R.c 6 rfl
      have q7 := R.c 7 rfl
      have q8 := R.c 8 rfl
      have hgl := R.lt
      obtain ⟨wb, hwb, eb, A1, B1⟩ := one_new wz [.bool on, .slice none 0 0, .slice none 0 0] 65
      have HI : Hid (Inn wz on (.slice none 0 0) (.slice none 0 0) [] [] wb) := ⟨B1, A1, Or.inl ⟨none, rfl, rfl, rfl⟩, Or.inl ⟨none, rfl, rfl, rfl⟩, (fun b e => by cases e), by omega⟩
      have HWb := hid hwb
      clear R A1 B1 eb hdx hwb
      go_wp2
      have hwb := HWb.out
      try simp only [hwb]
      clear hwb HWb q0 q1 q2 q3 q4 q5 q6 q7 q8 c0 hgl
      go_loopw [24] (fun i w5 => ∃ (j : Nat) (vh vt : Value), j ≤ 4 ∧ i = .int .i64 (j : Int) ∧ Hid (Inn wz on vh vt ((List.range j).map h) ((List.range j).map t) w5)) (fun i _ => 4 - (intOf i).toNat)
      case atStart => exact ⟨0, .slice none 0 0, .slice none 0 0, Nat.zero_le _, rfl, HI⟩
      case round =>
        obtain ⟨j, vh, vt, hj, rfl, HJ⟩ := hrel
        clear HI
        by_cases hj4 : j < 4
        · have hix := index_pl h t j hj4
          have HE1 := hid (range_more h j)
          have HE2 := hid (range_more t j)
          have hln1 : ((List.range j).map h).length + 1 ≤ 1048576 := by simp; omega
          have hln2 : ((List.range j).map t).length + 1 ≤ 1048576 := by simp; omega
          generalize (List.range j).map h = hs at *
          generalize (List.range j).map t = ts at *
          generalize h j = hx at *
          generalize t j = tx at *
          obtain ⟨wt, hwt, et, T0, BT⟩ := one_new wr [.bool hx, .string tx] 103
          have HJt := hid (HJ.out.below BT)
          have HT := hid T0
          have x0 := HJt.out.box.c 0 rfl
          have x1 := HJt.out.box.c 1 rfl
          have x2 := HJt.out.box.c 2 rfl
          have t0 := T0.c 0 rfl
          have t1 := T0.c 1 rfl
          have htb : wr.heap.size < wt.heap.size := by omega
          have hzb : wz.heap.size < wr.heap.size := HJ.out.box.lt
          have HTl : Hid (∀ b, rb vh = some b → b < wr.heap.size) := fun b e => (RowO.lt HJ.out.r1 e).2
          clear T0 BT et HJ
          go_wp2_with (at_builtin; first
            | (refine wpList_app 63 4 (.bool false) 1 1 Tryz.underlying63 infoBl rfl (by decide) (by decide) _ rfl (.tmp 28) (.tmp 31) rfl (wz.heap.size + 1) _ hs.length (hs.map .bool) rfl (HJt.out.alloc _).r1 ⟨wt.heap.size, 0, none⟩ 1 1 [.bool hx] rfl rfl (sl_cells wt [.bool hx] 4 1 rfl) (by intro u hu; simp at hu; subst hu; rfl) hln1 (HJt.out.alloc _).ge ?_; intro v1 w1 r1 kk tri; obtain ⟨pa, ca, ea, _⟩ := r1.wr; subst ea; have HM := hid ((HJt.out.alloc _).moreH r1 kk tri); have HTn : Hid (Row (w1.setCell ⟨wz.heap.size, 1, none⟩ (.slice pa (hs.length + 1) ca)) wr.heap.size [.bool hx, .string tx]) := ((HT.out.alloc _).kept kk (fun e => by have := HTl.out _ e; omega)).other (p := ⟨wz.heap.size, 1, none⟩) (by show wr.heap.size ≠ wz.heap.size; omega) _; have y1 := HM.out.1.c 1 rfl; have yf := HM.out.1.f 1; obtain ⟨ws, hws⟩ : ∃ ws, w1.setCell ⟨wz.heap.size, 1, none⟩ (.slice pa (hs.length + 1) ca) = ws := ⟨_, rfl⟩; have HI2 := hid HM.out.2; rw [hws] at HI2 HTn; have s2 := HI2.out.box.c 2 rfl; have u1 := HTn.out.c 1 rfl; clear HM r1 kk tri x0 x1 x2 t0 t1)
            | (refine wpList_app 22 9 (.string ByteArray.empty) 1 16 Tryz.underlying22 info9 rfl (by decide) (by decide) _ rfl (.tmp 35) (.tmp 38) rfl (wz.heap.size + 1) _ ts.length (ts.map .string) rfl (HI2.out.alloc _).r2 ⟨ws.heap.size, 0, none⟩ 1 1 [.string tx] rfl rfl (sl_cells ws [.string tx] 9 1 rfl) (by intro u hu; simp at hu; subst hu; rfl) hln2 (HI2.out.alloc _).ge ?_; intro v2 w2 r2 kk2 tri2; obtain ⟨pb, cb, eb2, _⟩ := r2.wr; subst eb2; have HM2 := hid ((HI2.out.alloc _).moreT r2 kk2 tri2); have y2 := HM2.out.1.c 2 rfl; have yf2 := HM2.out.1.f 2; clear r2 kk2 tri2 s2 u1))
          exact ⟨⟨j + 1, _, _, by omega, by go_num, by rw [← HE1.out, ← HE2.out]; exact HM2.out.2⟩, by simp [intOf]; omega⟩
        · obtain rfl : j = 4 := by omega
          obtain ⟨x, hxd, hxc, hx2⟩ := HJ.out.two
          have HX2 := hid hx2
          have HXd := hid hxd
          have HXc := hid hxc
          have HGr := hid (HG.out.below HJ.out.bel)
          have HOr := hid (HO.out.below HJ.out.bel HO.out.lt)
          have HRr := hid (HR.out.below HJ.out.bel HR.out.lt)
          have HWr := hid (HW.out.trans (HJ.out.bel.mono HW.out.size))
          have y0 := HJ.out.box.c 0 rfl
          have y1 := HJ.out.box.c 1 rfl
          have y2 := HJ.out.box.c 2 rfl
          have o0 := HOr.out.c 0 rfl
          have hml : M.length + 1 ≤ 1048576 := by have := HN.out; omega
          have hzs : wz.heap.size ≤ wz.heap.size + 1 := by omega
          have HZs := hid hzs
          have HJb := hid HJ.out.bel
          clear hx2 hxd hxc HJ hj hj4 hzs
          go_wp2_with (at_builtin; refine wpList_app 31 65 Pv.none.val 3 56 Tryz.underlying31 infoPvI rfl (by decide) (by decide) _ rfl (.tmp 43) (.tmp 45) rfl (w.heap.size + 2) _ M.length (pcs M) rfl (HGr.out.alloc _).row ⟨wr.heap.size, 0, none⟩ 1 1 [.bool on, vh, vt] rfl rfl (sl_cells wr [.bool on, vh, vt] 65 3 rfl) (by rw [← HXc.out]; exact pcells_one x) hml (HGr.out.alloc _).ge ?_; intro v3 w3 r3 kk3 tri3; rw [← HXc.out] at r3; have HG3 := hid (HG.out.more HZs.out (HJb.out.alloc HJb.out.size _) (HX2.out.below ((Below.refl _ _).alloc (Nat.le_refl _) _)) r3 kk3 tri3); have hfar : ∀ b, b < w.heap.size + 2 → ¬ rb v = some b := (fun b hb e => by have := (RowO.lt HG.out.row e).1; omega); have HO3 := hid ((HOr.out.alloc _).kept kk3 (hfar _ (by omega))); have HR3 := hid ((HRr.out.alloc _).kept kk3 (hfar _ (by omega))); have HW3 := hid ((HWr.out.alloc HWr.out.size _).trans (kk3.below (HWr.out.alloc HWr.out.size _).size (fun b hb => hfar b (by omega)))); obtain ⟨pc, cc, ec, _⟩ := r3.wr; subst ec; have z0 := HO3.out.c 0 rfl; have zf := HO3.out.f 0; clear r3 kk3 tri3 hfar)
          refine ⟨⟨k + 1, M ++ [x], _, by omega, by go_num, ?_, ?_, HO3.out.set 0 _, HR3.out.other (p := ⟨w.heap.size + 1, 0, none⟩) (by show w.heap.size ≠ w.heap.size + 1; omega) _, HG3.out.kept (kept_set w3 (w.heap.size + 1) 0 _) (fun b hb => by omega), below_set HW3.out (w.heap.size + 1) 0 _ (by omega)⟩, by simp [intOf]; omega⟩
          · rw [Hid, List.length_append, HN.out]; rfl
          · rw [Hid, HDx.out, List.map_append, HD.out]
            congr 1
            show [x.data] = _
            rw [HXd.out]; rfl
    · obtain rfl : k = G.length := by omega
      have o0 := HO.out.c 0 rfl
      have e0 := HR.out.c 0 rfl
      have ef := HR.out.f 0
      obtain ⟨a', cap', rfl, hP⟩ := HG.out.whole
      have HP := hid hP
      clear hP
      go_wp2
      refine bodyPost_ret (results_row rfl _ _ w.heap.size [.slice a' M.length cap'] _ rfl (HR.out.set 0 _) Tryz.underlying33 rfl (by kernel_rfl)) rfl ?_
      refine ⟨a', cap', M, rfl, ?_, ?_, below_set HW.out w.heap.size 0 _ (Nat.le_refl _)⟩
      · exact (HP.out.kept (kept_set wz w.heap.size 0 _) (fun b hb => by omega)).mono (by omega)
      · have h1 := HD.out
        rw [HS.out.len, List.take_length] at h1
        exact h1

end Go.Proofs.YtlbfcnpnfoapnaaGreatDoor.Pl

namespace Go.Proofs.YtlbfcnpnfoapnaaGreatDoor.Sec
open Go.RowKit Go.Proofs.YtlbfcnpnfoapnaaGreatDoor.Mem
set_option linter.unusedVariables false

end Go.Proofs.YtlbfcnpnfoapnaaGreatDoor.Sec
