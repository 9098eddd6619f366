/-
  Plain: what the text of each kind of sector is. No condition.
  The walks of spec.Fixed and impl.Fixed: both give the width lowest bytes of n, the highest first, or the empty text. No condition.
  The walk of impl.Fixed where the number fits.
  The walk of laws.FnExactFixed: at every number and width the law answers true, and nothing that was there is changed. No condition.
  The walk of impl.Crc: where its table holds the sixteen sums, it gives the sum of the text. No other condition but a text of at most 2^47 bytes.
  A region that draws its order, whose operations read and whose callees read or lay new blocks alone, walked once. No condition.
  The walks of spec.SectorOf and impl.SectorOf: both give a sector's place, -1 where there is none. Condition: the table of the kinds' sizes holds what the program's text lays.
  The walks of small parts of chapter 4: bounds, leases, Vars, sums, on both sides. Condition for impl's sum: the table of sixteen sums holds what the program's text lays.
  The walks of spec.l4Lease, impl.isLease, spec.l4ShowLease and impl.showLease. No condition.
  The walks of spec.ShowHost and impl.ShowHost: both give a host's text. Condition for impl's: the table of sixteen sums holds what the program's text lays.
  The walks of impl.ShowHost and of laws.FnExactShowHost: the law answers true, and nothing that was there is changed. Condition: the table of sixteen sums holds what the program's text lays.
  The walks of impl.hostParts, impl.readKind at a host's sector, and impl.ReadHost. Condition: the table of sixteen sums and the error of a part that lacks stand in their variables.
  The walk of laws.eqLease: a lease is itself. No condition.
  The walks of impl.ReadHost, spec.ReadHost and laws.FnExactReadHost: the law answers true, and nothing that was there is changed. Condition: the table of sixteen sums and the error of a part that lacks stand in their variables.
  The walk of the cursor's numbers: a list of numbers, or a part lacks. Condition: the error of a part that lacks stands in its variable.
  The numbers of (*strings.Builder).WriteString and String and their callees in this program, for the library's contracts of them. No condition.
  The walks of (*strings.Builder).copyCheck and WriteString in this program, and String by the library's own contract: a builder takes a text behind what it holds, and gives what it holds. No condition but lengths that Go can hold.
  The walks of impl.areFrom, impl.showNumbers, spec.l4Block, spec.l4Flag and impl.showFlag. No condition but short lists.
  The walks of spec.ShowFrees and impl.ShowFrees: both give the text of freed blocks. Condition for impl's: the table of sixteen sums holds what the program's text lays.
-/
import Derived.Test.YtjlkighikfgaeaaGreatDoorJoin1
import Derived.Test.YtjlkighikfgaeaaGreatDoorRows
import Derived.WalkKit
import Derived.WalkSpells
import Derived.WalkLawsBesides
import Derived.Outline
import Derived.RegionTactic
import Derived.BigRegion
import Derived.ChangeAlike
import Derived.BigQuiet
import Derived.Laws.StructEq
import Derived.Tactics
import Derived.Tactics2
import Derived.Defers
import Derived.Recover
import Derived.Laws.ResultCell
import Derived.Shelf.Strings.Builder1
import Derived.Test.YtjlkighikfgaeaaGreatDoorProg
namespace Go.Proofs.YtjlkighikfgaeaaGreatDoor.Sec
open Go.Proofs.YtjlkighikfgaeaaGreatDoor.Var (varS varL)
open Go.Proofs.YtjlkighikfgaeaaGreatDoor.Fix (fxS fxS_size)
open Go.Proofs.YtjlkighikfgaeaaGreatDoor.Crc (sumAt sumAt_lt)

/-- The Var of a number; no byte out of its bounds. -/
def vr (n : Int) : ByteArray := if 0 ≤ n ∧ n ≤ 562949953421311 then varS n else ⟨#[]⟩

/-- The sum of a text. -/
def crc (s : ByteArray) : Int := ((4294967295 - sumAt s s.size : Nat) : Int)

theorem crc_bd (s : ByteArray) : 0 ≤ crc s ∧ crc s < 4294967296 := by unfold crc; omega

/-- A text with its sum ahead. -/
def summed (s : ByteArray) : ByteArray := fxS (crc s) 4 ++ s

theorem varL_len : ∀ (f : Nat) (q : Int), (varL f q).length ≤ f
  | 0, q => by simp [varL]
  | f + 1, q => by
    unfold varL
    split
    · simp [varL_len f]
    · simp

theorem vr_size (n : Int) : (vr n).size ≤ 7 := by
  unfold vr
  split
  · unfold varS; rw [strOfNums_size]; exact varL_len 7 n
  · exact Nat.zero_le _

/-- A lease that is right. -/
def lsOk (h e : Int) : Bool := decide ((h = -1 ∧ e = 0) ∨ ((0 ≤ h ∧ h < 3) ∧ (1 ≤ e ∧ e ≤ 100000)))

def showLs (h e : Int) : ByteArray := vr (h + 1) ++ vr e

theorem showLs_size (h e : Int) : (showLs h e).size ≤ 14 := by
  have h1 := vr_size (h + 1)
  have h2 := vr_size e
  unfold showLs
  rw [ByteArray.size_append]; omega

theorem ls_bd {h e : Int} (x : lsOk h e = true) : -1 ≤ h ∧ h < 3 := by
  unfold lsOk at x
  have := of_decide_eq_true x
  omega

/-- The Vars of numbers, each by how far it is above the lowest one, one behind the other. -/
def vrs (lo : Int) (l : List Int) : ByteArray := l.foldl (fun s n => s ++ vr (n - lo)) ⟨#[]⟩

def one (c : UInt8) : ByteArray := ⟨#[c]⟩

def flag (b : Bool) : ByteArray := vr (if b then 1 else 0)

def between (lo hi : Int) (l : List Int) : Bool := l.all fun n => decide (lo ≤ n ∧ n ≤ hi)

def hostOk (b h e : Int) : Bool := decide (0 ≤ b ∧ b ≤ 1000000) && lsOk h e
def showHost (b h e : Int) : ByteArray := if hostOk b h e then summed (one 104 ++ vr b ++ showLs h e) else ⟨#[]⟩

def freesOk (l : List Int) : Bool := decide (l.length ≤ 12) && between 0 17 l
def showFrees (l : List Int) : ByteArray := if freesOk l then summed (one 102 ++ vr l.length ++ vrs 0 l) else ⟨#[]⟩

def groupOk (h e : Int) (l : List Int) : Bool := lsOk h e && decide (l.length = 6) && between 0 16 l
def showGroup (h e : Int) (l : List Int) : ByteArray := if groupOk h e l then summed (one 103 ++ showLs h e ++ vrs 0 l) else ⟨#[]⟩

def volOk (h e : Int) (on : Bool) (l : List Int) : Bool := lsOk h e && decide (l.length = 4) && between (-1) (if on then 17 else -1) l
def showVol (h e : Int) (on : Bool) (l : List Int) : ByteArray := if volOk h e on l then summed (one 118 ++ showLs h e ++ flag on ++ vrs (-1) l) else ⟨#[]⟩

theorem foldl_size (lo : Int) : ∀ (l : List Int) (s : ByteArray), (l.foldl (fun s n => s ++ vr (n - lo)) s).size ≤ s.size + 7 * l.length
  | [], s => by simp
  | n :: l, s => by
    have := foldl_size lo l (s ++ vr (n - lo))
    have h := vr_size (n - lo)
    rw [ByteArray.size_append] at this
    simp only [List.foldl_cons, List.length_cons]
    omega

theorem vrs_size (lo : Int) (l : List Int) : (vrs lo l).size ≤ 7 * l.length := by
  have := foldl_size lo l ⟨#[]⟩
  have e : (⟨#[]⟩ : ByteArray).size = 0 := rfl
  unfold vrs; omega

theorem empty_append (s : ByteArray) : (⟨#[]⟩ : ByteArray) ++ s = s := by
  apply ByteArray.ext; simp [ByteArray.data_append]
theorem append_empty (s : ByteArray) : s ++ (⟨#[]⟩ : ByteArray) = s := by
  apply ByteArray.ext; simp [ByteArray.data_append]
theorem append_assoc (a b c : ByteArray) : a ++ b ++ c = a ++ (b ++ c) := by
  apply ByteArray.ext; simp [ByteArray.data_append]

theorem foldl_from (lo : Int) : ∀ (l : List Int) (s : ByteArray), l.foldl (fun s n => s ++ vr (n - lo)) s = s ++ vrs lo l
  | [], s => by simp [vrs, append_empty]
  | n :: l, s => by
    unfold vrs
    simp only [List.foldl_cons]
    rw [foldl_from lo l (s ++ vr (n - lo)), foldl_from lo l (⟨#[]⟩ ++ vr (n - lo)), empty_append, append_assoc]

theorem vrs_take (lo : Int) (l : List Int) (k : Nat) (h : k < l.length) : vrs lo (l.take (k + 1)) = vrs lo (l.take k) ++ vr (l.getD k 0 - lo) := by
  unfold vrs
  rw [List.take_add_one, List.foldl_append]
  simp [List.getD, h]

theorem vrs_all (lo : Int) (l : List Int) : vrs lo (l.take l.length) = vrs lo l := by rw [List.take_length]

theorem between_take (lo hi : Int) (l : List Int) (k : Nat) (h : k < l.length) : between lo hi (l.take (k + 1)) = (between lo hi (l.take k) && decide (lo ≤ l.getD k 0 ∧ l.getD k 0 ≤ hi)) := by
  unfold between
  rw [List.take_add_one, List.all_append]
  simp [List.getD, h]

theorem between_no (lo hi : Int) (l : List Int) (k : Nat) (h : k < l.length) (hn : ¬ (lo ≤ l.getD k 0 ∧ l.getD k 0 ≤ hi)) : between lo hi l = false := by
  unfold between
  rw [List.all_eq_false]
  refine ⟨l.getD k 0, ?_, by simpa using hn⟩
  simp [List.getD, h]

theorem between_getD {lo hi : Int} {l : List Int} (h : between lo hi l = true) (k : Nat) (hk : k < l.length) : lo ≤ l.getD k 0 ∧ l.getD k 0 ≤ hi := by
  unfold between at h
  rw [List.all_eq_true] at h
  have := h (l.getD k 0) (by simp [List.getD, hk])
  simpa using this

end Go.Proofs.YtjlkighikfgaeaaGreatDoor.Sec

namespace Go.Proofs.YtjlkighikfgaeaaGreatDoor.Fix
open Go.RowKit
set_option linter.unusedVariables false

set_option maxHeartbeats 400000 in
theorem spec_no (N : Int) (n : Int) (w : World) (h : n < 1 ∨ 7 < n ∨ N < 0) :
    Calls Tryz.prog 174 #[.int .i64 N, .int .i64 n] w fun e w' => e = .returned (.string ⟨#[]⟩) ∧ Below w.heap.size w w' := by
  by_cases h1 : n < 1
  · have h1' : ¬ 1 ≤ n := by omega
    go_enter Tryz.func174, Tryz.ntmps174
    go_wp2
    go_ret
    exact ⟨rfl, Below.refl _ _⟩
  · have h1' : 1 ≤ n := by omega
    by_cases h2 : 7 < n
    · have h2' : ¬ n ≤ 7 := by omega
      go_enter Tryz.func174, Tryz.ntmps174
      go_wp2
      go_ret
      exact ⟨rfl, Below.refl _ _⟩
    · have h2' : n ≤ 7 := by omega
      have h3 : N < 0 := by omega
      go_enter Tryz.func174, Tryz.ntmps174
      go_wp2
      go_ret
      exact ⟨rfl, Below.refl _ _⟩

set_option maxHeartbeats 400000 in
theorem impl_no (N : Int) (n : Int) (w : World) (h : n < 1 ∨ 7 < n ∨ N < 0) :
    Calls Tryz.prog 192 #[.int .i64 N, .int .i64 n] w fun e w' => e = .returned (.string ⟨#[]⟩) ∧ Below w.heap.size w w' := by
  by_cases h1 : n < 1
  · have h1' : ¬ 1 ≤ n := by omega
    go_enter Tryz.func192, Tryz.ntmps192
    go_wp2
    go_ret
    exact ⟨rfl, Below.refl _ _⟩
  · have h1' : 1 ≤ n := by omega
    by_cases h2 : 7 < n
    · have h2' : ¬ n ≤ 7 := by omega
      go_enter Tryz.func192, Tryz.ntmps192
      go_wp2
      go_ret
      exact ⟨rfl, Below.refl _ _⟩
    · have h2' : n ≤ 7 := by omega
      have h3 : N < 0 := by omega
      go_enter Tryz.func192, Tryz.ntmps192
      go_wp2
      go_ret
      exact ⟨rfl, Below.refl _ _⟩

theorem ret_str {a b : ByteArray} (h : a = b) : Ending.returned (.string a) = .returned (.string b) := by rw [h]

/-- What both give within the bounds. -/
def fixed (N : Int) (n : Nat) : ByteArray := if 0 < N / 256 ^ n then ⟨#[]⟩ else fxS N n

set_option maxHeartbeats 400000 in
theorem spec_yes (N : Int) (n : Nat) (w : World) (h1 : 1 ≤ (n : Int)) (h7 : (n : Int) ≤ 7) (hN : 0 ≤ N) (hM : N ≤ 9223372036854775807) :
    Calls Tryz.prog 174 #[.int .i64 N, .int .i64 n] w fun e w' => e = .returned (.string (fixed N n)) ∧ Below w.heap.size w w' := by
  go_enter Tryz.func174, Tryz.ntmps174
  go_wp2
  go_loopw [0, 5, 6] (fun x s i wr => ∃ k : Nat, k ≤ n ∧ i = .int .i64 k ∧ s = .string (fxS N k) ∧ x = .int .i64 (N / 256 ^ k) ∧ Below w.heap.size w wr) (fun _ _ i _ => n - (intOf i).toNat)
  case atStart => exact ⟨0, Nat.zero_le _, rfl, rfl, by simp, Below.refl _ _⟩
  case round =>
    obtain ⟨k, hk, rfl, rfl, rfl, hbel⟩ := hrel
    have hq := div_bd N k hN hM
    have HS := div_succ N k
    have HT := fxS_succ N k
    generalize hx : N / 256 ^ k = q at *
    have hsz := fxS_size N k
    by_cases hlt : k < n
    · generalize hy : fxS N k = t at *
      have H1 : Hid (q / 256 = N / 256 ^ (k + 1)) := HS
      have H2 : Hid (strOfNums [q % 256] ++ t = fxS N (k + 1)) := HT
      clear HS HT hx hy
      have hcv := fun (b len : Nat) (x : Int) (wx : World) (hc : wx.cell? ⟨b, 0, none⟩ = some (.int .u8 x)) => run_convert_bytes_arg (P := Tryz.prog) wx 22 5 Tryz.underlying22 Tryz.underlying5 b 0 1 len [x] rfl (fun i hi => by obtain rfl : i = 0 := (by omega); simpa using hc) 9 Tryz.underlying9
      have hone := str_one (q % 256)
      go_wp2
      go_roundw
      case rel => exact ⟨k + 1, by omega, by go_num, by rw [H2.out], by rw [H1.out], hbel.alloc hbel.size _⟩
      case measure => simp [intOf]; omega
    · obtain rfl : k = n := by omega
      have H1 : Hid (N / 256 ^ k = q) := hx
      clear HS HT hx
      by_cases hp : 0 < q
      · have H2 : Hid (fixed N k = ⟨#[]⟩) := by show fixed N k = _; unfold fixed; rw [H1.out, if_pos hp]
        go_wp2
        go_ret
        exact ⟨ret_str H2.out.symm, hbel⟩
      · have H2 : Hid (fixed N k = fxS N k) := by show fixed N k = _; unfold fixed; rw [H1.out, if_neg hp]
        go_wp2
        go_ret
        exact ⟨ret_str H2.out.symm, hbel⟩

set_option maxHeartbeats 400000 in
theorem impl_great (N : Int) (n : Nat) (w : World) (h1 : 1 ≤ (n : Int)) (h7 : (n : Int) ≤ 7) (hN : 0 ≤ N) (hM : N ≤ 9223372036854775807) (hg : 0 < N / 256 ^ n) :
    Calls Tryz.prog 192 #[.int .i64 N, .int .i64 n] w fun e w' => e = .returned (.string ⟨#[]⟩) ∧ Below w.heap.size w w' := by
  have ht : (N / 2 ^ (8 * n) != 0) = true := by rw [pow_pow]; simp; omega
  clear hg
  go_enter Tryz.func192, Tryz.ntmps192
  go_wp2
  go_ret
  exact ⟨rfl, Below.refl _ _⟩

end Go.Proofs.YtjlkighikfgaeaaGreatDoor.Fix

namespace Go.Proofs.YtjlkighikfgaeaaGreatDoor.Fix
open Go.RowKit
set_option linter.unusedVariables false
theorem info5 : (Tryz.prog.info? 5).map (fun i => (i.zero, i.size, i.bytes)) = some (some (.int .u8 0), 1, 1) := by kernel_rfl

set_option maxRecDepth 100000 in
set_option maxHeartbeats 1000000 in
theorem impl_fits (N : Int) (n : Nat) (w : World) (h1 : 1 ≤ (n : Int)) (h7 : (n : Int) ≤ 7) (hN : 0 ≤ N) (hM : N ≤ 9223372036854775807) (hg : ¬ 0 < N / 256 ^ n) :
    Calls Tryz.prog 192 #[.int .i64 N, .int .i64 n] w fun e w' => e = .returned (.string (fxS N n)) ∧ Below w.heap.size w w' := by
  have ht : (N / 2 ^ (8 * n) != 0) = false := by
    have := (div_bd N n hN hM).1
    rw [pow_pow]; simp; omega
  clear hg
  obtain ⟨i5, j1, j2, j3, j4⟩ := info_parts info5
  go_enter Tryz.func192, Tryz.ntmps192
  go_wp2_with (first | (at_make; refine wpList_make_full _ rfl _ _ 22 rfl w.heap.size 5 i5 (.int .u8 0) 1 Tryz.underlying22 j1 j2 j3 .i64 .i64 n n n rfl rfl rfl rfl ?b2 ?b3 ?b4 ?_) | go_in)
  case b2 => rw [j4]; omega
  case b3 => unfold maxLen; omega
  case b4 => omega
  intro w1 hown hgr
  have hbel1 : Below w.heap.size w w1 := (Below.refl _ _).grown hgr (Nat.le_refl _) (by simp)
  rw [toList_madeCells_one, ← rowL_zero N n] at hown
  clear hgr ht
  go_wp2
  go_loopw [24] (fun i wr => ∃ k : Nat, k ≤ n ∧ i = .int .i64 k ∧ wr.ownsRow w.heap.size 5 1 (.slice (some ⟨w.heap.size, 0, none⟩) n n) n (rowL N n k) ∧ Below w.heap.size w wr) (fun i _ => n - (intOf i).toNat)
  case atStart => exact ⟨0, Nat.zero_le _, rfl, hown, hbel1⟩
  case round =>
    clear hown hbel1
    obtain ⟨k, hk, rfl, hown, hbel⟩ := hrel
    by_cases hlt : k < n
    · have hq := div_bd N k hN hM
      have hc := hown.cellAt (n - 1 - k) (by omega)
      have hf := hown.frozenAt (n - 1 - k)
      rw [List.getElem?_eq_getElem (by rw [rowL_length N n k hk]; omega)] at hc
      go_wp2
      exact ⟨⟨k + 1, by omega, by go_num, by rw [pow_pow, ← rowL_succ N n k hlt]; exact (hown.stored _ _).1, hbel.setCell (Nat.le_refl _) _⟩, by simp [intOf]; omega⟩
    · obtain rfl : k = n := by omega
      rw [rowL_end] at hown
      have hcv := Own.conv_own 22 Tryz.underlying22 Tryz.underlying5 Tryz.underlying9 hown (fxL_length N k)
      go_wp2
      go_ret
      exact ⟨rfl, hbel⟩

end Go.Proofs.YtjlkighikfgaeaaGreatDoor.Fix

namespace Go.Proofs.YtjlkighikfgaeaaGreatDoor.Fix
open Go.RowKit

set_option maxHeartbeats 400000 in
theorem impl_yes (N : Int) (n : Nat) (w : World) (h1 : 1 ≤ (n : Int)) (h7 : (n : Int) ≤ 7) (hN : 0 ≤ N) (hM : N ≤ 9223372036854775807) :
    Calls Tryz.prog 192 #[.int .i64 N, .int .i64 n] w fun e w' => e = .returned (.string (fixed N n)) ∧ Below w.heap.size w w' := by
  unfold fixed
  by_cases hg : 0 < N / 256 ^ n
  · rw [if_pos hg]; exact impl_great N n w h1 h7 hN hM hg
  · rw [if_neg hg]; exact impl_fits N n w h1 h7 hN hM hg

end Go.Proofs.YtjlkighikfgaeaaGreatDoor.Fix

namespace Go.Proofs.YtjlkighikfgaeaaGreatDoor.Crc
open Go.RowKit Go.Proofs.YtjlkighikfgaeaaGreatDoor.CrcNum
set_option linter.unusedVariables false

theorem wrap_u32_of (n : Int) (h0 : 0 ≤ n) (h1 : n < 4294967296) : IntKind.u32.wrap n = n := by
  simp [IntKind.wrap, IntKind.bits, IntKind.signed]
  omega

/-- xor of two numbers of 32 bits. -/
theorem xor_u32 (a b : Nat) (ha : a < 4294967296) (hb : b < 4294967296) : bits .xor .u32 (a : Int) (b : Int) = ((a ^^^ b : Nat) : Int) := by
  have hx : a ^^^ b < 2 ^ 32 := Nat.xor_lt_two_pow (by omega) (by omega)
  have h1 : (BitVec.ofInt 32 (a : Int)).toNat = a := by
    rw [BitVec.ofInt_natCast, BitVec.toNat_ofNat]; exact Nat.mod_eq_of_lt (by omega)
  have h2 : (BitVec.ofInt 32 (b : Int)).toNat = b := by
    rw [BitVec.ofInt_natCast, BitVec.toNat_ofNat]; exact Nat.mod_eq_of_lt (by omega)
  show IntKind.u32.wrap ((BitVec.ofInt 32 (a : Int) ^^^ BitVec.ofInt 32 (b : Int)).toNat : Int) = _
  rw [BitVec.toNat_xor, h1, h2]
  exact wrap_u32_of _ (by omega) (by omega)

theorem and_u32 (a : Nat) (ha : a < 4294967296) : bits .and .u32 (a : Int) 15 = ((a % 16 : Nat) : Int) := by
  have hm : (BitVec.ofInt 32 15).toNat = 2 ^ 4 - 1 := by decide
  have h1 : (BitVec.ofInt 32 (a : Int)).toNat = a := by
    rw [BitVec.ofInt_natCast, BitVec.toNat_ofNat]; exact Nat.mod_eq_of_lt (by omega)
  show IntKind.u32.wrap ((BitVec.ofInt 32 (a : Int) &&& BitVec.ofInt 32 15).toNat : Int) = _
  rw [BitVec.toNat_and, h1, hm, Nat.and_two_pow_sub_one_eq_mod]
  exact wrap_u32_of _ (by omega) (by omega)

theorem look_u32 (c : Nat) (h : c < 4294967296) : bits .xor .u32 ((c : Int) / 16) (halves 4 (c % 16) : Int) = (halves 4 c : Int) := by
  have e := xor_u32 (c / 16) (halves 4 (c % 16)) (by omega) (halves_lt 4 _ (by omega))
  rw [halves4 c, ← e]
  rfl

/-- What the table holds, in world w. -/
def Tab (w : World) : Prop := ∀ k, k < 16 → w.cell? ⟨2, k, none⟩ = some (.int .u32 (halves 4 k : Int))

/-- The running sum c stands in block cb of world w, and below that block w is as w0. -/
structure Box (w0 : World) (cb c : Nat) (w : World) : Prop where
  blk : w.heap[cb]? = some (.cells #[.int .u32 (c : Int)] 215 (0, 0))
  bel : Below cb w0 w

theorem Box.cell {w0 w : World} {cb c : Nat} (B : Box w0 cb c w) : w.cell? ⟨cb, 0, none⟩ = some (.int .u32 (c : Int)) := by
  rw [cell_of_row w cb 0 _ _ (0, 0) B.blk]; rfl
theorem Box.f {w0 w : World} {cb c : Nat} (B : Box w0 cb c w) : w.frozen? ⟨cb, 0, none⟩ = false := frozen_of_row w cb 0 _ _ B.blk

theorem Box.set {w0 w : World} {cb c : Nat} (B : Box w0 cb c w) (c' : Nat) : Box w0 cb c' (w.setCell ⟨cb, 0, none⟩ (.int .u32 (c' : Int))) := by
  refine ⟨?_, ?_⟩
  · have b1 := heap_setCell_same w cb 0 _ _ (.int .u32 (c' : Int)) B.blk
    simpa using b1
  · refine B.bel.trans ⟨rfl, rfl, rfl, by simp, fun k hk => heap_setCell_other w ⟨cb, 0, none⟩ k _ (fun e => ?_)⟩
    have e' : k = cb := e
    omega

theorem Box.drew {w0 w : World} {cb c : Nat} (B : Box w0 cb c w) : Box w0 cb c w.drew :=
  ⟨B.blk, B.bel.trans ⟨rfl, rfl, rfl, Nat.le_refl _, fun _ _ => rfl⟩⟩

theorem Box.tab {w0 w : World} {cb c : Nat} (B : Box w0 cb c w) (T : Tab w0) (hcb : 2 < cb) : Tab w := fun k hk => by
  rw [B.bel.cell (p := ⟨2, k, none⟩) hcb]; exact T k hk

set_option maxRecDepth 100000 in
set_option maxHeartbeats 1000000 in
theorem halve (w0 w : World) (cb c : Nat) (hc : c < 4294967296) (B : Box w0 cb c w) (T : Tab w0) (hcb : 2 < cb) :
    Calls Tryz.prog 209 #[.pointer (some ⟨cb, 0, none⟩)] w fun e w' => e = .returned (.tuple #[]) ∧ Box w0 cb (halves 4 c) w' := by
  have ha := and_u32 c hc
  have hl := look_u32 c hc
  have ht := B.tab T hcb (c % 16) (by omega)
  have h16 : c % 16 < 16 := by omega
  have h16i : ((c % 16 : Nat) : Int) < 16 := by omega
  have hcell := B.cell
  have hf := B.f
  have HB := hid B
  clear B T hcb
  go_enter Tryz.func209, Tryz.ntmps209
  go_wp2
  go_region
  all_goals (go_end0)
  exact ⟨rfl, (HB.out.set _).drew⟩

set_option maxRecDepth 100000 in
set_option maxHeartbeats 1000000 in
theorem add_byte (w0 w : World) (cb c b : Nat) (hc : c < 4294967296) (hb : b < 256) (B : Box w0 cb c w) (T : Tab w0) (hcb : 2 < cb) :
    Calls Tryz.prog 206 #[.pointer (some ⟨cb, 0, none⟩), .int .u8 (b : Int)] w fun e w' => e = .returned (.tuple #[]) ∧ Box w0 cb (halves 8 (c ^^^ b)) w' := by
  have hx := xor_u32 c b hc (by omega)
  have HL := hid (Nat.xor_lt_two_pow (n := 32) (x := c) (y := b) (by omega) (by omega))
  have hcell := B.cell
  have hf := B.f
  have HB := hid B
  have HT := hid T
  have HC := hid hcb
  have HE := hid (halves_add 4 4 (c ^^^ b))
  clear B T hcb
  go_enter Tryz.func206, Tryz.ntmps206
  go_wp2_with fail
  refine (halve w0 _ cb (c ^^^ b) HL.out (HB.out.set _) HT.out HC.out).mono ?_
  rintro e w1 ⟨rfl, hB1⟩
  have HB1 := hid hB1
  clear hB1
  go_wp2_with fail
  refine (halve w0 _ cb _ (halves_lt 4 _ HL.out) HB1.out HT.out HC.out).mono ?_
  rintro e w2 ⟨rfl, hB2⟩
  rw [← HE.out] at hB2
  have HB2 := hid hB2
  clear hB2
  go_wp2
  go_end0
  exact ⟨rfl, HB2.out⟩

set_option maxHeartbeats 1000000 in
theorem end_ (c : Nat) (w : World) (hc : c < 4294967296) :
    Calls Tryz.prog 207 #[.int .u32 (c : Int)] w fun e w' => e = .returned (.int .i64 ((4294967295 - c : Nat) : Int)) ∧ w' = w := by
  go_enter Tryz.func207, Tryz.ntmps207
  go_wp2
  go_ret
  refine ⟨?_, rfl⟩
  show Ending.returned (.int .i64 (4294967295 - (c : Int))) = _
  rw [show ((4294967295 - c : Nat) : Int) = 4294967295 - (c : Int) by omega]

theorem box_new (w : World) : Box w w.heap.size 4294967295 (w.alloc (.cells #[.int .u32 4294967295] 215)) :=
  ⟨heap_alloc_new w _, (Below.refl _ _).alloc (Nat.le_refl _) _⟩

set_option maxRecDepth 100000 in
set_option maxHeartbeats 1000000 in
theorem impl_crc (s : ByteArray) (w : World) (hs : s.size ≤ maxLen) (T : Tab w) (hcb : 2 < w.heap.size) :
    Calls Tryz.prog 193 #[.string s] w fun e w' => e = .returned (.int .i64 ((4294967295 - sumAt s s.size : Nat) : Int)) ∧ Below w.heap.size w w' := by
  unfold maxLen at hs
  have HT := hid T
  have HC := hid hcb
  have HN := hid (box_new w)
  clear T hcb
  go_enter Tryz.func193, Tryz.ntmps193
  go_wp2
  go_loopw [7] (fun i wr => ∃ k : Nat, k ≤ s.size ∧ i = .int .i64 (k : Int) ∧ Hid (Box w w.heap.size (sumAt s k) wr)) (fun i _ => s.size - (intOf i).toNat)
  case atStart => exact ⟨0, Nat.zero_le _, rfl, HN.out⟩
  case round =>
    obtain ⟨k, hk, rfl, HB⟩ := hrel
    have hc := sumAt_lt s k
    by_cases hlt : k < s.size
    · have hb : s[k].toNat < 256 := s[k].toNat_lt
      have HS := hid (sumAt_succ s k hlt)
      go_wp2_with fail
      refine (add_byte w _ w.heap.size (sumAt s k) s[k].toNat hc hb HB.out HT.out HC.out).mono ?_
      rintro e w1 ⟨rfl, hB1⟩
      rw [← HS.out] at hB1
      have HB1 := hid hB1
      clear hB1
      go_wp2
      go_roundw
      case rel => exact ⟨k + 1, by omega, by go_num, HB1⟩
      case measure => simp [intOf]; omega
    · obtain rfl : k = s.size := by omega
      have hcell := HB.out.cell
      go_wp2_with fail
      refine (end_ (sumAt s s.size) _ hc).mono ?_
      rintro e w1 ⟨rfl, hw⟩
      subst hw
      go_wp2
      go_ret
      exact ⟨rfl, HB.out.bel⟩

end Go.Proofs.YtjlkighikfgaeaaGreatDoor.Crc

namespace Go.Proofs.YtjlkighikfgaeaaGreatDoor.Mem
open Go.RowKit

/-- A world in which nothing that was there in wa has turned. -/
structure BW (wa : World) : Type where
  val : World
  bel : Below wa.heap.size wa val

theorem BW.cell {wa : World} {p : Addr} {v : Value} (h : wa.cell? p = some v) (u : BW wa) : u.val.cell? p = some v :=
  (u.bel.cell (World.block_lt_of_cell? wa _ h)).trans h

theorem wp_region_bw {P : Program} {id : Nat} {Q : Exit → Act → World → Prop} {a : Act} {wa : World} {l : List Oper} (hm : P.follows .mixedOrders = true) (hB : Region.lexB .any l.toArray = true)
    (h : wpQuiet P l.toArray (fun w' => ∃ u : BW wa, w' = u.val) (fun a' => ∀ w', (∃ u : BW wa, w' = u.val) → Q .normal a' w') l a) : (Code.region id l.toArray true).wp P Q a wa :=
  wp_region_quiet (C := fun w' => ∃ u : BW wa, w' = u.val) hm hB ⟨⟨wa.drew, (Below.refl _ wa).drew⟩, rfl⟩ (by simpa using h)

theorem bw_same {P : Program} {f : FuncId} {args : Array Value} {wa : World} {u : BW wa} {v : Value} (h : Calls P f args u.val fun e w' => e = .returned v ∧ w' = u.val) :
    Calls P f args u.val fun e w'' => e = .returned v ∧ ∃ u' : BW wa, w'' = u'.val := h.mono fun _ _ ⟨he, hm⟩ => ⟨he, u, hm⟩

theorem bw_below {P : Program} {f : FuncId} {args : Array Value} {wa : World} {u : BW wa} {v : Value} (h : Calls P f args u.val fun e w' => e = .returned v ∧ Below u.val.heap.size u.val w') :
    Calls P f args u.val fun e w'' => e = .returned v ∧ ∃ u' : BW wa, w'' = u'.val := h.mono fun _ w' ⟨he, hm⟩ => ⟨he, ⟨w', u.bel.trans (hm.mono u.bel.size)⟩, rfl⟩

end Go.Proofs.YtjlkighikfgaeaaGreatDoor.Mem

namespace Go.Proofs.YtjlkighikfgaeaaGreatDoor.Sector
open Go.RowKit Go.Proofs.YtjlkighikfgaeaaGreatDoor.Mem
set_option linter.unusedVariables false

def many : List Int := [3, 3, 3, 4, 3, 18]
def S (k : Nat) : Int := (many.take k).sum
def sectorOf (kind i : Int) : Int := if (0 ≤ kind ∧ kind < 6) ∧ 0 ≤ i ∧ i < many.getD kind.toNat 0 then i + S kind.toNat else -1

theorem S_succ : ∀ k, k < 6 → S (k + 1) = S k + many.getD k 0 := by decide
theorem S_bd : ∀ k, k < 7 → 0 ≤ S k ∧ S k ≤ 34 := by decide
theorem many_bd : ∀ k, k < 6 → 3 ≤ many.getD k 0 ∧ many.getD k 0 ≤ 18 := by decide

theorem no1 (kind i : Int) (h : ¬ (0 ≤ kind ∧ kind < 6)) : sectorOf kind i = -1 := if_neg (fun x => h x.1)
theorem no2 (kind i : Int) (h : ¬ 0 ≤ i) : sectorOf kind i = -1 := if_neg (fun x => h x.2.1)
theorem no3 (k : Nat) (i : Int) (h : ¬ i < many.getD k 0) : sectorOf k i = -1 := if_neg (fun x => h (by simpa using x.2.2))
theorem yes (k : Nat) (i : Int) (hk : (k : Int) < 6) (h0 : 0 ≤ i) (h : i < many.getD k 0) : sectorOf k i = i + S k := by
  unfold sectorOf
  rw [if_pos ⟨⟨by omega, hk⟩, h0, by simpa using h⟩]; rfl

/-- What the table of the kinds' sizes holds, in world w. -/
def Kinds (w : World) : Prop := ∀ k, k < 6 → w.cell? ⟨0, k, none⟩ = some (.int .i64 (many.getD k 0))

set_option maxRecDepth 100000 in
set_option maxHeartbeats 1000000 in
theorem impl_sector (kind i : Int) (w : World) (T : Kinds w) :
    Calls Tryz.prog 39 #[.int .i64 kind, .int .i64 i] w fun e w' => e = .returned (.int .i64 (sectorOf kind i)) ∧ w' = w := by
  by_cases h1 : kind < 0
  · rw [no1 kind i (by omega)]
    go_enter Tryz.func39, Tryz.ntmps39
    go_wp2
    go_ret
    exact ⟨rfl, rfl⟩
  by_cases h2 : 6 ≤ kind
  · rw [no1 kind i (by omega)]
    go_enter Tryz.func39, Tryz.ntmps39
    go_wp2
    go_ret
    exact ⟨rfl, rfl⟩
  obtain ⟨n, rfl⟩ : ∃ n : Nat, kind = (n : Int) := Int.eq_ofNat_of_zero_le (by omega)
  have hn : (n : Int) < 6 := by omega
  clear h1 h2
  by_cases h3 : i < 0
  · rw [no2 n i (by omega)]
    go_enter Tryz.func39, Tryz.ntmps39
    go_wp2
    go_ret
    exact ⟨rfl, rfl⟩
  have hc := T n (by omega)
  have hb := many_bd n (by omega)
  by_cases h4 : i < many.getD n 0
  · rw [yes n i hn (by omega) h4]
    have HT := hid T
    generalize many.getD n 0 = m at *
    have hS0 : S 0 = 0 := rfl
    have H0 := hid hS0
    clear T hS0
    go_enter Tryz.func39, Tryz.ntmps39
    go_wp2
    go_loop [5, 26] (fun p j => ∃ k : Nat, k ≤ n ∧ j = .int .i64 (k : Int) ∧ p = .int .i64 (i + S k)) (fun _ j => n - (intOf j).toNat)
    case atStart => exact ⟨0, Nat.zero_le _, rfl, by rw [H0.out]; simp⟩
    case round =>
      obtain ⟨k, hk, rfl, rfl⟩ := hrel
      by_cases hlt : k < n
      · have hck := HT.out k (by omega)
        have HS := hid (S_succ k (by omega))
        have hbk := many_bd k (by omega)
        have hsk := S_bd k (by omega)
        have hk6 : (k : Int) < 6 := by omega
        generalize many.getD k 0 = y at *
        generalize S k = z at *
        go_wp2
        go_round
        case rel => exact ⟨k + 1, by omega, by go_num, by rw [HS.out]; go_num⟩
        case measure => simp [intOf]; omega
      · obtain rfl : k = n := by omega
        go_wp2
        go_ret
        exact ⟨rfl, rfl⟩
  · rw [no3 n i h4]
    generalize many.getD n 0 = m at *
    clear T
    go_enter Tryz.func39, Tryz.ntmps39
    go_wp2
    go_ret
    exact ⟨rfl, rfl⟩

set_option maxHeartbeats 400000 in
theorem l1In (x lo hi : Int) (w : World) :
    Calls Tryz.prog 91 #[.int .i64 x, .int .i64 lo, .int .i64 hi] w fun e w' => e = .returned (.bool (decide (lo ≤ x ∧ x ≤ hi))) ∧ w' = w := by
  by_cases h1 : lo ≤ x
  · by_cases h2 : x ≤ hi
    · rw [decide_eq_true (And.intro h1 h2)]
      go_enter Tryz.func91, Tryz.ntmps91
      go_wp2
      go_ret
      exact ⟨rfl, rfl⟩
    · rw [decide_eq_false (fun h => h2 h.2)]
      go_enter Tryz.func91, Tryz.ntmps91
      go_wp2
      go_ret
      exact ⟨rfl, rfl⟩
  · rw [decide_eq_false (fun h => h1 h.1)]
    go_enter Tryz.func91, Tryz.ntmps91
    go_wp2
    go_ret
    exact ⟨rfl, rfl⟩

theorem six (w : World) : ∃ wa, w.alloc (.cells #[.int .i64 3, .int .i64 3, .int .i64 3, .int .i64 4, .int .i64 3, .int .i64 18] 3) = wa ∧ Below w.heap.size w wa ∧ ∀ k, k < 6 → wa.cell? ⟨w.heap.size, k, none⟩ = some (.int .i64 (many.getD k 0)) := by
  refine ⟨_, rfl, (Below.refl _ _).alloc (Nat.le_refl _) _, fun k hk => ?_⟩
  rw [cell_of_row _ w.heap.size k _ _ (0, 0) (heap_alloc_new w _)]
  have : k = 0 ∨ k = 1 ∨ k = 2 ∨ k = 3 ∨ k = 4 ∨ k = 5 := by omega
  rcases this with rfl | rfl | rfl | rfl | rfl | rfl <;> rfl

set_option maxRecDepth 100000 in
set_option maxHeartbeats 1000000 in
theorem spec_sector (kind i : Int) (w : World) :
    Calls Tryz.prog 45 #[.int .i64 kind, .int .i64 i] w fun e w' => e = .returned (.int .i64 (sectorOf kind i)) ∧ Below w.heap.size w w' := by
  obtain ⟨wa, hwa, hB, T⟩ := six w
  have HB := hid hB
  clear hB
  by_cases h1 : ¬ (0 ≤ kind ∧ kind ≤ 5)
  · rw [no1 kind i (by omega)]
    have h1' := decide_eq_false h1
    clear h1
    go_enter Tryz.func45, Tryz.ntmps45
    go_wp2_with (go_at_call 91; refine (l1In _ _ _ _).mono ?_; rintro e w' ⟨rfl, hw⟩; subst hw)
    go_ret
    exact ⟨rfl, HB.out⟩
  replace h1 := Classical.not_not.mp h1
  have h1' := decide_eq_true h1
  obtain ⟨n, rfl⟩ : ∃ n : Nat, kind = (n : Int) := Int.eq_ofNat_of_zero_le (by omega)
  have hn : (n : Int) < 6 := by omega
  clear h1
  by_cases h3 : i < 0
  · rw [no2 n i (by omega)]
    go_enter Tryz.func45, Tryz.ntmps45
    go_wp2_with (go_at_call 91; refine (l1In _ _ _ _).mono ?_; rintro e w' ⟨rfl, hw⟩; subst hw)
    go_ret
    exact ⟨rfl, HB.out⟩
  have hc := T n (by omega)
  have hb := many_bd n (by omega)
  by_cases h4 : i < many.getD n 0
  · rw [yes n i hn (by omega) h4]
    have HT := hid T
    generalize many.getD n 0 = m at *
    have hS0 : S 0 = 0 := rfl
    have H0 := hid hS0
    clear T hS0
    go_enter Tryz.func45, Tryz.ntmps45
    go_wp2_with (go_at_call 91; refine (l1In _ _ _ _).mono ?_; rintro e w' ⟨rfl, hw⟩; subst hw)
    clear hwa
    go_loop [6, 7] (fun p j => ∃ k : Nat, k ≤ n ∧ j = .int .i64 (k : Int) ∧ p = .int .i64 (i + S k)) (fun _ j => n - (intOf j).toNat)
    case atStart => exact ⟨0, Nat.zero_le _, rfl, by rw [H0.out]; simp⟩
    case round =>
      obtain ⟨k, hk, rfl, rfl⟩ := hrel
      by_cases hlt : k < n
      · have hck := HT.out k (by omega)
        have HS := hid (S_succ k (by omega))
        have hbk := many_bd k (by omega)
        have hsk := S_bd k (by omega)
        have hk6 : (k : Int) < 6 := by omega
        generalize many.getD k 0 = y at *
        generalize S k = z at *
        go_wp2
        go_round
        case rel => exact ⟨k + 1, by omega, by go_num, by rw [HS.out]; go_num⟩
        case measure => simp [intOf]; omega
      · obtain rfl : k = n := by omega
        go_wp2
        go_ret
        exact ⟨rfl, HB.out⟩
  · rw [no3 n i h4]
    generalize many.getD n 0 = m at *
    clear T
    go_enter Tryz.func45, Tryz.ntmps45
    go_wp2_with (go_at_call 91; refine (l1In _ _ _ _).mono ?_; rintro e w' ⟨rfl, hw⟩; subst hw)
    go_ret
    exact ⟨rfl, HB.out⟩

end Go.Proofs.YtjlkighikfgaeaaGreatDoor.Sector

namespace Go.Proofs.YtjlkighikfgaeaaGreatDoor.Sec
open Go.RowKit Go.Proofs.YtjlkighikfgaeaaGreatDoor.Mem
set_option linter.unusedVariables false

theorem l1In (x lo hi : Int) (w : World) :
    Calls Tryz.prog 91 #[.int .i64 x, .int .i64 lo, .int .i64 hi] w fun e w' => e = .returned (.bool (decide (lo ≤ x ∧ x ≤ hi))) ∧ w' = w := Sector.l1In x lo hi w

set_option maxHeartbeats 400000 in
theorem isFrom (x lo hi : Int) (w : World) :
    Calls Tryz.prog 117 #[.int .i64 x, .int .i64 lo, .int .i64 hi] w fun e w' => e = .returned (.bool (decide (lo ≤ x ∧ x ≤ hi))) ∧ w' = w := by
  by_cases h1 : lo ≤ x
  · by_cases h2 : x ≤ hi
    · rw [decide_eq_true (And.intro h1 h2)]
      go_enter Tryz.func117, Tryz.ntmps117
      go_wp2
      go_ret
      exact ⟨rfl, rfl⟩
    · rw [decide_eq_false (fun h => h2 h.2)]
      go_enter Tryz.func117, Tryz.ntmps117
      go_wp2
      go_ret
      exact ⟨rfl, rfl⟩
  · rw [decide_eq_false (fun h => h1 h.1)]
    go_enter Tryz.func117, Tryz.ntmps117
    go_wp2
    go_ret
    exact ⟨rfl, rfl⟩

set_option maxHeartbeats 400000 in
theorem l3Host (x : Int) (w : World) :
    Calls Tryz.prog 42 #[.int .i64 x] w fun e w' => e = .returned (.bool (decide (0 ≤ x ∧ x < 3))) ∧ w' = w := by
  by_cases h1 : 0 ≤ x
  · by_cases h2 : x < 3
    · rw [decide_eq_true (And.intro h1 h2)]
      go_enter Tryz.func42, Tryz.ntmps42
      go_wp2
      go_ret
      exact ⟨rfl, rfl⟩
    · rw [decide_eq_false (fun h => h2 h.2)]
      go_enter Tryz.func42, Tryz.ntmps42
      go_wp2
      go_ret
      exact ⟨rfl, rfl⟩
  · rw [decide_eq_false (fun h => h1 h.1)]
    go_enter Tryz.func42, Tryz.ntmps42
    go_wp2
    go_ret
    exact ⟨rfl, rfl⟩

set_option maxHeartbeats 400000 in
theorem isHost (x : Int) (w : World) :
    Calls Tryz.prog 37 #[.int .i64 x] w fun e w' => e = .returned (.bool (decide (0 ≤ x ∧ x < 3))) ∧ w' = w := by
  by_cases h1 : 0 ≤ x
  · by_cases h2 : x < 3
    · rw [decide_eq_true (And.intro h1 h2)]
      go_enter Tryz.func37, Tryz.ntmps37
      go_wp2
      go_ret
      exact ⟨rfl, rfl⟩
    · rw [decide_eq_false (fun h => h2 h.2)]
      go_enter Tryz.func37, Tryz.ntmps37
      go_wp2
      go_ret
      exact ⟨rfl, rfl⟩
  · rw [decide_eq_false (fun h => h1 h.1)]
    go_enter Tryz.func37, Tryz.ntmps37
    go_wp2
    go_ret
    exact ⟨rfl, rfl⟩

/-- Var, on both sides. -/
theorem sVar (n : Int) (w : World) : Calls Tryz.prog 137 #[.int .i64 n] w fun e w' => e = .returned (.string (vr n)) ∧ Below w.heap.size w w' := by
  unfold vr
  by_cases h : 0 ≤ n ∧ n ≤ 562949953421311
  · rw [if_pos h]; exact Var.spec_yes n w h.1 h.2
  · rw [if_neg h]; exact Var.spec_no n w (by omega)
theorem iVar (n : Int) (w : World) : Calls Tryz.prog 154 #[.int .i64 n] w fun e w' => e = .returned (.string (vr n)) ∧ Below w.heap.size w w' := by
  unfold vr
  by_cases h : 0 ≤ n ∧ n ≤ 562949953421311
  · rw [if_pos h]; exact Var.impl_yes n w h.1 h.2
  · rw [if_neg h]; exact Var.impl_no n w (by omega)

theorem fixed_crc (s : ByteArray) : Fix.fixed (crc s) 4 = Fix.fxS (crc s) 4 := by
  have h := crc_bd s
  unfold Fix.fixed
  rw [if_neg]
  have : (256 : Int) ^ 4 = 4294967296 := by decide
  rw [this]; omega

set_option maxHeartbeats 400000 in
theorem l4Sum (s : ByteArray) (w : World) (hs : s.size ≤ 1048576) :
    Calls Tryz.prog 135 #[.string s] w fun e w' => e = .returned (.string (summed s)) ∧ Below w.heap.size w w' := by
  have hb := crc_bd s
  have HF := hid (fixed_crc s)
  have hz := Fix.fxS_size (crc s) 4
  have HD : Hid (Fix.fxS (crc s) 4 ++ s = summed s) := rfl
  go_enter Tryz.func135, Tryz.ntmps135
  go_wp2_with fail
  refine (Crc.spec_crc s w (by unfold maxLen; omega)).mono ?_
  rintro e w1 ⟨rfl, hw⟩
  subst hw
  rw [show ((4294967295 - Crc.sumAt s s.size : Nat) : Int) = crc s from rfl]
  generalize crc s = c at *
  go_wp2_with fail
  refine (Fix.spec_yes c 4 _ (by decide) (by decide) hb.1 (by omega)).mono ?_
  rintro e w2 ⟨rfl, hb2⟩
  rw [HF.out]
  have HB := hid hb2
  clear hb2
  go_wp2
  go_ret
  exact ⟨Own.ret_str HD.out, HB.out⟩

set_option maxHeartbeats 400000 in
theorem withSum (s : ByteArray) (w : World) (hs : s.size ≤ 1048576) (T : Crc.Tab w) (hg : 2 < w.heap.size) :
    Calls Tryz.prog 153 #[.string s] w fun e w' => e = .returned (.string (summed s)) ∧ Below w.heap.size w w' := by
  have hb := crc_bd s
  have HF := hid (fixed_crc s)
  have hz := Fix.fxS_size (crc s) 4
  have HD : Hid (Fix.fxS (crc s) 4 ++ s = summed s) := rfl
  have HT := hid T
  have HG := hid hg
  clear T hg
  go_enter Tryz.func153, Tryz.ntmps153
  go_wp2_with fail
  refine (Crc.impl_crc s w (by unfold maxLen; omega) HT.out HG.out).mono ?_
  rintro e w1 ⟨rfl, hb1⟩
  have HB1 := hid hb1
  clear hb1
  rw [show ((4294967295 - Crc.sumAt s s.size : Nat) : Int) = crc s from rfl]
  generalize crc s = c at *
  go_wp2_with fail
  refine (Fix.impl_yes c 4 _ (by decide) (by decide) hb.1 (by omega)).mono ?_
  rintro e w2 ⟨rfl, hb2⟩
  rw [HF.out]
  have HB := hid (HB1.out.trans (hb2.mono HB1.out.size))
  clear hb2
  go_wp2
  go_ret
  exact ⟨Own.ret_str HD.out, HB.out⟩

/-- A lease's value. -/
def lsV (h e : Int) : Value := .agg #[.int .i64 h, .int .i64 e]

set_option maxHeartbeats 400000 in
theorem l4Nobody (w : World) : Calls Tryz.prog 160 #[] w fun e w' => e = .returned (lsV (-1) 0) ∧ Below w.heap.size w w' := by
  unfold lsV
  go_enter Tryz.func160, Tryz.ntmps160
  go_wp2
  go_returns
  exact ⟨rfl, by go_grown⟩

set_option maxHeartbeats 400000 in
theorem nobody (w : World) : Calls Tryz.prog 113 #[] w fun e w' => e = .returned (lsV (-1) 0) ∧ Below w.heap.size w w' := by
  unfold lsV
  go_enter Tryz.func113, Tryz.ntmps113
  go_wp2
  go_returns
  exact ⟨rfl, by go_grown⟩

end Go.Proofs.YtjlkighikfgaeaaGreatDoor.Sec

namespace Go.Proofs.YtjlkighikfgaeaaGreatDoor.Sec
open Go.RowKit Go.Proofs.YtjlkighikfgaeaaGreatDoor.Mem
set_option linter.unusedVariables false

theorem ls_nobody (h e : Int) (x : h = -1 ∧ e = 0) : lsOk h e = true := decide_eq_true (Or.inl x)
theorem ls_some (h e : Int) (x : ¬ (h = -1 ∧ e = 0)) : lsOk h e = (decide (0 ≤ h ∧ h < 3) && decide (1 ≤ e ∧ e ≤ 100000)) := by
  unfold lsOk
  by_cases a : 0 ≤ h ∧ h < 3 <;> by_cases b : 1 ≤ e ∧ e ≤ 100000 <;> simp [a, b, x]

theorem stLs : Tryz.prog.underlying 47 = some (.struct (Tryz.prog.fieldsOf 47)) := by kernel_rfl
theorem heldLs : Tryz.prog.stoodInHeld 47 = false := by kernel_rfl
theorem guardLs : Tryz.prog.eqGuardType Tryz.prog.depth 47 = false := by kernel_rfl

theorem eql_ls (a b c d : Int) (w : World) : (binOp .eql 47 (.agg #[.int .i64 a, .int .i64 b]) (.agg #[.int .i64 c, .int .i64 d])).run Tryz.prog w = .ok (.bool (decide (a = c ∧ b = d))) w := by
  rw [run_eql_struct, run_equalIn_agg w 9999 47 _ _ stLs heldLs]
  unfold Program.fieldsOf
  rw [Tryz.underlying47]
  by_cases h1 : a = c <;> by_cases h2 : b = d <;> simp [Op.eqFields, part, go_sem, h1, h2, Tryz.underlying3]

theorem eql_nobody (h e : Int) (hn : h = -1 ∧ e = 0) (w : World) : (binOp .eql 47 (.agg #[.int .i64 h, .int .i64 e]) (.agg #[.int .i64 (-1), .int .i64 0])).run Tryz.prog w = .ok (.bool true) w := by
  rw [eql_ls, decide_eq_true hn]
theorem eql_some (h e : Int) (hn : ¬ (h = -1 ∧ e = 0)) (w : World) : (binOp .eql 47 (.agg #[.int .i64 h, .int .i64 e]) (.agg #[.int .i64 (-1), .int .i64 0])).run Tryz.prog w = .ok (.bool false) w := by
  rw [eql_ls, decide_eq_false hn]

set_option maxRecDepth 100000 in
set_option maxHeartbeats 1000000 in
theorem l4Lease (h e : Int) (w : World) :
    Calls Tryz.prog 98 #[lsV h e] w fun r w' => r = .returned (.bool (lsOk h e)) ∧ Below w.heap.size w w' := by
  unfold lsV
  obtain ⟨wa, hwa, ez, A0, B0⟩ := one_new w [.int .i64 h, .int .i64 e] 47
  have k0 := BW.cell (A0.c 0 rfl)
  have k1 := BW.cell (A0.c 1 rfl)
  have hne : Nonempty (BW wa) := ⟨⟨wa, Below.refl _ _⟩⟩
  have HB := hid B0
  have hgl := guardLs
  clear A0 B0
  by_cases hn : h = -1 ∧ e = 0
  · have HN := hid (ls_nobody h e hn)
    have heq := eql_nobody h e hn
    clear hn
    go_enter Tryz.func98, Tryz.ntmps98
    go_wp2
    refine wp_region_bw (by kernel_rfl) (by kernel_rfl) ?_
    repeat (go_big_quiet_step (first
      | (go_at_call 160; refine bw_below (v := .agg #[.int .i64 (-1), .int .i64 0]) (l4Nobody _))))
    refine wpQuiet_nil ?_
    intro _ hw'
    obtain ⟨u, rfl⟩ := hw'
    have HU := hid (HB.out.trans (u.bel.mono HB.out.size))
    clear k0 k1 heq hwa
    go_wp2
    go_ret
    exact ⟨by rw [HN.out]; rfl, HU.out⟩
  · have HN := hid (ls_some h e hn)
    have heq := eql_some h e hn
    clear hn
    by_cases h1 : 0 ≤ h ∧ h < 3
    · have h1' := decide_eq_true h1
      clear h1
      go_enter Tryz.func98, Tryz.ntmps98
      go_wp2
      refine wp_region_bw (by kernel_rfl) (by kernel_rfl) ?_
      repeat (go_big_quiet_step (first
        | (go_at_call 160; refine bw_below (v := .agg #[.int .i64 (-1), .int .i64 0]) (l4Nobody _))
        | (go_at_call 42; refine bw_same (v := .bool true) (h1' ▸ l3Host h _))
        | (go_at_call 91; refine bw_same (l1In _ _ _ _))))
      refine wpQuiet_nil ?_
      intro _ hw'
      obtain ⟨u, rfl⟩ := hw'
      have HU := hid (HB.out.trans (u.bel.mono HB.out.size))
      clear k0 k1 heq hwa
      go_wp2
      go_ret
      exact ⟨by rw [HN.out, h1', Bool.true_and, Bool.decide_and]; rfl, HU.out⟩
    · have h1' := decide_eq_false h1
      clear h1
      go_enter Tryz.func98, Tryz.ntmps98
      go_wp2
      refine wp_region_bw (by kernel_rfl) (by kernel_rfl) ?_
      repeat (go_big_quiet_step (first
        | (go_at_call 160; refine bw_below (v := .agg #[.int .i64 (-1), .int .i64 0]) (l4Nobody _))
        | (go_at_call 42; refine bw_same (v := .bool false) (h1' ▸ l3Host h _))
        | (go_at_call 91; refine bw_same (l1In _ _ _ _))))
      refine wpQuiet_nil ?_
      intro _ hw'
      obtain ⟨u, rfl⟩ := hw'
      have HU := hid (HB.out.trans (u.bel.mono HB.out.size))
      clear k0 k1 heq hwa
      go_wp2
      go_ret
      exact ⟨by rw [HN.out, h1']; rfl, HU.out⟩

set_option maxRecDepth 100000 in
set_option maxHeartbeats 1000000 in
theorem isLease (h e : Int) (w : World) :
    Calls Tryz.prog 112 #[lsV h e] w fun r w' => r = .returned (.bool (lsOk h e)) ∧ Below w.heap.size w w' := by
  unfold lsV
  obtain ⟨wa, hwa, ez, A0, B0⟩ := one_new w [.int .i64 h, .int .i64 e] 47
  have k0 := BW.cell (A0.c 0 rfl)
  have k1 := BW.cell (A0.c 1 rfl)
  have hne : Nonempty (BW wa) := ⟨⟨wa, Below.refl _ _⟩⟩
  have HB := hid B0
  have hgl := guardLs
  clear A0 B0
  by_cases hn : h = -1 ∧ e = 0
  · have HN := hid (ls_nobody h e hn)
    have heq := eql_nobody h e hn
    clear hn
    go_enter Tryz.func112, Tryz.ntmps112
    go_wp2
    refine wp_region_bw (by kernel_rfl) (by kernel_rfl) ?_
    repeat (go_big_quiet_step (first
      | (go_at_call 113; refine bw_below (v := .agg #[.int .i64 (-1), .int .i64 0]) (nobody _))))
    refine wpQuiet_nil ?_
    intro _ hw'
    obtain ⟨u, rfl⟩ := hw'
    have HU := hid (HB.out.trans (u.bel.mono HB.out.size))
    clear k0 k1 heq hwa
    go_wp2
    go_ret
    exact ⟨by rw [HN.out]; rfl, HU.out⟩
  · have HN := hid (ls_some h e hn)
    have heq := eql_some h e hn
    clear hn
    by_cases h1 : 0 ≤ h ∧ h < 3
    · have h1' := decide_eq_true h1
      clear h1
      go_enter Tryz.func112, Tryz.ntmps112
      go_wp2
      refine wp_region_bw (by kernel_rfl) (by kernel_rfl) ?_
      repeat (go_big_quiet_step (first
        | (go_at_call 113; refine bw_below (v := .agg #[.int .i64 (-1), .int .i64 0]) (nobody _))
        | (go_at_call 37; refine bw_same (v := .bool true) (h1' ▸ isHost h _))
        | (go_at_call 117; refine bw_same (isFrom _ _ _ _))))
      refine wpQuiet_nil ?_
      intro _ hw'
      obtain ⟨u, rfl⟩ := hw'
      have HU := hid (HB.out.trans (u.bel.mono HB.out.size))
      clear k0 k1 heq hwa
      go_wp2
      go_ret
      exact ⟨by rw [HN.out, h1', Bool.true_and, Bool.decide_and]; rfl, HU.out⟩
    · have h1' := decide_eq_false h1
      clear h1
      go_enter Tryz.func112, Tryz.ntmps112
      go_wp2
      refine wp_region_bw (by kernel_rfl) (by kernel_rfl) ?_
      repeat (go_big_quiet_step (first
        | (go_at_call 113; refine bw_below (v := .agg #[.int .i64 (-1), .int .i64 0]) (nobody _))
        | (go_at_call 37; refine bw_same (v := .bool false) (h1' ▸ isHost h _))
        | (go_at_call 117; refine bw_same (isFrom _ _ _ _))))
      refine wpQuiet_nil ?_
      intro _ hw'
      obtain ⟨u, rfl⟩ := hw'
      have HU := hid (HB.out.trans (u.bel.mono HB.out.size))
      clear k0 k1 heq hwa
      go_wp2
      go_ret
      exact ⟨by rw [HN.out, h1']; rfl, HU.out⟩

set_option maxRecDepth 100000 in
set_option maxHeartbeats 1000000 in
theorem l4ShowLease (h e : Int) (w : World) (hb0 : -1 ≤ h) (hb : h < 3) :
    Calls Tryz.prog 159 #[lsV h e] w fun r w' => r = .returned (.string (showLs h e)) ∧ Below w.heap.size w w' := by
  have s1 := vr_size (h + 1)
  have s2 := vr_size e
  have HD : Hid (vr (h + 1) ++ vr e = showLs h e) := rfl
  unfold lsV
  obtain ⟨wa, hwa, ez, A0, B0⟩ := one_new w [.int .i64 h, .int .i64 e] 47
  have k0 := BW.cell (A0.c 0 rfl)
  have k1 := BW.cell (A0.c 1 rfl)
  have hne : Nonempty (BW wa) := ⟨⟨wa, Below.refl _ _⟩⟩
  have HB := hid B0
  clear A0 B0
  go_enter Tryz.func159, Tryz.ntmps159
  go_wp2
  refine wp_region_bw (by kernel_rfl) (by kernel_rfl) ?_
  repeat (go_big_quiet_step (first
    | (go_at_call 137; refine bw_below (sVar _ _))))
  refine wpQuiet_nil ?_
  intro _ hw'
  obtain ⟨u, rfl⟩ := hw'
  have HU := hid (HB.out.trans (u.bel.mono HB.out.size))
  clear k0 k1 hwa
  go_wp2
  go_ret
  exact ⟨Own.ret_str HD.out, HU.out⟩

set_option maxRecDepth 100000 in
set_option maxHeartbeats 1000000 in
theorem showLease (h e : Int) (w : World) (hb0 : -1 ≤ h) (hb : h < 3) :
    Calls Tryz.prog 198 #[lsV h e] w fun r w' => r = .returned (.string (showLs h e)) ∧ Below w.heap.size w w' := by
  have s1 := vr_size (h + 1)
  have s2 := vr_size e
  have HD : Hid (vr (h + 1) ++ vr e = showLs h e) := rfl
  unfold lsV
  obtain ⟨wa, hwa, ez, A0, B0⟩ := one_new w [.int .i64 h, .int .i64 e] 47
  have k0 := BW.cell (A0.c 0 rfl)
  have k1 := BW.cell (A0.c 1 rfl)
  have hne : Nonempty (BW wa) := ⟨⟨wa, Below.refl _ _⟩⟩
  have HB := hid B0
  clear A0 B0
  go_enter Tryz.func198, Tryz.ntmps198
  go_wp2
  refine wp_region_bw (by kernel_rfl) (by kernel_rfl) ?_
  repeat (go_big_quiet_step (first
    | (go_at_call 154; refine bw_below (iVar _ _))))
  refine wpQuiet_nil ?_
  intro _ hw'
  obtain ⟨u, rfl⟩ := hw'
  have HU := hid (HB.out.trans (u.bel.mono HB.out.size))
  clear k0 k1 hwa
  go_wp2
  go_ret
  exact ⟨Own.ret_str HD.out, HU.out⟩

end Go.Proofs.YtjlkighikfgaeaaGreatDoor.Sec

namespace Go.Proofs.YtjlkighikfgaeaaGreatDoor.Sec
open Go.RowKit Go.Proofs.YtjlkighikfgaeaaGreatDoor.Mem
set_option linter.unusedVariables false

/-- A host's value. -/
def hsV (b h e : Int) : Value := .agg #[.int .i64 b, .int .i64 h, .int .i64 e]

theorem host_no1 (b h e : Int) (x : ¬ (0 ≤ b ∧ b ≤ 1000000)) : showHost b h e = ⟨#[]⟩ := by
  unfold showHost hostOk; rw [decide_eq_false x]; rfl
theorem host_no2 (b h e : Int) (x : lsOk h e = false) : showHost b h e = ⟨#[]⟩ := by
  unfold showHost hostOk; rw [x, Bool.and_false]; rfl
theorem host_yes (b h e : Int) (x : 0 ≤ b ∧ b ≤ 1000000) (y : lsOk h e = true) : summed (⟨#[104]⟩ ++ vr b ++ showLs h e) = showHost b h e := by
  unfold showHost hostOk; rw [decide_eq_true x, y]; rfl

theorem host_size (b h e : Int) : ((⟨#[104]⟩ : ByteArray) ++ vr b ++ showLs h e).size ≤ 1048576 := by
  have h1 := vr_size b
  have h2 := showLs_size h e
  rw [ByteArray.size_append, ByteArray.size_append]
  have : (⟨#[104]⟩ : ByteArray).size = 1 := rfl
  omega

set_option maxRecDepth 100000 in
set_option maxHeartbeats 1000000 in
theorem sShowHost (b h e : Int) (w : World) :
    Calls Tryz.prog 90 #[hsV b h e] w fun r w' => r = .returned (.string (showHost b h e)) ∧ Below w.heap.size w w' := by
  unfold hsV
  obtain ⟨wa, hwa, ez, A0, B0⟩ := one_new w [.int .i64 b, .int .i64 h, .int .i64 e] 78
  have k0 := A0.c 0 rfl
  have k1 := A0.c 1 rfl
  have k2 := A0.c 2 rfl
  have HA := hid A0
  have HB := hid B0
  clear A0 B0
  by_cases h1 : 0 ≤ b ∧ b ≤ 1000000
  · have h1' := decide_eq_true h1
    have HH := hid h1
    clear h1
    go_enter Tryz.func90, Tryz.ntmps90
    go_wp2_with fail
    refine (h1' ▸ l1In b 0 1000000 _).mono ?_
    rintro r w1 ⟨rfl, hw⟩
    subst hw
    go_wp2_with fail
    refine (l4Lease h e _).mono ?_
    rintro r w2 ⟨rfl, b2⟩
    replace k0 := (HA.out.below b2 HA.out.lt).c 0 rfl
    replace k1 := (HA.out.below b2 HA.out.lt).c 1 rfl
    replace k2 := (HA.out.below b2 HA.out.lt).c 2 rfl
    have HB2 := hid (HB.out.trans (b2.mono HB.out.size))
    clear b2 hwa
    cases hl : lsOk h e with
    | false =>
      have HN := hid (host_no2 b h e hl)
      go_wp2
      go_ret
      exact ⟨Own.ret_str HN.out.symm, HB2.out⟩
    | true =>
      have HY := hid (host_yes b h e HH.out hl)
      have hbd := ls_bd hl
      have z1 := vr_size b
      have z2 := showLs_size h e
      have HZ := hid (host_size b h e)
      clear hl
      go_wp2
      replace k0 := BW.cell k0
      replace k1 := BW.cell k1
      replace k2 := BW.cell k2
      have hne : Nonempty (BW w2) := ⟨⟨w2, Below.refl _ _⟩⟩
      refine wp_region_bw (by kernel_rfl) (by kernel_rfl) ?_
      repeat (go_big_quiet_step (first
        | (go_at_call 137; refine bw_below (sVar _ _))
        | (go_at_call 159; refine bw_below (l4ShowLease h e _ hbd.1 hbd.2))
        | (go_at_call 135; refine bw_below (l4Sum _ _ HZ.out))))
      refine wpQuiet_nil ?_
      intro _ hw'
      obtain ⟨u, rfl⟩ := hw'
      have HU := hid (HB2.out.trans (u.bel.mono HB2.out.size))
      clear k0 k1 k2
      go_wp2
      go_ret
      exact ⟨Own.ret_str HY.out, HU.out⟩
  · have h1' := decide_eq_false h1
    have HN := hid (host_no1 b h e h1)
    clear h1
    go_enter Tryz.func90, Tryz.ntmps90
    go_wp2_with fail
    refine (h1' ▸ l1In b 0 1000000 _).mono ?_
    rintro r w1 ⟨rfl, hw⟩
    subst hw
    go_wp2
    go_ret
    exact ⟨Own.ret_str HN.out.symm, HB.out⟩

end Go.Proofs.YtjlkighikfgaeaaGreatDoor.Sec

namespace Go.Proofs.YtjlkighikfgaeaaGreatDoor.Sec
open Go.RowKit Go.Proofs.YtjlkighikfgaeaaGreatDoor.Mem
set_option linter.unusedVariables false

/-- What impl's sums want of a world. -/
structure Sums (w : World) : Prop where
  tab : Crc.Tab w
  lt : 2 < w.heap.size

theorem Sums.below {w w' : World} (h : Sums w) (b : Below w.heap.size w w') : Sums w' :=
  ⟨fun k hk => by rw [b.cell (p := ⟨2, k, none⟩) h.lt]; exact h.tab k hk, Nat.lt_of_lt_of_le h.lt b.size⟩

theorem withSum' (s : ByteArray) (w : World) (hs : s.size ≤ 1048576) (T : Sums w) :
    Calls Tryz.prog 153 #[.string s] w fun e w' => e = .returned (.string (summed s)) ∧ Below w.heap.size w w' := withSum s w hs T.tab T.lt

set_option maxRecDepth 100000 in
set_option maxHeartbeats 1000000 in
theorem isHostSec (b h e : Int) (w : World) :
    Calls Tryz.prog 201 #[hsV b h e] w fun r w' => r = .returned (.bool (hostOk b h e)) ∧ Below w.heap.size w w' := by
  unfold hsV
  obtain ⟨wa, hwa, ez, A0, B0⟩ := one_new w [.int .i64 b, .int .i64 h, .int .i64 e] 78
  have k0 := A0.c 0 rfl
  have k1 := A0.c 1 rfl
  have k2 := A0.c 2 rfl
  have HB := hid B0
  clear A0 B0
  by_cases h1 : 0 ≤ b ∧ b ≤ 1000000
  · have h1' := decide_eq_true h1
    have HN : Hid (hostOk b h e = lsOk h e) := by unfold hostOk; rw [h1']; rfl
    clear h1
    go_enter Tryz.func201, Tryz.ntmps201
    go_wp2_with fail
    refine (h1' ▸ isFrom b 0 1000000 _).mono ?_
    rintro r w1 ⟨rfl, hw⟩
    subst hw
    go_wp2_with fail
    refine (isLease h e _).mono ?_
    rintro r w2 ⟨rfl, b2⟩
    have HB2 := hid (HB.out.trans (b2.mono HB.out.size))
    clear b2 hwa k0 k1 k2
    generalize lsOk h e = z at *
    go_wp2
    go_ret
    exact ⟨by rw [HN.out]; rfl, HB2.out⟩
  · have h1' := decide_eq_false h1
    have HN : Hid (hostOk b h e = false) := by unfold hostOk; rw [h1']; rfl
    clear h1
    go_enter Tryz.func201, Tryz.ntmps201
    go_wp2_with fail
    refine (h1' ▸ isFrom b 0 1000000 _).mono ?_
    rintro r w1 ⟨rfl, hw⟩
    subst hw
    go_wp2
    go_ret
    exact ⟨by rw [HN.out]; rfl, HB.out⟩

theorem hostOk_yes {b h e : Int} (x : hostOk b h e = true) : (0 ≤ b ∧ b ≤ 1000000) ∧ lsOk h e = true := by
  unfold hostOk at x
  rw [Bool.and_eq_true] at x
  exact ⟨of_decide_eq_true x.1, x.2⟩
theorem host_no {b h e : Int} (x : hostOk b h e = false) : showHost b h e = ⟨#[]⟩ := by
  unfold showHost; rw [x]; rfl

set_option maxRecDepth 100000 in
set_option maxHeartbeats 1000000 in
theorem iShowHost (b h e : Int) (w : World) (T : Sums w) :
    Calls Tryz.prog 179 #[hsV b h e] w fun r w' => r = .returned (.string (showHost b h e)) ∧ Below w.heap.size w w' := by
  unfold hsV
  obtain ⟨wa, hwa, ez, A0, B0⟩ := one_new w [.int .i64 b, .int .i64 h, .int .i64 e] 78
  have k0 := A0.c 0 rfl
  have k1 := A0.c 1 rfl
  have k2 := A0.c 2 rfl
  have HA := hid A0
  have HB := hid B0
  have HT := hid T
  clear A0 B0 T
  go_enter Tryz.func179, Tryz.ntmps179
  go_wp2_with fail
  refine (isHostSec b h e _).mono ?_
  rintro r w2 ⟨rfl, b2⟩
  replace k0 := (HA.out.below b2 HA.out.lt).c 0 rfl
  replace k1 := (HA.out.below b2 HA.out.lt).c 1 rfl
  replace k2 := (HA.out.below b2 HA.out.lt).c 2 rfl
  have HB2 := hid (HB.out.trans (b2.mono HB.out.size))
  have HT2 := hid (HT.out.below HB2.out)
  clear b2 hwa
  cases hl : hostOk b h e with
  | false =>
    have HN := hid (host_no hl)
    clear hl
    go_wp2
    go_ret
    exact ⟨Own.ret_str HN.out.symm, HB2.out⟩
  | true =>
    have HY := hid (host_yes b h e (hostOk_yes hl).1 (hostOk_yes hl).2)
    have hbd := ls_bd (hostOk_yes hl).2
    have z1 := vr_size b
    have z2 := showLs_size h e
    have HZ := hid (host_size b h e)
    clear hl
    go_wp2
    replace k0 := BW.cell k0
    replace k1 := BW.cell k1
    replace k2 := BW.cell k2
    have hne : Nonempty (BW w2) := ⟨⟨w2, Below.refl _ _⟩⟩
    refine wp_region_bw (by kernel_rfl) (by kernel_rfl) ?_
    repeat (go_big_quiet_step (first
      | (go_at_call 154; refine bw_below (iVar _ _))
      | (go_at_call 198; refine bw_below (showLease h e _ hbd.1 hbd.2))
      | (go_at_call 153; refine bw_below (withSum' _ _ HZ.out (HT2.out.below (BW.bel _))))))
    refine wpQuiet_nil ?_
    intro _ hw'
    obtain ⟨u, rfl⟩ := hw'
    have HU := hid (HB2.out.trans (u.bel.mono HB2.out.size))
    clear k0 k1 k2
    go_wp2
    go_ret
    exact ⟨Own.ret_str HY.out, HU.out⟩

set_option maxRecDepth 100000 in
set_option maxHeartbeats 1000000 in
theorem toLease (h e : Int) (w : World) : Calls Tryz.prog 57 #[lsV h e] w fun r w' => r = .returned (.agg #[.int .i64 h, .int .i64 e]) ∧ Below w.heap.size w w' := by
  unfold lsV
  go_enter Tryz.func57, Tryz.ntmps57
  go_wp2
  go_returns
  exact ⟨rfl, by go_grown⟩

end Go.Proofs.YtjlkighikfgaeaaGreatDoor.Sec

namespace Go.Proofs.YtjlkighikfgaeaaGreatDoor.Rd
open Go.RowKit Go.Proofs.YtjlkighikfgaeaaGreatDoor.Mem Go.Proofs.YtjlkighikfgaeaaGreatDoor.Sec
set_option linter.unusedVariables false

theorem nums_cons {R : ByteArray → Int × Nat} {s : ByteArray} {i : Nat} (hq : (R (rest s i)).2 ≠ 0) : ∀ k, nums R s i (k + 1) = (nums R s (i + (R (rest s i)).2) k).map (fun p => ((R (rest s i)).1 :: p.1, p.2))
  | 0 => by
    rw [nums_step (l := []) (e := i) rfl, if_neg hq]; rfl
  | k + 1 => by
    conv => lhs; unfold nums
    rw [nums_cons hq k]
    conv => rhs; unfold nums
    cases nums R s (i + (R (rest s i)).2) k with
    | none => rfl
    | some p =>
      simp only [Option.map_some, Option.bind_some]
      split <;> simp

theorem nums_first {R : ByteArray → Int × Nat} {s : ByteArray} {i : Nat} (hq : (R (rest s i)).2 = 0) (k : Nat) : nums R s i (k + 1) = none := by
  have := nums_none (R := R) (s := s) (i := i) (k := 1) (by rw [nums_step (l := []) (e := i) rfl, if_pos hq]) k
  rwa [Nat.add_comm 1 k] at this

set_option maxRecDepth 100000 in
set_option maxHeartbeats 2000000 in
theorem hostParts (R : ByteArray → Int × Nat) (hR : Reads R) (s : ByteArray) (hs : s.size ≤ 1048576) (i : Nat) (w : World) (c : Nat) (h : Cur w c (rest s i)) (u : TypeId) (pv : Value) (hL : Lacks w u pv) (hc : 1 < c) :
    Calls Tryz.prog 178 #[.pointer (some ⟨c, 0, none⟩)] w fun e w' => (∃ b x y z, nums R s i 3 = some ([b, x, y], z) ∧ e = .returned (hsV b (x - 1) y) ∧ Kept (fun b => b = c) w w') ∨ (nums R s i 3 = none ∧ e = lack u pv ∧ Kept (fun b => b = c) w w') := by
  have HR := hid hR
  have HH := hid h
  have HL := hid hL
  have hlt := h.lt
  clear hR h hL
  go_enter Tryz.func178, Tryz.ntmps178
  go_wp2_with fail
  obtain ⟨wl, hwl, ez, A0, B0⟩ := one_new w [.int .i64 0, .int .i64 0, .int .i64 0] 78
  simp only [hwl]
  have HA := hid A0
  have HKl : Hid (Kept (fun b => b = c) w wl) := (Kept.of_below B0)
  have HLl := hid (HL.out.kept (Kept.of_below (S := fun _ => False) B0) (fun x => x))
  have HHl := hid (HH.out.below B0)
  clear hwl A0 B0
  refine (number R HR.out s hs i wl c HHl.out u pv HLl.out).mono ?_
  rintro e w1 (⟨hq, rfl, M1⟩ | ⟨hq, rfl, hw⟩)
  · have HN := hid (nums_cons hq 2)
    have HM1 := hid M1
    have HL1 := hid (HLl.out.kept M1.2 (by omega))
    have HA1 := hid (HA.out.kept M1.2 (by omega))
    have HK1 : Hid (Kept (fun b => b = c) w w1) := (HKl.out.trans M1.2).mono (fun b _ x => by rcases x with x | x <;> exact x)
    have hs1 := M1.2.size
    clear M1 hq
    generalize (R (rest s i)).1 = b at *
    generalize i + (R (rest s i)).2 = i2 at *
    go_wp2_with fail
    refine (lease R HR.out s hs i2 w1 c HM1.out.1 u pv HL1.out hc).mono ?_
    rintro e w2 (⟨x, y, z, hn, rfl, M2⟩ | ⟨hn, rfl, k2⟩)
    · have HN3 : Hid (nums R s i 3 = some ([b, x, y], z)) := by rw [Hid, HN.out, hn]; rfl
      have HA2 := hid (HA1.out.kept M2.2 (by omega))
      have HK2 : Hid (Kept (fun b => b = c) w w2) := (HK1.out.trans M2.2).mono (fun b _ x => by rcases x with x | x <;> exact x)
      clear M2 hn HN
      have c0 := HA2.out.c 0 rfl
      have c1 := HA2.out.c 1 rfl
      have c2 := HA2.out.c 2 rfl
      have f0 := HA2.out.f 0
      have f1 := HA2.out.f 1
      have f2 := HA2.out.f 2
      have HRw := hid (((HA2.out.set 0 (.int .i64 b)).set 1 (.int .i64 (x - 1))).set 2 (.int .i64 y))
      have HKf : Hid (Kept (fun b => b = c) w (((w2.setCell ⟨w.heap.size, 0, none⟩ (.int .i64 b)).setCell ⟨w.heap.size, 1, none⟩ (.int .i64 (x - 1))).setCell ⟨w.heap.size, 2, none⟩ (.int .i64 y))) :=
        (((HK2.out.trans (kept_set _ _ _ _)).trans (kept_set _ _ _ _)).trans (kept_set _ _ _ _)).mono (fun b hb x => by rcases x with ((x | x) | x) | x; exact x; omega; omega; omega)
      go_wp2
      refine bodyPost_ret (results_row rfl _ _ w.heap.size [.int .i64 b, .int .i64 (x - 1), .int .i64 y] _ rfl HRw.out Tryz.underlying78 rfl (by kernel_rfl)) rfl ?_
      exact Or.inl ⟨b, x, y, z, HN3.out, rfl, HKf.out⟩
    · have HN3 : Hid (nums R s i 3 = none) := by rw [Hid, HN.out, hn]; rfl
      have HK2 : Hid (Kept (fun b => b = c) w w2) := (HK1.out.trans k2).mono (fun b _ x => by rcases x with x | x <;> exact x)
      clear hn k2
      unfold lack
      go_wp2
      exact ⟨rfl, Or.inr ⟨HN3.out, rfl, HK2.out⟩⟩
  · have HN3 : Hid (nums R s i 3 = none) := nums_first hq 2
    obtain rfl := hw.symm
    clear hq hw
    unfold lack
    go_wp2
    exact ⟨rfl, Or.inr ⟨HN3.out, rfl, HKl.out⟩⟩

/-- What a host's sector is read as. -/
def readHost (R : ByteArray → Int × Nat) (s : ByteArray) : Option (Int × Int × Int) :=
  match nums R s 5 3 with
  | some ([b, x, y], _) => if showHost b (x - 1) y = s then some (b, x - 1, y) else none
  | _ => none

set_option maxRecDepth 100000 in
set_option maxHeartbeats 1000000 in
theorem catch_some (p q : Nat) (u : TypeId) (pv : Value) (older : List PanicEntry) (w : World) (a0 a1 a2 b0 : Value) (hp : Row w p [a0, a1, a2]) (hq : Row w q [b0]) (hpq : p ≠ q) :
    CallsD Tryz.prog 199 #[.pointer (some ⟨p, 0, none⟩), .pointer (some ⟨q, 0, none⟩)] (.panicking ({ v := .iface u pv, recovered := false } :: older)) w fun e u' w' =>
      e = .returned (.tuple #[]) ∧ u' = .panicking ({ v := .iface u pv, recovered := true } :: older) ∧ Row w' p [.int .i64 0, .int .i64 0, .int .i64 0] ∧ Row w' q [.bool false] ∧ Kept (fun b => b = p ∨ b = q) w w' := by
  refine callsD_of_wpS Tryz.func199 rfl fun c₀ cs hu => ?_
  obtain ⟨wl, hwl, ez, Z0, B0⟩ := one_new w [.int .i64 0, .int .i64 0, .int .i64 0] 78
  have hpl := hp.lt
  have hql := hq.lt
  have P0 := hp.below B0 hp.lt
  have Q0 := hq.below B0 hq.lt
  have z0 := Z0.c 0 rfl
  have z1 := Z0.c 1 rfl
  have z2 := Z0.c 2 rfl
  have p0 := P0.c 0 rfl
  have p1 := P0.c 1 rfl
  have p2 := P0.c 2 rfl
  have q0 := Q0.c 0 rfl
  have f0 := P0.f 0
  have f1 := P0.f 1
  have f2 := P0.f 2
  have g0 := Q0.f 0
  have HP := hid ((((P0.set 0 (.int .i64 0)).set 1 (.int .i64 0)).set 2 (.int .i64 0)).other (p := ⟨q, 0, none⟩) (by show p ≠ q; exact hpq) (.bool false))
  have HQ := hid ((((Q0.other (p := ⟨p, 0, none⟩) (by show q ≠ p; exact fun e => hpq e.symm) (.int .i64 0)).other (p := ⟨p, 1, none⟩) (by show q ≠ p; exact fun e => hpq e.symm) (.int .i64 0)).other (p := ⟨p, 2, none⟩) (by show q ≠ p; exact fun e => hpq e.symm) (.int .i64 0)).set 0 (.bool false))
  have HK : Hid (Kept (fun b => b = p ∨ b = q) w ((((wl.setCell ⟨p, 0, none⟩ (.int .i64 0)).setCell ⟨p, 1, none⟩ (.int .i64 0)).setCell ⟨p, 2, none⟩ (.int .i64 0)).setCell ⟨q, 0, none⟩ (.bool false))) :=
    (((((Kept.of_below (S := fun _ => False) B0).trans (kept_set _ _ _ _)).trans (kept_set _ _ _ _)).trans (kept_set _ _ _ _)).trans (kept_set _ _ _ _)).mono (fun b _ x => by rcases x with (((x | x) | x) | x) | x; cases x; exact Or.inl x; exact Or.inl x; exact Or.inl x; exact Or.inr x)
  clear hp hq P0 Q0 Z0 B0
  apply wpS_seq
  apply wpS_region
  simp [wpOpsS, go_sem, recoverD, hu, Tryz.ntmps199, Exit.thenS]
  refine wpS_cond (t := true) (by simp [Act.eval, Array.replicate]) ?_
  simp only [if_true]
  refine wpS_of_wp ?_
  go_wp2
  simp [bodyPostS, results, Tryz.results199]
  exact ⟨HP.out, HQ.out, HK.out⟩

set_option maxRecDepth 100000 in
set_option maxHeartbeats 1000000 in
theorem catch_none (p q : Addr) (w : World) :
    CallsD Tryz.prog 199 #[.pointer (some p), .pointer (some q)] .returning w fun e u' w' => e = .returned (.tuple #[]) ∧ u' = .returning ∧ w' = w := by
  refine callsD_of_wpS Tryz.func199 rfl fun c₀ cs hu => ?_
  apply wpS_seq
  apply wpS_region
  simp [wpOpsS, go_sem, recoverD, hu, Tryz.ntmps199, Exit.thenS]
  refine wpS_cond (t := false) (by simp [Act.eval, Array.replicate]) ?_
  simp only [Bool.false_eq_true, if_false]
  refine wpS_of_wp (wp_skip ?_)
  cases c₀
  simp_all [bodyPostS, results, Tryz.results199]

theorem load_row {P : Program} {w : World} {g : Nat} {xs : List Value} (hr : Row w g xs) {ty : TypeId} {d : TypeDesc} (hu : P.underlying ty = some d) (hd : (match d with | .struct _ | .array _ _ => true | _ => false) = true) (hi : (P.info? ty).map (·.size) = some xs.length) :
    (loadVar ty ⟨g, 0, none⟩).run P w = .ok (.agg xs.toArray) w := by
  obtain ⟨t, hg⟩ := hr
  exact run_loadVar_row w g t ty xs.toArray (0, 0) d hg hu hd (by simpa using hi)

theorem load_bool {w : World} {k : Nat} {b : Bool} (hb : Row w k [.bool b]) : (loadVar 4 ⟨k, 0, none⟩).run Tryz.prog w = .ok (.bool b) w := by
  have hc := hb.c 0 rfl
  simp [go_sem, hc]

/-- Two results that are handed back out of their own blocks. -/
theorem results_two {fn : Func} {p q : Tmp} {ty tb : TypeId} (h : fn.results = #[.cell p ty, .cell q tb]) (tmps : Array Value) (w : World) (g k : Nat) (v b : Value)
    (hp : tmps.getD p undef = .pointer (some ⟨g, 0, none⟩)) (hq : tmps.getD q undef = .pointer (some ⟨k, 0, none⟩)) (h1 : (loadVar ty ⟨g, 0, none⟩).run Tryz.prog w = .ok v w) (h2 : (loadVar tb ⟨k, 0, none⟩).run Tryz.prog w = .ok b w) :
    (results fn tmps).run Tryz.prog w = .ok (.tuple #[v, b]) w := by
  have hp' : tmps[p]?.getD undef = .pointer (some ⟨g, 0, none⟩) := by simpa using hp
  have hq' : tmps[q]?.getD undef = .pointer (some ⟨k, 0, none⟩) := by simpa using hq
  simp [results, h, hp', hq', asAddr, h1, h2]

theorem three_any (w : World) (xs ys zs : List Value) (t u v : TypeId) :
    ∃ wc, ((w.alloc (.cells xs.toArray t)).alloc (.cells ys.toArray u)).alloc (.cells zs.toArray v) = wc ∧ wc.heap.size = w.heap.size + 1 + 1 + 1 ∧
      Row wc w.heap.size xs ∧ Row wc (w.heap.size + 1) ys ∧ wc.heap[w.heap.size + 1 + 1]? = some (.cells zs.toArray v (0, 0)) ∧ Below w.heap.size w wc := by
  have e0 : (w.alloc (.cells xs.toArray t)).heap.size = w.heap.size + 1 := by simp
  have e1 : ((w.alloc (.cells xs.toArray t)).alloc (.cells ys.toArray u)).heap.size = w.heap.size + 1 + 1 := by simp
  have r1 := Row.new (w.alloc (.cells xs.toArray t)) ys u
  have r2 := heap_alloc_new ((w.alloc (.cells xs.toArray t)).alloc (.cells ys.toArray u)) (.cells zs.toArray v (0, 0))
  rw [e0] at r1
  rw [e1] at r2
  exact ⟨_, rfl, by simp, ((Row.new w xs t).alloc _).alloc _, r1.alloc _, r2, (((Below.refl _ _).alloc (Nat.le_refl _) _).alloc (by omega) _).alloc (by omega) _⟩

theorem nums_short (R : ByteArray → Int × Nat) (hR : Reads R) (s : ByteArray) (h : s.size ≤ 5) (hs : s.size ≤ 1048576) (k : Nat) : nums R s 5 (k + 1) = none := by
  refine nums_first ?_ k
  have := (hR (rest s 5) (by rw [rest_size]; unfold maxLen; omega)).le
  rw [rest_size] at this; omega

theorem readHost_short (R : ByteArray → Int × Nat) (hR : Reads R) (s : ByteArray) (h : s.size ≤ 5) (hs : s.size ≤ 1048576) : readHost R s = none := by
  unfold readHost; rw [nums_short R hR s h hs 2]

set_option maxRecDepth 100000 in
set_option maxHeartbeats 2000000 in
theorem readKindHost (R : ByteArray → Int × Nat) (hR : Reads R) (s : ByteArray) (hs : s.size ≤ 1048576) (w : World) (u : TypeId) (pv : Value) (hL : Lacks w u pv) (T : Sums w) :
    Calls Tryz.prog 177 #[.string s, .func (.func 178) #[] #[], .func (.func 179) #[] #[]] w fun e w' => (∃ b x y, readHost R s = some (b, x, y) ∧ e = .returned (.tuple #[hsV b x y, .bool true]) ∧ Below w.heap.size w w') ∨ (readHost R s = none ∧ e = .returned (.tuple #[hsV 0 0 0, .bool false]) ∧ Below w.heap.size w w') := by
  have hmf : ∀ (fn : Fn) (first cap : Array Value) (w : World), (Instr.makeFunc fn first cap).run Tryz.prog w = .ok (.func fn first cap) w := fun _ _ _ _ => rfl
  have HR := hid hR
  have HL := hid hL
  have HT := hid T
  clear hR hL T
  go_enter_defers Tryz.func177, Tryz.ntmps177
  go_wp2_with fail
  obtain ⟨wc, hwc, ec, A0, B0, C0, K0⟩ := three_any w [.int .i64 0, .int .i64 0, .int .i64 0] [.bool false] [.string s] 78 4 176
  simp only [hwc]
  clear hwc
  have HA := hid A0
  have HBq := hid B0
  have HKc := hid K0
  have HLc := hid (HL.out.kept (Kept.of_below (S := fun _ => False) K0) (fun x => x))
  have HTc := hid (HT.out.below K0)
  have HCu : Hid (Cur wc (w.heap.size + 1 + 1) s) := C0
  have hgl := HL.out.lt
  clear A0 B0 C0 K0
  by_cases h5 : (s.size : Int) < 5
  · have HN : Hid (readHost R s = none) := readHost_short R HR.out s (by omega) hs
    refine (take_no wc (w.heap.size + 1 + 1) s 5 HCu.out h5 u pv HLc.out).mono ?_
    rintro e w1 ⟨rfl, hw⟩
    obtain rfl := hw.symm
    unfold lack
    go_wp2
    refine leaves_cons (f := 199) (args := #[.pointer (some ⟨w.heap.size, 0, none⟩), .pointer (some ⟨w.heap.size + 1, 0, none⟩)]) (by simp) (by simp [go_sem]) ?_
    refine (catch_some w.heap.size (w.heap.size + 1) u pv [] _ _ _ _ _ HA.out HBq.out (by omega)).mono ?_
    rintro e u' w2 ⟨rfl, rfl, RA, RB, k2⟩
    refine ⟨_, results_two rfl _ w2 w.heap.size (w.heap.size + 1) _ _ rfl rfl (load_row RA Tryz.underlying78 rfl (by kernel_rfl)) (load_bool RB), ?_⟩
    exact Or.inr ⟨HN.out, rfl, HKc.out.trans (k2.below HKc.out.size (fun b hb x => by rcases x with x | x <;> omega))⟩
  · have h5n : 5 ≤ s.size := by omega
    have HRR : Hid (s.extract 5 s.size = rest s 5) := rfl
    refine (take_yes wc (w.heap.size + 1 + 1) s 5 HCu.out h5n hs).mono ?_
    rintro e w1 ⟨rfl, hw⟩
    have M1 : Moved wc w1 (w.heap.size + 1 + 1) (rest s 5) := by rw [hw, ← HRR.out]; exact moved_set HCu.out _
    have HA1 := hid (HA.out.kept M1.2 (by omega))
    have HB1 := hid (HBq.out.kept M1.2 (by omega))
    have HL1 := hid (HLc.out.kept M1.2 (by omega))
    have HM1 := hid M1
    clear hw M1
    go_wp2_with fail
    refine (hostParts R HR.out s hs 5 w1 (w.heap.size + 1 + 1) HM1.out.1 u pv HL1.out (by omega)).mono ?_
    rintro e w2 (⟨b, x, y, z, hn, rfl, k2⟩ | ⟨hn, rfl, k2⟩)
    · have HN := hid hn
      have HA2 := hid (HA1.out.kept k2 (by omega))
      have HB2 := hid (HB1.out.kept k2 (by omega))
      have k12 : Kept (fun b => b = w.heap.size + 1 + 1) wc w2 := (HM1.out.2.trans k2).mono (fun b _ x => by rcases x with x | x <;> exact x)
      have HBw : Hid (Below w.heap.size w w2) := HKc.out.trans (k12.below HKc.out.size (fun b hb x => by omega))
      have HT2 := hid (HT.out.below HBw.out)
      have hs2 : w.heap.size + 1 + 1 < w2.heap.size := by have := k12.size; omega
      clear hn k2 k12 HM1 HL1 HA1 HB1
      have HV : Hid (hsV b (x - 1) y = .agg #[.int .i64 b, .int .i64 (x - 1), .int .i64 y]) := rfl
      rw [HV.out]
      go_wp2_with fail
      obtain ⟨w3, hw3, ez3, D3, B3⟩ := one_new w2 [.int .i64 b, .int .i64 (x - 1), .int .i64 y] 78
      simp only [hw3]
      have HA3 := hid (HA2.out.below B3 HA2.out.lt)
      have HB3 := hid (HB2.out.below B3 HB2.out.lt)
      have HD3 := hid D3
      have HBw3 := hid (HBw.out.trans (B3.mono HBw.out.size))
      have HT3 := hid (HT2.out.below B3)
      clear hw3 D3 B3 HA2 HB2 HBw HT2
      refine (iShowHost b (x - 1) y w3 HT3.out).mono ?_
      rintro e w4 ⟨rfl, b4⟩
      have HA4 := hid (HA3.out.below b4 HA3.out.lt)
      have HB4 := hid (HB3.out.below b4 HB3.out.lt)
      have HD4 := hid (HD3.out.below b4 HD3.out.lt)
      have HBw4 := hid (HBw3.out.trans (b4.mono HBw3.out.size))
      clear b4 HA3 HB3 HD3 HBw3 HT3
      have a0 := HA4.out.c 0 rfl
      have a1 := HA4.out.c 1 rfl
      have a2 := HA4.out.c 2 rfl
      have q0 := HB4.out.c 0 rfl
      have d0 := HD4.out.c 0 rfl
      have d1 := HD4.out.c 1 rfl
      have d2 := HD4.out.c 2 rfl
      have fa0 := HA4.out.f 0
      have fa1 := HA4.out.f 1
      have fa2 := HA4.out.f 2
      have fq := HB4.out.f 0
      by_cases hsh : showHost b (x - 1) y = s
      · have HN2 : Hid (readHost R s = some (b, x - 1, y)) := by unfold Hid readHost; rw [HN.out]; simp only []; rw [if_pos hsh]
        have hne := Own.eqS_yes hsh
        generalize showHost b (x - 1) y = sh at *
        have HRA := hid (((((HA4.out).set 0 (.int .i64 b)).set 1 (.int .i64 (x - 1))).set 2 (.int .i64 y)).other (p := ⟨w.heap.size + 1, 0, none⟩) (by show w.heap.size ≠ w.heap.size + 1; omega) (.bool true))
        have HRB := hid (((((HB4.out).other (p := ⟨w.heap.size, 0, none⟩) (by show w.heap.size + 1 ≠ w.heap.size; omega) (.int .i64 b)).other (p := ⟨w.heap.size, 1, none⟩) (by show w.heap.size + 1 ≠ w.heap.size; omega) (.int .i64 (x - 1))).other (p := ⟨w.heap.size, 2, none⟩) (by show w.heap.size + 1 ≠ w.heap.size; omega) (.int .i64 y)).set 0 (.bool true))
        have HBf := hid (below_set (below_set (below_set (below_set (HBw4.out) w.heap.size 0 (.int .i64 b) (Nat.le_refl _)) w.heap.size 1 (.int .i64 (x - 1)) (Nat.le_refl _)) w.heap.size 2 (.int .i64 y) (Nat.le_refl _)) (w.heap.size + 1) 0 (.bool true) (by omega))
        go_wp2
        refine leaves_cons (f := 199) (args := #[.pointer (some ⟨w.heap.size, 0, none⟩), .pointer (some ⟨w.heap.size + 1, 0, none⟩)]) (by simp) (by simp [go_sem]) ?_
        refine (catch_none ⟨w.heap.size, 0, none⟩ ⟨w.heap.size + 1, 0, none⟩ _).mono ?_
        rintro e u' w5 ⟨rfl, rfl, rfl⟩
        refine ⟨_, results_two rfl _ _ w.heap.size (w.heap.size + 1) _ _ rfl rfl (load_row HRA.out Tryz.underlying78 rfl (by kernel_rfl)) (load_bool HRB.out), ?_⟩
        exact Or.inl ⟨b, x - 1, y, HN2.out, rfl, HBf.out⟩
      · have HN2 : Hid (readHost R s = none) := by unfold Hid readHost; rw [HN.out]; simp only []; rw [if_neg hsh]
        have hne := Own.eqS_no hsh
        generalize showHost b (x - 1) y = sh at *
        have HRA := hid (((((HA4.out).set 0 (.int .i64 0)).set 1 (.int .i64 0)).set 2 (.int .i64 0)).other (p := ⟨w.heap.size + 1, 0, none⟩) (by show w.heap.size ≠ w.heap.size + 1; omega) (.bool false))
        have HRB := hid (((((HB4.out).other (p := ⟨w.heap.size, 0, none⟩) (by show w.heap.size + 1 ≠ w.heap.size; omega) (.int .i64 0)).other (p := ⟨w.heap.size, 1, none⟩) (by show w.heap.size + 1 ≠ w.heap.size; omega) (.int .i64 0)).other (p := ⟨w.heap.size, 2, none⟩) (by show w.heap.size + 1 ≠ w.heap.size; omega) (.int .i64 0)).set 0 (.bool false))
        have HBf := hid (below_set (below_set (below_set (below_set (HBw4.out) w.heap.size 0 (.int .i64 0) (Nat.le_refl _)) w.heap.size 1 (.int .i64 0) (Nat.le_refl _)) w.heap.size 2 (.int .i64 0) (Nat.le_refl _)) (w.heap.size + 1) 0 (.bool false) (by omega))
        go_wp2
        refine leaves_cons (f := 199) (args := #[.pointer (some ⟨w.heap.size, 0, none⟩), .pointer (some ⟨w.heap.size + 1, 0, none⟩)]) (by simp) (by simp [go_sem]) ?_
        refine (catch_none ⟨w.heap.size, 0, none⟩ ⟨w.heap.size + 1, 0, none⟩ _).mono ?_
        rintro e u' w5 ⟨rfl, rfl, rfl⟩
        refine ⟨_, results_two rfl _ _ w.heap.size (w.heap.size + 1) _ _ rfl rfl (load_row HRA.out Tryz.underlying78 rfl (by kernel_rfl)) (load_bool HRB.out), ?_⟩
        exact Or.inr ⟨HN2.out, rfl, HBf.out⟩
    · have HN : Hid (readHost R s = none) := by unfold Hid readHost; rw [hn]
      have HA2 := hid (HA1.out.kept k2 (by omega))
      have HB2 := hid (HB1.out.kept k2 (by omega))
      have k12 : Kept (fun b => b = w.heap.size + 1 + 1) wc w2 := (HM1.out.2.trans k2).mono (fun b _ x => by rcases x with x | x <;> exact x)
      have HBw : Hid (Below w.heap.size w w2) := HKc.out.trans (k12.below HKc.out.size (fun b hb x => by omega))
      clear hn k2 k12
      unfold lack
      go_wp2
      refine leaves_cons (f := 199) (args := #[.pointer (some ⟨w.heap.size, 0, none⟩), .pointer (some ⟨w.heap.size + 1, 0, none⟩)]) (by simp) (by simp [go_sem]) ?_
      refine (catch_some w.heap.size (w.heap.size + 1) u pv [] _ _ _ _ _ HA2.out HB2.out (by omega)).mono ?_
      rintro e u' w3 ⟨rfl, rfl, RA, RB, k3⟩
      refine ⟨_, results_two rfl _ w3 w.heap.size (w.heap.size + 1) _ _ rfl rfl (load_row RA Tryz.underlying78 rfl (by kernel_rfl)) (load_bool RB), ?_⟩
      exact Or.inr ⟨HN.out, rfl, HBw.out.trans (k3.below HBw.out.size (fun b hb x => by rcases x with x | x <;> omega))⟩

end Go.Proofs.YtjlkighikfgaeaaGreatDoor.Rd

namespace Go.Proofs.YtjlkighikfgaeaaGreatDoor.Sec
open Go.RowKit Go.Proofs.YtjlkighikfgaeaaGreatDoor.Mem
set_option linter.unusedVariables false

set_option maxRecDepth 100000 in
set_option maxHeartbeats 1000000 in
theorem eqLease (h e : Int) (w : World) : Calls Tryz.prog 68 #[.agg #[.int .i64 h, .int .i64 e], .agg #[.int .i64 h, .int .i64 e]] w fun r w' => r = .returned (.bool true) ∧ Below w.heap.size w w' := by
  go_enter Tryz.func68, Tryz.ntmps68
  go_wp2
  go_ret
  exact ⟨rfl, by go_grown⟩

end Go.Proofs.YtjlkighikfgaeaaGreatDoor.Sec

namespace Go.Proofs.YtjlkighikfgaeaaGreatDoor.Rd
open Go.RowKit Go.Proofs.YtjlkighikfgaeaaGreatDoor.Mem Go.Proofs.YtjlkighikfgaeaaGreatDoor.Sec
set_option linter.unusedVariables false

/-- A struct out of its own block, and a slot. -/
theorem results_one {P : Program} {fn : Func} {p q : Tmp} {ty : TypeId} (h : fn.results = #[.cell p ty, .tmp q]) (tmps : Array Value) (w : World) (g : Nat) (v b : Value)
    (hp : tmps.getD p undef = .pointer (some ⟨g, 0, none⟩)) (hq : tmps.getD q undef = b) (h1 : (loadVar ty ⟨g, 0, none⟩).run P w = .ok v w) :
    (results fn tmps).run P w = .ok (.tuple #[v, b]) w := by
  rw [results_cell_tmp h, hp, hq]
  simp [asAddr, h1]

/-- What both sides answer. -/
def HostOut (R : ByteArray → Int × Nat) (s : ByteArray) (e : Ending) : Prop := (∃ b x y, readHost R s = some (b, x, y) ∧ e = .returned (.tuple #[hsV b x y, .bool true])) ∨ (readHost R s = none ∧ e = .returned (.tuple #[hsV 0 0 0, .bool false]))

set_option maxRecDepth 100000 in
set_option maxHeartbeats 2000000 in
theorem iReadHost (R : ByteArray → Int × Nat) (hR : Reads R) (s : ByteArray) (hs : s.size ≤ 1048576) (w : World) (u : TypeId) (pv : Value) (hL : Lacks w u pv) (T : Sums w) :
    Calls Tryz.prog 142 #[.string s] w fun e w' => HostOut R s e ∧ Below w.heap.size w w' := by
  have HR := hid hR
  have HL := hid hL
  have HT := hid T
  clear hR hL T
  go_enter Tryz.func142, Tryz.ntmps142
  go_wp2_with fail
  obtain ⟨wc, hwc, ec, A0, K0⟩ := one_new w [.int .i64 0, .int .i64 0, .int .i64 0] 78
  simp only [hwc]
  clear hwc
  have HA := hid A0
  have HK := hid K0
  clear A0 K0
  refine (readKindHost R HR.out s hs wc u pv (HL.out.kept (Kept.of_below (S := fun _ => False) HK.out) (fun x => x)) (HT.out.below HK.out)).mono ?_
  rintro e w1 (⟨b, x, y, hn, rfl, b1⟩ | ⟨hn, rfl, b1⟩)
  · have HN := hid hn
    have HA1 := hid (HA.out.below b1 HA.out.lt)
    have HB1 := hid (HK.out.trans (b1.mono HK.out.size))
    clear hn b1 HA
    have a0 := HA1.out.c 0 rfl
    have a1 := HA1.out.c 1 rfl
    have a2 := HA1.out.c 2 rfl
    have f0 := HA1.out.f 0
    have f1 := HA1.out.f 1
    have f2 := HA1.out.f 2
    have HRA := hid (((HA1.out.set 0 (.int .i64 b)).set 1 (.int .i64 x)).set 2 (.int .i64 y))
    have HBf := hid (below_set (below_set (below_set HB1.out w.heap.size 0 (.int .i64 b) (Nat.le_refl _)) w.heap.size 1 (.int .i64 x) (Nat.le_refl _)) w.heap.size 2 (.int .i64 y) (Nat.le_refl _))
    unfold hsV
    go_wp2
    refine bodyPost_ret (results_one rfl _ _ w.heap.size _ _ rfl rfl (load_row HRA.out Tryz.underlying78 rfl (by kernel_rfl))) rfl ?_
    exact ⟨Or.inl ⟨b, x, y, HN.out, rfl⟩, HBf.out⟩
  · have HN := hid hn
    have HA1 := hid (HA.out.below b1 HA.out.lt)
    have HB1 := hid (HK.out.trans (b1.mono HK.out.size))
    clear hn b1 HA
    have a0 := HA1.out.c 0 rfl
    have a1 := HA1.out.c 1 rfl
    have a2 := HA1.out.c 2 rfl
    have f0 := HA1.out.f 0
    have f1 := HA1.out.f 1
    have f2 := HA1.out.f 2
    have HRA := hid (((HA1.out.set 0 (.int .i64 0)).set 1 (.int .i64 0)).set 2 (.int .i64 0))
    have HBf := hid (below_set (below_set (below_set HB1.out w.heap.size 0 (.int .i64 0) (Nat.le_refl _)) w.heap.size 1 (.int .i64 0) (Nat.le_refl _)) w.heap.size 2 (.int .i64 0) (Nat.le_refl _))
    unfold hsV
    go_wp2
    refine bodyPost_ret (results_one rfl _ _ w.heap.size _ _ rfl rfl (load_row HRA.out Tryz.underlying78 rfl (by kernel_rfl))) rfl ?_
    exact ⟨Or.inr ⟨HN.out, rfl⟩, HBf.out⟩

set_option maxRecDepth 100000 in
set_option maxHeartbeats 2000000 in
theorem sReadHost (R : ByteArray → Int × Nat) (hR : Reads R) (s : ByteArray) (hs : s.size ≤ 1048576) (w : World) :
    Calls Tryz.prog 44 #[.string s] w fun e w' => HostOut R s e ∧ Below w.heap.size w w' := by
  have HR := hid hR
  clear hR
  go_enter Tryz.func44, Tryz.ntmps44
  go_wp2_with fail
  obtain ⟨wc, hwc, ec, A0, K0⟩ := one_new w [.int .i64 0, .int .i64 0, .int .i64 0] 78
  simp only [hwc]
  clear hwc
  have HA := hid A0
  have HK := hid K0
  clear A0 K0
  refine (l4Vars R HR.out s hs 5 3 (by decide) (by decide) wc).mono ?_
  rintro e w1 ⟨hg, b1⟩
  have HA1 := hid (HA.out.below b1 HA.out.lt)
  have HB1 := hid (HK.out.trans (b1.mono HK.out.size))
  clear b1 HA HK
  cases hn : nums R s 5 3 with
  | none =>
    rw [hn] at hg
    obtain ⟨v, rfl⟩ := hg
    have HN : Hid (readHost R s = none) := by unfold Hid readHost; rw [hn]
    clear hn
    have a0 := HA1.out.c 0 rfl
    have a1 := HA1.out.c 1 rfl
    have a2 := HA1.out.c 2 rfl
    have f0 := HA1.out.f 0
    have f1 := HA1.out.f 1
    have f2 := HA1.out.f 2
    have HRA := hid (((HA1.out.set 0 (.int .i64 0)).set 1 (.int .i64 0)).set 2 (.int .i64 0))
    have HBf := hid (below_set (below_set (below_set HB1.out w.heap.size 0 (.int .i64 0) (Nat.le_refl _)) w.heap.size 1 (.int .i64 0) (Nat.le_refl _)) w.heap.size 2 (.int .i64 0) (Nat.le_refl _))
    go_wp2
    refine bodyPost_ret (results_one rfl _ _ w.heap.size _ _ rfl rfl (load_row HRA.out Tryz.underlying78 rfl (by kernel_rfl))) rfl ?_
    exact ⟨Or.inr ⟨HN.out, rfl⟩, HBf.out⟩
  | some p =>
    obtain ⟨l, z⟩ := p
    rw [hn] at hg
    obtain ⟨v, rfl, hI⟩ := hg
    have hl := nums_len hn
    have hbd := nums_bd HR.out (by unfold maxLen; omega) hn
    obtain ⟨a, cap, rfl, hW⟩ := hI.w
    match l, hl with
    | [b, x, y], _ =>
    obtain ⟨g, off, rfl, c0⟩ := hW.sl 0 (by simp)
    obtain ⟨g1, off1, e1, c1⟩ := hW.sl 1 (by simp)
    obtain ⟨g2, off2, e2, c2⟩ := hW.sl 2 (by simp)
    cases e1; cases e2
    replace c0 : w1.cell? ⟨g, off + 0, none⟩ = some (.int .i64 b) := c0
    replace c1 : w1.cell? ⟨g, off + 1, none⟩ = some (.int .i64 x) := c1
    replace c2 : w1.cell? ⟨g, off + 2, none⟩ = some (.int .i64 y) := c2
    rw [Nat.add_zero] at c0
    have hx := hbd x (by simp)
    have HN := hid hn
    have hz : (0 : Int) ≤ (z : Int) := by omega
    simp only [List.length_cons, List.length_nil]
    clear hn hbd hI hW
    go_wp2
    obtain ⟨wz, hwz, ez, Z0, BZ⟩ := one_new w1 [.int .i64 0, .int .i64 0, .int .i64 0] 78
    have hgl : g < w1.heap.size := World.block_lt_of_cell? w1 _ c0
    have d0 := (BZ.cell (p := ⟨g, off, none⟩) hgl).trans c0
    have d1 := (BZ.cell (p := ⟨g, off + 1, none⟩) hgl).trans c1
    have d2 := (BZ.cell (p := ⟨g, off + 2, none⟩) hgl).trans c2
    have z0 := Z0.c 0 rfl
    have z1 := Z0.c 1 rfl
    have z2 := Z0.c 2 rfl
    have y0 := Z0.f 0
    have y1 := Z0.f 1
    have y2 := Z0.f 2
    have HZ := hid (((Z0.set 0 (.int .i64 b)).set 1 (.int .i64 (x - 1))).set 2 (.int .i64 y))
    have HAz := hid ((((HA1.out.below BZ HA1.out.lt).other (p := ⟨w1.heap.size, 0, none⟩) (by have := HA1.out.lt; show w.heap.size ≠ w1.heap.size; omega) (.int .i64 b)).other (p := ⟨w1.heap.size, 1, none⟩) (by have := HA1.out.lt; show w.heap.size ≠ w1.heap.size; omega) (.int .i64 (x - 1))).other (p := ⟨w1.heap.size, 2, none⟩) (by have := HA1.out.lt; show w.heap.size ≠ w1.heap.size; omega) (.int .i64 y))
    have HBz := hid (below_set (below_set (below_set (HB1.out.trans (BZ.mono HB1.out.size)) w1.heap.size 0 (.int .i64 b) HB1.out.size) w1.heap.size 1 (.int .i64 (x - 1)) HB1.out.size) w1.heap.size 2 (.int .i64 y) HB1.out.size)
    clear Z0 BZ
    go_region
    go_wp2_with fail
    obtain ⟨wq, hwq⟩ : ∃ wq, (((wz.setCell ⟨w1.heap.size, 0, none⟩ (.int .i64 b)).setCell ⟨w1.heap.size, 1, none⟩ (.int .i64 (x - 1))).setCell ⟨w1.heap.size, 2, none⟩ (.int .i64 y)).drew = wq := ⟨_, rfl⟩
    have HZq : Hid (Row wq w1.heap.size [.int .i64 b, .int .i64 (x - 1), .int .i64 y]) := by rw [← hwq]; exact HZ.out
    have HAq : Hid (Row wq w.heap.size [.int .i64 0, .int .i64 0, .int .i64 0]) := by rw [← hwq]; exact HAz.out
    have HBq : Hid (Below w.heap.size w wq) := by rw [← hwq]; exact HBz.out.drew
    simp only [hwq]
    clear hwq hwz d0 d1 d2 z0 z1 z2 y0 y1 y2 HZ HAz HBz c0 c1 c2
    refine (sShowHost b (x - 1) y wq).mono ?_
    rintro e w5 ⟨rfl, b5⟩
    have HA5 := hid (HAq.out.below b5 HAq.out.lt)
    have HZ5 := hid (HZq.out.below b5 HZq.out.lt)
    have HB5 := hid (HBq.out.trans (b5.mono HBq.out.size))
    clear b5 HAq HZq HBq
    have a0 := HA5.out.c 0 rfl
    have a1 := HA5.out.c 1 rfl
    have a2 := HA5.out.c 2 rfl
    have f0 := HA5.out.f 0
    have f1 := HA5.out.f 1
    have f2 := HA5.out.f 2
    have q0 := HZ5.out.c 0 rfl
    have q1 := HZ5.out.c 1 rfl
    have q2 := HZ5.out.c 2 rfl
    by_cases hsh : showHost b (x - 1) y = s
    · have HN2 : Hid (readHost R s = some (b, x - 1, y)) := by unfold Hid readHost; rw [HN.out]; simp only []; rw [if_pos hsh]
      have hne := Own.eqS_yes hsh
      generalize showHost b (x - 1) y = sh at *
      have HRA := hid ((((HA5.out).set 0 (.int .i64 b)).set 1 (.int .i64 (x - 1))).set 2 (.int .i64 y))
      have HBf := hid (below_set (below_set (below_set (HB5.out) w.heap.size 0 (.int .i64 b) (Nat.le_refl _)) w.heap.size 1 (.int .i64 (x - 1)) (Nat.le_refl _)) w.heap.size 2 (.int .i64 y) (Nat.le_refl _))
      go_wp2
      refine bodyPost_ret (results_one rfl _ _ w.heap.size _ _ rfl rfl (load_row HRA.out Tryz.underlying78 rfl (by kernel_rfl))) rfl ?_
      exact ⟨Or.inl ⟨b, x - 1, y, HN2.out, rfl⟩, HBf.out⟩
    · have HN2 : Hid (readHost R s = none) := by unfold Hid readHost; rw [HN.out]; simp only []; rw [if_neg hsh]
      have hne := Own.eqS_no hsh
      generalize showHost b (x - 1) y = sh at *
      have HRA := hid ((((HA5.out).set 0 (.int .i64 0)).set 1 (.int .i64 0)).set 2 (.int .i64 0))
      have HBf := hid (below_set (below_set (below_set (HB5.out) w.heap.size 0 (.int .i64 0) (Nat.le_refl _)) w.heap.size 1 (.int .i64 0) (Nat.le_refl _)) w.heap.size 2 (.int .i64 0) (Nat.le_refl _))
      go_wp2
      refine bodyPost_ret (results_one rfl _ _ w.heap.size _ _ rfl rfl (load_row HRA.out Tryz.underlying78 rfl (by kernel_rfl))) rfl ?_
      exact ⟨Or.inr ⟨HN2.out, rfl⟩, HBf.out⟩

end Go.Proofs.YtjlkighikfgaeaaGreatDoor.Rd

namespace Go.Proofs.YtjlkighikfgaeaaGreatDoor.Rd
open Go.RowKit Go.Proofs.YtjlkighikfgaeaaGreatDoor.Mem
set_option linter.unusedVariables false

/-- What numbers gives. -/
def NumsGive (w w' : World) (c : Nat) (s : ByteArray) (lo : Int) (u : TypeId) (pv : Value) (e : Ending) : Option (List Int × Nat) → Prop
  | some (l, z) => ∃ v, e = .returned v ∧ Ir w' w.heap.size v (l.map (· + lo)) ∧ Cur w' c (rest s z)
  | none => e = lack u pv

theorem cur_kept {S : Nat → Prop} {w w' : World} {c : Nat} {r : ByteArray} (h : Cur w c r) (k : Kept S w w') (hn : ¬ S c) : Cur w' c r := by
  unfold Cur; rw [k.block c h.lt hn]; exact h

set_option maxRecDepth 100000 in
set_option maxHeartbeats 2000000 in
theorem numbers (R : ByteArray → Int × Nat) (hR : Reads R) (s : ByteArray) (hs : s.size ≤ 1048576) (i n : Nat) (hn : n ≤ 100) (lo : Int) (hlo : -1 ≤ lo ∧ lo ≤ 0) (w : World) (c : Nat) (h : Cur w c (rest s i)) (u : TypeId) (pv : Value) (hL : Lacks w u pv) (hc : 1 < c) :
    Calls Tryz.prog 188 #[.pointer (some ⟨c, 0, none⟩), .int .i64 (n : Int), .int .i64 lo] w fun e w' => NumsGive w w' c s lo u pv e (nums R s i n) ∧ Kept (fun b => b = c) w w' := by
  have HR := hid hR
  have HH := hid h
  have HL := hid hL
  have hcl := h.lt
  clear hR h hL
  go_enter Tryz.func188, Tryz.ntmps188
  go_wp2
  go_loopw [7, 9] (fun v j wr => ∃ (k : Nat) (l : List Int) (z : Nat), k ≤ n ∧ j = .int .i64 (k : Int) ∧ Hid (nums R s i k = some (l, z)) ∧ Hid (Ir wr w.heap.size v (l.map (· + lo))) ∧ Hid (Cur wr c (rest s z)) ∧ Hid (Kept (fun b => b = c) w wr)) (fun _ j _ => n - (intOf j).toNat)
  case atStart => exact ⟨0, [], i, Nat.zero_le _, rfl, rfl, Or.inl ⟨_, rfl, rfl, rfl⟩, HH, Kept.refl _ _⟩
  case round =>
    obtain ⟨k, l, z, hk, rfl, HN, HI, HC, HK⟩ := hrel
    have hl : (l.map (· + lo)).length ≤ 100 := by have := nums_len HN.out; simp; omega
    obtain ⟨a, cap, rfl, _⟩ := HI.out.w
    have hws := HK.out.size
    by_cases hlt : k < n
    · have HST := hid (nums_step HN.out)
      have HLr := hid (HL.out.kept HK.out (by omega))
      have HXb := hid (HR.out (rest s z) (by rw [rest_size]; unfold maxLen; omega))
      go_wp2_with fail
      refine (number R HR.out s hs z wr c HC.out u pv HLr.out).mono ?_
      rintro e w1 (⟨hq, rfl, M1⟩ | ⟨hq, rfl, hw⟩)
      · have HX : Hid (nums R s i (k + 1) = some (l ++ [(R (rest s z)).1], z + (R (rest s z)).2)) := by rw [Hid, HST.out, if_neg hq]
        have hx0 := HXb.out.x0
        have hx1 := HXb.out.x1
        have HM := hid M1
        have HI1 : Hid (Ir w1 w.heap.size (.slice a (l.map (· + lo)).length cap) (l.map (· + lo))) := RowO.kept HI.out M1.2 (fun b hb x => by have := (RowO.lt HI.out hb).1; omega)
        have hs1 := M1.2.size
        have HMp : Hid (l.map (· + lo) ++ [(R (rest s z)).1 + lo] = (l ++ [(R (rest s z)).1]).map (· + lo)) := by simp [Hid]
        clear M1 hq HST HXb
        generalize (R (rest s z)).1 = x at *
        generalize z + (R (rest s z)).2 = z2 at *
        generalize l.map (· + lo) = ll at *
        have hwb : w.heap.size ≤ (w1.alloc (.cells #[.int .i64 (x + lo)] 3)).heap.size := by have := lt_alloc w1 (.cells #[.int .i64 (x + lo)] 3); omega
        go_wp2_with (at_builtin; refine wpList_app 36 3 (.int .i64 0) 1 8 Tryz.underlying36 info3 rfl (by decide) (by decide) _ rfl (.tmp 11) (.tmp 16) rfl w.heap.size _ ll.length (ic ll) rfl (HI1.out.below ((Below.refl _ _).alloc (Nat.le_refl _) _)) ⟨w1.heap.size, 0, none⟩ 1 1 [.int .i64 (x + lo)] rfl rfl (one_row w1 (x + lo)) (by intro u hu; exact ic_one [x + lo] u (by simpa [ic] using hu)) (by omega) hwb ?_; intro v2 w2 r2 kk hi2; obtain ⟨p2, d2, e2, _⟩ := r2.wr; subst e2)
        have hrb : ∀ b, rb (.slice a ll.length cap) = some b → w.heap.size ≤ b := fun b hb => (RowO.lt HI1.out hb).1
        have HC2 : Cur w2 c (rest s z2) := cur_kept ((HM.out.1).below ((Below.refl _ _).alloc (Nat.le_refl _) _)) kk (fun x => by have := hrb c x; omega)
        have HK2 : Kept (fun b => b = c) w w2 := ((HK.out.trans HM.out.2).trans ((Kept.of_below (S := fun _ => False) ((Below.refl _ w1).alloc (Nat.le_refl _) (.cells #[.int .i64 (x + lo)] 3))).trans kk)).mono (fun b hb x => by rcases x with (x | x) | (x | x); exact x; exact x; cases x; (have := hrb b x; omega))
        exact ⟨⟨k + 1, l ++ [x], z2, by omega, by go_num, HX, by rw [← HMp.out]; unfold Ir; rw [← ic_app, List.length_append]; exact r2, HC2, HK2⟩, by simp [intOf]; omega⟩
      · have HX : Hid (nums R s i n = none) := by
          have hz : nums R s i (k + 1) = none := by rw [HST.out, if_pos hq]
          have := nums_none hz (n - (k + 1))
          rwa [show k + 1 + (n - (k + 1)) = n by omega] at this
        obtain rfl := hw.symm
        clear hq hw
        unfold lack
        go_wp2
        rw [HX.out]
        exact ⟨rfl, rfl, HK.out⟩
    · obtain rfl : k = n := by omega
      go_wp2
      go_ret
      rw [HN.out]
      exact ⟨⟨_, rfl, HI.out, HC.out⟩, HK.out⟩

end Go.Proofs.YtjlkighikfgaeaaGreatDoor.Rd

namespace Go.Proofs
open Go.Shelf
def Tryz.lays169_ren : Go.Shelf.Ren := ⟨fun | 169 => 197 | n => n, fun | 70 => 208 | 9 => 9 | 0 => 0 | 72 => 210 | 37 => 22 | 127 => 217 | 3 => 3 | 5 => 5 | n => n, fun | n => n⟩
theorem Tryz.lays169 : Go.Proofs.Lays.n169 Tryz.prog Tryz.lays169_ren := {
  mixed := by kernel_rfl
  f169 := Tryz.func197.trans (congrArg some (by kernel_rfl))
  t0 := Tryz.underlying0
  a0 := Tryz.isAgg0
  z0 := Tryz.sizeOf0
  v0 := Tryz.zeroValue0
  t3 := Tryz.underlying3
  a3 := Tryz.isAgg3
  z3 := Tryz.sizeOf3
  v3 := Tryz.zeroValue3
  t9 := Tryz.underlying9
  a9 := Tryz.isAgg9
  z9 := Tryz.sizeOf9
  v9 := Tryz.zeroValue9
  t37 := Tryz.underlying22
  a37 := Tryz.isAgg22
  z37 := Tryz.sizeOf22
  v37 := Tryz.zeroValue22
  t70 := Tryz.underlying208
  a70 := Tryz.isAgg208
  z70 := Tryz.sizeOf208
  v70 := Tryz.zeroValue208
  t72 := Tryz.underlying210
  a72 := Tryz.isAgg210
  z72 := Tryz.sizeOf210
  v72 := Tryz.zeroValue210
  t127 := Tryz.underlying217
  a127 := Tryz.isAgg217
  z127 := Tryz.sizeOf217
  v127 := Tryz.zeroValue217 }
end Go.Proofs

namespace Go.Proofs.YtjlkighikfgaeaaGreatDoor.Build
open Go.RowKit Go.Proofs.YtjlkighikfgaeaaGreatDoor.Mem
set_option linter.unusedVariables false

/-- The numbers of the types that a builder is made of. -/
abbrev TB : TypeId := 210

theorem sizeB : (Tryz.prog.info? 210).map (·.size) = some 2 := by kernel_rfl
theorem liesB : liesAt Tryz.prog Tryz.prog.depth 210 (2 / Tryz.prog.cellsOf 210) 0 210 1 = true := by kernel_rfl
theorem infoU8 : (Tryz.prog.info? 5).map (fun i => (i.zero, i.size, i.bytes)) = some (some (.int .u8 0), 1, 1) := by kernel_rfl

set_option maxRecDepth 100000 in
set_option maxHeartbeats 1000000 in
theorem check_used (b : Nat) (w : World) (h0 : w.cell? ⟨b, 0, none⟩ = some (.pointer (some ⟨b, 0, none⟩))) :
    Calls Tryz.prog 208 #[.pointer (some ⟨b, 0, none⟩)] w fun e w' => e = .returned (.tuple #[]) ∧ w' = w := by
  obtain ⟨j, hj, _⟩ := Option.map_eq_some_iff.1 sizeB
  have hne := fun w => Lib.run_neq_ptr_same (P := Tryz.prog) w ⟨b, 0, none⟩ Tryz.underlying208 hj
  go_enter Tryz.func208, Tryz.ntmps208
  go_wp2
  go_end0
  exact ⟨rfl, rfl⟩

/-- The model stands in for internal/abi.NoEscape: it gives what it is given. -/
theorem noEsc (x : Value) (w : World) : (callFunc 210 #[x]).run Tryz.prog w = .ok (.value x) w := by
  rw [run_callFunc_extern Tryz.func210 (by kernel_rfl) (by kernel_rfl) (by kernel_rfl) (e := Extern.AbiNoEscape.same) (by kernel_rfl), Lib.run_noEscape]
  rfl

set_option maxRecDepth 100000 in
set_option maxHeartbeats 1000000 in
theorem check_new (b : Nat) (w : World) (h0 : w.cell? ⟨b, 0, none⟩ = some (.pointer none)) (hsh : w.shape? b = some (210, 2)) (hfz : w.frozen? ⟨b, 0, none⟩ = false) :
    Calls Tryz.prog 208 #[.pointer (some ⟨b, 0, none⟩)] w fun e w' => e = .returned (.tuple #[]) ∧ w' = w.setCell ⟨b, 0, none⟩ (.pointer (some ⟨b, 0, none⟩)) := by
  obtain ⟨j, hj, hjs⟩ := Option.map_eq_some_iff.1 sizeB
  have hto := Lib.run_to_unsafe (P := Tryz.prog) w ⟨b, 0, none⟩ Tryz.underlying208 Tryz.underlying219 hj (by rw [hjs]; decide) hsh (Nat.zero_lt_succ 1)
  have hesc := noEsc (.pointer (some ⟨b, 0, none⟩)) w
  have hfrom := Lib.run_from_unsafe (P := Tryz.prog) w ⟨b, 0, none⟩ Tryz.underlying219 Tryz.underlying208 hj hsh liesB
  go_enter Tryz.func208, Tryz.ntmps208
  go_wp2
  go_end0
  exact ⟨rfl, rfl⟩

/-- A builder in block b that holds the text s, all of it in blocks from B on. -/
def Bd (B b : Nat) (s : ByteArray) (w : World) : Prop := Lib.IsBuilder 210 5 B b (Lib.strCells s) w

theorem Bd.new (w : World) : Bd w.heap.size w.heap.size ⟨#[]⟩ (w.alloc (.cells #[.pointer none, .slice none 0 0] 210)) := Lib.fresh_isBuilder _ _ w

theorem at_below {B b : Nat} {p : Value} {bs : List Value} {w w' : World} (h : Lib.BuilderAt 210 5 B b p bs w) (k : Below w.heap.size w w') : Lib.BuilderAt 210 5 B b p bs w' := by
  have hlt := h.lt
  obtain ⟨hB, v, hb, ho, hne⟩ := h
  refine ⟨hB, v, by rw [k.block b hlt]; exact hb, ?_, hne⟩
  exact ho.kept (row := some w.heap.size) ⟨k.os, k.tape, k.output, k.size, fun i hi _ => k.block i hi⟩ (by
    rcases hv : v.ownBlock with _ | g
    · exact Or.inl rfl
    · refine Or.inr (fun e => ?_)
      have := (ho.lt g hv).2
      injection e with e
      omega)

theorem Bd.below {B b : Nat} {s : ByteArray} {w w' : World} (h : Bd B b s w) (k : Below w.heap.size w w') : Bd B b s w' := by
  rcases h with h | h
  · exact Or.inl (at_below h k)
  · exact Or.inr (at_below h k)

theorem Bd.lt {B b : Nat} {s : ByteArray} {w : World} (h : Bd B b s w) : b < w.heap.size := by
  rcases h with h | h
  · exact h.lt
  · exact h.lt

/-- No block but the builder's own and rows of bytes has turned. -/
def Others (b : Nat) (w w' : World) : Prop := ∀ (j : Nat) (cs : Array Value) (T : TypeId) (fr : Nat × Nat), j ≠ b → T ≠ 5 → w.heap[j]? = some (.cells cs T fr) → w'.heap[j]? = some (.cells cs T fr)

theorem Others.refl (b : Nat) (w : World) : Others b w w := fun _ _ _ _ _ _ h => h
theorem Others.trans {b : Nat} {w w1 w2 : World} (h : Others b w w1) (k : Others b w1 w2) : Others b w w2 := fun j cs T fr hj hT e => k j cs T fr hj hT (h j cs T fr hj hT e)
theorem Others.set (b off : Nat) (w : World) (v : Value) : Others b w (w.setCell ⟨b, off, none⟩ v) := fun j cs T fr hj _ e => by
  rw [heap_setCell_other w ⟨b, off, none⟩ j v hj]; exact e

theorem Others.row {b : Nat} {w w' : World} {g : Nat} {xs : List Value} {t : TypeId} (h : Others b w w') (hg : g ≠ b) (ht : t ≠ 5) (e : w.heap[g]? = some (.cells xs.toArray t (0, 0))) : w'.heap[g]? = some (.cells xs.toArray t (0, 0)) := h g _ t _ hg ht e

theorem check (B b : Nat) (bs : List Value) (w : World) (h : Lib.IsBuilder 210 5 B b bs w) :
    Calls Tryz.prog 208 #[.pointer (some ⟨b, 0, none⟩)] w fun e w' => e = .returned (.tuple #[]) ∧ Lib.BuilderAt 210 5 B b (.pointer (some ⟨b, 0, none⟩)) bs w' ∧ Below B w w' ∧ Others b w w' := by
  rcases h with h | h
  · refine (check_new b w h.cell0 h.shape h.frozen0).mono ?_
    rintro e w' ⟨rfl, rfl⟩
    exact ⟨rfl, h.used _, (Below.refl B w).setCell (p := ⟨b, 0, none⟩) h.1 _, Others.set b 0 w _⟩
  · refine (check_used b w h.cell0).mono ?_
    rintro e w' ⟨rfl, rfl⟩
    exact ⟨rfl, h, Below.refl B _, Others.refl b _⟩

theorem cells_append (s t : ByteArray) : Lib.strCells s ++ Lib.strCells t = Lib.strCells (s ++ t) := by
  unfold Lib.strCells
  rw [ByteArray.data_append]
  simp

set_option maxRecDepth 100000 in
set_option maxHeartbeats 1000000 in
/-- WriteString. -/
theorem write_others (B b : Nat) (s t : ByteArray) (w : World) (h : Bd B b s w) (hs : s.size + t.size ≤ 1048576) (hBw : B ≤ w.heap.size) :
    Calls Tryz.prog 196 #[.pointer (some ⟨b, 0, none⟩), .string t] w fun e w' => e = .returned (.tuple #[.int .i64 (t.size : Int), .nilIface]) ∧ Bd B b (s ++ t) w' ∧ Below B w w' ∧ Others b w w' := by
  obtain ⟨i0, hi, hz⟩ := Option.map_eq_some_iff.1 infoU8
  simp only [Prod.mk.injEq] at hz
  obtain ⟨hz0, hz1, hz2⟩ := hz
  have hls := Lib.strCells_length s
  have HC := hid (cells_append s t)
  go_enter Tryz.func196, Tryz.ntmps196
  go_wp2_with fail
  refine (check B b _ w h).mono ?_
  rintro e w1 ⟨rfl, h1, hb1, ho1⟩
  have hlt := h1.lt
  obtain ⟨hB, v, hbk, hown, hne⟩ := h1
  have hsz1 := hb1.size
  have k1 : w1.cell? ⟨b, 1, none⟩ = some v := by rw [Lib.cell_of_heap hbk]; rfl
  have HK := hid hbk
  have HO := hid hown
  have HB1 := hid hb1
  have HO1 := hid ho1
  clear hbk hown hb1 ho1
  go_wp2_with (at_builtin; refine Lib.wpList_append_own_string _ rfl _ _ 22 9 rfl B 5 i0 Tryz.underlying22 Tryz.underlying9 hi hz0 hz1 hz2 _ _ _ rfl HO.out t rfl (by unfold maxLen; omega) (by omega) (by omega) ?_)
  intro v2 w2 hown2 hgrow _
  have hb2 : w2.heap[b]? = some (.cells #[.pointer (some ⟨b, 0, none⟩), v] 210 (0, 0)) := by
    rw [hgrow.block b hlt (fun e => hne e.symm)]; exact HK.out
  have d1 : w2.cell? ⟨b, 1, none⟩ = some v := by rw [Lib.cell_of_heap hb2]; rfl
  have f1 : w2.frozen? ⟨b, 1, none⟩ = false := Lib.frozen_of_heap hb2 1
  obtain ⟨ao, n2, cap, rfl⟩ : ∃ ao n2 cap, v2 = .slice ao n2 cap := by
    rcases hown2.2 with ⟨hv, _⟩ | ⟨g, cap, cur, hv, _⟩
    · exact ⟨_, _, _, hv⟩
    · exact ⟨_, _, _, hv⟩
  have HP := hid (Lib.BuilderAt.put (T := 210) (e := 5) hB hb2 (bs' := Lib.strCells (s ++ t)) (by rw [← HC.out]; simpa [Lib.strCells_length] using hown2) (by decide))
  have HL := hid ((HB1.out.grown hgrow (by omega) (fun k hk => (HO.out.lt k hk).1)).setCell (p := ⟨b, 1, none⟩) hB (.slice ao n2 cap))
  have HW : Hid (Others b w (w2.setCell ⟨b, 1, none⟩ (.slice ao n2 cap))) := by
    refine (HO1.out.trans (fun j cs T fr hj hT e => ?_)).trans (Others.set b 1 w2 _)
    have hjl : j < w1.heap.size := by
      rcases Nat.lt_or_ge j w1.heap.size with q | q
      · exact q
      · rw [Array.getElem?_eq_none q] at e; cases e
    rw [hgrow.block j hjl (fun x => ?_)]
    · exact e
    · rcases HO.out.2 with ⟨hv, _⟩ | ⟨g, cp, cur, hv, _, hgk, _⟩
      · rw [hv] at x; cases x
      · rw [hv] at x
        obtain rfl : j = g := by injection x
        rw [hgk] at e
        injection e with e
        injection e with _ e2 _
        exact hT e2.symm
  clear hgrow hown2 hb2
  go_wp2
  go_ret2
  exact ⟨rfl, Or.inr HP.out, HL.out, HW.out⟩

theorem write (B b : Nat) (s t : ByteArray) (w : World) (h : Bd B b s w) (hs : s.size + t.size ≤ 1048576) (hBw : B ≤ w.heap.size) :
    Calls Tryz.prog 196 #[.pointer (some ⟨b, 0, none⟩), .string t] w fun e w' => e = .returned (.tuple #[.int .i64 (t.size : Int), .nilIface]) ∧ Bd B b (s ++ t) w' ∧ Below B w w' :=
  (write_others B b s t w h hs hBw).mono fun _ _ ⟨he, hd, hb, _⟩ => ⟨he, hd, hb⟩

/-- What the library's contract of String asks of the two types. -/
theorem extra : Builder.Extra Tryz.prog Tryz.lays169_ren :=
  { sizeBuilder := by kernel_rfl, liesBuilder := by kernel_rfl, t5 := Tryz.underlying5, a5 := Tryz.isAgg5, z5 := Tryz.sizeOf5, v5 := Tryz.zeroValue5, infoByte := by kernel_rfl, cellsByte := by kernel_rfl, sizeByte := by kernel_rfl, neB5 := by decide }

/-- String. -/
theorem string (B b : Nat) (s : ByteArray) (w : World) (h : Bd B b s w) (hBw : B ≤ w.heap.size) :
    Calls Tryz.prog 197 #[.pointer (some ⟨b, 0, none⟩)] w fun e w' => e = .returned (.string s) ∧ Below B w w' :=
  Any.Builder_String_any Tryz.lays169 extra B b s.data.toList w h hBw

end Go.Proofs.YtjlkighikfgaeaaGreatDoor.Build

namespace Go.Proofs.YtjlkighikfgaeaaGreatDoor.Sec
open Go.RowKit Go.Proofs.YtjlkighikfgaeaaGreatDoor.Mem
set_option linter.unusedVariables false

set_option maxRecDepth 100000 in
set_option maxHeartbeats 1000000 in
theorem areFrom (w : World) (a : Option Addr) (cap : Nat) (l : List Int) (lo hi : Int) (S : Ints w a l) (hl : l.length ≤ 1048576) :
    Calls Tryz.prog 165 #[.slice a l.length cap, .int .i64 lo, .int .i64 hi] w fun e w' => e = .returned (.bool (between lo hi l)) ∧ w' = w := by
  have HS := hid S
  clear S
  go_enter Tryz.func165, Tryz.ntmps165
  go_wp2
  go_loop [11] (fun i => ∃ k : Nat, k ≤ l.length ∧ i = .int .i64 (k : Int) ∧ Hid (between lo hi (l.take k) = true)) (fun i => l.length - (intOf i).toNat)
  case atStart => exact ⟨0, Nat.zero_le _, rfl, rfl⟩
  case round =>
    obtain ⟨k, hk, rfl, HK⟩ := hrel
    by_cases hlt : k < l.length
    · obtain ⟨b, off, rfl, hc⟩ := HS.out k hlt
      replace hc : w.cell? ⟨b, off + k, none⟩ = some (.int .i64 (l.getD k 0)) := hc
      have HT := hid (between_take lo hi l k hlt)
      have HN := hid (between_no lo hi l k hlt)
      generalize l.getD k 0 = x at *
      by_cases hx : lo ≤ x ∧ x ≤ hi
      · have hx' := decide_eq_true hx
        have HR : Hid (between lo hi (l.take (k + 1)) = true) := by rw [Hid, HT.out, HK.out, hx']; rfl
        clear hx
        go_wp2_with fail
        refine (hx' ▸ isFrom x lo hi _).mono ?_
        rintro e w1 ⟨rfl, hw⟩
        subst hw
        go_wp2
        exact ⟨⟨k + 1, by omega, by go_num, HR⟩, by simp [intOf]; omega⟩
      · have hx' := decide_eq_false hx
        have HR := hid (HN.out hx)
        clear hx
        go_wp2_with fail
        refine (hx' ▸ isFrom x lo hi _).mono ?_
        rintro e w1 ⟨rfl, hw⟩
        subst hw
        go_wp2
        go_ret
        exact ⟨by rw [HR.out]; rfl, rfl⟩
    · obtain rfl : k = l.length := by omega
      have HR : Hid (between lo hi l = true) := by have := HK.out; rwa [List.take_length] at this
      go_wp2
      go_ret
      exact ⟨by rw [HR.out]; rfl, rfl⟩

set_option maxRecDepth 100000 in
set_option maxHeartbeats 1000000 in
theorem showNumbers (w : World) (a : Option Addr) (cap : Nat) (l : List Int) (lo : Int) (S : Ints w a l) (hl : l.length ≤ 1000) (hlo : -1 ≤ lo ∧ lo ≤ 0) (hb : ∀ k, k < l.length → -1 ≤ l.getD k 0 ∧ l.getD k 0 ≤ 1000000) :
    Calls Tryz.prog 194 #[.slice a l.length cap, .int .i64 lo] w fun e w' => e = .returned (.string (vrs lo l)) ∧ Below w.heap.size w w' := by
  have HS := hid S
  have HN := hid (Build.Bd.new w)
  have HL : Hid (∀ k, k < l.length → -1 ≤ l.getD k 0 ∧ l.getD k 0 ≤ 1000000) := hb
  have HZ := hid (fun k => vrs_size lo (l.take k))
  clear S hb
  go_enter Tryz.func194, Tryz.ntmps194
  go_wp2
  go_loopw [10] (fun i wr => ∃ k : Nat, k ≤ l.length ∧ i = .int .i64 (k : Int) ∧ Hid (Build.Bd w.heap.size w.heap.size (vrs lo (l.take k)) wr) ∧ Hid (Below w.heap.size w wr)) (fun i _ => l.length - (intOf i).toNat)
  case atStart => exact ⟨0, Nat.zero_le _, rfl, HN, (Below.refl _ _).alloc (Nat.le_refl _) _⟩
  case round =>
    obtain ⟨k, hk, rfl, HD, HB⟩ := hrel
    by_cases hlt : k < l.length
    · obtain ⟨b, off, rfl, hc⟩ := (HS.out.below HB.out) k hlt
      replace hc : wr.cell? ⟨b, off + k, none⟩ = some (.int .i64 (l.getD k 0)) := hc
      have hbk := HL.out k hlt
      have HT := hid (vrs_take lo l k hlt)
      have hz := HZ.out k
      have hzl : (l.take k).length ≤ k := List.length_take_le _ _
      generalize l.getD k 0 = x at *
      generalize vrs lo (l.take k) = s at *
      go_wp2_with fail
      refine (iVar (x - lo) _).mono ?_
      rintro e w1 ⟨rfl, b1⟩
      have hv := vr_size (x - lo)
      have HB1 := hid (HB.out.trans (b1.mono HB.out.size))
      have HD1 := hid (HD.out.below b1)
      clear b1 hc
      go_wp2_with fail
      refine (Build.write w.heap.size w.heap.size s (vr (x - lo)) w1 HD1.out (by omega) HB1.out.size).mono ?_
      rintro e w2 ⟨rfl, hD2, b2⟩
      have HD2 := hid hD2
      have HB2 := hid (HB1.out.trans b2)
      clear hD2 b2
      go_wp2
      exact ⟨⟨k + 1, by omega, by go_num, by rw [HT.out]; exact HD2, HB2⟩, by simp [intOf]; omega⟩
    · obtain rfl : k = l.length := by omega
      have HD' : Hid (Build.Bd w.heap.size w.heap.size (vrs lo l) wr) := by have := HD.out; rwa [List.take_length] at this
      go_wp2_with fail
      refine (Build.string w.heap.size w.heap.size (vrs lo l) wr HD'.out HB.out.size).mono ?_
      rintro e w1 ⟨rfl, b1⟩
      have HB1 := hid (HB.out.trans b1)
      clear b1
      go_wp2
      go_ret
      exact ⟨rfl, HB1.out⟩

set_option maxHeartbeats 400000 in
theorem l4Block (x : Int) (w : World) :
    Calls Tryz.prog 161 #[.int .i64 x] w fun e w' => e = .returned (.bool (decide (0 ≤ x ∧ x ≤ 17))) ∧ w' = w := by
  by_cases h1 : 0 ≤ x
  · by_cases h2 : x < 18
    · rw [decide_eq_true (And.intro h1 (show x ≤ 17 by omega))]
      go_enter Tryz.func161, Tryz.ntmps161
      go_wp2
      go_ret
      exact ⟨rfl, rfl⟩
    · rw [decide_eq_false (fun h => h2 (by omega))]
      go_enter Tryz.func161, Tryz.ntmps161
      go_wp2
      go_ret
      exact ⟨rfl, rfl⟩
  · rw [decide_eq_false (fun h => h1 h.1)]
    go_enter Tryz.func161, Tryz.ntmps161
    go_wp2
    go_ret
    exact ⟨rfl, rfl⟩

set_option maxHeartbeats 400000 in
theorem l4Flag (b : Bool) (w : World) : Calls Tryz.prog 138 #[.bool b] w fun e w' => e = .returned (.string (flag b)) ∧ Below w.heap.size w w' := by
  cases b
  · have HD : Hid (vr 0 = flag false) := rfl
    go_enter Tryz.func138, Tryz.ntmps138
    go_wp2_with fail
    refine (sVar 0 _).mono ?_
    rintro e w1 ⟨rfl, b1⟩
    have HB := hid b1
    clear b1
    go_wp2
    go_ret
    exact ⟨Own.ret_str HD.out, HB.out⟩
  · have HD : Hid (vr 1 = flag true) := rfl
    go_enter Tryz.func138, Tryz.ntmps138
    go_wp2_with fail
    refine (sVar 1 _).mono ?_
    rintro e w1 ⟨rfl, b1⟩
    have HB := hid b1
    clear b1
    go_wp2
    go_ret
    exact ⟨Own.ret_str HD.out, HB.out⟩

set_option maxHeartbeats 400000 in
theorem showFlag (b : Bool) (w : World) : Calls Tryz.prog 155 #[.bool b] w fun e w' => e = .returned (.string (flag b)) ∧ Below w.heap.size w w' := by
  cases b
  · have HD : Hid (vr 0 = flag false) := rfl
    go_enter Tryz.func155, Tryz.ntmps155
    go_wp2_with fail
    refine (iVar 0 _).mono ?_
    rintro e w1 ⟨rfl, b1⟩
    have HB := hid b1
    clear b1
    go_wp2
    go_ret
    exact ⟨Own.ret_str HD.out, HB.out⟩
  · have HD : Hid (vr 1 = flag true) := rfl
    go_enter Tryz.func155, Tryz.ntmps155
    go_wp2_with fail
    refine (iVar 1 _).mono ?_
    rintro e w1 ⟨rfl, b1⟩
    have HB := hid b1
    clear b1
    go_wp2
    go_ret
    exact ⟨Own.ret_str HD.out, HB.out⟩

end Go.Proofs.YtjlkighikfgaeaaGreatDoor.Sec

namespace Go.Proofs.YtjlkighikfgaeaaGreatDoor.Sec
open Go.RowKit Go.Proofs.YtjlkighikfgaeaaGreatDoor.Mem
set_option linter.unusedVariables false

theorem freesOk_long (l : List Int) (h : ¬ l.length ≤ 12) : freesOk l = false := by unfold freesOk; rw [decide_eq_false h]; rfl
theorem freesOk_short (l : List Int) (h : l.length ≤ 12) : freesOk l = between 0 17 l := by unfold freesOk; rw [decide_eq_true h]; rfl
theorem frees_no {l : List Int} (h : freesOk l = false) : showFrees l = ⟨#[]⟩ := by unfold showFrees; rw [h]; rfl
theorem frees_yes {l : List Int} (h : freesOk l = true) : summed (⟨#[102]⟩ ++ vr (l.length : Int) ++ vrs 0 l) = showFrees l := by unfold showFrees; rw [h]; rfl
theorem frees_len {l : List Int} (h : freesOk l = true) : l.length ≤ 12 := by
  unfold freesOk at h; rw [Bool.and_eq_true] at h; exact of_decide_eq_true h.1
theorem frees_bd {l : List Int} (h : freesOk l = true) : ∀ k, k < l.length → 0 ≤ l.getD k 0 ∧ l.getD k 0 ≤ 17 := fun k hk => by
  unfold freesOk at h; rw [Bool.and_eq_true] at h; exact between_getD h.2 k hk

theorem frees_size (l : List Int) (h : l.length ≤ 12) : ((⟨#[102]⟩ : ByteArray) ++ vr (l.length : Int) ++ vrs 0 l).size ≤ 1048576 := by
  have h1 := vr_size (l.length : Int)
  have h2 := vrs_size 0 l
  rw [ByteArray.size_append, ByteArray.size_append]
  have : (⟨#[102]⟩ : ByteArray).size = 1 := rfl
  omega

set_option maxRecDepth 100000 in
set_option maxHeartbeats 1000000 in
theorem l4FreesOk (w : World) (a : Option Addr) (cap : Nat) (l : List Int) (S : Ints w a l) (hl : l.length ≤ 1048576) :
    Calls Tryz.prog 99 #[.slice a l.length cap] w fun e w' => e = .returned (.bool (freesOk l)) ∧ w' = w := by
  have HS := hid S
  clear S
  by_cases hg : 12 < (l.length : Int)
  · have HN := hid (freesOk_long l (by omega))
    go_enter Tryz.func99, Tryz.ntmps99
    go_wp2
    go_ret
    exact ⟨by rw [HN.out]; rfl, rfl⟩
  have HE := hid (freesOk_short l (by omega))
  go_enter Tryz.func99, Tryz.ntmps99
  go_wp2
  go_loop [3] (fun i => ∃ k : Nat, k ≤ l.length ∧ i = .int .i64 (k : Int) ∧ Hid (between 0 17 (l.take k) = true)) (fun i => l.length - (intOf i).toNat)
  case atStart => exact ⟨0, Nat.zero_le _, rfl, rfl⟩
  case round =>
    obtain ⟨k, hk, rfl, HK⟩ := hrel
    by_cases hlt : k < l.length
    · obtain ⟨b, off, rfl, hc⟩ := HS.out k hlt
      replace hc : w.cell? ⟨b, off + k, none⟩ = some (.int .i64 (l.getD k 0)) := hc
      have HT := hid (between_take 0 17 l k hlt)
      have HN := hid (between_no 0 17 l k hlt)
      generalize l.getD k 0 = x at *
      by_cases hx : 0 ≤ x ∧ x ≤ 17
      · have hx' := decide_eq_true hx
        have HR : Hid (between 0 17 (l.take (k + 1)) = true) := by rw [Hid, HT.out, HK.out, hx']; rfl
        clear hx
        go_wp2_with fail
        refine (hx' ▸ l4Block x _).mono ?_
        rintro e w1 ⟨rfl, hw⟩
        subst hw
        go_wp2
        exact ⟨⟨k + 1, by omega, by go_num, HR⟩, by simp [intOf]; omega⟩
      · have hx' := decide_eq_false hx
        have HR := hid (HN.out hx)
        clear hx
        go_wp2_with fail
        refine (hx' ▸ l4Block x _).mono ?_
        rintro e w1 ⟨rfl, hw⟩
        subst hw
        go_wp2
        go_ret
        exact ⟨by rw [HE.out, HR.out]; rfl, rfl⟩
    · obtain rfl : k = l.length := by omega
      have HR : Hid (between 0 17 l = true) := by have := HK.out; rwa [List.take_length] at this
      go_wp2
      go_ret
      exact ⟨by rw [HE.out, HR.out]; rfl, rfl⟩

set_option maxRecDepth 100000 in
set_option maxHeartbeats 1000000 in
theorem areFrees (w : World) (a : Option Addr) (cap : Nat) (l : List Int) (S : Ints w a l) (hl : l.length ≤ 1048576) :
    Calls Tryz.prog 116 #[.slice a l.length cap] w fun e w' => e = .returned (.bool (freesOk l)) ∧ w' = w := by
  have HS := hid S
  clear S
  by_cases hg : 12 < (l.length : Int)
  · have HN := hid (freesOk_long l (by omega))
    go_enter Tryz.func116, Tryz.ntmps116
    go_wp2
    go_ret
    exact ⟨by rw [HN.out]; rfl, rfl⟩
  have HE := hid (freesOk_short l (by omega))
  go_enter Tryz.func116, Tryz.ntmps116
  go_wp2_with fail
  refine (areFrom w a cap l 0 17 HS.out hl).mono ?_
  rintro e w1 ⟨rfl, hw⟩
  subst hw
  generalize between 0 17 l = z at *
  go_wp2
  go_ret
  exact ⟨by rw [HE.out]; rfl, rfl⟩

theorem step_str (p s v : ByteArray) : p ++ s ++ v = p ++ (s ++ v) := append_assoc p s v

set_option maxRecDepth 100000 in
set_option maxHeartbeats 1000000 in
theorem sShowFrees (w : World) (a : Option Addr) (cap : Nat) (l : List Int) (S : Ints w a l) (hl : l.length ≤ 1048576) :
    Calls Tryz.prog 93 #[.slice a l.length cap] w fun e w' => e = .returned (.string (showFrees l)) ∧ Below w.heap.size w w' := by
  have HS := hid S
  clear S
  go_enter Tryz.func93, Tryz.ntmps93
  go_wp2_with fail
  refine (l4FreesOk w a cap l HS.out hl).mono ?_
  rintro e w1 ⟨rfl, hw⟩
  subst hw
  cases hf : freesOk l with
  | false =>
    have HN := hid (frees_no hf)
    clear hf
    go_wp2
    go_ret
    exact ⟨Own.ret_str HN.out.symm, Below.refl _ _⟩
  | true =>
    have HY := hid (frees_yes hf)
    have h12 := frees_len hf
    have HZ := hid (frees_size l h12)
    have HV := hid (fun k => vrs_size 0 (l.take k))
    clear hf
    go_wp2_with fail
    refine (sVar (l.length : Int) _).mono ?_
    rintro e w2 ⟨rfl, b2⟩
    have z1 := vr_size (l.length : Int)
    have HB := hid b2
    clear b2
    generalize hp : (⟨#[102]⟩ : ByteArray) ++ vr (l.length : Int) = p at *
    have HP := hid hp
    have zp : p.size ≤ 8 := by rw [← hp, ByteArray.size_append]; have : (⟨#[102]⟩ : ByteArray).size = 1 := rfl; omega
    go_wp2
    clear hp
    go_loopw [3, 4] (fun s i wr => ∃ k : Nat, k ≤ l.length ∧ i = .int .i64 (k : Int) ∧ s = .string (p ++ vrs 0 (l.take k)) ∧ Hid (Below w1.heap.size w1 wr)) (fun _ i _ => l.length - (intOf i).toNat)
    case atStart => exact ⟨0, Nat.zero_le _, rfl, by rw [show vrs 0 (l.take 0) = ⟨#[]⟩ from rfl, append_empty], HB⟩
    case round =>
      obtain ⟨k, hk, rfl, rfl, HB'⟩ := hrel
      by_cases hlt : k < l.length
      · obtain ⟨b, off, rfl, hc⟩ := (HS.out.below HB'.out) k hlt
        replace hc : wr.cell? ⟨b, off + k, none⟩ = some (.int .i64 (l.getD k 0)) := hc
        have HT := hid (vrs_take 0 l k hlt)
        have hz := HV.out k
        have hzl : (l.take k).length ≤ k := List.length_take_le _ _
        generalize l.getD k 0 = x at *
        generalize vrs 0 (l.take k) = s at *
        have hps : (p ++ s).size ≤ 1000 := by rw [ByteArray.size_append]; omega
        have HA := hid (append_assoc p s (vr (x - 0)))
        generalize p ++ s = q at *
        go_wp2_with fail
        refine (sVar x _).mono ?_
        rintro e w3 ⟨rfl, b3⟩
        have zx := vr_size x
        have HB3 := hid (HB'.out.trans (b3.mono HB'.out.size))
        clear b3 hc
        go_wp2
        exact ⟨⟨k + 1, by omega, by go_num, by rw [HT.out, ← HA.out, Int.sub_zero], HB3⟩, by simp [intOf]; omega⟩
      · obtain rfl : k = l.length := by omega
        have HE : Hid (vrs 0 (l.take l.length) = vrs 0 l) := by rw [Hid, List.take_length]
        rw [HE.out]
        generalize p ++ vrs 0 l = q at *
        go_wp2_with fail
        refine (l4Sum q _ HZ.out).mono ?_
        rintro e w3 ⟨rfl, b3⟩
        have HB3 := hid (HB'.out.trans (b3.mono HB'.out.size))
        clear b3
        go_wp2
        go_ret
        exact ⟨Own.ret_str HY.out, HB3.out⟩

set_option maxRecDepth 100000 in
set_option maxHeartbeats 1000000 in
theorem iShowFrees (w : World) (a : Option Addr) (cap : Nat) (l : List Int) (S : Ints w a l) (hl : l.length ≤ 1048576) (T : Sums w) :
    Calls Tryz.prog 170 #[.slice a l.length cap] w fun e w' => e = .returned (.string (showFrees l)) ∧ Below w.heap.size w w' := by
  have HS := hid S
  have HT := hid T
  clear S T
  go_enter Tryz.func170, Tryz.ntmps170
  go_wp2_with fail
  refine (areFrees w a cap l HS.out hl).mono ?_
  rintro e w1 ⟨rfl, hw⟩
  subst hw
  cases hf : freesOk l with
  | false =>
    have HN := hid (frees_no hf)
    clear hf
    go_wp2
    go_ret
    exact ⟨Own.ret_str HN.out.symm, Below.refl _ _⟩
  | true =>
    have HY := hid (frees_yes hf)
    have h12 := frees_len hf
    have HZ := hid (frees_size l h12)
    have HB' := hid (frees_bd hf)
    clear hf
    go_wp2_with fail
    refine (iVar (l.length : Int) _).mono ?_
    rintro e w2 ⟨rfl, b2⟩
    have z1 := vr_size (l.length : Int)
    have HB := hid b2
    clear b2
    go_wp2_with fail
    refine (showNumbers w2 a cap l 0 (HS.out.below HB.out) (by omega) (by decide) (fun k hk => by have := HB'.out k hk; omega)).mono ?_
    rintro e w3 ⟨rfl, b3⟩
    have z2 := vrs_size 0 l
    have HB3 := hid (HB.out.trans (b3.mono HB.out.size))
    clear b3
    go_wp2_with fail
    refine (withSum' _ _ HZ.out (HT.out.below HB3.out)).mono ?_
    rintro e w4 ⟨rfl, b4⟩
    have HB4 := hid (HB3.out.trans (b4.mono HB3.out.size))
    clear b4
    go_wp2
    go_ret
    exact ⟨Own.ret_str HY.out, HB4.out⟩

end Go.Proofs.YtjlkighikfgaeaaGreatDoor.Sec
