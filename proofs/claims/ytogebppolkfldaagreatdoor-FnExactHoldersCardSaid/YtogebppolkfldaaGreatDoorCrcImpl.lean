/-
  The walk of impl.Crc: where its table holds the sixteen sums, it gives the sum of the text. No other condition but a text of at most 2^47 bytes.
-/
import Derived.Test.YtogebppolkfldaaGreatDoorCrcWalks
import Derived.RegionTactic
import Derived.BigRegion
import Derived.ChangeAlike
namespace Go.Proofs.YtogebppolkfldaaGreatDoor.Crc
open Go.RowKit Go.Proofs.YtogebppolkfldaaGreatDoor.CrcNum
set_option linter.unusedVariables false

theorem wrap_u32_of (n : Int) (h0 : 0 ≤ n) (h1 : n < 4294967296) : IntKind.u32.wrap n = n := by
  simp [IntKind.wrap, IntKind.bits, IntKind.signed]
  omega

/-- xor of two numbers of 32 bits. -/
theorem xor_u32 (a b : Nat) (ha : a < 4294967296) (hb : b < 4294967296) : bits .xor .u32 (a : Int) (b : Int) = ((a ^^^ b : Nat) : Int) := by
  have hx : a ^^^ b < 2 ^ 32 := Nat.xor_lt_two_pow (by omega) (by omega)
  have h1 : (BitVec.ofInt 32 (a : Int)).toNat = a := by
    rw [BitVec.ofInt_natCast, BitVec.toNat_ofNat]; exact Nat.mod_eq_of_lt (by omega)
  have h2 : (BitVec.ofInt 32 (b : Int)).toNat = b := by
    rw [BitVec.ofInt_natCast, BitVec.toNat_ofNat]; exact Nat.mod_eq_of_lt (by omega)
  show IntKind.u32.wrap ((BitVec.ofInt 32 (a : Int) ^^^ BitVec.ofInt 32 (b : Int)).toNat : Int) = _
  rw [BitVec.toNat_xor, h1, h2]
  exact wrap_u32_of _ (by omega) (by omega)

theorem and_u32 (a : Nat) (ha : a < 4294967296) : bits .and .u32 (a : Int) 15 = ((a % 16 : Nat) : Int) := by
  have hm : (BitVec.ofInt 32 15).toNat = 2 ^ 4 - 1 := by decide
  have h1 : (BitVec.ofInt 32 (a : Int)).toNat = a := by
    rw [BitVec.ofInt_natCast, BitVec.toNat_ofNat]; exact Nat.mod_eq_of_lt (by omega)
  show IntKind.u32.wrap ((BitVec.ofInt 32 (a : Int) &&& BitVec.ofInt 32 15).toNat : Int) = _
  rw [BitVec.toNat_and, h1, hm, Nat.and_two_pow_sub_one_eq_mod]
  exact wrap_u32_of _ (by omega) (by omega)

theorem look_u32 (c : Nat) (h : c < 4294967296) : bits .xor .u32 ((c : Int) / 16) (halves 4 (c % 16) : Int) = (halves 4 c : Int) := by
  have e := xor_u32 (c / 16) (halves 4 (c % 16)) (by omega) (halves_lt 4 _ (by omega))
  rw [halves4 c, ← e]
  rfl

/-- What the table holds, in world w. -/
def Tab (w : World) : Prop := ∀ k, k < 16 → w.cell? ⟨2, k, none⟩ = some (.int .u32 (halves 4 k : Int))

/-- The running sum c stands in block cb of world w, and below that block w is as w0. -/
structure Box (w0 : World) (cb c : Nat) (w : World) : Prop where
  blk : w.heap[cb]? = some (.cells #[.int .u32 (c : Int)] 225 (0, 0))
  bel : Below cb w0 w

theorem Box.cell {w0 w : World} {cb c : Nat} (B : Box w0 cb c w) : w.cell? ⟨cb, 0, none⟩ = some (.int .u32 (c : Int)) := by
  rw [cell_of_row w cb 0 _ _ (0, 0) B.blk]; rfl
theorem Box.f {w0 w : World} {cb c : Nat} (B : Box w0 cb c w) : w.frozen? ⟨cb, 0, none⟩ = false := frozen_of_row w cb 0 _ _ B.blk

theorem Box.set {w0 w : World} {cb c : Nat} (B : Box w0 cb c w) (c' : Nat) : Box w0 cb c' (w.setCell ⟨cb, 0, none⟩ (.int .u32 (c' : Int))) := by
  refine ⟨?_, ?_⟩
  · have b1 := heap_setCell_same w cb 0 _ _ (.int .u32 (c' : Int)) B.blk
    simpa using b1
  · refine B.bel.trans ⟨rfl, rfl, rfl, by simp, fun k hk => heap_setCell_other w ⟨cb, 0, none⟩ k _ (fun e => ?_)⟩
    have e' : k = cb := e
    omega

theorem Box.drew {w0 w : World} {cb c : Nat} (B : Box w0 cb c w) : Box w0 cb c w.drew :=
  ⟨B.blk, B.bel.trans ⟨rfl, rfl, rfl, Nat.le_refl _, fun _ _ => rfl⟩⟩

theorem Box.tab {w0 w : World} {cb c : Nat} (B : Box w0 cb c w) (T : Tab w0) (hcb : 2 < cb) : Tab w := fun k hk => by
  rw [B.bel.cell (p := ⟨2, k, none⟩) hcb]; exact T k hk

set_option maxRecDepth 100000 in
set_option maxHeartbeats 1000000 in
theorem halve (w0 w : World) (cb c : Nat) (hc : c < 4294967296) (B : Box w0 cb c w) (T : Tab w0) (hcb : 2 < cb) :
    Calls Tryz.prog 184 #[.pointer (some ⟨cb, 0, none⟩)] w fun e w' => e = .returned (.tuple #[]) ∧ Box w0 cb (halves 4 c) w' := by
  have ha := and_u32 c hc
  have hl := look_u32 c hc
  have ht := B.tab T hcb (c % 16) (by omega)
  have h16 : c % 16 < 16 := by omega
  have h16i : ((c % 16 : Nat) : Int) < 16 := by omega
  have hcell := B.cell
  have hf := B.f
  have HB := hid B
  clear B T hcb
  go_enter Tryz.func184, Tryz.ntmps184
  go_wp2
  go_region
  all_goals (go_end0)
  exact ⟨rfl, (HB.out.set _).drew⟩

set_option maxRecDepth 100000 in
set_option maxHeartbeats 1000000 in
theorem add_byte (w0 w : World) (cb c b : Nat) (hc : c < 4294967296) (hb : b < 256) (B : Box w0 cb c w) (T : Tab w0) (hcb : 2 < cb) :
    Calls Tryz.prog 178 #[.pointer (some ⟨cb, 0, none⟩), .int .u8 (b : Int)] w fun e w' => e = .returned (.tuple #[]) ∧ Box w0 cb (halves 8 (c ^^^ b)) w' := by
  have hx := xor_u32 c b hc (by omega)
  have HL := hid (Nat.xor_lt_two_pow (n := 32) (x := c) (y := b) (by omega) (by omega))
  have hcell := B.cell
  have hf := B.f
  have HB := hid B
  have HT := hid T
  have HC := hid hcb
  have HE := hid (halves_add 4 4 (c ^^^ b))
  clear B T hcb
  go_enter Tryz.func178, Tryz.ntmps178
  go_wp2_with fail
  refine (halve w0 _ cb (c ^^^ b) HL.out (HB.out.set _) HT.out HC.out).mono ?_
  rintro e w1 ⟨rfl, hB1⟩
  have HB1 := hid hB1
  clear hB1
  go_wp2_with fail
  refine (halve w0 _ cb _ (halves_lt 4 _ HL.out) HB1.out HT.out HC.out).mono ?_
  rintro e w2 ⟨rfl, hB2⟩
  rw [← HE.out] at hB2
  have HB2 := hid hB2
  clear hB2
  go_wp2
  go_end0
  exact ⟨rfl, HB2.out⟩

set_option maxHeartbeats 1000000 in
theorem end_ (c : Nat) (w : World) (hc : c < 4294967296) :
    Calls Tryz.prog 179 #[.int .u32 (c : Int)] w fun e w' => e = .returned (.int .i64 ((4294967295 - c : Nat) : Int)) ∧ w' = w := by
  go_enter Tryz.func179, Tryz.ntmps179
  go_wp2
  go_ret
  refine ⟨?_, rfl⟩
  show Ending.returned (.int .i64 (4294967295 - (c : Int))) = _
  rw [show ((4294967295 - c : Nat) : Int) = 4294967295 - (c : Int) by omega]

theorem box_new (w : World) : Box w w.heap.size 4294967295 (w.alloc (.cells #[.int .u32 4294967295] 225)) :=
  ⟨heap_alloc_new w _, (Below.refl _ _).alloc (Nat.le_refl _) _⟩

set_option maxRecDepth 100000 in
set_option maxHeartbeats 1000000 in
theorem impl_crc (s : ByteArray) (w : World) (hs : s.size ≤ maxLen) (T : Tab w) (hcb : 2 < w.heap.size) :
    Calls Tryz.prog 158 #[.string s] w fun e w' => e = .returned (.int .i64 ((4294967295 - sumAt s s.size : Nat) : Int)) ∧ Below w.heap.size w w' := by
  unfold maxLen at hs
  have HT := hid T
  have HC := hid hcb
  have HN := hid (box_new w)
  clear T hcb
  go_enter Tryz.func158, Tryz.ntmps158
  go_wp2
  go_loopw [7] (fun i wr => ∃ k : Nat, k ≤ s.size ∧ i = .int .i64 (k : Int) ∧ Hid (Box w w.heap.size (sumAt s k) wr)) (fun i _ => s.size - (intOf i).toNat)
  case atStart => exact ⟨0, Nat.zero_le _, rfl, HN.out⟩
  case round =>
    obtain ⟨k, hk, rfl, HB⟩ := hrel
    have hc := sumAt_lt s k
    by_cases hlt : k < s.size
    · have hb : s[k].toNat < 256 := s[k].toNat_lt
      have HS := hid (sumAt_succ s k hlt)
      go_wp2_with fail
      refine (add_byte w _ w.heap.size (sumAt s k) s[k].toNat hc hb HB.out HT.out HC.out).mono ?_
      rintro e w1 ⟨rfl, hB1⟩
      rw [← HS.out] at hB1
      have HB1 := hid hB1
      clear hB1
      go_wp2
      go_roundw
      case rel => exact ⟨k + 1, by omega, by go_num, HB1⟩
      case measure => simp [intOf]; omega
    · obtain rfl : k = s.size := by omega
      have hcell := HB.out.cell
      go_wp2_with fail
      refine (end_ (sumAt s s.size) _ hc).mono ?_
      rintro e w1 ⟨rfl, hw⟩
      subst hw
      go_wp2
      go_ret
      exact ⟨rfl, HB.out.bel⟩

end Go.Proofs.YtogebppolkfldaaGreatDoor.Crc
