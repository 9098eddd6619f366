/-
  The walks of laws.markText, laws.markStringS, laws.markIntS, laws.heldStringS and laws.heldIntS: marks are laid into a slice, one after the other, and found there again. No condition but slices that may be written and numbers that are not too great.
  The walks of laws.markOutS and laws.heldOutS. No condition but lists that may be written.
  The walks of impl.namedParts, impl.highestVol, spec.l5Vol and small parts beside them; calls compared. No condition.
  The walk of spec.OpOk: which calls are right. No condition.
  The walk of spec.OpOk at calls that name a place, a copy, nothing; and whole. No condition but texts of at most 2^20 bytes.
  The walk of impl.OpOk: which calls are right. No condition but texts of at most 2^20 bytes.
  A call that comes in as an argument, and the walk of laws.FnExactOpOk: the law answers true, and nothing that was there is changed. No condition.
  A host in memory: its size, laid anew, compared, marked. No condition but texts and lists that Go can hold, of at most 2^20 where they are laid anew.
  Which hosts are right; the walk of spec.HostOk and of what it calls. No condition but texts and lists of at most 2^20.
  The walks of spec.l8Copy and impl.copyHost: the same host, with outs of its own. No condition but lists of at most 2^20.
  Plain: what HostCall makes of a host. No condition.
-/
import Derived.Test.YtlhnkdogafnnpaaGreatJoin2
import Derived.Test.YtlhnkdogafnnpaaGreatJoin3
import Derived.Laws.BytesArg
import Derived.Outline
import Derived.Deep.QuietTactic
import Derived.BigQuiet
import Derived.RegionTactic
import Derived.BigRegion
import Derived.Deep.RegionWith
import Derived.Test.YtlhnkdogafnnpaaGreatRows
import Derived.Laws.StructEq
import Derived.ProofKit
import Derived.OpenShut
import Derived.ShutString
import Derived.Lib.SmallJoins
import Derived.Deep.Strs
import Derived.Deep.Slices
import Derived.Carry
import Derived.Test.YtlhnkdogafnnpaaGreatJoin1
import Derived.Deep.DeepCutAuto
namespace Go.Proofs.YtlhnkdogafnnpaaGreat.Mem
open Go.RowKit
set_option linter.unusedVariables false

/-- The digits of q, none of 0; at most f. -/
def mkF : Nat → Nat → List Int
  | 0, _ => []
  | f + 1, q => if q = 0 then [] else mkF f (q / 10) ++ [48 + ((q % 10 : Nat) : Int)]
theorem mkF_zero (f : Nat) : mkF f 0 = [] := by cases f <;> simp [mkF]
theorem mkF_pos (f q : Nat) (h : q ≠ 0) : mkF (f + 1) q = mkF f (q / 10) ++ [48 + ((q % 10 : Nat) : Int)] := by rw [mkF, if_neg h]

/-- Mark k. -/
def markS (k : Nat) : ByteArray := strOfNums (109 :: mkF 20 k)

def MInv (M : Nat) (l : List Int) (q f : Nat) : Prop := q < 10 ^ f ∧ l.length + f = 20 ∧ mkF f q ++ l = mkF 20 M

theorem minv_start (M : Nat) (h : M < 100000000000000000000) : MInv M [] M 20 := ⟨by show M < 100000000000000000000; exact h, rfl, by simp⟩
theorem minv_more {M : Nat} {l : List Int} {q f : Nat} (h : MInv M l q f) (hq : q ≠ 0) : ∃ g, f = g + 1 ∧ MInv M ((48 + (q : Int) % 10) :: l) (q / 10) g := by
  obtain ⟨h1, h2, h3⟩ := h
  cases f with
  | zero => simp at h1; omega
  | succ g =>
    refine ⟨g, rfl, by rw [Nat.pow_succ] at h1; omega, by simp; omega, ?_⟩
    rw [mkF_pos g q hq] at h3
    rw [← h3]; simp
theorem minv_end {M : Nat} {l : List Int} {f : Nat} (h : MInv M l 0 f) : l = mkF 20 M := by
  have := h.2.2
  rw [mkF_zero] at this
  exact this
theorem minv_len {M : Nat} {l : List Int} {q f : Nat} (h : MInv M l q f) : l.length ≤ 20 := by have := h.2.1; omega
theorem mstr_cons (x : Int) (l : List Int) : strOfNums [x] ++ strOfNums l = strOfNums (x :: l) := by
  apply ByteArray.ext
  simp [strOfNums, ByteArray.data_append]
theorem mstr_m (l : List Int) : (⟨#[109]⟩ : ByteArray) ++ strOfNums l = strOfNums (109 :: l) := mstr_cons 109 l
theorem mstr_one (x : Int) : (strOfNums [x]).size = 1 := rfl

set_option maxRecDepth 100000 in
set_option maxHeartbeats 1000000 in
theorem markText (M : Nat) (w : World) (h0 : 0 < M) (h1 : (M : Int) ≤ 4611686018427387904) :
    Calls Tryz.prog 72 #[.int .i64 (M : Int)] w fun e w' => e = .returned (.string (markS M)) ∧ Below w.heap.size w w' := by
  have hneg : ¬ (M : Int) ≤ 0 := by omega
  go_enter Tryz.func72, Tryz.ntmps72
  go_wp2
  go_loopw [0, 3] (fun x s wr => ∃ (l : List Int) (q f : Nat), Hid (MInv M l q f) ∧ (q : Int) ≤ 4611686018427387904 ∧ x = .int .i64 (q : Int) ∧ s = .string (strOfNums l) ∧ Below w.heap.size w wr) (fun x _ _ => (intOf x).toNat)
  case atStart => exact ⟨[], M, 20, minv_start M (by omega), h1, rfl, rfl, Below.refl _ _⟩
  case round =>
    obtain ⟨l, q, f, hI, hq, rfl, rfl, hbel⟩ := hrel
    have hl := minv_len hI.out
    have hls := strOfNums_size l
    by_cases hlt : q = 0
    · subst hlt
      have Hf : Hid ((⟨#[109]⟩ : ByteArray) ++ strOfNums l = markS M) := by
        show _ = _
        rw [mstr_m, minv_end hI.out]; rfl
      have h9 : (⟨#[109]⟩ : ByteArray).size = 1 := rfl
      go_wp2
      go_ret
      exact ⟨Own.ret_str Hf.out, hbel⟩
    · obtain ⟨g, rfl, hI'⟩ := minv_more hI.out hlt
      have hne : (0 : Int) < (q : Int) := by omega
      have HS : Hid (strOfNums [48 + (q : Int) % 10] ++ strOfNums l = strOfNums ((48 + (q : Int) % 10) :: l)) := mstr_cons _ _
      have Hn : Hid (((q / 10 : Nat) : Int) = (q : Int) / 10) := by show _ = _; omega
      have hone := mstr_one (48 + (q : Int) % 10)
      have HI : Hid (MInv M ((48 + (q : Int) % 10) :: l) (q / 10) g) := hI'
      have hcv := fun (b len : Nat) (x : Int) (wx : World) (hc : wx.cell? ⟨b, 0, none⟩ = some (.int .u8 x)) => run_convert_bytes_arg (P := Tryz.prog) wx 109 5 Tryz.underlying109 Tryz.underlying5 b 0 1 len [x] rfl (fun i hi => by obtain rfl : i = 0 := (by omega); simpa using hc) 9 Tryz.underlying9
      clear hI'
      go_wp2
      go_roundw
      case rel => exact ⟨(48 + (q : Int) % 10) :: l, q / 10, g, HI, by rw [Hn.out]; omega, by rw [Hn.out], by rw [HS.out], hbel.alloc hbel.size _⟩
      case measure => simp [intOf]; omega

/-- What stands in the slice behind j rounds of marking from k on. -/
def msS (f : Nat → Value) (k j : Nat) (i : Nat) : Value := if i < j then .string (markS (k + i)) else f i
def msI (f : Nat → Value) (k j : Nat) (i : Nat) : Value := if i < j then .int .i64 ((k + i : Nat) : Int) else f i

theorem msS_succ (f : Nat → Value) (k j : Nat) (i : Nat) : (if i = j then Value.string (markS (k + j)) else msS f k j i) = msS f k (j + 1) i := by
  unfold msS
  by_cases h : i = j
  · subst h; simp
  · by_cases h2 : i < j
    · simp [h, h2, Nat.lt_succ_of_lt h2]
    · simp [h, h2, show ¬ i < j + 1 by omega]
theorem msI_succ (f : Nat → Value) (k j : Nat) (i : Nat) : (if i = j then Value.int .i64 ((k + j : Nat) : Int) else msI f k j i) = msI f k (j + 1) i := by
  unfold msI
  by_cases h : i = j
  · subst h; simp
  · by_cases h2 : i < j
    · simp [h, h2, Nat.lt_succ_of_lt h2]
    · simp [h, h2, show ¬ i < j + 1 by omega]

set_option maxRecDepth 100000 in
set_option maxHeartbeats 1000000 in
theorem markStringS (w : World) (B : Nat) (a : Option Addr) (n cap k : Nat) (f : Nat → Value) (S : Wr w B a n f) (hk : 0 < k) (hb : k + n ≤ 4611686018427387904) :
    Calls Tryz.prog 43 #[.slice a n cap, .int .i64 (k : Int)] w fun e w' => e = .returned (.int .i64 ((k + n : Nat) : Int)) ∧ Wr w' B a n (fun i => .string (markS (k + i))) ∧ Kept (foot a n) w w' := by
  have HS := hid S
  clear S
  go_enter Tryz.func43, Tryz.ntmps43
  go_wp2
  go_loopw [1, 5] (fun x i wr => ∃ j : Nat, j ≤ n ∧ i = .int .i64 (j : Int) ∧ x = .int .i64 ((k + j : Nat) : Int) ∧ Hid (Wr wr B a n (msS f k j)) ∧ Hid (Kept (foot a n) w wr)) (fun _ i _ => n - (intOf i).toNat)
  case atStart => exact ⟨0, Nat.zero_le _, rfl, rfl, HS.out.congr (fun i _ => by simp [msS]), Kept.refl _ _⟩
  case round =>
    obtain ⟨j, hj, rfl, rfl, HW, HK⟩ := hrel
    by_cases hlt : j < n
    · obtain ⟨b, off, rfl, hB, hc, hz⟩ := HW.out j hlt
      go_wp2_with fail
      refine (markText (k + j) _ (by omega) (by omega)).mono ?_
      rintro e w1 ⟨rfl, b1⟩
      have HW1 := hid (HW.out.below b1)
      have HK1 := hid (HK.out.trans (Kept.of_below (S := fun _ => False) b1))
      obtain ⟨b', off', e', hB', hc', hz'⟩ := HW1.out j hlt
      cases e'
      clear b1 hc hz
      go_wp2
      refine ⟨⟨j + 1, by omega, by go_num, by go_num, ?_, ?_⟩, by simp [intOf]; omega⟩
      · exact (HW1.out.set j hlt (.string (markS (k + j)))).congr (fun i _ => msS_succ f k j i)
      · exact (HK1.out.trans (kept_set w1 b (off + j) _)).mono (fun b2 _ h => by
          rcases h with (h | h) | h
          · exact h
          · exact h.elim
          · subst h; exact ⟨by omega, off, rfl⟩)
    · obtain rfl : j = n := by omega
      go_wp2
      go_ret
      exact ⟨rfl, HW.out.congr (fun i hi => by simp [msS, hi]), HK.out⟩

set_option maxRecDepth 100000 in
set_option maxHeartbeats 1000000 in
theorem markIntS (w : World) (B : Nat) (a : Option Addr) (n cap k : Nat) (f : Nat → Value) (S : Wr w B a n f) (hb : k + n ≤ 4611686018427387904) :
    Calls Tryz.prog 44 #[.slice a n cap, .int .i64 (k : Int)] w fun e w' => e = .returned (.int .i64 ((k + n : Nat) : Int)) ∧ Wr w' B a n (fun i => .int .i64 ((k + i : Nat) : Int)) ∧ Kept (foot a n) w w' := by
  have HS := hid S
  clear S
  go_enter Tryz.func44, Tryz.ntmps44
  go_wp2
  go_loopw [1, 5] (fun x i wr => ∃ j : Nat, j ≤ n ∧ i = .int .i64 (j : Int) ∧ x = .int .i64 ((k + j : Nat) : Int) ∧ Hid (Wr wr B a n (msI f k j)) ∧ Hid (Kept (foot a n) w wr)) (fun _ i _ => n - (intOf i).toNat)
  case atStart => exact ⟨0, Nat.zero_le _, rfl, rfl, HS.out.congr (fun i _ => by simp [msI]), Kept.refl _ _⟩
  case round =>
    obtain ⟨j, hj, rfl, rfl, HW, HK⟩ := hrel
    by_cases hlt : j < n
    · obtain ⟨b, off, rfl, hB, hc, hz⟩ := HW.out j hlt
      go_wp2
      refine ⟨⟨j + 1, by omega, by go_num, by go_num, ?_, ?_⟩, by simp [intOf]; omega⟩
      · exact (HW.out.set j hlt (.int .i64 ((k + j : Nat) : Int))).congr (fun i _ => msI_succ f k j i)
      · exact (HK.out.trans (kept_set wr b (off + j) _)).mono (fun b2 _ h => by
          rcases h with h | h
          · exact h
          · subst h; exact ⟨by omega, off, rfl⟩)
    · obtain rfl : j = n := by omega
      go_wp2
      go_ret
      exact ⟨rfl, HW.out.congr (fun i hi => by simp [msI, hi]), HK.out⟩

set_option maxRecDepth 100000 in
set_option maxHeartbeats 1000000 in
theorem heldStringS (w : World) (a : Option Addr) (n cap k : Nat) (S : Sl w a n (fun i => .string (markS (k + i)))) (hk : 0 < k) (hb : k + n ≤ 4611686018427387904) :
    Calls Tryz.prog 47 #[.slice a n cap, .int .i64 (k : Int)] w fun e w' => e = .returned (.int .i64 ((k + n : Nat) : Int)) ∧ Below w.heap.size w w' := by
  have HS := hid S
  clear S
  go_enter Tryz.func47, Tryz.ntmps47
  go_wp2
  go_loopw [1, 5] (fun x i wr => ∃ j : Nat, j ≤ n ∧ i = .int .i64 (j : Int) ∧ x = .int .i64 ((k + j : Nat) : Int) ∧ Hid (Below w.heap.size w wr)) (fun _ i _ => n - (intOf i).toNat)
  case atStart => exact ⟨0, Nat.zero_le _, rfl, rfl, Below.refl _ _⟩
  case round =>
    obtain ⟨j, hj, rfl, rfl, HB⟩ := hrel
    by_cases hlt : j < n
    · obtain ⟨b, off, rfl, hc⟩ := (HS.out.below HB.out) j hlt
      replace hc : wr.cell? ⟨b, off + j, none⟩ = some (.string (markS (k + j))) := hc
      have hlb := World.block_lt_of_cell? wr _ hc
      have he' : ((markS (k + j)).toList == (markS (k + j)).toList) = true := Own.eqS_yes rfl
      go_wp2
      go_region_with (go_at_call 72; refine (markText (k + j) _ (by omega) (by omega)).mono ?_; rintro e w1 ⟨rfl, b1'⟩; have b1 := undrew b1'; have hc1 := (b1.cell (p := ⟨b, off + j, none⟩) hlb).trans hc)
      all_goals (have HB1 := hid (HB.out.trans (b1.mono HB.out.size)); clear b1 b1' hc hc1; go_wp2)
      all_goals exact ⟨⟨j + 1, by omega, by go_num, by go_num, HB1⟩, by simp [intOf]; omega⟩
    · obtain rfl : j = n := by omega
      go_wp2
      go_ret
      exact ⟨rfl, HB.out⟩

set_option maxRecDepth 100000 in
set_option maxHeartbeats 1000000 in
theorem heldIntS (w : World) (a : Option Addr) (n cap k : Nat) (S : Sl w a n (fun i => .int .i64 ((k + i : Nat) : Int))) (hb : k + n ≤ 4611686018427387904) :
    Calls Tryz.prog 48 #[.slice a n cap, .int .i64 (k : Int)] w fun e w' => e = .returned (.int .i64 ((k + n : Nat) : Int)) ∧ Below w.heap.size w w' := by
  have HS := hid S
  clear S
  go_enter Tryz.func48, Tryz.ntmps48
  go_wp2
  go_loopw [1, 5] (fun x i wr => ∃ j : Nat, j ≤ n ∧ i = .int .i64 (j : Int) ∧ x = .int .i64 ((k + j : Nat) : Int) ∧ Hid (Below w.heap.size w wr)) (fun _ i _ => n - (intOf i).toNat)
  case atStart => exact ⟨0, Nat.zero_le _, rfl, rfl, Below.refl _ _⟩
  case round =>
    obtain ⟨j, hj, rfl, rfl, HB⟩ := hrel
    by_cases hlt : j < n
    · obtain ⟨b, off, rfl, hc⟩ := (HS.out.below HB.out) j hlt
      replace hc : wr.cell? ⟨b, off + j, none⟩ = some (.int .i64 ((k + j : Nat) : Int)) := hc
      go_wp2
      exact ⟨⟨j + 1, by omega, by go_num, by go_num, HB⟩, by simp [intOf]; omega⟩
    · obtain rfl : j = n := by omega
      go_wp2
      go_ret
      exact ⟨rfl, HB.out⟩

end Go.Proofs.YtlhnkdogafnnpaaGreat.Mem

namespace Go.Proofs.YtlhnkdogafnnpaaGreat.Rd
open Go.RowKit Go.Proofs.YtlhnkdogafnnpaaGreat.Mem Go.Proofs.YtlhnkdogafnnpaaGreat.Sec
set_option linter.unusedVariables false

/-- The marks in a list of outs. -/
def mkO (k i : Nat) : Value := if i % 2 = 0 then .int .i64 ((k + i : Nat) : Int) else .string (markS (k + i))

def msO (f : Nat → Value) (k j i : Nat) : Value := if i < j * 2 then mkO k i else f i

theorem msO_succ (f : Nat → Value) (k j : Nat) (i : Nat) : (if i = j * 2 + 1 then Value.string (markS (k + (j * 2 + 1))) else if i = j * 2 then .int .i64 ((k + j * 2 : Nat) : Int) else msO f k j i) = msO f k (j + 1) i := by
  unfold msO
  by_cases h : i = j * 2 + 1
  · subst h
    rw [if_pos rfl, if_pos (by omega)]
    unfold mkO
    rw [if_neg (by omega)]
  · by_cases h1 : i = j * 2
    · subst h1
      rw [if_neg h, if_pos rfl, if_pos (by omega)]
      unfold mkO
      rw [if_pos (by omega)]
    · by_cases h2 : i < j * 2
      · rw [if_neg h, if_neg h1, if_pos h2, if_pos (by omega)]
      · rw [if_neg h, if_neg h1, if_neg h2, if_neg (by omega)]

set_option maxRecDepth 100000 in
set_option maxHeartbeats 1000000 in
theorem markOutS (w : World) (B : Nat) (a : Option Addr) (n cap k : Nat) (f : Nat → Value) (S : Wr w B a (n * 2) f) (hk : 0 < k) (hb : k + n * 2 ≤ 1048576) :
    Calls Tryz.prog 71 #[.slice a n cap, .int .i64 (k : Int)] w fun e w' => e = .returned (.int .i64 ((k + n * 2 : Nat) : Int)) ∧ Wr w' B a (n * 2) (mkO k) ∧ Kept (foot a (n * 2)) w w' := by
  have HS := hid S
  clear S
  go_enter Tryz.func71, Tryz.ntmps71
  go_wp2
  go_loopw [1, 5] (fun x i wr => ∃ (j m : Nat), j ≤ n ∧ i = .int .i64 (j : Int) ∧ x = .int .i64 (m : Int) ∧ m ≤ 1048576 ∧ Hid (m = k + j * 2) ∧ Hid (Wr wr B a (n * 2) (msO f k j)) ∧ Hid (Kept (foot a (n * 2)) w wr)) (fun _ i _ => n - (intOf i).toNat)
  case atStart => exact ⟨0, k, Nat.zero_le _, rfl, rfl, by omega, by rw [Hid]; omega, HS.out.congr (fun i _ => by simp [msO]), Kept.refl _ _⟩
  case round =>
    obtain ⟨j, m, hj, rfl, rfl, hm, Hm, HW, HK⟩ := hrel
    by_cases hlt : j < n
    · obtain ⟨b, off, rfl, hB, hc, hz⟩ := HW.out (j * 2) (by omega)
      obtain ⟨b1, off1, e1, _, hc1, hz1⟩ := HW.out (j * 2 + 1) (by omega)
      cases e1
      have hm2 : m + 2 ≤ 1048576 := by have := Hm.out; omega
      have HW0 := hid (HW.out.set (j * 2) (by omega) (.int .i64 (m : Int)))
      have HK0 := hid (HK.out.trans (kept_set wr b (off + j * 2) (.int .i64 (m : Int))))
      obtain ⟨w0, hw0⟩ : ∃ w0, wr.setCell ⟨b, off + j * 2, none⟩ (.int .i64 (m : Int)) = w0 := ⟨_, rfl⟩
      rw [hw0] at HW0 HK0
      go_wp2_with fail
      clear hw0
      refine (markText (m + 1) _ (by omega) (by omega)).mono ?_
      rintro e w1 ⟨rfl, b1⟩
      have HW1 := hid (HW0.out.below b1)
      have HK1 := hid (HK0.out.trans (Kept.of_below (S := fun _ => False) b1))
      clear b1 hc hz hc1 hz1
      obtain ⟨b', off', e', _, hc', hz'⟩ := HW1.out (j * 2 + 1) (by omega)
      cases e'
      rw [← Nat.add_assoc] at hc' hz'
      go_wp2
      refine ⟨⟨j + 1, m + 2, by omega, by go_num, by go_num, hm2, by have := Hm.out; rw [Hid]; omega, ?_, ?_⟩, by simp [intOf]; omega⟩
      · have := HW1.out.set (j * 2 + 1) (by omega) (.string (markS (m + 1)))
        rw [← Nat.add_assoc] at this
        exact this.congr (fun i _ => by rw [← msO_succ, Hm.out, Nat.add_assoc])
      · exact (HK1.out.trans (kept_set w1 b (off + j * 2 + 1) _)).mono (fun b2 _ h => by
          rcases h with ((h | h) | h) | h
          · exact h
          · subst h; exact ⟨by omega, off, rfl⟩
          · exact h.elim
          · subst h; exact ⟨by omega, off, rfl⟩)
    · obtain rfl : j = n := by omega
      go_wp2
      go_ret
      exact ⟨by rw [Hm.out]; rfl, HW.out.congr (fun i hi => by unfold msO; rw [if_pos hi]), HK.out⟩

set_option maxRecDepth 100000 in
set_option maxHeartbeats 1000000 in
theorem heldOutS (w : World) (a : Option Addr) (n cap k : Nat) (S : Sl w a (n * 2) (mkO k)) (hk : 0 < k) (hb : k + n * 2 ≤ 1048576) :
    Calls Tryz.prog 73 #[.slice a n cap, .int .i64 (k : Int)] w fun e w' => e = .returned (.int .i64 ((k + n * 2 : Nat) : Int)) ∧ Below w.heap.size w w' := by
  have HS := hid S
  clear S
  go_enter Tryz.func73, Tryz.ntmps73
  go_wp2
  go_loopw [1, 5] (fun x i wr => ∃ (j m : Nat), j ≤ n ∧ i = .int .i64 (j : Int) ∧ x = .int .i64 (m : Int) ∧ m ≤ 1048576 ∧ Hid (m = k + j * 2) ∧ Hid (Below w.heap.size w wr)) (fun _ i _ => n - (intOf i).toNat)
  case atStart => exact ⟨0, k, Nat.zero_le _, rfl, rfl, by omega, by rw [Hid]; omega, Below.refl _ _⟩
  case round =>
    obtain ⟨j, m, hj, rfl, rfl, hm, Hm, HB⟩ := hrel
    by_cases hlt : j < n
    · have HSr := hid (HS.out.below HB.out)
      obtain ⟨b, off, rfl, hc⟩ := HSr.out (j * 2) (by omega)
      obtain ⟨b1, off1, e1, hc1⟩ := HSr.out (j * 2 + 1) (by omega)
      cases e1
      have hm2 : m + 2 ≤ 1048576 := by have := Hm.out; omega
      have v0 : mkO k (j * 2) = .int .i64 (m : Int) := by unfold mkO; rw [if_pos (by omega), Hm.out]
      have v1 : mkO k (j * 2 + 1) = .string (markS (m + 1)) := by unfold mkO; rw [if_neg (by omega), Hm.out, Nat.add_assoc]
      rw [v0] at hc
      rw [v1, ← Nat.add_assoc] at hc1
      have HMT := hid (fun (u : BW wr) => markText (m + 1) u.val (by omega) (by omega))
      have hne : Nonempty (BW wr) := ⟨⟨wr, Below.refl _ _⟩⟩
      have hcu := BW.cell hc1
      clear v0 v1 hc1
      generalize markS (m + 1) = mt at *
      go_wp2
      refine wp_region_bw (by kernel_rfl) (by kernel_rfl) ?_
      repeat (go_big_quiet_step (first
        | (go_at_call 72; refine bw_below (HMT.out _))))
      refine wpQuiet_nil ?_
      intro _ hw'
      obtain ⟨u, rfl⟩ := hw'
      have HU := hid (HB.out.trans (u.bel.mono HB.out.size))
      clear hc hcu HMT
      go_wp2
      exact ⟨⟨j + 1, m + 2, by omega, by go_num, by go_num, hm2, by have := Hm.out; rw [Hid]; omega, HU⟩, by simp [intOf]; omega⟩
    · obtain rfl : j = n := by omega
      go_wp2
      go_ret
      exact ⟨by rw [Hm.out]; rfl, HB.out⟩

end Go.Proofs.YtlhnkdogafnnpaaGreat.Rd

namespace Go.Proofs.YtlhnkdogafnnpaaGreat.Pl
open Go.RowKit Go.Proofs.YtlhnkdogafnnpaaGreat.Mem
set_option linter.unusedVariables false

/-- A call's value. -/
def opV (k v t a : Int) (s : ByteArray) : Value := .agg #[.int .i64 k, .int .i64 v, .int .i64 t, .int .i64 a, .string s]

/-- What of a call its kind names. -/
def nmv (k v : Int) : Int := if k = 6 then 0 else v
def nmt (k t : Int) : Int := if k = 5 then t else 0
def nma (k a : Int) : Int := if k = 3 ∨ k = 4 ∨ k = 7 then a else 0
def nms (k : Int) (s : ByteArray) : ByteArray := if k = 3 then s else ⟨#[]⟩

theorem bytes_no {a b : ByteArray} (h : ¬ a = b) : (a.toList == b.toList) = false := by
  simp only [beq_eq_false_iff_ne, ne_eq]
  intro e
  rw [ByteArray.toList_eq, ByteArray.toList_eq] at e
  exact h (ByteArray.ext (Array.toList_inj.1 e))

theorem stOpT : Tryz.prog.underlying 36 = some (.struct (Tryz.prog.fieldsOf 36)) := by kernel_rfl
theorem heldOpT : Tryz.prog.stoodInHeld 36 = false := by kernel_rfl
theorem guardOpT : Tryz.prog.eqGuardType Tryz.prog.depth 36 = false := by kernel_rfl

theorem equal_op (k v t a k' v' t' a' : Int) (s s' : ByteArray) (w : World) : (Op.equalIn 10000 36 (.agg #[.int .i64 k, .int .i64 v, .int .i64 t, .int .i64 a, .string s]) (.agg #[.int .i64 k', .int .i64 v', .int .i64 t', .int .i64 a', .string s'])).run Tryz.prog w = .ok (decide (k = k' ∧ v = v' ∧ t = t' ∧ a = a' ∧ s = s')) w := by
  rw [run_equalIn_agg w 9999 36 _ _ stOpT heldOpT]
  unfold Program.fieldsOf
  rw [Tryz.underlying36]
  by_cases h5 : s = s'
  · subst h5
    by_cases h1 : k = k' <;> by_cases h2 : v = v' <;> by_cases h3 : t = t' <;> by_cases h4 : a = a' <;> simp [Op.eqFields, part, go_sem, h1, h2, h3, h4, Tryz.underlying3]
  · have hne := bytes_no h5
    by_cases h1 : k = k' <;> by_cases h2 : v = v' <;> by_cases h3 : t = t' <;> by_cases h4 : a = a' <;> simp [Op.eqFields, part, go_sem, h1, h2, h3, h4, h5, hne, Tryz.underlying3]

theorem eql_op (k v t a k' v' t' a' : Int) (s s' : ByteArray) (w : World) : (binOp .eql 36 (.agg #[.int .i64 k, .int .i64 v, .int .i64 t, .int .i64 a, .string s]) (.agg #[.int .i64 k', .int .i64 v', .int .i64 t', .int .i64 a', .string s'])).run Tryz.prog w = .ok (.bool (decide (k = k' ∧ v = v' ∧ t = t' ∧ a = a' ∧ s = s'))) w := by
  rw [run_eql_struct, equal_op]
  rfl
theorem neq_op (k v t a k' v' t' a' : Int) (s s' : ByteArray) (w : World) : (binOp .neq 36 (.agg #[.int .i64 k, .int .i64 v, .int .i64 t, .int .i64 a, .string s]) (.agg #[.int .i64 k', .int .i64 v', .int .i64 t', .int .i64 a', .string s'])).run Tryz.prog w = .ok (.bool (!decide (k = k' ∧ v = v' ∧ t = t' ∧ a = a' ∧ s = s'))) w := by
  rw [run_neq_struct, equal_op]
  rfl

theorem eql_is {k v t a k' v' t' a' : Int} {s s' : ByteArray} {q : Bool} (hq : decide (k = k' ∧ v = v' ∧ t = t' ∧ a = a' ∧ s = s') = q) (w : World) : (binOp .eql 36 (.agg #[.int .i64 k, .int .i64 v, .int .i64 t, .int .i64 a, .string s]) (.agg #[.int .i64 k', .int .i64 v', .int .i64 t', .int .i64 a', .string s'])).run Tryz.prog w = .ok (.bool q) w := by
  rw [eql_op, hq]
theorem neq_is {k v t a k' v' t' a' : Int} {s s' : ByteArray} {q : Bool} (hq : decide (k = k' ∧ v = v' ∧ t = t' ∧ a = a' ∧ s = s') = q) (w : World) : (binOp .neq 36 (.agg #[.int .i64 k, .int .i64 v, .int .i64 t, .int .i64 a, .string s]) (.agg #[.int .i64 k', .int .i64 v', .int .i64 t', .int .i64 a', .string s'])).run Tryz.prog w = .ok (.bool (!q)) w := by
  rw [neq_op, hq]

set_option maxHeartbeats 400000 in
theorem isFrom (x lo hi : Int) (w : World) :
    Calls Tryz.prog 62 #[.int .i64 x, .int .i64 lo, .int .i64 hi] w fun e w' => e = .returned (.bool (decide (lo ≤ x ∧ x ≤ hi))) ∧ w' = w := by
  by_cases h1 : lo ≤ x
  · by_cases h2 : x ≤ hi
    · rw [decide_eq_true (And.intro h1 h2)]
      go_enter Tryz.func62, Tryz.ntmps62
      go_wp2
      go_ret
      exact ⟨rfl, rfl⟩
    · rw [decide_eq_false (fun h => h2 h.2)]
      go_enter Tryz.func62, Tryz.ntmps62
      go_wp2
      go_ret
      exact ⟨rfl, rfl⟩
  · rw [decide_eq_false (fun h => h1 h.1)]
    go_enter Tryz.func62, Tryz.ntmps62
    go_wp2
    go_ret
    exact ⟨rfl, rfl⟩

set_option maxHeartbeats 400000 in
theorem l3Host (x : Int) (w : World) :
    Calls Tryz.prog 52 #[.int .i64 x] w fun e w' => e = .returned (.bool (decide (0 ≤ x ∧ x < 3))) ∧ w' = w := by
  by_cases h1 : 0 ≤ x
  · by_cases h2 : x < 3
    · rw [decide_eq_true (And.intro h1 h2)]
      go_enter Tryz.func52, Tryz.ntmps52
      go_wp2
      go_ret
      exact ⟨rfl, rfl⟩
    · rw [decide_eq_false (fun h => h2 h.2)]
      go_enter Tryz.func52, Tryz.ntmps52
      go_wp2
      go_ret
      exact ⟨rfl, rfl⟩
  · rw [decide_eq_false (fun h => h1 h.1)]
    go_enter Tryz.func52, Tryz.ntmps52
    go_wp2
    go_ret
    exact ⟨rfl, rfl⟩

set_option maxHeartbeats 400000 in
theorem l5Vol (x : Int) (w : World) :
    Calls Tryz.prog 75 #[.int .i64 x] w fun e w' => e = .returned (.bool (decide (0 ≤ x ∧ x < 4))) ∧ w' = w := by
  by_cases h1 : 0 ≤ x
  · by_cases h2 : x < 4
    · rw [decide_eq_true (And.intro h1 h2)]
      go_enter Tryz.func75, Tryz.ntmps75
      go_wp2
      go_ret
      exact ⟨rfl, rfl⟩
    · rw [decide_eq_false (fun h => h2 h.2)]
      go_enter Tryz.func75, Tryz.ntmps75
      go_wp2
      go_ret
      exact ⟨rfl, rfl⟩
  · rw [decide_eq_false (fun h => h1 h.1)]
    go_enter Tryz.func75, Tryz.ntmps75
    go_wp2
    go_ret
    exact ⟨rfl, rfl⟩

/-- The highest number that Vol may be. -/
def top (k : Int) : Int := if k = 10 ∨ k = 11 ∨ k = 12 then 2 else 3

theorem beq_no {a b : Int} (h : ¬ a = b) : (a == b) = false := by simpa using h

set_option maxHeartbeats 400000 in
theorem highestVol (k : Int) (w : World) :
    Calls Tryz.prog 83 #[.int .i64 k] w fun e w' => e = .returned (.int .i64 (top k)) ∧ w' = w := by
  by_cases h0 : k = 10
  · subst h0
    go_enter Tryz.func83, Tryz.ntmps83
    go_wp2
    go_ret
    exact ⟨rfl, rfl⟩
  by_cases h1 : k = 11
  · subst h1
    go_enter Tryz.func83, Tryz.ntmps83
    go_wp2
    go_ret
    exact ⟨rfl, rfl⟩
  by_cases h2 : k = 12
  · subst h2
    go_enter Tryz.func83, Tryz.ntmps83
    go_wp2
    go_ret
    exact ⟨rfl, rfl⟩
  have HT : Hid (top k = 3) := by unfold Hid top; rw [if_neg]; omega
  have b0 := beq_no h0
  have b1 := beq_no h1
  have b2 := beq_no h2
  clear h0 h1 h2
  go_enter Tryz.func83, Tryz.ntmps83
  go_wp2
  go_ret
  exact ⟨by rw [HT.out]; rfl, rfl⟩

set_option maxRecDepth 100000 in
set_option maxHeartbeats 2000000 in
theorem namedParts (k v t a : Int) (s : ByteArray) (w : World) :
    Calls Tryz.prog 82 #[opV k v t a s] w fun e w' => e = .returned (opV k (nmv k v) (nmt k t) (nma k a) (nms k s)) ∧ Below w.heap.size w w' := by
  unfold opV
  by_cases h6 : k = 6
  · subst h6
    go_enter Tryz.func82, Tryz.ntmps82
    go_wp2
    go_returns
    exact ⟨rfl, by go_grown⟩
  by_cases h3 : k = 3
  · subst h3
    go_enter Tryz.func82, Tryz.ntmps82
    go_wp2
    go_returns
    exact ⟨rfl, by go_grown⟩
  by_cases h4 : k = 4
  · subst h4
    go_enter Tryz.func82, Tryz.ntmps82
    go_wp2
    go_returns
    exact ⟨rfl, by go_grown⟩
  by_cases h7 : k = 7
  · subst h7
    go_enter Tryz.func82, Tryz.ntmps82
    go_wp2
    go_returns
    exact ⟨rfl, by go_grown⟩
  by_cases h5 : k = 5
  · subst h5
    go_enter Tryz.func82, Tryz.ntmps82
    go_wp2
    go_returns
    exact ⟨rfl, by go_grown⟩
  have HV : Hid (nmv k v = v ∧ nmt k t = 0 ∧ nma k a = 0 ∧ nms k s = ⟨#[]⟩) := by unfold Hid nmv nmt nma nms; simp [h3, h4, h5, h6, h7]
  have b6 := beq_no h6
  have b3 := beq_no h3
  have b4 := beq_no h4
  have b7 := beq_no h7
  have b5 := beq_no h5
  clear h3 h4 h5 h6 h7
  go_enter Tryz.func82, Tryz.ntmps82
  go_wp2
  go_returns
  refine ⟨?_, by go_grown⟩
  rw [HV.out.1, HV.out.2.1, HV.out.2.2.1, HV.out.2.2.2]

end Go.Proofs.YtlhnkdogafnnpaaGreat.Pl

namespace Go.Proofs.YtlhnkdogafnnpaaGreat.Pl
open Go.RowKit Go.Proofs.YtlhnkdogafnnpaaGreat.Mem
set_option linter.unusedVariables false

/-- Are the numbers of a call within its kind's bounds. -/
def good (k v t a : Int) (s : ByteArray) : Bool :=
  if k = 1 ∨ k = 2 ∨ k = 8 ∨ k = 9 then decide (0 ≤ v ∧ v < 4)
  else if k = 3 ∨ k = 4 ∨ k = 7 then decide ((0 ≤ v ∧ v < 4) ∧ (0 ≤ a ∧ a < 4) ∧ (s.size : Int) ≤ 16)
  else if k = 5 then decide ((0 ≤ v ∧ v < 4) ∧ (0 ≤ t ∧ t < 4) ∧ ¬ v = t)
  else if k = 6 then true
  else if k = 10 ∨ k = 11 ∨ k = 12 then decide (0 ≤ v ∧ v < 3)
  else false

/-- Is a call right. -/
def opRight (k v t a : Int) (s : ByteArray) : Bool := good k v t a s && decide (k = k ∧ nmv k v = v ∧ nmt k t = t ∧ nma k a = a ∧ nms k s = s)

theorem right_yes {k v t a : Int} {s : ByteArray} (h : good k v t a s = true) : opRight k v t a s = decide (k = k ∧ nmv k v = v ∧ nmt k t = t ∧ nma k a = a ∧ nms k s = s) := by unfold opRight; rw [h]; rfl
theorem right_no {k v t a : Int} {s : ByteArray} (h : good k v t a s = false) : opRight k v t a s = false := by unfold opRight; rw [h]; rfl

set_option maxRecDepth 100000 in
set_option maxHeartbeats 4000000 in
theorem sOp_vol (k v t a : Int) (s : ByteArray) (w : World) (hs : s.size ≤ 1048576) (hk : k = 1 ∨ k = 2 ∨ k = 8 ∨ k = 9) :
    Calls Tryz.prog 55 #[opV k v t a s] w fun e w' => e = .returned (.bool (opRight k v t a s)) ∧ Below w.heap.size w w' := by
  unfold opV
  have hgo := guardOpT
  obtain ⟨q, hq⟩ : ∃ q, decide (k = k ∧ v = v ∧ (0 : Int) = t ∧ (0 : Int) = a ∧ (⟨#[]⟩ : ByteArray) = s) = q := ⟨_, rfl⟩
  have heq := eql_is hq
  have HQ : Hid (decide (k = k ∧ nmv k v = v ∧ nmt k t = t ∧ nma k a = a ∧ nms k s = s) = q) := by
    rw [Hid, ← hq]
    rcases hk with rfl | rfl | rfl | rfl <;> rfl
  clear hq
  by_cases hv : 0 ≤ v ∧ v < 4
  · have hv' := decide_eq_true hv
    have HG : Hid (good k v t a s = true) := by rcases hk with rfl | rfl | rfl | rfl <;> exact hv'
    have HR := hid ((right_yes HG.out).trans HQ.out)
    generalize opRight k v t a s = x at *
    clear hv HG HQ
    rcases hk with rfl | rfl | rfl | rfl <;> (
      go_enter Tryz.func55, Tryz.ntmps55
      go_wp2_with fail
      refine (hv' ▸ l5Vol v _).mono ?_
      rintro r w1 ⟨rfl, hw⟩
      subst hw
      go_wp2
      go_ret
      exact ⟨by rw [HR.out]; rfl, by go_grown⟩)
  · have hv' := decide_eq_false hv
    have HG : Hid (good k v t a s = false) := by rcases hk with rfl | rfl | rfl | rfl <;> exact hv'
    have HR := hid (right_no HG.out)
    generalize opRight k v t a s = x at *
    clear HG HQ heq
    clear hv
    rcases hk with rfl | rfl | rfl | rfl <;> (
      go_enter Tryz.func55, Tryz.ntmps55
      go_wp2_with fail
      refine (hv' ▸ l5Vol v _).mono ?_
      rintro r w1 ⟨rfl, hw⟩
      subst hw
      go_wp2
      go_ret
      exact ⟨by rw [HR.out]; rfl, by go_grown⟩)

set_option maxRecDepth 100000 in
set_option maxHeartbeats 4000000 in
theorem sOp_host (k v t a : Int) (s : ByteArray) (w : World) (hs : s.size ≤ 1048576) (hk : k = 12) :
    Calls Tryz.prog 55 #[opV k v t a s] w fun e w' => e = .returned (.bool (opRight k v t a s)) ∧ Below w.heap.size w w' := by
  unfold opV
  have hgo := guardOpT
  obtain ⟨q, hq⟩ : ∃ q, decide (k = k ∧ v = v ∧ (0 : Int) = t ∧ (0 : Int) = a ∧ (⟨#[]⟩ : ByteArray) = s) = q := ⟨_, rfl⟩
  have heq := eql_is hq
  have HQ : Hid (decide (k = k ∧ nmv k v = v ∧ nmt k t = t ∧ nma k a = a ∧ nms k s = s) = q) := by
    rw [Hid, ← hq]
    subst hk; rfl
  clear hq
  by_cases hv : 0 ≤ v ∧ v < 3
  · have hv' := decide_eq_true hv
    have HG : Hid (good k v t a s = true) := by subst hk; exact hv'
    have HR := hid ((right_yes HG.out).trans HQ.out)
    generalize opRight k v t a s = x at *
    clear hv HG HQ
    subst hk; (
      go_enter Tryz.func55, Tryz.ntmps55
      go_wp2_with fail
      refine (hv' ▸ l3Host v _).mono ?_
      rintro r w1 ⟨rfl, hw⟩
      subst hw
      go_wp2
      go_ret
      exact ⟨by rw [HR.out]; rfl, by go_grown⟩)
  · have hv' := decide_eq_false hv
    have HG : Hid (good k v t a s = false) := by subst hk; exact hv'
    have HR := hid (right_no HG.out)
    generalize opRight k v t a s = x at *
    clear HG HQ heq
    clear hv
    subst hk; (
      go_enter Tryz.func55, Tryz.ntmps55
      go_wp2_with fail
      refine (hv' ▸ l3Host v _).mono ?_
      rintro r w1 ⟨rfl, hw⟩
      subst hw
      go_wp2
      go_ret
      exact ⟨by rw [HR.out]; rfl, by go_grown⟩)

set_option maxRecDepth 100000 in
set_option maxHeartbeats 4000000 in
theorem sOp_group (k v t a : Int) (s : ByteArray) (w : World) (hs : s.size ≤ 1048576) (hk : k = 10 ∨ k = 11) :
    Calls Tryz.prog 55 #[opV k v t a s] w fun e w' => e = .returned (.bool (opRight k v t a s)) ∧ Below w.heap.size w w' := by
  unfold opV
  have hgo := guardOpT
  obtain ⟨q, hq⟩ : ∃ q, decide (k = k ∧ v = v ∧ (0 : Int) = t ∧ (0 : Int) = a ∧ (⟨#[]⟩ : ByteArray) = s) = q := ⟨_, rfl⟩
  have heq := eql_is hq
  have HQ : Hid (decide (k = k ∧ nmv k v = v ∧ nmt k t = t ∧ nma k a = a ∧ nms k s = s) = q) := by
    rw [Hid, ← hq]
    rcases hk with rfl | rfl <;> rfl
  clear hq
  by_cases hv : 0 ≤ v ∧ v < 3
  · have hv' := decide_eq_true hv
    have HG : Hid (good k v t a s = true) := by rcases hk with rfl | rfl <;> exact hv'
    have HR := hid ((right_yes HG.out).trans HQ.out)
    generalize opRight k v t a s = x at *
    have hv2 := hv
    clear hv hv' HG HQ
    have hv1 := hv2.1
    have hv3 := hv2.2
    clear hv2
    rcases hk with rfl | rfl <;> (
      go_enter Tryz.func55, Tryz.ntmps55
      go_wp2
      go_ret
      exact ⟨by rw [HR.out]; rfl, by go_grown⟩)
  · have hv' := decide_eq_false hv
    have HG : Hid (good k v t a s = false) := by rcases hk with rfl | rfl <;> exact hv'
    have HR := hid (right_no HG.out)
    generalize opRight k v t a s = x at *
    clear HG HQ heq
    clear hv'
    by_cases hv0 : 0 ≤ v
    · have hv1 : ¬ v < 3 := fun h => hv ⟨hv0, h⟩
      clear hv
      rcases hk with rfl | rfl <;> (
        go_enter Tryz.func55, Tryz.ntmps55
        go_wp2
        go_ret
        exact ⟨by rw [HR.out]; rfl, by go_grown⟩)
    · clear hv
      rcases hk with rfl | rfl <;> (
        go_enter Tryz.func55, Tryz.ntmps55
        go_wp2
        go_ret
        exact ⟨by rw [HR.out]; rfl, by go_grown⟩)

end Go.Proofs.YtlhnkdogafnnpaaGreat.Pl

namespace Go.Proofs.YtlhnkdogafnnpaaGreat.Pl
open Go.RowKit Go.Proofs.YtlhnkdogafnnpaaGreat.Mem
set_option linter.unusedVariables false

set_option maxRecDepth 100000 in
set_option maxHeartbeats 4000000 in
theorem sOp_write (k v t a : Int) (s : ByteArray) (w : World) (hs : s.size ≤ 1048576) (hk : k = 3) :
    Calls Tryz.prog 55 #[opV k v t a s] w fun e w' => e = .returned (.bool (opRight k v t a s)) ∧ Below w.heap.size w w' := by
  unfold opV
  have hgo := guardOpT
  obtain ⟨q, hq⟩ : ∃ q, decide (k = k ∧ v = v ∧ (0 : Int) = t ∧ a = a ∧ s = s) = q := ⟨_, rfl⟩
  have heq := eql_is hq
  have HQ : Hid (decide (k = k ∧ nmv k v = v ∧ nmt k t = t ∧ nma k a = a ∧ nms k s = s) = q) := by
    rw [Hid, ← hq]
    subst hk; rfl
  clear hq
  have HE : Hid (good k v t a s = decide ((0 ≤ v ∧ v < 4) ∧ (0 ≤ a ∧ a < 4) ∧ (s.size : Int) ≤ 16)) := by subst hk; rfl
  by_cases hv : 0 ≤ v ∧ v < 4
  · have hv' := decide_eq_true hv
    by_cases h0 : 0 ≤ a
    · by_cases h4 : a < 4
      · by_cases hl : (s.size : Int) ≤ 16
        · have HR := hid ((right_yes (HE.out.trans (decide_eq_true ⟨hv, ⟨h0, h4⟩, hl⟩))).trans HQ.out)
          generalize opRight k v t a s = x at *
          clear hv HE HQ
          subst hk; (
            go_enter Tryz.func55, Tryz.ntmps55
            go_wp2_with fail
            refine (hv' ▸ l5Vol v _).mono ?_
            rintro r w1 ⟨rfl, hw⟩
            subst hw
            go_wp2
            go_ret
            exact ⟨by rw [HR.out]; rfl, by go_grown⟩)
        · have HR := hid (right_no (HE.out.trans (decide_eq_false (fun h => hl h.2.2))))
          generalize opRight k v t a s = x at *
          clear hv HE HQ heq
          subst hk; (
            go_enter Tryz.func55, Tryz.ntmps55
            go_wp2_with fail
            refine (hv' ▸ l5Vol v _).mono ?_
            rintro r w1 ⟨rfl, hw⟩
            subst hw
            go_wp2
            go_ret
            exact ⟨by rw [HR.out]; rfl, by go_grown⟩)
      · have HR := hid (right_no (HE.out.trans (decide_eq_false (fun h => h4 h.2.1.2))))
        generalize opRight k v t a s = x at *
        clear hv HE HQ heq
        subst hk; (
          go_enter Tryz.func55, Tryz.ntmps55
          go_wp2_with fail
          refine (hv' ▸ l5Vol v _).mono ?_
          rintro r w1 ⟨rfl, hw⟩
          subst hw
          go_wp2
          go_ret
          exact ⟨by rw [HR.out]; rfl, by go_grown⟩)
    · have HR := hid (right_no (HE.out.trans (decide_eq_false (fun h => h0 h.2.1.1))))
      generalize opRight k v t a s = x at *
      clear hv HE HQ heq
      subst hk; (
        go_enter Tryz.func55, Tryz.ntmps55
        go_wp2_with fail
        refine (hv' ▸ l5Vol v _).mono ?_
        rintro r w1 ⟨rfl, hw⟩
        subst hw
        go_wp2
        go_ret
        exact ⟨by rw [HR.out]; rfl, by go_grown⟩)
  · have hv' := decide_eq_false hv
    have HR := hid (right_no (HE.out.trans (decide_eq_false (fun h => hv h.1))))
    generalize opRight k v t a s = x at *
    clear hv HE HQ heq
    subst hk; (
      go_enter Tryz.func55, Tryz.ntmps55
      go_wp2_with fail
      refine (hv' ▸ l5Vol v _).mono ?_
      rintro r w1 ⟨rfl, hw⟩
      subst hw
      go_wp2
      go_ret
      exact ⟨by rw [HR.out]; rfl, by go_grown⟩)

set_option maxRecDepth 100000 in
set_option maxHeartbeats 4000000 in
theorem sOp_place (k v t a : Int) (s : ByteArray) (w : World) (hs : s.size ≤ 1048576) (hk : k = 4 ∨ k = 7) :
    Calls Tryz.prog 55 #[opV k v t a s] w fun e w' => e = .returned (.bool (opRight k v t a s)) ∧ Below w.heap.size w w' := by
  unfold opV
  have hgo := guardOpT
  obtain ⟨q, hq⟩ : ∃ q, decide (k = k ∧ v = v ∧ (0 : Int) = t ∧ a = a ∧ (⟨#[]⟩ : ByteArray) = s) = q := ⟨_, rfl⟩
  have heq := eql_is hq
  have HQ : Hid (decide (k = k ∧ nmv k v = v ∧ nmt k t = t ∧ nma k a = a ∧ nms k s = s) = q) := by
    rw [Hid, ← hq]
    rcases hk with rfl | rfl <;> rfl
  clear hq
  have HE : Hid (good k v t a s = decide ((0 ≤ v ∧ v < 4) ∧ (0 ≤ a ∧ a < 4) ∧ (s.size : Int) ≤ 16)) := by rcases hk with rfl | rfl <;> rfl
  by_cases hv : 0 ≤ v ∧ v < 4
  · have hv' := decide_eq_true hv
    by_cases h0 : 0 ≤ a
    · by_cases h4 : a < 4
      · by_cases hl : (s.size : Int) ≤ 16
        · have HR := hid ((right_yes (HE.out.trans (decide_eq_true ⟨hv, ⟨h0, h4⟩, hl⟩))).trans HQ.out)
          generalize opRight k v t a s = x at *
          clear hv HE HQ
          rcases hk with rfl | rfl <;> (
            go_enter Tryz.func55, Tryz.ntmps55
            go_wp2_with fail
            refine (hv' ▸ l5Vol v _).mono ?_
            rintro r w1 ⟨rfl, hw⟩
            subst hw
            go_wp2
            go_ret
            exact ⟨by rw [HR.out]; rfl, by go_grown⟩)
        · have HR := hid (right_no (HE.out.trans (decide_eq_false (fun h => hl h.2.2))))
          generalize opRight k v t a s = x at *
          clear hv HE HQ heq
          rcases hk with rfl | rfl <;> (
            go_enter Tryz.func55, Tryz.ntmps55
            go_wp2_with fail
            refine (hv' ▸ l5Vol v _).mono ?_
            rintro r w1 ⟨rfl, hw⟩
            subst hw
            go_wp2
            go_ret
            exact ⟨by rw [HR.out]; rfl, by go_grown⟩)
      · have HR := hid (right_no (HE.out.trans (decide_eq_false (fun h => h4 h.2.1.2))))
        generalize opRight k v t a s = x at *
        clear hv HE HQ heq
        rcases hk with rfl | rfl <;> (
          go_enter Tryz.func55, Tryz.ntmps55
          go_wp2_with fail
          refine (hv' ▸ l5Vol v _).mono ?_
          rintro r w1 ⟨rfl, hw⟩
          subst hw
          go_wp2
          go_ret
          exact ⟨by rw [HR.out]; rfl, by go_grown⟩)
    · have HR := hid (right_no (HE.out.trans (decide_eq_false (fun h => h0 h.2.1.1))))
      generalize opRight k v t a s = x at *
      clear hv HE HQ heq
      rcases hk with rfl | rfl <;> (
        go_enter Tryz.func55, Tryz.ntmps55
        go_wp2_with fail
        refine (hv' ▸ l5Vol v _).mono ?_
        rintro r w1 ⟨rfl, hw⟩
        subst hw
        go_wp2
        go_ret
        exact ⟨by rw [HR.out]; rfl, by go_grown⟩)
  · have hv' := decide_eq_false hv
    have HR := hid (right_no (HE.out.trans (decide_eq_false (fun h => hv h.1))))
    generalize opRight k v t a s = x at *
    clear hv HE HQ heq
    rcases hk with rfl | rfl <;> (
      go_enter Tryz.func55, Tryz.ntmps55
      go_wp2_with fail
      refine (hv' ▸ l5Vol v _).mono ?_
      rintro r w1 ⟨rfl, hw⟩
      subst hw
      go_wp2
      go_ret
      exact ⟨by rw [HR.out]; rfl, by go_grown⟩)

set_option maxRecDepth 100000 in
set_option maxHeartbeats 4000000 in
theorem sOp_snap (k v t a : Int) (s : ByteArray) (w : World) (hs : s.size ≤ 1048576) (hk : k = 5) :
    Calls Tryz.prog 55 #[opV k v t a s] w fun e w' => e = .returned (.bool (opRight k v t a s)) ∧ Below w.heap.size w w' := by
  unfold opV
  have hgo := guardOpT
  obtain ⟨q, hq⟩ : ∃ q, decide (k = k ∧ v = v ∧ t = t ∧ (0 : Int) = a ∧ (⟨#[]⟩ : ByteArray) = s) = q := ⟨_, rfl⟩
  have heq := eql_is hq
  have HQ : Hid (decide (k = k ∧ nmv k v = v ∧ nmt k t = t ∧ nma k a = a ∧ nms k s = s) = q) := by
    rw [Hid, ← hq]
    subst hk; rfl
  clear hq
  have HE : Hid (good k v t a s = decide ((0 ≤ v ∧ v < 4) ∧ (0 ≤ t ∧ t < 4) ∧ ¬ v = t)) := by subst hk; rfl
  by_cases hv : 0 ≤ v ∧ v < 4
  · have hv' := decide_eq_true hv
    by_cases ht : 0 ≤ t ∧ t < 4
    · have ht' := decide_eq_true ht
      by_cases hn : v = t
      · have HR := hid (right_no (HE.out.trans (decide_eq_false (fun h => h.2.2 hn))))
        have hb : (v != t) = false := by simpa using hn
        generalize opRight k v t a s = x at *
        clear hv ht HE HQ heq hn
        subst hk
        go_enter Tryz.func55, Tryz.ntmps55
        go_wp2_with fail
        refine (hv' ▸ l5Vol v _).mono ?_
        rintro r w1 ⟨rfl, hw⟩
        subst hw
        go_wp2_with fail
        refine (ht' ▸ l5Vol t _).mono ?_
        rintro r w1 ⟨rfl, hw⟩
        subst hw
        go_wp2
        go_ret
        exact ⟨by rw [HR.out]; rfl, by go_grown⟩
      · have HR := hid ((right_yes (HE.out.trans (decide_eq_true ⟨hv, ht, hn⟩))).trans HQ.out)
        have hb : (v != t) = true := by simpa using hn
        generalize opRight k v t a s = x at *
        clear hv ht HE HQ hn
        subst hk
        go_enter Tryz.func55, Tryz.ntmps55
        go_wp2_with fail
        refine (hv' ▸ l5Vol v _).mono ?_
        rintro r w1 ⟨rfl, hw⟩
        subst hw
        go_wp2_with fail
        refine (ht' ▸ l5Vol t _).mono ?_
        rintro r w1 ⟨rfl, hw⟩
        subst hw
        go_wp2
        go_ret
        exact ⟨by rw [HR.out]; rfl, by go_grown⟩
    · have ht' := decide_eq_false ht
      have HR := hid (right_no (HE.out.trans (decide_eq_false (fun h => ht h.2.1))))
      generalize opRight k v t a s = x at *
      clear hv ht HE HQ heq
      subst hk
      go_enter Tryz.func55, Tryz.ntmps55
      go_wp2_with fail
      refine (hv' ▸ l5Vol v _).mono ?_
      rintro r w1 ⟨rfl, hw⟩
      subst hw
      go_wp2_with fail
      refine (ht' ▸ l5Vol t _).mono ?_
      rintro r w1 ⟨rfl, hw⟩
      subst hw
      go_wp2
      go_ret
      exact ⟨by rw [HR.out]; rfl, by go_grown⟩
  · have hv' := decide_eq_false hv
    have HR := hid (right_no (HE.out.trans (decide_eq_false (fun h => hv h.1))))
    generalize opRight k v t a s = x at *
    clear hv HE HQ heq
    subst hk; (
      go_enter Tryz.func55, Tryz.ntmps55
      go_wp2_with fail
      refine (hv' ▸ l5Vol v _).mono ?_
      rintro r w1 ⟨rfl, hw⟩
      subst hw
      go_wp2
      go_ret
      exact ⟨by rw [HR.out]; rfl, by go_grown⟩)

set_option maxRecDepth 100000 in
set_option maxHeartbeats 4000000 in
theorem sOp_drain (k v t a : Int) (s : ByteArray) (w : World) (hs : s.size ≤ 1048576) (hk : k = 6) :
    Calls Tryz.prog 55 #[opV k v t a s] w fun e w' => e = .returned (.bool (opRight k v t a s)) ∧ Below w.heap.size w w' := by
  unfold opV
  have hgo := guardOpT
  obtain ⟨q, hq⟩ : ∃ q, decide (k = k ∧ (0 : Int) = v ∧ (0 : Int) = t ∧ (0 : Int) = a ∧ (⟨#[]⟩ : ByteArray) = s) = q := ⟨_, rfl⟩
  have heq := eql_is hq
  have HQ : Hid (decide (k = k ∧ nmv k v = v ∧ nmt k t = t ∧ nma k a = a ∧ nms k s = s) = q) := by
    rw [Hid, ← hq]
    subst hk; rfl
  clear hq
  have HE : Hid (good k v t a s = true) := by subst hk; rfl
  have HR := hid ((right_yes HE.out).trans HQ.out)
  generalize opRight k v t a s = x at *
  clear HE HQ
  subst hk
  go_enter Tryz.func55, Tryz.ntmps55
  go_wp2
  go_ret
  exact ⟨by rw [HR.out]; rfl, by go_grown⟩

set_option maxRecDepth 100000 in
set_option maxHeartbeats 4000000 in
theorem sOpOk (k v t a : Int) (s : ByteArray) (w : World) (hs : s.size ≤ 1048576) :
    Calls Tryz.prog 55 #[opV k v t a s] w fun e w' => e = .returned (.bool (opRight k v t a s)) ∧ Below w.heap.size w w' := by
  by_cases h1 : k = 1 ∨ k = 2 ∨ k = 8 ∨ k = 9
  · exact sOp_vol k v t a s w hs h1
  by_cases h2 : k = 3
  · exact sOp_write k v t a s w hs h2
  by_cases h3 : k = 4 ∨ k = 7
  · exact sOp_place k v t a s w hs h3
  by_cases h4 : k = 5
  · exact sOp_snap k v t a s w hs h4
  by_cases h5 : k = 6
  · exact sOp_drain k v t a s w hs h5
  by_cases h6 : k = 10 ∨ k = 11
  · exact sOp_group k v t a s w hs h6
  by_cases h7 : k = 12
  · exact sOp_host k v t a s w hs h7
  have HR : Hid (opRight k v t a s = false) := right_no (by unfold good; rw [if_neg h1, if_neg (by omega), if_neg h4, if_neg h5, if_neg (by omega)])
  unfold opV
  generalize opRight k v t a s = x at *
  have b1 : (k == 1) = false := beq_no (by omega)
  have b2 : (k == 2) = false := beq_no (by omega)
  have b3 : (k == 3) = false := beq_no (by omega)
  have b4 : (k == 4) = false := beq_no (by omega)
  have b5 : (k == 5) = false := beq_no (by omega)
  have b6 : (k == 6) = false := beq_no (by omega)
  have b7 : (k == 7) = false := beq_no (by omega)
  have b8 : (k == 8) = false := beq_no (by omega)
  have b9 : (k == 9) = false := beq_no (by omega)
  have b10 : (k == 10) = false := beq_no (by omega)
  have b11 : (k == 11) = false := beq_no (by omega)
  have b12 : (k == 12) = false := beq_no (by omega)
  clear h1 h2 h3 h4 h5 h6 h7
  go_enter Tryz.func55, Tryz.ntmps55
  go_wp2
  go_ret
  exact ⟨by rw [HR.out]; rfl, by go_grown⟩

end Go.Proofs.YtlhnkdogafnnpaaGreat.Pl

namespace Go.Proofs.YtlhnkdogafnnpaaGreat.Pl
open Go.RowKit Go.Proofs.YtlhnkdogafnnpaaGreat.Mem
set_option linter.unusedVariables false

theorem right_is {k v t a : Int} {s : ByteArray} (hk : 1 ≤ k ∧ k ≤ 12) (hn : nmv k v = v ∧ nmt k t = t ∧ nma k a = a ∧ nms k s = s) (h5 : ¬ (k = 5 ∧ v = t)) :
    opRight k v t a s = (decide (0 ≤ v ∧ v ≤ top k) && (decide (0 ≤ t ∧ t ≤ 3) && (decide (0 ≤ a ∧ a ≤ 3) && decide ((s.size : Int) ≤ 16)))) := by
  obtain ⟨n1, n2, n3, n4⟩ := hn
  have he : (⟨#[]⟩ : ByteArray).size = 0 := rfl
  unfold opRight
  rw [decide_eq_true (show k = k ∧ nmv k v = v ∧ nmt k t = t ∧ nma k a = a ∧ nms k s = s from ⟨rfl, n1, n2, n3, n4⟩), Bool.and_true]
  have hc : k = 1 ∨ k = 2 ∨ k = 3 ∨ k = 4 ∨ k = 5 ∨ k = 6 ∨ k = 7 ∨ k = 8 ∨ k = 9 ∨ k = 10 ∨ k = 11 ∨ k = 12 := by omega
  rw [Bool.eq_iff_iff]
  rcases hc with rfl | rfl | rfl | rfl | rfl | rfl | rfl | rfl | rfl | rfl | rfl | rfl <;> simp [nmv, nmt, nma, nms] at n1 n2 n3 n4 <;> (try subst n4) <;> simp [good, top, he] <;> omega

theorem right_not {k v t a : Int} {s : ByteArray} (hk : ¬ (1 ≤ k ∧ k ≤ 12)) : opRight k v t a s = false :=
  right_no (by unfold good; rw [if_neg (by omega), if_neg (by omega), if_neg (by omega), if_neg (by omega), if_neg (by omega)])

theorem right_same {k v t a : Int} {s : ByteArray} (h : k = 5 ∧ v = t) : opRight k v t a s = false :=
  right_no (by obtain ⟨rfl, rfl⟩ := h; simp [good])

theorem right_part {k v t a : Int} {s : ByteArray} (h : ¬ (nmv k v = v ∧ nmt k t = t ∧ nma k a = a ∧ nms k s = s)) : opRight k v t a s = false := by
  unfold opRight
  rw [decide_eq_false (fun x => h x.2), Bool.and_false]

theorem eq_turned {k v t a : Int} {s : ByteArray} : decide (k = k ∧ v = nmv k v ∧ t = nmt k t ∧ a = nma k a ∧ s = nms k s) = decide (nmv k v = v ∧ nmt k t = t ∧ nma k a = a ∧ nms k s = s) := by
  rw [decide_eq_decide]
  exact ⟨fun h => ⟨h.2.1.symm, h.2.2.1.symm, h.2.2.2.1.symm, h.2.2.2.2.symm⟩, fun h => ⟨rfl, h.1.symm, h.2.1.symm, h.2.2.1.symm, h.2.2.2.symm⟩⟩

set_option maxRecDepth 100000 in
set_option maxHeartbeats 4000000 in
theorem iOpOk (k v t a : Int) (s : ByteArray) (w : World) (hs : s.size ≤ 1048576) :
    Calls Tryz.prog 78 #[opV k v t a s] w fun e w' => e = .returned (.bool (opRight k v t a s)) ∧ Below w.heap.size w w' := by
  unfold opV
  obtain ⟨wa, hwa, ez, A0, B0⟩ := one_new w [.int .i64 k, .int .i64 v, .int .i64 t, .int .i64 a, .string s] 36
  have HA := hid A0
  have k0 := BW.cell (A0.c 0 rfl)
  have k1 := BW.cell (A0.c 1 rfl)
  have k2 := BW.cell (A0.c 2 rfl)
  have k3 := BW.cell (A0.c 3 rfl)
  have k4 := BW.cell (A0.c 4 rfl)
  have hne : Nonempty (BW wa) := ⟨⟨wa, Below.refl _ _⟩⟩
  have HB := hid B0
  have hgo := guardOpT
  clear A0 B0
  by_cases hk : 1 ≤ k ∧ k ≤ 12
  · have hk' := decide_eq_true hk
    by_cases hn : nmv k v = v ∧ nmt k t = t ∧ nma k a = a ∧ nms k s = s
    · have heq := neq_is (eq_turned.trans (decide_eq_true hn))
      by_cases h5 : k = 5 ∧ v = t
      · have HR := hid (right_same (a := a) (s := s) h5)
        have hb5 : (k == 5) = true := by simpa using h5.1
        have hbv : (v == t) = true := by simpa using h5.2
        generalize opRight k v t a s = x at *
        clear hk hn h5
        go_enter Tryz.func78, Tryz.ntmps78
        go_wp2
        refine wp_region_bw (by kernel_rfl) (by kernel_rfl) ?_
        repeat (go_big_quiet_step (first
          | (go_at_call 62; refine bw_same (v := .bool true) (hk' ▸ isFrom k 1 12 _))
          | (go_at_call 82; refine bw_below (v := .agg #[.int .i64 k, .int .i64 (nmv k v), .int .i64 (nmt k t), .int .i64 (nma k a), .string (nms k s)]) (namedParts k v t a s _))))
        refine wpQuiet_nil ?_
        intro w3 hw'
        obtain ⟨u, hu⟩ := hw'
        have b3 := u.bel
        rw [← hu] at b3
        have HU := hid (HB.out.trans (b3.mono HB.out.size))
        have HA3 := hid (HA.out.below b3 HA.out.lt)
        clear k0 k1 k2 k3 k4 heq hwa hne hu b3 u HA
        have k0 := HA3.out.c 0 rfl
        have k1 := HA3.out.c 1 rfl
        have k2 := HA3.out.c 2 rfl
        go_wp2
        go_ret
        exact ⟨by rw [HR.out]; rfl, HU.out⟩
      · have HE := hid (right_is hk hn h5)
        by_cases hk5 : k = 5
        · have hb5 : (k == 5) = true := by simpa using hk5
          have hbv : (v == t) = false := by simpa using fun e => h5 ⟨hk5, e⟩
          generalize opRight k v t a s = x at *
          clear hk hn h5 hk5
          go_enter Tryz.func78, Tryz.ntmps78
          go_wp2
          refine wp_region_bw (by kernel_rfl) (by kernel_rfl) ?_
          repeat (go_big_quiet_step (first
            | (go_at_call 62; refine bw_same (v := .bool true) (hk' ▸ isFrom k 1 12 _))
            | (go_at_call 82; refine bw_below (v := .agg #[.int .i64 k, .int .i64 (nmv k v), .int .i64 (nmt k t), .int .i64 (nma k a), .string (nms k s)]) (namedParts k v t a s _))))
          refine wpQuiet_nil ?_
          intro w3 hw'
          obtain ⟨u, hu⟩ := hw'
          have b3 := u.bel
          rw [← hu] at b3
          have HU := hid (HB.out.trans (b3.mono HB.out.size))
          have HA3 := hid (HA.out.below b3 HA.out.lt)
          clear k0 k1 k2 k3 k4 heq hwa hne hu b3 u HA
          have k0 := HA3.out.c 0 rfl
          have k1 := HA3.out.c 1 rfl
          have k2 := HA3.out.c 2 rfl
          go_wp2_with fail
          clear k0 k1 k2
          have k0 := BW.cell (HA3.out.c 0 rfl)
          have k1 := BW.cell (HA3.out.c 1 rfl)
          have k2 := BW.cell (HA3.out.c 2 rfl)
          have k3 := BW.cell (HA3.out.c 3 rfl)
          have k4 := BW.cell (HA3.out.c 4 rfl)
          have hne : Nonempty (BW w3) := ⟨⟨w3, Below.refl _ _⟩⟩
          by_cases hv : 0 ≤ v ∧ v ≤ top k
          · have hv' := decide_eq_true hv
            rw [hv', Bool.true_and] at HE
            by_cases ht : 0 ≤ t ∧ t ≤ 3
            · have ht' := decide_eq_true ht
              rw [ht', Bool.true_and] at HE
              by_cases ha : 0 ≤ a ∧ a ≤ 3
              · have ha' := decide_eq_true ha
                rw [ha', Bool.true_and] at HE
                have HR : Hid (x = decide ((s.size : Int) ≤ 16)) := HE
                clear hv ht ha HE
                refine wp_region_bw (by kernel_rfl) (by kernel_rfl) ?_
                repeat (go_big_quiet_step (first
                  | (go_at_call 83; refine bw_same (highestVol k _))
                  | (go_at_call 62; with_reducible refine bw_same (v := .bool true) (hv' ▸ isFrom v 0 (top k) _))
                  | (go_at_call 62; with_reducible refine bw_same (v := .bool true) (ht' ▸ isFrom t 0 3 _))
                  | (go_at_call 62; with_reducible refine bw_same (v := .bool true) (ha' ▸ isFrom a 0 3 _))))
                refine wpQuiet_nil ?_
                intro _ hw'
                obtain ⟨u5, rfl⟩ := hw'
                have HU5 := hid (HU.out.trans (u5.bel.mono HU.out.size))
                clear k0 k1 k2 k3 k4
                go_wp2
                go_ret
                exact ⟨by rw [HR.out]; rfl, HU5.out⟩
              · have ha' := decide_eq_false ha
                rw [ha', Bool.false_and] at HE
                have HR : Hid (x = false) := HE
                clear hv ht ha HE
                refine wp_region_bw (by kernel_rfl) (by kernel_rfl) ?_
                repeat (go_big_quiet_step (first
                  | (go_at_call 83; refine bw_same (highestVol k _))
                  | (go_at_call 62; with_reducible refine bw_same (v := .bool true) (hv' ▸ isFrom v 0 (top k) _))
                  | (go_at_call 62; with_reducible refine bw_same (v := .bool true) (ht' ▸ isFrom t 0 3 _))
                  | (go_at_call 62; with_reducible refine bw_same (v := .bool false) (ha' ▸ isFrom a 0 3 _))))
                refine wpQuiet_nil ?_
                intro _ hw'
                obtain ⟨u5, rfl⟩ := hw'
                have HU5 := hid (HU.out.trans (u5.bel.mono HU.out.size))
                clear k0 k1 k2 k3 k4
                go_wp2
                go_ret
                exact ⟨by rw [HR.out]; rfl, HU5.out⟩
            · have ht' := decide_eq_false ht
              rw [ht', Bool.false_and] at HE
              have HR : Hid (x = false) := HE
              clear hv ht HE
              refine wp_region_bw (by kernel_rfl) (by kernel_rfl) ?_
              repeat (go_big_quiet_step (first
                | (go_at_call 83; refine bw_same (highestVol k _))
                | (go_at_call 62; with_reducible refine bw_same (v := .bool true) (hv' ▸ isFrom v 0 (top k) _))
                | (go_at_call 62; with_reducible refine bw_same (v := .bool false) (ht' ▸ isFrom t 0 3 _))))
              refine wpQuiet_nil ?_
              intro _ hw'
              obtain ⟨u5, rfl⟩ := hw'
              have HU5 := hid (HU.out.trans (u5.bel.mono HU.out.size))
              clear k0 k1 k2 k3 k4
              go_wp2
              go_ret
              exact ⟨by rw [HR.out]; rfl, HU5.out⟩
          · have hv' := decide_eq_false hv
            rw [hv', Bool.false_and] at HE
            have HR : Hid (x = false) := HE
            clear hv HE
            refine wp_region_bw (by kernel_rfl) (by kernel_rfl) ?_
            repeat (go_big_quiet_step (first
              | (go_at_call 83; refine bw_same (highestVol k _))
              | (go_at_call 62; with_reducible refine bw_same (v := .bool false) (hv' ▸ isFrom v 0 (top k) _))))
            refine wpQuiet_nil ?_
            intro _ hw'
            obtain ⟨u5, rfl⟩ := hw'
            have HU5 := hid (HU.out.trans (u5.bel.mono HU.out.size))
            clear k0 k1 k2 k3 k4
            go_wp2
            go_ret
            exact ⟨by rw [HR.out]; rfl, HU5.out⟩
        · have hb5 : (k == 5) = false := by simpa using hk5
          generalize opRight k v t a s = x at *
          clear hk hn h5 hk5
          go_enter Tryz.func78, Tryz.ntmps78
          go_wp2
          refine wp_region_bw (by kernel_rfl) (by kernel_rfl) ?_
          repeat (go_big_quiet_step (first
            | (go_at_call 62; refine bw_same (v := .bool true) (hk' ▸ isFrom k 1 12 _))
            | (go_at_call 82; refine bw_below (v := .agg #[.int .i64 k, .int .i64 (nmv k v), .int .i64 (nmt k t), .int .i64 (nma k a), .string (nms k s)]) (namedParts k v t a s _))))
          refine wpQuiet_nil ?_
          intro w3 hw'
          obtain ⟨u, hu⟩ := hw'
          have b3 := u.bel
          rw [← hu] at b3
          have HU := hid (HB.out.trans (b3.mono HB.out.size))
          have HA3 := hid (HA.out.below b3 HA.out.lt)
          clear k0 k1 k2 k3 k4 heq hwa hne hu b3 u HA
          have k0 := HA3.out.c 0 rfl
          have k1 := HA3.out.c 1 rfl
          have k2 := HA3.out.c 2 rfl
          go_wp2_with fail
          clear k0 k1 k2
          have k0 := BW.cell (HA3.out.c 0 rfl)
          have k1 := BW.cell (HA3.out.c 1 rfl)
          have k2 := BW.cell (HA3.out.c 2 rfl)
          have k3 := BW.cell (HA3.out.c 3 rfl)
          have k4 := BW.cell (HA3.out.c 4 rfl)
          have hne : Nonempty (BW w3) := ⟨⟨w3, Below.refl _ _⟩⟩
          by_cases hv : 0 ≤ v ∧ v ≤ top k
          · have hv' := decide_eq_true hv
            rw [hv', Bool.true_and] at HE
            by_cases ht : 0 ≤ t ∧ t ≤ 3
            · have ht' := decide_eq_true ht
              rw [ht', Bool.true_and] at HE
              by_cases ha : 0 ≤ a ∧ a ≤ 3
              · have ha' := decide_eq_true ha
                rw [ha', Bool.true_and] at HE
                have HR : Hid (x = decide ((s.size : Int) ≤ 16)) := HE
                clear hv ht ha HE
                refine wp_region_bw (by kernel_rfl) (by kernel_rfl) ?_
                repeat (go_big_quiet_step (first
                  | (go_at_call 83; refine bw_same (highestVol k _))
                  | (go_at_call 62; with_reducible refine bw_same (v := .bool true) (hv' ▸ isFrom v 0 (top k) _))
                  | (go_at_call 62; with_reducible refine bw_same (v := .bool true) (ht' ▸ isFrom t 0 3 _))
                  | (go_at_call 62; with_reducible refine bw_same (v := .bool true) (ha' ▸ isFrom a 0 3 _))))
                refine wpQuiet_nil ?_
                intro _ hw'
                obtain ⟨u5, rfl⟩ := hw'
                have HU5 := hid (HU.out.trans (u5.bel.mono HU.out.size))
                clear k0 k1 k2 k3 k4
                go_wp2
                go_ret
                exact ⟨by rw [HR.out]; rfl, HU5.out⟩
              · have ha' := decide_eq_false ha
                rw [ha', Bool.false_and] at HE
                have HR : Hid (x = false) := HE
                clear hv ht ha HE
                refine wp_region_bw (by kernel_rfl) (by kernel_rfl) ?_
                repeat (go_big_quiet_step (first
                  | (go_at_call 83; refine bw_same (highestVol k _))
                  | (go_at_call 62; with_reducible refine bw_same (v := .bool true) (hv' ▸ isFrom v 0 (top k) _))
                  | (go_at_call 62; with_reducible refine bw_same (v := .bool true) (ht' ▸ isFrom t 0 3 _))
                  | (go_at_call 62; with_reducible refine bw_same (v := .bool false) (ha' ▸ isFrom a 0 3 _))))
                refine wpQuiet_nil ?_
                intro _ hw'
                obtain ⟨u5, rfl⟩ := hw'
                have HU5 := hid (HU.out.trans (u5.bel.mono HU.out.size))
                clear k0 k1 k2 k3 k4
                go_wp2
                go_ret
                exact ⟨by rw [HR.out]; rfl, HU5.out⟩
            · have ht' := decide_eq_false ht
              rw [ht', Bool.false_and] at HE
              have HR : Hid (x = false) := HE
              clear hv ht HE
              refine wp_region_bw (by kernel_rfl) (by kernel_rfl) ?_
              repeat (go_big_quiet_step (first
                | (go_at_call 83; refine bw_same (highestVol k _))
                | (go_at_call 62; with_reducible refine bw_same (v := .bool true) (hv' ▸ isFrom v 0 (top k) _))
                | (go_at_call 62; with_reducible refine bw_same (v := .bool false) (ht' ▸ isFrom t 0 3 _))))
              refine wpQuiet_nil ?_
              intro _ hw'
              obtain ⟨u5, rfl⟩ := hw'
              have HU5 := hid (HU.out.trans (u5.bel.mono HU.out.size))
              clear k0 k1 k2 k3 k4
              go_wp2
              go_ret
              exact ⟨by rw [HR.out]; rfl, HU5.out⟩
          · have hv' := decide_eq_false hv
            rw [hv', Bool.false_and] at HE
            have HR : Hid (x = false) := HE
            clear hv HE
            refine wp_region_bw (by kernel_rfl) (by kernel_rfl) ?_
            repeat (go_big_quiet_step (first
              | (go_at_call 83; refine bw_same (highestVol k _))
              | (go_at_call 62; with_reducible refine bw_same (v := .bool false) (hv' ▸ isFrom v 0 (top k) _))))
            refine wpQuiet_nil ?_
            intro _ hw'
            obtain ⟨u5, rfl⟩ := hw'
            have HU5 := hid (HU.out.trans (u5.bel.mono HU.out.size))
            clear k0 k1 k2 k3 k4
            go_wp2
            go_ret
            exact ⟨by rw [HR.out]; rfl, HU5.out⟩
    · have heq := neq_is (eq_turned.trans (decide_eq_false hn))
      have HR := hid (right_part hn)
      generalize opRight k v t a s = x at *
      clear hk hn
      go_enter Tryz.func78, Tryz.ntmps78
      go_wp2
      refine wp_region_bw (by kernel_rfl) (by kernel_rfl) ?_
      repeat (go_big_quiet_step (first
        | (go_at_call 62; refine bw_same (v := .bool true) (hk' ▸ isFrom k 1 12 _))
        | (go_at_call 82; refine bw_below (v := .agg #[.int .i64 k, .int .i64 (nmv k v), .int .i64 (nmt k t), .int .i64 (nma k a), .string (nms k s)]) (namedParts k v t a s _))))
      refine wpQuiet_nil ?_
      intro w3 hw'
      obtain ⟨u, hu⟩ := hw'
      have b3 := u.bel
      rw [← hu] at b3
      have HU := hid (HB.out.trans (b3.mono HB.out.size))
      clear k0 k1 k2 k3 k4 heq hwa hne hu b3 u
      go_wp2
      go_ret
      exact ⟨by rw [HR.out]; rfl, HU.out⟩
  · have hk' := decide_eq_false hk
    have HR := hid (right_not (v := v) (t := t) (a := a) (s := s) hk)
    generalize opRight k v t a s = x at *
    clear hk
    go_enter Tryz.func78, Tryz.ntmps78
    go_wp2
    refine wp_region_bw (by kernel_rfl) (by kernel_rfl) ?_
    repeat (go_big_quiet_step (first
      | (go_at_call 62; refine bw_same (v := .bool false) (hk' ▸ isFrom k 1 12 _))
      | (go_at_call 82; refine bw_below (v := .agg #[.int .i64 k, .int .i64 (nmv k v), .int .i64 (nmt k t), .int .i64 (nma k a), .string (nms k s)]) (namedParts k v t a s _))))
    refine wpQuiet_nil ?_
    intro w3 hw'
    obtain ⟨u, hu⟩ := hw'
    have b3 := u.bel
    rw [← hu] at b3
    have HU := hid (HB.out.trans (b3.mono HB.out.size))
    clear k0 k1 k2 k3 k4 hwa hne hu b3 u
    go_wp2
    go_ret
    exact ⟨by rw [HR.out]; rfl, HU.out⟩

end Go.Proofs.YtlhnkdogafnnpaaGreat.Pl

namespace Go.Proofs.YtlhnkdogafnnpaaGreat.Pl
open Go.RowKit Go.ChangeShapes Go.WideShapes Go.ChangeAt Go.Joins Go.Deep
open Go.Proofs.YtlhnkdogafnnpaaGreat.Mem
set_option linter.unusedVariables false

variable {H : Type} {enc : TypeId × Value → H} {W : World} {base : Nat} {spare : Nat → Bool} {held : Bool}

theorem cInt : Tryz.prog.cellsOf 3 = 1 := by kernel_rfl

set_option maxRecDepth 100000 in
theorem op_in {fuel : Nat} {cs : List Value} {x : DataW H × List MemPlace} (h : DataW.trod enc Tryz.prog W base spare held fuel 23 cs = some x) :
    ∃ (k v t a : Int) (s : ByteArray), cs = [.int .i64 k, .int .i64 v, .int .i64 t, .int .i64 a, .string s] ∧ s.size ≤ maxLen := by
  obtain ⟨xs, n, _, rfl, hl, hlen, hf⟩ := DataW.trod_struct Tryz.underlying23 h
  have c5 : Tryz.prog.cellsOf 23 = 5 := by kernel_rfl
  have cs9 : Tryz.prog.cellsOf 9 = 1 := by kernel_rfl
  rw [c5] at hl
  match xs, hlen, cs, hl with
  | [y0, y1, y2, y3, y4], _, [v0, v1, v2, v3, v4], _ =>
    have f0 : DataW.trod enc Tryz.prog W base spare held n 3 [v0] = some y0 := by simpa [cInt] using hf 0 _ rfl
    have f1 : DataW.trod enc Tryz.prog W base spare held n 3 [v1] = some y1 := by simpa [cInt] using hf 1 _ rfl
    have f2 : DataW.trod enc Tryz.prog W base spare held n 3 [v2] = some y2 := by simpa [cInt] using hf 2 _ rfl
    have f3 : DataW.trod enc Tryz.prog W base spare held n 3 [v3] = some y3 := by simpa [cInt] using hf 3 _ rfl
    have f4 : DataW.trod enc Tryz.prog W base spare held n 9 [v4] = some y4 := by simpa [cs9] using hf 4 _ rfl
    obtain ⟨n0, e0, _, _⟩ := DataW.trod_int Tryz.underlying3 f0
    obtain ⟨n1, e1, _, _⟩ := DataW.trod_int Tryz.underlying3 f1
    obtain ⟨n2, e2, _, _⟩ := DataW.trod_int Tryz.underlying3 f2
    obtain ⟨n3, e3, _, _⟩ := DataW.trod_int Tryz.underlying3 f3
    obtain ⟨s4, e4, _, hs⟩ := DataW.trod_string Tryz.underlying9 f4
    simp only [List.cons.injEq, and_true] at e0 e1 e2 e3 e4
    subst e0; subst e1; subst e2; subst e3; subst e4
    exact ⟨n0, n1, n2, n3, s4, rfl, hs⟩

set_option maxRecDepth 100000 in
/-- A call that came in. -/
theorem op_arg {v : Value} {d : DataW H} {p : List MemPlace} {r : Reach} {b0 : Nat} (hv : Value.okWide Tryz.prog W r b0 23 v) (h : DataW.Trod enc Tryz.prog W base spare held 23 v d p) :
    ∃ (k v' t a : Int) (s : ByteArray), v = opV k v' t a s ∧ s.size ≤ maxLen := by
  obtain ⟨cs, rfl, hsz⟩ := okWide_struct Tryz.underlying23 hv
  obtain ⟨fuel, hf⟩ := h
  obtain ⟨k, v', t, a, s, e, hs⟩ := op_in hf
  obtain ⟨l⟩ := cs
  simp only [Value.cells] at e
  subst e
  exact ⟨k, v', t, a, s, rfl, hs⟩

set_option maxRecDepth 100000 in
set_option maxHeartbeats 1000000 in
theorem toOp (w : World) (k v t a : Int) (s : ByteArray) : Calls Tryz.prog 26 #[opV k v t a s] w fun e w' => e = .returned (opV k v t a s) ∧ Below w.heap.size w w' := by
  unfold opV
  go_enter Tryz.func26, Tryz.ntmps26
  go_wp2
  go_returns
  exact ⟨rfl, by go_grown⟩

/-- What is left: a number below 0, or one not above what was, and all fits. -/
def Fits1 (r left : Int) (n : Nat) : Prop := r < 0 ∨ (0 ≤ r ∧ r ≤ left ∧ (n : Int) ≤ left)

set_option maxRecDepth 100000 in
set_option maxHeartbeats 1000000 in
theorem szOp (w : World) (k v t a : Int) (s : ByteArray) (left : Int) (hl : s.size ≤ maxLen) (h0 : 0 ≤ left) (h1 : left ≤ 1048576) :
    Calls Tryz.prog 16 #[opV k v t a s, .int .i64 left] w fun e w' => ∃ r, e = .returned (.int .i64 r) ∧ Below w.heap.size w w' ∧ Fits1 r left s.size := by
  unfold maxLen at hl
  unfold opV
  by_cases hb : left < (s.size : Int)
  · go_enter Tryz.func16, Tryz.ntmps16
    go_wp2
    go_ret
    exact ⟨_, rfl, by go_grown, Or.inl (by decide)⟩
  · go_enter Tryz.func16, Tryz.ntmps16
    go_wp2
    go_ret
    exact ⟨_, rfl, by go_grown, Or.inr ⟨by omega, by omega, by omega⟩⟩

end Go.Proofs.YtlhnkdogafnnpaaGreat.Pl

namespace Go.Proofs.YtlhnkdogafnnpaaGreat.Pl
open Go.RowKit Go.Proofs.YtlhnkdogafnnpaaGreat.Mem Go.Proofs.YtlhnkdogafnnpaaGreat.Sec
set_option linter.unusedVariables false

/-- A host, but for where its list of outs lies. -/
structure Ho where
  id : Int
  ep : Int
  up : Bool
  rd : Bool
  bz : Bool
  k : Int
  v : Int
  t : Int
  a : Int
  s : ByteArray
  pc : Int
  cd : Int
  bk : Int
  tx : ByteArray
  l : List Ou
  txn : Int

def hoV (H : Ho) (p : Option Addr) (c : Nat) : Value := .agg #[.int .i64 H.id, .int .i64 H.ep, .bool H.up, .bool H.rd, .bool H.bz, .int .i64 H.k, .int .i64 H.v, .int .i64 H.t, .int .i64 H.a, .string H.s, .int .i64 H.pc, .int .i64 H.cd, .int .i64 H.bk, .string H.tx, .slice p H.l.length c, .int .i64 H.txn]
def plnV (cd bk : Int) (tx : ByteArray) (p : Option Addr) (n c : Nat) : Value := .agg #[.int .i64 cd, .int .i64 bk, .string tx, .slice p n c]

/-- All of it is of at most so much. -/
structure Ho.Upto (n : Nat) (H : Ho) : Prop where
  s : H.s.size ≤ n
  tx : H.tx.size ≤ n
  l : H.l.length ≤ n
  each : ∀ x ∈ H.l, x.text.size ≤ n

theorem Ho.Upto.mono {n m : Nat} {H : Ho} (h : H.Upto n) (hm : n ≤ m) : H.Upto m := ⟨Nat.le_trans h.s hm, Nat.le_trans h.tx hm, Nat.le_trans h.l hm, fun x hx => Nat.le_trans (h.each x hx) hm⟩
theorem Ho.Upto.max {H : Ho} (h : H.Upto 1048576) : H.Upto maxLen := h.mono (by unfold maxLen; decide)

set_option maxRecDepth 100000 in
set_option maxHeartbeats 1000000 in
theorem szPlan (w : World) (cd bk : Int) (tx : ByteArray) (p : Option Addr) (c : Nat) (l : List Ou) (left : Int) (S : Ous w p l) (ht : tx.size ≤ maxLen) (hl : l.length ≤ maxLen) (he : ∀ x ∈ l, x.text.size ≤ maxLen) (h0 : 0 ≤ left) (h1 : left ≤ 1048576) :
    Calls Tryz.prog 17 #[plnV cd bk tx p l.length c, .int .i64 left] w fun e w' => ∃ r, e = .returned (.int .i64 r) ∧ Below w.heap.size w w' ∧ (r < 0 ∨ (0 ≤ r ∧ r ≤ left ∧ (tx.size : Int) ≤ left ∧ (l.length : Int) ≤ left ∧ ∀ x ∈ l, (x.text.size : Int) ≤ left)) := by
  unfold plnV
  have HS := hid S
  have HE := hid he
  unfold maxLen at ht
  clear S he
  obtain ⟨wa, hwa, ez, A0, B0⟩ := one_new w [.int .i64 cd, .int .i64 bk, .string tx, .slice p l.length c] 26

  have k0 := A0.c 0 rfl
  have k1 := A0.c 1 rfl
  have k2 := A0.c 2 rfl
  have k3 := A0.c 3 rfl
  have HA := hid A0
  have HB := hid B0
  clear A0 B0 ez
  by_cases hb : left < (tx.size : Int)
  · go_enter Tryz.func17, Tryz.ntmps17
    go_wp2
    go_ret
    exact ⟨_, rfl, HB.out, Or.inl (by decide)⟩
  have hq0 : 0 ≤ left - (tx.size : Int) := by omega
  have hq1 : left - (tx.size : Int) ≤ 1048576 := by omega
  go_enter Tryz.func17, Tryz.ntmps17
  go_wp2_with fail
  try simp only [hwa]
  clear hwa
  refine (szOutS wa p c l (left - (tx.size : Int)) (HS.out.below HB.out) hl HE.out hq0 hq1).mono ?_
  rintro e w1 ⟨r, rfl, b1, hf⟩
  have HB1 := hid (HB.out.trans (b1.mono HB.out.size))
  have HF := hid hf
  clear b1 hf k0 k1 k2 k3
  by_cases hr : r < 0
  · go_wp2
    go_ret
    exact ⟨_, rfl, HB1.out, Or.inl (by decide)⟩
  · have HX : Hid (0 ≤ r ∧ r ≤ left ∧ (tx.size : Int) ≤ left ∧ (l.length : Int) ≤ left ∧ ∀ x ∈ l, (x.text.size : Int) ≤ left) := by
      rcases HF.out with h | ⟨h1, h2, h3, h4⟩
      · omega
      · exact ⟨by omega, by omega, by omega, by omega, fun x hx => by have := h4 x hx; omega⟩
    go_wp2
    go_ret
    exact ⟨_, rfl, HB1.out, Or.inr HX.out⟩

set_option maxRecDepth 100000 in
set_option maxHeartbeats 2000000 in
theorem szHost (w : World) (H : Ho) (p : Option Addr) (c : Nat) (left : Int) (S : Ous w p H.l) (hh : H.Upto maxLen) (h0 : 0 ≤ left) (h1 : left ≤ 1048576) :
    Calls Tryz.prog 4 #[hoV H p c, .int .i64 left] w fun e w' => ∃ r, e = .returned (.int .i64 r) ∧ Below w.heap.size w w' ∧ (r < 0 ∨ (0 ≤ r ∧ r ≤ left ∧ H.Upto 1048576)) := by

  obtain ⟨id, ep, up, rd, bz, k, v, t, a, s, pc, cd, bk, tx, l, txn⟩ := H
  have hS : s.size ≤ maxLen := hh.s
  have hT : tx.size ≤ maxLen := hh.tx
  have hL : l.length ≤ maxLen := hh.l
  have HE : Hid (∀ x ∈ l, x.text.size ≤ maxLen) := hh.each
  have HS : Hid (Ous w p l) := S
  clear S hh
  unfold hoV
  try simp only []
  obtain ⟨wa, hwa, ez, A0, B0⟩ := one_new w [.int .i64 id, .int .i64 ep, .bool up, .bool rd, .bool bz, .int .i64 k, .int .i64 v, .int .i64 t, .int .i64 a, .string s, .int .i64 pc, .int .i64 cd, .int .i64 bk, .string tx, .slice p l.length c, .int .i64 txn] 28
  have k5 := A0.c 5 rfl
  have k6 := A0.c 6 rfl
  have k7 := A0.c 7 rfl
  have k8 := A0.c 8 rfl
  have k9 := A0.c 9 rfl
  have HA := hid A0
  have HB := hid B0
  clear A0 B0 ez
  go_enter Tryz.func4, Tryz.ntmps4
  go_wp2_with fail
  try simp only [hwa]
  clear hwa k5 k6 k7 k8 k9
  refine (szOp wa k v t a s left hS h0 h1).mono ?_
  rintro e w1 ⟨r, rfl, b1, hf⟩
  have HA1 := hid (HA.out.below b1 HA.out.lt)
  have HB1 := hid (HB.out.trans (b1.mono HB.out.size))
  have HF := hid hf
  clear b1 hf HA HB
  by_cases hr : r < 0
  · go_wp2
    go_ret
    exact ⟨_, rfl, HB1.out, Or.inl (by decide)⟩
  have hf : 0 ≤ r ∧ r ≤ left ∧ (s.size : Int) ≤ left := by
    rcases HF.out with h | h
    · omega
    · exact h
  have hf1 := hf.1
  have hf2 : r ≤ 1048576 := by omega
  have HF2 := hid hf
  clear hf HF
  have k11 := HA1.out.c 11 rfl
  have k12 := HA1.out.c 12 rfl
  have k13 := HA1.out.c 13 rfl
  have k14 := HA1.out.c 14 rfl
  go_wp2_with fail
  refine (szPlan w1 cd bk tx p c l r (HS.out.below HB1.out) hT hL HE.out hf1 hf2).mono ?_
  rintro e w2 ⟨r2, rfl, b2, hf⟩
  have HB2 := hid (HB1.out.trans (b2.mono HB1.out.size))
  have HF := hid hf
  clear b2 hf k11 k12 k13 k14
  by_cases hr2 : r2 < 0
  · go_wp2
    go_ret
    exact ⟨_, rfl, HB2.out, Or.inl (by decide)⟩
  · have HX : Hid (0 ≤ r2 ∧ r2 ≤ left ∧ Ho.Upto 1048576 ⟨id, ep, up, rd, bz, k, v, t, a, s, pc, cd, bk, tx, l, txn⟩) := by
      have := HF2.out
      rcases HF.out with h | ⟨h1, h2, h3, h4, h5⟩
      · omega
      · exact ⟨by omega, by omega, by show s.size ≤ 1048576; omega, by show tx.size ≤ 1048576; omega, by show l.length ≤ 1048576; omega, fun x hx => by have := h5 x hx; omega⟩
    go_wp2
    go_ret
    exact ⟨_, rfl, HB2.out, Or.inr HX.out⟩

set_option maxRecDepth 100000 in
set_option maxHeartbeats 2000000 in
theorem toPlan (w : World) (cd bk : Int) (tx : ByteArray) (p : Option Addr) (c : Nat) (l : List Ou) (S : Ous w p l) (hl : l.length ≤ 1048576) :
    Calls Tryz.prog 27 #[plnV cd bk tx p l.length c] w fun r w' => ∃ g, r = .returned (plnV cd bk tx (some ⟨g, 0, none⟩) l.length l.length) ∧ w.heap.size ≤ g ∧ g < w'.heap.size ∧ OusW w' w.heap.size (some ⟨g, 0, none⟩) l ∧ Below w.heap.size w w' := by
  unfold plnV
  have HS := hid S
  clear S
  go_enter Tryz.func27, Tryz.ntmps27
  go_wp2_with fail
  obtain ⟨wc, hwc, e2, A0, R0, O0, B0⟩ := three_news w [.int .i64 cd, .int .i64 bk, .string tx, .slice p l.length c] [.int .i64 0, .int .i64 0, .string ⟨#[]⟩, .slice none 0 0] [.int .i64 cd, .int .i64 bk, .string tx, .slice none 0 0] 26 39
  simp only [hwc]
  clear hwc
  refine (toOutS wc p c l (HS.out.below B0) hl).mono ?_
  rintro r w2 ⟨g, rfl, hg, hl2, S2, b2⟩
  replace R0 := R0.below b2 R0.lt
  replace O0 := O0.below b2 O0.lt
  replace B0 := B0.trans (b2.mono (by omega))
  have d0 := O0.c 0 rfl
  have d1 := O0.c 1 rfl
  have d2 := O0.c 2 rfl
  have d3 := O0.c 3 rfl
  have fd := O0.f 3
  have r0 := R0.c 0 rfl
  have r1 := R0.c 1 rfl
  have r2 := R0.c 2 rfl
  have r3 := R0.c 3 rfl
  have f0 := R0.f 0
  have f1 := R0.f 1
  have f2 := R0.f 2
  have f3 := R0.f 3
  have HS2 := hid S2
  have HB := hid B0
  have HR := hid (puts_row (R0.other (p := ⟨w.heap.size + 1 + 1, 3, none⟩) (by show w.heap.size + 1 ≠ w.heap.size + 1 + 1; omega) (.slice (some ⟨g, 0, none⟩) l.length l.length)) 0 [.int .i64 cd, .int .i64 bk, .string tx, .slice (some ⟨g, 0, none⟩) l.length l.length])
  clear R0 O0 b2 S2 B0 A0
  go_wp2
  refine bodyPost_ret (results_row rfl _ _ (w.heap.size + 1) [.int .i64 cd, .int .i64 bk, .string tx, .slice (some ⟨g, 0, none⟩) l.length l.length] _ rfl HR.out Tryz.underlying39 rfl (by kernel_rfl)) rfl ?_
  refine ⟨g, rfl, by omega, by simpa using hl2, ?_, ?_⟩
  · exact (HS2.out.move (((kept_set _ _ _ _).trans (puts_kept _ (w.heap.size + 1) 0 [.int .i64 cd, .int .i64 bk, .string tx, .slice (some ⟨g, 0, none⟩) l.length l.length])).mono (T := fun b => b < wc.heap.size) (fun b _ hb => by rcases hb with h | h <;> omega)) (fun b hb => by have := HS2.out.foot_ge hb; omega)).mono (by omega)
  · exact puts_below (below_set HB.out (w.heap.size + 1 + 1) 3 _ (by omega)) (by omega) 0 [.int .i64 cd, .int .i64 bk, .string tx, .slice (some ⟨g, 0, none⟩) l.length l.length]

set_option maxRecDepth 100000 in
set_option maxHeartbeats 1000000 in
theorem eqOp (w : World) (k v t a : Int) (s : ByteArray) : Calls Tryz.prog 37 #[opV k v t a s, opV k v t a s] w fun e w' => e = .returned (.bool true) ∧ Below w.heap.size w w' := by
  unfold opV
  go_enter Tryz.func37, Tryz.ntmps37
  go_wp2
  go_ret
  exact ⟨rfl, by go_grown⟩

set_option maxRecDepth 100000 in
set_option maxHeartbeats 1000000 in
theorem eqPlan (w : World) (cd bk : Int) (tx : ByteArray) (p q : Option Addr) (cp cq : Nat) (l : List Ou) (S : Ous w p l) (T : Ous w q l) (hl : l.length ≤ maxLen) :
    Calls Tryz.prog 38 #[plnV cd bk tx p l.length cp, plnV cd bk tx q l.length cq] w fun e w' => e = .returned (.bool true) ∧ Below w.heap.size w w' := by
  unfold plnV
  have HS := hid S
  have HT := hid T
  have HL := hid hl
  clear S T hl
  obtain ⟨wa, hwa, ez, A0, C0, B0⟩ := two_new w [.int .i64 cd, .int .i64 bk, .string tx, .slice p l.length cp] [.int .i64 cd, .int .i64 bk, .string tx, .slice q l.length cq] 39 39
  have k0 := A0.c 0 rfl
  have k1 := A0.c 1 rfl
  have k2 := A0.c 2 rfl
  have k3 := A0.c 3 rfl
  have j0 := C0.c 0 rfl
  have j1 := C0.c 1 rfl
  have j2 := C0.c 2 rfl
  have j3 := C0.c 3 rfl
  have HB := hid B0
  clear A0 B0 C0 ez
  go_enter Tryz.func38, Tryz.ntmps38
  go_wp2_with fail
  try simp only [hwa]
  clear hwa
  refine (eqOutS wa p q cp cq l (HS.out.below HB.out) (HT.out.below HB.out) HL.out).mono ?_
  rintro r w2 ⟨rfl, b2⟩
  have HB2 := hid (HB.out.trans (b2.mono HB.out.size))
  clear b2 k0 k1 k2 k3 j0 j1 j2 j3
  go_wp2
  go_ret
  exact ⟨rfl, HB2.out⟩

set_option maxRecDepth 100000 in
set_option maxHeartbeats 2000000 in
theorem eqHost (w : World) (H : Ho) (p q : Option Addr) (cp cq : Nat) (S : Ous w p H.l) (T : Ous w q H.l) (hl : H.l.length ≤ maxLen) :
    Calls Tryz.prog 10 #[hoV H p cp, hoV H q cq] w fun e w' => e = .returned (.bool true) ∧ Below w.heap.size w w' := by

  obtain ⟨id, ep, up, rd, bz, k, v, t, a, s, pc, cd, bk, tx, l, txn⟩ := H
  have HS : Hid (Ous w p l) := S
  have HT : Hid (Ous w q l) := T
  have HL : Hid (l.length ≤ maxLen) := hl
  clear S T hl
  unfold hoV
  try simp only []
  obtain ⟨wa, hwa, ez, A0, C0, B0⟩ := two_new w [.int .i64 id, .int .i64 ep, .bool up, .bool rd, .bool bz, .int .i64 k, .int .i64 v, .int .i64 t, .int .i64 a, .string s, .int .i64 pc, .int .i64 cd, .int .i64 bk, .string tx, .slice p l.length cp, .int .i64 txn] [.int .i64 id, .int .i64 ep, .bool up, .bool rd, .bool bz, .int .i64 k, .int .i64 v, .int .i64 t, .int .i64 a, .string s, .int .i64 pc, .int .i64 cd, .int .i64 bk, .string tx, .slice q l.length cq, .int .i64 txn] 41 41
  have k0 := A0.c 0 rfl
  have k1 := A0.c 1 rfl
  have k2 := A0.c 2 rfl
  have k3 := A0.c 3 rfl
  have k4 := A0.c 4 rfl
  have k5 := A0.c 5 rfl
  have k6 := A0.c 6 rfl
  have k7 := A0.c 7 rfl
  have k8 := A0.c 8 rfl
  have k9 := A0.c 9 rfl
  have j0 := C0.c 0 rfl
  have j1 := C0.c 1 rfl
  have j2 := C0.c 2 rfl
  have j3 := C0.c 3 rfl
  have j4 := C0.c 4 rfl
  have j5 := C0.c 5 rfl
  have j6 := C0.c 6 rfl
  have j7 := C0.c 7 rfl
  have j8 := C0.c 8 rfl
  have j9 := C0.c 9 rfl
  have HA := hid A0
  have HC := hid C0
  have HB := hid B0
  clear A0 B0 C0 ez
  go_enter Tryz.func10, Tryz.ntmps10
  go_wp2_with fail
  try simp only [hwa]
  clear hwa
  refine (eqOp wa k v t a s).mono ?_
  rintro r w1 ⟨rfl, b1⟩
  have HA1 := hid (HA.out.below b1 HA.out.lt)
  have HC1 := hid (HC.out.below b1 HC.out.lt)
  have HB1 := hid (HB.out.trans (b1.mono HB.out.size))
  clear b1 HA HC HB k0 j0 k1 j1 k2 j2 k3 j3 k4 j4 k5 j5 k6 j6 k7 j7 k8 j8 k9 j9
  have k10 := HA1.out.c 10 rfl
  have k11 := HA1.out.c 11 rfl
  have k12 := HA1.out.c 12 rfl
  have k13 := HA1.out.c 13 rfl
  have k14 := HA1.out.c 14 rfl
  have j10 := HC1.out.c 10 rfl
  have j11 := HC1.out.c 11 rfl
  have j12 := HC1.out.c 12 rfl
  have j13 := HC1.out.c 13 rfl
  have j14 := HC1.out.c 14 rfl
  go_wp2_with fail
  refine (eqPlan w1 cd bk tx p q cp cq l (HS.out.below HB1.out) (HT.out.below HB1.out) HL.out).mono ?_
  rintro r w2 ⟨rfl, b2⟩
  have HB2 := hid (HB1.out.trans (b2.mono HB1.out.size))
  have k15 := (HA1.out.below b2 HA1.out.lt).c 15 rfl
  have j15 := (HC1.out.below b2 HC1.out.lt).c 15 rfl
  clear b2 HA1 HC1 k10 j10 k11 j11 k12 j12 k13 j13 k14 j14
  go_wp2
  go_ret
  exact ⟨rfl, HB2.out⟩

end Go.Proofs.YtlhnkdogafnnpaaGreat.Pl

namespace Go.Proofs.YtlhnkdogafnnpaaGreat.Pl
open Go.RowKit Go.Proofs.YtlhnkdogafnnpaaGreat.Mem Go.Proofs.YtlhnkdogafnnpaaGreat.Sec
set_option linter.unusedVariables false

def Ho.opz (H : Ho) : Bool := decide (H.k = 0 ∧ H.v = 0 ∧ H.t = 0 ∧ H.a = 0 ∧ H.s = ⟨#[]⟩)
def zeroPlan (cd bk : Int) (tx : ByteArray) (l : List Ou) : Bool := decide (cd = 0) && (decide (bk = 0) && (decide (tx = ⟨#[]⟩) && decide ((l.length : Int) = 0)))
def keptPlan (cd bk : Int) (tx : ByteArray) (l : List Ou) : Bool := decide (cd = 0) && (decide (-1 ≤ bk ∧ bk ≤ 17) && (decide ((tx.size : Int) ≤ 16) && (decide (l.length ≤ 8) && outsOk l)))
def Ho.zp (H : Ho) : Bool := zeroPlan H.cd H.bk H.tx H.l
def Ho.kept (H : Ho) : Bool := keptPlan H.cd H.bk H.tx H.l
def Ho.idle (H : Ho) : Bool := H.opz && (decide (H.pc = 0) && H.zp)
def Ho.down (H : Ho) : Bool := decide (H.ep = 0) && (!H.rd && (!H.bz && (decide (H.txn = 0) && H.idle)))
def Ho.busy (H : Ho) : Bool := opRight H.k H.v H.t H.a H.s && (decide (0 ≤ H.pc ∧ H.pc ≤ 20) && (!(decide (1 ≤ H.pc ∧ H.pc ≤ 3) && decide (1000000 ≤ H.txn)) && (if H.pc = 0 then H.zp else H.kept)))
/-- Is a host right. -/
def Ho.ok (H : Ho) : Bool := decide (0 ≤ H.id ∧ H.id < 3) && (if H.up = true then decide (1 ≤ H.ep ∧ H.ep ≤ 100000) && (decide (0 ≤ H.txn ∧ H.txn ≤ 1000000) && (if H.bz = true then H.busy else H.idle)) else H.down)

theorem zero_kept {cd bk : Int} {tx : ByteArray} {l : List Ou} (h : zeroPlan cd bk tx l = true) : keptPlan cd bk tx l = true := by
  unfold zeroPlan at h
  simp only [Bool.and_eq_true, decide_eq_true_eq] at h
  obtain ⟨h1, h2, h3, h4⟩ := h
  have h5 : l = [] := List.eq_nil_of_length_eq_zero (by omega)
  subst h1; subst h2; subst h3; subst h5
  decide

theorem text_no {t : ByteArray} (h : ¬ t = ⟨#[]⟩) : (t.toList == []) = false ∧ ¬ t.toList = [] := by
  have h1 : ¬ t.toList = [] := fun e => h (by
    rw [ByteArray.toList_eq] at e
    exact ByteArray.ext (Array.toList_inj.1 (show t.data.toList = (#[] : Array UInt8).toList from e)))
  exact ⟨by simpa using h1, h1⟩

set_option maxHeartbeats 400000 in
theorem l1In (x lo hi : Int) (w : World) :
    Calls Tryz.prog 54 #[.int .i64 x, .int .i64 lo, .int .i64 hi] w fun e w' => e = .returned (.bool (decide (lo ≤ x ∧ x ≤ hi))) ∧ w' = w := by
  by_cases h1 : lo ≤ x
  · by_cases h2 : x ≤ hi
    · rw [decide_eq_true (And.intro h1 h2)]
      go_enter Tryz.func54, Tryz.ntmps54
      go_wp2
      go_ret
      exact ⟨rfl, rfl⟩
    · rw [decide_eq_false (fun h => h2 h.2)]
      go_enter Tryz.func54, Tryz.ntmps54
      go_wp2
      go_ret
      exact ⟨rfl, rfl⟩
  · rw [decide_eq_false (fun h => h1 h.1)]
    go_enter Tryz.func54, Tryz.ntmps54
    go_wp2
    go_ret
    exact ⟨rfl, rfl⟩

set_option maxRecDepth 100000 in
set_option maxHeartbeats 4000000 in
theorem sOuts (w : World) (a : Option Addr) (cap : Nat) (l : List Ou) (S : Ous w a l) (hl : l.length ≤ 1048576) (hs : ∀ x ∈ l, x.text.size ≤ 1048576) :
    Calls Tryz.prog 56 #[.slice a l.length cap] w fun e w' => e = .returned (.bool (decide (l.length ≤ 8) && outsOk l)) ∧ Below w.heap.size w w' := by
  have HS := hid S
  have Hs : Hid (∀ k, (l.getD k Ou.none).text.size ≤ 1048576) := fun k => by
    by_cases h : k < l.length
    · exact hs _ (by simp [List.getD, h])
    · simp [List.getD, h, Ou.none]
  clear S hs
  by_cases hg : 8 < (l.length : Int)
  · have hg' : decide (l.length ≤ 8) = false := decide_eq_false (by omega)
    rw [hg']
    clear hg'
    go_enter Tryz.func56, Tryz.ntmps56
    go_wp2
    go_ret
    exact ⟨rfl, Below.refl _ _⟩
  have hg' : decide (l.length ≤ 8) = true := decide_eq_true (by omega)
  rw [hg', Bool.true_and]
  clear hg'
  go_enter Tryz.func56, Tryz.ntmps56
  go_wp2
  go_loopw [3] (fun i wr => ∃ k : Nat, k ≤ l.length ∧ i = .int .i64 (k : Int) ∧ Hid (∀ i, i < k → outAt l i) ∧ Hid (Below w.heap.size w wr)) (fun i _ => l.length - (intOf i).toNat)
  case atStart => exact ⟨0, Nat.zero_le _, rfl, fun i hi => by omega, Below.refl _ _⟩
  case round =>
    obtain ⟨i, hi, rfl, HK, HB⟩ := hrel
    by_cases hlt : i < l.length
    · obtain ⟨b, off, rfl, e0, e1⟩ := Ous.at_ (HS.out.below HB.out) i hlt
      have hsz := Hs.out i
      have HN := hid (outsOk_no i hlt)
      have HST := hid (fun h => outs_step (k := i) HK.out h)
      have HAt : Hid (outAt l i ↔ ((0 ≤ (l.getD i Ou.none).sec ∧ (l.getD i Ou.none).sec ≤ 33) ∧ (0 < i → (l.getD (i - 1) Ou.none).sec < (l.getD i Ou.none).sec)) ∧ ((l.getD i Ou.none).text.size : Int) ≤ 60) := by
        unfold outAt
        exact ⟨fun x => ⟨⟨x.1, x.2.1⟩, x.2.2⟩, fun x => ⟨x.1.1, x.1.2, x.2⟩⟩
      generalize l.getD i Ou.none = x at e0 e1 hsz HAt
      obtain ⟨xs, xt⟩ := x
      simp only [] at e0 e1 hsz HAt
      have hne : Nonempty (BW wr) := ⟨⟨wr, Below.refl _ _⟩⟩
      replace e0 := BW.cell e0
      replace e1 := BW.cell e1
      by_cases d0 : 0 ≤ xs ∧ xs ≤ 33
      · have d0' := decide_eq_true d0
        cases i with
        | zero =>
          simp only [Nat.zero_mul, Nat.add_zero] at e0 e1
          by_cases h60 : 60 < (xt.size : Int)
          · have HR := hid (HN.out (fun x => by have := (HAt.out.1 x).2; omega))
            clear d0
            go_wp2
            refine wp_region_bw (by kernel_rfl) (by kernel_rfl) ?_
            repeat (go_big_quiet_step (first
              | (go_at_call 54; refine bw_same (v := .bool true) (d0' ▸ l1In xs 0 33 _))))
            refine wpQuiet_nil ?_
            intro _ hw'
            obtain ⟨u, rfl⟩ := hw'
            have HU := hid (HB.out.trans (u.bel.mono HB.out.size))
            clear e0 e1
            go_wp2
            go_ret
            exact ⟨by rw [HR.out]; rfl, HU.out⟩
          · have HR := hid (HST.out (HAt.out.2 ⟨⟨d0, fun h => by omega⟩, by omega⟩))
            clear d0
            go_wp2
            refine wp_region_bw (by kernel_rfl) (by kernel_rfl) ?_
            repeat (go_big_quiet_step (first
              | (go_at_call 54; refine bw_same (v := .bool true) (d0' ▸ l1In xs 0 33 _))))
            refine wpQuiet_nil ?_
            intro _ hw'
            obtain ⟨u, rfl⟩ := hw'
            have HU := hid (HB.out.trans (u.bel.mono HB.out.size))
            clear e0 e1
            go_wp2
            exact ⟨⟨1, by omega, by go_num, HR, HU⟩, by simp [intOf]; omega⟩
        | succ m =>
          obtain ⟨b', off', eb, p0, _⟩ := Ous.at_ (HS.out.below HB.out) m (by omega)
          cases eb
          rw [show m + 1 - 1 = m from rfl] at HAt
          generalize (l.getD m Ou.none).sec = ys at p0 HAt
          replace p0 := BW.cell p0
          have hm0 : (0 : Int) < ((m + 1 : Nat) : Int) := by omega
          have hm1 : ((m + 1 : Nat) : Int) - 1 = (m : Int) := by omega
          have hm2 : (m : Int) < (l.length : Int) := by omega
          by_cases d1 : xs ≤ ys
          · have HR := hid (HN.out (fun x => by have := (HAt.out.1 x).1.2 (by omega); omega))
            clear d0
            go_wp2
            refine wp_region_bw (by kernel_rfl) (by kernel_rfl) ?_
            repeat (go_big_quiet_step (first
              | (go_at_call 54; refine bw_same (v := .bool true) (d0' ▸ l1In xs 0 33 _))))
            refine wpQuiet_nil ?_
            intro _ hw'
            obtain ⟨u, rfl⟩ := hw'
            have HU := hid (HB.out.trans (u.bel.mono HB.out.size))
            clear e0 e1 p0
            go_wp2
            go_ret
            exact ⟨by rw [HR.out]; rfl, HU.out⟩
          have d1' : decide (xs ≤ ys) = false := decide_eq_false d1
          by_cases h60 : 60 < (xt.size : Int)
          · have HR := hid (HN.out (fun x => by have := (HAt.out.1 x).2; omega))
            clear d0
            go_wp2
            refine wp_region_bw (by kernel_rfl) (by kernel_rfl) ?_
            repeat (go_big_quiet_step (first
              | (go_at_call 54; refine bw_same (v := .bool true) (d0' ▸ l1In xs 0 33 _))))
            refine wpQuiet_nil ?_
            intro _ hw'
            obtain ⟨u, rfl⟩ := hw'
            have HU := hid (HB.out.trans (u.bel.mono HB.out.size))
            clear e0 e1 p0
            go_wp2
            go_ret
            exact ⟨by rw [HR.out]; rfl, HU.out⟩
          · have HR := hid (HST.out (HAt.out.2 ⟨⟨d0, fun h => by omega⟩, by omega⟩))
            clear d0
            go_wp2
            refine wp_region_bw (by kernel_rfl) (by kernel_rfl) ?_
            repeat (go_big_quiet_step (first
              | (go_at_call 54; refine bw_same (v := .bool true) (d0' ▸ l1In xs 0 33 _))))
            refine wpQuiet_nil ?_
            intro _ hw'
            obtain ⟨u, rfl⟩ := hw'
            have HU := hid (HB.out.trans (u.bel.mono HB.out.size))
            clear e0 e1 p0
            go_wp2
            exact ⟨⟨m + 1 + 1, by omega, by go_num, HR, HU⟩, by simp [intOf]; omega⟩
      · have d0' := decide_eq_false d0
        have HR := hid (HN.out (fun x => d0 (HAt.out.1 x).1.1))
        clear d0
        go_wp2
        refine wp_region_bw (by kernel_rfl) (by kernel_rfl) ?_
        repeat (go_big_quiet_step (first
          | (go_at_call 54; refine bw_same (v := .bool false) (d0' ▸ l1In xs 0 33 _))))
        refine wpQuiet_nil ?_
        intro _ hw'
        obtain ⟨u, rfl⟩ := hw'
        have HU := hid (HB.out.trans (u.bel.mono HB.out.size))
        clear e0 e1
        go_wp2
        go_ret
        exact ⟨by rw [HR.out]; rfl, HU.out⟩
    · obtain rfl : i = l.length := by omega
      have HR := hid ((outsOk_iff l).2 HK.out)
      go_wp2
      go_ret
      exact ⟨by rw [HR.out]; rfl, HB.out⟩

set_option maxRecDepth 100000 in
set_option maxHeartbeats 2000000 in
theorem sZeroPlan (w : World) (cd bk : Int) (tx : ByteArray) (p : Option Addr) (c : Nat) (l : List Ou) (hl : l.length ≤ 1048576) :
    Calls Tryz.prog 53 #[plnV cd bk tx p l.length c] w fun e w' => e = .returned (.bool (zeroPlan cd bk tx l)) ∧ Below w.heap.size w w' := by
  unfold plnV zeroPlan
  generalize l.length = n at *
  obtain ⟨wa, hwa, ez, A0, B0⟩ := one_new w [.int .i64 cd, .int .i64 bk, .string tx, .slice p n c] 39
  have k0 := A0.c 0 rfl
  have k1 := A0.c 1 rfl
  have k2 := A0.c 2 rfl
  have k3 := A0.c 3 rfl
  have HB := hid B0
  clear A0 B0 ez
  by_cases h0 : cd = 0
  · by_cases h1 : bk = 0
    · by_cases h2 : tx = ⟨#[]⟩
      · subst h0; subst h1; subst h2
        by_cases h3 : n = 0
        · subst h3
          go_enter Tryz.func53, Tryz.ntmps53
          go_wp2
          go_ret
          exact ⟨rfl, HB.out⟩
        · rw [decide_eq_false (show ¬ (n : Int) = 0 by omega)]
          have h3' : ((n : Int) == 0) = false := by simpa using h3
          have h3n : (n == 0) = false := by simpa using h3
          go_enter Tryz.func53, Tryz.ntmps53
          go_wp2
          go_ret
          exact ⟨rfl, HB.out⟩
      · rw [decide_eq_false h2]
        subst h0; subst h1
        have h2' := (text_no h2).1
        have h2n := (text_no h2).2
        go_enter Tryz.func53, Tryz.ntmps53
        go_wp2
        go_ret
        exact ⟨rfl, HB.out⟩
    · rw [decide_eq_false h1]
      subst h0
      have h1' := beq_no h1
      go_enter Tryz.func53, Tryz.ntmps53
      go_wp2
      go_ret
      exact ⟨rfl, HB.out⟩
  · rw [decide_eq_false h0]
    have h0' := beq_no h0
    go_enter Tryz.func53, Tryz.ntmps53
    go_wp2
    go_ret
    exact ⟨rfl, HB.out⟩

set_option maxRecDepth 100000 in
set_option maxHeartbeats 2000000 in
theorem iZeroPlan (w : World) (cd bk : Int) (tx : ByteArray) (p : Option Addr) (c : Nat) (l : List Ou) (hl : l.length ≤ 1048576) :
    Calls Tryz.prog 77 #[plnV cd bk tx p l.length c] w fun e w' => e = .returned (.bool (zeroPlan cd bk tx l)) ∧ Below w.heap.size w w' := by
  unfold plnV zeroPlan
  generalize l.length = n at *
  obtain ⟨wa, hwa, ez, A0, B0⟩ := one_new w [.int .i64 cd, .int .i64 bk, .string tx, .slice p n c] 39
  have k0 := A0.c 0 rfl
  have k1 := A0.c 1 rfl
  have k2 := A0.c 2 rfl
  have k3 := A0.c 3 rfl
  have HB := hid B0
  clear A0 B0 ez
  by_cases h0 : cd = 0
  · by_cases h1 : bk = 0
    · by_cases h2 : tx = ⟨#[]⟩
      · subst h0; subst h1; subst h2
        by_cases h3 : n = 0
        · subst h3
          go_enter Tryz.func77, Tryz.ntmps77
          go_wp2
          go_ret
          exact ⟨rfl, HB.out⟩
        · rw [decide_eq_false (show ¬ (n : Int) = 0 by omega)]
          have h3' : ((n : Int) == 0) = false := by simpa using h3
          have h3n : (n == 0) = false := by simpa using h3
          go_enter Tryz.func77, Tryz.ntmps77
          go_wp2
          go_ret
          exact ⟨rfl, HB.out⟩
      · rw [decide_eq_false h2]
        subst h0; subst h1
        have h2' := (text_no h2).1
        have h2n := (text_no h2).2
        go_enter Tryz.func77, Tryz.ntmps77
        go_wp2
        go_ret
        exact ⟨rfl, HB.out⟩
    · rw [decide_eq_false h1]
      subst h0
      have h1' := beq_no h1
      go_enter Tryz.func77, Tryz.ntmps77
      go_wp2
      go_ret
      exact ⟨rfl, HB.out⟩
  · rw [decide_eq_false h0]
    have h0' := beq_no h0
    go_enter Tryz.func77, Tryz.ntmps77
    go_wp2
    go_ret
    exact ⟨rfl, HB.out⟩

end Go.Proofs.YtlhnkdogafnnpaaGreat.Pl

namespace Go.Proofs.YtlhnkdogafnnpaaGreat.Pl
open Go.RowKit Go.Proofs.YtlhnkdogafnnpaaGreat.Mem Go.Proofs.YtlhnkdogafnnpaaGreat.Sec
set_option linter.unusedVariables false

/-- 'append' on an empty slice without room, at the list of a plain region's operations. -/
theorem wpList_app_empty {P : Program} (t e : TypeId) (z : Value) (k bytes : Nat) (ht : P.underlying t = some (.slice e)) (hinfo : (P.info? e).map (fun i => (i.zero, i.size, i.bytes)) = some (some z, k, bytes)) (hzs : z.cells.size = k) (hk : 0 < k) (hby : bytes ≤ 1048576)
    {ops : Array Oper} {rest : List Oper} {o : Oper} {a : Act} {w : World} {Q : Exit → Act → World → Prop} (hgd : o.guard = none) (s x : Operand)
    (ho : o.op = .call { callee := .builtin .append, args := #[s, x], argTypes := #[t, t] })
    (b : Option Addr) (hs : a.eval s = .slice b 0 0) (ad : Option Addr) (m c : Nat) (news : List Value) (hx : a.eval x = .slice ad m c) (hl : news.length = m * k) (hS : Sl w ad (m * k) (fun i => news.getD i undef)) (h1 : ∀ u ∈ news, u.oneCell' = true) (hm : m ≤ 1048576)
    (hK : ∀ v' w', RowO w' w.heap.size e k v' m news → Below w.heap.size w w' → wpList P ops Q rest (a.put o.dst v') w') :
    wpList P ops Q (o :: rest) a w := by
  refine wpList_plain hgd fun K hK' => ?_
  obtain ⟨v', w', hr, h2, h3, _, _⟩ := run_app_empty (P := P) w t o.type e z k bytes ht hinfo hzs hk b ad m c news hl hS h1 hm hby
  unfold Oper.wp execOp
  simp only [ho, resolve, invoke, builtin, Sem.run_bind, Sem.run_pure, Result.andThen_ok, List.map_toArray, List.map_cons, List.map_nil, hs, hx, hr]
  exact hK' _ _ (hK v' w' h2 h3)

def oCells (l : List Ou) : List Value := l.flatMap Ou.cells
theorem oCells_length (l : List Ou) : (oCells l).length = l.length * 2 := by
  induction l with
  | nil => rfl
  | cons x l ih =>
    show (x.cells ++ oCells l).length = _
    rw [List.length_append, ih]
    simp [Ou.cells]; omega
theorem oCells_at (l : List Ou) (i : Nat) (h : i < l.length * 2) : (oCells l).getD i undef = ocell l i := by
  induction l generalizing i with
  | nil => simp at h
  | cons x l ih =>
    show (x.cells ++ oCells l).getD i undef = _
    have hx : x.cells.length = 2 := rfl
    rw [List.getD_eq_getElem?_getD]
    by_cases h4 : i < 2
    · rw [List.getElem?_append_left (by omega)]
      unfold ocell
      rw [show i / 2 = 0 by omega, show i % 2 = i by omega]
      rw [List.getD_eq_getElem?_getD]
      rfl
    · rw [List.getElem?_append_right (by omega), hx, ← List.getD_eq_getElem?_getD, ih (i - 2) (by simp at h; omega)]
      unfold ocell
      rw [show (i - 2) % 2 = i % 2 by omega]
      obtain ⟨q, hq⟩ : ∃ q, i / 2 = q + 1 := ⟨i / 2 - 1, by omega⟩
      rw [hq, show (i - 2) / 2 = q by omega]
      rfl
theorem oCells_one (l : List Ou) : ∀ u ∈ oCells l, u.oneCell' = true := fun u hu => by
  obtain ⟨x, _, hx⟩ := List.mem_flatMap.1 hu
  unfold Ou.cells at hx
  simp only [List.mem_cons, List.not_mem_nil, or_false] at hx
  rcases hx with rfl | rfl <;> rfl
theorem ous_sl {w : World} {a : Option Addr} {l : List Ou} (h : Ous w a l) : Sl w a (l.length * 2) (fun i => (oCells l).getD i undef) :=
  Sl.congr h (fun i hi => (oCells_at l i hi).symm)

set_option maxRecDepth 100000 in
set_option maxHeartbeats 4000000 in
theorem sCopyHost (w : World) (H : Ho) (p : Option Addr) (c : Nat) (S : Ous w p H.l) (hl : H.l.length ≤ 1048576) :
    Calls Tryz.prog 24 #[hoV H p c] w fun r w' => ∃ p' c', r = .returned (hoV H p' c') ∧ OusW w' w.heap.size p' H.l ∧ Below w.heap.size w w' := by
  obtain ⟨id, ep, up, rd, bz, k, v, t, a, s, pc, cd, bk, tx, l, txn⟩ := H
  have HS : Hid (Ous w p l) := S
  have hl' : l.length ≤ 1048576 := hl
  have HL := hid hl'
  clear S hl hl'
  unfold hoV
  try simp only []
  go_enter Tryz.func24, Tryz.ntmps24
  go_upto_region 1 with fail
  obtain ⟨wc, hwc, e2, A0, R0, B0⟩ := two_new w [.int .i64 id, .int .i64 ep, .bool up, .bool rd, .bool bz, .int .i64 k, .int .i64 v, .int .i64 t, .int .i64 a, .string s, .int .i64 pc, .int .i64 cd, .int .i64 bk, .string tx, .slice p l.length c, .int .i64 txn] [.int .i64 0, .int .i64 0, .bool false, .bool false, .bool false, .int .i64 0, .int .i64 0, .int .i64 0, .int .i64 0, .string ⟨#[]⟩, .int .i64 0, .int .i64 0, .int .i64 0, .string ⟨#[]⟩, .slice none 0 0, .int .i64 0] 41 41
  simp only [hwc]
  clear hwc
  have k14 := A0.c 14 rfl
  have HN := hid (Sl.below (ous_sl HS.out) B0)
  have HA := hid A0
  have HR := hid R0
  have HB := hid B0
  have hn1 : w.heap.size < wc.heap.size := by omega
  have hn2 : w.heap.size + 1 < wc.heap.size := by omega
  clear A0 R0 B0 e2
  go_upto_region 2 with (at_builtin; refine wpList_app_empty 37 105 (.agg #[.int .i64 0, .string ByteArray.empty]) 2 24 Tryz.underlying37 infoO rfl (by decide) (by decide) rfl (.tmp 3) (.tmp 6) rfl (some ⟨wc.heap.size, 0, none⟩) rfl p l.length c (oCells l) rfl (oCells_length l) (Sl.below HN.out ((Below.refl _ wc).alloc (Nat.le_refl _) _)) (oCells_one l) HL.out ?_; intro v1 w1 r1 b1; obtain ⟨p1, c1, rfl, W1⟩ := r1.wr; have HA1 := hid (HA.out.below (((Below.refl _ wc).alloc (Nat.le_refl _) _).trans (b1.mono (Nat.le_of_lt (lt_alloc wc _)))) HA.out.lt); have HR1 := hid (HR.out.below (((Below.refl _ wc).alloc (Nat.le_refl _) _).trans (b1.mono (Nat.le_of_lt (lt_alloc wc _)))) HR.out.lt); have HB1 := hid (HB.out.trans (Below.mono (((Below.refl _ wc).alloc (Nat.le_refl _) _).trans (b1.mono (Nat.le_of_lt (lt_alloc wc _)))) HB.out.size)); have HW1 := hid (W1.congr (g := ocell l) (fun i hi => oCells_at l i hi)); have hw1 : wc.heap.size ≤ w1.heap.size := Below.size (((Below.refl _ wc).alloc (Nat.le_refl _) _).trans (b1.mono (Nat.le_of_lt (lt_alloc wc _)))); have k14' := HA1.out.c 14 rfl; have f14' := HA1.out.f 14; clear r1 W1 b1)
  obtain ⟨w2, hw2, A2, R2, B2, K2⟩ : ∃ w2, w1.setCell ⟨w.heap.size, 14, none⟩ (.slice p1 l.length c1) = w2 ∧ Row w2 w.heap.size [.int .i64 id, .int .i64 ep, .bool up, .bool rd, .bool bz, .int .i64 k, .int .i64 v, .int .i64 t, .int .i64 a, .string s, .int .i64 pc, .int .i64 cd, .int .i64 bk, .string tx, .slice p1 l.length c1, .int .i64 txn] ∧ Row w2 (w.heap.size + 1) [.int .i64 0, .int .i64 0, .bool false, .bool false, .bool false, .int .i64 0, .int .i64 0, .int .i64 0, .int .i64 0, .string ⟨#[]⟩, .int .i64 0, .int .i64 0, .int .i64 0, .string ⟨#[]⟩, .slice none 0 0, .int .i64 0] ∧ Below w.heap.size w w2 ∧ Kept (fun b => b = w.heap.size) w1 w2 :=
    ⟨_, rfl, HA1.out.set 14 _, HR1.out.other (p := ⟨w.heap.size, 14, none⟩) (by show w.heap.size + 1 ≠ w.heap.size; omega) _, below_set HB1.out _ _ _ (Nat.le_refl _), kept_set w1 _ _ _⟩
  try simp only [hw2]
  clear hw2 k14 k14' f14' HA HR HA1 HR1 HB1
  refine wp_region_list ?_
  refine wpList_load_row rfl 41 _ rfl w.heap.size rfl [.int .i64 id, .int .i64 ep, .bool up, .bool rd, .bool bz, .int .i64 k, .int .i64 v, .int .i64 t, .int .i64 a, .string s, .int .i64 pc, .int .i64 cd, .int .i64 bk, .string tx, .slice p1 l.length c1, .int .i64 txn] _ A2 Tryz.underlying41 rfl (by kernel_rfl) ?_
  refine wpList_store_row rfl 41 _ _ rfl (w.heap.size + 1) rfl _ [.int .i64 id, .int .i64 ep, .bool up, .bool rd, .bool bz, .int .i64 k, .int .i64 v, .int .i64 t, .int .i64 a, .string s, .int .i64 pc, .int .i64 cd, .int .i64 bk, .string tx, .slice p1 l.length c1, .int .i64 txn] rfl R2 rfl (by kernel_rfl) rfl ?_
  have HR := hid (puts_row R2 0 [.int .i64 id, .int .i64 ep, .bool up, .bool rd, .bool bz, .int .i64 k, .int .i64 v, .int .i64 t, .int .i64 a, .string s, .int .i64 pc, .int .i64 cd, .int .i64 bk, .string tx, .slice p1 l.length c1, .int .i64 txn])
  have HB := hid (puts_below B2 (show w.heap.size ≤ w.heap.size + 1 by omega) 0 [.int .i64 id, .int .i64 ep, .bool up, .bool rd, .bool bz, .int .i64 k, .int .i64 v, .int .i64 t, .int .i64 a, .string s, .int .i64 pc, .int .i64 cd, .int .i64 bk, .string tx, .slice p1 l.length c1, .int .i64 txn])
  have HK := hid ((K2.trans (puts_kept w2 (w.heap.size + 1) 0 [.int .i64 id, .int .i64 ep, .bool up, .bool rd, .bool bz, .int .i64 k, .int .i64 v, .int .i64 t, .int .i64 a, .string s, .int .i64 pc, .int .i64 cd, .int .i64 bk, .string tx, .slice p1 l.length c1, .int .i64 txn])).mono (T := fun b => b < wc.heap.size) (fun b _ hb => by rcases hb with h | h <;> omega))
  generalize puts w2 (w.heap.size + 1) 0 [.int .i64 id, .int .i64 ep, .bool up, .bool rd, .bool bz, .int .i64 k, .int .i64 v, .int .i64 t, .int .i64 a, .string s, .int .i64 pc, .int .i64 cd, .int .i64 bk, .string tx, .slice p1 l.length c1, .int .i64 txn] = w5 at *
  clear R2 A2 B2 K2
  refine wpList_nil ?_
  go_wp2
  refine bodyPost_ret (results_row rfl _ _ (w.heap.size + 1) [.int .i64 id, .int .i64 ep, .bool up, .bool rd, .bool bz, .int .i64 k, .int .i64 v, .int .i64 t, .int .i64 a, .string s, .int .i64 pc, .int .i64 cd, .int .i64 bk, .string tx, .slice p1 l.length c1, .int .i64 txn] _ rfl HR.out Tryz.underlying41 rfl (by kernel_rfl)) rfl ?_
  exact ⟨p1, c1, rfl, (Wr.move HW1.out HK.out (fun b hb => by have := Wr.foot_ge HW1.out hb; simp at *; omega)).mono (by simp at *; omega), HB.out⟩

set_option maxRecDepth 100000 in
set_option maxHeartbeats 4000000 in
theorem iCopyHost (w : World) (H : Ho) (p : Option Addr) (c : Nat) (S : Ous w p H.l) (hl : H.l.length ≤ 1048576) :
    Calls Tryz.prog 34 #[hoV H p c] w fun r w' => ∃ p' c', r = .returned (hoV H p' c') ∧ OusW w' w.heap.size p' H.l ∧ Below w.heap.size w w' := by
  obtain ⟨id, ep, up, rd, bz, k, v, t, a, s, pc, cd, bk, tx, l, txn⟩ := H
  have HS : Hid (Ous w p l) := S
  have hl' : l.length ≤ 1048576 := hl
  have HL := hid hl'
  clear S hl hl'
  unfold hoV
  try simp only []
  go_enter Tryz.func34, Tryz.ntmps34
  go_upto_region 1 with fail
  obtain ⟨wc, hwc, e2, A0, R0, B0⟩ := two_new w [.int .i64 id, .int .i64 ep, .bool up, .bool rd, .bool bz, .int .i64 k, .int .i64 v, .int .i64 t, .int .i64 a, .string s, .int .i64 pc, .int .i64 cd, .int .i64 bk, .string tx, .slice p l.length c, .int .i64 txn] [.int .i64 0, .int .i64 0, .bool false, .bool false, .bool false, .int .i64 0, .int .i64 0, .int .i64 0, .int .i64 0, .string ⟨#[]⟩, .int .i64 0, .int .i64 0, .int .i64 0, .string ⟨#[]⟩, .slice none 0 0, .int .i64 0] 41 41
  simp only [hwc]
  clear hwc
  have k14 := A0.c 14 rfl
  have HN := hid (Sl.below (ous_sl HS.out) B0)
  have HA := hid A0
  have HR := hid R0
  have HB := hid B0
  have hn1 : w.heap.size < wc.heap.size := by omega
  have hn2 : w.heap.size + 1 < wc.heap.size := by omega
  clear A0 R0 B0 e2
  go_upto_region 2 with (at_builtin; refine wpList_app_empty 37 105 (.agg #[.int .i64 0, .string ByteArray.empty]) 2 24 Tryz.underlying37 infoO rfl (by decide) (by decide) rfl (.const (.slice none 0 0)) (.tmp 5) rfl none rfl p l.length c (oCells l) rfl (oCells_length l) HN.out (oCells_one l) HL.out ?_; intro v1 w1 r1 b1; obtain ⟨p1, c1, rfl, W1⟩ := r1.wr; have HA1 := hid (HA.out.below b1 HA.out.lt); have HR1 := hid (HR.out.below b1 HR.out.lt); have HB1 := hid (HB.out.trans (Below.mono b1 HB.out.size)); have HW1 := hid (W1.congr (g := ocell l) (fun i hi => oCells_at l i hi)); have hw1 : wc.heap.size ≤ w1.heap.size := Below.size b1; have k14' := HA1.out.c 14 rfl; have f14' := HA1.out.f 14; clear r1 W1 b1)
  obtain ⟨w2, hw2, A2, R2, B2, K2⟩ : ∃ w2, w1.setCell ⟨w.heap.size, 14, none⟩ (.slice p1 l.length c1) = w2 ∧ Row w2 w.heap.size [.int .i64 id, .int .i64 ep, .bool up, .bool rd, .bool bz, .int .i64 k, .int .i64 v, .int .i64 t, .int .i64 a, .string s, .int .i64 pc, .int .i64 cd, .int .i64 bk, .string tx, .slice p1 l.length c1, .int .i64 txn] ∧ Row w2 (w.heap.size + 1) [.int .i64 0, .int .i64 0, .bool false, .bool false, .bool false, .int .i64 0, .int .i64 0, .int .i64 0, .int .i64 0, .string ⟨#[]⟩, .int .i64 0, .int .i64 0, .int .i64 0, .string ⟨#[]⟩, .slice none 0 0, .int .i64 0] ∧ Below w.heap.size w w2 ∧ Kept (fun b => b = w.heap.size) w1 w2 :=
    ⟨_, rfl, HA1.out.set 14 _, HR1.out.other (p := ⟨w.heap.size, 14, none⟩) (by show w.heap.size + 1 ≠ w.heap.size; omega) _, below_set HB1.out _ _ _ (Nat.le_refl _), kept_set w1 _ _ _⟩
  try simp only [hw2]
  clear hw2 k14 k14' f14' HA HR HA1 HR1 HB1
  refine wp_region_list ?_
  refine wpList_load_row rfl 41 _ rfl w.heap.size rfl [.int .i64 id, .int .i64 ep, .bool up, .bool rd, .bool bz, .int .i64 k, .int .i64 v, .int .i64 t, .int .i64 a, .string s, .int .i64 pc, .int .i64 cd, .int .i64 bk, .string tx, .slice p1 l.length c1, .int .i64 txn] _ A2 Tryz.underlying41 rfl (by kernel_rfl) ?_
  refine wpList_store_row rfl 41 _ _ rfl (w.heap.size + 1) rfl _ [.int .i64 id, .int .i64 ep, .bool up, .bool rd, .bool bz, .int .i64 k, .int .i64 v, .int .i64 t, .int .i64 a, .string s, .int .i64 pc, .int .i64 cd, .int .i64 bk, .string tx, .slice p1 l.length c1, .int .i64 txn] rfl R2 rfl (by kernel_rfl) rfl ?_
  have HR := hid (puts_row R2 0 [.int .i64 id, .int .i64 ep, .bool up, .bool rd, .bool bz, .int .i64 k, .int .i64 v, .int .i64 t, .int .i64 a, .string s, .int .i64 pc, .int .i64 cd, .int .i64 bk, .string tx, .slice p1 l.length c1, .int .i64 txn])
  have HB := hid (puts_below B2 (show w.heap.size ≤ w.heap.size + 1 by omega) 0 [.int .i64 id, .int .i64 ep, .bool up, .bool rd, .bool bz, .int .i64 k, .int .i64 v, .int .i64 t, .int .i64 a, .string s, .int .i64 pc, .int .i64 cd, .int .i64 bk, .string tx, .slice p1 l.length c1, .int .i64 txn])
  have HK := hid ((K2.trans (puts_kept w2 (w.heap.size + 1) 0 [.int .i64 id, .int .i64 ep, .bool up, .bool rd, .bool bz, .int .i64 k, .int .i64 v, .int .i64 t, .int .i64 a, .string s, .int .i64 pc, .int .i64 cd, .int .i64 bk, .string tx, .slice p1 l.length c1, .int .i64 txn])).mono (T := fun b => b < wc.heap.size) (fun b _ hb => by rcases hb with h | h <;> omega))
  generalize puts w2 (w.heap.size + 1) 0 [.int .i64 id, .int .i64 ep, .bool up, .bool rd, .bool bz, .int .i64 k, .int .i64 v, .int .i64 t, .int .i64 a, .string s, .int .i64 pc, .int .i64 cd, .int .i64 bk, .string tx, .slice p1 l.length c1, .int .i64 txn] = w5 at *
  clear R2 A2 B2 K2
  refine wpList_nil ?_
  go_wp2
  refine bodyPost_ret (results_row rfl _ _ (w.heap.size + 1) [.int .i64 id, .int .i64 ep, .bool up, .bool rd, .bool bz, .int .i64 k, .int .i64 v, .int .i64 t, .int .i64 a, .string s, .int .i64 pc, .int .i64 cd, .int .i64 bk, .string tx, .slice p1 l.length c1, .int .i64 txn] _ rfl HR.out Tryz.underlying41 rfl (by kernel_rfl)) rfl ?_
  exact ⟨p1, c1, rfl, (Wr.move HW1.out HK.out (fun b hb => by have := Wr.foot_ge HW1.out hb; omega)).mono (by omega), HB.out⟩

end Go.Proofs.YtlhnkdogafnnpaaGreat.Pl

namespace Go.Proofs.YtlhnkdogafnnpaaGreat.Pl
open Go.RowKit Go.Proofs.YtlhnkdogafnnpaaGreat.Mem Go.Proofs.YtlhnkdogafnnpaaGreat.Sec
set_option linter.unusedVariables false

def Ho.zero : Ho := ⟨0, 0, false, false, false, 0, 0, 0, 0, ⟨#[]⟩, 0, 0, 0, ⟨#[]⟩, [], 0⟩
def Ho.may (H : Ho) (K V T A : Int) (X : ByteArray) : Bool := H.up && (!H.bz && (opRight K V T A X && !(decide (K = 12) && decide (V = H.id))))
/-- What HostCall answers. -/
def callD (H : Ho) (K V T A : Int) (X : ByteArray) : Ho × Bool := if H.ok = true then (if H.may K V T A X = true then (⟨H.id, H.ep, H.up, H.rd, true, K, V, T, A, X, H.pc, H.cd, H.bk, H.tx, H.l, H.txn⟩, true) else (H, false)) else (Ho.zero, false)

theorem call_no {H : Ho} {K V T A : Int} {X : ByteArray} (h : H.ok = false) : callD H K V T A X = (Ho.zero, false) := by unfold callD; rw [h]; rfl
theorem call_is {H : Ho} {K V T A : Int} {X : ByteArray} (h : H.ok = true) (m : H.may K V T A X = false) : callD H K V T A X = (H, false) := by unfold callD; rw [h, m]; rfl
theorem call_on {H : Ho} {K V T A : Int} {X : ByteArray} (h : H.ok = true) (m : H.may K V T A X = true) : callD H K V T A X = (⟨H.id, H.ep, H.up, H.rd, true, K, V, T, A, X, H.pc, H.cd, H.bk, H.tx, H.l, H.txn⟩, true) := by unfold callD; rw [h, m]; rfl
theorem may_up {H : Ho} {K V T A : Int} {X : ByteArray} (h : H.up = false) : H.may K V T A X = false := by unfold Ho.may; rw [h]; rfl
theorem may_bz {H : Ho} {K V T A : Int} {X : ByteArray} (h : H.bz = true) : H.may K V T A X = false := by unfold Ho.may; rw [h]; simp
theorem may_op {H : Ho} {K V T A : Int} {X : ByteArray} (h : opRight K V T A X = false) : H.may K V T A X = false := by unfold Ho.may; rw [h]; simp
theorem may_self {H : Ho} {K V T A : Int} {X : ByteArray} (h : K = 12 ∧ V = H.id) : H.may K V T A X = false := by unfold Ho.may; rw [decide_eq_true h.1, decide_eq_true h.2]; simp
theorem may_yes {H : Ho} {K V T A : Int} {X : ByteArray} (h1 : H.up = true) (h2 : H.bz = false) (h3 : opRight K V T A X = true) (h : ¬ (K = 12 ∧ V = H.id)) : H.may K V T A X = true := by
  unfold Ho.may
  rw [h1, h2, h3]
  by_cases hk : K = 12
  · rw [decide_eq_true hk, decide_eq_false (fun e => h ⟨hk, e⟩)]; rfl
  · rw [decide_eq_false hk]; rfl
/-- A right call that recovers one names nothing else. -/
theorem self_is {K V T A i : Int} {X : ByteArray} (h : opRight K V T A X = true) : (K = 12 ∧ V = i ∧ T = 0 ∧ A = 0 ∧ X = ⟨#[]⟩) ↔ (K = 12 ∧ V = i) := by
  constructor
  · intro x; exact ⟨x.1, x.2.1⟩
  · rintro ⟨rfl, rfl⟩
    unfold opRight at h
    rw [Bool.and_eq_true] at h
    have h2 := of_decide_eq_true h.2
    obtain ⟨_, _, h3, h4, h5⟩ := h2
    exact ⟨rfl, rfl, h3.symm, h4.symm, h5.symm⟩

theorem call_sCopy (vs : Array Value) (w : World) : (callFunc 24 vs).run Tryz.prog w = .ok (.enter 24 vs) w := by simp [go_sem]
theorem call_iCopy (vs : Array Value) (w : World) : (callFunc 34 vs).run Tryz.prog w = .ok (.enter 34 vs) w := by simp [go_sem]

theorem three_y (w : World) (xs ys zs : List Value) (t u v : TypeId) :
    ∃ wc, ((w.alloc (.cells xs.toArray t)).alloc (.cells ys.toArray u)).alloc (.cells zs.toArray v) = wc ∧ wc.heap.size = w.heap.size + 1 + 1 + 1 ∧
      Row wc w.heap.size xs ∧ Row wc (w.heap.size + 1) ys ∧ Row wc (w.heap.size + 1 + 1) zs ∧ Below w.heap.size w wc := by
  have e0 : (w.alloc (.cells xs.toArray t)).heap.size = w.heap.size + 1 := by simp
  have e1 : ((w.alloc (.cells xs.toArray t)).alloc (.cells ys.toArray u)).heap.size = w.heap.size + 1 + 1 := by simp
  have r1 := Row.new (w.alloc (.cells xs.toArray t)) ys u
  have r2 := Row.new ((w.alloc (.cells xs.toArray t)).alloc (.cells ys.toArray u)) zs v
  rw [e0] at r1
  rw [e1] at r2
  exact ⟨_, rfl, by simp, ((Row.new w xs t).alloc _).alloc _, r1.alloc _, r2, (((Below.refl _ _).alloc (Nat.le_refl _) _).alloc (by omega) _).alloc (by omega) _⟩

theorem results_hb {P : Program} {fn : Func} {p u : Tmp} {ty : TypeId} (h : fn.results = #[.cell p ty, .tmp u]) (tmps : Array Value) (w : World) (g : Nat) (xs : List Value) (d : TypeDesc)
    (hp : tmps.getD p undef = .pointer (some ⟨g, 0, none⟩)) (hr : Row w g xs)
    (hu : P.underlying ty = some d) (hd : (match d with | .struct _ | .array _ _ => true | _ => false) = true) (hi : (P.info? ty).map (·.size) = some xs.length) :
    (results fn tmps).run P w = .ok (.tuple #[.agg xs.toArray, tmps.getD u undef]) w := by
  obtain ⟨t, hb⟩ := hr
  rw [results_cell_tmp h, hp]
  have hl := run_loadVar_row (P := P) w g t ty xs.toArray (0, 0) d hb hu hd (by simpa using hi)
  simp [asAddr, Result.andThen, hl]

end Go.Proofs.YtlhnkdogafnnpaaGreat.Pl
