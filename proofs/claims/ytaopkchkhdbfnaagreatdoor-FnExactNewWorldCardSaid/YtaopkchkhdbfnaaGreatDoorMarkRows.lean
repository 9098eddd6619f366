/-
  The walks of laws.markText, laws.markStringS, laws.markIntS, laws.heldStringS and laws.heldIntS: marks are laid into a slice, one after the other, and found there again. No condition but slices that may be written and numbers that are not too great.
-/
import Derived.Test.YtaopkchkhdbfnaaGreatDoorToRows
import Derived.Test.YtaopkchkhdbfnaaGreatDoorOwn
import Derived.Laws.BytesArg
import Derived.Outline
import Derived.Deep.QuietTactic
import Derived.BigQuiet
import Derived.RegionTactic
import Derived.BigRegion
import Derived.Deep.RegionWith
namespace Go.Proofs.YtaopkchkhdbfnaaGreatDoor.Mem
open Go.RowKit
set_option linter.unusedVariables false

/-- The digits of q, none of 0; at most f. -/
def mkF : Nat → Nat → List Int
  | 0, _ => []
  | f + 1, q => if q = 0 then [] else mkF f (q / 10) ++ [48 + ((q % 10 : Nat) : Int)]
theorem mkF_zero (f : Nat) : mkF f 0 = [] := by cases f <;> simp [mkF]
theorem mkF_pos (f q : Nat) (h : q ≠ 0) : mkF (f + 1) q = mkF f (q / 10) ++ [48 + ((q % 10 : Nat) : Int)] := by rw [mkF, if_neg h]

/-- Mark k. -/
def markS (k : Nat) : ByteArray := strOfNums (109 :: mkF 20 k)

def MInv (M : Nat) (l : List Int) (q f : Nat) : Prop := q < 10 ^ f ∧ l.length + f = 20 ∧ mkF f q ++ l = mkF 20 M

theorem minv_start (M : Nat) (h : M < 100000000000000000000) : MInv M [] M 20 := ⟨by show M < 100000000000000000000; exact h, rfl, by simp⟩
theorem minv_more {M : Nat} {l : List Int} {q f : Nat} (h : MInv M l q f) (hq : q ≠ 0) : ∃ g, f = g + 1 ∧ MInv M ((48 + (q : Int) % 10) :: l) (q / 10) g := by
  obtain ⟨h1, h2, h3⟩ := h
  cases f with
  | zero => simp at h1; omega
  | succ g =>
    refine ⟨g, rfl, by rw [Nat.pow_succ] at h1; omega, by simp; omega, ?_⟩
    rw [mkF_pos g q hq] at h3
    rw [← h3]; simp
theorem minv_end {M : Nat} {l : List Int} {f : Nat} (h : MInv M l 0 f) : l = mkF 20 M := by
  have := h.2.2
  rw [mkF_zero] at this
  exact this
theorem minv_len {M : Nat} {l : List Int} {q f : Nat} (h : MInv M l q f) : l.length ≤ 20 := by have := h.2.1; omega
theorem mstr_cons (x : Int) (l : List Int) : strOfNums [x] ++ strOfNums l = strOfNums (x :: l) := by
  apply ByteArray.ext
  simp [strOfNums, ByteArray.data_append]
theorem mstr_m (l : List Int) : (⟨#[109]⟩ : ByteArray) ++ strOfNums l = strOfNums (109 :: l) := mstr_cons 109 l
theorem mstr_one (x : Int) : (strOfNums [x]).size = 1 := rfl

set_option maxRecDepth 100000 in
set_option maxHeartbeats 1000000 in
theorem markText (M : Nat) (w : World) (h0 : 0 < M) (h1 : (M : Int) ≤ 4611686018427387904) :
    Calls Tryz.prog 122 #[.int .i64 (M : Int)] w fun e w' => e = .returned (.string (markS M)) ∧ Below w.heap.size w w' := by
  have hneg : ¬ (M : Int) ≤ 0 := by omega
  go_enter Tryz.func122, Tryz.ntmps122
  go_wp2
  go_loopw [0, 3] (fun x s wr => ∃ (l : List Int) (q f : Nat), Hid (MInv M l q f) ∧ (q : Int) ≤ 4611686018427387904 ∧ x = .int .i64 (q : Int) ∧ s = .string (strOfNums l) ∧ Below w.heap.size w wr) (fun x _ _ => (intOf x).toNat)
  case atStart => exact ⟨[], M, 20, minv_start M (by omega), h1, rfl, rfl, Below.refl _ _⟩
  case round =>
    obtain ⟨l, q, f, hI, hq, rfl, rfl, hbel⟩ := hrel
    have hl := minv_len hI.out
    have hls := strOfNums_size l
    by_cases hlt : q = 0
    · subst hlt
      have Hf : Hid ((⟨#[109]⟩ : ByteArray) ++ strOfNums l = markS M) := by
        show _ = _
        rw [mstr_m, minv_end hI.out]; rfl
      have h9 : (⟨#[109]⟩ : ByteArray).size = 1 := rfl
      go_wp2
      go_ret
      exact ⟨Own.ret_str Hf.out, hbel⟩
    · obtain ⟨g, rfl, hI'⟩ := minv_more hI.out hlt
      have hne : (0 : Int) < (q : Int) := by omega
      have HS : Hid (strOfNums [48 + (q : Int) % 10] ++ strOfNums l = strOfNums ((48 + (q : Int) % 10) :: l)) := mstr_cons _ _
      have Hn : Hid (((q / 10 : Nat) : Int) = (q : Int) / 10) := by show _ = _; omega
      have hone := mstr_one (48 + (q : Int) % 10)
      have HI : Hid (MInv M ((48 + (q : Int) % 10) :: l) (q / 10) g) := hI'
      have hcv := fun (b len : Nat) (x : Int) (wx : World) (hc : wx.cell? ⟨b, 0, none⟩ = some (.int .u8 x)) => run_convert_bytes_arg (P := Tryz.prog) wx 219 5 Tryz.underlying219 Tryz.underlying5 b 0 1 len [x] rfl (fun i hi => by obtain rfl : i = 0 := (by omega); simpa using hc) 9 Tryz.underlying9
      clear hI'
      go_wp2
      go_roundw
      case rel => exact ⟨(48 + (q : Int) % 10) :: l, q / 10, g, HI, by rw [Hn.out]; omega, by rw [Hn.out], by rw [HS.out], hbel.alloc hbel.size _⟩
      case measure => simp [intOf]; omega

/-- What stands in the slice behind j rounds of marking from k on. -/
def msS (f : Nat → Value) (k j : Nat) (i : Nat) : Value := if i < j then .string (markS (k + i)) else f i
def msI (f : Nat → Value) (k j : Nat) (i : Nat) : Value := if i < j then .int .i64 ((k + i : Nat) : Int) else f i

theorem msS_succ (f : Nat → Value) (k j : Nat) (i : Nat) : (if i = j then Value.string (markS (k + j)) else msS f k j i) = msS f k (j + 1) i := by
  unfold msS
  by_cases h : i = j
  · subst h; simp
  · by_cases h2 : i < j
    · simp [h, h2, Nat.lt_succ_of_lt h2]
    · simp [h, h2, show ¬ i < j + 1 by omega]
theorem msI_succ (f : Nat → Value) (k j : Nat) (i : Nat) : (if i = j then Value.int .i64 ((k + j : Nat) : Int) else msI f k j i) = msI f k (j + 1) i := by
  unfold msI
  by_cases h : i = j
  · subst h; simp
  · by_cases h2 : i < j
    · simp [h, h2, Nat.lt_succ_of_lt h2]
    · simp [h, h2, show ¬ i < j + 1 by omega]

set_option maxRecDepth 100000 in
set_option maxHeartbeats 1000000 in
theorem markStringS (w : World) (B : Nat) (a : Option Addr) (n cap k : Nat) (f : Nat → Value) (S : Wr w B a n f) (hk : 0 < k) (hb : k + n ≤ 4611686018427387904) :
    Calls Tryz.prog 120 #[.slice a n cap, .int .i64 (k : Int)] w fun e w' => e = .returned (.int .i64 ((k + n : Nat) : Int)) ∧ Wr w' B a n (fun i => .string (markS (k + i))) ∧ Kept (foot a n) w w' := by
  have HS := hid S
  clear S
  go_enter Tryz.func120, Tryz.ntmps120
  go_wp2
  go_loopw [1, 5] (fun x i wr => ∃ j : Nat, j ≤ n ∧ i = .int .i64 (j : Int) ∧ x = .int .i64 ((k + j : Nat) : Int) ∧ Hid (Wr wr B a n (msS f k j)) ∧ Hid (Kept (foot a n) w wr)) (fun _ i _ => n - (intOf i).toNat)
  case atStart => exact ⟨0, Nat.zero_le _, rfl, rfl, HS.out.congr (fun i _ => by simp [msS]), Kept.refl _ _⟩
  case round =>
    obtain ⟨j, hj, rfl, rfl, HW, HK⟩ := hrel
    by_cases hlt : j < n
    · obtain ⟨b, off, rfl, hB, hc, hz⟩ := HW.out j hlt
      go_wp2_with fail
      refine (markText (k + j) _ (by omega) (by omega)).mono ?_
      rintro e w1 ⟨rfl, b1⟩
      have HW1 := hid (HW.out.below b1)
      have HK1 := hid (HK.out.trans (Kept.of_below (S := fun _ => False) b1))
      obtain ⟨b', off', e', hB', hc', hz'⟩ := HW1.out j hlt
      cases e'
      clear b1 hc hz
      go_wp2
      refine ⟨⟨j + 1, by omega, by go_num, by go_num, ?_, ?_⟩, by simp [intOf]; omega⟩
      · exact (HW1.out.set j hlt (.string (markS (k + j)))).congr (fun i _ => msS_succ f k j i)
      · exact (HK1.out.trans (kept_set w1 b (off + j) _)).mono (fun b2 _ h => by
          rcases h with (h | h) | h
          · exact h
          · exact h.elim
          · subst h; exact ⟨by omega, off, rfl⟩)
    · obtain rfl : j = n := by omega
      go_wp2
      go_ret
      exact ⟨rfl, HW.out.congr (fun i hi => by simp [msS, hi]), HK.out⟩

set_option maxRecDepth 100000 in
set_option maxHeartbeats 1000000 in
theorem markIntS (w : World) (B : Nat) (a : Option Addr) (n cap k : Nat) (f : Nat → Value) (S : Wr w B a n f) (hb : k + n ≤ 4611686018427387904) :
    Calls Tryz.prog 58 #[.slice a n cap, .int .i64 (k : Int)] w fun e w' => e = .returned (.int .i64 ((k + n : Nat) : Int)) ∧ Wr w' B a n (fun i => .int .i64 ((k + i : Nat) : Int)) ∧ Kept (foot a n) w w' := by
  have HS := hid S
  clear S
  go_enter Tryz.func58, Tryz.ntmps58
  go_wp2
  go_loopw [1, 5] (fun x i wr => ∃ j : Nat, j ≤ n ∧ i = .int .i64 (j : Int) ∧ x = .int .i64 ((k + j : Nat) : Int) ∧ Hid (Wr wr B a n (msI f k j)) ∧ Hid (Kept (foot a n) w wr)) (fun _ i _ => n - (intOf i).toNat)
  case atStart => exact ⟨0, Nat.zero_le _, rfl, rfl, HS.out.congr (fun i _ => by simp [msI]), Kept.refl _ _⟩
  case round =>
    obtain ⟨j, hj, rfl, rfl, HW, HK⟩ := hrel
    by_cases hlt : j < n
    · obtain ⟨b, off, rfl, hB, hc, hz⟩ := HW.out j hlt
      go_wp2
      refine ⟨⟨j + 1, by omega, by go_num, by go_num, ?_, ?_⟩, by simp [intOf]; omega⟩
      · exact (HW.out.set j hlt (.int .i64 ((k + j : Nat) : Int))).congr (fun i _ => msI_succ f k j i)
      · exact (HK.out.trans (kept_set wr b (off + j) _)).mono (fun b2 _ h => by
          rcases h with h | h
          · exact h
          · subst h; exact ⟨by omega, off, rfl⟩)
    · obtain rfl : j = n := by omega
      go_wp2
      go_ret
      exact ⟨rfl, HW.out.congr (fun i hi => by simp [msI, hi]), HK.out⟩

set_option maxRecDepth 100000 in
set_option maxHeartbeats 1000000 in
theorem heldStringS (w : World) (a : Option Addr) (n cap k : Nat) (S : Sl w a n (fun i => .string (markS (k + i)))) (hk : 0 < k) (hb : k + n ≤ 4611686018427387904) :
    Calls Tryz.prog 124 #[.slice a n cap, .int .i64 (k : Int)] w fun e w' => e = .returned (.int .i64 ((k + n : Nat) : Int)) ∧ Below w.heap.size w w' := by
  have HS := hid S
  clear S
  go_enter Tryz.func124, Tryz.ntmps124
  go_wp2
  go_loopw [1, 5] (fun x i wr => ∃ j : Nat, j ≤ n ∧ i = .int .i64 (j : Int) ∧ x = .int .i64 ((k + j : Nat) : Int) ∧ Hid (Below w.heap.size w wr)) (fun _ i _ => n - (intOf i).toNat)
  case atStart => exact ⟨0, Nat.zero_le _, rfl, rfl, Below.refl _ _⟩
  case round =>
    obtain ⟨j, hj, rfl, rfl, HB⟩ := hrel
    by_cases hlt : j < n
    · obtain ⟨b, off, rfl, hc⟩ := (HS.out.below HB.out) j hlt
      replace hc : wr.cell? ⟨b, off + j, none⟩ = some (.string (markS (k + j))) := hc
      have hlb := World.block_lt_of_cell? wr _ hc
      have he' : ((markS (k + j)).toList == (markS (k + j)).toList) = true := Own.eqS_yes rfl
      go_wp2
      go_region_with (go_at_call 122; refine (markText (k + j) _ (by omega) (by omega)).mono ?_; rintro e w1 ⟨rfl, b1'⟩; have b1 := undrew b1'; have hc1 := (b1.cell (p := ⟨b, off + j, none⟩) hlb).trans hc)
      all_goals (have HB1 := hid (HB.out.trans (b1.mono HB.out.size)); clear b1 b1' hc hc1; go_wp2)
      all_goals exact ⟨⟨j + 1, by omega, by go_num, by go_num, HB1⟩, by simp [intOf]; omega⟩
    · obtain rfl : j = n := by omega
      go_wp2
      go_ret
      exact ⟨rfl, HB.out⟩

set_option maxRecDepth 100000 in
set_option maxHeartbeats 1000000 in
theorem heldIntS (w : World) (a : Option Addr) (n cap k : Nat) (S : Sl w a n (fun i => .int .i64 ((k + i : Nat) : Int))) (hb : k + n ≤ 4611686018427387904) :
    Calls Tryz.prog 63 #[.slice a n cap, .int .i64 (k : Int)] w fun e w' => e = .returned (.int .i64 ((k + n : Nat) : Int)) ∧ Below w.heap.size w w' := by
  have HS := hid S
  clear S
  go_enter Tryz.func63, Tryz.ntmps63
  go_wp2
  go_loopw [1, 5] (fun x i wr => ∃ j : Nat, j ≤ n ∧ i = .int .i64 (j : Int) ∧ x = .int .i64 ((k + j : Nat) : Int) ∧ Hid (Below w.heap.size w wr)) (fun _ i _ => n - (intOf i).toNat)
  case atStart => exact ⟨0, Nat.zero_le _, rfl, rfl, Below.refl _ _⟩
  case round =>
    obtain ⟨j, hj, rfl, rfl, HB⟩ := hrel
    by_cases hlt : j < n
    · obtain ⟨b, off, rfl, hc⟩ := (HS.out.below HB.out) j hlt
      replace hc : wr.cell? ⟨b, off + j, none⟩ = some (.int .i64 ((k + j : Nat) : Int)) := hc
      go_wp2
      exact ⟨⟨j + 1, by omega, by go_num, by go_num, HB⟩, by simp [intOf]; omega⟩
    · obtain rfl : j = n := by omega
      go_wp2
      go_ret
      exact ⟨rfl, HB.out⟩

end Go.Proofs.YtaopkchkhdbfnaaGreatDoor.Mem
