/-
  The walks of laws.eqOp, laws.eqOut, laws.eqOutS and laws.eqJournal at two that are alike. No condition but lists that Go can hold.
  The walks of laws.markText, laws.markStringS, laws.markIntS, laws.heldStringS and laws.heldIntS: marks are laid into a slice, one after the other, and found there again. No condition but slices that may be written and numbers that are not too great.
  The walks of laws.markOutS, laws.heldOutS, laws.markJournal and laws.heldJournal: marks are laid into a list of outs and found there again. No condition but lists that may be written.
  The walks of laws.markJournal, laws.heldJournal and laws.FnExactReadJournal: the law answers true, and nothing that was there is changed. Condition: the table of sixteen sums and the error of a part that lacks stand in their variables.
-/
import Derived.Test.YtfbnnhgaedficafDoorJoin4
import Derived.Test.YtfbnnhgaedficafDoorJoin1
import Derived.Laws.BytesArg
import Derived.Outline
import Derived.Deep.QuietTactic
import Derived.BigQuiet
import Derived.RegionTactic
import Derived.BigRegion
import Derived.Deep.RegionWith
import Derived.Test.YtfbnnhgaedficafDoorJoin2
namespace Go.Proofs.YtfbnnhgaedficafDoor.Sec
open Go.RowKit Go.Proofs.YtfbnnhgaedficafDoor.Mem
set_option linter.unusedVariables false

set_option maxRecDepth 100000 in
set_option maxHeartbeats 1000000 in
theorem eqOp (w : World) (k v t a : Int) (s : ByteArray) : Calls Tryd.prog 51 #[opV k v t a s, opV k v t a s] w fun e w' => e = .returned (.bool true) ∧ Below w.heap.size w w' := by
  unfold opV
  go_enter Tryd.func51, Tryd.ntmps51
  go_wp2
  go_ret
  exact ⟨rfl, by go_grown⟩

set_option maxRecDepth 100000 in
set_option maxHeartbeats 1000000 in
theorem eqOut (w : World) (x : Int) (s : ByteArray) : Calls Tryd.prog 87 #[.agg #[.int .i64 x, .string s], .agg #[.int .i64 x, .string s]] w fun e w' => e = .returned (.bool true) ∧ Below w.heap.size w w' := by
  go_enter Tryd.func87, Tryd.ntmps87
  go_wp2
  go_ret
  exact ⟨rfl, by go_grown⟩

set_option maxRecDepth 100000 in
set_option maxHeartbeats 1000000 in
theorem eqOutS (w : World) (a b : Option Addr) (ca cb : Nat) (l : List Ou) (S : Ous w a l) (T : Ous w b l) (hl : l.length ≤ maxLen) :
    Calls Tryd.prog 52 #[.slice a l.length ca, .slice b l.length cb] w fun e w' => e = .returned (.bool true) ∧ Below w.heap.size w w' := by
  unfold maxLen at hl
  have HS := hid S
  have HT := hid T
  clear S T
  go_enter Tryd.func52, Tryd.ntmps52
  go_wp2
  go_loopw [5] (fun i wr => ∃ k : Nat, k ≤ l.length ∧ i = .int .i64 (k : Int) ∧ Hid (Below w.heap.size w wr)) (fun i _ => l.length - (intOf i).toNat)
  case atStart => exact ⟨0, Nat.zero_le _, rfl, Below.refl _ _⟩
  case round =>
    obtain ⟨k, hk, rfl, HB⟩ := hrel
    by_cases hlt : k < l.length
    · obtain ⟨b1, o1, rfl, c0, c1⟩ := Ous.at_ (HS.out.below HB.out) k hlt
      obtain ⟨b2, o2, rfl, d0, d1⟩ := Ous.at_ (HT.out.below HB.out) k hlt
      generalize l.getD k Ou.none = x at c0 c1 d0 d1
      obtain ⟨xs, xt⟩ := x
      simp only [] at c0 c1 d0 d1
      have hne : Nonempty (BW wr) := ⟨⟨wr, Below.refl _ _⟩⟩
      replace c0 := BW.cell c0
      replace c1 := BW.cell c1
      replace d0 := BW.cell d0
      replace d1 := BW.cell d1
      go_wp2
      refine wp_region_bw (by kernel_rfl) (by kernel_rfl) ?_
      repeat (go_big_quiet_step (first
        | (go_at_call 87; refine bw_below (eqOut _ xs xt))))
      refine wpQuiet_nil ?_
      intro _ hw'
      obtain ⟨u, rfl⟩ := hw'
      have HU := hid (HB.out.trans (u.bel.mono HB.out.size))
      clear c0 c1 d0 d1
      go_wp2
      exact ⟨⟨k + 1, by omega, by go_num, HU⟩, by simp [intOf]; omega⟩
    · obtain rfl : k = l.length := by omega
      go_wp2
      go_ret
      exact ⟨rfl, HB.out⟩

set_option maxRecDepth 100000 in
set_option maxHeartbeats 1000000 in
theorem eqJournal (w : World) (J : Jn) (a b : Option Addr) (ca cb : Nat) (S : Ous w a J.outs) (T : Ous w b J.outs) (hl : J.outs.length ≤ maxLen) :
    Calls Tryd.prog 20 #[jnV J a ca, jnV J b cb] w fun e w' => e = .returned (.bool true) ∧ Below w.heap.size w w' := by
  obtain ⟨txn, dn, k, v, t, at_, s, l⟩ := J
  have HV : Hid (∀ a cap, jnV ⟨txn, dn, k, v, t, at_, s, l⟩ a cap = .agg #[.int .i64 txn, .bool dn, .int .i64 k, .int .i64 v, .int .i64 t, .int .i64 at_, .string s, .slice a l.length cap]) := fun _ _ => rfl
  have HS : Hid (Ous w a l) := S
  have HT : Hid (Ous w b l) := T
  have HL : Hid (l.length ≤ maxLen) := hl
  clear S T hl
  simp only [HV.out]
  obtain ⟨wa, hwa, ez, A0, C0, B0⟩ := two_new w [.int .i64 txn, .bool dn, .int .i64 k, .int .i64 v, .int .i64 t, .int .i64 at_, .string s, .slice a l.length ca] [.int .i64 txn, .bool dn, .int .i64 k, .int .i64 v, .int .i64 t, .int .i64 at_, .string s, .slice b l.length cb] 41 41
  have k0 := A0.c 0 rfl
  have k1 := A0.c 1 rfl
  have k2 := A0.c 2 rfl
  have k3 := A0.c 3 rfl
  have k4 := A0.c 4 rfl
  have k5 := A0.c 5 rfl
  have k6 := A0.c 6 rfl
  have j0 := C0.c 0 rfl
  have j1 := C0.c 1 rfl
  have j2 := C0.c 2 rfl
  have j3 := C0.c 3 rfl
  have j4 := C0.c 4 rfl
  have j5 := C0.c 5 rfl
  have j6 := C0.c 6 rfl
  have HA := hid A0
  have HC := hid C0
  have HB := hid B0
  clear A0 B0 C0
  go_enter Tryd.func20, Tryd.ntmps20
  go_wp2_with fail
  refine (eqOp wa k v t at_ s).mono ?_
  rintro r w1 ⟨rfl, b1⟩
  have k7 := (HA.out.below b1 HA.out.lt).c 7 rfl
  have j7 := (HC.out.below b1 HC.out.lt).c 7 rfl
  have HB1 := hid (HB.out.trans (b1.mono HB.out.size))
  clear b1 hwa k0 k1 k2 k3 k4 k5 k6 j0 j1 j2 j3 j4 j5 j6
  go_wp2_with fail
  refine (eqOutS w1 a b ca cb l (HS.out.below HB1.out) (HT.out.below HB1.out) HL.out).mono ?_
  rintro r w2 ⟨rfl, b2⟩
  have HB2 := hid (HB1.out.trans (b2.mono HB1.out.size))
  clear b2
  go_wp2
  go_ret
  exact ⟨rfl, HB2.out⟩

end Go.Proofs.YtfbnnhgaedficafDoor.Sec

namespace Go.Proofs.YtfbnnhgaedficafDoor.Mem
open Go.RowKit
set_option linter.unusedVariables false

/-- The digits of q, none of 0; at most f. -/
def mkF : Nat → Nat → List Int
  | 0, _ => []
  | f + 1, q => if q = 0 then [] else mkF f (q / 10) ++ [48 + ((q % 10 : Nat) : Int)]
theorem mkF_zero (f : Nat) : mkF f 0 = [] := by cases f <;> simp [mkF]
theorem mkF_pos (f q : Nat) (h : q ≠ 0) : mkF (f + 1) q = mkF f (q / 10) ++ [48 + ((q % 10 : Nat) : Int)] := by rw [mkF, if_neg h]

/-- Mark k. -/
def markS (k : Nat) : ByteArray := strOfNums (109 :: mkF 20 k)

def MInv (M : Nat) (l : List Int) (q f : Nat) : Prop := q < 10 ^ f ∧ l.length + f = 20 ∧ mkF f q ++ l = mkF 20 M

theorem minv_start (M : Nat) (h : M < 100000000000000000000) : MInv M [] M 20 := ⟨by show M < 100000000000000000000; exact h, rfl, by simp⟩
theorem minv_more {M : Nat} {l : List Int} {q f : Nat} (h : MInv M l q f) (hq : q ≠ 0) : ∃ g, f = g + 1 ∧ MInv M ((48 + (q : Int) % 10) :: l) (q / 10) g := by
  obtain ⟨h1, h2, h3⟩ := h
  cases f with
  | zero => simp at h1; omega
  | succ g =>
    refine ⟨g, rfl, by rw [Nat.pow_succ] at h1; omega, by simp; omega, ?_⟩
    rw [mkF_pos g q hq] at h3
    rw [← h3]; simp
theorem minv_end {M : Nat} {l : List Int} {f : Nat} (h : MInv M l 0 f) : l = mkF 20 M := by
  have := h.2.2
  rw [mkF_zero] at this
  exact this
theorem minv_len {M : Nat} {l : List Int} {q f : Nat} (h : MInv M l q f) : l.length ≤ 20 := by have := h.2.1; omega
theorem mstr_cons (x : Int) (l : List Int) : strOfNums [x] ++ strOfNums l = strOfNums (x :: l) := by
  apply ByteArray.ext
  simp [strOfNums, ByteArray.data_append]
theorem mstr_m (l : List Int) : (⟨#[109]⟩ : ByteArray) ++ strOfNums l = strOfNums (109 :: l) := mstr_cons 109 l
theorem mstr_one (x : Int) : (strOfNums [x]).size = 1 := rfl

set_option maxRecDepth 100000 in
set_option maxHeartbeats 1000000 in
theorem markText (M : Nat) (w : World) (h0 : 0 < M) (h1 : (M : Int) ≤ 4611686018427387904) :
    Calls Tryd.prog 65 #[.int .i64 (M : Int)] w fun e w' => e = .returned (.string (markS M)) ∧ Below w.heap.size w w' := by
  have hneg : ¬ (M : Int) ≤ 0 := by omega
  go_enter Tryd.func65, Tryd.ntmps65
  go_wp2
  go_loopw [0, 3] (fun x s wr => ∃ (l : List Int) (q f : Nat), Hid (MInv M l q f) ∧ (q : Int) ≤ 4611686018427387904 ∧ x = .int .i64 (q : Int) ∧ s = .string (strOfNums l) ∧ Below w.heap.size w wr) (fun x _ _ => (intOf x).toNat)
  case atStart => exact ⟨[], M, 20, minv_start M (by omega), h1, rfl, rfl, Below.refl _ _⟩
  case round =>
    obtain ⟨l, q, f, hI, hq, rfl, rfl, hbel⟩ := hrel
    have hl := minv_len hI.out
    have hls := strOfNums_size l
    by_cases hlt : q = 0
    · subst hlt
      have Hf : Hid ((⟨#[109]⟩ : ByteArray) ++ strOfNums l = markS M) := by
        show _ = _
        rw [mstr_m, minv_end hI.out]; rfl
      have h9 : (⟨#[109]⟩ : ByteArray).size = 1 := rfl
      go_wp2
      go_ret
      exact ⟨Own.ret_str Hf.out, hbel⟩
    · obtain ⟨g, rfl, hI'⟩ := minv_more hI.out hlt
      have hne : (0 : Int) < (q : Int) := by omega
      have HS : Hid (strOfNums [48 + (q : Int) % 10] ++ strOfNums l = strOfNums ((48 + (q : Int) % 10) :: l)) := mstr_cons _ _
      have Hn : Hid (((q / 10 : Nat) : Int) = (q : Int) / 10) := by show _ = _; omega
      have hone := mstr_one (48 + (q : Int) % 10)
      have HI : Hid (MInv M ((48 + (q : Int) % 10) :: l) (q / 10) g) := hI'
      have hcv := fun (b len : Nat) (x : Int) (wx : World) (hc : wx.cell? ⟨b, 0, none⟩ = some (.int .u8 x)) => run_convert_bytes_arg (P := Tryd.prog) wx 94 5 Tryd.underlying94 Tryd.underlying5 b 0 1 len [x] rfl (fun i hi => by obtain rfl : i = 0 := (by omega); simpa using hc) 9 Tryd.underlying9
      clear hI'
      go_wp2
      go_roundw
      case rel => exact ⟨(48 + (q : Int) % 10) :: l, q / 10, g, HI, by rw [Hn.out]; omega, by rw [Hn.out], by rw [HS.out], hbel.alloc hbel.size _⟩
      case measure => simp [intOf]; omega

/-- What stands in the slice behind j rounds of marking from k on. -/
def msS (f : Nat → Value) (k j : Nat) (i : Nat) : Value := if i < j then .string (markS (k + i)) else f i
def msI (f : Nat → Value) (k j : Nat) (i : Nat) : Value := if i < j then .int .i64 ((k + i : Nat) : Int) else f i

theorem msS_succ (f : Nat → Value) (k j : Nat) (i : Nat) : (if i = j then Value.string (markS (k + j)) else msS f k j i) = msS f k (j + 1) i := by
  unfold msS
  by_cases h : i = j
  · subst h; simp
  · by_cases h2 : i < j
    · simp [h, h2, Nat.lt_succ_of_lt h2]
    · simp [h, h2, show ¬ i < j + 1 by omega]
theorem msI_succ (f : Nat → Value) (k j : Nat) (i : Nat) : (if i = j then Value.int .i64 ((k + j : Nat) : Int) else msI f k j i) = msI f k (j + 1) i := by
  unfold msI
  by_cases h : i = j
  · subst h; simp
  · by_cases h2 : i < j
    · simp [h, h2, Nat.lt_succ_of_lt h2]
    · simp [h, h2, show ¬ i < j + 1 by omega]

set_option maxRecDepth 100000 in
set_option maxHeartbeats 1000000 in
theorem markStringS (w : World) (B : Nat) (a : Option Addr) (n cap k : Nat) (f : Nat → Value) (S : Wr w B a n f) (hk : 0 < k) (hb : k + n ≤ 4611686018427387904) :
    Calls Tryd.prog 28 #[.slice a n cap, .int .i64 (k : Int)] w fun e w' => e = .returned (.int .i64 ((k + n : Nat) : Int)) ∧ Wr w' B a n (fun i => .string (markS (k + i))) ∧ Kept (foot a n) w w' := by
  have HS := hid S
  clear S
  go_enter Tryd.func28, Tryd.ntmps28
  go_wp2
  go_loopw [1, 5] (fun x i wr => ∃ j : Nat, j ≤ n ∧ i = .int .i64 (j : Int) ∧ x = .int .i64 ((k + j : Nat) : Int) ∧ Hid (Wr wr B a n (msS f k j)) ∧ Hid (Kept (foot a n) w wr)) (fun _ i _ => n - (intOf i).toNat)
  case atStart => exact ⟨0, Nat.zero_le _, rfl, rfl, HS.out.congr (fun i _ => by simp [msS]), Kept.refl _ _⟩
  case round =>
    obtain ⟨j, hj, rfl, rfl, HW, HK⟩ := hrel
    by_cases hlt : j < n
    · obtain ⟨b, off, rfl, hB, hc, hz⟩ := HW.out j hlt
      go_wp2_with fail
      refine (markText (k + j) _ (by omega) (by omega)).mono ?_
      rintro e w1 ⟨rfl, b1⟩
      have HW1 := hid (HW.out.below b1)
      have HK1 := hid (HK.out.trans (Kept.of_below (S := fun _ => False) b1))
      obtain ⟨b', off', e', hB', hc', hz'⟩ := HW1.out j hlt
      cases e'
      clear b1 hc hz
      go_wp2
      refine ⟨⟨j + 1, by omega, by go_num, by go_num, ?_, ?_⟩, by simp [intOf]; omega⟩
      · exact (HW1.out.set j hlt (.string (markS (k + j)))).congr (fun i _ => msS_succ f k j i)
      · exact (HK1.out.trans (kept_set w1 b (off + j) _)).mono (fun b2 _ h => by
          rcases h with (h | h) | h
          · exact h
          · exact h.elim
          · subst h; exact ⟨by omega, off, rfl⟩)
    · obtain rfl : j = n := by omega
      go_wp2
      go_ret
      exact ⟨rfl, HW.out.congr (fun i hi => by simp [msS, hi]), HK.out⟩

set_option maxRecDepth 100000 in
set_option maxHeartbeats 1000000 in
theorem markIntS (w : World) (B : Nat) (a : Option Addr) (n cap k : Nat) (f : Nat → Value) (S : Wr w B a n f) (hb : k + n ≤ 4611686018427387904) :
    Calls Tryd.prog 14 #[.slice a n cap, .int .i64 (k : Int)] w fun e w' => e = .returned (.int .i64 ((k + n : Nat) : Int)) ∧ Wr w' B a n (fun i => .int .i64 ((k + i : Nat) : Int)) ∧ Kept (foot a n) w w' := by
  have HS := hid S
  clear S
  go_enter Tryd.func14, Tryd.ntmps14
  go_wp2
  go_loopw [1, 5] (fun x i wr => ∃ j : Nat, j ≤ n ∧ i = .int .i64 (j : Int) ∧ x = .int .i64 ((k + j : Nat) : Int) ∧ Hid (Wr wr B a n (msI f k j)) ∧ Hid (Kept (foot a n) w wr)) (fun _ i _ => n - (intOf i).toNat)
  case atStart => exact ⟨0, Nat.zero_le _, rfl, rfl, HS.out.congr (fun i _ => by simp [msI]), Kept.refl _ _⟩
  case round =>
    obtain ⟨j, hj, rfl, rfl, HW, HK⟩ := hrel
    by_cases hlt : j < n
    · obtain ⟨b, off, rfl, hB, hc, hz⟩ := HW.out j hlt
      go_wp2
      refine ⟨⟨j + 1, by omega, by go_num, by go_num, ?_, ?_⟩, by simp [intOf]; omega⟩
      · exact (HW.out.set j hlt (.int .i64 ((k + j : Nat) : Int))).congr (fun i _ => msI_succ f k j i)
      · exact (HK.out.trans (kept_set wr b (off + j) _)).mono (fun b2 _ h => by
          rcases h with h | h
          · exact h
          · subst h; exact ⟨by omega, off, rfl⟩)
    · obtain rfl : j = n := by omega
      go_wp2
      go_ret
      exact ⟨rfl, HW.out.congr (fun i hi => by simp [msI, hi]), HK.out⟩

set_option maxRecDepth 100000 in
set_option maxHeartbeats 1000000 in
theorem heldStringS (w : World) (a : Option Addr) (n cap k : Nat) (S : Sl w a n (fun i => .string (markS (k + i)))) (hk : 0 < k) (hb : k + n ≤ 4611686018427387904) :
    Calls Tryd.prog 29 #[.slice a n cap, .int .i64 (k : Int)] w fun e w' => e = .returned (.int .i64 ((k + n : Nat) : Int)) ∧ Below w.heap.size w w' := by
  have HS := hid S
  clear S
  go_enter Tryd.func29, Tryd.ntmps29
  go_wp2
  go_loopw [1, 5] (fun x i wr => ∃ j : Nat, j ≤ n ∧ i = .int .i64 (j : Int) ∧ x = .int .i64 ((k + j : Nat) : Int) ∧ Hid (Below w.heap.size w wr)) (fun _ i _ => n - (intOf i).toNat)
  case atStart => exact ⟨0, Nat.zero_le _, rfl, rfl, Below.refl _ _⟩
  case round =>
    obtain ⟨j, hj, rfl, rfl, HB⟩ := hrel
    by_cases hlt : j < n
    · obtain ⟨b, off, rfl, hc⟩ := (HS.out.below HB.out) j hlt
      replace hc : wr.cell? ⟨b, off + j, none⟩ = some (.string (markS (k + j))) := hc
      have hlb := World.block_lt_of_cell? wr _ hc
      have he' : ((markS (k + j)).toList == (markS (k + j)).toList) = true := Own.eqS_yes rfl
      go_wp2
      go_region_with (go_at_call 65; refine (markText (k + j) _ (by omega) (by omega)).mono ?_; rintro e w1 ⟨rfl, b1'⟩; have b1 := undrew b1'; have hc1 := (b1.cell (p := ⟨b, off + j, none⟩) hlb).trans hc)
      all_goals (have HB1 := hid (HB.out.trans (b1.mono HB.out.size)); clear b1 b1' hc hc1; go_wp2)
      all_goals exact ⟨⟨j + 1, by omega, by go_num, by go_num, HB1⟩, by simp [intOf]; omega⟩
    · obtain rfl : j = n := by omega
      go_wp2
      go_ret
      exact ⟨rfl, HB.out⟩

set_option maxRecDepth 100000 in
set_option maxHeartbeats 1000000 in
theorem heldIntS (w : World) (a : Option Addr) (n cap k : Nat) (S : Sl w a n (fun i => .int .i64 ((k + i : Nat) : Int))) (hb : k + n ≤ 4611686018427387904) :
    Calls Tryd.prog 15 #[.slice a n cap, .int .i64 (k : Int)] w fun e w' => e = .returned (.int .i64 ((k + n : Nat) : Int)) ∧ Below w.heap.size w w' := by
  have HS := hid S
  clear S
  go_enter Tryd.func15, Tryd.ntmps15
  go_wp2
  go_loopw [1, 5] (fun x i wr => ∃ j : Nat, j ≤ n ∧ i = .int .i64 (j : Int) ∧ x = .int .i64 ((k + j : Nat) : Int) ∧ Hid (Below w.heap.size w wr)) (fun _ i _ => n - (intOf i).toNat)
  case atStart => exact ⟨0, Nat.zero_le _, rfl, rfl, Below.refl _ _⟩
  case round =>
    obtain ⟨j, hj, rfl, rfl, HB⟩ := hrel
    by_cases hlt : j < n
    · obtain ⟨b, off, rfl, hc⟩ := (HS.out.below HB.out) j hlt
      replace hc : wr.cell? ⟨b, off + j, none⟩ = some (.int .i64 ((k + j : Nat) : Int)) := hc
      go_wp2
      exact ⟨⟨j + 1, by omega, by go_num, by go_num, HB⟩, by simp [intOf]; omega⟩
    · obtain rfl : j = n := by omega
      go_wp2
      go_ret
      exact ⟨rfl, HB.out⟩

end Go.Proofs.YtfbnnhgaedficafDoor.Mem

namespace Go.Proofs.YtfbnnhgaedficafDoor.Rd
open Go.RowKit Go.Proofs.YtfbnnhgaedficafDoor.Mem Go.Proofs.YtfbnnhgaedficafDoor.Sec
set_option linter.unusedVariables false

/-- The marks in a list of outs. -/
def mkO (k i : Nat) : Value := if i % 2 = 0 then .int .i64 ((k + i : Nat) : Int) else .string (markS (k + i))
def msO (f : Nat → Value) (k j i : Nat) : Value := if i < j * 2 then mkO k i else f i

theorem msO_succ (f : Nat → Value) (k j : Nat) (i : Nat) : (if i = j * 2 + 1 then Value.string (markS (k + (j * 2 + 1))) else if i = j * 2 then .int .i64 ((k + j * 2 : Nat) : Int) else msO f k j i) = msO f k (j + 1) i := by
  unfold msO
  by_cases h : i = j * 2 + 1
  · subst h
    rw [if_pos rfl, if_pos (by omega)]
    unfold mkO
    rw [if_neg (by omega)]
  · by_cases h1 : i = j * 2
    · subst h1
      rw [if_neg h, if_pos rfl, if_pos (by omega)]
      unfold mkO
      rw [if_pos (by omega)]
    · by_cases h2 : i < j * 2
      · rw [if_neg h, if_neg h1, if_pos h2, if_pos (by omega)]
      · rw [if_neg h, if_neg h1, if_neg h2, if_neg (by omega)]

set_option maxRecDepth 100000 in
set_option maxHeartbeats 1000000 in
theorem markOutS (w : World) (B : Nat) (a : Option Addr) (n cap k : Nat) (f : Nat → Value) (S : Wr w B a (n * 2) f) (hk : 0 < k) (hb : k + n * 2 ≤ 1048576) :
    Calls Tryd.prog 56 #[.slice a n cap, .int .i64 (k : Int)] w fun e w' => e = .returned (.int .i64 ((k + n * 2 : Nat) : Int)) ∧ Wr w' B a (n * 2) (mkO k) ∧ Kept (foot a (n * 2)) w w' := by
  have HS := hid S
  clear S
  go_enter Tryd.func56, Tryd.ntmps56
  go_wp2
  go_loopw [1, 5] (fun x i wr => ∃ (j m : Nat), j ≤ n ∧ i = .int .i64 (j : Int) ∧ x = .int .i64 (m : Int) ∧ m ≤ 1048576 ∧ Hid (m = k + j * 2) ∧ Hid (Wr wr B a (n * 2) (msO f k j)) ∧ Hid (Kept (foot a (n * 2)) w wr)) (fun _ i _ => n - (intOf i).toNat)
  case atStart => exact ⟨0, k, Nat.zero_le _, rfl, rfl, by omega, by rw [Hid]; omega, HS.out.congr (fun i _ => by simp [msO]), Kept.refl _ _⟩
  case round =>
    obtain ⟨j, m, hj, rfl, rfl, hm, Hm, HW, HK⟩ := hrel
    by_cases hlt : j < n
    · obtain ⟨b, off, rfl, hB, hc, hz⟩ := HW.out (j * 2) (by omega)
      obtain ⟨b1, off1, e1, _, hc1, hz1⟩ := HW.out (j * 2 + 1) (by omega)
      cases e1
      have hm2 : m + 2 ≤ 1048576 := by have := Hm.out; omega
      have HW0 := hid (HW.out.set (j * 2) (by omega) (.int .i64 (m : Int)))
      have HK0 := hid (HK.out.trans (kept_set wr b (off + j * 2) (.int .i64 (m : Int))))
      obtain ⟨w0, hw0⟩ : ∃ w0, wr.setCell ⟨b, off + j * 2, none⟩ (.int .i64 (m : Int)) = w0 := ⟨_, rfl⟩
      rw [hw0] at HW0 HK0
      go_wp2_with fail
      clear hw0
      refine (markText (m + 1) _ (by omega) (by omega)).mono ?_
      rintro e w1 ⟨rfl, b1⟩
      have HW1 := hid (HW0.out.below b1)
      have HK1 := hid (HK0.out.trans (Kept.of_below (S := fun _ => False) b1))
      clear b1 hc hz hc1 hz1
      obtain ⟨b', off', e', _, hc', hz'⟩ := HW1.out (j * 2 + 1) (by omega)
      cases e'
      rw [← Nat.add_assoc] at hc' hz'
      go_wp2
      refine ⟨⟨j + 1, m + 2, by omega, by go_num, by go_num, hm2, by have := Hm.out; rw [Hid]; omega, ?_, ?_⟩, by simp [intOf]; omega⟩
      · have := HW1.out.set (j * 2 + 1) (by omega) (.string (markS (m + 1)))
        rw [← Nat.add_assoc] at this
        exact this.congr (fun i _ => by rw [← msO_succ, Hm.out, Nat.add_assoc])
      · exact (HK1.out.trans (kept_set w1 b (off + j * 2 + 1) _)).mono (fun b2 _ h => by
          rcases h with ((h | h) | h) | h
          · exact h
          · subst h; exact ⟨by omega, off, rfl⟩
          · exact h.elim
          · subst h; exact ⟨by omega, off, rfl⟩)
    · obtain rfl : j = n := by omega
      go_wp2
      go_ret
      exact ⟨by rw [Hm.out]; rfl, HW.out.congr (fun i hi => by unfold msO; rw [if_pos hi]), HK.out⟩

set_option maxRecDepth 100000 in
set_option maxHeartbeats 1000000 in
theorem heldOutS (w : World) (a : Option Addr) (n cap k : Nat) (S : Sl w a (n * 2) (mkO k)) (hk : 0 < k) (hb : k + n * 2 ≤ 1048576) :
    Calls Tryd.prog 57 #[.slice a n cap, .int .i64 (k : Int)] w fun e w' => e = .returned (.int .i64 ((k + n * 2 : Nat) : Int)) ∧ Below w.heap.size w w' := by
  have HS := hid S
  clear S
  go_enter Tryd.func57, Tryd.ntmps57
  go_wp2
  go_loopw [1, 5] (fun x i wr => ∃ (j m : Nat), j ≤ n ∧ i = .int .i64 (j : Int) ∧ x = .int .i64 (m : Int) ∧ m ≤ 1048576 ∧ Hid (m = k + j * 2) ∧ Hid (Below w.heap.size w wr)) (fun _ i _ => n - (intOf i).toNat)
  case atStart => exact ⟨0, k, Nat.zero_le _, rfl, rfl, by omega, by rw [Hid]; omega, Below.refl _ _⟩
  case round =>
    obtain ⟨j, m, hj, rfl, rfl, hm, Hm, HB⟩ := hrel
    by_cases hlt : j < n
    · have HSr := hid (HS.out.below HB.out)
      obtain ⟨b, off, rfl, hc⟩ := HSr.out (j * 2) (by omega)
      obtain ⟨b1, off1, e1, hc1⟩ := HSr.out (j * 2 + 1) (by omega)
      cases e1
      have hm2 : m + 2 ≤ 1048576 := by have := Hm.out; omega
      have v0 : mkO k (j * 2) = .int .i64 (m : Int) := by unfold mkO; rw [if_pos (by omega), Hm.out]
      have v1 : mkO k (j * 2 + 1) = .string (markS (m + 1)) := by unfold mkO; rw [if_neg (by omega), Hm.out, Nat.add_assoc]
      rw [v0] at hc
      rw [v1, ← Nat.add_assoc] at hc1
      have HMT := hid (fun (u : BW wr) => markText (m + 1) u.val (by omega) (by omega))
      have hne : Nonempty (BW wr) := ⟨⟨wr, Below.refl _ _⟩⟩
      have hcu := BW.cell hc1
      clear v0 v1 hc1
      generalize markS (m + 1) = mt at *
      go_wp2
      refine wp_region_bw (by kernel_rfl) (by kernel_rfl) ?_
      repeat (go_big_quiet_step (first
        | (go_at_call 65; refine bw_below (HMT.out _))))
      refine wpQuiet_nil ?_
      intro _ hw'
      obtain ⟨u, rfl⟩ := hw'
      have HU := hid (HB.out.trans (u.bel.mono HB.out.size))
      clear hc hcu HMT
      go_wp2
      exact ⟨⟨j + 1, m + 2, by omega, by go_num, by go_num, hm2, by have := Hm.out; rw [Hid]; omega, HU⟩, by simp [intOf]; omega⟩
    · obtain rfl : j = n := by omega
      go_wp2
      go_ret
      exact ⟨by rw [Hm.out]; rfl, HB.out⟩

end Go.Proofs.YtfbnnhgaedficafDoor.Rd

namespace Go.Proofs.YtfbnnhgaedficafDoor.Rd
open Go.RowKit Go.Proofs.YtfbnnhgaedficafDoor.Mem Go.Proofs.YtfbnnhgaedficafDoor.Sec
set_option linter.unusedVariables false

theorem jnV_is (J : Jn) (ad : Option Addr) (cap : Nat) : jnV J ad cap = .agg #[.int .i64 J.txn, .bool J.done, .int .i64 J.kind, .int .i64 J.vol, .int .i64 J.to, .int .i64 J.at_, .string J.text, .slice ad J.outs.length cap] := rfl

set_option maxRecDepth 100000 in
set_option maxHeartbeats 1000000 in
theorem markJournal (w : World) (B : Nat) (J : Jn) (a : Option Addr) (cap k : Nat) (f : Nat → Value) (S : Wr w B a (J.outs.length * 2) f) (hk : 0 < k) (hb : k + J.outs.length * 2 ≤ 1048576) :
    Calls Tryd.prog 23 #[jnV J a cap, .int .i64 (k : Int)] w fun r w' => r = .returned (.int .i64 ((k + J.outs.length * 2 : Nat) : Int)) ∧ Wr w' B a (J.outs.length * 2) (mkO k) ∧ Kept (foot a (J.outs.length * 2)) w w' := by
  rw [jnV_is]
  have HS := hid S
  clear S
  obtain ⟨wa, hwa, ez, A0, B0⟩ := one_new w [.int .i64 J.txn, .bool J.done, .int .i64 J.kind, .int .i64 J.vol, .int .i64 J.to, .int .i64 J.at_, .string J.text, .slice a J.outs.length cap] 41
  have k2 := A0.c 7 rfl
  have HB := hid B0
  clear A0 B0
  go_enter Tryd.func23, Tryd.ntmps23
  go_wp2_with fail
  refine (markOutS wa B a J.outs.length cap k f (HS.out.below HB.out) hk hb).mono ?_
  rintro r w1 ⟨rfl, hW, k1⟩
  have HW := hid hW
  have HK : Hid (Kept (foot a (J.outs.length * 2)) w w1) := ((Kept.of_below (S := fun _ => False) HB.out).trans k1).mono (fun b _ x => by rcases x with x | x; cases x; exact x)
  clear hwa hW k1 k2 HS HB
  obtain ⟨m, hm⟩ : ∃ m : Nat, m = k + J.outs.length * 2 := ⟨_, rfl⟩
  have HMe := hid hm
  rw [← hm]
  clear hm
  go_wp2
  go_ret
  exact ⟨by rw [← HMe.out]; rfl, HW.out, HK.out⟩

set_option maxRecDepth 100000 in
set_option maxHeartbeats 1000000 in
theorem heldJournal (w : World) (J : Jn) (a : Option Addr) (cap k : Nat) (S : Sl w a (J.outs.length * 2) (mkO k)) (hk : 0 < k) (hb : k + J.outs.length * 2 ≤ 1048576) :
    Calls Tryd.prog 24 #[jnV J a cap, .int .i64 (k : Int)] w fun r w' => r = .returned (.int .i64 ((k + J.outs.length * 2 : Nat) : Int)) ∧ Below w.heap.size w w' := by
  rw [jnV_is]
  have HS := hid S
  clear S
  obtain ⟨wa, hwa, ez, A0, B0⟩ := one_new w [.int .i64 J.txn, .bool J.done, .int .i64 J.kind, .int .i64 J.vol, .int .i64 J.to, .int .i64 J.at_, .string J.text, .slice a J.outs.length cap] 41
  have k2 := A0.c 7 rfl
  have HB := hid B0
  clear A0 B0
  go_enter Tryd.func24, Tryd.ntmps24
  go_wp2_with fail
  refine (heldOutS wa a J.outs.length cap k (HS.out.below HB.out) hk hb).mono ?_
  rintro r w1 ⟨rfl, b1⟩
  have HB1 := hid (HB.out.trans (b1.mono HB.out.size))
  obtain ⟨m, hm⟩ : ∃ m : Nat, m = k + J.outs.length * 2 := ⟨_, rfl⟩
  have hm1 : ¬ ((m : Int) < 0) := by omega
  have HMe := hid hm
  rw [← hm]
  clear hwa b1 k2 HS HB hm
  go_wp2
  go_ret
  exact ⟨by rw [← HMe.out]; rfl, HB1.out⟩

theorem jis_alike {R : ByteArray → Int × Nat} {s : ByteArray} {J J' : Jn} {ok ok' : Bool} (q : JnIs R s J ok) (q' : JnIs R s J' ok') : J = J' ∧ ok = ok' := by
  rcases q with ⟨q, _, rfl⟩ | ⟨q, rfl, rfl⟩ <;> rcases q' with ⟨q', _, rfl⟩ | ⟨q', rfl, rfl⟩ <;> rw [q] at q' <;> simp_all

theorem jis_len {R : ByteArray → Int × Nat} {s : ByteArray} {J : Jn} {ok : Bool} (q : JnIs R s J ok) : J.outs.length ≤ 8 := by
  rcases q with ⟨_, q, _⟩ | ⟨_, rfl, _⟩
  · exact q
  · simp [JZ]

set_option maxRecDepth 100000 in
set_option maxHeartbeats 2000000 in
theorem lawReadJournal (s : ByteArray) (hs : s.size ≤ maxLen) (w : World) (u : TypeId) (pv : Value) (hL : Lacks w u pv) (T : Sums w) :
    Calls Tryd.prog 6 #[.string s] w fun e w' => e = .returned (.bool true) ∧ Below w.heap.size w w' := by
  unfold maxLen at hs
  by_cases hg : 1048576 < (s.size : Int)
  · go_enter Tryd.func6, Tryd.ntmps6
    go_wp2
    go_ret
    exact ⟨rfl, Below.refl _ _⟩
  obtain ⟨R, hR, hTx⟩ := reads_ex2
  have HR := hid hR
  have HTx := hid hTx
  have HL := hid hL
  have HT := hid T
  have hs' : s.size ≤ 1048576 := by omega
  clear hR hL T hTx
  go_enter Tryd.func6, Tryd.ntmps6
  go_wp2_with fail
  refine (sReadJournal R HR.out s hs' w).mono ?_
  rintro e w1 ⟨J, a, cap, ok, ho, rfl, hI, b1⟩
  have HO := hid ho
  have hlen : J.outs.length ≤ 8 := jis_len ho
  have HM : Hid (J.outs.length ≤ maxLen) := by unfold Hid maxLen; omega
  have HB1 := hid b1
  obtain ⟨a', cap', ea, hW⟩ := Or2.w hI
  cases ea
  have HS1 := hid (Wr.sl hW)
  have HF1 : Hid (∀ b, foot a (J.outs.length * 2) b → b < w1.heap.size) := fun b hb => (Wr.sl hW).lt hb
  clear ho hI b1 hW
  rw [jnV_is]
  go_wp2_with fail
  obtain ⟨wx, hwx, ex, X0, BX⟩ := one_new w1 [.int .i64 J.txn, .bool J.done, .int .i64 J.kind, .int .i64 J.vol, .int .i64 J.to, .int .i64 J.at_, .string J.text, .slice a J.outs.length cap] 41
  simp only [hwx]
  have HX := hid X0
  have HBx := hid (HB1.out.trans (BX.mono HB1.out.size))
  have HSx : Hid (Ous wx a J.outs) := Sl.below HS1.out BX
  clear hwx X0 BX HS1
  refine (iReadJournal R HR.out s hs' (no_flagJn R HR.out HTx.out s hs') wx u pv (HL.out.kept (Kept.of_below (S := fun _ => False) HBx.out) (fun x => x)) (HT.out.below HBx.out)).mono ?_
  rintro e w2 ⟨J1, a1, cap1, ok1, ho1, rfl, hI1, b2⟩
  obtain ⟨rfl, rfl⟩ := jis_alike HO.out ho1
  have HB2 := hid (HBx.out.trans (b2.mono HBx.out.size))
  have HX2 := hid (HX.out.below b2 HX.out.lt)
  have hxl := HX.out.lt
  have hxs := b2.size
  have HS12 : Hid (Ous w2 a J.outs) := Sl.below HSx.out b2
  obtain ⟨a1', cap1', ea, hW1⟩ := Or2.w hI1
  cases ea
  have HW2 := hid hW1
  have HF2 : Hid (∀ b, foot a1 (J.outs.length * 2) b → b < w2.heap.size) := fun b hb => (Wr.sl hW1).lt hb
  clear ho1 hI1 b2 hW1 HX HSx
  rw [jnV_is]
  obtain ⟨wy, hwy, ey, Y0, BY⟩ := one_new w2 [.int .i64 J.txn, .bool J.done, .int .i64 J.kind, .int .i64 J.vol, .int .i64 J.to, .int .i64 J.at_, .string J.text, .slice a1 J.outs.length cap1] 41
  have HY := hid Y0
  have HBy := hid (HB2.out.trans (BY.mono HB2.out.size))
  have HXy := hid (HX2.out.below BY HX2.out.lt)
  have HSy : Hid (Ous wy a J.outs) := Sl.below HS12.out BY
  have HWy : Hid (OusW wy wx.heap.size a1 J.outs) := Wr.below HW2.out BY
  clear Y0 BY HX2 HS12 HW2
  have k0 := HXy.out.c 0 rfl
  have k1 := HXy.out.c 1 rfl
  have k2 := HXy.out.c 2 rfl
  have k3 := HXy.out.c 3 rfl
  have k4 := HXy.out.c 4 rfl
  have k5 := HXy.out.c 5 rfl
  have k6 := HXy.out.c 6 rfl
  have k7 := HXy.out.c 7 rfl
  have y0 := HY.out.c 0 rfl
  have y1 := HY.out.c 1 rfl
  have y2 := HY.out.c 2 rfl
  have y3 := HY.out.c 3 rfl
  have y4 := HY.out.c 4 rfl
  have y5 := HY.out.c 5 rfl
  have y6 := HY.out.c 6 rfl
  have y7 := HY.out.c 7 rfl
  go_wp2_with fail
  clear k0 k1 k2 k3 k4 k5 k6 k7 y0 y1 y2 y3 y4 y5 y6 y7 hwy
  refine (eqJournal wy J a1 a cap1 cap (Wr.sl HWy.out) HSy.out HM.out).mono ?_
  rintro e w3 ⟨rfl, b3⟩
  have HB3 := hid (HBy.out.trans (b3.mono HBy.out.size))
  have HX3 := hid (HXy.out.below b3 HXy.out.lt)
  have HY3 := hid (HY.out.below b3 HY.out.lt)
  have HS3 : Hid (Ous w3 a J.outs) := Sl.below HSy.out b3
  have HW3 : Hid (OusW w3 wx.heap.size a1 J.outs) := Wr.below HWy.out b3
  clear b3 HBy HXy HY HSy HWy
  have y0 := HY3.out.c 0 rfl
  have y1 := HY3.out.c 1 rfl
  have y2 := HY3.out.c 2 rfl
  have y3 := HY3.out.c 3 rfl
  have y4 := HY3.out.c 4 rfl
  have y5 := HY3.out.c 5 rfl
  have y6 := HY3.out.c 6 rfl
  have y7 := HY3.out.c 7 rfl
  go_wp2_with fail
  refine (markJournal w3 wx.heap.size J a1 cap1 1 _ HW3.out (by decide) (by omega)).mono ?_
  rintro e w4 ⟨rfl, hW4, k4⟩
  have hge : ∀ b, foot a1 (J.outs.length * 2) b → wx.heap.size ≤ b := fun b hb => Wr.foot_ge HW3.out hb
  have HB4 : Hid (Below w.heap.size w w4) := HB3.out.trans (k4.below HB3.out.size (fun b hb x => by have := hge b x; have := HBx.out.size; omega))
  have HX4 := hid (HX3.out.kept k4 (fun x => by have := hge _ x; omega))
  have HY4 := hid (HY3.out.kept k4 (fun x => by have := HF2.out _ x; omega))
  have HS4 : Hid (Ous w4 a J.outs) := Sl.move HS3.out k4 (fun b hb x => by have := hge b x; have := HF1.out b hb; omega)
  have HW4 := hid hW4
  clear hW4 k4 hge y0 y1 y2 y3 y4 y5 y6 y7 HB3 HX3 HY3 HS3 HW3
  obtain ⟨m, hm⟩ : ∃ m : Nat, m = 1 + J.outs.length * 2 := ⟨_, rfl⟩
  have hm1 : (0 : Int) ≤ (m : Int) := by omega
  have hmb : m ≤ 100 := by omega
  have HMe := hid hm
  rw [← hm]
  clear hm
  have y0 := HY4.out.c 0 rfl
  have y1 := HY4.out.c 1 rfl
  have y2 := HY4.out.c 2 rfl
  have y3 := HY4.out.c 3 rfl
  have y4 := HY4.out.c 4 rfl
  have y5 := HY4.out.c 5 rfl
  have y6 := HY4.out.c 6 rfl
  have y7 := HY4.out.c 7 rfl
  go_wp2_with fail
  refine (heldJournal w4 J a1 cap1 1 HW4.out.sl (by decide) (by omega)).mono ?_
  rintro e w5 ⟨rfl, b5⟩
  rw [← HMe.out]
  have HB5 := hid (HB4.out.trans (b5.mono HB4.out.size))
  have HX5 := hid (HX4.out.below b5 HX4.out.lt)
  have HY5 := hid (HY4.out.below b5 HY4.out.lt)
  have HS5 : Hid (Ous w5 a J.outs) := Sl.below HS4.out b5
  have HW5 := hid (HW4.out.below b5)
  clear b5 HS4 HW4 HX4 HY4 HB4 y0 y1 y2 y3 y4 y5 y6 y7
  go_wp2_with fail
  refine (iReadJournal R HR.out s hs' (no_flagJn R HR.out HTx.out s hs') w5 u pv (HL.out.kept (Kept.of_below (S := fun _ => False) HB5.out) (fun x => x)) (HT.out.below HB5.out)).mono ?_
  rintro e w6 ⟨J2, a2, cap2, ok2, ho2, rfl, hI2, b6⟩
  obtain ⟨rfl, rfl⟩ := jis_alike HO.out ho2
  have HB6 := hid (HB5.out.trans (b6.mono HB5.out.size))
  have HX6 := hid (HX5.out.below b6 HX5.out.lt)
  have HY6 := hid (HY5.out.below b6 HY5.out.lt)
  have HS6 : Hid (Ous w6 a J.outs) := Sl.below HS5.out b6
  have HW6 := hid (HW5.out.below b6)
  obtain ⟨a2', cap2', ea, hW2⟩ := Or2.w hI2
  cases ea
  have HS2 := hid (Wr.sl hW2)
  clear ho2 hI2 b6 hW2 HS5 HW5 HX5 HY5 HB5
  rw [jnV_is]
  obtain ⟨wz, hwz, ez, Z0, BZ⟩ := one_new w6 [.int .i64 J.txn, .bool J.done, .int .i64 J.kind, .int .i64 J.vol, .int .i64 J.to, .int .i64 J.at_, .string J.text, .slice a2 J.outs.length cap2] 41
  have HBz := hid (HB6.out.trans (BZ.mono HB6.out.size))
  have HYz := hid (HY6.out.below BZ HY6.out.lt)
  have HXz := hid (HX6.out.below BZ HX6.out.lt)
  have HSz : Hid (Ous wz a J.outs) := Sl.below HS6.out BZ
  have HS2z : Hid (Ous wz a2 J.outs) := Sl.below HS2.out BZ
  have HWz := hid (HW6.out.below BZ)
  have HZ0 := hid Z0
  clear HX6 HY6 HS6 HW6 HS2 HB6 Z0 BZ
  have k0 := HXz.out.c 0 rfl
  have k1 := HXz.out.c 1 rfl
  have k2 := HXz.out.c 2 rfl
  have k3 := HXz.out.c 3 rfl
  have k4 := HXz.out.c 4 rfl
  have k5 := HXz.out.c 5 rfl
  have k6 := HXz.out.c 6 rfl
  have k7 := HXz.out.c 7 rfl
  have y0 := HZ0.out.c 0 rfl
  have y1 := HZ0.out.c 1 rfl
  have y2 := HZ0.out.c 2 rfl
  have y3 := HZ0.out.c 3 rfl
  have y4 := HZ0.out.c 4 rfl
  have y5 := HZ0.out.c 5 rfl
  have y6 := HZ0.out.c 6 rfl
  have y7 := HZ0.out.c 7 rfl
  go_wp2_with fail
  clear k0 k1 k2 k3 k4 k5 k6 k7 y0 y1 y2 y3 y4 y5 y6 y7 hwz
  refine (eqJournal wz J a2 a cap2 cap HS2z.out HSz.out HM.out).mono ?_
  rintro e w7 ⟨rfl, b7⟩
  have HB7 := hid (HBz.out.trans (b7.mono HBz.out.size))
  have HY7 := hid (HYz.out.below b7 HYz.out.lt)
  have HW7 := hid (HWz.out.below b7)
  clear b7 HS2z HSz HWz HYz HBz
  have y0 := HY7.out.c 0 rfl
  have y1 := HY7.out.c 1 rfl
  have y2 := HY7.out.c 2 rfl
  have y3 := HY7.out.c 3 rfl
  have y4 := HY7.out.c 4 rfl
  have y5 := HY7.out.c 5 rfl
  have y6 := HY7.out.c 6 rfl
  have y7 := HY7.out.c 7 rfl
  go_wp2_with fail
  refine (heldJournal w7 J a1 cap1 1 HW7.out.sl (by decide) (by omega)).mono ?_
  rintro e w8 ⟨rfl, b8⟩
  rw [← HMe.out]
  have HB8 := hid (HB7.out.trans (b8.mono HB7.out.size))
  clear b8 y0 y1 y2 y3 y4 y5 y6 y7
  go_wp2
  go_ret
  exact ⟨rfl, HB8.out⟩

end Go.Proofs.YtfbnnhgaedficafDoor.Rd
