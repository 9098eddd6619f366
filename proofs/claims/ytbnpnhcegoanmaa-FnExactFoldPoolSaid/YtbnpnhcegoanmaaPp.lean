/-
  A slice of flags: the walks of laws.toBoolS, laws.eqBoolS, laws.szBoolS, laws.markBoolS and laws.heldBoolS. No condition but a length of at most 2^20.
-/
import Derived.Test.YtbnpnhcegoanmaaMarkRows
import Derived.Test.YtbnpnhcegoanmaaEqDisk
import Derived.Test.YtbnpnhcegoanmaaSzDisk
namespace Go.Proofs.Ytbnpnhcegoanmaa.Mem
open Go.RowKit
set_option linter.unusedVariables false

def Bls (w : World) (a : Option Addr) (l : List Bool) : Prop := Sl w a l.length (fun i => .bool (l.getD i false))
def BlsW (w : World) (B : Nat) (a : Option Addr) (l : List Bool) : Prop := Wr w B a l.length (fun i => .bool (l.getD i false))

theorem infoBl : (Try.prog.info? 4).map (fun i => (i.zero, i.size, i.bytes)) = some (some (.bool false), 1, 1) := by kernel_rfl

def partB (l : List Bool) (k : Nat) (i : Nat) : Value := .bool (if i < k then l.getD i false else false)
theorem partB_succ (l : List Bool) (k : Nat) : (fun j => if j = k then Value.bool (l.getD k false) else partB l k j) = partB l (k + 1) := by
  funext j
  unfold partB
  by_cases h : j = k
  · subst h; simp
  · by_cases h2 : j < k
    · simp [h, h2, Nat.lt_succ_of_lt h2]
    · simp [h, h2, show ¬ j < k + 1 by omega]

set_option maxRecDepth 100000 in
set_option maxHeartbeats 1000000 in
theorem eqBoolS (w : World) (a b : Option Addr) (ca cb : Nat) (l m : List Bool) (S : Bls w a l) (T : Bls w b m) (hl : l.length ≤ maxLen) (hd : l = m) :
    Calls Try.prog 50 #[.slice a l.length ca, .slice b m.length cb] w fun e w' => e = .returned (.bool true) ∧ Below w.heap.size w w' := by
  subst hd
  unfold maxLen at hl
  have HS := hid S
  have HT := hid T
  clear S T
  go_enter Try.func50, Try.ntmps50
  go_wp2
  go_loopw [5] (fun i wr => ∃ k : Nat, k ≤ l.length ∧ i = .int .i64 (k : Int) ∧ Hid (Below w.heap.size w wr)) (fun i _ => l.length - (intOf i).toNat)
  case atStart => exact ⟨0, Nat.zero_le _, rfl, Below.refl _ _⟩
  case round =>
    obtain ⟨k, hk, rfl, HB⟩ := hrel
    by_cases hlt : k < l.length
    · obtain ⟨b1, o1, rfl, hc1⟩ := (HS.out.below HB.out) k hlt
      obtain ⟨b2, o2, rfl, hc2⟩ := (HT.out.below HB.out) k hlt
      replace hc1 : wr.cell? ⟨b1, o1 + k, none⟩ = some (.bool (l.getD k false)) := hc1
      replace hc2 : wr.cell? ⟨b2, o2 + k, none⟩ = some (.bool (l.getD k false)) := hc2
      generalize l.getD k false = x at hc1 hc2
      go_wp2
      go_quiet (fail)
      go_wp2
      exact ⟨⟨k + 1, by omega, by go_num, below_drewN HB.out nq⟩, by simp [intOf]; omega⟩
    · obtain rfl : k = l.length := by omega
      go_wp2
      go_ret
      exact ⟨rfl, HB.out⟩

/-- The flag that is laid as mark k. -/
def markB (k : Nat) : Bool := (k : Int) % 3 == 0
theorem markB_at (k j : Nat) : markB (k + j) = (((k : Int) + (j : Int)) % 3 == 0) := by unfold markB; rw [Int.natCast_add]
def msB (f : Nat → Value) (k j : Nat) (i : Nat) : Value := if i < j then .bool (markB (k + i)) else f i
theorem msB_succ (f : Nat → Value) (k j : Nat) (i : Nat) : (if i = j then Value.bool (markB (k + j)) else msB f k j i) = msB f k (j + 1) i := by
  unfold msB
  by_cases h : i = j
  · subst h; simp
  · by_cases h2 : i < j
    · simp [h, h2, Nat.lt_succ_of_lt h2]
    · simp [h, h2, show ¬ i < j + 1 by omega]

set_option maxRecDepth 100000 in
set_option maxHeartbeats 1000000 in
theorem markBoolS (w : World) (B : Nat) (a : Option Addr) (n cap k : Nat) (f : Nat → Value) (S : Wr w B a n f) (hb : k + n ≤ 4611686018427387904) :
    Calls Try.prog 42 #[.slice a n cap, .int .i64 (k : Int)] w fun e w' => e = .returned (.int .i64 ((k + n : Nat) : Int)) ∧ Wr w' B a n (fun i => .bool (markB (k + i))) ∧ Kept (foot a n) w w' := by
  have HS := hid S
  clear S
  go_enter Try.func42, Try.ntmps42
  go_wp2
  go_loopw [1, 5] (fun x i wr => ∃ j : Nat, j ≤ n ∧ i = .int .i64 (j : Int) ∧ x = .int .i64 ((k + j : Nat) : Int) ∧ Hid (Wr wr B a n (msB f k j)) ∧ Hid (Kept (foot a n) w wr)) (fun _ i _ => n - (intOf i).toNat)
  case atStart => exact ⟨0, Nat.zero_le _, rfl, rfl, HS.out.congr (fun i _ => by simp [msB]), Kept.refl _ _⟩
  case round =>
    obtain ⟨j, hj, rfl, rfl, HW, HK⟩ := hrel
    by_cases hlt : j < n
    · obtain ⟨b, off, rfl, hB, hc, hz⟩ := HW.out j hlt
      have HM : ∀ q, markB (k + j) = q → Hid (Wr (wr.setCell ⟨b, off + j, none⟩ (.bool q)) B (some ⟨b, off, none⟩) n (msB f k (j + 1))) := fun q hq => by
        subst hq
        exact (HW.out.set j hlt (.bool (markB (k + j)))).congr (fun i _ => msB_succ f k j i)
      have HK2 : ∀ q, Hid (Kept (foot (some ⟨b, off, none⟩) n) w (wr.setCell ⟨b, off + j, none⟩ (.bool q))) := fun q =>
        (HK.out.trans (kept_set wr b (off + j) _)).mono (fun b2 _ h => by
          rcases h with h | h
          · exact h
          · subst h; exact ⟨by omega, off, rfl⟩)
      have H1 := HM _ (markB_at k j)
      have H2 := HK2 (((k : Int) + (j : Int)) % 3 == 0)
      clear HM HK2 HW HK
      go_wp2
      exact ⟨⟨j + 1, by omega, by go_num, by go_num, H1, H2⟩, by simp [intOf]; omega⟩
    · obtain rfl : j = n := by omega
      go_wp2
      go_ret
      exact ⟨rfl, HW.out.congr (fun i hi => by simp [msB, hi]), HK.out⟩

set_option maxRecDepth 100000 in
set_option maxHeartbeats 1000000 in
theorem heldBoolS (w : World) (a : Option Addr) (n cap k : Nat) (S : Sl w a n (fun i => .bool (markB (k + i)))) (hb : k + n ≤ 4611686018427387904) :
    Calls Try.prog 44 #[.slice a n cap, .int .i64 (k : Int)] w fun e w' => e = .returned (.int .i64 ((k + n : Nat) : Int)) ∧ Below w.heap.size w w' := by
  have HS := hid S
  clear S
  go_enter Try.func44, Try.ntmps44
  go_wp2
  go_loopw [1, 5] (fun x i wr => ∃ j : Nat, j ≤ n ∧ i = .int .i64 (j : Int) ∧ x = .int .i64 ((k + j : Nat) : Int) ∧ Hid (Below w.heap.size w wr)) (fun _ i _ => n - (intOf i).toNat)
  case atStart => exact ⟨0, Nat.zero_le _, rfl, rfl, Below.refl _ _⟩
  case round =>
    obtain ⟨j, hj, rfl, rfl, HB⟩ := hrel
    by_cases hlt : j < n
    · obtain ⟨b, off, rfl, hc⟩ := (HS.out.below HB.out) j hlt
      replace hc : wr.cell? ⟨b, off + j, none⟩ = some (.bool (markB (k + j))) := hc
      rw [markB_at] at hc
      cases hq : (((k : Int) + (j : Int)) % 3 == 0) with
      | true =>
        rw [hq] at hc
        go_wp2
        exact ⟨⟨j + 1, by omega, by go_num, by go_num, HB⟩, by simp [intOf]; omega⟩
      | false =>
        rw [hq] at hc
        go_wp2
        exact ⟨⟨j + 1, by omega, by go_num, by go_num, HB⟩, by simp [intOf]; omega⟩
    · obtain rfl : j = n := by omega
      go_wp2
      go_ret
      exact ⟨rfl, HB.out⟩

end Go.Proofs.Ytbnpnhcegoanmaa.Mem
