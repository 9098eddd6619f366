/-
  The walks of laws.toStringS and laws.toIntS: a slice of texts, of ints, laid anew. No condition but a length of at most 2^20.
-/
import Derived.Test.YtogebppolkfldaaGreatDoorRows
import Derived.WalkKit
import Derived.WalkSpells
import Derived.WalkLawsBesides
import Derived.Test.YtogebppolkfldaaGreatDoorMem
namespace Go.Proofs.YtogebppolkfldaaGreatDoor.Mem
open Go.RowKit
set_option linter.unusedVariables false

theorem info9 : (Tryz.prog.info? 9).map (fun i => (i.zero, i.size, i.bytes)) = some (some (.string ByteArray.empty), 1, 16) := by kernel_rfl
theorem info3 : (Tryz.prog.info? 3).map (fun i => (i.zero, i.size, i.bytes)) = some (some (.int .i64 0), 1, 8) := by kernel_rfl

/-- What stands in the new row behind k rounds. -/
def partS (l : List ByteArray) (k : Nat) (i : Nat) : Value := .string (if i < k then l.getD i ByteArray.empty else ByteArray.empty)
def partI (l : List Int) (k : Nat) (i : Nat) : Value := .int .i64 (if i < k then l.getD i 0 else 0)

theorem partS_succ (l : List ByteArray) (k : Nat) : (fun j => if j = k then Value.string (l.getD k ByteArray.empty) else partS l k j) = partS l (k + 1) := by
  funext j
  unfold partS
  by_cases h : j = k
  · subst h; simp
  · by_cases h2 : j < k
    · simp [h, h2, Nat.lt_succ_of_lt h2]
    · simp [h, h2, show ¬ j < k + 1 by omega]

theorem partI_succ (l : List Int) (k : Nat) : (fun j => if j = k then Value.int .i64 (l.getD k 0) else partI l k j) = partI l (k + 1) := by
  funext j
  unfold partI
  by_cases h : j = k
  · subst h; simp
  · by_cases h2 : j < k
    · simp [h, h2, Nat.lt_succ_of_lt h2]
    · simp [h, h2, show ¬ j < k + 1 by omega]

set_option maxRecDepth 100000 in
set_option maxHeartbeats 1000000 in
theorem toStringS (w : World) (a : Option Addr) (cap : Nat) (l : List ByteArray) (S : Strs w a l) (hl : l.length ≤ 1048576) :
    Calls Tryz.prog 48 #[.slice a l.length cap] w fun e w' => ∃ g, e = .returned (.slice (some ⟨g, 0, none⟩) l.length l.length) ∧ w.heap.size ≤ g ∧ g < w'.heap.size ∧ StrsW w' w.heap.size (some ⟨g, 0, none⟩) l ∧ Below w.heap.size w w' := by
  have hmk := run_make_row' (P := Tryz.prog) 22 9 (.string ByteArray.empty) 16 Tryz.underlying22 info9 rfl .i64 .i64 l.length (by omega) (by omega)
  have HS := hid S
  have HW := hid (wr_made w (.string ByteArray.empty) l.length 9)
  clear S
  go_enter Tryz.func48, Tryz.ntmps48
  go_wp2
  go_loopw [4] (fun i wr => ∃ k : Nat, k ≤ l.length ∧ i = .int .i64 (k : Int) ∧ w.heap.size < wr.heap.size ∧ Hid (Wr wr w.heap.size (some ⟨w.heap.size, 0, none⟩) l.length (partS l k)) ∧ Hid (Below w.heap.size w wr)) (fun i _ => l.length - (intOf i).toNat)
  case atStart => exact ⟨0, Nat.zero_le _, rfl, lt_alloc _ _, HW, (Below.refl _ _).alloc (Nat.le_refl _) _⟩
  case round =>
    obtain ⟨k, hk, rfl, hsz, HW', HB⟩ := hrel
    by_cases hlt : k < l.length
    · obtain ⟨b, off, rfl, hc⟩ := (HS.out.below HB.out) k hlt
      obtain ⟨b', off', e', hB, hc', hz⟩ := HW'.out k hlt
      cases e'
      rw [Nat.zero_add] at hc' hz
      replace hc : wr.cell? ⟨b, off + k, none⟩ = some (.string (l.getD k ByteArray.empty)) := hc
      generalize hx : l.getD k ByteArray.empty = x at hc
      have HX := hid hx
      clear hx
      go_wp2
      refine ⟨⟨k + 1, by omega, by go_num, by simpa using hsz, ?_, HB.out.setCell (Nat.le_refl _) _⟩, by simp [intOf]; omega⟩
      have hs := HW'.out.set k hlt (.string x)
      rw [Nat.zero_add] at hs
      exact hs.congr (fun i _ => by rw [← partS_succ, HX.out])
    · obtain rfl : k = l.length := by omega
      go_wp2
      go_ret
      exact ⟨_, rfl, Nat.le_refl _, hsz, HW'.out.congr (fun i hi => by simp [partS, hi]), HB.out⟩

set_option maxRecDepth 100000 in
set_option maxHeartbeats 1000000 in
theorem toIntS (w : World) (a : Option Addr) (cap : Nat) (l : List Int) (S : Ints w a l) (hl : l.length ≤ 1048576) :
    Calls Tryz.prog 21 #[.slice a l.length cap] w fun e w' => ∃ g, e = .returned (.slice (some ⟨g, 0, none⟩) l.length l.length) ∧ w.heap.size ≤ g ∧ g < w'.heap.size ∧ IntsW w' w.heap.size (some ⟨g, 0, none⟩) l ∧ Below w.heap.size w w' := by
  have hmk := run_make_row' (P := Tryz.prog) 23 3 (.int .i64 0) 8 Tryz.underlying23 info3 rfl .i64 .i64 l.length (by omega) (by omega)
  have HS := hid S
  have HW := hid (wr_made w (.int .i64 0) l.length 3)
  clear S
  go_enter Tryz.func21, Tryz.ntmps21
  go_wp2
  go_loopw [4] (fun i wr => ∃ k : Nat, k ≤ l.length ∧ i = .int .i64 (k : Int) ∧ w.heap.size < wr.heap.size ∧ Hid (Wr wr w.heap.size (some ⟨w.heap.size, 0, none⟩) l.length (partI l k)) ∧ Hid (Below w.heap.size w wr)) (fun i _ => l.length - (intOf i).toNat)
  case atStart => exact ⟨0, Nat.zero_le _, rfl, lt_alloc _ _, HW, (Below.refl _ _).alloc (Nat.le_refl _) _⟩
  case round =>
    obtain ⟨k, hk, rfl, hsz, HW', HB⟩ := hrel
    by_cases hlt : k < l.length
    · obtain ⟨b, off, rfl, hc⟩ := (HS.out.below HB.out) k hlt
      obtain ⟨b', off', e', hB, hc', hz⟩ := HW'.out k hlt
      cases e'
      rw [Nat.zero_add] at hc' hz
      replace hc : wr.cell? ⟨b, off + k, none⟩ = some (.int .i64 (l.getD k 0)) := hc
      generalize hx : l.getD k 0 = x at hc
      have HX := hid hx
      clear hx
      go_wp2
      refine ⟨⟨k + 1, by omega, by go_num, by simpa using hsz, ?_, HB.out.setCell (Nat.le_refl _) _⟩, by simp [intOf]; omega⟩
      have hs := HW'.out.set k hlt (.int .i64 x)
      rw [Nat.zero_add] at hs
      exact hs.congr (fun i _ => by rw [← partI_succ, HX.out])
    · obtain rfl : k = l.length := by omega
      go_wp2
      go_ret
      exact ⟨_, rfl, Nat.le_refl _, hsz, HW'.out.congr (fun i hi => by simp [partI, hi]), HB.out⟩

end Go.Proofs.YtogebppolkfldaaGreatDoor.Mem
