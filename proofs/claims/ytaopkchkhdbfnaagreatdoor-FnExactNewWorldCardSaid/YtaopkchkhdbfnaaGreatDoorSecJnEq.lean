/-
  The walks of laws.eqOp, laws.eqOut, laws.eqOutS and laws.eqJournal at two that are alike. No condition but lists that Go can hold.
-/
import Derived.Test.YtaopkchkhdbfnaaGreatDoorSecJnTo
namespace Go.Proofs.YtaopkchkhdbfnaaGreatDoor.Sec
open Go.RowKit Go.Proofs.YtaopkchkhdbfnaaGreatDoor.Mem
set_option linter.unusedVariables false

set_option maxRecDepth 100000 in
set_option maxHeartbeats 1000000 in
theorem eqOp (w : World) (k v t a : Int) (s : ByteArray) : Calls Tryz.prog 157 #[opV k v t a s, opV k v t a s] w fun e w' => e = .returned (.bool true) ∧ Below w.heap.size w w' := by
  unfold opV
  go_enter Tryz.func157, Tryz.ntmps157
  go_wp2
  go_ret
  exact ⟨rfl, by go_grown⟩

set_option maxRecDepth 100000 in
set_option maxHeartbeats 1000000 in
theorem eqOut (w : World) (x : Int) (s : ByteArray) : Calls Tryz.prog 254 #[.agg #[.int .i64 x, .string s], .agg #[.int .i64 x, .string s]] w fun e w' => e = .returned (.bool true) ∧ Below w.heap.size w w' := by
  go_enter Tryz.func254, Tryz.ntmps254
  go_wp2
  go_ret
  exact ⟨rfl, by go_grown⟩

set_option maxRecDepth 100000 in
set_option maxHeartbeats 1000000 in
theorem eqOutS (w : World) (a b : Option Addr) (ca cb : Nat) (l : List Ou) (S : Ous w a l) (T : Ous w b l) (hl : l.length ≤ maxLen) :
    Calls Tryz.prog 217 #[.slice a l.length ca, .slice b l.length cb] w fun e w' => e = .returned (.bool true) ∧ Below w.heap.size w w' := by
  unfold maxLen at hl
  have HS := hid S
  have HT := hid T
  clear S T
  go_enter Tryz.func217, Tryz.ntmps217
  go_wp2
  go_loopw [5] (fun i wr => ∃ k : Nat, k ≤ l.length ∧ i = .int .i64 (k : Int) ∧ Hid (Below w.heap.size w wr)) (fun i _ => l.length - (intOf i).toNat)
  case atStart => exact ⟨0, Nat.zero_le _, rfl, Below.refl _ _⟩
  case round =>
    obtain ⟨k, hk, rfl, HB⟩ := hrel
    by_cases hlt : k < l.length
    · obtain ⟨b1, o1, rfl, c0, c1⟩ := Ous.at_ (HS.out.below HB.out) k hlt
      obtain ⟨b2, o2, rfl, d0, d1⟩ := Ous.at_ (HT.out.below HB.out) k hlt
      generalize l.getD k Ou.none = x at c0 c1 d0 d1
      obtain ⟨xs, xt⟩ := x
      simp only [] at c0 c1 d0 d1
      have hne : Nonempty (BW wr) := ⟨⟨wr, Below.refl _ _⟩⟩
      replace c0 := BW.cell c0
      replace c1 := BW.cell c1
      replace d0 := BW.cell d0
      replace d1 := BW.cell d1
      go_wp2
      refine wp_region_bw (by kernel_rfl) (by kernel_rfl) ?_
      repeat (go_big_quiet_step (first
        | (go_at_call 254; refine bw_below (eqOut _ xs xt))))
      refine wpQuiet_nil ?_
      intro _ hw'
      obtain ⟨u, rfl⟩ := hw'
      have HU := hid (HB.out.trans (u.bel.mono HB.out.size))
      clear c0 c1 d0 d1
      go_wp2
      exact ⟨⟨k + 1, by omega, by go_num, HU⟩, by simp [intOf]; omega⟩
    · obtain rfl : k = l.length := by omega
      go_wp2
      go_ret
      exact ⟨rfl, HB.out⟩

end Go.Proofs.YtaopkchkhdbfnaaGreatDoor.Sec
