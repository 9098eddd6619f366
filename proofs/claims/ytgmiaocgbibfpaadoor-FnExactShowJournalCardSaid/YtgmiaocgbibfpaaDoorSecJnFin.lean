/-
  The walk of laws.FnExactShowJournal: the law answers true, and nothing that was there is changed. Condition: the table of sixteen sums holds what the program's text lays.
-/
import Derived.Test.YtgmiaocgbibfpaaDoorSecJnEq
namespace Go.Proofs.YtgmiaocgbibfpaaDoor.Sec
open Go.RowKit Go.Proofs.YtgmiaocgbibfpaaDoor.Mem
set_option linter.unusedVariables false

set_option maxRecDepth 100000 in
set_option maxHeartbeats 4000000 in
theorem lawShowJournal (w : World) (J : Jn) (a : Option Addr) (cap : Nat) (S : Ous w a J.outs) (hh : J.Held) (T : Sums w) :
    Calls Tryd.prog 8 #[jnV J a cap] w fun r w' => r = .returned (.bool true) ∧ Below w.heap.size w w' := by
  have HV : Hid (∀ a c, jnV J a c = .agg (J.cells a c).toArray) := fun _ _ => rfl
  have HC : Hid (∀ a c, (J.cells a c).toArray = #[.int .i64 J.txn, .bool J.done, .int .i64 J.kind, .int .i64 J.vol, .int .i64 J.to, .int .i64 J.at_, .string J.text, .slice a J.outs.length c]) := fun _ _ => rfl
  have HH := hid hh
  have HS := hid S
  have HT := hid T
  clear S T hh
  rw [HV.out, HC.out]
  obtain ⟨wa, hwa, ez, A0, B0⟩ := one_new w (J.cells a cap) 61
  rw [HC.out] at hwa
  have k0 : wa.cell? ⟨w.heap.size, 0, none⟩ = some (.int .i64 J.txn) := A0.c 0 rfl
  have k1 : wa.cell? ⟨w.heap.size, 1, none⟩ = some (.bool J.done) := A0.c 1 rfl
  have k2 : wa.cell? ⟨w.heap.size, 2, none⟩ = some (.int .i64 J.kind) := A0.c 2 rfl
  have k3 : wa.cell? ⟨w.heap.size, 3, none⟩ = some (.int .i64 J.vol) := A0.c 3 rfl
  have k4 : wa.cell? ⟨w.heap.size, 4, none⟩ = some (.int .i64 J.to) := A0.c 4 rfl
  have k5 : wa.cell? ⟨w.heap.size, 5, none⟩ = some (.int .i64 J.at_) := A0.c 5 rfl
  have k6 : wa.cell? ⟨w.heap.size, 6, none⟩ = some (.string J.text) := A0.c 6 rfl
  have k7 : wa.cell? ⟨w.heap.size, 7, none⟩ = some (.slice a J.outs.length cap) := A0.c 7 rfl
  have HA := hid A0
  have HB := hid B0
  clear A0 B0
  go_enter Tryd.func8, Tryd.ntmps8
  go_wp2_with fail
  refine (szJournal wa J a cap (HS.out.below HB.out) HH.out).mono ?_
  rintro r w1 ⟨z, rfl, b1, hf⟩
  have HA1 := hid (HA.out.below b1 HA.out.lt)
  have HB1 := hid (HB.out.trans (b1.mono HB.out.size))
  have HF := hid hf
  clear b1 hf hwa HA HB k0 k1 k2 k3 k4 k5 k6 k7
  by_cases hz : z < 0
  · go_wp2
    go_ret
    exact ⟨rfl, HB1.out⟩
  have HSm : Hid J.Small := by
    rcases HF.out with q | q
    · omega
    · exact q
  have hl : J.outs.length ≤ 1048576 := HSm.out.outs
  have k0 : w1.cell? ⟨w.heap.size, 0, none⟩ = some (.int .i64 J.txn) := HA1.out.c 0 rfl
  have k1 : w1.cell? ⟨w.heap.size, 1, none⟩ = some (.bool J.done) := HA1.out.c 1 rfl
  have k2 : w1.cell? ⟨w.heap.size, 2, none⟩ = some (.int .i64 J.kind) := HA1.out.c 2 rfl
  have k3 : w1.cell? ⟨w.heap.size, 3, none⟩ = some (.int .i64 J.vol) := HA1.out.c 3 rfl
  have k4 : w1.cell? ⟨w.heap.size, 4, none⟩ = some (.int .i64 J.to) := HA1.out.c 4 rfl
  have k5 : w1.cell? ⟨w.heap.size, 5, none⟩ = some (.int .i64 J.at_) := HA1.out.c 5 rfl
  have k6 : w1.cell? ⟨w.heap.size, 6, none⟩ = some (.string J.text) := HA1.out.c 6 rfl
  have k7 : w1.cell? ⟨w.heap.size, 7, none⟩ = some (.slice a J.outs.length cap) := HA1.out.c 7 rfl
  go_wp2_with fail
  refine (toJournal w1 J a cap (HS.out.below HB1.out) hl).mono ?_
  rintro r w2 ⟨g2, rfl, hg2, hl2, S2, b2⟩
  rw [HV.out, HC.out]
  have HA2 := hid (HA1.out.below b2 HA1.out.lt)
  have HB2 := hid (HB1.out.trans (b2.mono HB1.out.size))
  have HS2 := hid S2.sl
  clear b2 S2 HA1 HB1 k0 k1 k2 k3 k4 k5 k6 k7
  go_wp2_with fail
  refine (sShowJournal w2 J _ _ HS2.out HSm.out).mono ?_
  rintro r w3 ⟨rfl, b3⟩
  have HA3 := hid (HA2.out.below b3 HA2.out.lt)
  have HB3 := hid (HB2.out.trans (b3.mono HB2.out.size))
  have k0 : w3.cell? ⟨w.heap.size, 0, none⟩ = some (.int .i64 J.txn) := HA3.out.c 0 rfl
  have k1 : w3.cell? ⟨w.heap.size, 1, none⟩ = some (.bool J.done) := HA3.out.c 1 rfl
  have k2 : w3.cell? ⟨w.heap.size, 2, none⟩ = some (.int .i64 J.kind) := HA3.out.c 2 rfl
  have k3 : w3.cell? ⟨w.heap.size, 3, none⟩ = some (.int .i64 J.vol) := HA3.out.c 3 rfl
  have k4 : w3.cell? ⟨w.heap.size, 4, none⟩ = some (.int .i64 J.to) := HA3.out.c 4 rfl
  have k5 : w3.cell? ⟨w.heap.size, 5, none⟩ = some (.int .i64 J.at_) := HA3.out.c 5 rfl
  have k6 : w3.cell? ⟨w.heap.size, 6, none⟩ = some (.string J.text) := HA3.out.c 6 rfl
  have k7 : w3.cell? ⟨w.heap.size, 7, none⟩ = some (.slice a J.outs.length cap) := HA3.out.c 7 rfl
  clear b3 HA2 HB2 HS2
  go_wp2_with fail
  refine (toJournal w3 J a cap (HS.out.below HB3.out) hl).mono ?_
  rintro r w4 ⟨g4, rfl, hg4, hl4, S4, b4⟩
  rw [HV.out, HC.out]
  have HA4 := hid (HA3.out.below b4 HA3.out.lt)
  have HB4 := hid (HB3.out.trans (b4.mono HB3.out.size))
  have HS4 := hid S4.sl
  clear b4 S4 HA3 HB3 k0 k1 k2 k3 k4 k5 k6 k7
  go_wp2_with fail
  obtain ⟨w5, hw5, ez5, X0, B5⟩ := one_new w4 (J.cells (some ⟨g4, 0, none⟩) J.outs.length) 67
  rw [HC.out] at hw5
  simp only [hw5]
  have HA5 := hid (HA4.out.below B5 HA4.out.lt)
  have HB5 := hid (HB4.out.trans (B5.mono HB4.out.size))
  have HS5 := hid (HS4.out.below B5)
  have HX5 := hid X0
  clear X0 B5 HA4 HB4 HS4 hw5
  refine (iShowJournal w5 J _ _ HS5.out HSm.out (HT.out.below HB5.out)).mono ?_
  rintro r w6 ⟨rfl, b6⟩
  have HA6 := hid (HA5.out.below b6 HA5.out.lt)
  have HB6 := hid (HB5.out.trans (b6.mono HB5.out.size))
  have HS6 := hid (HS5.out.below b6)
  have HX6 := hid (HX5.out.below b6 HX5.out.lt)
  clear b6 HA5 HB5 HS5 HX5
  generalize J.show = q
  go_wp2
  have k0 : w6.cell? ⟨w.heap.size, 0, none⟩ = some (.int .i64 J.txn) := HA6.out.c 0 rfl
  have k1 : w6.cell? ⟨w.heap.size, 1, none⟩ = some (.bool J.done) := HA6.out.c 1 rfl
  have k2 : w6.cell? ⟨w.heap.size, 2, none⟩ = some (.int .i64 J.kind) := HA6.out.c 2 rfl
  have k3 : w6.cell? ⟨w.heap.size, 3, none⟩ = some (.int .i64 J.vol) := HA6.out.c 3 rfl
  have k4 : w6.cell? ⟨w.heap.size, 4, none⟩ = some (.int .i64 J.to) := HA6.out.c 4 rfl
  have k5 : w6.cell? ⟨w.heap.size, 5, none⟩ = some (.int .i64 J.at_) := HA6.out.c 5 rfl
  have k6 : w6.cell? ⟨w.heap.size, 6, none⟩ = some (.string J.text) := HA6.out.c 6 rfl
  have k7 : w6.cell? ⟨w.heap.size, 7, none⟩ = some (.slice a J.outs.length cap) := HA6.out.c 7 rfl
  have m0 : w6.cell? ⟨w4.heap.size, 0, none⟩ = some (.int .i64 J.txn) := HX6.out.c 0 rfl
  have m1 : w6.cell? ⟨w4.heap.size, 1, none⟩ = some (.bool J.done) := HX6.out.c 1 rfl
  have m2 : w6.cell? ⟨w4.heap.size, 2, none⟩ = some (.int .i64 J.kind) := HX6.out.c 2 rfl
  have m3 : w6.cell? ⟨w4.heap.size, 3, none⟩ = some (.int .i64 J.vol) := HX6.out.c 3 rfl
  have m4 : w6.cell? ⟨w4.heap.size, 4, none⟩ = some (.int .i64 J.to) := HX6.out.c 4 rfl
  have m5 : w6.cell? ⟨w4.heap.size, 5, none⟩ = some (.int .i64 J.at_) := HX6.out.c 5 rfl
  have m6 : w6.cell? ⟨w4.heap.size, 6, none⟩ = some (.string J.text) := HX6.out.c 6 rfl
  have m7 : w6.cell? ⟨w4.heap.size, 7, none⟩ = some (.slice (some ⟨g4, 0, none⟩) J.outs.length J.outs.length) := HX6.out.c 7 rfl
  go_region_with (first
    | (go_at_call 30; refine (toJournal _ J a cap (HS.out.below HB6.out.drew) hl).mono ?_; rintro r w7 ⟨g7, rfl, hg7, hl7, S7, b7'⟩; rw [HV.out, HC.out]; have b7 := undrew b7'; have HX7 := hid (HX6.out.below b7 HX6.out.lt); have n0 : w7.cell? ⟨w4.heap.size, 0, none⟩ = some (.int .i64 J.txn) := HX7.out.c 0 rfl; have n1 : w7.cell? ⟨w4.heap.size, 1, none⟩ = some (.bool J.done) := HX7.out.c 1 rfl; have n2 : w7.cell? ⟨w4.heap.size, 2, none⟩ = some (.int .i64 J.kind) := HX7.out.c 2 rfl; have n3 : w7.cell? ⟨w4.heap.size, 3, none⟩ = some (.int .i64 J.vol) := HX7.out.c 3 rfl; have n4 : w7.cell? ⟨w4.heap.size, 4, none⟩ = some (.int .i64 J.to) := HX7.out.c 4 rfl; have n5 : w7.cell? ⟨w4.heap.size, 5, none⟩ = some (.int .i64 J.at_) := HX7.out.c 5 rfl; have n6 : w7.cell? ⟨w4.heap.size, 6, none⟩ = some (.string J.text) := HX7.out.c 6 rfl; have n7 : w7.cell? ⟨w4.heap.size, 7, none⟩ = some (.slice (some ⟨g4, 0, none⟩) J.outs.length J.outs.length) := HX7.out.c 7 rfl)
    | (go_at_call 32; refine (eqJournal _ J _ _ _ _ (HS6.out.below b7) S7.sl HH.out.outs).mono ?_; rintro r w8 ⟨rfl, b8⟩))
  all_goals (have HB8 := hid ((HB6.out.trans (b7.mono HB6.out.size)).trans (b8.mono (Nat.le_trans HB6.out.size b7.size))); clear b7 b7' b8 S7 n0 n1 n2 n3 n4 n5 n6 n7 m0 m1 m2 m3 m4 m5 m6 m7 k0 k1 k2 k3 k4 k5 k6 k7; go_wp2; go_ret; exact ⟨rfl, HB8.out⟩)

end Go.Proofs.YtgmiaocgbibfpaaDoor.Sec
