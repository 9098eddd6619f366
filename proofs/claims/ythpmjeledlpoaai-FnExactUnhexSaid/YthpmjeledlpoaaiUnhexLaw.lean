/-
  The walk of laws.FnExactUnhex: at every text the law answers true, and nothing that was there is changed. No condition.
-/
import Derived.Test.YthpmjeledlpoaaiUnhexImpl
namespace Go.Proofs.Ythpmjeledlpoaai.Hex
open Go.RowKit

/-- One answer for both. -/
theorem unhex_both (s : ByteArray) (hs : s.size ≤ 1048576) : ∃ (x : ByteArray) (b : Bool), (∀ w : World, Calls Try.prog 14 #[.string s] w fun e w' => e = .returned (.tuple #[.string x, .bool b]) ∧ Below w.heap.size w w') ∧
    (∀ w : World, Calls Try.prog 15 #[.string s] w fun e w' => e = .returned (.tuple #[.string x, .bool b]) ∧ Below w.heap.size w w') := by
  by_cases ho : s.size % 2 = 1
  · exact ⟨_, _, fun w => spec_odd s w hs ho, fun w => impl_odd s w hs ho⟩
  · have hn : s.size = 2 * (s.size / 2) := by omega
    rcases first_bad s (s.size / 2) with h | ⟨m, h1, h2, h3⟩
    · exact ⟨_, _, fun w => spec_all s _ w hs hn h, fun w => impl_all s _ w hs hn h⟩
    · exact ⟨_, _, fun w => spec_bad s _ m w hs hn h1 h2 h3, fun w => impl_bad s _ m w hs hn h1 h2 h3⟩

set_option maxHeartbeats 400000 in
theorem unhex_law (a0 : ByteArray) (w : World) (w0 : a0.size ≤ maxLen) :
    Calls Try.prog 6 #[.string a0] w fun e w' => e = .returned (.bool true) ∧ Below w.heap.size w w' := by
  unfold maxLen at w0
  by_cases hb : (1048576 : Int) < (a0.size : Int)
  · go_enter Try.func6, Try.ntmps6
    go_wp2
    go_ret
    exact ⟨rfl, Below.refl _ _⟩
  · have hs : a0.size ≤ 1048576 := by omega
    obtain ⟨x, b, hS, hI⟩ := unhex_both a0 hs
    have HS : Hid _ := hS
    have HI : Hid _ := hI
    clear hS hI
    go_enter Try.func6, Try.ntmps6
    go_wp2_with fail
    refine (HS.out _).mono ?_
    rintro e w1 ⟨rfl, hb1⟩
    go_wp2_with fail
    refine (HI.out _).mono ?_
    rintro e w2 ⟨rfl, hb2⟩
    go_wp2
    go_ret
    exact ⟨rfl, hb1.trans (hb2.mono hb1.size)⟩

end Go.Proofs.Ythpmjeledlpoaai.Hex
