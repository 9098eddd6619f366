/-
  The walk of laws.FnExactReadDec: at every text the law answers true, and nothing that was there is changed. No condition.
-/
import Derived.Test.YthpmjeledlpoaaiReadDecImpl
import Derived.Test.YthpmjeledlpoaaiReadDecSpec
namespace Go.Proofs.Ythpmjeledlpoaai.Dec
open Go.RowKit
open Go.Proofs.Ythpmjeledlpoaai.Hex (bt bt_eq bt_bd)
set_option linter.unusedVariables false

/-- Where it is not taken, there is a first byte at which it is left. -/
theorem first_no (d : ByteArray) (ls : Nat) (h1 : 1 ≤ d.size) (h9 : d.size ≤ 9) (h : ¬ Take d ls) :
    ∃ m, m < d.size ∧ (∀ j, j < m → 48 ≤ bt d j ∧ bt d j ≤ 57) ∧ (0 < m → ¬ (bt d 0 = 48 ∧ 1 < ls)) ∧ (bt d m < 48 ∨ 57 < bt d m ∨ (m = 0 ∧ bt d m = 48 ∧ 1 < ls)) := by
  by_cases h0 : bt d 0 = 48 ∧ 1 < ls
  · exact ⟨0, by omega, fun j hj => by omega, fun h => by omega, Or.inr (Or.inr ⟨rfl, h0.1, h0.2⟩)⟩
  · have key : ∀ n, n ≤ d.size → (∀ j, j < n → 48 ≤ bt d j ∧ bt d j ≤ 57) ∨ ∃ m, m < n ∧ (∀ j, j < m → 48 ≤ bt d j ∧ bt d j ≤ 57) ∧ (bt d m < 48 ∨ 57 < bt d m) := by
      intro n
      induction n with
      | zero => intro _; exact Or.inl (fun j hj => by omega)
      | succ n ih =>
        intro hn
        rcases ih (by omega) with hh | ⟨m, a, b, c⟩
        · by_cases hd : 48 ≤ bt d n ∧ bt d n ≤ 57
          · refine Or.inl (fun j hj => ?_)
            by_cases e : j = n
            · subst e; exact hd
            · exact hh j (by omega)
          · exact Or.inr ⟨n, by omega, hh, by omega⟩
        · exact Or.inr ⟨m, by omega, b, c⟩
    rcases key d.size (Nat.le_refl _) with hh | ⟨m, a, b, c⟩
    · exact absurd ⟨h1, h9, hh, h0⟩ h
    · exact ⟨m, a, b, fun _ => h0, by omega⟩

/-- One answer for both. -/
theorem read_both (s : ByteArray) (hs : s.size ≤ maxLen) : ∃ (x : Int) (b : Bool), (∀ w : World, Calls Try.prog 16 #[.string s] w fun e w' => e = .returned (.tuple #[.int .i64 x, .bool b]) ∧ Below w.heap.size w w') ∧
    (∀ w : World, Calls Try.prog 17 #[.string s] w fun e w' => e = .returned (.tuple #[.int .i64 x, .bool b]) ∧ w' = w) := by
  obtain ⟨d, b, hc, hd, hcut⟩ := cut_any s hs
  by_cases ht : Take d s.size
  · obtain ⟨h1, h2⟩ := take_sp s d b hc ht
    refine ⟨spN s, true, fun w => spec_read s w hs _ _ (Or.inl ⟨h1, rfl, rfl⟩), fun w => ?_⟩
    rw [h2]
    exact impl_take s d b ht.1 ht.2.1 ht.2.2.1 ht.2.2.2 w hs hd hcut
  · have hn : ¬ SpTake s := fun h => ht (sp_take s d b hc h)
    refine ⟨0, false, fun w => spec_read s w hs _ _ (Or.inr ⟨hn, rfl, rfl⟩), fun w => ?_⟩
    by_cases hl : d.size = 0 ∨ 9 < d.size
    · exact impl_len s d b w hs hd hcut hl
    · obtain ⟨m, a1, a2, a3, a4⟩ := first_no d s.size (by omega) (by omega) ht
      exact impl_bad s d b m (by omega) a1 a2 a3 a4 w hs hd hcut

set_option maxHeartbeats 400000 in
theorem read_law (a0 : ByteArray) (w : World) (w0 : a0.size ≤ maxLen) :
    Calls Try.prog 7 #[.string a0] w fun e w' => e = .returned (.bool true) ∧ Below w.heap.size w w' := by
  by_cases hb : (1048576 : Int) < (a0.size : Int)
  · go_enter Try.func7, Try.ntmps7
    go_wp2
    go_ret
    exact ⟨rfl, Below.refl _ _⟩
  · obtain ⟨x, b, hS, hI⟩ := read_both a0 w0
    have HS : Hid _ := hS
    have HI : Hid _ := hI
    clear hS hI
    go_enter Try.func7, Try.ntmps7
    go_wp2_with fail
    refine (HS.out _).mono ?_
    rintro e w1 ⟨rfl, hb1⟩
    go_wp2_with fail
    refine (HI.out _).mono ?_
    rintro e w2 ⟨rfl, hw⟩
    obtain rfl : w1 = w2 := hw.symm
    go_wp2
    go_ret
    exact ⟨rfl, hb1⟩

end Go.Proofs.Ythpmjeledlpoaai.Dec
