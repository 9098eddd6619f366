/-
  The walks of spec.DrawVar, spec.DrawHex and spec.DrawReadVar: what they draw is settled by the code's bytes alone. No condition but a code of at most 1048576 bytes.
-/
import Derived.Test.YthpmjeledlpoaabDoorDrawSpoil3
import Derived.Test.YthpmjeledlpoaabDoorVarWalks
namespace Go.Proofs.YthpmjeledlpoaabDoor.Draw
open Go.RowKit
set_option linter.unusedVariables false

/-- A function of the code: one answer, whatever the world, and nothing that was there is turned. -/
def Gives (f : FuncId) (zs : List Int) (r : Value) : Prop :=
  ∀ (w : World) (a : Option Addr) (len cap : Nat), Code w a len cap zs → Calls Tryd.prog f #[.slice a len cap] w fun e w' => e = .returned r ∧ Below w.heap.size w w'

theorem below_of {w w1 w2 : World} (hb : Below w.heap.size w w1) (hg : w1.grownBy w2 (some w.heap.size)) : Below w.heap.size w w2 :=
  ⟨hg.os.trans hb.os, hg.tape.trans hb.tape, hg.output.trans hb.output, Nat.le_trans hb.size hg.size, fun k hk => (hg.block k (Nat.lt_of_lt_of_le hk hb.size) (by simp; omega)).trans (hb.block k hk)⟩

set_option maxRecDepth 100000 in
set_option maxHeartbeats 1000000 in
theorem drawVar (zs : List Int) : ∃ n : Int, -9223372036854775808 ≤ n ∧ n ≤ 9223372036854775807 ∧ Gives 5 zs (.int .i64 n) := by
  obtain ⟨n, i1, h1, hn0, hn1, d1⟩ := num_draws zs 0 (hN zs zs.length (min zs.length 4000))
  refine ⟨n, hn0, hn1, ?_⟩
  have HD1 := Own.hid d1
  clear d1
  intro w a len cap C
  have hl := C.hl
  subst hl
  have HN := Own.hid (new_any w a zs.length cap zs C)
  clear C
  go_enter Tryd.func5, Tryd.ntmps5
  go_wp2_with fail
  refine Calls.mono HN.out ?_
  rintro e w1 ⟨rfl, hE, hb⟩
  have HE1 := Own.hid hE
  have HB1 := Own.hid hb
  clear hE hb
  go_wp2_with fail
  refine Calls.mono (HD1.out _ _ a zs.length cap HE1.out) ?_
  rintro e w2 ⟨rfl, hE, hg⟩
  have HB2 := Own.hid (below_of HB1.out hg)
  clear hE hg
  go_wp2
  go_ret
  exact ⟨rfl, HB2.out⟩

set_option maxRecDepth 100000 in
set_option maxHeartbeats 1000000 in
theorem drawHex (zs : List Int) : ∃ s : ByteArray, s.size ≤ 40 ∧ Gives 6 zs (.string s) := by
  obtain ⟨s, i1, h1, hs, d1⟩ := text_draws zs 40 (by omega) (by omega) 0 (hN zs zs.length (min zs.length 4000))
  refine ⟨s, hs, ?_⟩
  have HD1 := Own.hid d1
  clear d1
  intro w a len cap C
  have hl := C.hl
  subst hl
  have HN := Own.hid (new_any w a zs.length cap zs C)
  clear C
  go_enter Tryd.func6, Tryd.ntmps6
  go_wp2_with fail
  refine Calls.mono HN.out ?_
  rintro e w1 ⟨rfl, hE, hb⟩
  have HE1 := Own.hid hE
  have HB1 := Own.hid hb
  clear hE hb
  go_wp2_with fail
  refine Calls.mono (HD1.out _ _ a zs.length cap HE1.out) ?_
  rintro e w2 ⟨rfl, hE, hg⟩
  have HB2 := Own.hid (below_of HB1.out hg)
  clear hE hg
  go_wp2
  go_ret
  exact ⟨rfl, HB2.out⟩

/-- spec.Var at any number: a text of at most seven bytes. -/
theorem var_any (n : Int) : ∃ s : ByteArray, s.size ≤ 7 ∧ ∀ w : World, Calls Tryd.prog 23 #[.int .i64 n] w fun e w' => e = .returned (.string s) ∧ Below w.heap.size w w' := by
  by_cases h : n < 0 ∨ 562949953421311 < n
  · exact ⟨⟨#[]⟩, by decide, fun w => Var.spec_no n w h⟩
  · refine ⟨Var.varS n, ?_, fun w => Var.spec_yes n w (by omega) (by omega)⟩
    rw [Var.varS, strOfNums_size]
    have key : ∀ f q, (Var.varL f q).length ≤ f := by
      intro f
      induction f with
      | zero => intro q; simp [Var.varL]
      | succ f ih =>
        intro q
        rw [Var.varL]
        split
        · simp only [List.length_cons]; have := ih (q / 128); omega
        · simp
    exact key 7 n

set_option maxRecDepth 100000 in
set_option maxHeartbeats 1000000 in
theorem readVar_plain (zs : List Int) (n : Int) (s1 s2 : ByteArray) (b : Bool) (i1 i2 i3 : Nat) (h1 h2 h3 : Int) (q1 : s1.size ≤ 7) (q2 : s2.size ≤ 40)
    (d1 : Draws 17 [] zs 0 (hN zs zs.length (min zs.length 4000)) (.int .i64 n) i1 h1)
    (dv : ∀ w : World, Calls Tryd.prog 23 #[.int .i64 n] w fun e w' => e = .returned (.string s1) ∧ Below w.heap.size w w')
    (d2 : Draws 18 [.int .i64 4] zs i1 h1 (.string s2) i2 h2)
    (d3 : Draws 24 [.int .i64 4] zs i2 h2 (.bool b) i3 h3) (hb0 : b = false) :
    Gives 15 zs (.string (s1 ++ s2)) := by
  subst hb0
  have HD1 := Own.hid d1
  have HV := Own.hid dv
  have HD2 := Own.hid d2
  have HD3 := Own.hid d3
  clear d1 dv d2 d3
  intro w a len cap C
  have hl := C.hl
  subst hl
  have HN := Own.hid (new_any w a zs.length cap zs C)
  clear C
  go_enter Tryd.func15, Tryd.ntmps15
  go_wp2_with fail
  refine Calls.mono HN.out ?_
  rintro e w1 ⟨rfl, hE, hb⟩
  have HE1 := Own.hid hE
  have HB1 := Own.hid hb
  clear hE hb
  go_wp2_with fail
  refine Calls.mono (HD1.out _ _ a zs.length cap HE1.out) ?_
  rintro e w2 ⟨rfl, hE, hg⟩
  have HE2 := Own.hid hE
  have HB2 := Own.hid (below_of HB1.out hg)
  clear hE hg HE1 HB1
  go_wp2_with fail
  refine Calls.mono (HV.out _) ?_
  rintro e w3 ⟨rfl, hb⟩
  have HE3 := Own.hid (HE2.out.below HE2.out hb)
  have HB3 := Own.hid (HB2.out.trans (hb.mono HB2.out.size))
  clear hb HE2 HB2
  go_wp2_with fail
  refine Calls.mono (HD2.out _ _ a zs.length cap HE3.out) ?_
  rintro e w4 ⟨rfl, hE, hg⟩
  have HE4 := Own.hid hE
  have HB4 := Own.hid (below_of HB3.out hg)
  clear hE hg HE3 HB3
  go_wp2_with fail
  refine Calls.mono (HD3.out _ _ a zs.length cap HE4.out) ?_
  rintro e w5 ⟨rfl, hE, hg⟩
  have HE5 := Own.hid hE
  have HB5 := Own.hid (below_of HB4.out hg)
  clear hE hg HE4 HB4
  go_wp2
  go_ret
  exact ⟨rfl, HB5.out⟩

set_option maxRecDepth 100000 in
set_option maxHeartbeats 1000000 in
theorem readVar_spoilt (zs : List Int) (n : Int) (s1 s2 : ByteArray) (b : Bool) (i1 i2 i3 : Nat) (h1 h2 h3 : Int) (q1 : s1.size ≤ 7) (q2 : s2.size ≤ 40)
    (d1 : Draws 17 [] zs 0 (hN zs zs.length (min zs.length 4000)) (.int .i64 n) i1 h1)
    (dv : ∀ w : World, Calls Tryd.prog 23 #[.int .i64 n] w fun e w' => e = .returned (.string s1) ∧ Below w.heap.size w w')
    (d2 : Draws 18 [.int .i64 4] zs i1 h1 (.string s2) i2 h2)
    (d3 : Draws 24 [.int .i64 4] zs i2 h2 (.bool b) i3 h3) (hb0 : b = true) (r : ByteArray) (i4 : Nat) (h4 : Int)
    (d4 : Draws 25 [.string (s1 ++ s2)] zs i3 h3 (.string r) i4 h4) :
    Gives 15 zs (.string r) := by
  subst hb0
  have HD4 := Own.hid d4
  clear d4
  have HD1 := Own.hid d1
  have HV := Own.hid dv
  have HD2 := Own.hid d2
  have HD3 := Own.hid d3
  clear d1 dv d2 d3
  intro w a len cap C
  have hl := C.hl
  subst hl
  have HN := Own.hid (new_any w a zs.length cap zs C)
  clear C
  go_enter Tryd.func15, Tryd.ntmps15
  go_wp2_with fail
  refine Calls.mono HN.out ?_
  rintro e w1 ⟨rfl, hE, hb⟩
  have HE1 := Own.hid hE
  have HB1 := Own.hid hb
  clear hE hb
  go_wp2_with fail
  refine Calls.mono (HD1.out _ _ a zs.length cap HE1.out) ?_
  rintro e w2 ⟨rfl, hE, hg⟩
  have HE2 := Own.hid hE
  have HB2 := Own.hid (below_of HB1.out hg)
  clear hE hg HE1 HB1
  go_wp2_with fail
  refine Calls.mono (HV.out _) ?_
  rintro e w3 ⟨rfl, hb⟩
  have HE3 := Own.hid (HE2.out.below HE2.out hb)
  have HB3 := Own.hid (HB2.out.trans (hb.mono HB2.out.size))
  clear hb HE2 HB2
  go_wp2_with fail
  refine Calls.mono (HD2.out _ _ a zs.length cap HE3.out) ?_
  rintro e w4 ⟨rfl, hE, hg⟩
  have HE4 := Own.hid hE
  have HB4 := Own.hid (below_of HB3.out hg)
  clear hE hg HE3 HB3
  go_wp2_with fail
  refine Calls.mono (HD3.out _ _ a zs.length cap HE4.out) ?_
  rintro e w5 ⟨rfl, hE, hg⟩
  have HE5 := Own.hid hE
  have HB5 := Own.hid (below_of HB4.out hg)
  clear hE hg HE4 HB4
  go_wp2_with fail
  refine Calls.mono (HD4.out _ _ a zs.length cap HE5.out) ?_
  rintro e w6 ⟨rfl, hE, hg⟩
  have HB6 := Own.hid (below_of HB5.out hg)
  clear hE hg HE5 HB5
  go_wp2
  go_ret
  exact ⟨rfl, HB6.out⟩

theorem drawReadVar (zs : List Int) : ∃ s : ByteArray, s.size ≤ 3000 ∧ Gives 15 zs (.string s) := by
  obtain ⟨n, i1, h1, hn0, hn1, d1⟩ := num_draws zs 0 (hN zs zs.length (min zs.length 4000))
  obtain ⟨s1, q1, dv⟩ := var_any n
  obtain ⟨s2, i2, h2, q2, d2⟩ := text_draws zs 4 (by omega) (by omega) i1 h1
  obtain ⟨b, i3, h3, d3⟩ := once_draws zs i2 h2
  cases b with
  | false => exact ⟨s1 ++ s2, by rw [ByteArray.size_append]; omega, readVar_plain zs n s1 s2 false i1 i2 i3 h1 h2 h3 q1 q2 d1 dv d2 d3 rfl⟩
  | true =>
    obtain ⟨r, i4, h4, hr, d4⟩ := spoil_draws zs (s1 ++ s2) (by rw [ByteArray.size_append]; omega) i3 h3
    exact ⟨r, hr, readVar_spoilt zs n s1 s2 true i1 i2 i3 h1 h2 h3 q1 q2 d1 dv d2 d3 rfl r i4 h4 d4⟩

end Go.Proofs.YthpmjeledlpoaabDoor.Draw
