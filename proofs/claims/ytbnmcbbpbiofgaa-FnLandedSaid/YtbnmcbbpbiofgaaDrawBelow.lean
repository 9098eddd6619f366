/-
  The walks of spec.l1Below and spec.l1Once: what they draw is settled by the code's bytes and the cursor alone, and lies below the bound. No condition but a bound that is small.
-/
import Derived.Test.YtbnmcbbpbiofgaaDrawByte
namespace Go.Proofs.Ytbnmcbbpbiofgaa.Draw
open Go.RowKit
set_option linter.unusedVariables false

/-- A call that draws a number: one answer, whatever the world, and the cursor behind it. -/
def Draws (f : FuncId) (more : List Value) (zs : List Int) (i : Nat) (h : Int) (r : Value) (i' : Nat) (h' : Int) : Prop :=
  ∀ (w : World) (cb : Nat) (a : Option Addr) (len cap : Nat), Env w cb a len cap zs i h →
    Calls Try.prog f (.pointer (some ⟨cb, 0, none⟩) :: more).toArray w fun e w' => e = .returned r ∧ Env w' cb a len cap zs i' h' ∧ w.grownBy w' (some cb)

theorem byte_draws (zs : List Int) (i : Nat) (h : Int) : Draws 41 [] zs i h (.int .i64 (nbx zs i h)) (nbi zs i) (hB h) :=
  fun w cb a len cap E => byte_any w cb a len cap zs i h E

set_option maxRecDepth 100000 in
set_option maxHeartbeats 1000000 in
theorem below_small (zs : List Int) (n : Int) (h0 : 0 < n) (h1 : n ≤ 256) (i : Nat) (h : Int) :
    Draws 28 [.int .i64 n] zs i h (.int .i64 (nbx zs i h % n)) (nbi zs i) (hB h) := by
  intro w cb a len cap E
  have hx := nbx_bd zs i h
  have HB : Hid _ := byte_any w cb a len cap zs i h E
  clear E
  show Calls Try.prog 28 #[.pointer (some ⟨cb, 0, none⟩), .int .i64 n] w _
  generalize nbx zs i h = x at *
  go_enter Try.func28, Try.ntmps28
  go_wp2_with fail
  refine Calls.mono HB.out ?_
  rintro e w1 ⟨rfl, hE, hg⟩
  have HE : Hid _ := hE
  clear hE
  go_wp2
  go_ret
  exact ⟨rfl, HE.out, hg⟩

set_option maxRecDepth 100000 in
set_option maxHeartbeats 2000000 in
theorem below_great (zs : List Int) (n : Int) (h0 : 256 < n) (h1 : n ≤ 1000000000) (i : Nat) (h : Int) :
    ∃ (x : Int) (i' : Nat) (h' : Int), 0 ≤ x ∧ x < n ∧ Draws 28 [.int .i64 n] zs i h (.int .i64 x) i' h' := by
  refine ⟨(nbx zs i h * 16777216 + nbx zs (nbi zs i) (hB h) * 65536 + nbx zs (nbi zs (nbi zs i)) (hB (hB h)) * 256 + nbx zs (nbi zs (nbi zs (nbi zs i))) (hB (hB (hB h)))) % n, nbi zs (nbi zs (nbi zs (nbi zs i))), hB (hB (hB (hB h))), Int.emod_nonneg _ (by omega), Int.emod_lt_of_pos _ (by omega), ?_⟩
  intro w cb a len cap E
  have hx1 := nbx_bd zs i h
  have hx2 := nbx_bd zs (nbi zs i) (hB h)
  have hx3 := nbx_bd zs (nbi zs (nbi zs i)) (hB (hB h))
  have hx4 := nbx_bd zs (nbi zs (nbi zs (nbi zs i))) (hB (hB (hB h)))
  show Calls Try.prog 28 #[.pointer (some ⟨cb, 0, none⟩), .int .i64 n] w _
  have HB1 : Hid (∀ w, Env w cb a len cap zs i h → _) := fun w E => byte_any w cb a len cap zs i h E
  have HB2 : Hid (∀ w, Env w cb a len cap zs (nbi zs i) (hB h) → _) := fun w E => byte_any w cb a len cap zs (nbi zs i) (hB h) E
  have HB3 : Hid (∀ w, Env w cb a len cap zs (nbi zs (nbi zs i)) (hB (hB h)) → _) := fun w E => byte_any w cb a len cap zs (nbi zs (nbi zs i)) (hB (hB h)) E
  have HB4 : Hid (∀ w, Env w cb a len cap zs (nbi zs (nbi zs (nbi zs i))) (hB (hB (hB h))) → _) := fun w E => byte_any w cb a len cap zs (nbi zs (nbi zs (nbi zs i))) (hB (hB (hB h))) E
  have HE : Hid _ := E
  clear E
  generalize nbx zs i h = x1 at *
  generalize nbx zs (nbi zs i) (hB h) = x2 at *
  generalize nbx zs (nbi zs (nbi zs i)) (hB (hB h)) = x3 at *
  generalize nbx zs (nbi zs (nbi zs (nbi zs i))) (hB (hB (hB h))) = x4 at *
  go_enter Try.func28, Try.ntmps28
  go_wp2_with fail
  refine Calls.mono (HB1.out _ HE.out) ?_
  rintro e w1 ⟨rfl, hE1, hg1⟩
  have HE1 : Hid _ := hE1
  have HG1 : Hid _ := hg1
  clear hE1 hg1
  go_wp2_with fail
  refine Calls.mono (HB2.out _ HE1.out) ?_
  rintro e w2 ⟨rfl, hE2, hg2⟩
  have HE2 : Hid _ := hE2
  have HG2 : Hid _ := grown_trans HG1.out hg2
  clear hE2 hg2
  go_wp2_with fail
  refine Calls.mono (HB3.out _ HE2.out) ?_
  rintro e w3 ⟨rfl, hE3, hg3⟩
  have HE3 : Hid _ := hE3
  have HG3 : Hid _ := grown_trans HG2.out hg3
  clear hE3 hg3
  go_wp2_with fail
  refine Calls.mono (HB4.out _ HE3.out) ?_
  rintro e w4 ⟨rfl, hE4, hg4⟩
  have HE4 : Hid _ := hE4
  have HG4 : Hid _ := grown_trans HG3.out hg4
  clear hE4 hg4
  go_wp2
  go_ret
  exact ⟨rfl, HE4.out, HG4.out⟩

/-- One answer, below n. -/
theorem below_draws (zs : List Int) (n : Int) (h0 : 0 < n) (h1 : n ≤ 1000000000) (i : Nat) (h : Int) :
    ∃ (x : Int) (i' : Nat) (h' : Int), 0 ≤ x ∧ x < n ∧ Draws 28 [.int .i64 n] zs i h (.int .i64 x) i' h' := by
  by_cases hn : n ≤ 256
  · have hx := nbx_bd zs i h
    exact ⟨nbx zs i h % n, nbi zs i, hB h, Int.emod_nonneg _ (by omega), Int.emod_lt_of_pos _ h0, below_small zs n h0 hn i h⟩
  · exact below_great zs n (by omega) h1 i h

set_option maxRecDepth 100000 in
set_option maxHeartbeats 1000000 in
theorem once_draws (zs : List Int) (i : Nat) (h : Int) :
    ∃ (b : Bool) (i' : Nat) (h' : Int), Draws 27 [.int .i64 4] zs i h (.bool b) i' h' := by
  obtain ⟨x, i', h', hx0, hx1, hd⟩ := below_draws zs 4 (by omega) (by omega) i h
  refine ⟨x == 0, i', h', ?_⟩
  intro w cb a len cap E
  show Calls Try.prog 27 #[.pointer (some ⟨cb, 0, none⟩), .int .i64 4] w _
  have HD : Hid (Calls Try.prog 28 #[.pointer (some ⟨cb, 0, none⟩), .int .i64 4] w _) := hd w cb a len cap E
  clear hd E
  go_enter Try.func27, Try.ntmps27
  go_wp2_with fail
  refine Calls.mono HD.out ?_
  rintro e w1 ⟨rfl, hE, hg⟩
  have HE : Hid _ := hE
  clear hE
  go_wp2
  go_ret
  exact ⟨rfl, HE.out, hg⟩

end Go.Proofs.Ytbnmcbbpbiofgaa.Draw
