/-
  A call that comes in as an argument, and the walk of laws.FnExactOpOk: the law answers true, and nothing that was there is changed. No condition.
-/
import Derived.Test.YtaopkchkhdbfnaaGreatDoorPlOp4
import Derived.ProofKit
import Derived.OpenShut
import Derived.ShutString
import Derived.Lib.SmallJoins
import Derived.Deep.Strs
import Derived.Deep.Slices
import Derived.Carry
namespace Go.Proofs.YtaopkchkhdbfnaaGreatDoor.Pl
open Go.RowKit Go.ChangeShapes Go.WideShapes Go.ChangeAt Go.Joins Go.Deep
open Go.Proofs.YtaopkchkhdbfnaaGreatDoor.Mem
set_option linter.unusedVariables false

variable {H : Type} {enc : TypeId × Value → H} {W : World} {base : Nat} {spare : Nat → Bool} {held : Bool}

theorem cInt : Tryz.prog.cellsOf 3 = 1 := by kernel_rfl

set_option maxRecDepth 100000 in
theorem op_in {fuel : Nat} {cs : List Value} {x : DataW H × List MemPlace} (h : DataW.trod enc Tryz.prog W base spare held fuel 135 cs = some x) :
    ∃ (k v t a : Int) (s : ByteArray), cs = [.int .i64 k, .int .i64 v, .int .i64 t, .int .i64 a, .string s] ∧ s.size ≤ maxLen := by
  obtain ⟨xs, n, _, rfl, hl, hlen, hf⟩ := DataW.trod_struct Tryz.underlying135 h
  have c5 : Tryz.prog.cellsOf 135 = 5 := by kernel_rfl
  have cs9 : Tryz.prog.cellsOf 9 = 1 := by kernel_rfl
  rw [c5] at hl
  match xs, hlen, cs, hl with
  | [y0, y1, y2, y3, y4], _, [v0, v1, v2, v3, v4], _ =>
    have f0 : DataW.trod enc Tryz.prog W base spare held n 3 [v0] = some y0 := by simpa [cInt] using hf 0 _ rfl
    have f1 : DataW.trod enc Tryz.prog W base spare held n 3 [v1] = some y1 := by simpa [cInt] using hf 1 _ rfl
    have f2 : DataW.trod enc Tryz.prog W base spare held n 3 [v2] = some y2 := by simpa [cInt] using hf 2 _ rfl
    have f3 : DataW.trod enc Tryz.prog W base spare held n 3 [v3] = some y3 := by simpa [cInt] using hf 3 _ rfl
    have f4 : DataW.trod enc Tryz.prog W base spare held n 9 [v4] = some y4 := by simpa [cs9] using hf 4 _ rfl
    obtain ⟨n0, e0, _, _⟩ := DataW.trod_int Tryz.underlying3 f0
    obtain ⟨n1, e1, _, _⟩ := DataW.trod_int Tryz.underlying3 f1
    obtain ⟨n2, e2, _, _⟩ := DataW.trod_int Tryz.underlying3 f2
    obtain ⟨n3, e3, _, _⟩ := DataW.trod_int Tryz.underlying3 f3
    obtain ⟨s4, e4, _, hs⟩ := DataW.trod_string Tryz.underlying9 f4
    simp only [List.cons.injEq, and_true] at e0 e1 e2 e3 e4
    subst e0; subst e1; subst e2; subst e3; subst e4
    exact ⟨n0, n1, n2, n3, s4, rfl, hs⟩

set_option maxRecDepth 100000 in
/-- A call that came in. -/
theorem op_arg {v : Value} {d : DataW H} {p : List MemPlace} {r : Reach} {b0 : Nat} (hv : Value.okWide Tryz.prog W r b0 135 v) (h : DataW.Trod enc Tryz.prog W base spare held 135 v d p) :
    ∃ (k v' t a : Int) (s : ByteArray), v = opV k v' t a s ∧ s.size ≤ maxLen := by
  obtain ⟨cs, rfl, hsz⟩ := okWide_struct Tryz.underlying135 hv
  obtain ⟨fuel, hf⟩ := h
  obtain ⟨k, v', t, a, s, e, hs⟩ := op_in hf
  obtain ⟨l⟩ := cs
  simp only [Value.cells] at e
  subst e
  exact ⟨k, v', t, a, s, rfl, hs⟩

set_option maxRecDepth 100000 in
set_option maxHeartbeats 1000000 in
theorem toOp (w : World) (k v t a : Int) (s : ByteArray) : Calls Tryz.prog 147 #[opV k v t a s] w fun e w' => e = .returned (opV k v t a s) ∧ Below w.heap.size w w' := by
  unfold opV
  go_enter Tryz.func147, Tryz.ntmps147
  go_wp2
  go_returns
  exact ⟨rfl, by go_grown⟩

/-- What is left: a number below 0, or one not above what was, and all fits. -/
def Fits1 (r left : Int) (n : Nat) : Prop := r < 0 ∨ (0 ≤ r ∧ r ≤ left ∧ (n : Int) ≤ left)

set_option maxRecDepth 100000 in
set_option maxHeartbeats 1000000 in
theorem szOp (w : World) (k v t a : Int) (s : ByteArray) (left : Int) (hl : s.size ≤ maxLen) (h0 : 0 ≤ left) (h1 : left ≤ 1048576) :
    Calls Tryz.prog 144 #[opV k v t a s, .int .i64 left] w fun e w' => ∃ r, e = .returned (.int .i64 r) ∧ Below w.heap.size w w' ∧ Fits1 r left s.size := by
  unfold maxLen at hl
  unfold opV
  by_cases hb : left < (s.size : Int)
  · go_enter Tryz.func144, Tryz.ntmps144
    go_wp2
    go_ret
    exact ⟨_, rfl, by go_grown, Or.inl (by decide)⟩
  · go_enter Tryz.func144, Tryz.ntmps144
    go_wp2
    go_ret
    exact ⟨_, rfl, by go_grown, Or.inr ⟨by omega, by omega, by omega⟩⟩

end Go.Proofs.YtaopkchkhdbfnaaGreatDoor.Pl
