/-
  Sectors' values that come in as arguments: what they are in memory. No condition.
-/
import Derived.Test.YtgmiaocgbibfpaaDoorSecHost2
import Derived.ProofKit
import Derived.OpenShut
import Derived.ShutString
import Derived.Lib.SmallJoins
import Derived.Deep.Strs
import Derived.Deep.Slices
import Derived.Carry
namespace Go.Proofs.YtgmiaocgbibfpaaDoor.Sec
open Go.RowKit Go.ChangeShapes Go.WideShapes Go.ChangeAt Go.Joins Go.Deep
open Go.Proofs.YtgmiaocgbibfpaaDoor.Mem
set_option linter.unusedVariables false

variable {H : Type} {enc : TypeId × Value → H} {W : World} {base : Nat} {spare : Nat → Bool} {held : Bool}

theorem cInt : Tryd.prog.cellsOf 3 = 1 := by kernel_rfl

set_option maxRecDepth 100000 in
theorem lease_in {fuel : Nat} {cs : List Value} {x : DataW H × List MemPlace} (h : DataW.trod enc Tryd.prog W base spare held fuel 25 cs = some x) :
    ∃ a b : Int, cs = [.int .i64 a, .int .i64 b] := by
  have c2 : Tryd.prog.cellsOf 25 = 2 := by kernel_rfl
  obtain ⟨y0, y1, n, _, hl, f0, f1⟩ := trod_struct2 Tryd.underlying25 h
  rw [c2] at hl
  match cs, hl with
  | [v0, v1], _ =>
    replace f0 : DataW.trod enc Tryd.prog W base spare held n 3 [v0] = some y0 := by simpa [cInt] using f0
    replace f1 : DataW.trod enc Tryd.prog W base spare held n 3 [v1] = some y1 := by simpa [cInt] using f1
    obtain ⟨n0, e0, _, _⟩ := DataW.trod_int Tryd.underlying3 f0
    obtain ⟨n1, e1, _, _⟩ := DataW.trod_int Tryd.underlying3 f1
    simp only [List.cons.injEq, and_true] at e0 e1
    subst e0; subst e1
    exact ⟨n0, n1, rfl⟩

set_option maxRecDepth 100000 in
/-- A host's sector that came in. -/
theorem host_in {v : Value} {d : DataW H} {p : List MemPlace} {r : Reach} {b0 : Nat} (hv : Value.okWide Tryd.prog W r b0 47 v) (h : DataW.Trod enc Tryd.prog W base spare held 47 v d p) :
    ∃ b a e : Int, v = hsV b a e := by
  have c3 : Tryd.prog.cellsOf 47 = 3 := by kernel_rfl
  have cL : Tryd.prog.cellsOf 25 = 2 := by kernel_rfl
  obtain ⟨cs, rfl, hsz⟩ := okWide_struct Tryd.underlying47 hv
  obtain ⟨v0, v1, v2, rfl⟩ := array3 (hsz.trans c3)
  obtain ⟨fuel, hf⟩ := h
  obtain ⟨y0, y1, n, _, _, f0, f1⟩ := trod_struct2 Tryd.underlying47 hf
  replace f0 : DataW.trod enc Tryd.prog W base spare held n 3 [v0] = some y0 := by simpa [cInt, Value.cells] using f0
  replace f1 : DataW.trod enc Tryd.prog W base spare held n 25 [v1, v2] = some y1 := by simpa [cL, Value.cells] using f1
  obtain ⟨n0, e0, _, _⟩ := DataW.trod_int Tryd.underlying3 f0
  obtain ⟨a, b, e1⟩ := lease_in f1
  simp only [List.cons.injEq, and_true] at e0 e1
  obtain ⟨rfl, rfl⟩ := e1
  subst e0
  exact ⟨n0, a, b, rfl⟩

theorem sl_of_add {w : World} {a : Addr} {m : Nat} {f : Nat → Value} (h : ∀ i, i < m → w.cell? (a.add i) = some (f i)) : Sl w (some a) m f := by
  intro i hi
  have hc := h i hi
  obtain ⟨b, off, sp⟩ := a
  have hs : sp = none := by simpa [Addr.add] using World.cell?_spot (h 0 (by omega))
  subst hs
  rw [Addr.add_mid] at hc
  exact ⟨b, off, rfl, hc⟩

theorem ints_in {fuel : Nat} {v : Value} {x : DataW H × List MemPlace} (h : DataW.trod enc Tryd.prog W base spare held fuel 26 [v] = some x) :
    ∃ a cap l, v = .slice a (l : List Int).length cap ∧ Ints W a l ∧ l.length ≤ maxLen := by
  rcases open_ints Tryd.underlying26 Tryd.underlying3 (by kernel_rfl) h with ⟨hcs, _⟩ | ⟨a, len, cap, zs, hcs, _, hl, hm, hz, _, hcell, hwz⟩
  · simp only [List.cons.injEq, and_true] at hcs
    exact ⟨none, 0, [], hcs, fun i hi => by simp at hi, by simp⟩
  · simp only [List.cons.injEq, and_true] at hcs
    have hlm : len ≤ zs.length := by rw [hz]; split <;> omega
    have e : (zs.take len).length = len := by simp; omega
    refine ⟨some a, cap, zs.take len, by rw [hcs, e], ?_, by omega⟩
    unfold Ints
    rw [e]
    refine sl_of_add (fun i hi => ?_)
    rw [hcell i (by omega)]
    simp [List.getD, hi]

set_option maxRecDepth 100000 in
/-- A list of numbers that came in. -/
theorem ints_arg {v : Value} {d : DataW H} {p : List MemPlace} {r : Reach} {b0 : Nat} (hv : Value.okWide Tryd.prog W r b0 26 v) (h : DataW.Trod enc Tryd.prog W base spare held 26 v d p) :
    ∃ a cap l, v = .slice a (l : List Int).length cap ∧ Ints W a l ∧ l.length ≤ maxLen := by
  obtain ⟨fuel, hf⟩ := h
  obtain ⟨a, len, cap, rfl⟩ := okWide_slice Tryd.underlying26 hv
  exact ints_in hf

set_option maxRecDepth 100000 in
/-- A group's sector that came in. -/
theorem group_in {v : Value} {d : DataW H} {p : List MemPlace} {r : Reach} {b0 : Nat} (hv : Value.okWide Tryd.prog W r b0 38 v) (h : DataW.Trod enc Tryd.prog W base spare held 38 v d p) :
    ∃ (h e : Int) (a : Option Addr) (cap : Nat) (l : List Int), v = .agg #[.int .i64 h, .int .i64 e, .slice a l.length cap] ∧ Ints W a l ∧ l.length ≤ maxLen := by
  have c3 : Tryd.prog.cellsOf 38 = 3 := by kernel_rfl
  have cL : Tryd.prog.cellsOf 25 = 2 := by kernel_rfl
  have cI : Tryd.prog.cellsOf 26 = 1 := by kernel_rfl
  obtain ⟨cs, rfl, hsz⟩ := okWide_struct Tryd.underlying38 hv
  obtain ⟨v0, v1, v2, rfl⟩ := array3 (hsz.trans c3)
  obtain ⟨fuel, hf⟩ := h
  obtain ⟨y0, y1, n, _, _, f0, f1⟩ := trod_struct2 Tryd.underlying38 hf
  replace f0 : DataW.trod enc Tryd.prog W base spare held n 25 [v0, v1] = some y0 := by simpa [cL, Value.cells] using f0
  replace f1 : DataW.trod enc Tryd.prog W base spare held n 26 [v2] = some y1 := by simpa [cI, Value.cells] using f1
  obtain ⟨x, z, e1⟩ := lease_in f0
  obtain ⟨a, cap, l, rfl, S, hm⟩ := ints_in f1
  simp only [List.cons.injEq, and_true] at e1
  obtain ⟨rfl, rfl⟩ := e1
  exact ⟨x, z, a, cap, l, rfl, S, hm⟩

set_option maxRecDepth 100000 in
/-- A volume's sector that came in. -/
theorem vol_in {v : Value} {d : DataW H} {p : List MemPlace} {r : Reach} {b0 : Nat} (hv : Value.okWide Tryd.prog W r b0 28 v) (h : DataW.Trod enc Tryd.prog W base spare held 28 v d p) :
    ∃ (h e : Int) (on : Bool) (a : Option Addr) (cap : Nat) (l : List Int), v = .agg #[.int .i64 h, .int .i64 e, .bool on, .slice a l.length cap] ∧ Ints W a l ∧ l.length ≤ maxLen := by
  have c4 : Tryd.prog.cellsOf 28 = 4 := by kernel_rfl
  have cL : Tryd.prog.cellsOf 25 = 2 := by kernel_rfl
  have cI : Tryd.prog.cellsOf 26 = 1 := by kernel_rfl
  have cB : Tryd.prog.cellsOf 4 = 1 := by kernel_rfl
  obtain ⟨cs, rfl, hsz⟩ := okWide_struct Tryd.underlying28 hv
  obtain ⟨v0, v1, v2, v3, rfl⟩ := array4 (hsz.trans c4)
  obtain ⟨fuel, hf⟩ := h
  obtain ⟨y0, y1, y2, n, _, _, f0, f1, f2⟩ := trod_struct3 Tryd.underlying28 hf
  replace f0 : DataW.trod enc Tryd.prog W base spare held n 25 [v0, v1] = some y0 := by simpa [cL, Value.cells] using f0
  replace f1 : DataW.trod enc Tryd.prog W base spare held n 4 [v2] = some y1 := by simpa [cB, Value.cells] using f1
  replace f2 : DataW.trod enc Tryd.prog W base spare held n 26 [v3] = some y2 := by simpa [cI, Value.cells] using f2
  obtain ⟨x, z, e1⟩ := lease_in f0
  obtain ⟨on, e2, _⟩ := DataW.trod_bool Tryd.underlying4 f1
  obtain ⟨a, cap, l, rfl, S, hm⟩ := ints_in f2
  simp only [List.cons.injEq, and_true] at e1 e2
  obtain ⟨rfl, rfl⟩ := e1
  subst e2
  exact ⟨x, z, on, a, cap, l, rfl, S, hm⟩

end Go.Proofs.YtgmiaocgbibfpaaDoor.Sec
