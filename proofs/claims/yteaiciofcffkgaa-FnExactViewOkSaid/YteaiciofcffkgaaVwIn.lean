/-
  A view that comes in as an argument: what it is in memory. No condition.
-/
import Derived.Test.YteaiciofcffkgaaVw
import Derived.ProofKit
import Derived.OpenShut
import Derived.ShutString
import Derived.Lib.SmallJoins
import Derived.Deep.Strs
import Derived.Deep.Slices
import Derived.Carry
namespace Go.Proofs.Yteaiciofcffkgaa.Pl
open Go.RowKit Go.ChangeShapes Go.WideShapes Go.ChangeAt Go.Joins Go.Deep
open Go.Proofs.Yteaiciofcffkgaa.Mem Go.Proofs.Yteaiciofcffkgaa.Sec
set_option linter.unusedVariables false

variable {H : Type} {enc : TypeId × Value → H} {W : World} {base : Nat} {spare : Nat → Bool} {held : Bool}

theorem cIntV : Try.prog.cellsOf 3 = 1 := by kernel_rfl

set_option maxRecDepth 100000 in
theorem lease_in {fuel : Nat} {cs : List Value} {x : DataW H × List MemPlace} (h : DataW.trod enc Try.prog W base spare held fuel 30 cs = some x) :
    ∃ a b : Int, cs = [.int .i64 a, .int .i64 b] := by
  have c2 : Try.prog.cellsOf 30 = 2 := by kernel_rfl
  obtain ⟨y0, y1, n, _, hl, f0, f1⟩ := trod_struct2 Try.underlying30 h
  rw [c2] at hl
  match cs, hl with
  | [v0, v1], _ =>
    replace f0 : DataW.trod enc Try.prog W base spare held n 3 [v0] = some y0 := by simpa [cIntV] using f0
    replace f1 : DataW.trod enc Try.prog W base spare held n 3 [v1] = some y1 := by simpa [cIntV] using f1
    obtain ⟨n0, e0, _, _⟩ := DataW.trod_int Try.underlying3 f0
    obtain ⟨n1, e1, _, _⟩ := DataW.trod_int Try.underlying3 f1
    simp only [List.cons.injEq, and_true] at e0 e1
    subst e0; subst e1
    exact ⟨n0, n1, rfl⟩

theorem sl_of_add {w : World} {a : Addr} {m : Nat} {f : Nat → Value} (h : ∀ i, i < m → w.cell? (a.add i) = some (f i)) : Sl w (some a) m f := by
  intro i hi
  have hc := h i hi
  obtain ⟨b, off, sp⟩ := a
  have hs : sp = none := by simpa [Addr.add] using World.cell?_spot (h 0 (by omega))
  subst hs
  rw [Addr.add_mid] at hc
  exact ⟨b, off, rfl, hc⟩

theorem ints_in {fuel : Nat} {v : Value} {x : DataW H × List MemPlace} (h : DataW.trod enc Try.prog W base spare held fuel 33 [v] = some x) :
    ∃ a cap l, v = .slice a (l : List Int).length cap ∧ Ints W a l ∧ l.length ≤ maxLen := by
  rcases open_ints Try.underlying33 Try.underlying3 (by kernel_rfl) h with ⟨hcs, _⟩ | ⟨a, len, cap, zs, hcs, _, hl, hm, hz, _, hcell, hwz⟩
  · simp only [List.cons.injEq, and_true] at hcs
    exact ⟨none, 0, [], hcs, fun i hi => by simp at hi, by simp⟩
  · simp only [List.cons.injEq, and_true] at hcs
    have hlm : len ≤ zs.length := by rw [hz]; split <;> omega
    have e : (zs.take len).length = len := by simp; omega
    refine ⟨some a, cap, zs.take len, by rw [hcs, e], ?_, by omega⟩
    unfold Ints
    rw [e]
    refine sl_of_add (fun i hi => ?_)
    rw [hcell i (by omega)]
    simp [List.getD, hi]

set_option maxRecDepth 100000 in
theorem VolSec_cells_in {fuel : Nat} {cs : List Value} {x : DataW H × List MemPlace} (h : DataW.trod enc Try.prog W base spare held fuel 72 cs = some x) :
    ∃ y : Vs, cs = y.cells ∧ Ints W y.a y.l ∧ y.l.length ≤ maxLen := by
  have c4 : Try.prog.cellsOf 72 = 4 := by kernel_rfl
  have cL : Try.prog.cellsOf 30 = 2 := by kernel_rfl
  have cI : Try.prog.cellsOf 33 = 1 := by kernel_rfl
  have cB : Try.prog.cellsOf 4 = 1 := by kernel_rfl
  obtain ⟨y0, y1, y2, n, _, hl, f0, f1, f2⟩ := trod_struct3 Try.underlying72 h
  rw [c4] at hl
  match cs, hl with
  | [v0, v1, v2, v3], _ =>
    replace f0 : DataW.trod enc Try.prog W base spare held n 30 [v0, v1] = some y0 := by simpa [cL, Value.cells] using f0
    replace f1 : DataW.trod enc Try.prog W base spare held n 4 [v2] = some y1 := by simpa [cL, cB, Value.cells] using f1
    replace f2 : DataW.trod enc Try.prog W base spare held n 33 [v3] = some y2 := by simpa [cL, cB, cI, Value.cells] using f2
    obtain ⟨x, z, e1⟩ := lease_in f0
    obtain ⟨on, e2, _⟩ := DataW.trod_bool Try.underlying4 f1
    obtain ⟨a, cap, l, rfl, S, hm⟩ := ints_in f2
    simp only [List.cons.injEq, and_true] at e1 e2
    obtain ⟨rfl, rfl⟩ := e1
    subst e2
    exact ⟨⟨x, z, on, a, cap, l⟩, rfl, S, hm⟩

set_option maxRecDepth 100000 in
theorem VolSecs_in {fuel : Nat} {v : Value} {x : DataW H × List MemPlace} (h : DataW.trod enc Try.prog W base spare held fuel 31 [v] = some x) :
    ∃ a cap L, v = .slice a (L : List Vs).length cap ∧ Vols W a L ∧ L.length ≤ maxLen ∧ ∀ y ∈ L, y.l.length ≤ maxLen := by
  have c2 : Try.prog.cellsOf 72 = 4 := by kernel_rfl
  rcases open_slice Try.underlying31 h with ⟨hcs, _⟩ | ⟨a, len, cap, m, n, D, Pl, hcs, _, hl, hm, hmm, _, hx⟩
  · simp only [List.cons.injEq, and_true] at hcs
    exact ⟨none, 0, [], hcs, ⟨fun i hi => by simp at hi, by simp⟩, by simp, by simp⟩
  · simp only [List.cons.injEq, and_true] at hcs
    have hlm : len ≤ m := by rw [hmm]; split <;> omega
    have each : ∀ i, ∃ y : Vs, i < len → W.cells? base (a.add (i * 4)) 4 = some y.cells ∧ Ints W y.a y.l ∧ y.l.length ≤ maxLen := fun i => by
      by_cases hi : i < len
      · obtain ⟨cs', hc, ht⟩ := hx i (by omega)
        rw [c2] at hc
        obtain ⟨y, rfl, hy⟩ := VolSec_cells_in ht
        exact ⟨y, fun _ => ⟨hc, hy⟩⟩
      · exact ⟨Vs.none, fun h => absurd h hi⟩
    obtain ⟨Y, hY⟩ := Classical.axiomOfChoice each
    refine ⟨some a, cap, (List.range len).map Y, by rw [hcs]; simp, ⟨?_, ?_⟩, by simp; omega, ?_⟩
    · rw [List.length_map, List.length_range]
      refine sl_of_add (fun i hi => ?_)
      have hq : i / 4 < len := by omega
      have hc := (World.cells?_some (hY (i / 4) hq).1).2.2 (i % 4) (by omega)
      rw [Addr.add_add, show i / 4 * 4 + i % 4 = i by omega] at hc
      rw [hc]
      unfold vcell
      have e : ((List.range len).map Y).getD (i / 4) Vs.none = Y (i / 4) := by simp [List.getD, hq]
      rw [e]
      have : i % 4 = 0 ∨ i % 4 = 1 ∨ i % 4 = 2 ∨ i % 4 = 3 := by omega
      rcases this with h | h | h | h <;> rw [h] <;> rfl
    · intro s hs
      obtain ⟨i, hi, rfl⟩ := List.mem_map.1 hs
      exact (hY i (List.mem_range.1 hi)).2.1
    · intro s hs
      obtain ⟨i, hi, rfl⟩ := List.mem_map.1 hs
      exact (hY i (List.mem_range.1 hi)).2.2

set_option maxRecDepth 100000 in
theorem GroupSec_cells_in {fuel : Nat} {cs : List Value} {x : DataW H × List MemPlace} (h : DataW.trod enc Try.prog W base spare held fuel 75 cs = some x) :
    ∃ y : Gs, cs = y.cells ∧ Ints W y.a y.l ∧ y.l.length ≤ maxLen := by
  have c4 : Try.prog.cellsOf 75 = 3 := by kernel_rfl
  have cL : Try.prog.cellsOf 30 = 2 := by kernel_rfl
  have cI : Try.prog.cellsOf 33 = 1 := by kernel_rfl
  obtain ⟨y0, y1, n, _, hl, f0, f1⟩ := trod_struct2 Try.underlying75 h
  rw [c4] at hl
  match cs, hl with
  | [v0, v1, v2], _ =>
    replace f0 : DataW.trod enc Try.prog W base spare held n 30 [v0, v1] = some y0 := by simpa [cL, Value.cells] using f0
    replace f1 : DataW.trod enc Try.prog W base spare held n 33 [v2] = some y1 := by simpa [cL, cI, Value.cells] using f1
    obtain ⟨x, z, e1⟩ := lease_in f0
    obtain ⟨a, cap, l, rfl, S, hm⟩ := ints_in f1
    simp only [List.cons.injEq, and_true] at e1
    obtain ⟨rfl, rfl⟩ := e1
    exact ⟨⟨x, z, a, cap, l⟩, rfl, S, hm⟩

set_option maxRecDepth 100000 in
theorem GroupSecs_in {fuel : Nat} {v : Value} {x : DataW H × List MemPlace} (h : DataW.trod enc Try.prog W base spare held fuel 32 [v] = some x) :
    ∃ a cap L, v = .slice a (L : List Gs).length cap ∧ Grps W a L ∧ L.length ≤ maxLen ∧ ∀ y ∈ L, y.l.length ≤ maxLen := by
  have c2 : Try.prog.cellsOf 75 = 3 := by kernel_rfl
  rcases open_slice Try.underlying32 h with ⟨hcs, _⟩ | ⟨a, len, cap, m, n, D, Pl, hcs, _, hl, hm, hmm, _, hx⟩
  · simp only [List.cons.injEq, and_true] at hcs
    exact ⟨none, 0, [], hcs, ⟨fun i hi => by simp at hi, by simp⟩, by simp, by simp⟩
  · simp only [List.cons.injEq, and_true] at hcs
    have hlm : len ≤ m := by rw [hmm]; split <;> omega
    have each : ∀ i, ∃ y : Gs, i < len → W.cells? base (a.add (i * 3)) 3 = some y.cells ∧ Ints W y.a y.l ∧ y.l.length ≤ maxLen := fun i => by
      by_cases hi : i < len
      · obtain ⟨cs', hc, ht⟩ := hx i (by omega)
        rw [c2] at hc
        obtain ⟨y, rfl, hy⟩ := GroupSec_cells_in ht
        exact ⟨y, fun _ => ⟨hc, hy⟩⟩
      · exact ⟨Gs.none, fun h => absurd h hi⟩
    obtain ⟨Y, hY⟩ := Classical.axiomOfChoice each
    refine ⟨some a, cap, (List.range len).map Y, by rw [hcs]; simp, ⟨?_, ?_⟩, by simp; omega, ?_⟩
    · rw [List.length_map, List.length_range]
      refine sl_of_add (fun i hi => ?_)
      have hq : i / 3 < len := by omega
      have hc := (World.cells?_some (hY (i / 3) hq).1).2.2 (i % 3) (by omega)
      rw [Addr.add_add, show i / 3 * 3 + i % 3 = i by omega] at hc
      rw [hc]
      unfold gcell
      have e : ((List.range len).map Y).getD (i / 3) Gs.none = Y (i / 3) := by simp [List.getD, hq]
      rw [e]
      have : i % 3 = 0 ∨ i % 3 = 1 ∨ i % 3 = 2 := by omega
      rcases this with h | h | h <;> rw [h] <;> rfl
    · intro s hs
      obtain ⟨i, hi, rfl⟩ := List.mem_map.1 hs
      exact (hY i (List.mem_range.1 hi)).2.1
    · intro s hs
      obtain ⟨i, hi, rfl⟩ := List.mem_map.1 hs
      exact (hY i (List.mem_range.1 hi)).2.2

set_option maxRecDepth 100000 in
/-- A view that came in. -/
theorem view_in {v : Value} {d : DataW H} {p : List MemPlace} {r : Reach} {b0 : Nat} (hv : Value.okWide Try.prog W r b0 35 v) (h : DataW.Trod enc Try.prog W base spare held 35 v d p) :
    ∃ V : Vw, v = vwV V ∧ VwR W V ∧ V.Upto maxLen := by
  have c5 : Try.prog.cellsOf 35 = 5 := by kernel_rfl
  have cL : Try.prog.cellsOf 30 = 2 := by kernel_rfl
  have cI : Try.prog.cellsOf 33 = 1 := by kernel_rfl
  have cV : Try.prog.cellsOf 31 = 1 := by kernel_rfl
  have cG : Try.prog.cellsOf 32 = 1 := by kernel_rfl
  obtain ⟨cs, rfl, hsz⟩ := okWide_struct Try.underlying35 hv
  rw [c5] at hsz
  obtain ⟨v0, v1, v2, v3, v4, rfl⟩ : ∃ v0 v1 v2 v3 v4, cs = #[v0, v1, v2, v3, v4] := by
    obtain ⟨l⟩ := cs
    match l, hsz with
    | [v0, v1, v2, v3, v4], _ => exact ⟨v0, v1, v2, v3, v4, rfl⟩
  obtain ⟨fuel, hf⟩ := h
  obtain ⟨y0, y1, y2, y3, n, _, _, f0, f1, f2, f3⟩ := trod_struct4 Try.underlying35 hf
  replace f0 : DataW.trod enc Try.prog W base spare held n 30 [v0, v1] = some y0 := by simpa [cL, Value.cells] using f0
  replace f1 : DataW.trod enc Try.prog W base spare held n 31 [v2] = some y1 := by simpa [cV, Value.cells] using f1
  replace f2 : DataW.trod enc Try.prog W base spare held n 32 [v3] = some y2 := by simpa [cG, Value.cells] using f2
  replace f3 : DataW.trod enc Try.prog W base spare held n 33 [v4] = some y3 := by simpa [cI, Value.cells] using f3
  obtain ⟨x, z, e1⟩ := lease_in f0
  obtain ⟨va, vc, vs, rfl, S1, m1, n1⟩ := VolSecs_in f1
  obtain ⟨ga, gc, gs, rfl, S2, m2, n2⟩ := GroupSecs_in f2
  obtain ⟨fa, fc, fs, rfl, S3, m3⟩ := ints_in f3
  simp only [List.cons.injEq, and_true] at e1
  obtain ⟨rfl, rfl⟩ := e1
  exact ⟨⟨x, z, va, vc, vs, ga, gc, gs, fa, fc, fs⟩, rfl, ⟨S1, S2, S3⟩, ⟨m1, n1, m2, n2, m3⟩⟩

end Go.Proofs.Yteaiciofcffkgaa.Pl
