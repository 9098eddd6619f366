/-
  A pool that comes in as an argument: what it is in memory. No condition.
-/
import Derived.Test.YtieohdfhbfeoaaaPkIn
import Derived.Test.YtieohdfhbfeoaaaPpV
import Derived.Deep.Slices
namespace Go.Proofs.Ytieohdfhbfeoaaa.Pl
open Go.RowKit Go.ChangeShapes Go.WideShapes Go.ChangeAt Go.Joins Go.Deep
open Go.Proofs.Ytieohdfhbfeoaaa.Mem
set_option linter.unusedVariables false

variable {H : Type} {enc : TypeId × Value → H} {W : World} {base : Nat} {spare : Nat → Bool} {held : Bool}

theorem bools_in {fuel : Nat} {v : Value} {x : DataW H × List MemPlace} (h : DataW.trod enc Try.prog W base spare held fuel 46 [v] = some x) :
    ∃ a cap l, v = .slice a (l : List Bool).length cap ∧ Bls W a l ∧ l.length ≤ maxLen := by
  have c1 : Try.prog.cellsOf 4 = 1 := by kernel_rfl
  rcases open_slice Try.underlying46 h with ⟨hcs, _⟩ | ⟨a, len, cap, m, n, D, Pl, hcs, _, hl, hm, hmm, _, hx⟩
  · simp only [List.cons.injEq, and_true] at hcs
    exact ⟨none, 0, [], hcs, fun i hi => by simp at hi, by simp⟩
  · simp only [List.cons.injEq, and_true] at hcs
    have hlm : len ≤ m := by rw [hmm]; split <;> omega
    have each : ∀ i, ∃ y : Bool, i < len → W.cells? base (a.add (i * 1)) 1 = some [.bool y] := fun i => by
      by_cases hi : i < len
      · obtain ⟨cs', hc, ht⟩ := hx i (by omega)
        rw [c1] at hc
        obtain ⟨y, e, _⟩ := DataW.trod_bool Try.underlying4 ht
        exact ⟨y, fun _ => by rw [hc, e]⟩
      · exact ⟨false, fun h => absurd h hi⟩
    obtain ⟨Y, hY⟩ := Classical.axiomOfChoice each
    refine ⟨some a, cap, (List.range len).map Y, by rw [hcs]; simp, ?_, by simp; omega⟩
    unfold Bls
    rw [List.length_map, List.length_range]
    refine Pk.sl_of_add (fun i hi => ?_)
    have hc := (World.cells?_some (hY i hi)).2.2 0 (by omega)
    rw [Addr.add_add, show i * 1 + 0 = i by omega] at hc
    rw [hc]
    simp [List.getD, hi]

set_option maxRecDepth 100000 in
theorem PVol_cells_in {fuel : Nat} {cs : List Value} {x : DataW H × List MemPlace} (h : DataW.trod enc Try.prog W base spare held fuel 75 cs = some x) :
    ∃ y : Pv, cs = y.cells ∧ (Bls W y.ha y.hs ∧ Strs W y.ta y.ts) ∧ y.Upto maxLen := by
  have c3 : Try.prog.cellsOf 75 = 3 := by kernel_rfl
  have cI : Try.prog.cellsOf 46 = 1 := by kernel_rfl
  have cS : Try.prog.cellsOf 47 = 1 := by kernel_rfl
  have cB : Try.prog.cellsOf 4 = 1 := by kernel_rfl
  obtain ⟨y0, y1, y2, n, _, hl, f0, f1, f2⟩ := trod_struct3 Try.underlying75 h
  rw [c3] at hl
  match cs, hl with
  | [v0, v1, v2], _ =>
    replace f0 : DataW.trod enc Try.prog W base spare held n 4 [v0] = some y0 := by simpa [cB, Value.cells] using f0
    replace f1 : DataW.trod enc Try.prog W base spare held n 46 [v1] = some y1 := by simpa [cB, cI, Value.cells] using f1
    replace f2 : DataW.trod enc Try.prog W base spare held n 47 [v2] = some y2 := by simpa [cB, cI, cS, Value.cells] using f2
    obtain ⟨on, e2, _⟩ := DataW.trod_bool Try.underlying4 f0
    obtain ⟨a1, cap1, l1, rfl, S1, hm1⟩ := bools_in f1
    obtain ⟨a2, cap2, l2, rfl, S2, hm2, hs2⟩ := Pk.strs_in f2
    simp only [List.cons.injEq, and_true] at e2
    subst e2
    exact ⟨⟨on, a1, cap1, l1, a2, cap2, l2⟩, rfl, ⟨S1, S2⟩, by show (l1.length : Int) ≤ _; omega, by show (l2.length : Int) ≤ _; omega, fun s hs => by have := hs2 s hs; omega⟩

set_option maxRecDepth 100000 in
theorem PVols_in {fuel : Nat} {v : Value} {x : DataW H × List MemPlace} (h : DataW.trod enc Try.prog W base spare held fuel 29 [v] = some x) :
    ∃ a cap L, v = .slice a (L : List Pv).length cap ∧ Pvs W a L ∧ L.length ≤ maxLen ∧ ∀ y ∈ L, y.Upto maxLen := by
  have c2 : Try.prog.cellsOf 75 = 3 := by kernel_rfl
  rcases open_slice Try.underlying29 h with ⟨hcs, _⟩ | ⟨a, len, cap, m, n, D, Pl, hcs, _, hl, hm, hmm, _, hx⟩
  · simp only [List.cons.injEq, and_true] at hcs
    exact ⟨none, 0, [], hcs, ⟨fun i hi => by simp at hi, by simp⟩, by simp, by simp⟩
  · simp only [List.cons.injEq, and_true] at hcs
    have hlm : len ≤ m := by rw [hmm]; split <;> omega
    have each : ∀ i, ∃ y : Pv, i < len → W.cells? base (a.add (i * 3)) 3 = some y.cells ∧ (Bls W y.ha y.hs ∧ Strs W y.ta y.ts) ∧ y.Upto maxLen := fun i => by
      by_cases hi : i < len
      · obtain ⟨cs', hc, ht⟩ := hx i (by omega)
        rw [c2] at hc
        obtain ⟨y, rfl, hy⟩ := PVol_cells_in ht
        exact ⟨y, fun _ => ⟨hc, hy⟩⟩
      · exact ⟨Pv.none, fun h => absurd h hi⟩
    obtain ⟨Y, hY⟩ := Classical.axiomOfChoice each
    refine ⟨some a, cap, (List.range len).map Y, by rw [hcs]; simp, ⟨?_, ?_⟩, by simp; omega, ?_⟩
    · rw [List.length_map, List.length_range]
      refine Pk.sl_of_add (fun i hi => ?_)
      have hq : i / 3 < len := by omega
      have hc := (World.cells?_some (hY (i / 3) hq).1).2.2 (i % 3) (by omega)
      rw [Addr.add_add, show i / 3 * 3 + i % 3 = i by omega] at hc
      rw [hc]
      unfold pcell
      have e : ((List.range len).map Y).getD (i / 3) Pv.none = Y (i / 3) := by simp [List.getD, hq]
      rw [e]
      have : i % 3 = 0 ∨ i % 3 = 1 ∨ i % 3 = 2 := by omega
      rcases this with h | h | h <;> rw [h] <;> rfl
    · intro s hs
      obtain ⟨i, hi, rfl⟩ := List.mem_map.1 hs
      exact (hY i (List.mem_range.1 hi)).2.1
    · intro s hs
      obtain ⟨i, hi, rfl⟩ := List.mem_map.1 hs
      exact (hY i (List.mem_range.1 hi)).2.2

set_option maxRecDepth 100000 in
/-- A pool that came in. -/
theorem pool_in {v : Value} {d : DataW H} {p : List MemPlace} {r : Reach} {b0 : Nat} (hv : Value.okWide Try.prog W r b0 31 v) (h : DataW.Trod enc Try.prog W base spare held 31 v d p) :
    ∃ a cap L, v = plV a (L : List Pv).length cap ∧ Pvs W a L ∧ L.length ≤ maxLen ∧ ∀ y ∈ L, y.Upto maxLen := by
  have c1 : Try.prog.cellsOf 31 = 1 := by kernel_rfl
  have cV : Try.prog.cellsOf 29 = 1 := by kernel_rfl
  obtain ⟨cs, rfl, hsz⟩ := okWide_struct Try.underlying31 hv
  rw [c1] at hsz
  obtain ⟨v0, rfl⟩ : ∃ v0, cs = #[v0] := by
    obtain ⟨l⟩ := cs
    match l, hsz with
    | [v0], _ => exact ⟨v0, rfl⟩
  obtain ⟨fuel, hf⟩ := h
  obtain ⟨y0, n, _, _, f0⟩ := trod_struct1 Try.underlying31 hf
  replace f0 : DataW.trod enc Try.prog W base spare held n 29 [v0] = some y0 := by simpa [cV, Value.cells] using f0
  obtain ⟨a, cap, L, rfl, S, m, u⟩ := PVols_in f0
  exact ⟨a, cap, L, rfl, S, m, u⟩

end Go.Proofs.Ytieohdfhbfeoaaa.Pl
