/-
  A journal that comes in as an argument: what it is in memory. No condition.
-/
import Derived.Test.YtgmiaocgbibfpaaDoorOpenSec
import Derived.Test.YtgmiaocgbibfpaaDoorSecJnFin
namespace Go.Proofs.YtgmiaocgbibfpaaDoor.Sec
open Go.RowKit Go.ChangeShapes Go.WideShapes Go.ChangeAt Go.Joins Go.Deep
open Go.Proofs.YtgmiaocgbibfpaaDoor.Mem
set_option linter.unusedVariables false

variable {H : Type} {enc : TypeId × Value → H} {W : World} {base : Nat} {spare : Nat → Bool} {held : Bool}

set_option maxRecDepth 100000 in
theorem out_in {fuel : Nat} {cs : List Value} {x : DataW H × List MemPlace} (h : DataW.trod enc Tryd.prog W base spare held fuel 111 cs = some x) :
    ∃ y : Ou, cs = y.cells ∧ y.text.size ≤ maxLen := by
  have c2 : Tryd.prog.cellsOf 111 = 2 := by kernel_rfl
  have cs9 : Tryd.prog.cellsOf 9 = 1 := by kernel_rfl
  obtain ⟨y0, y1, n, _, hl, f0, f1⟩ := trod_struct2 Tryd.underlying111 h
  rw [c2] at hl
  match cs, hl with
  | [v0, v1], _ =>
    replace f0 : DataW.trod enc Tryd.prog W base spare held n 3 [v0] = some y0 := by simpa [cInt] using f0
    replace f1 : DataW.trod enc Tryd.prog W base spare held n 9 [v1] = some y1 := by simpa [cs9] using f1
    obtain ⟨n0, e0, _, _⟩ := DataW.trod_int Tryd.underlying3 f0
    obtain ⟨s1, e1, _, hs⟩ := DataW.trod_string Tryd.underlying9 f1
    simp only [List.cons.injEq, and_true] at e0 e1
    subst e0; subst e1
    exact ⟨⟨n0, s1⟩, rfl, hs⟩

set_option maxRecDepth 100000 in
theorem outs_in {fuel : Nat} {v : Value} {x : DataW H × List MemPlace} (h : DataW.trod enc Tryd.prog W base spare held fuel 59 [v] = some x) :
    ∃ a cap l, v = .slice a (l : List Ou).length cap ∧ Ous W a l ∧ l.length ≤ maxLen ∧ ∀ y ∈ l, y.text.size ≤ maxLen := by
  have c2 : Tryd.prog.cellsOf 111 = 2 := by kernel_rfl
  rcases open_slice Tryd.underlying59 h with ⟨hcs, _⟩ | ⟨a, len, cap, m, n, D, Pl, hcs, _, hl, hm, hmm, _, hx⟩
  · simp only [List.cons.injEq, and_true] at hcs
    exact ⟨none, 0, [], hcs, fun i hi => by simp at hi, by simp, by simp⟩
  · simp only [List.cons.injEq, and_true] at hcs
    have hlm : len ≤ m := by rw [hmm]; split <;> omega
    have each : ∀ i, ∃ y : Ou, i < len → W.cells? base (a.add (i * 2)) 2 = some y.cells ∧ y.text.size ≤ maxLen := fun i => by
      by_cases hi : i < len
      · obtain ⟨cs', hc, ht⟩ := hx i (by omega)
        rw [c2] at hc
        obtain ⟨y, rfl, hy⟩ := out_in ht
        exact ⟨y, fun _ => ⟨hc, hy⟩⟩
      · exact ⟨Ou.none, fun h => absurd h hi⟩
    obtain ⟨Y, hY⟩ := Classical.axiomOfChoice each
    refine ⟨some a, cap, (List.range len).map Y, by rw [hcs]; simp, ?_, by simp; omega, ?_⟩
    · unfold Ous
      rw [List.length_map, List.length_range]
      refine sl_of_add (fun i hi => ?_)
      have hq : i / 2 < len := by omega
      have hc := (World.cells?_some (hY (i / 2) hq).1).2.2 (i % 2) (by omega)
      rw [Addr.add_add, show i / 2 * 2 + i % 2 = i by omega] at hc
      rw [hc]
      unfold ocell
      have e : ((List.range len).map Y).getD (i / 2) Ou.none = Y (i / 2) := by simp [List.getD, hq]
      rw [e]
      have : i % 2 = 0 ∨ i % 2 = 1 := by omega
      rcases this with h | h <;> rw [h] <;> rfl
    · intro s hs
      obtain ⟨i, hi, rfl⟩ := List.mem_map.1 hs
      exact (hY i (List.mem_range.1 hi)).2

set_option maxRecDepth 100000 in
theorem op_in {fuel : Nat} {cs : List Value} {x : DataW H × List MemPlace} (h : DataW.trod enc Tryd.prog W base spare held fuel 58 cs = some x) :
    ∃ (k v t a : Int) (s : ByteArray), cs = [.int .i64 k, .int .i64 v, .int .i64 t, .int .i64 a, .string s] ∧ s.size ≤ maxLen := by
  obtain ⟨xs, n, _, rfl, hl, hlen, hf⟩ := DataW.trod_struct Tryd.underlying58 h
  have c5 : Tryd.prog.cellsOf 58 = 5 := by kernel_rfl
  have cs9 : Tryd.prog.cellsOf 9 = 1 := by kernel_rfl
  rw [c5] at hl
  match xs, hlen, cs, hl with
  | [y0, y1, y2, y3, y4], _, [v0, v1, v2, v3, v4], _ =>
    have f0 : DataW.trod enc Tryd.prog W base spare held n 3 [v0] = some y0 := by simpa [cInt] using hf 0 _ rfl
    have f1 : DataW.trod enc Tryd.prog W base spare held n 3 [v1] = some y1 := by simpa [cInt] using hf 1 _ rfl
    have f2 : DataW.trod enc Tryd.prog W base spare held n 3 [v2] = some y2 := by simpa [cInt] using hf 2 _ rfl
    have f3 : DataW.trod enc Tryd.prog W base spare held n 3 [v3] = some y3 := by simpa [cInt] using hf 3 _ rfl
    have f4 : DataW.trod enc Tryd.prog W base spare held n 9 [v4] = some y4 := by simpa [cs9] using hf 4 _ rfl
    obtain ⟨n0, e0, _, _⟩ := DataW.trod_int Tryd.underlying3 f0
    obtain ⟨n1, e1, _, _⟩ := DataW.trod_int Tryd.underlying3 f1
    obtain ⟨n2, e2, _, _⟩ := DataW.trod_int Tryd.underlying3 f2
    obtain ⟨n3, e3, _, _⟩ := DataW.trod_int Tryd.underlying3 f3
    obtain ⟨s4, e4, _, hs⟩ := DataW.trod_string Tryd.underlying9 f4
    simp only [List.cons.injEq, and_true] at e0 e1 e2 e3 e4
    subst e0; subst e1; subst e2; subst e3; subst e4
    exact ⟨n0, n1, n2, n3, s4, rfl, hs⟩

set_option maxRecDepth 100000 in
/-- A journal that came in. -/
theorem journal_in {v : Value} {d : DataW H} {p : List MemPlace} {r : Reach} {b0 : Nat} (hv : Value.okWide Tryd.prog W r b0 61 v) (h : DataW.Trod enc Tryd.prog W base spare held 61 v d p) :
    ∃ (J : Jn) (a : Option Addr) (cap : Nat), v = jnV J a cap ∧ Ous W a J.outs ∧ J.Held := by
  have c8 : Tryd.prog.cellsOf 61 = 8 := by kernel_rfl
  have cO : Tryd.prog.cellsOf 58 = 5 := by kernel_rfl
  have cS : Tryd.prog.cellsOf 59 = 1 := by kernel_rfl
  have cB : Tryd.prog.cellsOf 4 = 1 := by kernel_rfl
  obtain ⟨cs, rfl, hsz⟩ := okWide_struct Tryd.underlying61 hv
  rw [c8] at hsz
  obtain ⟨v0, v1, v2, v3, v4, v5, v6, v7, rfl⟩ : ∃ v0 v1 v2 v3 v4 v5 v6 v7, cs = #[v0, v1, v2, v3, v4, v5, v6, v7] := by
    obtain ⟨l⟩ := cs
    match l, hsz with
    | [v0, v1, v2, v3, v4, v5, v6, v7], _ => exact ⟨v0, v1, v2, v3, v4, v5, v6, v7, rfl⟩
  obtain ⟨fuel, hf⟩ := h
  obtain ⟨y0, y1, y2, y3, n, _, _, f0, f1, f2, f3⟩ := trod_struct4 Tryd.underlying61 hf
  replace f0 : DataW.trod enc Tryd.prog W base spare held n 3 [v0] = some y0 := by simpa [cInt, Value.cells] using f0
  replace f1 : DataW.trod enc Tryd.prog W base spare held n 4 [v1] = some y1 := by simpa [cB, Value.cells] using f1
  replace f2 : DataW.trod enc Tryd.prog W base spare held n 58 [v2, v3, v4, v5, v6] = some y2 := by simpa [cO, Value.cells] using f2
  replace f3 : DataW.trod enc Tryd.prog W base spare held n 59 [v7] = some y3 := by simpa [cS, Value.cells] using f3
  obtain ⟨n0, e0, _, _⟩ := DataW.trod_int Tryd.underlying3 f0
  obtain ⟨dn, e1, _⟩ := DataW.trod_bool Tryd.underlying4 f1
  obtain ⟨k, v, t, at_, s, e2, hs⟩ := op_in f2
  obtain ⟨a, cap, l, rfl, S, hm, he⟩ := outs_in f3
  simp only [List.cons.injEq, and_true] at e0 e1 e2
  obtain ⟨rfl, rfl, rfl, rfl, rfl⟩ := e2
  subst e0; subst e1
  exact ⟨⟨n0, dn, k, v, t, at_, s, l⟩, a, cap, rfl, S, ⟨hs, hm, he⟩⟩

end Go.Proofs.YtgmiaocgbibfpaaDoor.Sec
