/-
  A host that comes in as an argument: what it is in memory. No condition.
-/
import Derived.Test.YtllgjoflhjnnaaaHo
import Derived.ProofKit
import Derived.OpenShut
import Derived.ShutString
import Derived.Lib.SmallJoins
import Derived.Deep.Strs
import Derived.Deep.Slices
import Derived.Carry
namespace Go.Proofs.Ytllgjoflhjnnaaa.Pl
open Go.RowKit Go.ChangeShapes Go.WideShapes Go.ChangeAt Go.Joins Go.Deep
open Go.Proofs.Ytllgjoflhjnnaaa.Mem Go.Proofs.Ytllgjoflhjnnaaa.Sec
set_option linter.unusedVariables false

variable {H : Type} {enc : TypeId × Value → H} {W : World} {base : Nat} {spare : Nat → Bool} {held : Bool}

theorem sl_of_addO {w : World} {a : Addr} {m : Nat} {f : Nat → Value} (h : ∀ i, i < m → w.cell? (a.add i) = some (f i)) : Sl w (some a) m f := by
  intro i hi
  have hc := h i hi
  obtain ⟨b, off, sp⟩ := a
  have hs : sp = none := by simpa [Addr.add] using World.cell?_spot (h 0 (by omega))
  subst hs
  rw [Addr.add_mid] at hc
  exact ⟨b, off, rfl, hc⟩

set_option maxRecDepth 100000 in
theorem out_in {fuel : Nat} {cs : List Value} {x : DataW H × List MemPlace} (h : DataW.trod enc Try.prog W base spare held fuel 67 cs = some x) :
    ∃ y : Ou, cs = y.cells ∧ y.text.size ≤ maxLen := by
  have c2 : Try.prog.cellsOf 67 = 2 := by kernel_rfl
  have cs9 : Try.prog.cellsOf 9 = 1 := by kernel_rfl
  obtain ⟨y0, y1, n, _, hl, f0, f1⟩ := trod_struct2 Try.underlying67 h
  rw [c2] at hl
  match cs, hl with
  | [v0, v1], _ =>
    replace f0 : DataW.trod enc Try.prog W base spare held n 3 [v0] = some y0 := by simpa [cInt] using f0
    replace f1 : DataW.trod enc Try.prog W base spare held n 9 [v1] = some y1 := by simpa [cs9] using f1
    obtain ⟨n0, e0, _, _⟩ := DataW.trod_int Try.underlying3 f0
    obtain ⟨s1, e1, _, hs⟩ := DataW.trod_string Try.underlying9 f1
    simp only [List.cons.injEq, and_true] at e0 e1
    subst e0; subst e1
    exact ⟨⟨n0, s1⟩, rfl, hs⟩

set_option maxRecDepth 100000 in
theorem outs_in {fuel : Nat} {v : Value} {x : DataW H × List MemPlace} (h : DataW.trod enc Try.prog W base spare held fuel 24 [v] = some x) :
    ∃ a cap l, v = .slice a (l : List Ou).length cap ∧ Ous W a l ∧ l.length ≤ maxLen ∧ ∀ y ∈ l, y.text.size ≤ maxLen := by
  have c2 : Try.prog.cellsOf 67 = 2 := by kernel_rfl
  rcases open_slice Try.underlying24 h with ⟨hcs, _⟩ | ⟨a, len, cap, m, n, D, Pl, hcs, _, hl, hm, hmm, _, hx⟩
  · simp only [List.cons.injEq, and_true] at hcs
    exact ⟨none, 0, [], hcs, fun i hi => by simp at hi, by simp, by simp⟩
  · simp only [List.cons.injEq, and_true] at hcs
    have hlm : len ≤ m := by rw [hmm]; split <;> omega
    have each : ∀ i, ∃ y : Ou, i < len → W.cells? base (a.add (i * 2)) 2 = some y.cells ∧ y.text.size ≤ maxLen := fun i => by
      by_cases hi : i < len
      · obtain ⟨cs', hc, ht⟩ := hx i (by omega)
        rw [c2] at hc
        obtain ⟨y, rfl, hy⟩ := out_in ht
        exact ⟨y, fun _ => ⟨hc, hy⟩⟩
      · exact ⟨Ou.none, fun h => absurd h hi⟩
    obtain ⟨Y, hY⟩ := Classical.axiomOfChoice each
    refine ⟨some a, cap, (List.range len).map Y, by rw [hcs]; simp, ?_, by simp; omega, ?_⟩
    · unfold Ous
      rw [List.length_map, List.length_range]
      refine sl_of_addO (fun i hi => ?_)
      have hq : i / 2 < len := by omega
      have hc := (World.cells?_some (hY (i / 2) hq).1).2.2 (i % 2) (by omega)
      rw [Addr.add_add, show i / 2 * 2 + i % 2 = i by omega] at hc
      rw [hc]
      unfold ocell
      have e : ((List.range len).map Y).getD (i / 2) Ou.none = Y (i / 2) := by simp [List.getD, hq]
      rw [e]
      have : i % 2 = 0 ∨ i % 2 = 1 := by omega
      rcases this with h | h <;> rw [h] <;> rfl
    · intro s hs
      obtain ⟨i, hi, rfl⟩ := List.mem_map.1 hs
      exact (hY i (List.mem_range.1 hi)).2

set_option maxRecDepth 100000 in
theorem plan_in {fuel : Nat} {cs : List Value} {x : DataW H × List MemPlace} (h : DataW.trod enc Try.prog W base spare held fuel 26 cs = some x) :
    ∃ (cd bk : Int) (tx : ByteArray) (p : Option Addr) (c : Nat) (l : List Ou), cs = [.int .i64 cd, .int .i64 bk, .string tx, .slice p l.length c] ∧ Ous W p l ∧ tx.size ≤ maxLen ∧ l.length ≤ maxLen ∧ ∀ y ∈ l, y.text.size ≤ maxLen := by
  obtain ⟨xs, n, _, rfl, hl, hlen, hf⟩ := DataW.trod_struct Try.underlying26 h
  have c4 : Try.prog.cellsOf 26 = 4 := by kernel_rfl
  have cs9 : Try.prog.cellsOf 9 = 1 := by kernel_rfl
  have cS : Try.prog.cellsOf 24 = 1 := by kernel_rfl
  rw [c4] at hl
  match xs, hlen, cs, hl with
  | [y0, y1, y2, y3], _, [v0, v1, v2, v3], _ =>
    have f0 : DataW.trod enc Try.prog W base spare held n 3 [v0] = some y0 := by simpa [cInt] using hf 0 _ rfl
    have f1 : DataW.trod enc Try.prog W base spare held n 3 [v1] = some y1 := by simpa [cInt] using hf 1 _ rfl
    have f2 : DataW.trod enc Try.prog W base spare held n 9 [v2] = some y2 := by simpa [cInt, cs9] using hf 2 _ rfl
    have f3 : DataW.trod enc Try.prog W base spare held n 24 [v3] = some y3 := by simpa [cInt, cs9, cS] using hf 3 _ rfl
    obtain ⟨n0, e0, _, _⟩ := DataW.trod_int Try.underlying3 f0
    obtain ⟨n1, e1, _, _⟩ := DataW.trod_int Try.underlying3 f1
    obtain ⟨s2, e2, _, hs⟩ := DataW.trod_string Try.underlying9 f2
    obtain ⟨a, cap, l, rfl, S, hm, he⟩ := outs_in f3
    simp only [List.cons.injEq, and_true] at e0 e1 e2
    subst e0; subst e1; subst e2
    exact ⟨n0, n1, s2, a, cap, l, rfl, S, hs, hm, he⟩

set_option maxRecDepth 100000 in
/-- A host that came in. -/
theorem host_in {v : Value} {d : DataW H} {p : List MemPlace} {r : Reach} {b0 : Nat} (hv : Value.okWide Try.prog W r b0 28 v) (h : DataW.Trod enc Try.prog W base spare held 28 v d p) :
    ∃ (J : Ho) (a : Option Addr) (cap : Nat), v = hoV J a cap ∧ Ous W a J.l ∧ J.Upto maxLen := by
  have c16 : Try.prog.cellsOf 28 = 16 := by kernel_rfl
  have cO : Try.prog.cellsOf 23 = 5 := by kernel_rfl
  have cP : Try.prog.cellsOf 26 = 4 := by kernel_rfl
  have cB : Try.prog.cellsOf 4 = 1 := by kernel_rfl
  obtain ⟨cs, rfl, hsz⟩ := okWide_struct Try.underlying28 hv
  rw [c16] at hsz
  obtain ⟨v0, v1, v2, v3, v4, v5, v6, v7, v8, v9, v10, v11, v12, v13, v14, v15, rfl⟩ : ∃ v0 v1 v2 v3 v4 v5 v6 v7 v8 v9 v10 v11 v12 v13 v14 v15, cs = #[v0, v1, v2, v3, v4, v5, v6, v7, v8, v9, v10, v11, v12, v13, v14, v15] := by
    obtain ⟨l⟩ := cs
    match l, hsz with
    | [v0, v1, v2, v3, v4, v5, v6, v7, v8, v9, v10, v11, v12, v13, v14, v15], _ => exact ⟨v0, v1, v2, v3, v4, v5, v6, v7, v8, v9, v10, v11, v12, v13, v14, v15, rfl⟩
  obtain ⟨fuel, hf⟩ := h
  obtain ⟨xs, n, _, _, _, hlen, hf⟩ := DataW.trod_struct Try.underlying28 hf
  match xs, hlen with
  | [y0, y1, y2, y3, y4, y5, y6, y7, y8], _ =>
    have f0 : DataW.trod enc Try.prog W base spare held n 3 [v0] = some y0 := by simpa [cInt, Value.cells] using hf 0 _ rfl
    have f1 : DataW.trod enc Try.prog W base spare held n 3 [v1] = some y1 := by simpa [cInt, Value.cells] using hf 1 _ rfl
    have f2 : DataW.trod enc Try.prog W base spare held n 4 [v2] = some y2 := by simpa [cInt, cB, Value.cells] using hf 2 _ rfl
    have f3 : DataW.trod enc Try.prog W base spare held n 4 [v3] = some y3 := by simpa [cInt, cB, Value.cells] using hf 3 _ rfl
    have f4 : DataW.trod enc Try.prog W base spare held n 4 [v4] = some y4 := by simpa [cInt, cB, Value.cells] using hf 4 _ rfl
    have f5 : DataW.trod enc Try.prog W base spare held n 23 [v5, v6, v7, v8, v9] = some y5 := by simpa [cInt, cB, cO, Value.cells] using hf 5 _ rfl
    have f6 : DataW.trod enc Try.prog W base spare held n 3 [v10] = some y6 := by simpa [cInt, cB, cO, Value.cells] using hf 6 _ rfl
    have f7 : DataW.trod enc Try.prog W base spare held n 26 [v11, v12, v13, v14] = some y7 := by simpa [cInt, cB, cO, cP, Value.cells] using hf 7 _ rfl
    have f8 : DataW.trod enc Try.prog W base spare held n 3 [v15] = some y8 := by simpa [cInt, cB, cO, cP, Value.cells] using hf 8 _ rfl
    obtain ⟨n0, e0, _, _⟩ := DataW.trod_int Try.underlying3 f0
    obtain ⟨n1, e1, _, _⟩ := DataW.trod_int Try.underlying3 f1
    obtain ⟨b2, e2, _⟩ := DataW.trod_bool Try.underlying4 f2
    obtain ⟨b3, e3, _⟩ := DataW.trod_bool Try.underlying4 f3
    obtain ⟨b4, e4, _⟩ := DataW.trod_bool Try.underlying4 f4
    obtain ⟨k, v, t, at_, s, e5, hs⟩ := op_in f5
    obtain ⟨n6, e6, _, _⟩ := DataW.trod_int Try.underlying3 f6
    obtain ⟨cd, bk, tx, a, cap, l, e7, S, ht, hm, he⟩ := plan_in f7
    obtain ⟨n8, e8, _, _⟩ := DataW.trod_int Try.underlying3 f8
    simp only [List.cons.injEq, and_true] at e0 e1 e2 e3 e4 e5 e6 e7 e8
    obtain ⟨rfl, rfl, rfl, rfl, rfl⟩ := e5
    obtain ⟨rfl, rfl, rfl, rfl⟩ := e7
    subst e0; subst e1; subst e2; subst e3; subst e4; subst e6; subst e8
    exact ⟨⟨n0, n1, b2, b3, b4, k, v, t, at_, s, n6, cd, bk, tx, l, n8⟩, a, cap, rfl, S, ⟨hs, ht, hm, he⟩⟩

end Go.Proofs.Ytllgjoflhjnnaaa.Pl
