/-
  What spec.ReadGroup's region leaves, in each of its three orders. No condition.
-/
import Derived.Test.YtogebppolkfldaaGreatDoorRdGroup2
namespace Go.Proofs.YtogebppolkfldaaGreatDoor.Rd
open Go.RowKit Go.Proofs.YtogebppolkfldaaGreatDoor.Mem Go.Proofs.YtogebppolkfldaaGreatDoor.Sec
set_option linter.unusedVariables false

theorem ir_cap {w : World} {B : Nat} {a : Option Addr} {n cap : Nat} {l : List Int} (h : Ir w B (.slice a n cap) l) : l.length ≤ cap := by
  rcases h with ⟨b, e, n0, _⟩ | ⟨⟨_, h⟩, a, c, e⟩
  · omega
  · rcases h with h | ⟨g, cp, cs, e2, _, _, h6, _⟩
    · simp_all
    · cases e2
      exact h6

theorem up1 {w : World} {p : Addr} {v : Value} (o : Obj) (h : w.cell? p = some v) : (w.alloc o).cell? p = some v := (((Below.refl _ w).alloc (Nat.le_refl _) o).cell (World.block_lt_of_cell? w _ h)).trans h
theorem up3 {w : World} {p : Addr} {v : Value} (o1 o2 o3 : Obj) (h : w.cell? p = some v) : (((w.alloc o1).alloc o2).alloc o3).cell? p = some v := up1 o3 (up1 o2 (up1 o1 h))

theorem row6 (w : World) (B cc : Nat) (d0 d1 d2 d3 d4 d5 : Int) (hB : B ≤ w.heap.size) (h : 6 ≤ cc + 1 ∧ cc + 1 ≤ maxLen) (n : Nat) (hn : n = w.heap.size) : Ir (w.alloc (.cells ((#[.int .i64 d0, .int .i64 d1, .int .i64 d2, .int .i64 d3, .int .i64 d4, .int .i64 d5] : Array Value) ++ Builtin.zeroCells #[.int .i64 0] (cc - 5)) 3)) B (.slice (some ⟨n, 0, none⟩) 6 (cc + 1)) [d0, d1, d2, d3, d4, d5] := by
  subst hn
  refine Or.inr ⟨⟨rfl, Or.inr ⟨w.heap.size, _, _, rfl, hB, heap_alloc_new w _, h.1, h.2, ?_, ?_⟩⟩, _, cc, rfl⟩
  · simp [size_zeroCells]
    omega
  · simp only [Array.toList_append]
    rfl

theorem rnew (w : World) (xs : List Value) (t : TypeId) (n : Nat) (hn : n = w.heap.size) : Row (w.alloc (.cells xs.toArray t)) n xs := by
  subst hn
  exact Row.new w xs t

/-- Behind the region: the box, the row, and what was there. -/
def Grp (w W : World) (bx rw cc : Nat) (x y : Int) (l : List Int) : Prop :=
  Row W bx [.int .i64 x, .int .i64 y, .slice (some ⟨rw, 0, none⟩) 6 (cc + 1)] ∧ Ir W w.heap.size (.slice (some ⟨rw, 0, none⟩) 6 (cc + 1)) l ∧ Row W w.heap.size [.int .i64 0, .int .i64 0, .slice none 0 0] ∧ Below w.heap.size w W ∧ w.heap.size < rw

theorem below3 {w w1 : World} (h : Below w.heap.size w w1) (o1 o2 o3 : Obj) : Below w.heap.size w (((w1.alloc o1).alloc o2).alloc o3).drew.drew :=
  (((h.alloc h.size o1).alloc (by have := h.size; simp; omega) o2).alloc (by have := h.size; simp; omega) o3).drew.drew

theorem grp1 {w w1 : World} (hA : Row w1 w.heap.size [.int .i64 0, .int .i64 0, .slice none 0 0]) (hB : Below w.heap.size w w1) (cc : Nat) (hc : 6 ≤ cc + 1 ∧ cc + 1 ≤ maxLen) (x y d0 d1 d2 d3 d4 d5 : Int) :
    Grp w ((((w1.alloc (.cells #[] 3)).alloc (.cells ((#[.int .i64 d0, .int .i64 d1, .int .i64 d2, .int .i64 d3, .int .i64 d4, .int .i64 d5] : Array Value) ++ Builtin.zeroCells #[.int .i64 0] (cc - 5)) 3)).alloc (.cells #[.int .i64 x, .int .i64 y, .slice (some ⟨w1.heap.size + 1, 0, none⟩) 6 (cc + 1)] 59)).drew.drew) (w1.heap.size + 1 + 1) (w1.heap.size + 1) cc x y [d0, d1, d2, d3, d4, d5] :=
  ⟨rnew ((w1.alloc (.cells #[] 3)).alloc (.cells ((#[.int .i64 d0, .int .i64 d1, .int .i64 d2, .int .i64 d3, .int .i64 d4, .int .i64 d5] : Array Value) ++ Builtin.zeroCells #[.int .i64 0] (cc - 5)) 3)) [.int .i64 x, .int .i64 y, .slice (some ⟨w1.heap.size + 1, 0, none⟩) 6 (cc + 1)] 59 _ (by simp), RowO.below (row6 (w1.alloc (.cells #[] 3)) w.heap.size cc d0 d1 d2 d3 d4 d5 (by have := hB.size; simp; omega) hc _ (by simp)) ((Below.refl _ _).alloc (Nat.le_refl _) _).drew.drew, ((hA.alloc _).alloc _).alloc _, below3 hB _ _ _, by have := hA.lt; omega⟩

theorem grp2 {w w1 : World} (hA : Row w1 w.heap.size [.int .i64 0, .int .i64 0, .slice none 0 0]) (hB : Below w.heap.size w w1) (cc : Nat) (hc : 6 ≤ cc + 1 ∧ cc + 1 ≤ maxLen) (x y d0 d1 d2 d3 d4 d5 : Int) :
    Grp w ((((w1.alloc (.cells #[] 3)).alloc (.cells #[.int .i64 x, .int .i64 y, .slice (some ⟨w1.heap.size + 1 + 1, 0, none⟩) 6 (cc + 1)] 59)).alloc (.cells ((#[.int .i64 d0, .int .i64 d1, .int .i64 d2, .int .i64 d3, .int .i64 d4, .int .i64 d5] : Array Value) ++ Builtin.zeroCells #[.int .i64 0] (cc - 5)) 3)).drew.drew) (w1.heap.size + 1) (w1.heap.size + 1 + 1) cc x y [d0, d1, d2, d3, d4, d5] :=
  ⟨(rnew (w1.alloc (.cells #[] 3)) [.int .i64 x, .int .i64 y, .slice (some ⟨w1.heap.size + 1 + 1, 0, none⟩) 6 (cc + 1)] 59 _ (by simp)).alloc _, row6 ((w1.alloc (.cells #[] 3)).alloc (.cells #[.int .i64 x, .int .i64 y, .slice (some ⟨w1.heap.size + 1 + 1, 0, none⟩) 6 (cc + 1)] 59)) w.heap.size cc d0 d1 d2 d3 d4 d5 (by have := hB.size; simp; omega) hc _ (by simp), ((hA.alloc _).alloc _).alloc _, below3 hB _ _ _, by have := hA.lt; omega⟩

theorem grp3 {w w1 : World} (hA : Row w1 w.heap.size [.int .i64 0, .int .i64 0, .slice none 0 0]) (hB : Below w.heap.size w w1) (cc : Nat) (hc : 6 ≤ cc + 1 ∧ cc + 1 ≤ maxLen) (x y d0 d1 d2 d3 d4 d5 : Int) :
    Grp w ((((w1.alloc (.cells #[.int .i64 x, .int .i64 y, .slice (some ⟨w1.heap.size + 1 + 1, 0, none⟩) 6 (cc + 1)] 59)).alloc (.cells #[] 3)).alloc (.cells ((#[.int .i64 d0, .int .i64 d1, .int .i64 d2, .int .i64 d3, .int .i64 d4, .int .i64 d5] : Array Value) ++ Builtin.zeroCells #[.int .i64 0] (cc - 5)) 3)).drew.drew) (w1.heap.size) (w1.heap.size + 1 + 1) cc x y [d0, d1, d2, d3, d4, d5] :=
  ⟨((rnew w1 [.int .i64 x, .int .i64 y, .slice (some ⟨w1.heap.size + 1 + 1, 0, none⟩) 6 (cc + 1)] 59 _ (by simp)).alloc _).alloc _, row6 ((w1.alloc (.cells #[.int .i64 x, .int .i64 y, .slice (some ⟨w1.heap.size + 1 + 1, 0, none⟩) 6 (cc + 1)] 59)).alloc (.cells #[] 3)) w.heap.size cc d0 d1 d2 d3 d4 d5 (by have := hB.size; simp; omega) hc _ (by simp), ((hA.alloc _).alloc _).alloc _, below3 hB _ _ _, by have := hA.lt; omega⟩

end Go.Proofs.YtogebppolkfldaaGreatDoor.Rd
