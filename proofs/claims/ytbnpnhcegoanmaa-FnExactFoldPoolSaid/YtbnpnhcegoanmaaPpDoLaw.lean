/-
  The walk of laws.FnExactPoolDo: at every pool and every call the law answers true, and nothing that was there is changed. No other condition.
-/
import Derived.Test.YtbnpnhcegoanmaaPpDoQ
import Derived.Test.YtbnpnhcegoanmaaPpNewLaw
import Derived.Test.YtbnpnhcegoanmaaPlOpLaw
import Derived.Deep.DeepCutAuto
import Derived.Deep.RegionHeldLaw
namespace Go.Proofs.Ytbnpnhcegoanmaa.Pl
open Go.RowKit Go.Proofs.Ytbnpnhcegoanmaa.Mem
set_option linter.unusedVariables false

/-- Six cells that are read while a call's answer is made. -/
theorem t6_below {w1 w' w'' : World} {g0 g1 : Nat} {x0 y0 y1 y2 y3 y4 : Value} (h : w'.cell? ⟨g0, 0, none⟩ = some x0 ∧ w'.cell? ⟨g1, 0, none⟩ = some y0 ∧ w'.cell? ⟨g1, 1, none⟩ = some y1 ∧ w'.cell? ⟨g1, 2, none⟩ = some y2 ∧ w'.cell? ⟨g1, 3, none⟩ = some y3 ∧ w'.cell? ⟨g1, 4, none⟩ = some y4 ∧ Below w1.heap.size w1 w') (b : Below w'.heap.size w' w'') :
    w''.cell? ⟨g0, 0, none⟩ = some x0 ∧ w''.cell? ⟨g1, 0, none⟩ = some y0 ∧ w''.cell? ⟨g1, 1, none⟩ = some y1 ∧ w''.cell? ⟨g1, 2, none⟩ = some y2 ∧ w''.cell? ⟨g1, 3, none⟩ = some y3 ∧ w''.cell? ⟨g1, 4, none⟩ = some y4 ∧ Below w1.heap.size w1 w'' := by
  obtain ⟨h0, h1, h2, h3, h4, h5, h6⟩ := h
  have go : ∀ {p : Addr} {u : Value}, w'.cell? p = some u → w''.cell? p = some u := fun {p} {u} hu => (b.cell (World.block_lt_of_cell? w' _ hu)).trans hu
  exact ⟨go h0, go h1, go h2, go h3, go h4, go h5, h6.trans (b.mono h6.size)⟩
theorem t6_alloc {w1 w' : World} {g0 g1 : Nat} {x0 y0 y1 y2 y3 y4 : Value} (h : w'.cell? ⟨g0, 0, none⟩ = some x0 ∧ w'.cell? ⟨g1, 0, none⟩ = some y0 ∧ w'.cell? ⟨g1, 1, none⟩ = some y1 ∧ w'.cell? ⟨g1, 2, none⟩ = some y2 ∧ w'.cell? ⟨g1, 3, none⟩ = some y3 ∧ w'.cell? ⟨g1, 4, none⟩ = some y4 ∧ Below w1.heap.size w1 w') (o : Obj) :
    (w'.alloc o).cell? ⟨g0, 0, none⟩ = some x0 ∧ (w'.alloc o).cell? ⟨g1, 0, none⟩ = some y0 ∧ (w'.alloc o).cell? ⟨g1, 1, none⟩ = some y1 ∧ (w'.alloc o).cell? ⟨g1, 2, none⟩ = some y2 ∧ (w'.alloc o).cell? ⟨g1, 3, none⟩ = some y3 ∧ (w'.alloc o).cell? ⟨g1, 4, none⟩ = some y4 ∧ Below w1.heap.size w1 (w'.alloc o) :=
  t6_below h ((Below.refl _ _).alloc (Nat.le_refl _) o)
theorem t6_allocd {w1 w' : World} {g0 g1 : Nat} {x0 y0 y1 y2 y3 y4 : Value} (h : w'.drew.cell? ⟨g0, 0, none⟩ = some x0 ∧ w'.drew.cell? ⟨g1, 0, none⟩ = some y0 ∧ w'.drew.cell? ⟨g1, 1, none⟩ = some y1 ∧ w'.drew.cell? ⟨g1, 2, none⟩ = some y2 ∧ w'.drew.cell? ⟨g1, 3, none⟩ = some y3 ∧ w'.drew.cell? ⟨g1, 4, none⟩ = some y4 ∧ Below w1.heap.size w1 w'.drew) (o : Obj) :
    (w'.alloc o).drew.cell? ⟨g0, 0, none⟩ = some x0 ∧ (w'.alloc o).drew.cell? ⟨g1, 0, none⟩ = some y0 ∧ (w'.alloc o).drew.cell? ⟨g1, 1, none⟩ = some y1 ∧ (w'.alloc o).drew.cell? ⟨g1, 2, none⟩ = some y2 ∧ (w'.alloc o).drew.cell? ⟨g1, 3, none⟩ = some y3 ∧ (w'.alloc o).drew.cell? ⟨g1, 4, none⟩ = some y4 ∧ Below w1.heap.size w1 (w'.alloc o).drew :=
  t6_alloc (w' := w'.drew) h o
theorem t6_set {w1 w' : World} {g0 g1 gz : Nat} {x0 y0 y1 y2 y3 y4 : Value} (h : w'.cell? ⟨g0, 0, none⟩ = some x0 ∧ w'.cell? ⟨g1, 0, none⟩ = some y0 ∧ w'.cell? ⟨g1, 1, none⟩ = some y1 ∧ w'.cell? ⟨g1, 2, none⟩ = some y2 ∧ w'.cell? ⟨g1, 3, none⟩ = some y3 ∧ w'.cell? ⟨g1, 4, none⟩ = some y4 ∧ Below w1.heap.size w1 w') (hg0 : g0 < w1.heap.size) (hg1 : g1 < w1.heap.size) (hge : w1.heap.size ≤ gz) (x : Value) :
    (w'.setCell ⟨gz, 0, none⟩ x).cell? ⟨g0, 0, none⟩ = some x0 ∧ (w'.setCell ⟨gz, 0, none⟩ x).cell? ⟨g1, 0, none⟩ = some y0 ∧ (w'.setCell ⟨gz, 0, none⟩ x).cell? ⟨g1, 1, none⟩ = some y1 ∧ (w'.setCell ⟨gz, 0, none⟩ x).cell? ⟨g1, 2, none⟩ = some y2 ∧ (w'.setCell ⟨gz, 0, none⟩ x).cell? ⟨g1, 3, none⟩ = some y3 ∧ (w'.setCell ⟨gz, 0, none⟩ x).cell? ⟨g1, 4, none⟩ = some y4 ∧ Below w1.heap.size w1 (w'.setCell ⟨gz, 0, none⟩ x) := by
  obtain ⟨h0, h1, h2, h3, h4, h5, h6⟩ := h
  have go : ∀ {g j : Nat} {u : Value}, g < gz → w'.cell? ⟨g, j, none⟩ = some u → (w'.setCell ⟨gz, 0, none⟩ x).cell? ⟨g, j, none⟩ = some u := fun {g j} {u} hg hu => by
    rw [World.cell?_setCell_other _ _ _ _ (fun e => by injection e; omega)]; exact hu
  exact ⟨go (by omega) h0, go (by omega) h1, go (by omega) h2, go (by omega) h3, go (by omega) h4, go (by omega) h5, below_set h6 _ _ _ hge⟩

theorem t2_below {w1 w' w'' : World} {g0 g1 : Nat} {x0 y0 : Value} (h : w'.cell? ⟨g0, 0, none⟩ = some x0 ∧ w'.cell? ⟨g1, 0, none⟩ = some y0 ∧ Below w1.heap.size w1 w') (b : Below w'.heap.size w' w'') :
    w''.cell? ⟨g0, 0, none⟩ = some x0 ∧ w''.cell? ⟨g1, 0, none⟩ = some y0 ∧ Below w1.heap.size w1 w'' := by
  obtain ⟨h0, h1, h6⟩ := h
  have go : ∀ {p : Addr} {u : Value}, w'.cell? p = some u → w''.cell? p = some u := fun {p} {u} hu => (b.cell (World.block_lt_of_cell? w' _ hu)).trans hu
  exact ⟨go h0, go h1, h6.trans (b.mono h6.size)⟩

/-- A box that was made just ahead of a call stands behind it. -/
theorem box_new {w w' : World} {xs : List Value} {t : TypeId} (b : Below (w.alloc (.cells xs.toArray t)).heap.size (w.alloc (.cells xs.toArray t)) w') : Row w' w.heap.size xs := (Row.new w xs t).below b (lt_alloc w _)
theorem box_newd {w w' : World} {xs : List Value} {t : TypeId} (b : Below (w.alloc (.cells xs.toArray t)).drew.heap.size (w.alloc (.cells xs.toArray t)).drew w') : Row w' w.heap.size xs := Row.below (show Row (w.alloc (.cells xs.toArray t)).drew w.heap.size xs from Row.new w xs t) b (lt_alloc w _)

theorem box_new2 {w w' : World} {xs : List Value} {t : TypeId} (b : Below (w.alloc (.cells xs.toArray t)).heap.size (w.alloc (.cells xs.toArray t)) w') : Row w' w.heap.size xs ∧ w.heap.size < (w.alloc (.cells xs.toArray t)).heap.size := ⟨box_new b, lt_alloc w _⟩
theorem box_newd2 {w w' : World} {xs : List Value} {t : TypeId} (b : Below (w.alloc (.cells xs.toArray t)).drew.heap.size (w.alloc (.cells xs.toArray t)).drew w') : Row w' w.heap.size xs ∧ w.heap.size < (w.alloc (.cells xs.toArray t)).drew.heap.size := ⟨box_newd b, lt_alloc w _⟩
theorem PvsW.below_a {w w' : World} {B : Nat} {a : Option Addr} {L : List Pv} {o : Obj} (h : PvsW w B a L) (b : Below (w.alloc o).heap.size (w.alloc o) w') : PvsW w' B a L := (h.below ((Below.refl _ _).alloc (Nat.le_refl _) o)).below b

/-- A pool in its box, behind all that was there in w1. -/
structure PBox (w1 : World) (D : List Dt) (q : Bool) (g : Nat) (a : Option Addr) (c : Nat) (M : List Pv) (wr : World) : Prop where
  bel : Below w1.heap.size w1 wr
  row : Row wr g [.slice a M.length c]
  pv : PvsW wr w1.heap.size a M
  sep : ∀ b, pfoot a M b → b ≠ g
  ge : w1.heap.size ≤ g
  dat : M.map Pv.data = D

theorem PBox.stored {w1 wd : World} {D : List Dt} {q : Bool} {gz : Nat} {a : Option Addr} {c B : Nat} {M : List Pv} {xs : List Value} (hb : Below w1.heap.size w1 wd) (hr : Row wd gz xs) (hx : xs.set 0 (.slice a M.length c) = [.slice a M.length c]) (hp : PvsW wd B a M) (hB : w1.heap.size ≤ B) (hg : gz < B) (hge : w1.heap.size ≤ gz) (hd : M.map Pv.data = D) : PBox w1 D q gz a c M (wd.setCell ⟨gz, 0, none⟩ (.slice a M.length c)) :=
  ⟨below_set hb _ _ _ hge, by have := hr.set 0 (.slice a M.length c); rwa [hx] at this, (hp.move (kept_set wd gz 0 _) (fun b hb e => by have := (hp.pfoot_ge hb).1; omega)).mono hB, fun b hb e => by have := (hp.pfoot_ge hb).1; omega, hge, hd⟩
theorem PBox.laid {w1 wd : World} {D : List Dt} {q : Bool} {a : Option Addr} {c B : Nat} {M : List Pv} {t : TypeId} (hb : Below w1.heap.size w1 wd) (hp : PvsW wd B a M) (hB : w1.heap.size ≤ B) (hd : M.map Pv.data = D) : PBox w1 D q wd.heap.size a c M (wd.alloc (.cells #[.slice a M.length c] t)) :=
  ⟨hb.alloc hb.size _, Row.new wd [.slice a M.length c] t, (hp.below ((Below.refl _ _).alloc (Nat.le_refl _) _)).mono hB, fun b hb e => by have := (hp.pfoot_ge hb).2; omega, hb.size, hd⟩

/-- What a call makes of a small pool is small. -/
def Sm (d : Dt) : Prop := (d.2.1.length : Int) ≤ 1048576 ∧ (d.2.2.length : Int) ≤ 1048576 ∧ ∀ s ∈ d.2.2, (s.size : Int) ≤ 1048576
theorem none_sm : Sm noneD := by
  refine ⟨by decide, by decide, fun s hs => ?_⟩
  have : s = ⟨#[]⟩ := by simpa [noneD] using hs
  subst this; decide
theorem getD_sm {D : List Dt} (h : ∀ d ∈ D, Sm d) (n : Nat) : Sm (D.getD n noneD) := by
  by_cases hn : n < D.length
  · simp only [List.getD, List.getElem?_eq_getElem hn, Option.getD_some]; exact h _ (List.getElem_mem hn)
  · simp only [List.getD, List.getElem?_eq_none (Nat.le_of_not_lt hn), Option.getD_none]; exact none_sm
theorem set_sm {D : List Dt} (h : ∀ d ∈ D, Sm d) (n : Nat) {x : Dt} (hx : Sm x) : ∀ d ∈ D.set n x, Sm d := fun d hd => by
  rcases List.mem_or_eq_of_mem_set hd with h1 | h1
  · exact h d h1
  · subst h1; exact hx
theorem sm_put {d : Dt} (h : Sm d) (q : Bool) (n : Nat) (b : Bool) {s : ByteArray} (hs : (s.size : Int) ≤ 1048576) : Sm (q, d.2.1.set n b, d.2.2.set n s) :=
  ⟨by simpa using h.1, by simpa using h.2.1, fun u hu => by
    rcases List.mem_or_eq_of_mem_set hu with h1 | h1
    · exact h.2.2 u h1
    · subst h1; exact hs⟩
theorem do_sm {D : List Dt} (h : ∀ d ∈ D, Sm d) (k v t a : Int) {s : ByteArray} (hs : (s.size : Int) ≤ 1048576) : (doD D k v t a s).1.length = D.length ∧ ∀ d ∈ (doD D k v t a s).1, Sm d := by
  unfold doD
  split
  · split
    · exact ⟨rfl, h⟩
    split
    · exact ⟨rfl, h⟩
    split
    · exact ⟨by simp, set_sm h _ (getD_sm h _)⟩
    split
    · exact ⟨by simp, set_sm h _ none_sm⟩
    split
    · exact ⟨by simp, set_sm h _ (sm_put (getD_sm h _) _ _ _ hs)⟩
    split
    · exact ⟨by simp, set_sm h _ (sm_put (getD_sm h _) _ _ _ (by decide))⟩
    split
    · exact ⟨rfl, h⟩
    · exact ⟨by simp, set_sm h _ (getD_sm h _)⟩
  · exact ⟨rfl, h⟩
theorem small_of {L M : List Pv} {k v t a : Int} {s : ByteArray} (hl : L.length ≤ 1048576) (hu : ∀ x ∈ L, x.Upto 1048576) (hs : s.size ≤ 1048576) (h : M.map Pv.data = (poolDo L k v t a s).1) : M.length ≤ 1048576 ∧ ∀ x ∈ M, x.Upto 1048576 := by
  have hD : ∀ d ∈ L.map Pv.data, Sm d := fun d hd => by
    obtain ⟨x, hx, rfl⟩ := List.mem_map.1 hd
    exact hu x hx
  have key : (poolDo L k v t a s).1.length ≤ 1048576 ∧ ∀ d ∈ (poolDo L k v t a s).1, Sm d := by
    unfold poolDo
    split
    · have := do_sm hD k v t a (s := s) (by omega)
      exact ⟨by rw [this.1]; simpa using hl, this.2⟩
    · exact ⟨by simp, fun d hd => by simp at hd⟩
  rw [← h] at key
  exact ⟨by simpa using key.1, fun x hx => key.2 _ (List.mem_map_of_mem hx)⟩

end Go.Proofs.Ytbnpnhcegoanmaa.Pl
