/-
  The walks of impl.freesParts, impl.readKind at a list of numbers, and impl.ReadFrees. Condition: the table of sixteen sums and the error of a part that lacks stand in their variables.
-/
import Derived.Test.YteaiciofcffkgaaDoorRdNums
import Derived.Test.YteaiciofcffkgaaDoorSecFrees
import Derived.Tactics
import Derived.Tactics2
import Derived.Defers
import Derived.Recover
namespace Go.Proofs.YteaiciofcffkgaaDoor.Rd
open Go.RowKit Go.Proofs.YteaiciofcffkgaaDoor.Mem Go.Proofs.YteaiciofcffkgaaDoor.Sec
set_option linter.unusedVariables false

set_option maxRecDepth 100000 in
set_option maxHeartbeats 1000000 in
/-- A count: a number that is not above its limit, or a part lacks. -/
theorem count (R : ByteArray → Int × Nat) (hR : Reads R) (s : ByteArray) (hs : s.size ≤ 1048576) (i : Nat) (lim : Int) (w : World) (c : Nat) (h : Cur w c (rest s i)) (u : TypeId) (pv : Value) (hL : Lacks w u pv) (hc : 0 < c) :
    Calls Tryd.prog 40 #[.pointer (some ⟨c, 0, none⟩), .int .i64 lim] w fun e w' => ((R (rest s i)).2 ≠ 0 ∧ (R (rest s i)).1 ≤ lim ∧ e = .returned (.int .i64 (R (rest s i)).1) ∧ Moved w w' c (rest s (i + (R (rest s i)).2))) ∨ (((R (rest s i)).2 = 0 ∨ lim < (R (rest s i)).1) ∧ e = lack u pv ∧ Kept (fun b => b = c) w w') := by
  have HR := hid hR
  have HH := hid h
  have HL := hid hL
  clear hR h hL
  go_enter Tryd.func40, Tryd.ntmps40
  go_wp2_with fail
  refine (number R HR.out s hs i w c HH.out u pv HL.out).mono ?_
  rintro e w1 (⟨hq, rfl, M1⟩ | ⟨hq, rfl, hw⟩)
  · have HM := hid M1
    have g0 : w1.cell? ⟨0, 0, none⟩ = some (.iface u pv) := HL.out.kept M1.2 (by omega)
    have HQ := hid hq
    clear M1 hq
    by_cases hl : lim < (R (rest s i)).1
    · have HX := hid hl
      generalize (R (rest s i)).1 = x at hl
      go_wp2
      exact ⟨rfl, Or.inr ⟨Or.inr HX.out, rfl, HM.out.2⟩⟩
    · have HX := hid hl
      have hgo : ∀ x, (R (rest s i)).1 = x → ¬ lim < x → True := fun _ _ _ => trivial
      generalize hx : (R (rest s i)).1 = x at hl
      have HE := hid hx
      clear hx
      go_wp2
      go_ret
      exact Or.inl ⟨HQ.out, by have := HX.out; omega, by rw [HE.out]; rfl, HM.out⟩
  · obtain rfl := hw.symm
    have HQ := hid hq
    clear hq hw
    unfold lack
    go_wp2
    exact ⟨rfl, Or.inr ⟨Or.inl HQ.out, rfl, Kept.refl _ _⟩⟩

/-- The numbers of a frees' text: how many, then they. -/
def freesNums (R : ByteArray → Int × Nat) (s : ByteArray) : Option (List Int × Nat) :=
  if (R (rest s 5)).2 = 0 ∨ 12 < (R (rest s 5)).1 then none else nums R s (5 + (R (rest s 5)).2) (R (rest s 5)).1.toNat

theorem map_zero (l : List Int) : l.map (· + 0) = l := by simp

/-- What frees are read as. -/
def readFrees (R : ByteArray → Int × Nat) (s : ByteArray) : Option (List Int) :=
  match freesNums R s with
  | some (l, _) => if showFrees l = s then some l else none
  | none => none

theorem load_flag {w : World} {k : Nat} {b : Bool} (hb : Row w k [.bool b]) : (loadVar 4 ⟨k, 0, none⟩).run Tryd.prog w = .ok (.bool b) w := by
  have hc := hb.c 0 rfl
  simp [go_sem, hc]

theorem load_list {w : World} {k : Nat} {v : Value} (hb : Row w k [v]) : (loadVar 24 ⟨k, 0, none⟩).run Tryd.prog w = .ok v w := by
  have hc := hb.c 0 rfl
  simp [go_sem, hc]

/-- Two results that are handed back out of their own blocks. -/
theorem results_cells {fn : Func} {p q : Tmp} {ty tb : TypeId} (h : fn.results = #[.cell p ty, .cell q tb]) (tmps : Array Value) (w : World) (g k : Nat) (v b : Value)
    (hp : tmps.getD p undef = .pointer (some ⟨g, 0, none⟩)) (hq : tmps.getD q undef = .pointer (some ⟨k, 0, none⟩)) (h1 : (loadVar ty ⟨g, 0, none⟩).run Tryd.prog w = .ok v w) (h2 : (loadVar tb ⟨k, 0, none⟩).run Tryd.prog w = .ok b w) :
    (results fn tmps).run Tryd.prog w = .ok (.tuple #[v, b]) w := by
  have hp' : tmps[p]?.getD undef = .pointer (some ⟨g, 0, none⟩) := by simpa using hp
  have hq' : tmps[q]?.getD undef = .pointer (some ⟨k, 0, none⟩) := by simpa using hq
  simp [results, h, hp', hq', asAddr, h1, h2]

theorem three_blocks (w : World) (xs ys zs : List Value) (t u v : TypeId) :
    ∃ wc, ((w.alloc (.cells xs.toArray t)).alloc (.cells ys.toArray u)).alloc (.cells zs.toArray v) = wc ∧ wc.heap.size = w.heap.size + 1 + 1 + 1 ∧
      Row wc w.heap.size xs ∧ Row wc (w.heap.size + 1) ys ∧ wc.heap[w.heap.size + 1 + 1]? = some (.cells zs.toArray v (0, 0)) ∧ Below w.heap.size w wc := by
  have e0 : (w.alloc (.cells xs.toArray t)).heap.size = w.heap.size + 1 := by simp
  have e1 : ((w.alloc (.cells xs.toArray t)).alloc (.cells ys.toArray u)).heap.size = w.heap.size + 1 + 1 := by simp
  have r1 := Row.new (w.alloc (.cells xs.toArray t)) ys u
  have r2 := heap_alloc_new ((w.alloc (.cells xs.toArray t)).alloc (.cells ys.toArray u)) (.cells zs.toArray v (0, 0))
  rw [e0] at r1
  rw [e1] at r2
  exact ⟨_, rfl, by simp, ((Row.new w xs t).alloc _).alloc _, r1.alloc _, r2, (((Below.refl _ _).alloc (Nat.le_refl _) _).alloc (by omega) _).alloc (by omega) _⟩

theorem first_none {R : ByteArray → Int × Nat} (hR : Reads R) {s : ByteArray} (h : s.size ≤ 5) : (R (rest s 5)).2 = 0 := by
  have := (hR (rest s 5) (by rw [rest_size]; unfold maxLen; omega)).le
  rw [rest_size] at this; omega

theorem readFrees_short (R : ByteArray → Int × Nat) (hR : Reads R) (s : ByteArray) (h : s.size ≤ 5) : readFrees R s = none := by
  unfold readFrees freesNums; rw [if_pos (Or.inl (first_none hR h))]

/-- What both sides answer: a list of its own, or none. -/
def FreesOut (R : ByteArray → Int × Nat) (s : ByteArray) (w w' : World) (e : Ending) : Prop :=
  ∃ v l ok, (readFrees R s = some l ∧ ok = true ∨ readFrees R s = none ∧ l = [] ∧ ok = false) ∧ e = .returned (.tuple #[v, .bool ok]) ∧ Ir w' w.heap.size v l ∧ Below w.heap.size w w'

theorem frees_short_len {R : ByteArray → Int × Nat} (hR : Reads R) {s : ByteArray} (hs : s.size ≤ 1048576) {l : List Int} {z : Nat} (h : freesNums R s = some (l, z)) : l.length ≤ 12 := by
  unfold freesNums at h
  split at h
  · cases h
  · have := nums_len h
    have hx := (hR (rest s 5) (by rw [rest_size]; unfold maxLen; omega)).x0
    omega

end Go.Proofs.YteaiciofcffkgaaDoor.Rd
