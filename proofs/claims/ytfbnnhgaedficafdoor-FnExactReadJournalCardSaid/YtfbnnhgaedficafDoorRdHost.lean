/-
  The walks of impl.hostParts, impl.readKind at a host's sector, and impl.ReadHost. Condition: the table of sixteen sums and the error of a part that lacks stand in their variables.
-/
import Derived.Test.YtfbnnhgaedficafDoorRdCur
import Derived.Test.YtfbnnhgaedficafDoorSecHost2
import Derived.Tactics
import Derived.Tactics2
import Derived.Defers
import Derived.Recover
namespace Go.Proofs.YtfbnnhgaedficafDoor.Rd
open Go.RowKit Go.Proofs.YtfbnnhgaedficafDoor.Mem Go.Proofs.YtfbnnhgaedficafDoor.Sec
set_option linter.unusedVariables false

theorem nums_cons {R : ByteArray → Int × Nat} {s : ByteArray} {i : Nat} (hq : (R (rest s i)).2 ≠ 0) : ∀ k, nums R s i (k + 1) = (nums R s (i + (R (rest s i)).2) k).map (fun p => ((R (rest s i)).1 :: p.1, p.2))
  | 0 => by
    rw [nums_step (l := []) (e := i) rfl, if_neg hq]; rfl
  | k + 1 => by
    conv => lhs; unfold nums
    rw [nums_cons hq k]
    conv => rhs; unfold nums
    cases nums R s (i + (R (rest s i)).2) k with
    | none => rfl
    | some p =>
      simp only [Option.map_some, Option.bind_some]
      split <;> simp

theorem nums_first {R : ByteArray → Int × Nat} {s : ByteArray} {i : Nat} (hq : (R (rest s i)).2 = 0) (k : Nat) : nums R s i (k + 1) = none := by
  have := nums_none (R := R) (s := s) (i := i) (k := 1) (by rw [nums_step (l := []) (e := i) rfl, if_pos hq]) k
  rwa [Nat.add_comm 1 k] at this

/-- What a host's sector is read as. -/
def readHost (R : ByteArray → Int × Nat) (s : ByteArray) : Option (Int × Int × Int) :=
  match nums R s 5 3 with
  | some ([b, x, y], _) => if showHost b (x - 1) y = s then some (b, x - 1, y) else none
  | _ => none

theorem load_row {P : Program} {w : World} {g : Nat} {xs : List Value} (hr : Row w g xs) {ty : TypeId} {d : TypeDesc} (hu : P.underlying ty = some d) (hd : (match d with | .struct _ | .array _ _ => true | _ => false) = true) (hi : (P.info? ty).map (·.size) = some xs.length) :
    (loadVar ty ⟨g, 0, none⟩).run P w = .ok (.agg xs.toArray) w := by
  obtain ⟨t, hg⟩ := hr
  exact run_loadVar_row w g t ty xs.toArray (0, 0) d hg hu hd (by simpa using hi)

theorem load_bool {w : World} {k : Nat} {b : Bool} (hb : Row w k [.bool b]) : (loadVar 4 ⟨k, 0, none⟩).run Tryd.prog w = .ok (.bool b) w := by
  have hc := hb.c 0 rfl
  simp [go_sem, hc]

/-- Two results that are handed back out of their own blocks. -/
theorem results_two {fn : Func} {p q : Tmp} {ty tb : TypeId} (h : fn.results = #[.cell p ty, .cell q tb]) (tmps : Array Value) (w : World) (g k : Nat) (v b : Value)
    (hp : tmps.getD p undef = .pointer (some ⟨g, 0, none⟩)) (hq : tmps.getD q undef = .pointer (some ⟨k, 0, none⟩)) (h1 : (loadVar ty ⟨g, 0, none⟩).run Tryd.prog w = .ok v w) (h2 : (loadVar tb ⟨k, 0, none⟩).run Tryd.prog w = .ok b w) :
    (results fn tmps).run Tryd.prog w = .ok (.tuple #[v, b]) w := by
  have hp' : tmps[p]?.getD undef = .pointer (some ⟨g, 0, none⟩) := by simpa using hp
  have hq' : tmps[q]?.getD undef = .pointer (some ⟨k, 0, none⟩) := by simpa using hq
  simp [results, h, hp', hq', asAddr, h1, h2]

theorem three_any (w : World) (xs ys zs : List Value) (t u v : TypeId) :
    ∃ wc, ((w.alloc (.cells xs.toArray t)).alloc (.cells ys.toArray u)).alloc (.cells zs.toArray v) = wc ∧ wc.heap.size = w.heap.size + 1 + 1 + 1 ∧
      Row wc w.heap.size xs ∧ Row wc (w.heap.size + 1) ys ∧ wc.heap[w.heap.size + 1 + 1]? = some (.cells zs.toArray v (0, 0)) ∧ Below w.heap.size w wc := by
  have e0 : (w.alloc (.cells xs.toArray t)).heap.size = w.heap.size + 1 := by simp
  have e1 : ((w.alloc (.cells xs.toArray t)).alloc (.cells ys.toArray u)).heap.size = w.heap.size + 1 + 1 := by simp
  have r1 := Row.new (w.alloc (.cells xs.toArray t)) ys u
  have r2 := heap_alloc_new ((w.alloc (.cells xs.toArray t)).alloc (.cells ys.toArray u)) (.cells zs.toArray v (0, 0))
  rw [e0] at r1
  rw [e1] at r2
  exact ⟨_, rfl, by simp, ((Row.new w xs t).alloc _).alloc _, r1.alloc _, r2, (((Below.refl _ _).alloc (Nat.le_refl _) _).alloc (by omega) _).alloc (by omega) _⟩

theorem nums_short (R : ByteArray → Int × Nat) (hR : Reads R) (s : ByteArray) (h : s.size ≤ 5) (hs : s.size ≤ 1048576) (k : Nat) : nums R s 5 (k + 1) = none := by
  refine nums_first ?_ k
  have := (hR (rest s 5) (by rw [rest_size]; unfold maxLen; omega)).le
  rw [rest_size] at this; omega

theorem readHost_short (R : ByteArray → Int × Nat) (hR : Reads R) (s : ByteArray) (h : s.size ≤ 5) (hs : s.size ≤ 1048576) : readHost R s = none := by
  unfold readHost; rw [nums_short R hR s h hs 2]

end Go.Proofs.YtfbnnhgaedficafDoor.Rd
