/-
  The walks of impl.showOp, impl.showOuts and impl.ShowJournal. Condition for the last: the table of sixteen sums holds what the program's text lays.
-/
import Derived.Test.YtaopkchkhdbfnaaGreatDoorSecJn5
import Derived.Deep.RegionHeldLaw
namespace Go.Proofs.YtaopkchkhdbfnaaGreatDoor.Sec
open Go.RowKit Go.Proofs.YtaopkchkhdbfnaaGreatDoor.Mem
set_option linter.unusedVariables false

def opS (k v t a : Int) (s : ByteArray) : ByteArray := vrs 0 [k, v, t, a] ++ piece s

theorem four_bd {k v t a : Int} (hk : 0 ≤ k ∧ k ≤ 99) (hv : 0 ≤ v ∧ v ≤ 99) (ht : 0 ≤ t ∧ t ≤ 99) (ha : 0 ≤ a ∧ a ≤ 99) : ∀ i, i < [k, v, t, a].length → -1 ≤ [k, v, t, a].getD i 0 ∧ [k, v, t, a].getD i 0 ≤ 1000000 := by
  intro i hi
  have : i = 0 ∨ i = 1 ∨ i = 2 ∨ i = 3 := by simp at hi; omega
  rcases this with rfl | rfl | rfl | rfl <;> simp <;> omega

theorem box5_below {wa w1 w2 : World} {g : Nat} {x0 x1 x2 x3 x4 : Value} (hg : g < wa.heap.size) (b : Below w1.heap.size w1 w2) (h : w1.cell? ⟨g, 0, none⟩ = some x0 ∧ w1.cell? ⟨g, 1, none⟩ = some x1 ∧ w1.cell? ⟨g, 2, none⟩ = some x2 ∧ w1.cell? ⟨g, 3, none⟩ = some x3 ∧ w1.cell? ⟨g, 4, none⟩ = some x4 ∧ Below wa.heap.size wa w1) :
    w2.cell? ⟨g, 0, none⟩ = some x0 ∧ w2.cell? ⟨g, 1, none⟩ = some x1 ∧ w2.cell? ⟨g, 2, none⟩ = some x2 ∧ w2.cell? ⟨g, 3, none⟩ = some x3 ∧ w2.cell? ⟨g, 4, none⟩ = some x4 ∧ Below wa.heap.size wa w2 := by
  obtain ⟨a0, a1, a2, a3, a4, bl⟩ := h
  have hl : g < w1.heap.size := Nat.lt_of_lt_of_le hg bl.size
  have c := fun j => b.cell (p := ⟨g, j, none⟩) hl
  exact ⟨(c 0).trans a0, (c 1).trans a1, (c 2).trans a2, (c 3).trans a3, (c 4).trans a4, bl.trans (b.mono bl.size)⟩

theorem box5_alloc {wa w1 : World} {g : Nat} {x0 x1 x2 x3 x4 : Value} (hg : g < wa.heap.size) (h : w1.cell? ⟨g, 0, none⟩ = some x0 ∧ w1.cell? ⟨g, 1, none⟩ = some x1 ∧ w1.cell? ⟨g, 2, none⟩ = some x2 ∧ w1.cell? ⟨g, 3, none⟩ = some x3 ∧ w1.cell? ⟨g, 4, none⟩ = some x4 ∧ Below wa.heap.size wa w1) (o : Obj) :
    (w1.alloc o).cell? ⟨g, 0, none⟩ = some x0 ∧ (w1.alloc o).cell? ⟨g, 1, none⟩ = some x1 ∧ (w1.alloc o).cell? ⟨g, 2, none⟩ = some x2 ∧ (w1.alloc o).cell? ⟨g, 3, none⟩ = some x3 ∧ (w1.alloc o).cell? ⟨g, 4, none⟩ = some x4 ∧ Below wa.heap.size wa (w1.alloc o) :=
  box5_below hg ((Below.refl _ _).alloc (Nat.le_refl _) o) h

set_option maxRecDepth 100000 in
set_option maxHeartbeats 2000000 in
theorem showOp (k v t a : Int) (s : ByteArray) (w : World) (hs : s.size ≤ 16) (hk : 0 ≤ k ∧ k ≤ 99) (hv : 0 ≤ v ∧ v ≤ 99) (ht : 0 ≤ t ∧ t ≤ 99) (ha : 0 ≤ a ∧ a ≤ 99) :
    Calls Tryz.prog 187 #[opV k v t a s] w fun e w' => e = .returned (.string (opS k v t a s)) ∧ Below w.heap.size w w' := by
  have HBd := hid (four_bd hk hv ht ha)
  have HD : Hid (vrs 0 [k, v, t, a] ++ piece s = opS k v t a s) := rfl
  have zp := piece_size s
  have zv : (vrs 0 [k, v, t, a]).size ≤ 28 := by have := vrs_size 0 [k, v, t, a]; simpa using this
  unfold opV
  obtain ⟨wa, hwa, ez, A0, B0⟩ := one_new w [.int .i64 k, .int .i64 v, .int .i64 t, .int .i64 a, .string s] 58
  have k0 := A0.c 0 rfl
  have k1 := A0.c 1 rfl
  have k2 := A0.c 2 rfl
  have k3 := A0.c 3 rfl
  have k4 := A0.c 4 rfl
  have HA := hid A0
  have HB := hid B0
  have hwn : ∀ w : World, (Instr.buildSlice 23 4 #[(0, .int .i64 k), (1, .int .i64 v), (2, .int .i64 t), (3, .int .i64 a)]).run Tryz.prog w = .ok (.slice (some ⟨w.heap.size, 0, none⟩) 4 4) (w.alloc (.cells #[.int .i64 k, .int .i64 v, .int .i64 t, .int .i64 a] 3)) := fun _ => by kernel_rfl
  clear A0 B0 hk hv ht ha
  go_enter Tryz.func187, Tryz.ntmps187
  go_wp2
  have Q0 := hid (show wa.drew.cell? ⟨w.heap.size, 0, none⟩ = some (.int .i64 k) ∧ wa.drew.cell? ⟨w.heap.size, 1, none⟩ = some (.int .i64 v) ∧ wa.drew.cell? ⟨w.heap.size, 2, none⟩ = some (.int .i64 t) ∧ wa.drew.cell? ⟨w.heap.size, 3, none⟩ = some (.int .i64 a) ∧ wa.drew.cell? ⟨w.heap.size, 4, none⟩ = some (.string s) ∧ Below wa.heap.size wa wa.drew from ⟨k0, k1, k2, k3, k4, (Below.refl _ wa).drew⟩)
  have hg : w.heap.size < wa.heap.size := by omega
  have QA := hid (show (wa.alloc (.cells #[.int .i64 k, .int .i64 v, .int .i64 t, .int .i64 a] 3)).drew.cell? ⟨w.heap.size, 0, none⟩ = some (.int .i64 k) ∧ (wa.alloc (.cells #[.int .i64 k, .int .i64 v, .int .i64 t, .int .i64 a] 3)).drew.cell? ⟨w.heap.size, 1, none⟩ = some (.int .i64 v) ∧ (wa.alloc (.cells #[.int .i64 k, .int .i64 v, .int .i64 t, .int .i64 a] 3)).drew.cell? ⟨w.heap.size, 2, none⟩ = some (.int .i64 t) ∧ (wa.alloc (.cells #[.int .i64 k, .int .i64 v, .int .i64 t, .int .i64 a] 3)).drew.cell? ⟨w.heap.size, 3, none⟩ = some (.int .i64 a) ∧ (wa.alloc (.cells #[.int .i64 k, .int .i64 v, .int .i64 t, .int .i64 a] 3)).drew.cell? ⟨w.heap.size, 4, none⟩ = some (.string s) ∧ Below wa.heap.size wa (wa.alloc (.cells #[.int .i64 k, .int .i64 v, .int .i64 t, .int .i64 a] 3)).drew from
    box5_below hg ((Below.refl _ wa).alloc (Nat.le_refl _) _).drew ⟨k0, k1, k2, k3, k4, Below.refl _ wa⟩)
  have HI : Hid (Ints (wa.alloc (.cells #[.int .i64 k, .int .i64 v, .int .i64 t, .int .i64 a] 3)).drew (some ⟨wa.heap.size, 0, none⟩) [k, v, t, a]) := ints_new wa [k, v, t, a]
  rw [ez] at HI
  clear k0 k1 k2 k3 k4 hwa
  go_region_held_law (fun w' => w'.cell? ⟨w.heap.size, 0, none⟩ = some (.int .i64 k) ∧ w'.cell? ⟨w.heap.size, 1, none⟩ = some (.int .i64 v) ∧ w'.cell? ⟨w.heap.size, 2, none⟩ = some (.int .i64 t) ∧ w'.cell? ⟨w.heap.size, 3, none⟩ = some (.int .i64 a) ∧ w'.cell? ⟨w.heap.size, 4, none⟩ = some (.string s) ∧ Below wa.heap.size wa w')
    (first | with_reducible exact Q2.out | with_reducible exact Q1.out | with_reducible exact Q0.out | with_reducible assumption | with_reducible exact QA.out)
    (first
      | (go_at_call 227; refine (showNumbers _ _ 4 [k, v, t, a] 0 HI.out (by simp) (by decide) HBd.out).mono ?_; rintro e w1 ⟨rfl, b1⟩; have Q1 := hid (box5_below hg b1 QA.out); clear b1)
      | (go_at_call 238; refine (showPiece s _ (by omega)).mono ?_; rintro e w2 ⟨rfl, b2⟩; have Q2 := hid (box5_below hg b2 Q1.out); clear b2))
  all_goals (have HB2 := hid (HB.out.trans (Q2.out.2.2.2.2.2.mono HB.out.size)); clear Q0 Q1 Q2; go_wp2; go_ret; exact ⟨Own.ret_str HD.out, HB2.out⟩)

end Go.Proofs.YtaopkchkhdbfnaaGreatDoor.Sec
