/-
  Plain: what a new disk's sectors are; a row that a call makes by append. The walks of spec.l4NoMap and impl.noBlocks. No condition.
-/
import Derived.Test.YtfbnnhgaedficafDoorSecJn7
import Derived.Test.YtfbnnhgaedficafDoorSecVol
import Derived.Test.YtfbnnhgaedficafDoorSecGroup
import Derived.Test.YtfbnnhgaedficafDoorSecFrees
import Derived.Test.YtfbnnhgaedficafDoorAppRow
namespace Go.Proofs.YtfbnnhgaedficafDoor.Fm
open Go.RowKit Go.Proofs.YtfbnnhgaedficafDoor.Mem Go.Proofs.YtfbnnhgaedficafDoor.Sec
set_option linter.unusedVariables false

/-- A journal that is done. -/
def J0 : Jn := ⟨0, true, 0, 0, 0, 0, ⟨#[]⟩, []⟩

/-- A new sector of each kind. -/
def fresh : Nat → ByteArray
  | 0 => showHost 0 (-1) 0
  | 1 => J0.show
  | 2 => showFrees []
  | 3 => showVol (-1) 0 false [-1, -1, -1, -1]
  | 4 => showGroup (-1) 0 [0, 0, 0, 0, 0, 0]
  | _ => ⟨#[]⟩

def fmt : List ByteArray := List.replicate 3 (fresh 0) ++ List.replicate 3 (fresh 1) ++ List.replicate 3 (fresh 2) ++ List.replicate 4 (fresh 3) ++ List.replicate 3 (fresh 4) ++ List.replicate 18 (fresh 5)

theorem fmt_length : fmt.length = 34 := by simp [fmt]

/-- A row that a call makes by append, in blocks of its own. -/
structure Grow (w wr : World) (v : Value) (e : TypeId) (xs : List Value) : Prop where
  row : RowO wr w.heap.size e 1 v xs.length xs
  bel : Below w.heap.size w wr

theorem Grow.move {w wr w1 : World} {v : Value} {e : TypeId} {xs : List Value} (h : Grow w wr v e xs) (b : Below wr.heap.size wr w1) : Grow w w1 v e xs :=
  ⟨RowO.below h.row b, h.bel.trans (b.mono h.bel.size)⟩

theorem Grow.alloc {w wr : World} {v : Value} {e : TypeId} {xs : List Value} (h : Grow w wr v e xs) (o : Obj) : RowO (wr.alloc o) w.heap.size e 1 v xs.length xs :=
  RowO.below h.row ((Below.refl _ _).alloc (Nat.le_refl _) _)

theorem Grow.szA {w wr : World} {v : Value} {e : TypeId} {xs : List Value} (h : Grow w wr v e xs) (o : Obj) : w.heap.size ≤ (wr.alloc o).heap.size := by
  have := h.bel.size
  simp
  omega

theorem Grow.step {w wr w1 : World} {v v1 : Value} {e : TypeId} {xs : List Value} {u : Value} {o : Obj} (h : Grow w wr v e xs) (r : RowO w1 w.heap.size e 1 v1 (xs.length + 1) (xs ++ [u])) (k : Kept (fun b => rb v = some b) (wr.alloc o) w1) : Grow w w1 v1 e (xs ++ [u]) := by
  refine ⟨by simpa using r, ?_⟩
  have h1 : Below w.heap.size w (wr.alloc o) := h.bel.alloc h.bel.size _
  exact h1.trans (k.below h1.size (fun b hb e => by have := (RowO.lt h.row e).1; omega))

theorem one_cell (w : World) (v : Value) (t : TypeId) : Sl (w.alloc (.cells #[v] t)) (some ⟨w.heap.size, 0, none⟩) (1 * 1) (fun i => [v].getD i undef) := fun i hi => by
  obtain rfl : i = 0 := by omega
  exact ⟨w.heap.size, 0, rfl, by rw [cell_of_row _ w.heap.size (0 + 0) _ _ (0, 0) (heap_alloc_new w _)]; rfl⟩

theorem infoInt : (Tryd.prog.info? 3).map (fun i => (i.zero, i.size, i.bytes)) = some (some (.int .i64 0), 1, 8) := by kernel_rfl
theorem infoStr : (Tryd.prog.info? 9).map (fun i => (i.zero, i.size, i.bytes)) = some (some (.string ByteArray.empty), 1, 16) := by kernel_rfl

theorem grow_none (w w1 : World) (b : Option Addr) (e : TypeId) (h : Below w.heap.size w w1) : Grow w w1 (.slice b 0 0) e [] := ⟨Or.inl ⟨b, rfl, rfl, rfl⟩, h⟩

theorem grow_ints {w wr : World} {v : Value} {l : List Int} (h : Grow w wr v 3 (l.map (.int .i64))) : ∃ a cap, v = .slice a l.length cap ∧ IntsW wr w.heap.size a l := by
  obtain ⟨a, cap, e, hW⟩ := h.row.wr
  refine ⟨a, cap, by simpa using e, ?_⟩
  unfold IntsW
  simp only [List.length_map, Nat.mul_one] at hW
  exact hW.congr (fun i hi => by simp [List.getD, hi])

theorem grow_strs {w wr : World} {v : Value} {l : List ByteArray} (h : Grow w wr v 9 (l.map .string)) : ∃ a cap, v = .slice a l.length cap ∧ StrsW wr w.heap.size a l := by
  obtain ⟨a, cap, e, hW⟩ := h.row.wr
  refine ⟨a, cap, by simpa using e, ?_⟩
  unfold StrsW
  simp only [List.length_map, Nat.mul_one] at hW
  exact hW.congr (fun i hi => by simp [List.getD, hi])

set_option maxRecDepth 100000 in
set_option maxHeartbeats 1000000 in
theorem l4NoMap (w : World) : Calls Tryd.prog 61 #[] w fun r w' => ∃ a cap, r = .returned (.slice a 4 cap) ∧ IntsW w' w.heap.size a [-1, -1, -1, -1] ∧ Below w.heap.size w w' := by
  go_enter Tryd.func61, Tryd.ntmps61
  go_wp2
  go_loopw [1, 2] (fun v i wr => ∃ (k : Nat), k ≤ 4 ∧ i = .int .i64 (k : Int) ∧ Hid (Grow w wr v 3 ((List.replicate k (-1)).map (.int .i64)))) (fun _ i _ => 4 - (intOf i).toNat)
  case atStart => exact ⟨0, Nat.zero_le _, rfl, grow_none w _ _ _ ((Below.refl _ _).alloc (Nat.le_refl _) _)⟩
  case round =>
    obtain ⟨k, hk, rfl, HG⟩ := hrel
    by_cases hlt : k < 4
    · have HX : Hid ((List.replicate k (-1)).map (Value.int .i64) ++ [.int .i64 (-1)] = (List.replicate (k + 1) (-1)).map (.int .i64)) := by rw [Hid, List.replicate_succ']; simp
      have hlen : ((List.replicate k (-1)).map (Value.int .i64)).length + 1 ≤ 1048576 := by simp; omega
      generalize (List.replicate k (-1)).map (Value.int .i64) = xs at *
      go_wp2_with (at_builtin; refine wpList_app 22 3 (.int .i64 0) 1 8 Tryd.underlying22 infoInt rfl (by decide) (by decide) _ rfl (.tmp 8) (.tmp 9) rfl w.heap.size _ xs.length xs rfl (HG.out.alloc _) ⟨wr.heap.size, 0, none⟩ 1 1 [.int .i64 (-1)] rfl rfl (one_cell _ _ _) (by intro u hu; simp at hu; subst hu; rfl) hlen (HG.out.szA _) ?_; intro v1 w1 r1 kk _; have HS := hid (HG.out.step r1 kk))
      exact ⟨⟨k + 1, by omega, by go_num, HX.out ▸ HS⟩, by simp [intOf]; omega⟩
    · obtain rfl : k = 4 := by omega
      go_wp2
      go_ret
      obtain ⟨a, cap, e, hW⟩ := grow_ints HG.out
      exact ⟨a, cap, by rw [e]; rfl, hW, HG.out.bel⟩

theorem make4 (w : World) : (Instr.makeSlice 22 (.int .i64 4) (.int .i64 4)).run Tryd.prog w = .ok (.slice (some ⟨w.heap.size, 0, none⟩) 4 4) (w.alloc (.cells #[.int .i64 0, .int .i64 0, .int .i64 0, .int .i64 0] 3)) := by
  have h := make_rows (P := Tryd.prog) 22 3 (.int .i64 0) 1 8 Tryd.underlying22 infoInt .i64 .i64 4 (by decide) (by decide) w
  have e : madeCells (Value.int .i64 0).cells (4 * 1) = #[.int .i64 0, .int .i64 0, .int .i64 0, .int .i64 0] := by kernel_rfl
  rw [e] at h
  exact h
theorem make6 (w : World) : (Instr.makeSlice 22 (.int .i64 6) (.int .i64 6)).run Tryd.prog w = .ok (.slice (some ⟨w.heap.size, 0, none⟩) 6 6) (w.alloc (.cells #[.int .i64 0, .int .i64 0, .int .i64 0, .int .i64 0, .int .i64 0, .int .i64 0] 3)) := by
  have h := make_rows (P := Tryd.prog) 22 3 (.int .i64 0) 1 8 Tryd.underlying22 infoInt .i64 .i64 6 (by decide) (by decide) w
  have e : madeCells (Value.int .i64 0).cells (6 * 1) = #[.int .i64 0, .int .i64 0, .int .i64 0, .int .i64 0, .int .i64 0, .int .i64 0] := by kernel_rfl
  rw [e] at h
  exact h
theorem ints6 (w : World) : Ints (w.alloc (.cells #[.int .i64 0, .int .i64 0, .int .i64 0, .int .i64 0, .int .i64 0, .int .i64 0] 3)) (some ⟨w.heap.size, 0, none⟩) [0, 0, 0, 0, 0, 0] :=
  (wr_new w _ 3 6 _ (fun i hi => by
    have : i = 0 ∨ i = 1 ∨ i = 2 ∨ i = 3 ∨ i = 4 ∨ i = 5 := by omega
    rcases this with rfl | rfl | rfl | rfl | rfl | rfl <;> rfl)).sl

set_option maxRecDepth 100000 in
set_option maxHeartbeats 1000000 in
theorem noBlocks (w : World) : Calls Tryd.prog 100 #[] w fun r w' => ∃ a cap, r = .returned (.slice a 4 cap) ∧ IntsW w' w.heap.size a [-1, -1, -1, -1] ∧ Below w.heap.size w w' := by
  go_enter Tryd.func100, Tryd.ntmps100
  have hmk := make4
  have HW : Hid (Wr (w.alloc (.cells #[.int .i64 0, .int .i64 0, .int .i64 0, .int .i64 0] 3)) w.heap.size (some ⟨w.heap.size, 0, none⟩) 4 (fun j => if j < 0 then .int .i64 (-1) else .int .i64 0)) :=
    wr_new w _ 3 4 _ (fun i hi => by
      have : i = 0 ∨ i = 1 ∨ i = 2 ∨ i = 3 := by omega
      rcases this with rfl | rfl | rfl | rfl <;> rfl)
  go_wp2
  clear hmk
  go_loopw [6] (fun i wr => ∃ k : Nat, k ≤ 4 ∧ i = .int .i64 (k : Int) ∧ Hid (Wr wr w.heap.size (some ⟨w.heap.size, 0, none⟩) 4 (fun j => if j < k then .int .i64 (-1) else .int .i64 0)) ∧ Hid (Below w.heap.size w wr)) (fun i _ => 4 - (intOf i).toNat)
  case atStart => exact ⟨0, Nat.zero_le _, rfl, HW, (Below.refl _ _).alloc (Nat.le_refl _) _⟩
  case round =>
    obtain ⟨k, hk, rfl, HW', HB⟩ := hrel
    clear HW
    by_cases hlt : k < 4
    · obtain ⟨b, off, e, _, hc, hf⟩ := HW'.out k hlt
      cases e
      rw [Nat.zero_add] at hc hf
      have HN := hid (HW'.out.set k hlt (.int .i64 (-1)))
      go_wp2
      refine ⟨⟨k + 1, by omega, by go_num, ?_, below_set HB.out w.heap.size k _ (Nat.le_refl _)⟩, by simp [intOf]; omega⟩
      have := HN.out
      rw [Nat.zero_add] at this
      exact this.congr (fun j _ => by
        by_cases h1 : j = k
        · subst h1; rw [if_pos rfl, if_pos (by omega)]
        · by_cases h2 : j < k
          · rw [if_neg h1, if_pos h2, if_pos (by omega)]
          · rw [if_neg h1, if_neg h2, if_neg (by omega)])
    · obtain rfl : k = 4 := by omega
      go_wp2
      go_ret
      refine ⟨_, _, rfl, ?_, HB.out⟩
      unfold IntsW
      exact HW'.out.congr (fun i hi => by
        rw [if_pos hi]
        have : i = 0 ∨ i = 1 ∨ i = 2 ∨ i = 3 := by have h4 : i < 4 := hi; omega
        rcases this with rfl | rfl | rfl | rfl <;> rfl)

end Go.Proofs.YtfbnnhgaedficafDoor.Fm
