/-
  The walk of slices.Repeat at one number and a count of three. No condition.
-/
import Derived.Test.YtppjohfafnbdlajImplState
import Derived.Laws.CopyOwn
import Derived.Deep.RegionLaw
namespace Go.Proofs.Ytppjohfafnbdlaj.Mem
open Go.RowKit
set_option linter.unusedVariables false

def rep3 (x : Int) (k : Nat) : List Value := List.replicate k (.int .i64 x) ++ List.replicate (3 - k) (.int .i64 0)

set_option maxRecDepth 100000 in
set_option maxHeartbeats 2000000 in
theorem mul13 (w : World) : Calls Try.prog 57 #[.int .u64 1, .int .u64 3] w fun e w' => e = .returned (.tuple #[.int .u64 0, .int .u64 3]) ∧ w' = w := by
  have hb1 : bits BinOp.and IntKind.u64 1 4294967295 = 1 := by decide +kernel
  have hb3 : bits BinOp.and IntKind.u64 3 4294967295 = 3 := by decide +kernel
  have hb0 : bits BinOp.and IntKind.u64 0 4294967295 = 0 := by decide +kernel
  have hu0 : IntKind.u64.wrap 0 = 0 := by decide +kernel
  have hu3 : IntKind.u64.wrap 3 = 3 := by decide +kernel
  go_enter Try.func57, Try.ntmps57
  go_wp2
  go_ret2
  exact ⟨rfl, rfl⟩

/-- One cell is copied into an own row. -/
theorem copy_one {w : World} (g off dLen dCap : Nat) (ad : Addr) (sLen sCap : Nat) (cur : List Value) (v : Value) (hg : w.heap[g]? = some (.cells cur.toArray 3 (0, 0))) (hn : 1 = Nat.min sLen dLen) (hc : w.cell? ad = some v) (hfit : off + 1 ≤ cur.length) (h1 : v.oneCell' = true) :
    ∃ w', (∀ ty, (Builtin.copy_ #[23, 23] ty #[.slice (some ⟨g, off, none⟩) dLen dCap, .slice (some ad) sLen sCap]).run Try.prog w = .ok (.int .i64 1) w') ∧ w'.heap[g]? = some (.cells (cur.take off ++ [v] ++ cur.drop (off + 1)).toArray 3 (0, 0)) ∧ Kept (fun b => b = g) w w' := by
  refine ⟨_, fun ty => run_copy_row (P := Try.prog) w 23 23 ty 3 g off dLen dCap ad sLen sCap cur.toArray 3 [v] Try.underlying23 (by kernel_rfl) hg (by simpa using hn) (fun j u hj => by
    rcases j with _ | j
    · cases hj
      rw [show ad.add 0 = ad from by cases ad; simp [Addr.add]]
      exact hc
    · simp at hj) (by simpa using hfit) (by intro u hu; simp at hu; subst hu; exact h1), ?_, ?_⟩
  · rw [setRow_heap w g cur.toArray _ 3 (0, 0) hg]
    simp
  · exact ⟨rfl, rfl, rfl, by simp [World.setRow], fun k _ hk => setRow_other w g k _ hk⟩

set_option maxRecDepth 100000 in
set_option maxHeartbeats 2000000 in
theorem repeat3 (w : World) (b off c : Nat) (x : Int) (hc : w.cell? ⟨b, off, none⟩ = some (.int .i64 x)) (hb : b < w.heap.size) :
    Calls Try.prog 37 #[.slice (some ⟨b, off, none⟩) 1 c, .int .i64 3] w fun e w' => ∃ v', e = .returned v' ∧ RowO w' w.heap.size 3 1 v' 3 [.int .i64 x, .int .i64 x, .int .i64 x] ∧ Below w.heap.size w w' ∧ w.heap.size < w'.heap.size ∧ rb v' = some w.heap.size := by
  obtain ⟨wm, hwm⟩ : ∃ wm, w.alloc (.cells (madeCells (Value.int .i64 0).cells (3 * 1)) 3) = wm := ⟨_, rfl⟩
  have hmk : (Instr.makeSlice 23 (.int .i64 3) (.int .i64 3)).run Try.prog w = .ok (.slice (some ⟨w.heap.size, 0, none⟩) 3 3) wm := by
    rw [← hwm]
    exact make_rows 23 3 (.int .i64 0) 1 8 Try.underlying23 info3' .i64 .i64 3 (by decide) (by decide) w
  have Bm : Below w.heap.size w wm := by rw [← hwm]; exact (Below.refl _ _).alloc (Nat.le_refl _) _
  have hgm : wm.heap[w.heap.size]? = some (.cells (rep3 x 0).toArray 3 (0, 0)) := by
    rw [← hwm, heap_alloc_new]
    have : madeCells (Value.int .i64 0).cells (3 * 1) = (rep3 x 0).toArray := by
      apply Array.ext
      · simp [madeCells, rep3]
      · intro i h1 h2
        have : i = 0 ∨ i = 1 ∨ i = 2 := by simp [madeCells] at h1; omega
        rcases this with rfl | rfl | rfl <;> simp [madeCells, rep3, Value.cells]
    rw [this]
  have hcm := (Bm.cell (p := ⟨b, off, none⟩) hb).trans hc
  obtain ⟨w1, hr1, hg1, k1⟩ := copy_one w.heap.size 0 3 3 ⟨b, off, none⟩ 1 c (rep3 x 0) (.int .i64 x) hgm rfl hcm (by simp [rep3]) rfl
  replace hg1 : w1.heap[w.heap.size]? = some (.cells (rep3 x 1).toArray 3 (0, 0)) := hg1
  have HG1 := hid hg1
  have HB1 := hid (Bm.trans (k1.below Bm.size (fun g hg e => by omega)))
  clear hwm Bm hgm hc hcm k1 hg1
  go_enter Try.func37, Try.ntmps37
  go_wp2_with fail
  refine (mul13 w).mono ?_
  rintro e w0 ⟨rfl, hw0⟩
  rw [hw0]
  clear hw0
  go_wp2
  clear hr1 hmk
  go_loopw [8] (fun i wr => ∃ k : Nat, 1 ≤ k ∧ k ≤ 3 ∧ i = .int .i64 (k : Int) ∧ Hid (wr.heap[w.heap.size]? = some (.cells (rep3 x k).toArray 3 (0, 0))) ∧ Hid (Below w.heap.size w wr)) (fun i _ => 3 - (intOf i).toNat)
  case atStart => exact ⟨1, Nat.le_refl _, by omega, rfl, HG1.out, HB1.out⟩
  case round =>
    obtain ⟨k, hk1, hk3, rfl, HG, HB⟩ := hrel
    have hkk : k = 1 ∨ k = 2 ∨ k = 3 := by omega
    rcases hkk with rfl | rfl | rfl
    · obtain ⟨w2, hr2, hg2, k2⟩ := copy_one (w := wr.drew) w.heap.size 1 2 2 ⟨w.heap.size, 0, none⟩ 1 3 (rep3 x 1) (.int .i64 x) HG.out rfl (cell_of_row wr w.heap.size 0 _ _ (0, 0) HG.out) (by simp [rep3]) rfl
      replace hg2 : w2.heap[w.heap.size]? = some (.cells (rep3 x 2).toArray 3 (0, 0)) := hg2
      have HG2 := hid hg2
      have HB2 := hid (HB.out.drew.trans (k2.below HB.out.size (fun g hg e => by omega)))
      clear hg2 k2
      go_wp2
      go_region
      go_wp2
      exact ⟨⟨2, by omega, by omega, by go_num, HG2.out, HB2.out⟩, by simp [intOf]⟩
    · obtain ⟨w2, hr2, hg2, k2⟩ := copy_one (w := wr.drew) w.heap.size 2 1 1 ⟨w.heap.size, 0, none⟩ 2 3 (rep3 x 2) (.int .i64 x) HG.out rfl (cell_of_row wr w.heap.size 0 _ _ (0, 0) HG.out) (by simp [rep3]) rfl
      replace hg2 : w2.heap[w.heap.size]? = some (.cells (rep3 x 3).toArray 3 (0, 0)) := hg2
      have HG2 := hid hg2
      have HB2 := hid (HB.out.drew.trans (k2.below HB.out.size (fun g hg e => by omega)))
      clear hg2 k2
      go_wp2
      go_region
      go_wp2
      exact ⟨⟨3, by omega, by omega, by go_num, HG2.out, HB2.out⟩, by simp [intOf]⟩
    · go_wp2
      go_ret
      have hlt : w.heap.size < wr.heap.size := (Array.getElem?_eq_some_iff.1 HG.out).1
      exact ⟨_, rfl, Or.inr ⟨⟨rfl, Or.inr ⟨w.heap.size, 3, _, rfl, Nat.le_refl _, HG.out, Nat.le_refl _, by unfold maxLen; omega, rfl, rfl⟩⟩, _, 2, rfl⟩, HB.out, hlt, rfl⟩

end Go.Proofs.Ytppjohfafnbdlaj.Mem
