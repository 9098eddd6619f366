/-
  The walk of spec.NewDisk: a disk without texts and writes, every epoch 1, in rows of its own. No condition.
-/
import Derived.Test.YtbnmcbbpbiofgaaWrapEnd
namespace Go.Proofs.Ytbnmcbbpbiofgaa.Mem
open Go.RowKit
set_option linter.unusedVariables false

/-- A new disk. -/
def Dk.fresh (n : Nat) : Dk := ⟨List.replicate n ByteArray.empty, [1, 1, 1], []⟩
/-- What NewDisk answers. -/
def Dk.newA (n : Int) : Dk × Bool := if 1 ≤ n ∧ n ≤ 40 then (Dk.fresh n.toNat, true) else (Dk.nil, false)

/-- A row of empty texts that was just made. -/
theorem row_made (w : World) (n : Nat) (hn : n ≤ 40) : RowO (w.alloc (.cells (madeCells #[.string ByteArray.empty] n) 9)) w.heap.size 9 1 (.slice (some ⟨w.heap.size, 0, none⟩) n n) (Dk.fresh n).sec.length (sCells (Dk.fresh n).sec) := by
  have hl : (Dk.fresh n).sec.length = n := by simp [Dk.fresh]
  rw [hl]
  refine rowO_of ⟨by simp [sCells, Dk.fresh], Or.inr ⟨w.heap.size, n, _, rfl, Nat.le_refl _, heap_alloc_new w _, Nat.le_refl _, by unfold maxLen; omega, by rw [size_madeCells]; omega, ?_⟩⟩
  rw [Nat.mul_one]
  apply List.ext_getElem
  · simp [madeCells, sCells, Dk.fresh]
  · intro i h1 h2
    simp [madeCells, sCells, Dk.fresh, Nat.mod_one]

/-- Epochs that were appended one by one. -/
def ones (k : Nat) : List Int := List.replicate k 1

theorem iCells_ones (k : Nat) : iCells (ones (k + 1)) = iCells (ones k) ++ [.int .i64 1] := by
  unfold iCells ones
  rw [List.replicate_succ', List.map_append]
  rfl

set_option maxRecDepth 100000 in
set_option maxHeartbeats 2000000 in
theorem specNew (w : World) (n : Int) :
    Calls Try.prog 34 #[.int .i64 n] w fun e w' => ∃ v', e = .returned (.tuple #[v', .bool (Dk.newA n).2]) ∧ DkO w' w.heap.size v' (Dk.newA n).1 ∧ Below w.heap.size w w' := by
  have hp : Dk.newA n = if 1 ≤ n ∧ n ≤ 40 then (Dk.fresh n.toNat, true) else (Dk.nil, false) := rfl
  generalize Dk.newA n = P at *
  obtain ⟨P1, P2⟩ := P
  have HP := hid hp
  clear hp
  simp only []
  obtain ⟨wb, hwb, ez, R0, B0⟩ := one_new w [.slice none 0 0, .slice none 0 0, .slice none 0 0] 28
  have HR := hid R0
  have HB := hid B0
  have m0 := R0.c 0 rfl
  have m1 := R0.c 1 rfl
  have m2 := R0.c 2 rfl
  have f0 := R0.f 0
  have f1 := R0.f 1
  have f2 := R0.f 2
  clear R0 B0
  go_enter Try.func34, Try.ntmps34
  go_wp2_with fail
  refine (l1In n 1 40 wb).mono ?_
  rintro e w1 ⟨rfl, hw⟩
  rw [hw]
  clear hw
  by_cases g1 : ¬ (1 ≤ n ∧ n ≤ 40)
  · have g1' := decide_eq_false g1
    have HP1 := hid (HP.out.trans (if_neg g1))
    have E := hid (((HR.out.set 0 (.slice none 0 0)).set 1 (.slice none 0 0)).set 2 (.slice none 0 0))
    have EB := hid (below_set (below_set (below_set HB.out w.heap.size 0 (.slice none 0 0) (Nat.le_refl _)) w.heap.size 1 (.slice none 0 0) (Nat.le_refl _)) w.heap.size 2 (.slice none 0 0) (Nat.le_refl _))
    clear g1
    go_wp2
    refine bodyPost_ret (results_row2 rfl _ _ w.heap.size [.slice none 0 0, .slice none 0 0, .slice none 0 0] _ rfl E.out Try.underlying28 rfl (by kernel_rfl)) rfl ?_
    cases HP1.out
    exact ⟨_, rfl, ⟨_, _, _, rfl, Or.inl ⟨none, rfl, rfl, rfl⟩, Or.inl ⟨none, rfl, rfl, rfl⟩, Or.inl ⟨none, rfl, rfl, rfl⟩, fun b hb => by simp [rb] at hb, fun b hb => by simp [rb] at hb⟩, EB.out⟩
  replace g1 := Classical.not_not.mp g1
  have g1' := decide_eq_true g1
  have HP1 := hid (HP.out.trans (if_pos g1))
  obtain ⟨m, rfl⟩ : ∃ m : Nat, n = (m : Int) := Int.eq_ofNat_of_zero_le (by omega)
  rw [Int.toNat_natCast] at HP1
  have hm40 : m ≤ 40 := by omega
  have hmk := make_rows (P := Try.prog) 24 9 (.string ByteArray.empty) 1 16 Try.underlying24 info9' .i64 .i64 m (by omega) (by omega) wb
  obtain ⟨w2, hw2⟩ : ∃ w2, wb.alloc (.cells (madeCells (Value.string ByteArray.empty).cells (m * 1)) 9) = w2 := ⟨_, rfl⟩
  have r2 := row_made wb m hm40
  rw [show wb.alloc (.cells (madeCells #[.string ByteArray.empty] m) 9) = w2 from by rw [← hw2, Nat.mul_one]; rfl] at r2
  have B2 : Below wb.heap.size wb w2 := by rw [← hw2]; exact (Below.refl _ _).alloc (Nat.le_refl _) _
  have e2 : w2.heap.size = wb.heap.size + 1 := by rw [← hw2]; simp
  rw [hw2] at hmk
  have EZ := hid ez
  have E2 := hid e2
  clear ez e2 hw2
  go_wp2
  obtain ⟨w3, hw3, e3, N3, B3⟩ := one_new w2 [.slice (some ⟨wb.heap.size, 0, none⟩) m m, .slice none 0 0, .slice none 0 0] 28
  have HR3 := hid ((HR.out.below B2 HR.out.lt).below B3 (HR.out.below B2 HR.out.lt).lt)
  have HN3 := hid N3
  have HS3 := hid (r2.below B3)
  have HB3 := hid ((HB.out.trans (B2.mono HB.out.size)).trans (B3.mono (Nat.le_trans HB.out.size B2.size)))
  have HZ := hid (show w.heap.size < wb.heap.size ∧ wb.heap.size < w2.heap.size ∧ w2.heap.size < w3.heap.size from ⟨by have := EZ.out; omega, by have := E2.out; omega, by omega⟩)
  simp only [hw3]
  clear r2 B2 N3 B3 e3 g1
  clear hmk hw3 hwb m0 m1 m2 f0 f1 f2
  go_loopw [5] (fun i wr => ∃ (k : Nat) (v2 : Value), k ≤ 3 ∧ i = .int .i64 (k : Int) ∧ Hid (RowO wr w3.heap.size 3 1 v2 k (iCells (ones k))) ∧ Hid (Row wr w2.heap.size [.slice (some ⟨wb.heap.size, 0, none⟩) m m, v2, .slice none 0 0]) ∧ Hid (Below w2.heap.size w3 wr) ∧ Hid (w3.heap.size ≤ wr.heap.size)) (fun i _ => 3 - (intOf i).toNat)
  case atStart => exact ⟨0, _, Nat.zero_le _, rfl, Or.inl ⟨none, rfl, rfl, rfl⟩, HN3.out, Below.refl _ _, hid (Nat.le_refl _)⟩
  case round =>
    obtain ⟨k, v2, hk, rfl, HRo, HN, HBr, HZr⟩ := hrel
    obtain ⟨a, c, ev, _⟩ := HRo.out.wr
    subst ev
    by_cases hlt : k < 3
    · have n1 := HN.out.c 1 rfl
      have n1f := HN.out.f 1
      have HRa : Hid (∀ o, RowO (wr.alloc o) w3.heap.size 3 1 (.slice a k c) k (iCells (ones k))) := fun o => HRo.out.below ((Below.refl _ _).alloc (Nat.le_refl _) o)
      have HBa : Hid (∀ o, w3.heap.size ≤ (wr.alloc o).heap.size) := fun o => by have := lt_alloc wr o; have := HZr.out; omega
      have hz := HZ.out
      go_wp2_with (at_builtin; refine wpList_app 25 3 (.int .i64 0) 1 8 Try.underlying25 info3' rfl (by decide) (by decide) _ rfl (.tmp 18) (.tmp 19) rfl w3.heap.size _ k (iCells (ones k)) rfl (HRa.out _) ⟨wr.heap.size, 0, none⟩ 1 1 [.int .i64 1] rfl rfl (sl_lit wr [.int .i64 1] 3 1 rfl) (by intro u hu; simp at hu; subst hu; rfl) (by omega) (HBa.out _) ?_; intro v' w4 r' kk hi; obtain ⟨y, c', e', _⟩ := r'.wr; subst e'; have HNk := (HN.out.alloc _).kept kk (fun e => by have := (HRo.out.lt e).1; omega); have n1' := HNk.c 1 rfl; have n1f' := HNk.f 1; have k5 := kept_set w4 w2.heap.size 1 (.slice y (k + 1) c'); have HR5 := hid (r'.kept k5 (fun g hg e => by have := (r'.lt hg).1; omega)); have HN5 := hid (HNk.set 1 (.slice y (k + 1) c')); have HB5 := hid (below_set ((HBr.out.alloc (by have := HZr.out; omega) _).trans (kk.below (by have := HBa.out (.cells #[.int .i64 1] 3); omega) (fun g hg e => by have := (HRo.out.lt e).1; omega))) w2.heap.size 1 (.slice y (k + 1) c') (Nat.le_refl _)); have HS5 := hid (show w3.heap.size ≤ (w4.setCell ⟨w2.heap.size, 1, none⟩ (.slice y (k + 1) c')).heap.size from Nat.le_trans (Nat.le_trans (HBa.out _) kk.size) k5.size); clear r' kk hi HNk k5 n1 n1f)
      exact ⟨⟨k + 1, _, by omega, by go_num, by rw [iCells_ones]; exact HR5.out, HN5.out, HB5.out, HS5⟩, by simp [intOf]; omega⟩
    obtain rfl : k = 3 := by omega
    have hz := HZ.out
    have HSr : Hid (RowO wr wb.heap.size 9 1 (.slice (some ⟨wb.heap.size, 0, none⟩) m m) (Dk.fresh m).sec.length (sCells (Dk.fresh m).sec)) := HS3.out.kept (S := fun g => w2.heap.size ≤ g) ⟨HBr.out.os, HBr.out.tape, HBr.out.output, HBr.out.size, fun g _ hg => HBr.out.block g (by omega)⟩ (fun g hg e => by
      have h : g = wb.heap.size := by
        unfold rb at hg
        split at hg
        · rename_i heq
          cases heq
          cases hg
          rfl
        · cases hg
      omega)
    have HRr := hid (HR3.out.below HBr.out (by omega))
    have HBB := hid (HB3.out.trans (HBr.out.mono (by omega)))
    have n0 := HN.out.c 0 rfl
    have n1 := HN.out.c 1 rfl
    have n2 := HN.out.c 2 rfl
    have m0 := HRr.out.c 0 rfl
    have m1 := HRr.out.c 1 rfl
    have m2 := HRr.out.c 2 rfl
    have f0 := HRr.out.f 0
    have f1 := HRr.out.f 1
    have f2 := HRr.out.f 2
    have K3 := kept3 wr w.heap.size (.slice (some ⟨wb.heap.size, 0, none⟩) m m) (.slice a 3 c) (.slice none 0 0)
    have E := hid (((HRr.out.set 0 (.slice (some ⟨wb.heap.size, 0, none⟩) m m)).set 1 (.slice a 3 c)).set 2 (.slice none 0 0))
    have EB := hid (below_set (below_set (below_set HBB.out w.heap.size 0 (.slice (some ⟨wb.heap.size, 0, none⟩) m m) (Nat.le_refl _)) w.heap.size 1 (.slice a 3 c) (Nat.le_refl _)) w.heap.size 2 (.slice none 0 0) (Nat.le_refl _))
    have s1 := HSr.out.kept K3 (fun g hg e => by have := (HSr.out.lt hg).1; omega)
    have s2 := HRo.out.kept K3 (fun g hg e => by have := (HRo.out.lt hg).1; omega)
    have O := hid (show DkO (((wr.setCell ⟨w.heap.size, 0, none⟩ (.slice (some ⟨wb.heap.size, 0, none⟩) m m)).setCell ⟨w.heap.size, 1, none⟩ (.slice a 3 c)).setCell ⟨w.heap.size, 2, none⟩ (.slice none 0 0)) w.heap.size (.agg #[.slice (some ⟨wb.heap.size, 0, none⟩) m m, .slice a 3 c, .slice none 0 0]) (Dk.fresh m) from ⟨_, _, _, rfl, s1.mono (by omega), s2.mono (by omega), Or.inl ⟨none, rfl, rfl, rfl⟩, fun b hb => ⟨fun h2 => by
      have := (s2.lt h2).1
      have h : b = wb.heap.size := by
        unfold rb at hb
        split at hb
        · rename_i heq
          cases heq
          cases hb
          rfl
        · cases hb
      omega, fun h3 => by simp [rb] at h3⟩, fun b hb h3 => by simp [rb] at h3⟩)
    clear s1 s2 K3 hz
    go_wp2
    refine bodyPost_ret (results_row2 rfl _ _ w.heap.size [.slice (some ⟨wb.heap.size, 0, none⟩) m m, .slice a 3 c, .slice none 0 0] _ rfl E.out Try.underlying28 rfl (by kernel_rfl)) rfl ?_
    cases HP1.out
    exact ⟨_, rfl, O.out, EB.out⟩

end Go.Proofs.Ytbnmcbbpbiofgaa.Mem
