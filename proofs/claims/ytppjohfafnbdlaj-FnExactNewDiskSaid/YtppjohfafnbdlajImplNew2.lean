/-
  The walk of impl.NewDisk: it answers as spec.NewDisk does, in rows of its own. No condition.
-/
import Derived.Test.YtppjohfafnbdlajSpecNew
import Derived.Test.YtppjohfafnbdlajImplNew
namespace Go.Proofs.Ytppjohfafnbdlaj.Mem
open Go.RowKit
set_option linter.unusedVariables false

/-- The end: the disk is laid into the result's block. -/
theorem new_end {w wz : World} {gs m : Nat} {a : Option Addr} {c : Nat} (hb : Below w.heap.size w wz) (R : Row wz w.heap.size [.slice none 0 0, .slice none 0 0, .slice none 0 0])
    (s : RowO wz (w.heap.size + 1) 9 1 (.slice (some ⟨gs, 0, none⟩) m m) (Dk.fresh m).sec.length (sCells (Dk.fresh m).sec)) (r : RowO wz (w.heap.size + 1) 3 1 (.slice a 3 c) 3 [.int .i64 1, .int .i64 1, .int .i64 1]) (hne : rb (.slice a 3 c) ≠ some gs) :
    DkW (((wz.setCell ⟨w.heap.size, 0, none⟩ (.slice (some ⟨gs, 0, none⟩) m m)).setCell ⟨w.heap.size, 1, none⟩ (.slice a 3 c)).setCell ⟨w.heap.size, 2, none⟩ (.slice none 0 0)) w.heap.size (.agg #[.slice (some ⟨gs, 0, none⟩) m m, .slice a 3 c, .slice none 0 0]) (Dk.fresh m) ∧
    Below w.heap.size w (((wz.setCell ⟨w.heap.size, 0, none⟩ (.slice (some ⟨gs, 0, none⟩) m m)).setCell ⟨w.heap.size, 1, none⟩ (.slice a 3 c)).setCell ⟨w.heap.size, 2, none⟩ (.slice none 0 0)) ∧
    Row (((wz.setCell ⟨w.heap.size, 0, none⟩ (.slice (some ⟨gs, 0, none⟩) m m)).setCell ⟨w.heap.size, 1, none⟩ (.slice a 3 c)).setCell ⟨w.heap.size, 2, none⟩ (.slice none 0 0)) w.heap.size [.slice (some ⟨gs, 0, none⟩) m m, .slice a 3 c, .slice none 0 0] := by
  have K3 := kept3 wz w.heap.size (.slice (some ⟨gs, 0, none⟩) m m) (.slice a 3 c) (.slice none 0 0)
  have s1 := s.kept K3 (fun g hg e => by have := (s.lt hg).1; omega)
  have s2 := r.kept K3 (fun g hg e => by have := (r.lt hg).1; omega)
  have O : DkO (((wz.setCell ⟨w.heap.size, 0, none⟩ (.slice (some ⟨gs, 0, none⟩) m m)).setCell ⟨w.heap.size, 1, none⟩ (.slice a 3 c)).setCell ⟨w.heap.size, 2, none⟩ (.slice none 0 0)) w.heap.size (.agg #[.slice (some ⟨gs, 0, none⟩) m m, .slice a 3 c, .slice none 0 0]) (Dk.fresh m) := ⟨_, _, _, rfl, s1.mono (by omega), s2.mono (by omega), Or.inl ⟨none, rfl, rfl, rfl⟩, fun b hb => ⟨fun h2 => by
    have h : b = gs := by
      unfold rb at hb
      split at hb
      · rename_i heq
        cases heq
        cases hb
        rfl
      · cases hb
    rw [h] at h2
    exact hne h2, fun h3 => by simp [rb] at h3⟩, fun b hb h3 => by simp [rb] at h3⟩
  exact ⟨O.w, below_set (below_set (below_set hb w.heap.size 0 _ (Nat.le_refl _)) w.heap.size 1 _ (Nat.le_refl _)) w.heap.size 2 _ (Nat.le_refl _), ((R.set 0 _).set 1 _).set 2 _⟩

set_option maxRecDepth 100000 in
set_option maxHeartbeats 2000000 in
theorem implNew (w : World) (n : Int) :
    Calls Try.prog 14 #[.int .i64 n] w fun e w' => ∃ v', e = .returned (.tuple #[v', .bool (Dk.newA n).2]) ∧ DkW w' w.heap.size v' (Dk.newA n).1 ∧ Below w.heap.size w w' := by
  have hp : Dk.newA n = if 1 ≤ n ∧ n ≤ 40 then (Dk.fresh n.toNat, true) else (Dk.nil, false) := rfl
  generalize Dk.newA n = P at *
  obtain ⟨P1, P2⟩ := P
  have HP := hid hp
  clear hp
  simp only []
  obtain ⟨wb, hwb, ez, R0, B0⟩ := one_new w [.slice none 0 0, .slice none 0 0, .slice none 0 0] 31
  have HR := hid R0
  have HB := hid B0
  have EZ := hid ez
  have m0 := R0.c 0 rfl
  have m1 := R0.c 1 rfl
  have m2 := R0.c 2 rfl
  have f0 := R0.f 0
  have f1 := R0.f 1
  have f2 := R0.f 2
  clear R0 B0 ez
  have E0 := hid (((HR.out.set 0 (.slice none 0 0)).set 1 (.slice none 0 0)).set 2 (.slice none 0 0))
  have EB := hid (below_set (below_set (below_set HB.out w.heap.size 0 (.slice none 0 0) (Nat.le_refl _)) w.heap.size 1 (.slice none 0 0) (Nat.le_refl _)) w.heap.size 2 (.slice none 0 0) (Nat.le_refl _))
  go_enter Try.func14, Try.ntmps14
  by_cases g1 : n < 1
  · have HP1 := hid (HP.out.trans (if_neg (fun q => by omega)))
    go_wp2
    refine bodyPost_ret (results_row2 rfl _ _ w.heap.size [.slice none 0 0, .slice none 0 0, .slice none 0 0] _ rfl E0.out Try.underlying31 rfl (by kernel_rfl)) rfl ?_
    cases HP1.out
    exact ⟨_, rfl, dkW_nil _ _, EB.out⟩
  by_cases g2 : 40 < n
  · have HP1 := hid (HP.out.trans (if_neg (fun q => by omega)))
    go_wp2
    refine bodyPost_ret (results_row2 rfl _ _ w.heap.size [.slice none 0 0, .slice none 0 0, .slice none 0 0] _ rfl E0.out Try.underlying31 rfl (by kernel_rfl)) rfl ?_
    cases HP1.out
    exact ⟨_, rfl, dkW_nil _ _, EB.out⟩
  obtain ⟨m, rfl⟩ : ∃ m : Nat, n = (m : Int) := Int.eq_ofNat_of_zero_le (by omega)
  have HP1 := hid (HP.out.trans (if_pos ⟨by omega, by omega⟩))
  rw [Int.toNat_natCast] at HP1
  have hm40 : m ≤ 40 := by omega
  have hmk : ∀ wz : World, (Instr.makeSlice 22 (.int .i64 (m : Int)) (.int .i64 (m : Int))).run Try.prog wz = .ok (.slice (some ⟨wz.heap.size, 0, none⟩) m m) (wz.alloc (.cells (madeCells #[.string ByteArray.empty] m) 9)) := fun wz => by
    have := make_rows (P := Try.prog) 22 9 (.string ByteArray.empty) 1 16 Try.underlying22 info9' .i64 .i64 m (by omega) (by omega) wz
    rw [Nat.mul_one] at this
    exact this
  generalize hMC : madeCells #[.string ByteArray.empty] m = MC at hmk
  have HMC := hid hMC
  clear hMC E0 EB
  have c1 : (wb.alloc (.cells #[.int .i64 1] 3)).cell? ⟨wb.heap.size, 0, none⟩ = some (.int .i64 1) := (Row.new wb [.int .i64 1] 3).c 0 rfl
  have c2 : ∀ o, ((wb.alloc (.cells #[.int .i64 1] 3)).alloc o).cell? ⟨wb.heap.size, 0, none⟩ = some (.int .i64 1) := fun o => ((Row.new wb [.int .i64 1] 3).alloc o).c 0 rfl
  have c3 : ∀ o, ((wb.alloc o).alloc (.cells #[.int .i64 1] 3)).cell? ⟨wb.heap.size + 1, 0, none⟩ = some (.int .i64 1) := fun o => by
    have := (Row.new (wb.alloc o) [.int .i64 1] 3).c 0 rfl
    rw [show (wb.alloc o).heap.size = wb.heap.size + 1 from by simp] at this
    exact this
  have H1 := hid (repeat3 ((wb.alloc (.cells MC 9)).alloc (.cells #[.int .i64 1] 3)).drew (wb.heap.size + 1) 0 1 1 (c3 _) (by show _ < ((wb.alloc _).alloc _).heap.size; simp))
  have H2 := hid (repeat3 ((wb.alloc (.cells #[.int .i64 1] 3)).alloc (.cells MC 9)).drew wb.heap.size 0 1 1 (c2 _) (by show _ < ((wb.alloc _).alloc _).heap.size; simp; omega))
  have H3 := hid (repeat3 (wb.alloc (.cells #[.int .i64 1] 3)).drew wb.heap.size 0 1 1 c1 (by show _ < (wb.alloc _).heap.size; simp))
  have F1 : ∀ (o p : Obj) (w5 : World), Below (((wb.alloc o).alloc p).drew).heap.size (((wb.alloc o).alloc p).drew) w5 → Below wb.heap.size wb w5 := fun o p w5 b => ((((Below.refl wb.heap.size wb).alloc (Nat.le_refl _) o).alloc (by simp) p).drew).trans (b.mono (by show _ ≤ ((wb.alloc _).alloc _).heap.size; simp; omega))
  have F3 : ∀ (o : Obj) (w5 : World), Below ((wb.alloc o).drew).heap.size ((wb.alloc o).drew) w5 → Below wb.heap.size wb w5 := fun o w5 b => (((Below.refl wb.heap.size wb).alloc (Nat.le_refl _) o).drew).trans (b.mono (by show _ ≤ (wb.alloc _).heap.size; simp))
  have G1 := hid F1
  have G3 := hid F3
  clear c1 c2 c3 HP F1 F3 m0 m1 m2 f0 f1 f2
  go_wp2
  go_region_with (go_at_call 37; first
    | (with_reducible refine H1.out.mono ?_; rintro e w5 ⟨v5, rfl, r5, b5, l5, e5⟩; have BB := hid (G1.out _ _ _ b5); have HR5 := hid (HR.out.below BB.out HR.out.lt); have m0 := HR5.out.c 0 rfl; have m1 := HR5.out.c 1 rfl; have m2 := HR5.out.c 2 rfl; have f0 := HR5.out.f 0; have f1 := HR5.out.f 1; have f2 := HR5.out.f 2; obtain ⟨a5, c5, ev5, _⟩ := r5.wr; subst ev5; have R5 := hid r5; have B5 := hid b5; have L5 := hid l5; have E5 := hid e5; clear r5 b5 l5 e5)
    | (with_reducible refine H2.out.mono ?_; rintro e w5 ⟨v5, rfl, r5, b5, l5, e5⟩; have BB := hid (G1.out _ _ _ b5); have HR5 := hid (HR.out.below BB.out HR.out.lt); have m0 := HR5.out.c 0 rfl; have m1 := HR5.out.c 1 rfl; have m2 := HR5.out.c 2 rfl; have f0 := HR5.out.f 0; have f1 := HR5.out.f 1; have f2 := HR5.out.f 2; obtain ⟨a5, c5, ev5, _⟩ := r5.wr; subst ev5; have R5 := hid r5; have B5 := hid b5; have L5 := hid l5; have E5 := hid e5; clear r5 b5 l5 e5)
    | (with_reducible refine H3.out.mono ?_; rintro e w5 ⟨v5, rfl, r5, b5, l5, e5⟩; have BB := hid (G3.out _ _ b5); have HR5 := hid (fun o => ((HR.out.below BB.out HR.out.lt).alloc o)); have m0 : ∀ o, (w5.alloc o).cell? ⟨w.heap.size, 0, none⟩ = some (.slice none 0 0) := fun o => (HR5.out o).c 0 rfl; have m1 : ∀ o, (w5.alloc o).cell? ⟨w.heap.size, 1, none⟩ = some (.slice none 0 0) := fun o => (HR5.out o).c 1 rfl; have m2 : ∀ o, (w5.alloc o).cell? ⟨w.heap.size, 2, none⟩ = some (.slice none 0 0) := fun o => (HR5.out o).c 2 rfl; have f0 : ∀ o, (w5.alloc o).frozen? ⟨w.heap.size, 0, none⟩ = false := fun o => (HR5.out o).f 0; have f1 : ∀ o, (w5.alloc o).frozen? ⟨w.heap.size, 1, none⟩ = false := fun o => (HR5.out o).f 1; have f2 : ∀ o, (w5.alloc o).frozen? ⟨w.heap.size, 2, none⟩ = false := fun o => (HR5.out o).f 2; obtain ⟨a5, c5, ev5, _⟩ := r5.wr; subst ev5; have R5 := hid r5; have B5 := hid b5; have L5 := hid l5; have E5 := hid e5; clear r5 b5 l5 e5))
  · have s1 := row_made wb m hm40
    rw [HMC.out] at s1
    have bs := (((Below.refl (wb.alloc (.cells MC 9)).heap.size (wb.alloc (.cells MC 9))).alloc (Nat.le_refl _) (.cells #[.int .i64 1] 3)).drew).trans (B5.out.mono (by show _ ≤ ((wb.alloc _).alloc _).heap.size; simp))
    have E := hid (new_end (HB.out.trans (BB.out.mono HB.out.size)) HR5.out ((s1.below bs).mono (by rw [EZ.out]; exact Nat.le_refl _)) (R5.out.mono (by show _ ≤ ((wb.alloc _).alloc _).heap.size; simp; have := EZ.out; omega)) (by rw [E5.out]; intro e; injection e with e; revert e; show ((wb.alloc _).alloc _).heap.size ≠ _; simp; omega))
    clear s1 bs
    go_wp2
    refine bodyPost_ret (results_row2 rfl _ _ w.heap.size [.slice (some ⟨wb.heap.size, 0, none⟩) m m, .slice a5 3 c5, .slice none 0 0] _ rfl E.out.2.2 Try.underlying31 rfl (by kernel_rfl)) rfl ?_
    cases HP1.out
    exact ⟨_, rfl, E.out.1, E.out.2.1⟩
  · have s1 := row_made (wb.alloc (.cells #[.int .i64 1] 3)) m hm40
    rw [HMC.out] at s1
    have bs := ((Below.refl ((wb.alloc (.cells #[.int .i64 1] 3)).alloc (.cells MC 9)).heap.size ((wb.alloc (.cells #[.int .i64 1] 3)).alloc (.cells MC 9))).drew).trans B5.out
    have hsz : (wb.alloc (.cells #[.int .i64 1] 3)).heap.size = wb.heap.size + 1 := by simp
    rw [hsz] at s1
    have E := hid (new_end (HB.out.trans (BB.out.mono HB.out.size)) HR5.out ((s1.below bs).mono (by rw [EZ.out]; omega)) (R5.out.mono (by show _ ≤ ((wb.alloc _).alloc _).heap.size; simp; have := EZ.out; omega)) (by rw [E5.out]; intro e; injection e with e; revert e; show ((wb.alloc _).alloc _).heap.size ≠ _; simp))
    clear s1 bs hsz
    go_wp2
    refine bodyPost_ret (results_row2 rfl _ _ w.heap.size [.slice (some ⟨wb.heap.size + 1, 0, none⟩) m m, .slice a5 3 c5, .slice none 0 0] _ rfl E.out.2.2 Try.underlying31 rfl (by kernel_rfl)) rfl ?_
    cases HP1.out
    exact ⟨_, rfl, E.out.1, E.out.2.1⟩
  · have s1 := row_made w5 m hm40
    rw [HMC.out] at s1
    have ba := (Below.refl w5.heap.size w5).alloc (Nat.le_refl _) (.cells MC 9)
    have hw5 := BB.out.size
    have l5 := L5.out
    have E := hid (new_end ((HB.out.trans (BB.out.mono HB.out.size)).trans (ba.mono (Nat.le_trans HB.out.size BB.out.size))) (HR5.out _) (s1.mono (by rw [← EZ.out]; exact hw5)) ((R5.out.below ba).mono (by show _ ≤ (wb.alloc _).heap.size; simp; have := EZ.out; omega)) (by rw [E5.out]; intro e; injection e with e; exact absurd e (Nat.ne_of_lt l5)))
    clear s1 ba hw5 l5
    go_wp2
    refine bodyPost_ret (results_row2 rfl _ _ w.heap.size [.slice (some ⟨w5.heap.size, 0, none⟩) m m, .slice a5 3 c5, .slice none 0 0] _ rfl E.out.2.2 Try.underlying31 rfl (by kernel_rfl)) rfl ?_
    cases HP1.out
    exact ⟨_, rfl, E.out.1, E.out.2.1⟩

end Go.Proofs.Ytppjohfafnbdlaj.Mem
