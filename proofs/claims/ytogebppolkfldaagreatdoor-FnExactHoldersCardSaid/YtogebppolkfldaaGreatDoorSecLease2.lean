/-
  The walks of spec.l4Lease, impl.isLease, spec.l4ShowLease and impl.showLease. No condition.
-/
import Derived.Test.YtogebppolkfldaaGreatDoorSecLease
import Derived.Laws.StructEq
namespace Go.Proofs.YtogebppolkfldaaGreatDoor.Sec
open Go.RowKit Go.Proofs.YtogebppolkfldaaGreatDoor.Mem
set_option linter.unusedVariables false

theorem ls_nobody (h e : Int) (x : h = -1 ∧ e = 0) : lsOk h e = true := decide_eq_true (Or.inl x)
theorem ls_some (h e : Int) (x : ¬ (h = -1 ∧ e = 0)) : lsOk h e = (decide (0 ≤ h ∧ h < 3) && decide (1 ≤ e ∧ e ≤ 100000)) := by
  unfold lsOk
  by_cases a : 0 ≤ h ∧ h < 3 <;> by_cases b : 1 ≤ e ∧ e ≤ 100000 <;> simp [a, b, x]

theorem stLs : Tryz.prog.underlying 53 = some (.struct (Tryz.prog.fieldsOf 53)) := by kernel_rfl
theorem heldLs : Tryz.prog.stoodInHeld 53 = false := by kernel_rfl
theorem guardLs : Tryz.prog.eqGuardType Tryz.prog.depth 53 = false := by kernel_rfl

theorem eql_ls (a b c d : Int) (w : World) : (binOp .eql 53 (.agg #[.int .i64 a, .int .i64 b]) (.agg #[.int .i64 c, .int .i64 d])).run Tryz.prog w = .ok (.bool (decide (a = c ∧ b = d))) w := by
  rw [run_eql_struct, run_equalIn_agg w 9999 53 _ _ stLs heldLs]
  unfold Program.fieldsOf
  rw [Tryz.underlying53]
  by_cases h1 : a = c <;> by_cases h2 : b = d <;> simp [Op.eqFields, part, go_sem, h1, h2, Tryz.underlying3]

theorem eql_nobody (h e : Int) (hn : h = -1 ∧ e = 0) (w : World) : (binOp .eql 53 (.agg #[.int .i64 h, .int .i64 e]) (.agg #[.int .i64 (-1), .int .i64 0])).run Tryz.prog w = .ok (.bool true) w := by
  rw [eql_ls, decide_eq_true hn]
theorem eql_some (h e : Int) (hn : ¬ (h = -1 ∧ e = 0)) (w : World) : (binOp .eql 53 (.agg #[.int .i64 h, .int .i64 e]) (.agg #[.int .i64 (-1), .int .i64 0])).run Tryz.prog w = .ok (.bool false) w := by
  rw [eql_ls, decide_eq_false hn]

set_option maxRecDepth 100000 in
set_option maxHeartbeats 1000000 in
theorem l4Lease (h e : Int) (w : World) :
    Calls Tryz.prog 111 #[lsV h e] w fun r w' => r = .returned (.bool (lsOk h e)) ∧ Below w.heap.size w w' := by
  unfold lsV
  obtain ⟨wa, hwa, ez, A0, B0⟩ := one_new w [.int .i64 h, .int .i64 e] 53
  have k0 := BW.cell (A0.c 0 rfl)
  have k1 := BW.cell (A0.c 1 rfl)
  have hne : Nonempty (BW wa) := ⟨⟨wa, Below.refl _ _⟩⟩
  have HB := hid B0
  have hgl := guardLs
  clear A0 B0
  by_cases hn : h = -1 ∧ e = 0
  · have HN := hid (ls_nobody h e hn)
    have heq := eql_nobody h e hn
    clear hn
    go_enter Tryz.func111, Tryz.ntmps111
    go_wp2
    refine wp_region_bw (by kernel_rfl) (by kernel_rfl) ?_
    repeat (go_big_quiet_step (first
      | (go_at_call 141; refine bw_below (v := .agg #[.int .i64 (-1), .int .i64 0]) (l4Nobody _))))
    refine wpQuiet_nil ?_
    intro _ hw'
    obtain ⟨u, rfl⟩ := hw'
    have HU := hid (HB.out.trans (u.bel.mono HB.out.size))
    clear k0 k1 heq hwa
    go_wp2
    go_ret
    exact ⟨by rw [HN.out]; rfl, HU.out⟩
  · have HN := hid (ls_some h e hn)
    have heq := eql_some h e hn
    clear hn
    by_cases h1 : 0 ≤ h ∧ h < 3
    · have h1' := decide_eq_true h1
      clear h1
      go_enter Tryz.func111, Tryz.ntmps111
      go_wp2
      refine wp_region_bw (by kernel_rfl) (by kernel_rfl) ?_
      repeat (go_big_quiet_step (first
        | (go_at_call 141; refine bw_below (v := .agg #[.int .i64 (-1), .int .i64 0]) (l4Nobody _))
        | (go_at_call 43; refine bw_same (v := .bool true) (h1' ▸ l3Host h _))
        | (go_at_call 42; refine bw_same (l1In _ _ _ _))))
      refine wpQuiet_nil ?_
      intro _ hw'
      obtain ⟨u, rfl⟩ := hw'
      have HU := hid (HB.out.trans (u.bel.mono HB.out.size))
      clear k0 k1 heq hwa
      go_wp2
      go_ret
      exact ⟨by rw [HN.out, h1', Bool.true_and, Bool.decide_and]; rfl, HU.out⟩
    · have h1' := decide_eq_false h1
      clear h1
      go_enter Tryz.func111, Tryz.ntmps111
      go_wp2
      refine wp_region_bw (by kernel_rfl) (by kernel_rfl) ?_
      repeat (go_big_quiet_step (first
        | (go_at_call 141; refine bw_below (v := .agg #[.int .i64 (-1), .int .i64 0]) (l4Nobody _))
        | (go_at_call 43; refine bw_same (v := .bool false) (h1' ▸ l3Host h _))
        | (go_at_call 42; refine bw_same (l1In _ _ _ _))))
      refine wpQuiet_nil ?_
      intro _ hw'
      obtain ⟨u, rfl⟩ := hw'
      have HU := hid (HB.out.trans (u.bel.mono HB.out.size))
      clear k0 k1 heq hwa
      go_wp2
      go_ret
      exact ⟨by rw [HN.out, h1']; rfl, HU.out⟩

set_option maxRecDepth 100000 in
set_option maxHeartbeats 1000000 in
theorem isLease (h e : Int) (w : World) :
    Calls Tryz.prog 156 #[lsV h e] w fun r w' => r = .returned (.bool (lsOk h e)) ∧ Below w.heap.size w w' := by
  unfold lsV
  obtain ⟨wa, hwa, ez, A0, B0⟩ := one_new w [.int .i64 h, .int .i64 e] 53
  have k0 := BW.cell (A0.c 0 rfl)
  have k1 := BW.cell (A0.c 1 rfl)
  have hne : Nonempty (BW wa) := ⟨⟨wa, Below.refl _ _⟩⟩
  have HB := hid B0
  have hgl := guardLs
  clear A0 B0
  by_cases hn : h = -1 ∧ e = 0
  · have HN := hid (ls_nobody h e hn)
    have heq := eql_nobody h e hn
    clear hn
    go_enter Tryz.func156, Tryz.ntmps156
    go_wp2
    refine wp_region_bw (by kernel_rfl) (by kernel_rfl) ?_
    repeat (go_big_quiet_step (first
      | (go_at_call 176; refine bw_below (v := .agg #[.int .i64 (-1), .int .i64 0]) (nobody _))))
    refine wpQuiet_nil ?_
    intro _ hw'
    obtain ⟨u, rfl⟩ := hw'
    have HU := hid (HB.out.trans (u.bel.mono HB.out.size))
    clear k0 k1 heq hwa
    go_wp2
    go_ret
    exact ⟨by rw [HN.out]; rfl, HU.out⟩
  · have HN := hid (ls_some h e hn)
    have heq := eql_some h e hn
    clear hn
    by_cases h1 : 0 ≤ h ∧ h < 3
    · have h1' := decide_eq_true h1
      clear h1
      go_enter Tryz.func156, Tryz.ntmps156
      go_wp2
      refine wp_region_bw (by kernel_rfl) (by kernel_rfl) ?_
      repeat (go_big_quiet_step (first
        | (go_at_call 176; refine bw_below (v := .agg #[.int .i64 (-1), .int .i64 0]) (nobody _))
        | (go_at_call 89; refine bw_same (v := .bool true) (h1' ▸ isHost h _))
        | (go_at_call 93; refine bw_same (isFrom _ _ _ _))))
      refine wpQuiet_nil ?_
      intro _ hw'
      obtain ⟨u, rfl⟩ := hw'
      have HU := hid (HB.out.trans (u.bel.mono HB.out.size))
      clear k0 k1 heq hwa
      go_wp2
      go_ret
      exact ⟨by rw [HN.out, h1', Bool.true_and, Bool.decide_and]; rfl, HU.out⟩
    · have h1' := decide_eq_false h1
      clear h1
      go_enter Tryz.func156, Tryz.ntmps156
      go_wp2
      refine wp_region_bw (by kernel_rfl) (by kernel_rfl) ?_
      repeat (go_big_quiet_step (first
        | (go_at_call 176; refine bw_below (v := .agg #[.int .i64 (-1), .int .i64 0]) (nobody _))
        | (go_at_call 89; refine bw_same (v := .bool false) (h1' ▸ isHost h _))
        | (go_at_call 93; refine bw_same (isFrom _ _ _ _))))
      refine wpQuiet_nil ?_
      intro _ hw'
      obtain ⟨u, rfl⟩ := hw'
      have HU := hid (HB.out.trans (u.bel.mono HB.out.size))
      clear k0 k1 heq hwa
      go_wp2
      go_ret
      exact ⟨by rw [HN.out, h1']; rfl, HU.out⟩

set_option maxRecDepth 100000 in
set_option maxHeartbeats 1000000 in
theorem l4ShowLease (h e : Int) (w : World) (hb0 : -1 ≤ h) (hb : h < 3) :
    Calls Tryz.prog 80 #[lsV h e] w fun r w' => r = .returned (.string (showLs h e)) ∧ Below w.heap.size w w' := by
  have s1 := vr_size (h + 1)
  have s2 := vr_size e
  have HD : Hid (vr (h + 1) ++ vr e = showLs h e) := rfl
  unfold lsV
  obtain ⟨wa, hwa, ez, A0, B0⟩ := one_new w [.int .i64 h, .int .i64 e] 53
  have k0 := BW.cell (A0.c 0 rfl)
  have k1 := BW.cell (A0.c 1 rfl)
  have hne : Nonempty (BW wa) := ⟨⟨wa, Below.refl _ _⟩⟩
  have HB := hid B0
  clear A0 B0
  go_enter Tryz.func80, Tryz.ntmps80
  go_wp2
  refine wp_region_bw (by kernel_rfl) (by kernel_rfl) ?_
  repeat (go_big_quiet_step (first
    | (go_at_call 82; refine bw_below (sVar _ _))))
  refine wpQuiet_nil ?_
  intro _ hw'
  obtain ⟨u, rfl⟩ := hw'
  have HU := hid (HB.out.trans (u.bel.mono HB.out.size))
  clear k0 k1 hwa
  go_wp2
  go_ret
  exact ⟨Own.ret_str HD.out, HU.out⟩

set_option maxRecDepth 100000 in
set_option maxHeartbeats 1000000 in
theorem showLease (h e : Int) (w : World) (hb0 : -1 ≤ h) (hb : h < 3) :
    Calls Tryz.prog 131 #[lsV h e] w fun r w' => r = .returned (.string (showLs h e)) ∧ Below w.heap.size w w' := by
  have s1 := vr_size (h + 1)
  have s2 := vr_size e
  have HD : Hid (vr (h + 1) ++ vr e = showLs h e) := rfl
  unfold lsV
  obtain ⟨wa, hwa, ez, A0, B0⟩ := one_new w [.int .i64 h, .int .i64 e] 53
  have k0 := BW.cell (A0.c 0 rfl)
  have k1 := BW.cell (A0.c 1 rfl)
  have hne : Nonempty (BW wa) := ⟨⟨wa, Below.refl _ _⟩⟩
  have HB := hid B0
  clear A0 B0
  go_enter Tryz.func131, Tryz.ntmps131
  go_wp2
  refine wp_region_bw (by kernel_rfl) (by kernel_rfl) ?_
  repeat (go_big_quiet_step (first
    | (go_at_call 159; refine bw_below (iVar _ _))))
  refine wpQuiet_nil ?_
  intro _ hw'
  obtain ⟨u, rfl⟩ := hw'
  have HU := hid (HB.out.trans (u.bel.mono HB.out.size))
  clear k0 k1 hwa
  go_wp2
  go_ret
  exact ⟨Own.ret_str HD.out, HU.out⟩

end Go.Proofs.YtogebppolkfldaaGreatDoor.Sec
