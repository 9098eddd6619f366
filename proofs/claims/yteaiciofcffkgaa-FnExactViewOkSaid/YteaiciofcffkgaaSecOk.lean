/-
  The walks that ask whether a lease, a volume, a group and a list of freed blocks are right, on both sides. No condition but lists of at most 2^20.
-/
import Derived.Test.YteaiciofcffkgaaRows
import Derived.Test.YteaiciofcffkgaaQuietB
import Derived.Laws.StructEq
import Derived.WalkSpells
import Derived.WalkLawsBesides
namespace Go.Proofs.Yteaiciofcffkgaa.Sec
open Go.RowKit Go.Proofs.Yteaiciofcffkgaa.Mem
set_option linter.unusedVariables false

/-- A lease that is right. -/
def lsOk (h e : Int) : Bool := decide ((h = -1 ∧ e = 0) ∨ ((0 ≤ h ∧ h < 3) ∧ (1 ≤ e ∧ e ≤ 100000)))

def between (lo hi : Int) (l : List Int) : Bool := l.all fun n => decide (lo ≤ n ∧ n ≤ hi)

def freesOk (l : List Int) : Bool := decide (l.length ≤ 12) && between 0 17 l

def groupOk (h e : Int) (l : List Int) : Bool := lsOk h e && decide (l.length = 6) && between 0 16 l

def volOk (h e : Int) (on : Bool) (l : List Int) : Bool := lsOk h e && decide (l.length = 4) && between (-1) (if on then 17 else -1) l

theorem between_take (lo hi : Int) (l : List Int) (k : Nat) (h : k < l.length) : between lo hi (l.take (k + 1)) = (between lo hi (l.take k) && decide (lo ≤ l.getD k 0 ∧ l.getD k 0 ≤ hi)) := by
  unfold between
  rw [List.take_add_one, List.all_append]
  simp [List.getD, h]

theorem between_no (lo hi : Int) (l : List Int) (k : Nat) (h : k < l.length) (hn : ¬ (lo ≤ l.getD k 0 ∧ l.getD k 0 ≤ hi)) : between lo hi l = false := by
  unfold between
  rw [List.all_eq_false]
  refine ⟨l.getD k 0, ?_, by simpa using hn⟩
  simp [List.getD, h]

theorem between_getD {lo hi : Int} {l : List Int} (h : between lo hi l = true) (k : Nat) (hk : k < l.length) : lo ≤ l.getD k 0 ∧ l.getD k 0 ≤ hi := by
  unfold between at h
  rw [List.all_eq_true] at h
  have := h (l.getD k 0) (by simp [List.getD, hk])
  simpa using this

theorem ls_bd {h e : Int} (x : lsOk h e = true) : -1 ≤ h ∧ h < 3 := by
  unfold lsOk at x
  have := of_decide_eq_true x
  omega

set_option maxHeartbeats 400000 in
theorem l1In (x lo hi : Int) (w : World) :
    Calls Try.prog 42 #[.int .i64 x, .int .i64 lo, .int .i64 hi] w fun e w' => e = .returned (.bool (decide (lo ≤ x ∧ x ≤ hi))) ∧ w' = w := by
  by_cases h1 : lo ≤ x
  · by_cases h2 : x ≤ hi
    · rw [decide_eq_true (And.intro h1 h2)]
      go_enter Try.func42, Try.ntmps42
      go_wp2
      go_ret
      exact ⟨rfl, rfl⟩
    · rw [decide_eq_false (fun h => h2 h.2)]
      go_enter Try.func42, Try.ntmps42
      go_wp2
      go_ret
      exact ⟨rfl, rfl⟩
  · rw [decide_eq_false (fun h => h1 h.1)]
    go_enter Try.func42, Try.ntmps42
    go_wp2
    go_ret
    exact ⟨rfl, rfl⟩

set_option maxHeartbeats 400000 in
theorem isFrom (x lo hi : Int) (w : World) :
    Calls Try.prog 16 #[.int .i64 x, .int .i64 lo, .int .i64 hi] w fun e w' => e = .returned (.bool (decide (lo ≤ x ∧ x ≤ hi))) ∧ w' = w := by
  by_cases h1 : lo ≤ x
  · by_cases h2 : x ≤ hi
    · rw [decide_eq_true (And.intro h1 h2)]
      go_enter Try.func16, Try.ntmps16
      go_wp2
      go_ret
      exact ⟨rfl, rfl⟩
    · rw [decide_eq_false (fun h => h2 h.2)]
      go_enter Try.func16, Try.ntmps16
      go_wp2
      go_ret
      exact ⟨rfl, rfl⟩
  · rw [decide_eq_false (fun h => h1 h.1)]
    go_enter Try.func16, Try.ntmps16
    go_wp2
    go_ret
    exact ⟨rfl, rfl⟩

set_option maxHeartbeats 400000 in
theorem l3Host (x : Int) (w : World) :
    Calls Try.prog 15 #[.int .i64 x] w fun e w' => e = .returned (.bool (decide (0 ≤ x ∧ x < 3))) ∧ w' = w := by
  by_cases h1 : 0 ≤ x
  · by_cases h2 : x < 3
    · rw [decide_eq_true (And.intro h1 h2)]
      go_enter Try.func15, Try.ntmps15
      go_wp2
      go_ret
      exact ⟨rfl, rfl⟩
    · rw [decide_eq_false (fun h => h2 h.2)]
      go_enter Try.func15, Try.ntmps15
      go_wp2
      go_ret
      exact ⟨rfl, rfl⟩
  · rw [decide_eq_false (fun h => h1 h.1)]
    go_enter Try.func15, Try.ntmps15
    go_wp2
    go_ret
    exact ⟨rfl, rfl⟩

set_option maxHeartbeats 400000 in
theorem isHost (x : Int) (w : World) :
    Calls Try.prog 46 #[.int .i64 x] w fun e w' => e = .returned (.bool (decide (0 ≤ x ∧ x < 3))) ∧ w' = w := by
  by_cases h1 : 0 ≤ x
  · by_cases h2 : x < 3
    · rw [decide_eq_true (And.intro h1 h2)]
      go_enter Try.func46, Try.ntmps46
      go_wp2
      go_ret
      exact ⟨rfl, rfl⟩
    · rw [decide_eq_false (fun h => h2 h.2)]
      go_enter Try.func46, Try.ntmps46
      go_wp2
      go_ret
      exact ⟨rfl, rfl⟩
  · rw [decide_eq_false (fun h => h1 h.1)]
    go_enter Try.func46, Try.ntmps46
    go_wp2
    go_ret
    exact ⟨rfl, rfl⟩

/-- A lease's value. -/
def lsV (h e : Int) : Value := .agg #[.int .i64 h, .int .i64 e]

set_option maxHeartbeats 400000 in
theorem l4Nobody (w : World) : Calls Try.prog 41 #[] w fun e w' => e = .returned (lsV (-1) 0) ∧ Below w.heap.size w w' := by
  unfold lsV
  go_enter Try.func41, Try.ntmps41
  go_wp2
  go_returns
  exact ⟨rfl, by go_grown⟩

set_option maxHeartbeats 400000 in
theorem nobody (w : World) : Calls Try.prog 31 #[] w fun e w' => e = .returned (lsV (-1) 0) ∧ Below w.heap.size w w' := by
  unfold lsV
  go_enter Try.func31, Try.ntmps31
  go_wp2
  go_returns
  exact ⟨rfl, by go_grown⟩

theorem ls_nobody (h e : Int) (x : h = -1 ∧ e = 0) : lsOk h e = true := decide_eq_true (Or.inl x)

theorem ls_some (h e : Int) (x : ¬ (h = -1 ∧ e = 0)) : lsOk h e = (decide (0 ≤ h ∧ h < 3) && decide (1 ≤ e ∧ e ≤ 100000)) := by
  unfold lsOk
  by_cases a : 0 ≤ h ∧ h < 3 <;> by_cases b : 1 ≤ e ∧ e ≤ 100000 <;> simp [a, b, x]

theorem stLs : Try.prog.underlying 38 = some (.struct (Try.prog.fieldsOf 38)) := by kernel_rfl

theorem heldLs : Try.prog.stoodInHeld 38 = false := by kernel_rfl

theorem guardLs : Try.prog.eqGuardType Try.prog.depth 38 = false := by kernel_rfl

theorem eql_ls (a b c d : Int) (w : World) : (binOp .eql 38 (.agg #[.int .i64 a, .int .i64 b]) (.agg #[.int .i64 c, .int .i64 d])).run Try.prog w = .ok (.bool (decide (a = c ∧ b = d))) w := by
  rw [run_eql_struct, run_equalIn_agg w 9999 38 _ _ stLs heldLs]
  unfold Program.fieldsOf
  rw [Try.underlying38]
  by_cases h1 : a = c <;> by_cases h2 : b = d <;> simp [Op.eqFields, part, go_sem, h1, h2, Try.underlying3]

theorem eql_nobody (h e : Int) (hn : h = -1 ∧ e = 0) (w : World) : (binOp .eql 38 (.agg #[.int .i64 h, .int .i64 e]) (.agg #[.int .i64 (-1), .int .i64 0])).run Try.prog w = .ok (.bool true) w := by
  rw [eql_ls, decide_eq_true hn]

theorem eql_some (h e : Int) (hn : ¬ (h = -1 ∧ e = 0)) (w : World) : (binOp .eql 38 (.agg #[.int .i64 h, .int .i64 e]) (.agg #[.int .i64 (-1), .int .i64 0])).run Try.prog w = .ok (.bool false) w := by
  rw [eql_ls, decide_eq_false hn]

set_option maxRecDepth 100000 in
set_option maxHeartbeats 1000000 in
theorem l4Lease (h e : Int) (w : World) :
    Calls Try.prog 22 #[lsV h e] w fun r w' => r = .returned (.bool (lsOk h e)) ∧ Below w.heap.size w w' := by
  unfold lsV
  obtain ⟨wa, hwa, ez, A0, B0⟩ := one_new w [.int .i64 h, .int .i64 e] 38
  have k0 := BW.cell (A0.c 0 rfl)
  have k1 := BW.cell (A0.c 1 rfl)
  have hne : Nonempty (BW wa) := ⟨⟨wa, Below.refl _ _⟩⟩
  have HB := hid B0
  have hgl := guardLs
  clear A0 B0
  by_cases hn : h = -1 ∧ e = 0
  · have HN := hid (ls_nobody h e hn)
    have heq := eql_nobody h e hn
    clear hn
    go_enter Try.func22, Try.ntmps22
    go_wp2
    refine wp_region_bw (by kernel_rfl) (by kernel_rfl) ?_
    repeat (go_big_quiet_step (first
      | (go_at_call 41; refine bw_below (v := .agg #[.int .i64 (-1), .int .i64 0]) (l4Nobody _))))
    refine wpQuiet_nil ?_
    intro _ hw'
    obtain ⟨u, rfl⟩ := hw'
    have HU := hid (HB.out.trans (u.bel.mono HB.out.size))
    clear k0 k1 heq hwa
    go_wp2
    go_ret
    exact ⟨by rw [HN.out]; rfl, HU.out⟩
  · have HN := hid (ls_some h e hn)
    have heq := eql_some h e hn
    clear hn
    by_cases h1 : 0 ≤ h ∧ h < 3
    · have h1' := decide_eq_true h1
      clear h1
      go_enter Try.func22, Try.ntmps22
      go_wp2
      refine wp_region_bw (by kernel_rfl) (by kernel_rfl) ?_
      repeat (go_big_quiet_step (first
        | (go_at_call 41; refine bw_below (v := .agg #[.int .i64 (-1), .int .i64 0]) (l4Nobody _))
        | (go_at_call 15; refine bw_same (v := .bool true) (h1' ▸ l3Host h _))
        | (go_at_call 42; refine bw_same (l1In _ _ _ _))))
      refine wpQuiet_nil ?_
      intro _ hw'
      obtain ⟨u, rfl⟩ := hw'
      have HU := hid (HB.out.trans (u.bel.mono HB.out.size))
      clear k0 k1 heq hwa
      go_wp2
      go_ret
      exact ⟨by rw [HN.out, h1', Bool.true_and, Bool.decide_and]; rfl, HU.out⟩
    · have h1' := decide_eq_false h1
      clear h1
      go_enter Try.func22, Try.ntmps22
      go_wp2
      refine wp_region_bw (by kernel_rfl) (by kernel_rfl) ?_
      repeat (go_big_quiet_step (first
        | (go_at_call 41; refine bw_below (v := .agg #[.int .i64 (-1), .int .i64 0]) (l4Nobody _))
        | (go_at_call 15; refine bw_same (v := .bool false) (h1' ▸ l3Host h _))
        | (go_at_call 42; refine bw_same (l1In _ _ _ _))))
      refine wpQuiet_nil ?_
      intro _ hw'
      obtain ⟨u, rfl⟩ := hw'
      have HU := hid (HB.out.trans (u.bel.mono HB.out.size))
      clear k0 k1 heq hwa
      go_wp2
      go_ret
      exact ⟨by rw [HN.out, h1']; rfl, HU.out⟩

set_option maxRecDepth 100000 in
set_option maxHeartbeats 1000000 in
theorem isLease (h e : Int) (w : World) :
    Calls Try.prog 30 #[lsV h e] w fun r w' => r = .returned (.bool (lsOk h e)) ∧ Below w.heap.size w w' := by
  unfold lsV
  obtain ⟨wa, hwa, ez, A0, B0⟩ := one_new w [.int .i64 h, .int .i64 e] 38
  have k0 := BW.cell (A0.c 0 rfl)
  have k1 := BW.cell (A0.c 1 rfl)
  have hne : Nonempty (BW wa) := ⟨⟨wa, Below.refl _ _⟩⟩
  have HB := hid B0
  have hgl := guardLs
  clear A0 B0
  by_cases hn : h = -1 ∧ e = 0
  · have HN := hid (ls_nobody h e hn)
    have heq := eql_nobody h e hn
    clear hn
    go_enter Try.func30, Try.ntmps30
    go_wp2
    refine wp_region_bw (by kernel_rfl) (by kernel_rfl) ?_
    repeat (go_big_quiet_step (first
      | (go_at_call 31; refine bw_below (v := .agg #[.int .i64 (-1), .int .i64 0]) (nobody _))))
    refine wpQuiet_nil ?_
    intro _ hw'
    obtain ⟨u, rfl⟩ := hw'
    have HU := hid (HB.out.trans (u.bel.mono HB.out.size))
    clear k0 k1 heq hwa
    go_wp2
    go_ret
    exact ⟨by rw [HN.out]; rfl, HU.out⟩
  · have HN := hid (ls_some h e hn)
    have heq := eql_some h e hn
    clear hn
    by_cases h1 : 0 ≤ h ∧ h < 3
    · have h1' := decide_eq_true h1
      clear h1
      go_enter Try.func30, Try.ntmps30
      go_wp2
      refine wp_region_bw (by kernel_rfl) (by kernel_rfl) ?_
      repeat (go_big_quiet_step (first
        | (go_at_call 31; refine bw_below (v := .agg #[.int .i64 (-1), .int .i64 0]) (nobody _))
        | (go_at_call 46; refine bw_same (v := .bool true) (h1' ▸ isHost h _))
        | (go_at_call 16; refine bw_same (isFrom _ _ _ _))))
      refine wpQuiet_nil ?_
      intro _ hw'
      obtain ⟨u, rfl⟩ := hw'
      have HU := hid (HB.out.trans (u.bel.mono HB.out.size))
      clear k0 k1 heq hwa
      go_wp2
      go_ret
      exact ⟨by rw [HN.out, h1', Bool.true_and, Bool.decide_and]; rfl, HU.out⟩
    · have h1' := decide_eq_false h1
      clear h1
      go_enter Try.func30, Try.ntmps30
      go_wp2
      refine wp_region_bw (by kernel_rfl) (by kernel_rfl) ?_
      repeat (go_big_quiet_step (first
        | (go_at_call 31; refine bw_below (v := .agg #[.int .i64 (-1), .int .i64 0]) (nobody _))
        | (go_at_call 46; refine bw_same (v := .bool false) (h1' ▸ isHost h _))
        | (go_at_call 16; refine bw_same (isFrom _ _ _ _))))
      refine wpQuiet_nil ?_
      intro _ hw'
      obtain ⟨u, rfl⟩ := hw'
      have HU := hid (HB.out.trans (u.bel.mono HB.out.size))
      clear k0 k1 heq hwa
      go_wp2
      go_ret
      exact ⟨by rw [HN.out, h1']; rfl, HU.out⟩

set_option maxRecDepth 100000 in
set_option maxHeartbeats 1000000 in
theorem areFrom (w : World) (a : Option Addr) (cap : Nat) (l : List Int) (lo hi : Int) (S : Ints w a l) (hl : l.length ≤ 1048576) :
    Calls Try.prog 47 #[.slice a l.length cap, .int .i64 lo, .int .i64 hi] w fun e w' => e = .returned (.bool (between lo hi l)) ∧ w' = w := by
  have HS := hid S
  clear S
  go_enter Try.func47, Try.ntmps47
  go_wp2
  go_loop [11] (fun i => ∃ k : Nat, k ≤ l.length ∧ i = .int .i64 (k : Int) ∧ Hid (between lo hi (l.take k) = true)) (fun i => l.length - (intOf i).toNat)
  case atStart => exact ⟨0, Nat.zero_le _, rfl, rfl⟩
  case round =>
    obtain ⟨k, hk, rfl, HK⟩ := hrel
    by_cases hlt : k < l.length
    · obtain ⟨b, off, rfl, hc⟩ := HS.out k hlt
      replace hc : w.cell? ⟨b, off + k, none⟩ = some (.int .i64 (l.getD k 0)) := hc
      have HT := hid (between_take lo hi l k hlt)
      have HN := hid (between_no lo hi l k hlt)
      generalize l.getD k 0 = x at *
      by_cases hx : lo ≤ x ∧ x ≤ hi
      · have hx' := decide_eq_true hx
        have HR : Hid (between lo hi (l.take (k + 1)) = true) := by rw [Hid, HT.out, HK.out, hx']; rfl
        clear hx
        go_wp2_with fail
        refine (hx' ▸ isFrom x lo hi _).mono ?_
        rintro e w1 ⟨rfl, hw⟩
        subst hw
        go_wp2
        exact ⟨⟨k + 1, by omega, by go_num, HR⟩, by simp [intOf]; omega⟩
      · have hx' := decide_eq_false hx
        have HR := hid (HN.out hx)
        clear hx
        go_wp2_with fail
        refine (hx' ▸ isFrom x lo hi _).mono ?_
        rintro e w1 ⟨rfl, hw⟩
        subst hw
        go_wp2
        go_ret
        exact ⟨by rw [HR.out]; rfl, rfl⟩
    · obtain rfl : k = l.length := by omega
      have HR : Hid (between lo hi l = true) := by have := HK.out; rwa [List.take_length] at this
      go_wp2
      go_ret
      exact ⟨by rw [HR.out]; rfl, rfl⟩

set_option maxHeartbeats 400000 in
theorem l4Block (x : Int) (w : World) :
    Calls Try.prog 43 #[.int .i64 x] w fun e w' => e = .returned (.bool (decide (0 ≤ x ∧ x ≤ 17))) ∧ w' = w := by
  by_cases h1 : 0 ≤ x
  · by_cases h2 : x < 18
    · rw [decide_eq_true (And.intro h1 (show x ≤ 17 by omega))]
      go_enter Try.func43, Try.ntmps43
      go_wp2
      go_ret
      exact ⟨rfl, rfl⟩
    · rw [decide_eq_false (fun h => h2 (by omega))]
      go_enter Try.func43, Try.ntmps43
      go_wp2
      go_ret
      exact ⟨rfl, rfl⟩
  · rw [decide_eq_false (fun h => h1 h.1)]
    go_enter Try.func43, Try.ntmps43
    go_wp2
    go_ret
    exact ⟨rfl, rfl⟩

theorem freesOk_long (l : List Int) (h : ¬ l.length ≤ 12) : freesOk l = false := by unfold freesOk; rw [decide_eq_false h]; rfl

theorem freesOk_short (l : List Int) (h : l.length ≤ 12) : freesOk l = between 0 17 l := by unfold freesOk; rw [decide_eq_true h]; rfl

set_option maxRecDepth 100000 in
set_option maxHeartbeats 1000000 in
theorem l4FreesOk (w : World) (a : Option Addr) (cap : Nat) (l : List Int) (S : Ints w a l) (hl : l.length ≤ 1048576) :
    Calls Try.prog 23 #[.slice a l.length cap] w fun e w' => e = .returned (.bool (freesOk l)) ∧ w' = w := by
  have HS := hid S
  clear S
  by_cases hg : 12 < (l.length : Int)
  · have HN := hid (freesOk_long l (by omega))
    go_enter Try.func23, Try.ntmps23
    go_wp2
    go_ret
    exact ⟨by rw [HN.out]; rfl, rfl⟩
  have HE := hid (freesOk_short l (by omega))
  go_enter Try.func23, Try.ntmps23
  go_wp2
  go_loop [3] (fun i => ∃ k : Nat, k ≤ l.length ∧ i = .int .i64 (k : Int) ∧ Hid (between 0 17 (l.take k) = true)) (fun i => l.length - (intOf i).toNat)
  case atStart => exact ⟨0, Nat.zero_le _, rfl, rfl⟩
  case round =>
    obtain ⟨k, hk, rfl, HK⟩ := hrel
    by_cases hlt : k < l.length
    · obtain ⟨b, off, rfl, hc⟩ := HS.out k hlt
      replace hc : w.cell? ⟨b, off + k, none⟩ = some (.int .i64 (l.getD k 0)) := hc
      have HT := hid (between_take 0 17 l k hlt)
      have HN := hid (between_no 0 17 l k hlt)
      generalize l.getD k 0 = x at *
      by_cases hx : 0 ≤ x ∧ x ≤ 17
      · have hx' := decide_eq_true hx
        have HR : Hid (between 0 17 (l.take (k + 1)) = true) := by rw [Hid, HT.out, HK.out, hx']; rfl
        clear hx
        go_wp2_with fail
        refine (hx' ▸ l4Block x _).mono ?_
        rintro e w1 ⟨rfl, hw⟩
        subst hw
        go_wp2
        exact ⟨⟨k + 1, by omega, by go_num, HR⟩, by simp [intOf]; omega⟩
      · have hx' := decide_eq_false hx
        have HR := hid (HN.out hx)
        clear hx
        go_wp2_with fail
        refine (hx' ▸ l4Block x _).mono ?_
        rintro e w1 ⟨rfl, hw⟩
        subst hw
        go_wp2
        go_ret
        exact ⟨by rw [HE.out, HR.out]; rfl, rfl⟩
    · obtain rfl : k = l.length := by omega
      have HR : Hid (between 0 17 l = true) := by have := HK.out; rwa [List.take_length] at this
      go_wp2
      go_ret
      exact ⟨by rw [HE.out, HR.out]; rfl, rfl⟩

set_option maxRecDepth 100000 in
set_option maxHeartbeats 1000000 in
theorem areFrees (w : World) (a : Option Addr) (cap : Nat) (l : List Int) (S : Ints w a l) (hl : l.length ≤ 1048576) :
    Calls Try.prog 34 #[.slice a l.length cap] w fun e w' => e = .returned (.bool (freesOk l)) ∧ w' = w := by
  have HS := hid S
  clear S
  by_cases hg : 12 < (l.length : Int)
  · have HN := hid (freesOk_long l (by omega))
    go_enter Try.func34, Try.ntmps34
    go_wp2
    go_ret
    exact ⟨by rw [HN.out]; rfl, rfl⟩
  have HE := hid (freesOk_short l (by omega))
  go_enter Try.func34, Try.ntmps34
  go_wp2_with fail
  refine (areFrom w a cap l 0 17 HS.out hl).mono ?_
  rintro e w1 ⟨rfl, hw⟩
  subst hw
  generalize between 0 17 l = z at *
  go_wp2
  go_ret
  exact ⟨by rw [HE.out]; rfl, rfl⟩

/-- A group's value. -/
def gpV (h e : Int) (a : Option Addr) (n cap : Nat) : Value := .agg #[.int .i64 h, .int .i64 e, .slice a n cap]

theorem groupOk_no1 (h e : Int) (l : List Int) (x : lsOk h e = false) : groupOk h e l = false := by unfold groupOk; rw [x]; rfl

theorem groupOk_no2 (h e : Int) (l : List Int) (x : ¬ l.length = 6) : groupOk h e l = false := by unfold groupOk; rw [decide_eq_false x]; cases lsOk h e <;> rfl

theorem groupOk_more (h e : Int) (l : List Int) (x : lsOk h e = true) (y : l.length = 6) : groupOk h e l = between 0 16 l := by unfold groupOk; rw [x, decide_eq_true y]; rfl

set_option maxRecDepth 100000 in
set_option maxHeartbeats 1000000 in
theorem l4GroupOk (w : World) (h e : Int) (a : Option Addr) (cap : Nat) (l : List Int) (S : Ints w a l) (hl : l.length ≤ 1048576) :
    Calls Try.prog 25 #[gpV h e a l.length cap] w fun r w' => r = .returned (.bool (groupOk h e l)) ∧ Below w.heap.size w w' := by
  unfold gpV
  obtain ⟨wa, hwa, ez, A0, B0⟩ := one_new w [.int .i64 h, .int .i64 e, .slice a l.length cap] 60
  have k0 := A0.c 0 rfl
  have k1 := A0.c 1 rfl
  have k2 := A0.c 2 rfl
  have HA := hid A0
  have HB := hid B0
  have HS := hid S
  clear A0 B0 S
  go_enter Try.func25, Try.ntmps25
  go_wp2_with fail
  refine (l4Lease h e _).mono ?_
  rintro r w2 ⟨rfl, b2⟩
  replace k2 := (HA.out.below b2 HA.out.lt).c 2 rfl
  have HB2 := hid (HB.out.trans (b2.mono HB.out.size))
  clear b2 hwa k0 k1 HA
  cases hz : lsOk h e with
  | false =>
    have HN := hid (groupOk_no1 h e l hz)
    clear hz
    go_wp2
    go_ret
    exact ⟨by rw [HN.out]; rfl, HB2.out⟩
  | true =>
    by_cases h6 : (l.length : Int) = 6
    · have HE := hid (groupOk_more h e l hz (by omega))
      have hd : ((l.length : Int) != 6) = false := by simpa using h6
      clear hz h6
      go_wp2
      go_loop [3] (fun i => ∃ k : Nat, k ≤ l.length ∧ i = .int .i64 (k : Int) ∧ Hid (between 0 16 (l.take k) = true)) (fun i => l.length - (intOf i).toNat)
      case atStart => exact ⟨0, Nat.zero_le _, rfl, rfl⟩
      case round =>
        obtain ⟨k, hk, rfl, HK⟩ := hrel
        by_cases hlt : k < l.length
        · obtain ⟨b, off, rfl, hc⟩ := (HS.out.below HB2.out) k hlt
          replace hc : w2.cell? ⟨b, off + k, none⟩ = some (.int .i64 (l.getD k 0)) := hc
          have HT := hid (between_take 0 16 l k hlt)
          have HN := hid (between_no 0 16 l k hlt)
          generalize l.getD k 0 = x at *
          by_cases hx : 0 ≤ x ∧ x ≤ 16
          · have hx' := decide_eq_true hx
            have HR : Hid (between 0 16 (l.take (k + 1)) = true) := by rw [Hid, HT.out, HK.out, hx']; rfl
            clear hx
            go_wp2_with fail
            refine (hx' ▸ l1In x 0 16 _).mono ?_
            rintro r w3 ⟨rfl, hw⟩
            subst hw
            go_wp2
            exact ⟨⟨k + 1, by omega, by go_num, HR⟩, by simp [intOf]; omega⟩
          · have hx' := decide_eq_false hx
            have HR := hid (HN.out hx)
            clear hx
            go_wp2_with fail
            refine (hx' ▸ l1In x 0 16 _).mono ?_
            rintro r w3 ⟨rfl, hw⟩
            subst hw
            go_wp2
            go_ret
            exact ⟨by rw [HE.out, HR.out]; rfl, HB2.out⟩
        · obtain rfl : k = l.length := by omega
          have HR : Hid (between 0 16 l = true) := by have := HK.out; rwa [List.take_length] at this
          go_wp2
          go_ret
          exact ⟨by rw [HE.out, HR.out]; rfl, HB2.out⟩
    · have HN := hid (groupOk_no2 h e l (by omega))
      clear hz
      go_wp2
      go_ret
      exact ⟨by rw [HN.out]; rfl, HB2.out⟩

set_option maxRecDepth 100000 in
set_option maxHeartbeats 1000000 in
theorem isGroup (w : World) (h e : Int) (a : Option Addr) (cap : Nat) (l : List Int) (S : Ints w a l) (hl : l.length ≤ 1048576) :
    Calls Try.prog 33 #[gpV h e a l.length cap] w fun r w' => r = .returned (.bool (groupOk h e l)) ∧ Below w.heap.size w w' := by
  unfold gpV
  obtain ⟨wa, hwa, ez, A0, B0⟩ := one_new w [.int .i64 h, .int .i64 e, .slice a l.length cap] 60
  have k0 := A0.c 0 rfl
  have k1 := A0.c 1 rfl
  have k2 := A0.c 2 rfl
  have HA := hid A0
  have HB := hid B0
  have HS := hid S
  clear A0 B0 S
  go_enter Try.func33, Try.ntmps33
  go_wp2_with fail
  refine (isLease h e _).mono ?_
  rintro r w2 ⟨rfl, b2⟩
  replace k2 := (HA.out.below b2 HA.out.lt).c 2 rfl
  have HB2 := hid (HB.out.trans (b2.mono HB.out.size))
  clear b2 hwa k0 k1 HA
  cases hz : lsOk h e with
  | false =>
    have HN := hid (groupOk_no1 h e l hz)
    clear hz
    go_wp2
    go_ret
    exact ⟨by rw [HN.out]; rfl, HB2.out⟩
  | true =>
    by_cases h6 : (l.length : Int) = 6
    · have HE := hid (groupOk_more h e l hz (by omega))
      have hd : ((l.length : Int) == 6) = true := by simpa using h6
      clear hz h6
      go_wp2_with fail
      refine (areFrom w2 a cap l 0 16 (HS.out.below HB2.out) hl).mono ?_
      rintro r w3 ⟨rfl, hw⟩
      subst hw
      generalize between 0 16 l = z at *
      go_wp2
      go_ret
      exact ⟨by rw [HE.out]; rfl, HB2.out⟩
    · have HN := hid (groupOk_no2 h e l (by omega))
      have hd : ((l.length : Int) == 6) = false := by simpa using h6
      clear hz
      go_wp2
      go_ret
      exact ⟨by rw [HN.out]; rfl, HB2.out⟩

/-- A volume's value. -/
def vlV (h e : Int) (on : Bool) (a : Option Addr) (n cap : Nat) : Value := .agg #[.int .i64 h, .int .i64 e, .bool on, .slice a n cap]

/-- The highest number in a map. -/
def top (on : Bool) : Int := if on then 17 else -1

theorem volOk_no1 (h e : Int) (on : Bool) (l : List Int) (x : lsOk h e = false) : volOk h e on l = false := by unfold volOk; rw [x]; rfl

theorem volOk_no2 (h e : Int) (on : Bool) (l : List Int) (x : ¬ l.length = 4) : volOk h e on l = false := by unfold volOk; rw [decide_eq_false x]; cases lsOk h e <;> rfl

theorem volOk_more (h e : Int) (on : Bool) (l : List Int) (x : lsOk h e = true) (y : l.length = 4) : volOk h e on l = between (-1) (top on) l := by unfold volOk; rw [x, decide_eq_true y]; rfl

theorem top_bd (on : Bool) : -1 ≤ top on ∧ top on ≤ 17 := by cases on <;> decide

set_option maxRecDepth 100000 in
set_option maxHeartbeats 1000000 in
theorem l4VolOk (w : World) (h e : Int) (on : Bool) (a : Option Addr) (cap : Nat) (l : List Int) (S : Ints w a l) (hl : l.length ≤ 1048576) :
    Calls Try.prog 24 #[vlV h e on a l.length cap] w fun r w' => r = .returned (.bool (volOk h e on l)) ∧ Below w.heap.size w w' := by
  unfold vlV
  obtain ⟨wa, hwa, ez, A0, B0⟩ := one_new w [.int .i64 h, .int .i64 e, .bool on, .slice a l.length cap] 57
  have k0 := A0.c 0 rfl
  have k1 := A0.c 1 rfl
  have k2 := A0.c 2 rfl
  have k3 := A0.c 3 rfl
  have HA := hid A0
  have HB := hid B0
  have HS := hid S
  clear A0 B0 S
  go_enter Try.func24, Try.ntmps24
  go_wp2_with fail
  refine (l4Lease h e _).mono ?_
  rintro r w2 ⟨rfl, b2⟩
  replace k2 := (HA.out.below b2 HA.out.lt).c 2 rfl
  replace k3 := (HA.out.below b2 HA.out.lt).c 3 rfl
  have HB2 := hid (HB.out.trans (b2.mono HB.out.size))
  clear b2 hwa k0 k1 HA
  cases hz : lsOk h e with
  | false =>
    have HN := hid (volOk_no1 h e on l hz)
    clear hz
    go_wp2
    go_ret
    exact ⟨by rw [HN.out]; rfl, HB2.out⟩
  | true =>
    by_cases h6 : (l.length : Int) = 4
    · have HE := hid (volOk_more h e on l hz (by omega))
      have hd : ((l.length : Int) != 4) = false := by simpa using h6
      clear hz h6
      go_wp2
      go_loop [3] (fun i => ∃ k : Nat, k ≤ l.length ∧ i = .int .i64 (k : Int) ∧ Hid (between (-1) (top on) (l.take k) = true)) (fun i => l.length - (intOf i).toNat)
      case atStart => exact ⟨0, Nat.zero_le _, rfl, rfl⟩
      case round =>
        obtain ⟨k, hk, rfl, HK⟩ := hrel
        by_cases hlt : k < l.length
        · obtain ⟨b, off, rfl, hc⟩ := (HS.out.below HB2.out) k hlt
          replace hc : w2.cell? ⟨b, off + k, none⟩ = some (.int .i64 (l.getD k 0)) := hc
          have HT := hid (between_take (-1) (top on) l k hlt)
          have HN := hid (between_no (-1) (top on) l k hlt)
          generalize l.getD k 0 = x at *
          by_cases hx : x = -1
          · have HR : Hid (between (-1) (top on) (l.take (k + 1)) = true) := by
              have := top_bd on
              rw [Hid, HT.out, HK.out, decide_eq_true (show -1 ≤ x ∧ x ≤ top on by omega)]; rfl
            have hxb : (x != -1) = false := by simpa using hx
            clear hx
            go_wp2
            exact ⟨⟨k + 1, by omega, by go_num, HR⟩, by simp [intOf]; omega⟩
          have hxb : (x != -1) = true := by simpa using hx
          cases on with
          | false =>
            have HR := hid (HN.out (show ¬ (-1 ≤ x ∧ x ≤ -1) by omega))
            clear hx
            go_wp2
            go_ret
            exact ⟨by rw [HE.out, HR.out]; rfl, HB2.out⟩
          | true =>
            by_cases hy : 0 ≤ x ∧ x ≤ 17
            · have hy' := decide_eq_true hy
              have HR : Hid (between (-1) (top true) (l.take (k + 1)) = true) := by rw [Hid, HT.out, HK.out, decide_eq_true (show -1 ≤ x ∧ x ≤ top true from ⟨by omega, hy.2⟩)]; rfl
              clear hx hy
              go_wp2_with fail
              refine (hy' ▸ l4Block x _).mono ?_
              rintro r w3 ⟨rfl, hw⟩
              subst hw
              go_wp2
              exact ⟨⟨k + 1, by omega, by go_num, HR⟩, by simp [intOf]; omega⟩
            · have hy' := decide_eq_false hy
              have HR := hid (HN.out (show ¬ (-1 ≤ x ∧ x ≤ 17) by omega))
              clear hx hy
              go_wp2_with fail
              refine (hy' ▸ l4Block x _).mono ?_
              rintro r w3 ⟨rfl, hw⟩
              subst hw
              go_wp2
              go_ret
              exact ⟨by rw [HE.out, HR.out]; rfl, HB2.out⟩
        · obtain rfl : k = l.length := by omega
          have HR : Hid (between (-1) (top on) l = true) := by have := HK.out; rwa [List.take_length] at this
          go_wp2
          go_ret
          exact ⟨by rw [HE.out, HR.out]; rfl, HB2.out⟩
    · have HN := hid (volOk_no2 h e on l (by omega))
      clear hz
      go_wp2
      go_ret
      exact ⟨by rw [HN.out]; rfl, HB2.out⟩

set_option maxRecDepth 100000 in
set_option maxHeartbeats 1000000 in
theorem isVol_true (w : World) (h e : Int) (a : Option Addr) (cap : Nat) (l : List Int) (S : Ints w a l) (hl : l.length ≤ 1048576) :
    Calls Try.prog 32 #[vlV h e true a l.length cap] w fun r w' => r = .returned (.bool (volOk h e true l)) ∧ Below w.heap.size w w' := by
  unfold vlV
  obtain ⟨wa, hwa, ez, A0, B0⟩ := one_new w [.int .i64 h, .int .i64 e, .bool true, .slice a l.length cap] 57
  have k0 := A0.c 0 rfl
  have k1 := A0.c 1 rfl
  have k2 := A0.c 2 rfl
  have k3 := A0.c 3 rfl
  have HA := hid A0
  have HB := hid B0
  have HS := hid S
  clear A0 B0 S
  go_enter Try.func32, Try.ntmps32
  go_wp2_with fail
  refine (isLease h e _).mono ?_
  rintro r w2 ⟨rfl, b2⟩
  replace k3 := (HA.out.below b2 HA.out.lt).c 3 rfl
  have HB2 := hid (HB.out.trans (b2.mono HB.out.size))
  clear b2 hwa k0 k1 k2 HA
  cases hz : lsOk h e with
  | false =>
    have HN := hid (volOk_no1 h e true l hz)
    clear hz
    go_wp2
    go_ret
    exact ⟨by rw [HN.out]; rfl, HB2.out⟩
  | true =>
    by_cases h6 : (l.length : Int) = 4
    · have HE := hid (volOk_more h e true l hz (by omega))
      have hd : ((l.length : Int) == 4) = true := by simpa using h6
      clear hz h6
      go_wp2_with fail
      refine (areFrom w2 a cap l (-1) 17 (HS.out.below HB2.out) hl).mono ?_
      rintro r w3 ⟨rfl, hw⟩
      subst hw
      have HE' : Hid (volOk h e true l = between (-1) 17 l) := HE
      generalize between (-1) 17 l = z at *
      go_wp2
      go_ret
      exact ⟨by rw [HE'.out]; rfl, HB2.out⟩
    · have HN := hid (volOk_no2 h e true l (by omega))
      have hd : ((l.length : Int) == 4) = false := by simpa using h6
      clear hz
      go_wp2
      go_ret
      exact ⟨by rw [HN.out]; rfl, HB2.out⟩

set_option maxRecDepth 100000 in
set_option maxHeartbeats 1000000 in
theorem isVol_false (w : World) (h e : Int) (a : Option Addr) (cap : Nat) (l : List Int) (S : Ints w a l) (hl : l.length ≤ 1048576) :
    Calls Try.prog 32 #[vlV h e false a l.length cap] w fun r w' => r = .returned (.bool (volOk h e false l)) ∧ Below w.heap.size w w' := by
  unfold vlV
  obtain ⟨wa, hwa, ez, A0, B0⟩ := one_new w [.int .i64 h, .int .i64 e, .bool false, .slice a l.length cap] 57
  have k0 := A0.c 0 rfl
  have k1 := A0.c 1 rfl
  have k2 := A0.c 2 rfl
  have k3 := A0.c 3 rfl
  have HA := hid A0
  have HB := hid B0
  have HS := hid S
  clear A0 B0 S
  go_enter Try.func32, Try.ntmps32
  go_wp2_with fail
  refine (isLease h e _).mono ?_
  rintro r w2 ⟨rfl, b2⟩
  replace k3 := (HA.out.below b2 HA.out.lt).c 3 rfl
  have HB2 := hid (HB.out.trans (b2.mono HB.out.size))
  clear b2 hwa k0 k1 k2 HA
  cases hz : lsOk h e with
  | false =>
    have HN := hid (volOk_no1 h e false l hz)
    clear hz
    go_wp2
    go_ret
    exact ⟨by rw [HN.out]; rfl, HB2.out⟩
  | true =>
    by_cases h6 : (l.length : Int) = 4
    · have HE := hid (volOk_more h e false l hz (by omega))
      have hd : ((l.length : Int) == 4) = true := by simpa using h6
      clear hz h6
      go_wp2_with fail
      refine (areFrom w2 a cap l (-1) (-1) (HS.out.below HB2.out) hl).mono ?_
      rintro r w3 ⟨rfl, hw⟩
      subst hw
      have HE' : Hid (volOk h e false l = between (-1) (-1) l) := HE
      generalize between (-1) (-1) l = z at *
      go_wp2
      go_ret
      exact ⟨by rw [HE'.out]; rfl, HB2.out⟩
    · have HN := hid (volOk_no2 h e false l (by omega))
      have hd : ((l.length : Int) == 4) = false := by simpa using h6
      clear hz
      go_wp2
      go_ret
      exact ⟨by rw [HN.out]; rfl, HB2.out⟩

theorem isVol (w : World) (h e : Int) (on : Bool) (a : Option Addr) (cap : Nat) (l : List Int) (S : Ints w a l) (hl : l.length ≤ 1048576) :
    Calls Try.prog 32 #[vlV h e on a l.length cap] w fun r w' => r = .returned (.bool (volOk h e on l)) ∧ Below w.heap.size w w' := by
  cases on
  · exact isVol_false w h e a cap l S hl
  · exact isVol_true w h e a cap l S hl

set_option maxRecDepth 100000 in
set_option maxHeartbeats 1000000 in
theorem toLease (h e : Int) (w : World) : Calls Try.prog 26 #[lsV h e] w fun r w' => r = .returned (.agg #[.int .i64 h, .int .i64 e]) ∧ Below w.heap.size w w' := by
  unfold lsV
  go_enter Try.func26, Try.ntmps26
  go_wp2
  go_returns
  exact ⟨rfl, by go_grown⟩

end Go.Proofs.Yteaiciofcffkgaa.Sec
