/-
  The walks of impl.ShowHost and of laws.FnExactShowHost: the law answers true, and nothing that was there is changed. Condition: the table of sixteen sums holds what the program's text lays.
-/
import Derived.Test.YtogebppolkfldaaGreatDoorSecHost
namespace Go.Proofs.YtogebppolkfldaaGreatDoor.Sec
open Go.RowKit Go.Proofs.YtogebppolkfldaaGreatDoor.Mem
set_option linter.unusedVariables false

/-- What impl's sums want of a world. -/
structure Sums (w : World) : Prop where
  tab : Crc.Tab w
  lt : 2 < w.heap.size

theorem Sums.below {w w' : World} (h : Sums w) (b : Below w.heap.size w w') : Sums w' :=
  ⟨fun k hk => by rw [b.cell (p := ⟨2, k, none⟩) h.lt]; exact h.tab k hk, Nat.lt_of_lt_of_le h.lt b.size⟩

theorem withSum' (s : ByteArray) (w : World) (hs : s.size ≤ 1048576) (T : Sums w) :
    Calls Tryz.prog 130 #[.string s] w fun e w' => e = .returned (.string (summed s)) ∧ Below w.heap.size w w' := withSum s w hs T.tab T.lt

set_option maxRecDepth 100000 in
set_option maxHeartbeats 1000000 in
theorem isHostSec (b h e : Int) (w : World) :
    Calls Tryz.prog 165 #[hsV b h e] w fun r w' => r = .returned (.bool (hostOk b h e)) ∧ Below w.heap.size w w' := by
  unfold hsV
  obtain ⟨wa, hwa, ez, A0, B0⟩ := one_new w [.int .i64 b, .int .i64 h, .int .i64 e] 140
  have k0 := A0.c 0 rfl
  have k1 := A0.c 1 rfl
  have k2 := A0.c 2 rfl
  have HB := hid B0
  clear A0 B0
  by_cases h1 : 0 ≤ b ∧ b ≤ 1000000
  · have h1' := decide_eq_true h1
    have HN : Hid (hostOk b h e = lsOk h e) := by unfold hostOk; rw [h1']; rfl
    clear h1
    go_enter Tryz.func165, Tryz.ntmps165
    go_wp2_with fail
    refine (h1' ▸ isFrom b 0 1000000 _).mono ?_
    rintro r w1 ⟨rfl, hw⟩
    subst hw
    go_wp2_with fail
    refine (isLease h e _).mono ?_
    rintro r w2 ⟨rfl, b2⟩
    have HB2 := hid (HB.out.trans (b2.mono HB.out.size))
    clear b2 hwa k0 k1 k2
    generalize lsOk h e = z at *
    go_wp2
    go_ret
    exact ⟨by rw [HN.out]; rfl, HB2.out⟩
  · have h1' := decide_eq_false h1
    have HN : Hid (hostOk b h e = false) := by unfold hostOk; rw [h1']; rfl
    clear h1
    go_enter Tryz.func165, Tryz.ntmps165
    go_wp2_with fail
    refine (h1' ▸ isFrom b 0 1000000 _).mono ?_
    rintro r w1 ⟨rfl, hw⟩
    subst hw
    go_wp2
    go_ret
    exact ⟨by rw [HN.out]; rfl, HB.out⟩

theorem hostOk_yes {b h e : Int} (x : hostOk b h e = true) : (0 ≤ b ∧ b ≤ 1000000) ∧ lsOk h e = true := by
  unfold hostOk at x
  rw [Bool.and_eq_true] at x
  exact ⟨of_decide_eq_true x.1, x.2⟩
theorem host_no {b h e : Int} (x : hostOk b h e = false) : showHost b h e = ⟨#[]⟩ := by
  unfold showHost; rw [x]; rfl

set_option maxRecDepth 100000 in
set_option maxHeartbeats 1000000 in
theorem iShowHost (b h e : Int) (w : World) (T : Sums w) :
    Calls Tryz.prog 145 #[hsV b h e] w fun r w' => r = .returned (.string (showHost b h e)) ∧ Below w.heap.size w w' := by
  unfold hsV
  obtain ⟨wa, hwa, ez, A0, B0⟩ := one_new w [.int .i64 b, .int .i64 h, .int .i64 e] 140
  have k0 := A0.c 0 rfl
  have k1 := A0.c 1 rfl
  have k2 := A0.c 2 rfl
  have HA := hid A0
  have HB := hid B0
  have HT := hid T
  clear A0 B0 T
  go_enter Tryz.func145, Tryz.ntmps145
  go_wp2_with fail
  refine (isHostSec b h e _).mono ?_
  rintro r w2 ⟨rfl, b2⟩
  replace k0 := (HA.out.below b2 HA.out.lt).c 0 rfl
  replace k1 := (HA.out.below b2 HA.out.lt).c 1 rfl
  replace k2 := (HA.out.below b2 HA.out.lt).c 2 rfl
  have HB2 := hid (HB.out.trans (b2.mono HB.out.size))
  have HT2 := hid (HT.out.below HB2.out)
  clear b2 hwa
  cases hl : hostOk b h e with
  | false =>
    have HN := hid (host_no hl)
    clear hl
    go_wp2
    go_ret
    exact ⟨Own.ret_str HN.out.symm, HB2.out⟩
  | true =>
    have HY := hid (host_yes b h e (hostOk_yes hl).1 (hostOk_yes hl).2)
    have hbd := ls_bd (hostOk_yes hl).2
    have z1 := vr_size b
    have z2 := showLs_size h e
    have HZ := hid (host_size b h e)
    clear hl
    go_wp2
    replace k0 := BW.cell k0
    replace k1 := BW.cell k1
    replace k2 := BW.cell k2
    have hne : Nonempty (BW w2) := ⟨⟨w2, Below.refl _ _⟩⟩
    refine wp_region_bw (by kernel_rfl) (by kernel_rfl) ?_
    repeat (go_big_quiet_step (first
      | (go_at_call 159; refine bw_below (iVar _ _))
      | (go_at_call 131; refine bw_below (showLease h e _ hbd.1 hbd.2))
      | (go_at_call 130; refine bw_below (withSum' _ _ HZ.out (HT2.out.below (BW.bel _))))))
    refine wpQuiet_nil ?_
    intro _ hw'
    obtain ⟨u, rfl⟩ := hw'
    have HU := hid (HB2.out.trans (u.bel.mono HB2.out.size))
    clear k0 k1 k2
    go_wp2
    go_ret
    exact ⟨Own.ret_str HY.out, HU.out⟩

end Go.Proofs.YtogebppolkfldaaGreatDoor.Sec
