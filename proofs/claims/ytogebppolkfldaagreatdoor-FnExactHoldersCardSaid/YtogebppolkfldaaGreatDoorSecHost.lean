/-
  The walks of spec.ShowHost and impl.ShowHost: both give a host's text. Condition for impl's: the table of sixteen sums holds what the program's text lays.
-/
import Derived.Test.YtogebppolkfldaaGreatDoorSecLease2
namespace Go.Proofs.YtogebppolkfldaaGreatDoor.Sec
open Go.RowKit Go.Proofs.YtogebppolkfldaaGreatDoor.Mem
set_option linter.unusedVariables false

/-- A host's value. -/
def hsV (b h e : Int) : Value := .agg #[.int .i64 b, .int .i64 h, .int .i64 e]

theorem host_no1 (b h e : Int) (x : ¬ (0 ≤ b ∧ b ≤ 1000000)) : showHost b h e = ⟨#[]⟩ := by
  unfold showHost hostOk; rw [decide_eq_false x]; rfl
theorem host_no2 (b h e : Int) (x : lsOk h e = false) : showHost b h e = ⟨#[]⟩ := by
  unfold showHost hostOk; rw [x, Bool.and_false]; rfl
theorem host_yes (b h e : Int) (x : 0 ≤ b ∧ b ≤ 1000000) (y : lsOk h e = true) : summed (⟨#[104]⟩ ++ vr b ++ showLs h e) = showHost b h e := by
  unfold showHost hostOk; rw [decide_eq_true x, y]; rfl

theorem host_size (b h e : Int) : ((⟨#[104]⟩ : ByteArray) ++ vr b ++ showLs h e).size ≤ 1048576 := by
  have h1 := vr_size b
  have h2 := showLs_size h e
  rw [ByteArray.size_append, ByteArray.size_append]
  have : (⟨#[104]⟩ : ByteArray).size = 1 := rfl
  omega

set_option maxRecDepth 100000 in
set_option maxHeartbeats 1000000 in
theorem sShowHost (b h e : Int) (w : World) :
    Calls Tryz.prog 107 #[hsV b h e] w fun r w' => r = .returned (.string (showHost b h e)) ∧ Below w.heap.size w w' := by
  unfold hsV
  obtain ⟨wa, hwa, ez, A0, B0⟩ := one_new w [.int .i64 b, .int .i64 h, .int .i64 e] 140
  have k0 := A0.c 0 rfl
  have k1 := A0.c 1 rfl
  have k2 := A0.c 2 rfl
  have HA := hid A0
  have HB := hid B0
  clear A0 B0
  by_cases h1 : 0 ≤ b ∧ b ≤ 1000000
  · have h1' := decide_eq_true h1
    have HH := hid h1
    clear h1
    go_enter Tryz.func107, Tryz.ntmps107
    go_wp2_with fail
    refine (h1' ▸ l1In b 0 1000000 _).mono ?_
    rintro r w1 ⟨rfl, hw⟩
    subst hw
    go_wp2_with fail
    refine (l4Lease h e _).mono ?_
    rintro r w2 ⟨rfl, b2⟩
    replace k0 := (HA.out.below b2 HA.out.lt).c 0 rfl
    replace k1 := (HA.out.below b2 HA.out.lt).c 1 rfl
    replace k2 := (HA.out.below b2 HA.out.lt).c 2 rfl
    have HB2 := hid (HB.out.trans (b2.mono HB.out.size))
    clear b2 hwa
    cases hl : lsOk h e with
    | false =>
      have HN := hid (host_no2 b h e hl)
      go_wp2
      go_ret
      exact ⟨Own.ret_str HN.out.symm, HB2.out⟩
    | true =>
      have HY := hid (host_yes b h e HH.out hl)
      have hbd := ls_bd hl
      have z1 := vr_size b
      have z2 := showLs_size h e
      have HZ := hid (host_size b h e)
      clear hl
      go_wp2
      replace k0 := BW.cell k0
      replace k1 := BW.cell k1
      replace k2 := BW.cell k2
      have hne : Nonempty (BW w2) := ⟨⟨w2, Below.refl _ _⟩⟩
      refine wp_region_bw (by kernel_rfl) (by kernel_rfl) ?_
      repeat (go_big_quiet_step (first
        | (go_at_call 82; refine bw_below (sVar _ _))
        | (go_at_call 80; refine bw_below (l4ShowLease h e _ hbd.1 hbd.2))
        | (go_at_call 83; refine bw_below (l4Sum _ _ HZ.out))))
      refine wpQuiet_nil ?_
      intro _ hw'
      obtain ⟨u, rfl⟩ := hw'
      have HU := hid (HB2.out.trans (u.bel.mono HB2.out.size))
      clear k0 k1 k2
      go_wp2
      go_ret
      exact ⟨Own.ret_str HY.out, HU.out⟩
  · have h1' := decide_eq_false h1
    have HN := hid (host_no1 b h e h1)
    clear h1
    go_enter Tryz.func107, Tryz.ntmps107
    go_wp2_with fail
    refine (h1' ▸ l1In b 0 1000000 _).mono ?_
    rintro r w1 ⟨rfl, hw⟩
    subst hw
    go_wp2
    go_ret
    exact ⟨Own.ret_str HN.out.symm, HB.out⟩

end Go.Proofs.YtogebppolkfldaaGreatDoor.Sec
