/-
  The walks of spec.ShowGroup and impl.ShowGroup: both give a group's text. Condition for impl's: the table of sixteen sums holds what the program's text lays.
-/
import Derived.Test.YtogebppolkfldaaGreatDoorSecRows
namespace Go.Proofs.YtogebppolkfldaaGreatDoor.Sec
open Go.RowKit Go.Proofs.YtogebppolkfldaaGreatDoor.Mem
set_option linter.unusedVariables false

/-- A group's value. -/
def gpV (h e : Int) (a : Option Addr) (n cap : Nat) : Value := .agg #[.int .i64 h, .int .i64 e, .slice a n cap]

theorem groupOk_no1 (h e : Int) (l : List Int) (x : lsOk h e = false) : groupOk h e l = false := by unfold groupOk; rw [x]; rfl
theorem groupOk_no2 (h e : Int) (l : List Int) (x : ¬ l.length = 6) : groupOk h e l = false := by unfold groupOk; rw [decide_eq_false x]; cases lsOk h e <;> rfl
theorem groupOk_more (h e : Int) (l : List Int) (x : lsOk h e = true) (y : l.length = 6) : groupOk h e l = between 0 16 l := by unfold groupOk; rw [x, decide_eq_true y]; rfl
theorem group_no {h e : Int} {l : List Int} (x : groupOk h e l = false) : showGroup h e l = ⟨#[]⟩ := by unfold showGroup; rw [x]; rfl
theorem group_yes {h e : Int} {l : List Int} (x : groupOk h e l = true) : summed (⟨#[103]⟩ ++ showLs h e ++ vrs 0 l) = showGroup h e l := by unfold showGroup; rw [x]; rfl
theorem group_parts {h e : Int} {l : List Int} (x : groupOk h e l = true) : lsOk h e = true ∧ l.length = 6 ∧ between 0 16 l = true := by
  unfold groupOk at x
  rw [Bool.and_eq_true, Bool.and_eq_true] at x
  exact ⟨x.1.1, of_decide_eq_true x.1.2, x.2⟩

theorem group_size (h e : Int) (l : List Int) (x : l.length = 6) : ((⟨#[103]⟩ : ByteArray) ++ showLs h e ++ vrs 0 l).size ≤ 1048576 := by
  have h1 := showLs_size h e
  have h2 := vrs_size 0 l
  rw [ByteArray.size_append, ByteArray.size_append]
  have : (⟨#[103]⟩ : ByteArray).size = 1 := rfl
  omega

set_option maxRecDepth 100000 in
set_option maxHeartbeats 1000000 in
theorem l4GroupOk (w : World) (h e : Int) (a : Option Addr) (cap : Nat) (l : List Int) (S : Ints w a l) (hl : l.length ≤ 1048576) :
    Calls Tryz.prog 84 #[gpV h e a l.length cap] w fun r w' => r = .returned (.bool (groupOk h e l)) ∧ Below w.heap.size w w' := by
  unfold gpV
  obtain ⟨wa, hwa, ez, A0, B0⟩ := one_new w [.int .i64 h, .int .i64 e, .slice a l.length cap] 59
  have k0 := A0.c 0 rfl
  have k1 := A0.c 1 rfl
  have k2 := A0.c 2 rfl
  have HA := hid A0
  have HB := hid B0
  have HS := hid S
  clear A0 B0 S
  go_enter Tryz.func84, Tryz.ntmps84
  go_wp2_with fail
  refine (l4Lease h e _).mono ?_
  rintro r w2 ⟨rfl, b2⟩
  replace k2 := (HA.out.below b2 HA.out.lt).c 2 rfl
  have HB2 := hid (HB.out.trans (b2.mono HB.out.size))
  clear b2 hwa k0 k1 HA
  cases hz : lsOk h e with
  | false =>
    have HN := hid (groupOk_no1 h e l hz)
    clear hz
    go_wp2
    go_ret
    exact ⟨by rw [HN.out]; rfl, HB2.out⟩
  | true =>
    by_cases h6 : (l.length : Int) = 6
    · have HE := hid (groupOk_more h e l hz (by omega))
      have hd : ((l.length : Int) != 6) = false := by simpa using h6
      clear hz h6
      go_wp2
      go_loop [3] (fun i => ∃ k : Nat, k ≤ l.length ∧ i = .int .i64 (k : Int) ∧ Hid (between 0 16 (l.take k) = true)) (fun i => l.length - (intOf i).toNat)
      case atStart => exact ⟨0, Nat.zero_le _, rfl, rfl⟩
      case round =>
        obtain ⟨k, hk, rfl, HK⟩ := hrel
        by_cases hlt : k < l.length
        · obtain ⟨b, off, rfl, hc⟩ := (HS.out.below HB2.out) k hlt
          replace hc : w2.cell? ⟨b, off + k, none⟩ = some (.int .i64 (l.getD k 0)) := hc
          have HT := hid (between_take 0 16 l k hlt)
          have HN := hid (between_no 0 16 l k hlt)
          generalize l.getD k 0 = x at *
          by_cases hx : 0 ≤ x ∧ x ≤ 16
          · have hx' := decide_eq_true hx
            have HR : Hid (between 0 16 (l.take (k + 1)) = true) := by rw [Hid, HT.out, HK.out, hx']; rfl
            clear hx
            go_wp2_with fail
            refine (hx' ▸ l1In x 0 16 _).mono ?_
            rintro r w3 ⟨rfl, hw⟩
            subst hw
            go_wp2
            exact ⟨⟨k + 1, by omega, by go_num, HR⟩, by simp [intOf]; omega⟩
          · have hx' := decide_eq_false hx
            have HR := hid (HN.out hx)
            clear hx
            go_wp2_with fail
            refine (hx' ▸ l1In x 0 16 _).mono ?_
            rintro r w3 ⟨rfl, hw⟩
            subst hw
            go_wp2
            go_ret
            exact ⟨by rw [HE.out, HR.out]; rfl, HB2.out⟩
        · obtain rfl : k = l.length := by omega
          have HR : Hid (between 0 16 l = true) := by have := HK.out; rwa [List.take_length] at this
          go_wp2
          go_ret
          exact ⟨by rw [HE.out, HR.out]; rfl, HB2.out⟩
    · have HN := hid (groupOk_no2 h e l (by omega))
      clear hz
      go_wp2
      go_ret
      exact ⟨by rw [HN.out]; rfl, HB2.out⟩

set_option maxRecDepth 100000 in
set_option maxHeartbeats 1000000 in
theorem isGroup (w : World) (h e : Int) (a : Option Addr) (cap : Nat) (l : List Int) (S : Ints w a l) (hl : l.length ≤ 1048576) :
    Calls Tryz.prog 135 #[gpV h e a l.length cap] w fun r w' => r = .returned (.bool (groupOk h e l)) ∧ Below w.heap.size w w' := by
  unfold gpV
  obtain ⟨wa, hwa, ez, A0, B0⟩ := one_new w [.int .i64 h, .int .i64 e, .slice a l.length cap] 59
  have k0 := A0.c 0 rfl
  have k1 := A0.c 1 rfl
  have k2 := A0.c 2 rfl
  have HA := hid A0
  have HB := hid B0
  have HS := hid S
  clear A0 B0 S
  go_enter Tryz.func135, Tryz.ntmps135
  go_wp2_with fail
  refine (isLease h e _).mono ?_
  rintro r w2 ⟨rfl, b2⟩
  replace k2 := (HA.out.below b2 HA.out.lt).c 2 rfl
  have HB2 := hid (HB.out.trans (b2.mono HB.out.size))
  clear b2 hwa k0 k1 HA
  cases hz : lsOk h e with
  | false =>
    have HN := hid (groupOk_no1 h e l hz)
    clear hz
    go_wp2
    go_ret
    exact ⟨by rw [HN.out]; rfl, HB2.out⟩
  | true =>
    by_cases h6 : (l.length : Int) = 6
    · have HE := hid (groupOk_more h e l hz (by omega))
      have hd : ((l.length : Int) == 6) = true := by simpa using h6
      clear hz h6
      go_wp2_with fail
      refine (areFrom w2 a cap l 0 16 (HS.out.below HB2.out) hl).mono ?_
      rintro r w3 ⟨rfl, hw⟩
      subst hw
      generalize between 0 16 l = z at *
      go_wp2
      go_ret
      exact ⟨by rw [HE.out]; rfl, HB2.out⟩
    · have HN := hid (groupOk_no2 h e l (by omega))
      have hd : ((l.length : Int) == 6) = false := by simpa using h6
      clear hz
      go_wp2
      go_ret
      exact ⟨by rw [HN.out]; rfl, HB2.out⟩

set_option maxRecDepth 100000 in
set_option maxHeartbeats 1000000 in
theorem sShowGroup (w : World) (h e : Int) (a : Option Addr) (cap : Nat) (l : List Int) (S : Ints w a l) (hl : l.length ≤ 1048576) :
    Calls Tryz.prog 47 #[gpV h e a l.length cap] w fun r w' => r = .returned (.string (showGroup h e l)) ∧ Below w.heap.size w w' := by
  unfold gpV
  obtain ⟨wa, hwa, ez, A0, B0⟩ := one_new w [.int .i64 h, .int .i64 e, .slice a l.length cap] 59
  have k0 := A0.c 0 rfl
  have k1 := A0.c 1 rfl
  have k2 := A0.c 2 rfl
  have HA := hid A0
  have HB := hid B0
  have HS := hid S
  clear A0 B0 S
  go_enter Tryz.func47, Tryz.ntmps47
  go_wp2_with fail
  refine (l4GroupOk wa h e a cap l (HS.out.below HB.out) hl).mono ?_
  rintro r w2 ⟨rfl, b2⟩
  have HA2 := hid (HA.out.below b2 HA.out.lt)
  replace k0 := HA2.out.c 0 rfl
  replace k1 := HA2.out.c 1 rfl
  replace k2 := HA2.out.c 2 rfl
  have HB2 := hid (HB.out.trans (b2.mono HB.out.size))
  clear b2 hwa HA
  cases hf : groupOk h e l with
  | false =>
    have HN := hid (group_no hf)
    clear hf
    go_wp2
    go_ret
    exact ⟨Own.ret_str HN.out.symm, HB2.out⟩
  | true =>
    have HY := hid (group_yes hf)
    obtain ⟨p1, p2, p3⟩ := group_parts hf
    have HZ := hid (group_size h e l p2)
    have HV := hid (fun k => vrs_size 0 (l.take k))
    have hbd := ls_bd p1
    have z1 := showLs_size h e
    have h12 : l.length ≤ 12 := by omega
    clear hf p1 p2 p3
    go_wp2_with fail
    refine (l4ShowLease h e _ hbd.1 hbd.2).mono ?_
    rintro r w3 ⟨rfl, b3⟩
    have HA3 := hid (HA2.out.below b3 HA2.out.lt)
    have HB3 := hid (HB2.out.trans (b3.mono HB2.out.size))
    clear b3 k0 k1 k2 HA2
    generalize hp : (⟨#[103]⟩ : ByteArray) ++ showLs h e = p at *
    have zp : p.size ≤ 15 := by rw [← hp, ByteArray.size_append]; have : (⟨#[103]⟩ : ByteArray).size = 1 := rfl; omega
    go_wp2
    clear hp
    go_loopw [3, 4] (fun s i wr => ∃ k : Nat, k ≤ l.length ∧ i = .int .i64 (k : Int) ∧ s = .string (p ++ vrs 0 (l.take k)) ∧ Hid (Below w3.heap.size w3 wr)) (fun _ i _ => l.length - (intOf i).toNat)
    case atStart => exact ⟨0, Nat.zero_le _, rfl, by rw [show vrs 0 (l.take 0) = ⟨#[]⟩ from rfl, append_empty], Below.refl _ _⟩
    case round =>
      obtain ⟨k, hk, rfl, rfl, HB'⟩ := hrel
      have k2 := (HA3.out.below HB'.out HA3.out.lt).c 2 rfl
      have HBr := hid (HB3.out.trans (HB'.out.mono HB3.out.size))
      by_cases hlt : k < l.length
      · obtain ⟨b, off, rfl, hc⟩ := (HS.out.below HBr.out) k hlt
        replace hc : wr.cell? ⟨b, off + k, none⟩ = some (.int .i64 (l.getD k 0)) := hc
        have HT := hid (vrs_take 0 l k hlt)
        have hz := HV.out k
        have hzl : (l.take k).length ≤ k := List.length_take_le _ _
        generalize l.getD k 0 = x at *
        generalize vrs 0 (l.take k) = s at *
        have hps : (p ++ s).size ≤ 1000 := by rw [ByteArray.size_append]; omega
        have HAs := hid (append_assoc p s (vr (x - 0)))
        generalize p ++ s = q at *
        go_wp2_with fail
        refine (sVar x _).mono ?_
        rintro r w4 ⟨rfl, b4⟩
        have zx := vr_size x
        have HB4 := hid (HB'.out.trans (b4.mono HB'.out.size))
        clear b4 hc k2
        go_wp2
        exact ⟨⟨k + 1, by omega, by go_num, by rw [HT.out, ← HAs.out, Int.sub_zero], HB4⟩, by simp [intOf]; omega⟩
      · obtain rfl : k = l.length := by omega
        have HE : Hid (vrs 0 (l.take l.length) = vrs 0 l) := by rw [Hid, List.take_length]
        rw [HE.out]
        generalize p ++ vrs 0 l = q at *
        go_wp2_with fail
        refine (l4Sum q _ HZ.out).mono ?_
        rintro r w4 ⟨rfl, b4⟩
        have HB4 := hid (HBr.out.trans (b4.mono HBr.out.size))
        clear b4 k2
        go_wp2
        go_ret
        exact ⟨Own.ret_str HY.out, HB4.out⟩

set_option maxRecDepth 100000 in
set_option maxHeartbeats 1000000 in
theorem iShowGroup (w : World) (h e : Int) (a : Option Addr) (cap : Nat) (l : List Int) (S : Ints w a l) (hl : l.length ≤ 1048576) (T : Sums w) :
    Calls Tryz.prog 102 #[gpV h e a l.length cap] w fun r w' => r = .returned (.string (showGroup h e l)) ∧ Below w.heap.size w w' := by
  unfold gpV
  obtain ⟨wa, hwa, ez, A0, B0⟩ := one_new w [.int .i64 h, .int .i64 e, .slice a l.length cap] 59
  have k0 := A0.c 0 rfl
  have k1 := A0.c 1 rfl
  have k2 := A0.c 2 rfl
  have HA := hid A0
  have HB := hid B0
  have HS := hid S
  have HT := hid T
  clear A0 B0 S T
  go_enter Tryz.func102, Tryz.ntmps102
  go_wp2_with fail
  refine (isGroup wa h e a cap l (HS.out.below HB.out) hl).mono ?_
  rintro r w2 ⟨rfl, b2⟩
  have HA2 := hid (HA.out.below b2 HA.out.lt)
  replace k0 := HA2.out.c 0 rfl
  replace k1 := HA2.out.c 1 rfl
  replace k2 := HA2.out.c 2 rfl
  have HB2 := hid (HB.out.trans (b2.mono HB.out.size))
  have HT2 := hid (HT.out.below HB2.out)
  clear b2 hwa HA
  cases hf : groupOk h e l with
  | false =>
    have HN := hid (group_no hf)
    clear hf
    go_wp2
    go_ret
    exact ⟨Own.ret_str HN.out.symm, HB2.out⟩
  | true =>
    have HY := hid (group_yes hf)
    obtain ⟨p1, p2, p3⟩ := group_parts hf
    have HZ := hid (group_size h e l p2)
    have hbd := ls_bd p1
    have z1 := showLs_size h e
    have z2 := vrs_size 0 l
    have h12 : l.length ≤ 12 := by omega
    have HP := hid (between_getD p3)
    clear hf p1 p2 p3
    go_wp2
    replace k0 := BW.cell k0
    replace k1 := BW.cell k1
    replace k2 := BW.cell k2
    have hne : Nonempty (BW w2) := ⟨⟨w2, Below.refl _ _⟩⟩
    refine wp_region_bw (by kernel_rfl) (by kernel_rfl) ?_
    repeat (go_big_quiet_step (first
      | (go_at_call 133; refine bw_below (showNumbers _ a cap l 0 (HS.out.below (HB2.out.trans ((BW.bel _).mono HB2.out.size))) (by omega) (by decide) (fun k hk => by have := HP.out k hk; omega)))
      | (go_at_call 131; refine bw_below (showLease h e _ hbd.1 hbd.2))
      | (go_at_call 130; refine bw_below (withSum' _ _ HZ.out (HT2.out.below (BW.bel _))))))
    refine wpQuiet_nil ?_
    intro _ hw'
    obtain ⟨u, rfl⟩ := hw'
    have HU := hid (HB2.out.trans (u.bel.mono HB2.out.size))
    clear k0 k1 k2
    go_wp2
    go_ret
    exact ⟨Own.ret_str HY.out, HU.out⟩

end Go.Proofs.YtogebppolkfldaaGreatDoor.Sec
