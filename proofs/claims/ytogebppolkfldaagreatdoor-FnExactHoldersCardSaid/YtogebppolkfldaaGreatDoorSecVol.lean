/-
  The walks of spec.ShowVol and impl.ShowVol: both give a volume's text. Condition for impl's: the table of sixteen sums holds what the program's text lays.
-/
import Derived.Test.YtogebppolkfldaaGreatDoorSecRows
namespace Go.Proofs.YtogebppolkfldaaGreatDoor.Sec
open Go.RowKit Go.Proofs.YtogebppolkfldaaGreatDoor.Mem
set_option linter.unusedVariables false

/-- A volume's value. -/
def vlV (h e : Int) (on : Bool) (a : Option Addr) (n cap : Nat) : Value := .agg #[.int .i64 h, .int .i64 e, .bool on, .slice a n cap]

/-- The highest number in a map. -/
def top (on : Bool) : Int := if on then 17 else -1

theorem volOk_no1 (h e : Int) (on : Bool) (l : List Int) (x : lsOk h e = false) : volOk h e on l = false := by unfold volOk; rw [x]; rfl
theorem volOk_no2 (h e : Int) (on : Bool) (l : List Int) (x : ¬ l.length = 4) : volOk h e on l = false := by unfold volOk; rw [decide_eq_false x]; cases lsOk h e <;> rfl
theorem volOk_more (h e : Int) (on : Bool) (l : List Int) (x : lsOk h e = true) (y : l.length = 4) : volOk h e on l = between (-1) (top on) l := by unfold volOk; rw [x, decide_eq_true y]; rfl
theorem vol_no {h e : Int} {on : Bool} {l : List Int} (x : volOk h e on l = false) : showVol h e on l = ⟨#[]⟩ := by unfold showVol; rw [x]; rfl
theorem vol_yes {h e : Int} {on : Bool} {l : List Int} (x : volOk h e on l = true) : summed (⟨#[118]⟩ ++ showLs h e ++ flag on ++ vrs (-1) l) = showVol h e on l := by unfold showVol; rw [x]; rfl
theorem vol_parts {h e : Int} {on : Bool} {l : List Int} (x : volOk h e on l = true) : lsOk h e = true ∧ l.length = 4 ∧ between (-1) (top on) l = true := by
  unfold volOk at x
  rw [Bool.and_eq_true, Bool.and_eq_true] at x
  exact ⟨x.1.1, of_decide_eq_true x.1.2, x.2⟩
theorem top_bd (on : Bool) : -1 ≤ top on ∧ top on ≤ 17 := by cases on <;> decide

theorem flag_size (on : Bool) : (flag on).size ≤ 7 := vr_size _

theorem vol_size (h e : Int) (on : Bool) (l : List Int) (x : l.length = 4) : ((⟨#[118]⟩ : ByteArray) ++ showLs h e ++ flag on ++ vrs (-1) l).size ≤ 1048576 := by
  have h1 := showLs_size h e
  have h2 := vrs_size (-1) l
  have h3 := flag_size on
  rw [ByteArray.size_append, ByteArray.size_append, ByteArray.size_append]
  have : (⟨#[118]⟩ : ByteArray).size = 1 := rfl
  omega

set_option maxRecDepth 100000 in
set_option maxHeartbeats 1000000 in
theorem l4VolOk (w : World) (h e : Int) (on : Bool) (a : Option Addr) (cap : Nat) (l : List Int) (S : Ints w a l) (hl : l.length ≤ 1048576) :
    Calls Tryz.prog 79 #[vlV h e on a l.length cap] w fun r w' => r = .returned (.bool (volOk h e on l)) ∧ Below w.heap.size w w' := by
  unfold vlV
  obtain ⟨wa, hwa, ez, A0, B0⟩ := one_new w [.int .i64 h, .int .i64 e, .bool on, .slice a l.length cap] 55
  have k0 := A0.c 0 rfl
  have k1 := A0.c 1 rfl
  have k2 := A0.c 2 rfl
  have k3 := A0.c 3 rfl
  have HA := hid A0
  have HB := hid B0
  have HS := hid S
  clear A0 B0 S
  go_enter Tryz.func79, Tryz.ntmps79
  go_wp2_with fail
  refine (l4Lease h e _).mono ?_
  rintro r w2 ⟨rfl, b2⟩
  replace k2 := (HA.out.below b2 HA.out.lt).c 2 rfl
  replace k3 := (HA.out.below b2 HA.out.lt).c 3 rfl
  have HB2 := hid (HB.out.trans (b2.mono HB.out.size))
  clear b2 hwa k0 k1 HA
  cases hz : lsOk h e with
  | false =>
    have HN := hid (volOk_no1 h e on l hz)
    clear hz
    go_wp2
    go_ret
    exact ⟨by rw [HN.out]; rfl, HB2.out⟩
  | true =>
    by_cases h6 : (l.length : Int) = 4
    · have HE := hid (volOk_more h e on l hz (by omega))
      have hd : ((l.length : Int) != 4) = false := by simpa using h6
      clear hz h6
      go_wp2
      go_loop [3] (fun i => ∃ k : Nat, k ≤ l.length ∧ i = .int .i64 (k : Int) ∧ Hid (between (-1) (top on) (l.take k) = true)) (fun i => l.length - (intOf i).toNat)
      case atStart => exact ⟨0, Nat.zero_le _, rfl, rfl⟩
      case round =>
        obtain ⟨k, hk, rfl, HK⟩ := hrel
        by_cases hlt : k < l.length
        · obtain ⟨b, off, rfl, hc⟩ := (HS.out.below HB2.out) k hlt
          replace hc : w2.cell? ⟨b, off + k, none⟩ = some (.int .i64 (l.getD k 0)) := hc
          have HT := hid (between_take (-1) (top on) l k hlt)
          have HN := hid (between_no (-1) (top on) l k hlt)
          generalize l.getD k 0 = x at *
          by_cases hx : x = -1
          · have HR : Hid (between (-1) (top on) (l.take (k + 1)) = true) := by
              have := top_bd on
              rw [Hid, HT.out, HK.out, decide_eq_true (show -1 ≤ x ∧ x ≤ top on by omega)]; rfl
            have hxb : (x != -1) = false := by simpa using hx
            clear hx
            go_wp2
            exact ⟨⟨k + 1, by omega, by go_num, HR⟩, by simp [intOf]; omega⟩
          have hxb : (x != -1) = true := by simpa using hx
          cases on with
          | false =>
            have HR := hid (HN.out (show ¬ (-1 ≤ x ∧ x ≤ -1) by omega))
            clear hx
            go_wp2
            go_ret
            exact ⟨by rw [HE.out, HR.out]; rfl, HB2.out⟩
          | true =>
            by_cases hy : 0 ≤ x ∧ x ≤ 17
            · have hy' := decide_eq_true hy
              have HR : Hid (between (-1) (top true) (l.take (k + 1)) = true) := by rw [Hid, HT.out, HK.out, decide_eq_true (show -1 ≤ x ∧ x ≤ top true from ⟨by omega, hy.2⟩)]; rfl
              clear hx hy
              go_wp2_with fail
              refine (hy' ▸ l4Block x _).mono ?_
              rintro r w3 ⟨rfl, hw⟩
              subst hw
              go_wp2
              exact ⟨⟨k + 1, by omega, by go_num, HR⟩, by simp [intOf]; omega⟩
            · have hy' := decide_eq_false hy
              have HR := hid (HN.out (show ¬ (-1 ≤ x ∧ x ≤ 17) by omega))
              clear hx hy
              go_wp2_with fail
              refine (hy' ▸ l4Block x _).mono ?_
              rintro r w3 ⟨rfl, hw⟩
              subst hw
              go_wp2
              go_ret
              exact ⟨by rw [HE.out, HR.out]; rfl, HB2.out⟩
        · obtain rfl : k = l.length := by omega
          have HR : Hid (between (-1) (top on) l = true) := by have := HK.out; rwa [List.take_length] at this
          go_wp2
          go_ret
          exact ⟨by rw [HE.out, HR.out]; rfl, HB2.out⟩
    · have HN := hid (volOk_no2 h e on l (by omega))
      clear hz
      go_wp2
      go_ret
      exact ⟨by rw [HN.out]; rfl, HB2.out⟩

set_option maxRecDepth 100000 in
set_option maxHeartbeats 1000000 in
theorem isVol_true (w : World) (h e : Int) (a : Option Addr) (cap : Nat) (l : List Int) (S : Ints w a l) (hl : l.length ≤ 1048576) :
    Calls Tryz.prog 129 #[vlV h e true a l.length cap] w fun r w' => r = .returned (.bool (volOk h e true l)) ∧ Below w.heap.size w w' := by
  unfold vlV
  obtain ⟨wa, hwa, ez, A0, B0⟩ := one_new w [.int .i64 h, .int .i64 e, .bool true, .slice a l.length cap] 55
  have k0 := A0.c 0 rfl
  have k1 := A0.c 1 rfl
  have k2 := A0.c 2 rfl
  have k3 := A0.c 3 rfl
  have HA := hid A0
  have HB := hid B0
  have HS := hid S
  clear A0 B0 S
  go_enter Tryz.func129, Tryz.ntmps129
  go_wp2_with fail
  refine (isLease h e _).mono ?_
  rintro r w2 ⟨rfl, b2⟩
  replace k3 := (HA.out.below b2 HA.out.lt).c 3 rfl
  have HB2 := hid (HB.out.trans (b2.mono HB.out.size))
  clear b2 hwa k0 k1 k2 HA
  cases hz : lsOk h e with
  | false =>
    have HN := hid (volOk_no1 h e true l hz)
    clear hz
    go_wp2
    go_ret
    exact ⟨by rw [HN.out]; rfl, HB2.out⟩
  | true =>
    by_cases h6 : (l.length : Int) = 4
    · have HE := hid (volOk_more h e true l hz (by omega))
      have hd : ((l.length : Int) == 4) = true := by simpa using h6
      clear hz h6
      go_wp2_with fail
      refine (areFrom w2 a cap l (-1) 17 (HS.out.below HB2.out) hl).mono ?_
      rintro r w3 ⟨rfl, hw⟩
      subst hw
      have HE' : Hid (volOk h e true l = between (-1) 17 l) := HE
      generalize between (-1) 17 l = z at *
      go_wp2
      go_ret
      exact ⟨by rw [HE'.out]; rfl, HB2.out⟩
    · have HN := hid (volOk_no2 h e true l (by omega))
      have hd : ((l.length : Int) == 4) = false := by simpa using h6
      clear hz
      go_wp2
      go_ret
      exact ⟨by rw [HN.out]; rfl, HB2.out⟩

set_option maxRecDepth 100000 in
set_option maxHeartbeats 1000000 in
theorem isVol_false (w : World) (h e : Int) (a : Option Addr) (cap : Nat) (l : List Int) (S : Ints w a l) (hl : l.length ≤ 1048576) :
    Calls Tryz.prog 129 #[vlV h e false a l.length cap] w fun r w' => r = .returned (.bool (volOk h e false l)) ∧ Below w.heap.size w w' := by
  unfold vlV
  obtain ⟨wa, hwa, ez, A0, B0⟩ := one_new w [.int .i64 h, .int .i64 e, .bool false, .slice a l.length cap] 55
  have k0 := A0.c 0 rfl
  have k1 := A0.c 1 rfl
  have k2 := A0.c 2 rfl
  have k3 := A0.c 3 rfl
  have HA := hid A0
  have HB := hid B0
  have HS := hid S
  clear A0 B0 S
  go_enter Tryz.func129, Tryz.ntmps129
  go_wp2_with fail
  refine (isLease h e _).mono ?_
  rintro r w2 ⟨rfl, b2⟩
  replace k3 := (HA.out.below b2 HA.out.lt).c 3 rfl
  have HB2 := hid (HB.out.trans (b2.mono HB.out.size))
  clear b2 hwa k0 k1 k2 HA
  cases hz : lsOk h e with
  | false =>
    have HN := hid (volOk_no1 h e false l hz)
    clear hz
    go_wp2
    go_ret
    exact ⟨by rw [HN.out]; rfl, HB2.out⟩
  | true =>
    by_cases h6 : (l.length : Int) = 4
    · have HE := hid (volOk_more h e false l hz (by omega))
      have hd : ((l.length : Int) == 4) = true := by simpa using h6
      clear hz h6
      go_wp2_with fail
      refine (areFrom w2 a cap l (-1) (-1) (HS.out.below HB2.out) hl).mono ?_
      rintro r w3 ⟨rfl, hw⟩
      subst hw
      have HE' : Hid (volOk h e false l = between (-1) (-1) l) := HE
      generalize between (-1) (-1) l = z at *
      go_wp2
      go_ret
      exact ⟨by rw [HE'.out]; rfl, HB2.out⟩
    · have HN := hid (volOk_no2 h e false l (by omega))
      have hd : ((l.length : Int) == 4) = false := by simpa using h6
      clear hz
      go_wp2
      go_ret
      exact ⟨by rw [HN.out]; rfl, HB2.out⟩

theorem isVol (w : World) (h e : Int) (on : Bool) (a : Option Addr) (cap : Nat) (l : List Int) (S : Ints w a l) (hl : l.length ≤ 1048576) :
    Calls Tryz.prog 129 #[vlV h e on a l.length cap] w fun r w' => r = .returned (.bool (volOk h e on l)) ∧ Below w.heap.size w w' := by
  cases on
  · exact isVol_false w h e a cap l S hl
  · exact isVol_true w h e a cap l S hl

set_option maxRecDepth 100000 in
set_option maxHeartbeats 1000000 in
theorem sShowVol (w : World) (h e : Int) (on : Bool) (a : Option Addr) (cap : Nat) (l : List Int) (S : Ints w a l) (hl : l.length ≤ 1048576) :
    Calls Tryz.prog 46 #[vlV h e on a l.length cap] w fun r w' => r = .returned (.string (showVol h e on l)) ∧ Below w.heap.size w w' := by
  unfold vlV
  obtain ⟨wa, hwa, ez, A0, B0⟩ := one_new w [.int .i64 h, .int .i64 e, .bool on, .slice a l.length cap] 55
  have k0 := A0.c 0 rfl
  have k1 := A0.c 1 rfl
  have k2 := A0.c 2 rfl
  have k3 := A0.c 3 rfl
  have HA := hid A0
  have HB := hid B0
  have HS := hid S
  clear A0 B0 S
  go_enter Tryz.func46, Tryz.ntmps46
  go_wp2_with fail
  refine (l4VolOk wa h e on a cap l (HS.out.below HB.out) hl).mono ?_
  rintro r w2 ⟨rfl, b2⟩
  have HA2 := hid (HA.out.below b2 HA.out.lt)
  replace k0 := HA2.out.c 0 rfl
  replace k1 := HA2.out.c 1 rfl
  replace k2 := HA2.out.c 2 rfl
  replace k3 := HA2.out.c 3 rfl
  have HB2 := hid (HB.out.trans (b2.mono HB.out.size))
  clear b2 hwa HA
  cases hf : volOk h e on l with
  | false =>
    have HN := hid (vol_no hf)
    clear hf
    go_wp2
    go_ret
    exact ⟨Own.ret_str HN.out.symm, HB2.out⟩
  | true =>
    have HY := hid (vol_yes hf)
    obtain ⟨p1, p2, p3⟩ := vol_parts hf
    have HZ := hid (vol_size h e on l p2)
    have HV := hid (fun k => vrs_size (-1) (l.take k))
    have hbd := ls_bd p1
    have HP : Hid (∀ k, k < l.length → -1 ≤ l.getD k 0 ∧ l.getD k 0 ≤ 17) := fun k hk => by have := between_getD p3 k hk; have := top_bd on; omega
    have z1 := showLs_size h e
    have z2 := flag_size on
    have h12 : l.length ≤ 12 := by omega
    clear hf p1 p2 p3
    go_wp2
    replace k0 := BW.cell k0
    replace k1 := BW.cell k1
    replace k2 := BW.cell k2
    have hne : Nonempty (BW w2) := ⟨⟨w2, Below.refl _ _⟩⟩
    refine wp_region_bw (by kernel_rfl) (by kernel_rfl) ?_
    repeat (go_big_quiet_step (first
      | (go_at_call 80; refine bw_below (l4ShowLease h e _ hbd.1 hbd.2))
      | (go_at_call 81; refine bw_below (l4Flag on _))))
    refine wpQuiet_nil ?_
    intro w3 hw'
    obtain ⟨u, hu⟩ := hw'
    have b3 := u.bel
    rw [← hu] at b3
    clear hu
    have HA3 := hid (HA2.out.below b3 HA2.out.lt)
    have HB3 := hid (HB2.out.trans (b3.mono HB2.out.size))
    clear b3 k0 k1 k2 k3 HA2 hne
    generalize hp : (⟨#[118]⟩ : ByteArray) ++ showLs h e ++ flag on = p at *
    have zp : p.size ≤ 22 := by rw [← hp, ByteArray.size_append, ByteArray.size_append]; have : (⟨#[118]⟩ : ByteArray).size = 1 := rfl; omega
    go_wp2
    clear hp
    go_loopw [3, 4] (fun s i wr => ∃ k : Nat, k ≤ l.length ∧ i = .int .i64 (k : Int) ∧ s = .string (p ++ vrs (-1) (l.take k)) ∧ Hid (Below w3.heap.size w3 wr)) (fun _ i _ => l.length - (intOf i).toNat)
    case atStart => exact ⟨0, Nat.zero_le _, rfl, by rw [show vrs (-1) (l.take 0) = ⟨#[]⟩ from rfl, append_empty], Below.refl _ _⟩
    case round =>
      obtain ⟨k, hk, rfl, rfl, HB'⟩ := hrel
      have k2 := (HA3.out.below HB'.out HA3.out.lt).c 3 rfl
      have HBr := hid (HB3.out.trans (HB'.out.mono HB3.out.size))
      by_cases hlt : k < l.length
      · obtain ⟨b, off, rfl, hc⟩ := (HS.out.below HBr.out) k hlt
        replace hc : wr.cell? ⟨b, off + k, none⟩ = some (.int .i64 (l.getD k 0)) := hc
        have HT := hid (vrs_take (-1) l k hlt)
        have hbk := HP.out k hlt
        have hz := HV.out k
        have hzl : (l.take k).length ≤ k := List.length_take_le _ _
        generalize l.getD k 0 = x at *
        generalize vrs (-1) (l.take k) = s at *
        have hps : (p ++ s).size ≤ 1000 := by rw [ByteArray.size_append]; omega
        have HAs := hid (append_assoc p s (vr (x - -1)))
        generalize p ++ s = q at *
        go_wp2_with fail
        refine (sVar (x + 1) _).mono ?_
        rintro r w4 ⟨rfl, b4⟩
        have zx := vr_size (x + 1)
        have HB4 := hid (HB'.out.trans (b4.mono HB'.out.size))
        clear b4 hc k2
        go_wp2
        exact ⟨⟨k + 1, by omega, by go_num, by rw [HT.out, ← HAs.out, Int.sub_neg], HB4⟩, by simp [intOf]; omega⟩
      · obtain rfl : k = l.length := by omega
        have HE : Hid (vrs (-1) (l.take l.length) = vrs (-1) l) := by rw [Hid, List.take_length]
        rw [HE.out]
        generalize p ++ vrs (-1) l = q at *
        go_wp2_with fail
        refine (l4Sum q _ HZ.out).mono ?_
        rintro r w4 ⟨rfl, b4⟩
        have HB4 := hid (HBr.out.trans (b4.mono HBr.out.size))
        clear b4 k2
        go_wp2
        go_ret
        exact ⟨Own.ret_str HY.out, HB4.out⟩

set_option maxRecDepth 100000 in
set_option maxHeartbeats 1000000 in
theorem iShowVol (w : World) (h e : Int) (on : Bool) (a : Option Addr) (cap : Nat) (l : List Int) (S : Ints w a l) (hl : l.length ≤ 1048576) (T : Sums w) :
    Calls Tryz.prog 99 #[vlV h e on a l.length cap] w fun r w' => r = .returned (.string (showVol h e on l)) ∧ Below w.heap.size w w' := by
  unfold vlV
  obtain ⟨wa, hwa, ez, A0, B0⟩ := one_new w [.int .i64 h, .int .i64 e, .bool on, .slice a l.length cap] 55
  have k0 := A0.c 0 rfl
  have k1 := A0.c 1 rfl
  have k2 := A0.c 2 rfl
  have k3 := A0.c 3 rfl
  have HA := hid A0
  have HB := hid B0
  have HS := hid S
  have HT := hid T
  clear A0 B0 S T
  go_enter Tryz.func99, Tryz.ntmps99
  go_wp2_with fail
  refine (isVol wa h e on a cap l (HS.out.below HB.out) hl).mono ?_
  rintro r w2 ⟨rfl, b2⟩
  have HA2 := hid (HA.out.below b2 HA.out.lt)
  replace k0 := HA2.out.c 0 rfl
  replace k1 := HA2.out.c 1 rfl
  replace k2 := HA2.out.c 2 rfl
  replace k3 := HA2.out.c 3 rfl
  have HB2 := hid (HB.out.trans (b2.mono HB.out.size))
  have HT2 := hid (HT.out.below HB2.out)
  clear b2 hwa HA
  cases hf : volOk h e on l with
  | false =>
    have HN := hid (vol_no hf)
    clear hf
    go_wp2
    go_ret
    exact ⟨Own.ret_str HN.out.symm, HB2.out⟩
  | true =>
    have HY := hid (vol_yes hf)
    obtain ⟨p1, p2, p3⟩ := vol_parts hf
    have HZ := hid (vol_size h e on l p2)
    have hbd := ls_bd p1
    have z1 := showLs_size h e
    have z2 := vrs_size (-1) l
    have h12 : l.length ≤ 12 := by omega
    have z3 := flag_size on
    have HP : Hid (∀ k, k < l.length → -1 ≤ l.getD k 0 ∧ l.getD k 0 ≤ 17) := fun k hk => by have := between_getD p3 k hk; have := top_bd on; omega
    clear hf p1 p2 p3
    go_wp2
    replace k0 := BW.cell k0
    replace k1 := BW.cell k1
    replace k2 := BW.cell k2
    replace k3 := BW.cell k3
    have hne : Nonempty (BW w2) := ⟨⟨w2, Below.refl _ _⟩⟩
    refine wp_region_bw (by kernel_rfl) (by kernel_rfl) ?_
    repeat (go_big_quiet_step (first
      | (go_at_call 133; refine bw_below (showNumbers _ a cap l (-1) (HS.out.below (HB2.out.trans ((BW.bel _).mono HB2.out.size))) (by omega) (by decide) (fun k hk => by have := HP.out k hk; omega)))
      | (go_at_call 132; refine bw_below (showFlag on _))
      | (go_at_call 131; refine bw_below (showLease h e _ hbd.1 hbd.2))
      | (go_at_call 130; refine bw_below (withSum' _ _ HZ.out (HT2.out.below (BW.bel _))))))
    refine wpQuiet_nil ?_
    intro _ hw'
    obtain ⟨u, rfl⟩ := hw'
    have HU := hid (HB2.out.trans (u.bel.mono HB2.out.size))
    clear k0 k1 k2 k3
    go_wp2
    go_ret
    exact ⟨Own.ret_str HY.out, HU.out⟩

end Go.Proofs.YtogebppolkfldaaGreatDoor.Sec
