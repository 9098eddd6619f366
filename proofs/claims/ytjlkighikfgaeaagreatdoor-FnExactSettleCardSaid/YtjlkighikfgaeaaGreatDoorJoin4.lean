/-
  The walks of spec.ShowVol and impl.ShowVol: both give a volume's text. Condition for impl's: the table of sixteen sums holds what the program's text lays.
  The walks of impl's cursor's flag and of impl.volParts. Condition: the table of sixteen sums and the error of a part that lacks stand in their variables.
  The walks of impl.readKind at a volume's sector and impl.ReadVol. Condition: the table of sixteen sums and the error of a part that lacks stand in their variables; a flag that is no flag is no volume's (a premise of both, to be proved of the text).
  What a Var that is read says of the text: its bytes are the number's own, and a first byte below 128 is the number. No condition.
  A volume's text whose flag is read as more than 1 is not what is shown of it: so both sides refuse it. Condition: texts of at most 2^20 bytes.
  'append' on an owned row as one step of a region that draws its order; the walk of spec.ReadVol. No condition but texts of at most 2^20 bytes.
  Plain: a journal's text; lists of sectors with texts in memory. No condition.
  The walks of spec.l4Piece, impl.showPiece, spec.l4OpOk and impl.isJournalOp. No condition but texts of at most 2^20 bytes.
  The walks of impl.areOuts, impl.isJournal and spec.l4JournalOk. No condition but texts and lists of at most 2^20.
  The walks of impl.isJournal and spec.l4JournalOk: both answer whether a journal is right. No condition but texts and lists of at most 2^20.
  The walk of spec.l4JournalOk: it answers whether a journal is right. No condition but texts and lists of at most 2^20.
-/
import Derived.Test.YtjlkighikfgaeaaGreatDoorJoin2
import Derived.Test.YtjlkighikfgaeaaGreatDoorJoin3
import Derived.RegionTactic
import Derived.BigRegion
import Derived.Deep.RegionWith
import Derived.RegionDies
import Derived.Tactics
import Derived.Tactics2
import Derived.Defers
import Derived.Recover
import Derived.Laws.ResultCell
import Derived.Test.YtjlkighikfgaeaaGreatDoorJoin1
import Derived.Deep.RegionLaw
import Derived.StillTailTactics
import Derived.Laws.StructEq
namespace Go.Proofs.YtjlkighikfgaeaaGreatDoor.Sec
open Go.RowKit Go.Proofs.YtjlkighikfgaeaaGreatDoor.Mem
set_option linter.unusedVariables false

/-- A volume's value. -/
def vlV (h e : Int) (on : Bool) (a : Option Addr) (n cap : Nat) : Value := .agg #[.int .i64 h, .int .i64 e, .bool on, .slice a n cap]

/-- The highest number in a map. -/
def top (on : Bool) : Int := if on then 17 else -1

theorem volOk_no1 (h e : Int) (on : Bool) (l : List Int) (x : lsOk h e = false) : volOk h e on l = false := by unfold volOk; rw [x]; rfl
theorem volOk_no2 (h e : Int) (on : Bool) (l : List Int) (x : ¬ l.length = 4) : volOk h e on l = false := by unfold volOk; rw [decide_eq_false x]; cases lsOk h e <;> rfl
theorem volOk_more (h e : Int) (on : Bool) (l : List Int) (x : lsOk h e = true) (y : l.length = 4) : volOk h e on l = between (-1) (top on) l := by unfold volOk; rw [x, decide_eq_true y]; rfl
theorem vol_no {h e : Int} {on : Bool} {l : List Int} (x : volOk h e on l = false) : showVol h e on l = ⟨#[]⟩ := by unfold showVol; rw [x]; rfl
theorem vol_yes {h e : Int} {on : Bool} {l : List Int} (x : volOk h e on l = true) : summed (⟨#[118]⟩ ++ showLs h e ++ flag on ++ vrs (-1) l) = showVol h e on l := by unfold showVol; rw [x]; rfl
theorem vol_parts {h e : Int} {on : Bool} {l : List Int} (x : volOk h e on l = true) : lsOk h e = true ∧ l.length = 4 ∧ between (-1) (top on) l = true := by
  unfold volOk at x
  rw [Bool.and_eq_true, Bool.and_eq_true] at x
  exact ⟨x.1.1, of_decide_eq_true x.1.2, x.2⟩
theorem top_bd (on : Bool) : -1 ≤ top on ∧ top on ≤ 17 := by cases on <;> decide

theorem flag_size (on : Bool) : (flag on).size ≤ 7 := vr_size _

theorem vol_size (h e : Int) (on : Bool) (l : List Int) (x : l.length = 4) : ((⟨#[118]⟩ : ByteArray) ++ showLs h e ++ flag on ++ vrs (-1) l).size ≤ 1048576 := by
  have h1 := showLs_size h e
  have h2 := vrs_size (-1) l
  have h3 := flag_size on
  rw [ByteArray.size_append, ByteArray.size_append, ByteArray.size_append]
  have : (⟨#[118]⟩ : ByteArray).size = 1 := rfl
  omega

set_option maxRecDepth 100000 in
set_option maxHeartbeats 1000000 in
theorem l4VolOk (w : World) (h e : Int) (on : Bool) (a : Option Addr) (cap : Nat) (l : List Int) (S : Ints w a l) (hl : l.length ≤ 1048576) :
    Calls Tryz.prog 100 #[vlV h e on a l.length cap] w fun r w' => r = .returned (.bool (volOk h e on l)) ∧ Below w.heap.size w w' := by
  unfold vlV
  obtain ⟨wa, hwa, ez, A0, B0⟩ := one_new w [.int .i64 h, .int .i64 e, .bool on, .slice a l.length cap] 84
  have k0 := A0.c 0 rfl
  have k1 := A0.c 1 rfl
  have k2 := A0.c 2 rfl
  have k3 := A0.c 3 rfl
  have HA := hid A0
  have HB := hid B0
  have HS := hid S
  clear A0 B0 S
  go_enter Tryz.func100, Tryz.ntmps100
  go_wp2_with fail
  refine (l4Lease h e _).mono ?_
  rintro r w2 ⟨rfl, b2⟩
  replace k2 := (HA.out.below b2 HA.out.lt).c 2 rfl
  replace k3 := (HA.out.below b2 HA.out.lt).c 3 rfl
  have HB2 := hid (HB.out.trans (b2.mono HB.out.size))
  clear b2 hwa k0 k1 HA
  cases hz : lsOk h e with
  | false =>
    have HN := hid (volOk_no1 h e on l hz)
    clear hz
    go_wp2
    go_ret
    exact ⟨by rw [HN.out]; rfl, HB2.out⟩
  | true =>
    by_cases h6 : (l.length : Int) = 4
    · have HE := hid (volOk_more h e on l hz (by omega))
      have hd : ((l.length : Int) != 4) = false := by simpa using h6
      clear hz h6
      go_wp2
      go_loop [3] (fun i => ∃ k : Nat, k ≤ l.length ∧ i = .int .i64 (k : Int) ∧ Hid (between (-1) (top on) (l.take k) = true)) (fun i => l.length - (intOf i).toNat)
      case atStart => exact ⟨0, Nat.zero_le _, rfl, rfl⟩
      case round =>
        obtain ⟨k, hk, rfl, HK⟩ := hrel
        by_cases hlt : k < l.length
        · obtain ⟨b, off, rfl, hc⟩ := (HS.out.below HB2.out) k hlt
          replace hc : w2.cell? ⟨b, off + k, none⟩ = some (.int .i64 (l.getD k 0)) := hc
          have HT := hid (between_take (-1) (top on) l k hlt)
          have HN := hid (between_no (-1) (top on) l k hlt)
          generalize l.getD k 0 = x at *
          by_cases hx : x = -1
          · have HR : Hid (between (-1) (top on) (l.take (k + 1)) = true) := by
              have := top_bd on
              rw [Hid, HT.out, HK.out, decide_eq_true (show -1 ≤ x ∧ x ≤ top on by omega)]; rfl
            have hxb : (x != -1) = false := by simpa using hx
            clear hx
            go_wp2
            exact ⟨⟨k + 1, by omega, by go_num, HR⟩, by simp [intOf]; omega⟩
          have hxb : (x != -1) = true := by simpa using hx
          cases on with
          | false =>
            have HR := hid (HN.out (show ¬ (-1 ≤ x ∧ x ≤ -1) by omega))
            clear hx
            go_wp2
            go_ret
            exact ⟨by rw [HE.out, HR.out]; rfl, HB2.out⟩
          | true =>
            by_cases hy : 0 ≤ x ∧ x ≤ 17
            · have hy' := decide_eq_true hy
              have HR : Hid (between (-1) (top true) (l.take (k + 1)) = true) := by rw [Hid, HT.out, HK.out, decide_eq_true (show -1 ≤ x ∧ x ≤ top true from ⟨by omega, hy.2⟩)]; rfl
              clear hx hy
              go_wp2_with fail
              refine (hy' ▸ l4Block x _).mono ?_
              rintro r w3 ⟨rfl, hw⟩
              subst hw
              go_wp2
              exact ⟨⟨k + 1, by omega, by go_num, HR⟩, by simp [intOf]; omega⟩
            · have hy' := decide_eq_false hy
              have HR := hid (HN.out (show ¬ (-1 ≤ x ∧ x ≤ 17) by omega))
              clear hx hy
              go_wp2_with fail
              refine (hy' ▸ l4Block x _).mono ?_
              rintro r w3 ⟨rfl, hw⟩
              subst hw
              go_wp2
              go_ret
              exact ⟨by rw [HE.out, HR.out]; rfl, HB2.out⟩
        · obtain rfl : k = l.length := by omega
          have HR : Hid (between (-1) (top on) l = true) := by have := HK.out; rwa [List.take_length] at this
          go_wp2
          go_ret
          exact ⟨by rw [HE.out, HR.out]; rfl, HB2.out⟩
    · have HN := hid (volOk_no2 h e on l (by omega))
      clear hz
      go_wp2
      go_ret
      exact ⟨by rw [HN.out]; rfl, HB2.out⟩

set_option maxRecDepth 100000 in
set_option maxHeartbeats 1000000 in
theorem isVol_true (w : World) (h e : Int) (a : Option Addr) (cap : Nat) (l : List Int) (S : Ints w a l) (hl : l.length ≤ 1048576) :
    Calls Tryz.prog 114 #[vlV h e true a l.length cap] w fun r w' => r = .returned (.bool (volOk h e true l)) ∧ Below w.heap.size w w' := by
  unfold vlV
  obtain ⟨wa, hwa, ez, A0, B0⟩ := one_new w [.int .i64 h, .int .i64 e, .bool true, .slice a l.length cap] 84
  have k0 := A0.c 0 rfl
  have k1 := A0.c 1 rfl
  have k2 := A0.c 2 rfl
  have k3 := A0.c 3 rfl
  have HA := hid A0
  have HB := hid B0
  have HS := hid S
  clear A0 B0 S
  go_enter Tryz.func114, Tryz.ntmps114
  go_wp2_with fail
  refine (isLease h e _).mono ?_
  rintro r w2 ⟨rfl, b2⟩
  replace k3 := (HA.out.below b2 HA.out.lt).c 3 rfl
  have HB2 := hid (HB.out.trans (b2.mono HB.out.size))
  clear b2 hwa k0 k1 k2 HA
  cases hz : lsOk h e with
  | false =>
    have HN := hid (volOk_no1 h e true l hz)
    clear hz
    go_wp2
    go_ret
    exact ⟨by rw [HN.out]; rfl, HB2.out⟩
  | true =>
    by_cases h6 : (l.length : Int) = 4
    · have HE := hid (volOk_more h e true l hz (by omega))
      have hd : ((l.length : Int) == 4) = true := by simpa using h6
      clear hz h6
      go_wp2_with fail
      refine (areFrom w2 a cap l (-1) 17 (HS.out.below HB2.out) hl).mono ?_
      rintro r w3 ⟨rfl, hw⟩
      subst hw
      have HE' : Hid (volOk h e true l = between (-1) 17 l) := HE
      generalize between (-1) 17 l = z at *
      go_wp2
      go_ret
      exact ⟨by rw [HE'.out]; rfl, HB2.out⟩
    · have HN := hid (volOk_no2 h e true l (by omega))
      have hd : ((l.length : Int) == 4) = false := by simpa using h6
      clear hz
      go_wp2
      go_ret
      exact ⟨by rw [HN.out]; rfl, HB2.out⟩

set_option maxRecDepth 100000 in
set_option maxHeartbeats 1000000 in
theorem isVol_false (w : World) (h e : Int) (a : Option Addr) (cap : Nat) (l : List Int) (S : Ints w a l) (hl : l.length ≤ 1048576) :
    Calls Tryz.prog 114 #[vlV h e false a l.length cap] w fun r w' => r = .returned (.bool (volOk h e false l)) ∧ Below w.heap.size w w' := by
  unfold vlV
  obtain ⟨wa, hwa, ez, A0, B0⟩ := one_new w [.int .i64 h, .int .i64 e, .bool false, .slice a l.length cap] 84
  have k0 := A0.c 0 rfl
  have k1 := A0.c 1 rfl
  have k2 := A0.c 2 rfl
  have k3 := A0.c 3 rfl
  have HA := hid A0
  have HB := hid B0
  have HS := hid S
  clear A0 B0 S
  go_enter Tryz.func114, Tryz.ntmps114
  go_wp2_with fail
  refine (isLease h e _).mono ?_
  rintro r w2 ⟨rfl, b2⟩
  replace k3 := (HA.out.below b2 HA.out.lt).c 3 rfl
  have HB2 := hid (HB.out.trans (b2.mono HB.out.size))
  clear b2 hwa k0 k1 k2 HA
  cases hz : lsOk h e with
  | false =>
    have HN := hid (volOk_no1 h e false l hz)
    clear hz
    go_wp2
    go_ret
    exact ⟨by rw [HN.out]; rfl, HB2.out⟩
  | true =>
    by_cases h6 : (l.length : Int) = 4
    · have HE := hid (volOk_more h e false l hz (by omega))
      have hd : ((l.length : Int) == 4) = true := by simpa using h6
      clear hz h6
      go_wp2_with fail
      refine (areFrom w2 a cap l (-1) (-1) (HS.out.below HB2.out) hl).mono ?_
      rintro r w3 ⟨rfl, hw⟩
      subst hw
      have HE' : Hid (volOk h e false l = between (-1) (-1) l) := HE
      generalize between (-1) (-1) l = z at *
      go_wp2
      go_ret
      exact ⟨by rw [HE'.out]; rfl, HB2.out⟩
    · have HN := hid (volOk_no2 h e false l (by omega))
      have hd : ((l.length : Int) == 4) = false := by simpa using h6
      clear hz
      go_wp2
      go_ret
      exact ⟨by rw [HN.out]; rfl, HB2.out⟩

theorem isVol (w : World) (h e : Int) (on : Bool) (a : Option Addr) (cap : Nat) (l : List Int) (S : Ints w a l) (hl : l.length ≤ 1048576) :
    Calls Tryz.prog 114 #[vlV h e on a l.length cap] w fun r w' => r = .returned (.bool (volOk h e on l)) ∧ Below w.heap.size w w' := by
  cases on
  · exact isVol_false w h e a cap l S hl
  · exact isVol_true w h e a cap l S hl

set_option maxRecDepth 100000 in
set_option maxHeartbeats 1000000 in
theorem sShowVol (w : World) (h e : Int) (on : Bool) (a : Option Addr) (cap : Nat) (l : List Int) (S : Ints w a l) (hl : l.length ≤ 1048576) :
    Calls Tryz.prog 94 #[vlV h e on a l.length cap] w fun r w' => r = .returned (.string (showVol h e on l)) ∧ Below w.heap.size w w' := by
  unfold vlV
  obtain ⟨wa, hwa, ez, A0, B0⟩ := one_new w [.int .i64 h, .int .i64 e, .bool on, .slice a l.length cap] 84
  have k0 := A0.c 0 rfl
  have k1 := A0.c 1 rfl
  have k2 := A0.c 2 rfl
  have k3 := A0.c 3 rfl
  have HA := hid A0
  have HB := hid B0
  have HS := hid S
  clear A0 B0 S
  go_enter Tryz.func94, Tryz.ntmps94
  go_wp2_with fail
  refine (l4VolOk wa h e on a cap l (HS.out.below HB.out) hl).mono ?_
  rintro r w2 ⟨rfl, b2⟩
  have HA2 := hid (HA.out.below b2 HA.out.lt)
  replace k0 := HA2.out.c 0 rfl
  replace k1 := HA2.out.c 1 rfl
  replace k2 := HA2.out.c 2 rfl
  replace k3 := HA2.out.c 3 rfl
  have HB2 := hid (HB.out.trans (b2.mono HB.out.size))
  clear b2 hwa HA
  cases hf : volOk h e on l with
  | false =>
    have HN := hid (vol_no hf)
    clear hf
    go_wp2
    go_ret
    exact ⟨Own.ret_str HN.out.symm, HB2.out⟩
  | true =>
    have HY := hid (vol_yes hf)
    obtain ⟨p1, p2, p3⟩ := vol_parts hf
    have HZ := hid (vol_size h e on l p2)
    have HV := hid (fun k => vrs_size (-1) (l.take k))
    have hbd := ls_bd p1
    have HP : Hid (∀ k, k < l.length → -1 ≤ l.getD k 0 ∧ l.getD k 0 ≤ 17) := fun k hk => by have := between_getD p3 k hk; have := top_bd on; omega
    have z1 := showLs_size h e
    have z2 := flag_size on
    have h12 : l.length ≤ 12 := by omega
    clear hf p1 p2 p3
    go_wp2
    replace k0 := BW.cell k0
    replace k1 := BW.cell k1
    replace k2 := BW.cell k2
    have hne : Nonempty (BW w2) := ⟨⟨w2, Below.refl _ _⟩⟩
    refine wp_region_bw (by kernel_rfl) (by kernel_rfl) ?_
    repeat (go_big_quiet_step (first
      | (go_at_call 159; refine bw_below (l4ShowLease h e _ hbd.1 hbd.2))
      | (go_at_call 138; refine bw_below (l4Flag on _))))
    refine wpQuiet_nil ?_
    intro w3 hw'
    obtain ⟨u, hu⟩ := hw'
    have b3 := u.bel
    rw [← hu] at b3
    clear hu
    have HA3 := hid (HA2.out.below b3 HA2.out.lt)
    have HB3 := hid (HB2.out.trans (b3.mono HB2.out.size))
    clear b3 k0 k1 k2 k3 HA2 hne
    generalize hp : (⟨#[118]⟩ : ByteArray) ++ showLs h e ++ flag on = p at *
    have zp : p.size ≤ 22 := by rw [← hp, ByteArray.size_append, ByteArray.size_append]; have : (⟨#[118]⟩ : ByteArray).size = 1 := rfl; omega
    go_wp2
    clear hp
    go_loopw [3, 4] (fun s i wr => ∃ k : Nat, k ≤ l.length ∧ i = .int .i64 (k : Int) ∧ s = .string (p ++ vrs (-1) (l.take k)) ∧ Hid (Below w3.heap.size w3 wr)) (fun _ i _ => l.length - (intOf i).toNat)
    case atStart => exact ⟨0, Nat.zero_le _, rfl, by rw [show vrs (-1) (l.take 0) = ⟨#[]⟩ from rfl, append_empty], Below.refl _ _⟩
    case round =>
      obtain ⟨k, hk, rfl, rfl, HB'⟩ := hrel
      have k2 := (HA3.out.below HB'.out HA3.out.lt).c 3 rfl
      have HBr := hid (HB3.out.trans (HB'.out.mono HB3.out.size))
      by_cases hlt : k < l.length
      · obtain ⟨b, off, rfl, hc⟩ := (HS.out.below HBr.out) k hlt
        replace hc : wr.cell? ⟨b, off + k, none⟩ = some (.int .i64 (l.getD k 0)) := hc
        have HT := hid (vrs_take (-1) l k hlt)
        have hbk := HP.out k hlt
        have hz := HV.out k
        have hzl : (l.take k).length ≤ k := List.length_take_le _ _
        generalize l.getD k 0 = x at *
        generalize vrs (-1) (l.take k) = s at *
        have hps : (p ++ s).size ≤ 1000 := by rw [ByteArray.size_append]; omega
        have HAs := hid (append_assoc p s (vr (x - -1)))
        generalize p ++ s = q at *
        go_wp2_with fail
        refine (sVar (x + 1) _).mono ?_
        rintro r w4 ⟨rfl, b4⟩
        have zx := vr_size (x + 1)
        have HB4 := hid (HB'.out.trans (b4.mono HB'.out.size))
        clear b4 hc k2
        go_wp2
        exact ⟨⟨k + 1, by omega, by go_num, by rw [HT.out, ← HAs.out, Int.sub_neg], HB4⟩, by simp [intOf]; omega⟩
      · obtain rfl : k = l.length := by omega
        have HE : Hid (vrs (-1) (l.take l.length) = vrs (-1) l) := by rw [Hid, List.take_length]
        rw [HE.out]
        generalize p ++ vrs (-1) l = q at *
        go_wp2_with fail
        refine (l4Sum q _ HZ.out).mono ?_
        rintro r w4 ⟨rfl, b4⟩
        have HB4 := hid (HBr.out.trans (b4.mono HBr.out.size))
        clear b4 k2
        go_wp2
        go_ret
        exact ⟨Own.ret_str HY.out, HB4.out⟩

set_option maxRecDepth 100000 in
set_option maxHeartbeats 1000000 in
theorem iShowVol (w : World) (h e : Int) (on : Bool) (a : Option Addr) (cap : Nat) (l : List Int) (S : Ints w a l) (hl : l.length ≤ 1048576) (T : Sums w) :
    Calls Tryz.prog 171 #[vlV h e on a l.length cap] w fun r w' => r = .returned (.string (showVol h e on l)) ∧ Below w.heap.size w w' := by
  unfold vlV
  obtain ⟨wa, hwa, ez, A0, B0⟩ := one_new w [.int .i64 h, .int .i64 e, .bool on, .slice a l.length cap] 84
  have k0 := A0.c 0 rfl
  have k1 := A0.c 1 rfl
  have k2 := A0.c 2 rfl
  have k3 := A0.c 3 rfl
  have HA := hid A0
  have HB := hid B0
  have HS := hid S
  have HT := hid T
  clear A0 B0 S T
  go_enter Tryz.func171, Tryz.ntmps171
  go_wp2_with fail
  refine (isVol wa h e on a cap l (HS.out.below HB.out) hl).mono ?_
  rintro r w2 ⟨rfl, b2⟩
  have HA2 := hid (HA.out.below b2 HA.out.lt)
  replace k0 := HA2.out.c 0 rfl
  replace k1 := HA2.out.c 1 rfl
  replace k2 := HA2.out.c 2 rfl
  replace k3 := HA2.out.c 3 rfl
  have HB2 := hid (HB.out.trans (b2.mono HB.out.size))
  have HT2 := hid (HT.out.below HB2.out)
  clear b2 hwa HA
  cases hf : volOk h e on l with
  | false =>
    have HN := hid (vol_no hf)
    clear hf
    go_wp2
    go_ret
    exact ⟨Own.ret_str HN.out.symm, HB2.out⟩
  | true =>
    have HY := hid (vol_yes hf)
    obtain ⟨p1, p2, p3⟩ := vol_parts hf
    have HZ := hid (vol_size h e on l p2)
    have hbd := ls_bd p1
    have z1 := showLs_size h e
    have z2 := vrs_size (-1) l
    have h12 : l.length ≤ 12 := by omega
    have z3 := flag_size on
    have HP : Hid (∀ k, k < l.length → -1 ≤ l.getD k 0 ∧ l.getD k 0 ≤ 17) := fun k hk => by have := between_getD p3 k hk; have := top_bd on; omega
    clear hf p1 p2 p3
    go_wp2
    replace k0 := BW.cell k0
    replace k1 := BW.cell k1
    replace k2 := BW.cell k2
    replace k3 := BW.cell k3
    have hne : Nonempty (BW w2) := ⟨⟨w2, Below.refl _ _⟩⟩
    refine wp_region_bw (by kernel_rfl) (by kernel_rfl) ?_
    repeat (go_big_quiet_step (first
      | (go_at_call 194; refine bw_below (showNumbers _ a cap l (-1) (HS.out.below (HB2.out.trans ((BW.bel _).mono HB2.out.size))) (by omega) (by decide) (fun k hk => by have := HP.out k hk; omega)))
      | (go_at_call 155; refine bw_below (showFlag on _))
      | (go_at_call 198; refine bw_below (showLease h e _ hbd.1 hbd.2))
      | (go_at_call 153; refine bw_below (withSum' _ _ HZ.out (HT2.out.below (BW.bel _))))))
    refine wpQuiet_nil ?_
    intro _ hw'
    obtain ⟨u, rfl⟩ := hw'
    have HU := hid (HB2.out.trans (u.bel.mono HB2.out.size))
    clear k0 k1 k2 k3
    go_wp2
    go_ret
    exact ⟨Own.ret_str HY.out, HU.out⟩

end Go.Proofs.YtjlkighikfgaeaaGreatDoor.Sec

namespace Go.Proofs.YtjlkighikfgaeaaGreatDoor.Rd
open Go.RowKit Go.Proofs.YtjlkighikfgaeaaGreatDoor.Mem Go.Proofs.YtjlkighikfgaeaaGreatDoor.Sec
set_option linter.unusedVariables false

theorem nums_split3 {R : ByteArray → Int × Nat} {s : ByteArray} {i : Nat} : ∀ {n : Nat} {x y f : Int} {z : Nat}, nums R s i 3 = some ([x, y, f], z) → nums R s i (n + 3) = (nums R s z n).map (fun p => (x :: y :: f :: p.1, p.2))
  | 0, x, y, f, z, h => by rw [h]; rfl
  | n + 1, x, y, f, z, h => by
    show nums R s i ((n + 3) + 1) = _
    conv => lhs; unfold nums
    rw [nums_split3 (n := n) h]
    conv => rhs; unfold nums
    cases nums R s z n with
    | none => rfl
    | some p =>
      simp only [Option.map_some, Option.bind_some]
      split <;> simp

/-- The flag: a number that is 0 or 1. -/
theorem flagOf (R : ByteArray → Int × Nat) (hR : Reads R) (s : ByteArray) (hs : s.size ≤ 1048576) (i : Nat) (w : World) (c : Nat) (h : Cur w c (rest s i)) (u : TypeId) (pv : Value) (hL : Lacks w u pv) (hc : 1 < c) :
    Calls Tryz.prog 149 #[.pointer (some ⟨c, 0, none⟩)] w fun e w' => ((R (rest s i)).2 ≠ 0 ∧ (R (rest s i)).1 ≤ 1 ∧ e = .returned (.bool (decide ((R (rest s i)).1 = 1))) ∧ Moved w w' c (rest s (i + (R (rest s i)).2))) ∨ (((R (rest s i)).2 = 0 ∨ 1 < (R (rest s i)).1) ∧ e = lack u pv ∧ Kept (fun b => b = c) w w') := by
  have HR := hid hR
  have HH := hid h
  have HL := hid hL
  clear hR h hL
  go_enter Tryz.func149, Tryz.ntmps149
  go_wp2_with fail
  refine (count R HR.out s hs i 1 w c HH.out u pv HL.out hc).mono ?_
  rintro e w1 (⟨hq, hle, rfl, M1⟩ | ⟨hq, rfl, k1⟩)
  · have HM := hid M1
    have HQ := hid hq
    have HX := hid hle
    clear M1 hq hle
    generalize hx : (R (rest s i)).1 = x
    have HE := hid hx
    clear hx
    go_wp2
    go_ret
    exact Or.inl ⟨HQ.out, by have := HX.out; have := HE.out; omega, by rw [HE.out]; rfl, HM.out⟩
  · have HQ := hid hq
    have HK := hid k1
    clear hq k1
    unfold lack
    go_wp2
    exact ⟨rfl, Or.inr ⟨HQ.out, rfl, HK.out⟩⟩

/-- No volume: a number lacks, or the flag is no flag. -/
def NoVol (R : ByteArray → Int × Nat) (s : ByteArray) (i : Nat) : Prop := nums R s i 7 = none ∨ ∃ x y f l z, nums R s i 7 = some (x :: y :: f :: l, z) ∧ 1 < f

theorem noVol_flag {R : ByteArray → Int × Nat} {s : ByteArray} {i : Nat} {x y : Int} {z : Nat} (h : nums R s i 2 = some ([x, y], z)) (hq : (R (rest s z)).2 = 0 ∨ 1 < (R (rest s z)).1) : NoVol R s i := by
  have h3 := nums_step h
  by_cases h0 : (R (rest s z)).2 = 0
  · rw [if_pos h0] at h3
    exact Or.inl (nums_none (k := 3) h3 4)
  · rw [if_neg h0] at h3
    have h7 := nums_split3 (n := 4) h3
    cases hn : nums R s (z + (R (rest s z)).2) 4 with
    | none => rw [hn] at h7; exact Or.inl h7
    | some p =>
      rw [hn] at h7
      exact Or.inr ⟨x, y, (R (rest s z)).1, p.1, p.2, h7, by rcases hq with q | q; exact absurd q h0; exact q⟩

set_option maxRecDepth 100000 in
set_option maxHeartbeats 2000000 in
theorem volParts (R : ByteArray → Int × Nat) (hR : Reads R) (s : ByteArray) (hs : s.size ≤ 1048576) (i : Nat) (w : World) (c : Nat) (h : Cur w c (rest s i)) (u : TypeId) (pv : Value) (hL : Lacks w u pv) (hc : 1 < c) :
    Calls Tryz.prog 183 #[.pointer (some ⟨c, 0, none⟩)] w fun e w' => ((∃ x y f l z a cap, nums R s i 7 = some (x :: y :: f :: l, z) ∧ f ≤ 1 ∧ e = .returned (vlV (x - 1) y (decide (f = 1)) a l.length cap) ∧ Ir w' w.heap.size (.slice a l.length cap) (l.map (· + -1)) ∧ l.length = 4) ∨ (NoVol R s i ∧ e = lack u pv)) ∧ Kept (fun b => b = c) w w' := by
  have HR := hid hR
  have HH := hid h
  have HL := hid hL
  have hlt := h.lt
  clear hR h hL
  go_enter Tryz.func183, Tryz.ntmps183
  go_wp2_with fail
  obtain ⟨wl, hwl, ez, A0, B0⟩ := one_new w [.int .i64 0, .int .i64 0, .bool false, .slice none 0 0] 84
  simp only [hwl]
  have HA := hid A0
  have HKl : Hid (Kept (fun b => b = c) w wl) := (Kept.of_below B0)
  have HLl := hid (HL.out.kept (Kept.of_below (S := fun _ => False) B0) (fun x => x))
  have HHl := hid (HH.out.below B0)
  clear hwl A0 B0
  refine (lease R HR.out s hs i wl c HHl.out u pv HLl.out hc).mono ?_
  rintro e w1 (⟨x, y, z, hn, rfl, M1⟩ | ⟨hn, rfl, k1⟩)
  · have HN2 := hid hn
    have HM1 := hid M1
    have HL1 := hid (HLl.out.kept M1.2 (by omega))
    have HA1 := hid (HA.out.kept M1.2 (by omega))
    have HK1 : Hid (Kept (fun b => b = c) w w1) := (HKl.out.trans M1.2).mono (fun b _ x => by rcases x with x | x <;> exact x)
    have hs1 := M1.2.size
    clear M1 hn
    go_wp2_with fail
    obtain ⟨w2, hw2, ez2, L0, B2⟩ := one_new w1 [.int .i64 (x - 1), .int .i64 y] 47
    simp only [hw2]
    have HA2 := hid (HA1.out.below B2 HA1.out.lt)
    have HLb := hid L0
    have HC2 := hid (HM1.out.1.below B2)
    have HL2 := hid (HL1.out.kept (Kept.of_below (S := fun _ => False) B2) (fun x => x))
    have HK2 : Hid (Kept (fun b => b = c) w w2) := (HK1.out.trans (Kept.of_below (S := fun _ => False) B2)).mono (fun b _ x => by rcases x with x | x; exact x; cases x)
    have l0 := L0.c 0 rfl
    have l1 := L0.c 1 rfl
    clear hw2 L0 B2 HA1 HL1
    refine (flagOf R HR.out s hs z w2 c HC2.out u pv HL2.out hc).mono ?_
    rintro e wf (⟨hq, hle, rfl, MF⟩ | ⟨hq, rfl, kf⟩)
    rotate_left
    · have HNV := hid (noVol_flag HN2.out hq)
      have HKf : Hid (Kept (fun b => b = c) w wf) := (HK2.out.trans kf).mono (fun b _ x => by rcases x with x | x <;> exact x)
      clear hq kf l0 l1
      unfold lack
      go_wp2
      exact ⟨rfl, Or.inr ⟨HNV.out, rfl⟩, HKf.out⟩
    have h3 := nums_step HN2.out
    rw [if_neg hq] at h3
    have HN := hid (nums_split3 (n := 4) h3)
    have HAf := hid (HA2.out.kept MF.2 (by omega))
    have HLf := hid (HLb.out.kept MF.2 (by omega))
    have HCf := hid MF.1
    have HLkf := hid (HL2.out.kept MF.2 (by omega))
    have HKf2 : Hid (Kept (fun b => b = c) w wf) := (HK2.out.trans MF.2).mono (fun b _ x => by rcases x with x | x <;> exact x)
    have hsf := MF.2.size
    clear MF h3 l0 l1 HA2 HLb HC2 HL2 HK2
    have l0 := HLf.out.c 0 rfl
    have l1 := HLf.out.c 1 rfl
    have HFle := hid hle
    generalize hff : (R (rest s z)).1 = f at HN HFle
    generalize hzz : z + (R (rest s z)).2 = z1 at HN HCf
    clear hq hle hff hzz HN2
    go_wp2_with fail
    have hNM := numbers R HR.out s hs z1 4 (by decide) (-1) (by decide) wf.drew c HCf.out.drew u pv HLkf.out.drew hc
    cases hnu : nums R s z1 4 with
    | none =>
      rw [hnu] at HN hNM
      have HN8 : Hid (NoVol R s i) := Or.inl HN
      have hNM' : Calls Tryz.prog 188 #[.pointer (some ⟨c, 0, none⟩), .int .i64 4, .int .i64 (-1)] wf.drew fun e w' => e = .panicked [{ v := .iface u pv, recovered := false }] ∧ Kept (fun b => b = c) wf.drew w' := hNM
      have HQ := hid hNM'
      clear hNM hNM' hnu HN
      have HKx : Hid (∀ w3, Kept (fun b => b = c) wf.drew w3 → Kept (fun b => b = c) w w3) := fun w3 k => (HKf2.out.trans (kundrew k)).mono (fun b _ x => by rcases x with x | x <;> exact x)
      go_region_dies
      all_goals (refine HQ.out.mono ?_; rintro e w3 ⟨rfl, k3'⟩; exact ⟨rfl, Or.inr ⟨HN8.out, rfl⟩, HKx.out w3 k3'⟩)
    | some p =>
      obtain ⟨l, z2⟩ := p
      rw [hnu] at HN hNM
      have HN8 : Hid (nums R s i 7 = some (x :: y :: f :: l, z2)) := HN
      have hl6 : l.length = 4 := nums_len hnu
      have HL6 := hid hl6
      have hNM' : Calls Tryz.prog 188 #[.pointer (some ⟨c, 0, none⟩), .int .i64 4, .int .i64 (-1)] wf.drew fun e w' => ∃ a cap, e = .returned (.slice a l.length cap) ∧ Ir w' wf.heap.size (.slice a l.length cap) (l.map (· + -1)) ∧ Kept (fun b => b = c) wf.drew w' := hNM.mono (fun e w' ⟨hg, k⟩ => by
        obtain ⟨v, rfl, hI, _⟩ := hg
        obtain ⟨a, cap, e2, _⟩ := Ir.w hI
        rw [List.length_map] at e2
        subst e2
        exact ⟨a, cap, rfl, hI, k⟩)
      have HQ := hid hNM'
      clear hNM hNM' hnu HN hl6
      go_region_with (first
        | (go_at_call 188; refine HQ.out.mono ?_; rintro e w3 ⟨a, cap, rfl, hI3, k3'⟩; have k3 := kundrew k3'; have hr0 := (HAf.out.kept k3 (by omega)).c 0 rfl; have hr1 := (HAf.out.kept k3 (by omega)).c 1 rfl; have hr2 := (HAf.out.kept k3 (by omega)).c 2 rfl; have hr3 := (HAf.out.kept k3 (by omega)).c 3 rfl; have fr0 := (HAf.out.kept k3 (by omega)).f 0; have fr1 := (HAf.out.kept k3 (by omega)).f 1; have fr2 := (HAf.out.kept k3 (by omega)).f 2; have fr3 := (HAf.out.kept k3 (by omega)).f 3; have q0 := (HLf.out.kept k3 (by omega)).c 0 rfl; have q1 := (HLf.out.kept k3 (by omega)).c 1 rfl))
      all_goals (have HKf : Kept (fun b => b = c) w ((((w3.setCell ⟨w.heap.size, 0, none⟩ (.int .i64 (x - 1))).setCell ⟨w.heap.size, 1, none⟩ (.int .i64 y)).setCell ⟨w.heap.size, 2, none⟩ (.bool (decide (f = 1)))).setCell ⟨w.heap.size, 3, none⟩ (.slice a l.length cap)) := (((((HKf2.out.trans k3).trans (kept_set _ _ _ _)).trans (kept_set _ _ _ _)).trans (kept_set _ _ _ _)).trans (kept_set _ _ _ _)).mono (fun b hb x => by rcases x with ((((x | x) | x) | x) | x) | x; exact x; exact x; omega; omega; omega; omega))
      all_goals (have HIf : Ir ((((w3.setCell ⟨w.heap.size, 0, none⟩ (.int .i64 (x - 1))).setCell ⟨w.heap.size, 1, none⟩ (.int .i64 y)).setCell ⟨w.heap.size, 2, none⟩ (.bool (decide (f = 1)))).setCell ⟨w.heap.size, 3, none⟩ (.slice a l.length cap)) w.heap.size (.slice a l.length cap) (l.map (· + -1)) := RowO.mono (RowO.kept hI3 ((((kept_set _ _ _ _).trans (kept_set _ _ _ _)).trans (kept_set _ _ _ _)).trans (kept_set _ _ _ _)) (fun b hb x => by have := (RowO.lt hI3 hb).1; rcases x with ((x | x) | x) | x <;> omega)) (by omega))
      all_goals (have HRw := ((((HAf.out.kept k3 (by omega)).set 0 (.int .i64 (x - 1))).set 1 (.int .i64 y)).set 2 (.bool (decide (f = 1)))).set 3 (.slice a l.length cap))
      all_goals (have HKf' := hid HKf; have HIf' := hid HIf; have HRw' := hid HRw; clear HKf HIf HRw hr0 hr1 hr2 hr3 fr0 fr1 fr2 fr3 q0 q1 k3 k3' hI3)
      all_goals (go_wp2; refine bodyPost_ret (results_row rfl _ _ w.heap.size [.int .i64 (x - 1), .int .i64 y, .bool (decide (f = 1)), .slice a l.length cap] _ rfl HRw'.out Tryz.underlying84 rfl (by kernel_rfl)) rfl ?_; exact ⟨Or.inl ⟨x, y, f, l, z2, a, cap, HN8.out, HFle.out, rfl, HIf'.out, HL6.out⟩, HKf'.out⟩)
  · have HN8 : Hid (NoVol R s i) := Or.inl (nums_none (k := 2) hn 5)
    have HK1 : Hid (Kept (fun b => b = c) w w1) := (HKl.out.trans k1).mono (fun b _ x => by rcases x with x | x <;> exact x)
    clear hn k1
    unfold lack
    go_wp2
    exact ⟨rfl, Or.inr ⟨HN8.out, rfl⟩, HK1.out⟩

end Go.Proofs.YtjlkighikfgaeaaGreatDoor.Rd

namespace Go.Proofs.YtjlkighikfgaeaaGreatDoor.Rd
open Go.RowKit Go.Proofs.YtjlkighikfgaeaaGreatDoor.Mem Go.Proofs.YtjlkighikfgaeaaGreatDoor.Sec
set_option linter.unusedVariables false

/-- What a volume's sector is read as. -/
def readVol (R : ByteArray → Int × Nat) (s : ByteArray) : Option (Int × Int × Bool × List Int) :=
  match nums R s 5 7 with
  | some (x :: y :: f :: l, _) => if showVol (x - 1) y (decide (f = 1)) (l.map (· + -1)) = s then some (x - 1, y, decide (f = 1), l.map (· + -1)) else none
  | _ => none

theorem readVol_short (R : ByteArray → Int × Nat) (hR : Reads R) (s : ByteArray) (h : s.size ≤ 5) (hs : s.size ≤ 1048576) : readVol R s = none := by
  unfold readVol; rw [nums_short R hR s h hs 6]

set_option maxRecDepth 100000 in
set_option maxHeartbeats 1000000 in
theorem vcatch_some (p q : Nat) (u : TypeId) (pv : Value) (older : List PanicEntry) (w : World) (a0 a1 a2 a3 b0 : Value) (hp : Row w p [a0, a1, a2, a3]) (hq : Row w q [b0]) (hpq : p ≠ q) :
    CallsD Tryz.prog 203 #[.pointer (some ⟨p, 0, none⟩), .pointer (some ⟨q, 0, none⟩)] (.panicking ({ v := .iface u pv, recovered := false } :: older)) w fun e u' w' =>
      e = .returned (.tuple #[]) ∧ u' = .panicking ({ v := .iface u pv, recovered := true } :: older) ∧ Row w' p [.int .i64 0, .int .i64 0, .bool false, .slice none 0 0] ∧ Row w' q [.bool false] ∧ Kept (fun b => b = p ∨ b = q) w w' := by
  refine callsD_of_wpS Tryz.func203 rfl fun c₀ cs hu => ?_
  obtain ⟨wl, hwl, ez, Z0, B0⟩ := one_new w [.int .i64 0, .int .i64 0, .bool false, .slice none 0 0] 84
  have hpl := hp.lt
  have hql := hq.lt
  have P0 := hp.below B0 hp.lt
  have Q0 := hq.below B0 hq.lt
  have z0 := Z0.c 0 rfl
  have z1 := Z0.c 1 rfl
  have z2 := Z0.c 2 rfl
  have z3 := Z0.c 3 rfl
  have p0 := P0.c 0 rfl
  have p1 := P0.c 1 rfl
  have p2 := P0.c 2 rfl
  have p3 := P0.c 3 rfl
  have q0 := Q0.c 0 rfl
  have f0 := P0.f 0
  have f1 := P0.f 1
  have f2 := P0.f 2
  have f3 := P0.f 3
  have g0 := Q0.f 0
  have HP := hid (((((P0.set 0 (.int .i64 0)).set 1 (.int .i64 0)).set 2 (.bool false)).set 3 (.slice none 0 0)).other (p := ⟨q, 0, none⟩) (by show p ≠ q; exact hpq) (.bool false))
  have HQ := hid (((((Q0.other (p := ⟨p, 0, none⟩) (by show q ≠ p; exact fun e => hpq e.symm) (.int .i64 0)).other (p := ⟨p, 1, none⟩) (by show q ≠ p; exact fun e => hpq e.symm) (.int .i64 0)).other (p := ⟨p, 2, none⟩) (by show q ≠ p; exact fun e => hpq e.symm) (.bool false)).other (p := ⟨p, 3, none⟩) (by show q ≠ p; exact fun e => hpq e.symm) (.slice none 0 0)).set 0 (.bool false))
  have HK : Hid (Kept (fun b => b = p ∨ b = q) w (((((wl.setCell ⟨p, 0, none⟩ (.int .i64 0)).setCell ⟨p, 1, none⟩ (.int .i64 0)).setCell ⟨p, 2, none⟩ (.bool false)).setCell ⟨p, 3, none⟩ (.slice none 0 0)).setCell ⟨q, 0, none⟩ (.bool false))) :=
    ((((((Kept.of_below (S := fun _ => False) B0).trans (kept_set _ _ _ _)).trans (kept_set _ _ _ _)).trans (kept_set _ _ _ _)).trans (kept_set _ _ _ _)).trans (kept_set _ _ _ _)).mono (fun b _ x => by rcases x with ((((x | x) | x) | x) | x) | x; cases x; exact Or.inl x; exact Or.inl x; exact Or.inl x; exact Or.inl x; exact Or.inr x)
  clear hp hq P0 Q0 Z0 B0
  apply wpS_seq
  apply wpS_region
  simp [wpOpsS, go_sem, recoverD, hu, Tryz.ntmps203, Exit.thenS]
  refine wpS_cond (t := true) (by simp [Act.eval, Array.replicate]) ?_
  simp only [if_true]
  refine wpS_of_wp ?_
  go_wp2
  simp [bodyPostS, results, Tryz.results203]
  exact ⟨HP.out, HQ.out, HK.out⟩

set_option maxRecDepth 100000 in
set_option maxHeartbeats 1000000 in
theorem vcatch_none (p q : Addr) (w : World) :
    CallsD Tryz.prog 203 #[.pointer (some p), .pointer (some q)] .returning w fun e u' w' => e = .returned (.tuple #[]) ∧ u' = .returning ∧ w' = w := by
  refine callsD_of_wpS Tryz.func203 rfl fun c₀ cs hu => ?_
  apply wpS_seq
  apply wpS_region
  simp [wpOpsS, go_sem, recoverD, hu, Tryz.ntmps203, Exit.thenS]
  refine wpS_cond (t := false) (by simp [Act.eval, Array.replicate]) ?_
  simp only [Bool.false_eq_true, if_false]
  refine wpS_of_wp (wp_skip ?_)
  cases c₀
  simp_all [bodyPostS, results, Tryz.results203]

/-- What is read, and what is told of it. -/
def VolIs (R : ByteArray → Int × Nat) (s : ByteArray) (h e : Int) (on : Bool) (l : List Int) (ok : Bool) : Prop := readVol R s = some (h, e, on, l) ∧ l.length ≤ 12 ∧ ok = true ∨ readVol R s = none ∧ h = 0 ∧ e = 0 ∧ on = false ∧ l = [] ∧ ok = false

/-- What both sides answer: a list of its own, or none. -/
def VolOut (R : ByteArray → Int × Nat) (s : ByteArray) (w w' : World) (r : Ending) : Prop :=
  ∃ h e on l a cap ok, VolIs R s h e on l ok ∧ r = .returned (.tuple #[vlV h e on a l.length cap, .bool ok]) ∧ Ir w' w.heap.size (.slice a l.length cap) l ∧ Below w.heap.size w w'

theorem vnone_row (w : World) (B : Nat) (b : Option Addr) : Ir w B (.slice b ([] : List Int).length 0) [] := Or.inl ⟨b, rfl, rfl, rfl⟩

set_option maxRecDepth 100000 in
set_option maxHeartbeats 2000000 in
theorem readKindVol (R : ByteArray → Int × Nat) (hR : Reads R) (s : ByteArray) (hs : s.size ≤ 1048576) (hnv : NoVol R s 5 → readVol R s = none) (w : World) (u : TypeId) (pv : Value) (hL : Lacks w u pv) (T : Sums w) :
    Calls Tryz.prog 182 #[.string s, .func (.func 183) #[] #[], .func (.func 171) #[] #[]] w fun e w' => VolOut R s w w' e := by
  have hmf : ∀ (fn : Fn) (first cap : Array Value) (w : World), (Instr.makeFunc fn first cap).run Tryz.prog w = .ok (.func fn first cap) w := fun _ _ _ _ => rfl
  have HR := hid hR
  have HNV := hid hnv
  clear hnv
  have HL := hid hL
  have HT := hid T
  clear hR hL T
  go_enter_defers Tryz.func182, Tryz.ntmps182
  go_wp2_with fail
  obtain ⟨wc, hwc, ec, A0, B0, C0, K0⟩ := three_any w [.int .i64 0, .int .i64 0, .bool false, .slice none 0 0] [.bool false] [.string s] 84 4 176
  simp only [hwc]
  clear hwc
  have HA := hid A0
  have HBq := hid B0
  have HKc := hid K0
  have HLc := hid (HL.out.kept (Kept.of_below (S := fun _ => False) K0) (fun x => x))
  have HCu : Hid (Cur wc (w.heap.size + 1 + 1) s) := C0
  have hgl := HL.out.lt
  clear A0 B0 C0 K0
  by_cases h5 : (s.size : Int) < 5
  · have HN := hid (readVol_short R HR.out s (by omega) hs)
    refine (take_no wc (w.heap.size + 1 + 1) s 5 HCu.out h5 u pv HLc.out).mono ?_
    rintro e w1 ⟨rfl, hw⟩
    obtain rfl := hw.symm
    unfold lack
    go_wp2
    refine leaves_cons (f := 203) (args := #[.pointer (some ⟨w.heap.size, 0, none⟩), .pointer (some ⟨w.heap.size + 1, 0, none⟩)]) (by simp) (by simp [go_sem]) ?_
    refine (vcatch_some w.heap.size (w.heap.size + 1) u pv [] _ _ _ _ _ _ HA.out HBq.out (by omega)).mono ?_
    rintro e u' w2 ⟨rfl, rfl, RA, RB, k2⟩
    refine ⟨_, results_two rfl _ w2 w.heap.size (w.heap.size + 1) _ _ rfl rfl (load_row RA Tryz.underlying84 rfl (by kernel_rfl)) (load_bool RB), ?_⟩
    exact ⟨0, 0, false, [], none, 0, false, Or.inr ⟨HN.out, rfl, rfl, rfl, rfl, rfl⟩, rfl, vnone_row _ _ _, HKc.out.trans (k2.below HKc.out.size (fun b hb x => by rcases x with x | x <;> omega))⟩
  · have h5n : 5 ≤ s.size := by omega
    have HRR : Hid (s.extract 5 s.size = rest s 5) := rfl
    refine (take_yes wc (w.heap.size + 1 + 1) s 5 HCu.out h5n hs).mono ?_
    rintro e w1 ⟨rfl, hw⟩
    have M1 : Moved wc w1 (w.heap.size + 1 + 1) (rest s 5) := by rw [hw, ← HRR.out]; exact moved_set HCu.out _
    have HA1 := hid (HA.out.kept M1.2 (by omega))
    have HB1 := hid (HBq.out.kept M1.2 (by omega))
    have HL1 := hid (HLc.out.kept M1.2 (by omega))
    have HM1 := hid M1
    clear hw M1
    go_wp2_with fail
    refine (volParts R HR.out s hs 5 w1 (w.heap.size + 1 + 1) HM1.out.1 u pv HL1.out (by omega)).mono ?_
    rintro e w2 ⟨hg, k2⟩
    have HA2 := hid (HA1.out.kept k2 (by omega))
    have HB2 := hid (HB1.out.kept k2 (by omega))
    have k12 : Kept (fun b => b = w.heap.size + 1 + 1) wc w2 := (HM1.out.2.trans k2).mono (fun b _ x => by rcases x with x | x <;> exact x)
    have HBw : Hid (Below w.heap.size w w2) := HKc.out.trans (k12.below HKc.out.size (fun b hb x => by omega))
    have HT2 := hid (HT.out.below HBw.out)
    have hs2 : w.heap.size + 1 + 1 < w2.heap.size := by have := k12.size; omega
    have hs1 : w.heap.size + 1 + 1 < w1.heap.size := HM1.out.1.lt
    clear k2 k12 HM1 HL1 HA1 HB1
    rcases hg with ⟨x, y, f, l', z, a, cap, hn, hf1, rfl, hI, hl6⟩ | ⟨hn, rfl⟩
    · have HN := hid hn
      have hlen : (l'.map (· + -1)).length ≤ 12 := by rw [List.length_map]; omega
      have HLM : Hid (l'.length = (l'.map (· + -1)).length) := (List.length_map _).symm
      rw [HLM.out] at hI ⊢
      obtain ⟨l, hlm⟩ : ∃ l, l'.map (· + -1) = l := ⟨_, rfl⟩
      have HLl := hid hlm
      rw [hlm] at hI hlen ⊢
      obtain ⟨on, hon⟩ : ∃ on, decide (f = 1) = on := ⟨_, rfl⟩
      have HON := hid hon
      rw [hon]
      clear hlm hon hf1
      have HI := hid hI
      have hrb : ∀ b, rb (.slice a l.length cap) = some b → w1.heap.size ≤ b := fun b hb => (RowO.lt HI.out hb).1
      obtain ⟨a', cap', ea, hW⟩ := hI.w
      cases ea
      have HS2 := hid hW.sl
      clear hn hI hW hl6 HLM
      have HV : Hid (vlV (x - 1) y on a l.length cap = .agg #[.int .i64 (x - 1), .int .i64 y, .bool on, .slice a l.length cap]) := rfl
      rw [HV.out]
      go_wp2_with fail
      obtain ⟨w3, hw3, ez3, D3, B3⟩ := one_new w2 [.int .i64 (x - 1), .int .i64 y, .bool on, .slice a l.length cap] 84
      simp only [hw3]
      have HA3 := hid (HA2.out.below B3 HA2.out.lt)
      have HB3 := hid (HB2.out.below B3 HB2.out.lt)
      have HD3 := hid D3
      have HI3 := hid (RowO.below HI.out B3)
      have HS3 := hid (HS2.out.below B3)
      have HBw3 := hid (HBw.out.trans (B3.mono HBw.out.size))
      have HT3 := hid (HT2.out.below B3)
      clear hw3 D3 B3 HA2 HB2 HBw HT2 HI HS2
      refine (iShowVol w3 (x - 1) y on a cap l HS3.out (by omega) HT3.out).mono ?_
      rintro e w4 ⟨rfl, b4⟩
      have HA4 := hid (HA3.out.below b4 HA3.out.lt)
      have HB4 := hid (HB3.out.below b4 HB3.out.lt)
      have HD4 := hid (HD3.out.below b4 HD3.out.lt)
      have HI4 := hid (RowO.below HI3.out b4)
      have HBw4 := hid (HBw3.out.trans (b4.mono HBw3.out.size))
      clear b4 HA3 HB3 HD3 HBw3 HT3 HI3 HS3
      have a0 := HA4.out.c 0 rfl
      have a1 := HA4.out.c 1 rfl
      have a2 := HA4.out.c 2 rfl
      have a3 := HA4.out.c 3 rfl
      have q0 := HB4.out.c 0 rfl
      have d0 := HD4.out.c 0 rfl
      have d1 := HD4.out.c 1 rfl
      have d2 := HD4.out.c 2 rfl
      have d3 := HD4.out.c 3 rfl
      have fa0 := HA4.out.f 0
      have fa1 := HA4.out.f 1
      have fa2 := HA4.out.f 2
      have fa3 := HA4.out.f 3
      have fq := HB4.out.f 0
      by_cases hsh : showVol (x - 1) y on l = s
      · have HN2 : Hid (readVol R s = some (x - 1, y, on, l)) := by unfold Hid readVol; rw [HN.out]; simp only [HLl.out, HON.out]; rw [if_pos hsh]
        have hne := Own.eqS_yes hsh
        generalize showVol (x - 1) y on l = sh at *
        have HRA := hid ((((((HA4.out).set 0 (.int .i64 (x - 1))).set 1 (.int .i64 y)).set 2 (.bool on)).set 3 (.slice a l.length cap)).other (p := ⟨w.heap.size + 1, 0, none⟩) (by show w.heap.size ≠ w.heap.size + 1; omega) (.bool true))
        have HRB := hid ((((((HB4.out).other (p := ⟨w.heap.size, 0, none⟩) (by show w.heap.size + 1 ≠ w.heap.size; omega) (.int .i64 (x - 1))).other (p := ⟨w.heap.size, 1, none⟩) (by show w.heap.size + 1 ≠ w.heap.size; omega) (.int .i64 y)).other (p := ⟨w.heap.size, 2, none⟩) (by show w.heap.size + 1 ≠ w.heap.size; omega) (.bool on)).other (p := ⟨w.heap.size, 3, none⟩) (by show w.heap.size + 1 ≠ w.heap.size; omega) (.slice a l.length cap)).set 0 (.bool true))
        have HBf := hid (below_set (below_set (below_set (below_set (below_set (HBw4.out) w.heap.size 0 (.int .i64 (x - 1)) (Nat.le_refl _)) w.heap.size 1 (.int .i64 y) (Nat.le_refl _)) w.heap.size 2 (.bool on) (Nat.le_refl _)) w.heap.size 3 (.slice a l.length cap) (Nat.le_refl _)) (w.heap.size + 1) 0 (.bool true) (by omega))
        have HIf : Hid (Ir ((((((w4).setCell ⟨w.heap.size, 0, none⟩ (.int .i64 (x - 1))).setCell ⟨w.heap.size, 1, none⟩ (.int .i64 y)).setCell ⟨w.heap.size, 2, none⟩ (.bool on)).setCell ⟨w.heap.size, 3, none⟩ (.slice a l.length cap)).setCell ⟨w.heap.size + 1, 0, none⟩ (.bool true)) w.heap.size (.slice a l.length cap) l) := RowO.mono (RowO.kept HI4.out (((((kept_set _ _ _ _).trans (kept_set _ _ _ _)).trans (kept_set _ _ _ _)).trans (kept_set _ _ _ _)).trans (kept_set _ _ _ _)) (fun b hb x => by have := hrb b hb; rcases x with (((x | x) | x) | x) | x <;> omega)) (by omega)
        go_wp2
        refine leaves_cons (f := 203) (args := #[.pointer (some ⟨w.heap.size, 0, none⟩), .pointer (some ⟨w.heap.size + 1, 0, none⟩)]) (by simp) (by simp [go_sem]) ?_
        refine (vcatch_none ⟨w.heap.size, 0, none⟩ ⟨w.heap.size + 1, 0, none⟩ _).mono ?_
        rintro e u' w5 ⟨rfl, rfl, rfl⟩
        refine ⟨_, results_two rfl _ _ w.heap.size (w.heap.size + 1) _ _ rfl rfl (load_row HRA.out Tryz.underlying84 rfl (by kernel_rfl)) (load_bool HRB.out), ?_⟩
        exact ⟨x - 1, y, on, l, a, cap, true, Or.inl ⟨HN2.out, hlen, rfl⟩, rfl, HIf.out, HBf.out⟩
      · have HN2 : Hid (readVol R s = none) := by unfold Hid readVol; rw [HN.out]; simp only [HLl.out, HON.out]; rw [if_neg hsh]
        have hne := Own.eqS_no hsh
        generalize showVol (x - 1) y on l = sh at *
        have HRA := hid ((((((HA4.out).set 0 (.int .i64 0)).set 1 (.int .i64 0)).set 2 (.bool false)).set 3 (.slice none 0 0)).other (p := ⟨w.heap.size + 1, 0, none⟩) (by show w.heap.size ≠ w.heap.size + 1; omega) (.bool false))
        have HRB := hid ((((((HB4.out).other (p := ⟨w.heap.size, 0, none⟩) (by show w.heap.size + 1 ≠ w.heap.size; omega) (.int .i64 0)).other (p := ⟨w.heap.size, 1, none⟩) (by show w.heap.size + 1 ≠ w.heap.size; omega) (.int .i64 0)).other (p := ⟨w.heap.size, 2, none⟩) (by show w.heap.size + 1 ≠ w.heap.size; omega) (.bool false)).other (p := ⟨w.heap.size, 3, none⟩) (by show w.heap.size + 1 ≠ w.heap.size; omega) (.slice none 0 0)).set 0 (.bool false))
        have HBf := hid (below_set (below_set (below_set (below_set (below_set (HBw4.out) w.heap.size 0 (.int .i64 0) (Nat.le_refl _)) w.heap.size 1 (.int .i64 0) (Nat.le_refl _)) w.heap.size 2 (.bool false) (Nat.le_refl _)) w.heap.size 3 (.slice none 0 0) (Nat.le_refl _)) (w.heap.size + 1) 0 (.bool false) (by omega))
        go_wp2
        refine leaves_cons (f := 203) (args := #[.pointer (some ⟨w.heap.size, 0, none⟩), .pointer (some ⟨w.heap.size + 1, 0, none⟩)]) (by simp) (by simp [go_sem]) ?_
        refine (vcatch_none ⟨w.heap.size, 0, none⟩ ⟨w.heap.size + 1, 0, none⟩ _).mono ?_
        rintro e u' w5 ⟨rfl, rfl, rfl⟩
        refine ⟨_, results_two rfl _ _ w.heap.size (w.heap.size + 1) _ _ rfl rfl (load_row HRA.out Tryz.underlying84 rfl (by kernel_rfl)) (load_bool HRB.out), ?_⟩
        exact ⟨0, 0, false, [], none, 0, false, Or.inr ⟨HN2.out, rfl, rfl, rfl, rfl, rfl⟩, rfl, vnone_row _ _ _, HBf.out⟩
    · have HN : Hid (readVol R s = none) := HNV.out hn
      clear hn
      unfold lack
      go_wp2
      refine leaves_cons (f := 203) (args := #[.pointer (some ⟨w.heap.size, 0, none⟩), .pointer (some ⟨w.heap.size + 1, 0, none⟩)]) (by simp) (by simp [go_sem]) ?_
      refine (vcatch_some w.heap.size (w.heap.size + 1) u pv [] _ _ _ _ _ _ HA2.out HB2.out (by omega)).mono ?_
      rintro e u' w3 ⟨rfl, rfl, RA, RB, k3⟩
      refine ⟨_, results_two rfl _ w3 w.heap.size (w.heap.size + 1) _ _ rfl rfl (load_row RA Tryz.underlying84 rfl (by kernel_rfl)) (load_bool RB), ?_⟩
      exact ⟨0, 0, false, [], none, 0, false, Or.inr ⟨HN.out, rfl, rfl, rfl, rfl, rfl⟩, rfl, vnone_row _ _ _, HBw.out.trans (k3.below HBw.out.size (fun b hb x => by rcases x with x | x <;> omega))⟩

/-- A struct out of its own block, and a slot. -/
theorem vresults_one {P : Program} {fn : Func} {p q : Tmp} {ty : TypeId} (h : fn.results = #[.cell p ty, .tmp q]) (tmps : Array Value) (w : World) (g : Nat) (v b : Value)
    (hp : tmps.getD p undef = .pointer (some ⟨g, 0, none⟩)) (hq : tmps.getD q undef = b) (h1 : (loadVar ty ⟨g, 0, none⟩).run P w = .ok v w) :
    (results fn tmps).run P w = .ok (.tuple #[v, b]) w := by
  rw [results_cell_tmp h, hp, hq]
  simp [asAddr, h1]

set_option maxRecDepth 100000 in
set_option maxHeartbeats 2000000 in
theorem iReadVol (R : ByteArray → Int × Nat) (hR : Reads R) (s : ByteArray) (hs : s.size ≤ 1048576) (hnv : NoVol R s 5 → readVol R s = none) (w : World) (u : TypeId) (pv : Value) (hL : Lacks w u pv) (T : Sums w) :
    Calls Tryz.prog 144 #[.string s] w fun e w' => VolOut R s w w' e := by
  have HR := hid hR
  have HNV := hid hnv
  clear hnv
  have HL := hid hL
  have HT := hid T
  clear hR hL T
  go_enter Tryz.func144, Tryz.ntmps144
  go_wp2_with fail
  obtain ⟨wc, hwc, ec, A0, K0⟩ := one_new w [.int .i64 0, .int .i64 0, .bool false, .slice none 0 0] 84
  simp only [hwc]
  clear hwc
  have HA := hid A0
  have HK := hid K0
  clear A0 K0
  refine (readKindVol R HR.out s hs HNV.out wc u pv (HL.out.kept (Kept.of_below (S := fun _ => False) HK.out) (fun x => x)) (HT.out.below HK.out)).mono ?_
  rintro r w1 ⟨h, e, on, l, a, cap, ok, hi, rfl, hI, b1⟩
  have HIs := hid hi
  have HI := hid hI
  have HA1 := hid (HA.out.below b1 HA.out.lt)
  have HB1 := hid (HK.out.trans (b1.mono HK.out.size))
  clear hi hI b1 HA
  have a0 := HA1.out.c 0 rfl
  have a1 := HA1.out.c 1 rfl
  have a2 := HA1.out.c 2 rfl
  have a3 := HA1.out.c 3 rfl
  have f0 := HA1.out.f 0
  have f1 := HA1.out.f 1
  have f2 := HA1.out.f 2
  have f3 := HA1.out.f 3
  have HRA := hid ((((HA1.out.set 0 (.int .i64 h)).set 1 (.int .i64 e)).set 2 (.bool on)).set 3 (.slice a l.length cap))
  have HBf := hid (below_set (below_set (below_set (below_set HB1.out w.heap.size 0 (.int .i64 h) (Nat.le_refl _)) w.heap.size 1 (.int .i64 e) (Nat.le_refl _)) w.heap.size 2 (.bool on) (Nat.le_refl _)) w.heap.size 3 (.slice a l.length cap) (Nat.le_refl _))
  have HIf : Hid (Ir ((((w1.setCell ⟨w.heap.size, 0, none⟩ (.int .i64 h)).setCell ⟨w.heap.size, 1, none⟩ (.int .i64 e)).setCell ⟨w.heap.size, 2, none⟩ (.bool on)).setCell ⟨w.heap.size, 3, none⟩ (.slice a l.length cap)) w.heap.size (.slice a l.length cap) l) :=
    RowO.mono (RowO.kept HI.out ((((kept_set _ _ _ _).trans (kept_set _ _ _ _)).trans (kept_set _ _ _ _)).trans (kept_set _ _ _ _)) (fun b hb x => by have := (RowO.lt HI.out hb).1; rcases x with ((x | x) | x) | x <;> omega)) (by omega)
  unfold vlV
  go_wp2
  refine bodyPost_ret (vresults_one rfl _ _ w.heap.size _ _ rfl rfl (load_row HRA.out Tryz.underlying84 rfl (by kernel_rfl))) rfl ?_
  exact ⟨h, e, on, l, a, cap, ok, HIs.out, rfl, HIf.out, HBf.out⟩

end Go.Proofs.YtjlkighikfgaeaaGreatDoor.Rd

namespace Go.Proofs.YtjlkighikfgaeaaGreatDoor.Rd
open Go.RowKit Go.Proofs.YtjlkighikfgaeaaGreatDoor.Mem
open Go.Proofs.YtjlkighikfgaeaaGreatDoor.Var (bl val varS first_low spec_hit spec_none impl_read impl_cut impl_none hit_of hit_shape val_le len_take bl_length)
set_option linter.unusedVariables false

def Tx (s : ByteArray) (p : Int × Nat) : Prop := (p.2 ≠ 0 → varS p.1 = s.extract 0 p.2) ∧ (p.2 ≠ 0 → (bl s).getD 0 0 < 128 → p.1 = (bl s).getD 0 0)

theorem tx_none (s : ByteArray) (x : Int) : Tx s (x, 0) := ⟨fun h => absurd rfl h, fun h => absurd rfl h⟩

theorem val_first (s : ByteArray) (h0 : 0 < s.size) (h : (bl s).getD 0 0 < 128) : val ((bl s).take 1) = (bl s).getD 0 0 := by
  have hl := bl_length s
  unfold bl at *
  cases hd : s.data.toList with
  | nil => rw [hd] at hl; simp at hl; omega
  | cons c t =>
    rw [hd] at h
    simp only [List.map_cons, List.take_succ_cons, List.take_zero, val, List.getD_cons_zero] at *
    omega

theorem rv_ex2 (s : ByteArray) (hs : s.size ≤ maxLen) : ∃ p : Int × Nat, RV s p ∧ Tx s p := by
  rcases first_low s (min 7 s.size) (by omega) with ⟨m, h1, h2, h3⟩ | h1
  · by_cases hz : m = 0 ∨ (bl s).getD m 0 ≠ 0
    · have hv := val_le ((bl s).take (m + 1)) (by have := len_take s (m + 1); omega)
      refine ⟨(val ((bl s).take (m + 1)), m + 1), ⟨fun w => spec_hit s m w hs (by omega) (by omega) (hit_of s m (by omega) (by omega) h2 h3 hz) ?_, fun w => impl_read s m w hs (by omega) (by omega) h2 h3 hz, by show m + 1 ≤ s.size; omega, hv.1, hv.2⟩, fun _ => hit_of s m (by omega) (by omega) h2 h3 hz, fun _ hb => ?_⟩
      · intro k hk1 hkm hh
        obtain ⟨j, rfl, _, g2, _⟩ := hit_shape s k (by omega) (by omega) hh
        have := h2 j (by omega)
        omega
      · have hm : m = 0 := by
          by_cases e : m = 0
          · exact e
          · have := h2 0 (by omega)
            omega
        subst hm
        exact val_first s (by omega) hb
    · have hm : m ≠ 0 := fun e => hz (Or.inl e)
      have hb : (bl s).getD m 0 = 0 := by
        by_cases e : (bl s).getD m 0 = 0
        · exact e
        · exact absurd (Or.inr e) hz
      refine ⟨(0, 0), ⟨fun w => spec_none s w hs ?_, fun w => impl_cut s m w hs (by omega) (by omega) h2 hb hm, Nat.zero_le _, Int.le_refl _, by decide⟩, tx_none _ _⟩
      intro k hk1 hk7 hks hh
      obtain ⟨j, rfl, g1, g2, g3⟩ := hit_shape s k hks hk7 hh
      by_cases hj : j < m
      · have := h2 j hj; omega
      · by_cases e : j = m
        · subst e
          rcases g3 with g3 | g3
          · exact hm g3
          · exact g3 hb
        · have := g1 m (by omega); omega
  · refine ⟨(0, 0), ⟨fun w => spec_none s w hs ?_, fun w => impl_none s w hs (fun j a b => h1 j (by omega)), Nat.zero_le _, Int.le_refl _, by decide⟩, tx_none _ _⟩
    intro k hk1 hk7 hks hh
    obtain ⟨j, rfl, _, g2, _⟩ := hit_shape s k hks hk7 hh
    have := h1 j (by omega)
    omega

theorem reads_ex2 : ∃ R, Reads R ∧ ∀ s : ByteArray, s.size ≤ maxLen → Tx s (R s) := by
  have h : ∀ s : ByteArray, ∃ p : Int × Nat, s.size ≤ maxLen → RV s p ∧ Tx s p := fun s => by
    by_cases hs : s.size ≤ maxLen
    · obtain ⟨p, hp⟩ := rv_ex2 s hs
      exact ⟨p, fun _ => hp⟩
    · exact ⟨(0, 0), fun h => absurd h hs⟩
  obtain ⟨R, hR⟩ := Classical.axiomOfChoice h
  exact ⟨R, fun s hs => (hR s hs).1, fun s hs => (hR s hs).2⟩

/-- What is left behind a head is the tail. -/
theorem rest_app (a b : ByteArray) (n : Nat) (hn : n = a.size) : rest (a ++ b) n = b := by
  subst hn
  unfold rest
  apply ByteArray.ext
  simp
  have e1 : a.data.extract a.data.size (a.data.size + b.data.size) = #[] := by
    apply Array.eq_empty_of_size_eq_zero
    rw [Array.size_extract]
    omega
  have e2 : b.data.extract 0 b.data.size = b.data := Array.extract_size
  show a.data.extract a.data.size (a.data.size + b.data.size) ++ b.data.extract 0 b.data.size = b.data
  rw [e1, e2, Array.empty_append]

end Go.Proofs.YtjlkighikfgaeaaGreatDoor.Rd

namespace Go.Proofs.YtjlkighikfgaeaaGreatDoor.Rd
open Go.RowKit Go.Proofs.YtjlkighikfgaeaaGreatDoor.Mem Go.Proofs.YtjlkighikfgaeaaGreatDoor.Sec
open Go.Proofs.YtjlkighikfgaeaaGreatDoor.Var (bl varS)
set_option linter.unusedVariables false

theorem three_steps {R : ByteArray → Int × Nat} {s : ByteArray} {i n : Nat} {x y f : Int} {l : List Int} {z : Nat} (h : nums R s i (n + 3) = some (x :: y :: f :: l, z)) :
    ∃ k1 k2 k3, R (rest s i) = (x, k1) ∧ R (rest s (i + k1)) = (y, k2) ∧ R (rest s (i + k1 + k2)) = (f, k3) ∧ k1 ≠ 0 ∧ k2 ≠ 0 ∧ k3 ≠ 0 := by
  have s1 := nums_step (R := R) (s := s) (i := i) (k := 0) (l := []) (e := i) rfl
  by_cases q1 : (R (rest s i)).2 = 0
  · rw [if_pos q1] at s1
    rw [show n + 3 = (n + 2) + 1 by omega] at h
    have := nums_none (k := 1) s1 (n + 2)
    rw [show 1 + (n + 2) = (n + 2) + 1 by omega] at this
    rw [this] at h
    cases h
  rw [if_neg q1] at s1
  have s2 := nums_step s1
  by_cases q2 : (R (rest s (i + (R (rest s i)).2))).2 = 0
  · rw [if_pos q2] at s2
    have := nums_none (k := 2) s2 (n + 1)
    rw [show 2 + (n + 1) = n + 3 by omega] at this
    rw [this] at h
    cases h
  rw [if_neg q2] at s2
  have s3 := nums_step s2
  by_cases q3 : (R (rest s (i + (R (rest s i)).2 + (R (rest s (i + (R (rest s i)).2))).2))).2 = 0
  · rw [if_pos q3] at s3
    have := nums_none (k := 3) s3 n
    rw [show 3 + n = n + 3 by omega] at this
    rw [this] at h
    cases h
  rw [if_neg q3] at s3
  have h7 := nums_split3 (n := n) s3
  rw [h] at h7
  cases hn : nums R s (i + (R (rest s i)).2 + (R (rest s (i + (R (rest s i)).2))).2 + (R (rest s (i + (R (rest s i)).2 + (R (rest s (i + (R (rest s i)).2))).2))).2) n with
  | none => rw [hn] at h7; cases h7
  | some p =>
    rw [hn] at h7
    simp only [Option.map_some, Option.some.injEq, Prod.mk.injEq, List.cons.injEq] at h7
    obtain ⟨⟨rfl, rfl, rfl, _⟩, _⟩ := h7
    exact ⟨_, _, _, rfl, rfl, rfl, q1, q2, q3⟩

theorem vr_of {x : Int} (h0 : 0 ≤ x) (h1 : x ≤ 562949953421311) : vr x = varS x := by unfold vr; rw [if_pos ⟨h0, h1⟩]

theorem flag_bytes (on : Bool) : ∃ c : UInt8, flag on = ⟨#[c]⟩ ∧ c.toNat ≤ 1 := by
  cases on
  · exact ⟨0, by decide, by decide⟩
  · exact ⟨1, by decide, by decide⟩

theorem no_flag (R : ByteArray → Int × Nat) (hR : Reads R) (hT : ∀ s : ByteArray, s.size ≤ maxLen → Tx s (R s)) (s : ByteArray) (hs : s.size ≤ 1048576) : NoVol R s 5 → readVol R s = none := by
  rintro (h | ⟨x, y, f, l, z, h, hf⟩)
  · unfold readVol; rw [h]
  unfold readVol
  rw [h]
  simp only []
  rw [if_neg]
  intro hsh
  obtain ⟨k1, k2, k3, e1, e2, e3, q1, q2, q3⟩ := three_steps (n := 4) h
  have hb : ∀ i, (rest s i).size ≤ maxLen := fun i => by rw [rest_size]; unfold maxLen; omega
  have r1 := hR _ (hb 5)
  have r2 := hR _ (hb (5 + k1))
  have t1 := (hT _ (hb 5)).1
  have t2 := (hT _ (hb (5 + k1))).1
  have t3 := (hT _ (hb (5 + k1 + k2))).2
  rw [e1] at r1 t1
  rw [e2] at r2 t2
  rw [e3] at t3
  have z1 : (vr x).size = k1 := by rw [vr_of r1.x0 r1.x1, t1 q1]; have := r1.le; simp at this ⊢; omega
  have z2 : (vr y).size = k2 := by rw [vr_of r2.x0 r2.x1, t2 q2]; have := r2.le; simp at this ⊢; omega
  by_cases hv : volOk (x - 1) y (decide (f = 1)) (l.map (· + -1)) = true
  · obtain ⟨c, hc, hc1⟩ := flag_bytes (decide (f = 1))
    rw [← vol_yes hv] at hsh
    unfold summed showLs at hsh
    obtain ⟨A, hA⟩ : ∃ A, Go.Proofs.YtjlkighikfgaeaaGreatDoor.Fix.fxS (crc (⟨#[118]⟩ ++ (vr (x - 1 + 1) ++ vr y) ++ flag (decide (f = 1)) ++ vrs (-1) (l.map (· + -1)))) 4 = A := ⟨_, rfl⟩
    have hA4 : A.size = 4 := by rw [← hA, Go.Proofs.YtjlkighikfgaeaaGreatDoor.Fix.fxS_size]
    rw [hA] at hsh
    rw [show x - 1 + 1 = x by omega, hc] at hsh
    generalize vrs (-1) (l.map (· + -1)) = V at hsh
    have hs2 : (A ++ ⟨#[118]⟩ ++ vr x ++ vr y) ++ (⟨#[c]⟩ ++ V) = s := by rw [← hsh]; simp only [ByteArray.append_assoc]
    have hr := rest_app (A ++ ⟨#[118]⟩ ++ vr x ++ vr y) (⟨#[c]⟩ ++ V) (5 + k1 + k2) (by simp only [ByteArray.size_append, hA4, z1, z2]; rfl)
    rw [hs2] at hr
    rw [hr] at t3
    have hg : (bl (⟨#[c]⟩ ++ V)).getD 0 0 = (c.toNat : Int) := by simp [bl]
    rw [hg] at t3
    have := t3 q3 (by omega)
    simp at this
    omega
  · rw [vol_no (by simpa using hv)] at hsh
    have hk := r1.le
    rw [rest_size, ← hsh] at hk
    have h0 : (⟨#[]⟩ : ByteArray).size = 0 := rfl
    rw [h0] at hk
    have : k1 ≤ 0 - 5 := hk
    omega

end Go.Proofs.YtjlkighikfgaeaaGreatDoor.Rd

namespace Go.Proofs.YtjlkighikfgaeaaGreatDoor.Rd
open Go.RowKit Go.Proofs.YtjlkighikfgaeaaGreatDoor.Mem Go.Proofs.YtjlkighikfgaeaaGreatDoor.Sec
set_option linter.unusedVariables false

/-- 'append' on an owned row, as one step of a region that draws its order. -/
theorem step_app_own {P : Program} (t e : TypeId) (z : Value) (k bytes : Nat) (ht : P.underlying t = some (.slice e)) (hinfo : (P.info? e).map (fun i => (i.zero, i.size, i.bytes)) = some (some z, k, bytes)) (hzs : z.cells.size = k) (hk : 0 < k) (hby : bytes ≤ 1048576)
    {ops : Array Oper} {o : Oper} {a : Act} {w : World} {K : Act → World → Prop} {Q : Exit → Act → World → Prop} {E : Prop} (hgd : o.guard = none) (s x : Operand)
    (ho : o.op = .call { callee := .builtin .append, args := #[s, x], argTypes := #[t, t] })
    (B : Nat) (v : Value) (n : Nat) (xs : List Value) (hs : a.eval s = v) (h : RowO w B e k v n xs) (ad : Addr) (m c : Nat) (news : List Value) (hx : a.eval x = .slice (some ad) m c) (hl : news.length = m * k) (hS : Sl w (some ad) (m * k) (fun i => news.getD i undef)) (h1 : ∀ u ∈ news, u.oneCell' = true)
    (hm : n + m ≤ 1048576) (hB : B ≤ w.heap.size)
    (hK : ∀ v' w', RowO w' B e k v' (n + m) (xs ++ news) → Kept (fun b => rb v = some b) w w' → K (a.put o.dst v') w') :
    if Region.wanted o (yielded ops a.tmps) = true then Oper.wp P o a w K Q else E := by
  have hw : Region.wanted o (yielded ops a.tmps) = true := by simp [Region.wanted, hgd]
  rw [if_pos hw]
  obtain ⟨v', w', hr, h2, h3, h4⟩ := run_app (P := P) w B t o.type e z k bytes ht hinfo hzs hk v n xs h ad m c news hl hS h1 hm hby hB
  unfold Oper.wp execOp
  simp only [ho, resolve, invoke, builtin, Sem.run_bind, Sem.run_pure, Result.andThen_ok, List.map_toArray, List.map_cons, List.map_nil, hs, hx, hr]
  exact hK v' w' h2 h3

theorem infoInt : (Tryz.prog.info? 3).map (fun i => (i.zero, i.size, i.bytes)) = some (some (.int .i64 0), 1, 8) := by kernel_rfl

/-- A volume under way: its box at G, its list of its own behind it. -/
structure VolWay (w1 wr : World) (G : Nat) (x y : Int) (on : Bool) (p : Option Addr) (d : Nat) (l : List Int) : Prop where
  box : Row wr G [.int .i64 x, .int .i64 y, .bool on, .slice p l.length d]
  row : Ir wr (G + 1) (.slice p l.length d) l
  bel : Below G w1 wr
  sz : G + 1 ≤ wr.heap.size

theorem VolWay.after {w1 wr w' : World} {G : Nat} {x y : Int} {on : Bool} {p : Option Addr} {d : Nat} {l : List Int} {z : Int} (h : VolWay w1 wr G x y on p d l)
    (k : Kept (fun b => rb (.slice p l.length d) = some b) ((wr.drew).alloc (.cells #[.int .i64 z] 3)) w') : Row w' G [.int .i64 x, .int .i64 y, .bool on, .slice p l.length d] := by
  have hal : Below wr.heap.size wr ((wr.drew).alloc (.cells #[.int .i64 z] 3)) := ⟨rfl, rfl, rfl, by simp, fun k hk => heap_alloc_old wr.drew _ hk⟩
  have hnb : ¬ rb (.slice p l.length d) = some G := fun e => by have := (RowO.lt h.row e).1; omega
  exact (h.box.below hal h.box.lt).kept k hnb

theorem VolWay.rowA {w1 wr : World} {G : Nat} {x y : Int} {on : Bool} {p : Option Addr} {d : Nat} {l : List Int} (h : VolWay w1 wr G x y on p d l) (z : Int) :
    RowO ((wr.drew).alloc (.cells #[.int .i64 z] 3)) (G + 1) 3 1 (.slice p l.length d) l.length (ic l) :=
  RowO.below h.row ⟨rfl, rfl, rfl, by simp, fun k hk => heap_alloc_old wr.drew _ hk⟩

theorem VolWay.szA {w1 wr : World} {G : Nat} {x y : Int} {on : Bool} {p : Option Addr} {d : Nat} {l : List Int} (h : VolWay w1 wr G x y on p d l) (z : Int) : G + 1 ≤ ((wr.drew).alloc (.cells #[.int .i64 z] 3)).heap.size := by
  have := h.sz
  simp
  omega

theorem VolWay.step {w1 wr w' : World} {G : Nat} {x y : Int} {on : Bool} {p p' : Option Addr} {d d' : Nat} {l : List Int} {z : Int} (h : VolWay w1 wr G x y on p d l)
    (r : RowO w' (G + 1) 3 1 (.slice p' (l.length + 1) d') (l.length + 1) (ic l ++ [.int .i64 z])) (k : Kept (fun b => rb (.slice p l.length d) = some b) ((wr.drew).alloc (.cells #[.int .i64 z] 3)) w') :
    VolWay w1 (w'.setCell ⟨G, 3, none⟩ (.slice p' (l.length + 1) d')) G x y on p' d' (l ++ [z]) := by
  have hal : Below wr.heap.size wr ((wr.drew).alloc (.cells #[.int .i64 z] 3)) := ⟨rfl, rfl, rfl, by simp, fun k hk => heap_alloc_old wr.drew _ hk⟩
  have hnb : ¬ rb (.slice p l.length d) = some G := fun e => by have := (RowO.lt h.row e).1; omega
  have b0 : Row ((wr.drew).alloc (.cells #[.int .i64 z] 3)) G [.int .i64 x, .int .i64 y, .bool on, .slice p l.length d] := h.box.below hal h.box.lt
  have b1 := (b0.kept k hnb).set 3 (.slice p' (l.length + 1) d')
  have hl : (l ++ [z]).length = l.length + 1 := by simp
  refine ⟨?_, ?_, ?_, ?_⟩
  · rw [hl]; exact b1
  · have r2 : RowO (w'.setCell ⟨G, 3, none⟩ (.slice p' (l.length + 1) d')) (G + 1) 3 1 (.slice p' (l.length + 1) d') (l.length + 1) (ic l ++ [.int .i64 z]) :=
      RowO.kept r (kept_set w' G 3 _) (fun b hb e => by subst e; have := (RowO.lt r hb).1; omega)
    unfold Ir
    rw [hl, ← ic_app]
    exact r2
  · have k0 : Below G wr w' := by
      have k1 : Below G wr ((wr.drew).alloc (.cells #[.int .i64 z] 3)) := hal.mono (by have := h.sz; omega)
      exact k1.trans (k.below (by have := h.sz; have := hal.size; omega) (fun b hb e => by have := (RowO.lt h.row e).1; omega))
    exact below_set (h.bel.trans k0) G 3 _ (Nat.le_refl _)
  · have := h.sz
    have := hal.size
    have := k.size
    simp
    omega

theorem vol_start (w1 : World) (x y : Int) (on : Bool) : VolWay w1 (w1.alloc (.cells #[.int .i64 x, .int .i64 y, .bool on, .slice none 0 0] 84)).drew w1.heap.size x y on none 0 [] := by
  have b : Below w1.heap.size w1 (w1.alloc (.cells #[.int .i64 x, .int .i64 y, .bool on, .slice none 0 0] 84)).drew := ((Below.refl _ _).alloc (Nat.le_refl _) _).drew
  obtain ⟨t, e⟩ := Row.new w1 [.int .i64 x, .int .i64 y, .bool on, .slice none 0 0] 84
  exact ⟨⟨t, e⟩, vnone_row _ _ _, b, by show _ ≤ (w1.alloc _).heap.size; simp⟩

set_option maxRecDepth 100000 in
set_option maxHeartbeats 4000000 in
theorem sReadVol (R : ByteArray → Int × Nat) (hR : Reads R) (s : ByteArray) (hs : s.size ≤ 1048576) (w : World) :
    Calls Tryz.prog 48 #[.string s] w fun e w' => VolOut R s w w' e := by
  have HR := hid hR
  clear hR
  go_enter Tryz.func48, Tryz.ntmps48
  go_wp2_with fail
  obtain ⟨wc, hwc, ec, A0, K0⟩ := one_new w [.int .i64 0, .int .i64 0, .bool false, .slice none 0 0] 84
  simp only [hwc]
  clear hwc
  have HA := hid A0
  have HK := hid K0
  clear A0 K0
  refine (l4Vars R HR.out s hs 5 7 (by decide) (by decide) wc).mono ?_
  rintro e w1 ⟨hg, b1⟩
  have HA1 := hid (HA.out.below b1 HA.out.lt)
  have HB1 := hid (HK.out.trans (b1.mono HK.out.size))
  clear b1 HA HK
  cases hn : nums R s 5 7 with
  | none =>
    rw [hn] at hg
    obtain ⟨v, rfl⟩ := hg
    have HN : Hid (readVol R s = none) := by unfold Hid readVol; rw [hn]
    clear hn
    have a0 := HA1.out.c 0 rfl
    have a1 := HA1.out.c 1 rfl
    have a2 := HA1.out.c 2 rfl
    have a3 := HA1.out.c 3 rfl
    have f0 := HA1.out.f 0
    have f1 := HA1.out.f 1
    have f2 := HA1.out.f 2
    have f3 := HA1.out.f 3
    have HRA := hid ((((HA1.out.set 0 (.int .i64 0)).set 1 (.int .i64 0)).set 2 (.bool false)).set 3 (.slice none 0 0))
    have HBf := hid (below_set (below_set (below_set (below_set HB1.out w.heap.size 0 (.int .i64 0) (Nat.le_refl _)) w.heap.size 1 (.int .i64 0) (Nat.le_refl _)) w.heap.size 2 (.bool false) (Nat.le_refl _)) w.heap.size 3 (.slice none 0 0) (Nat.le_refl _))
    go_wp2
    refine bodyPost_ret (vresults_one rfl _ _ w.heap.size _ _ rfl rfl (load_row HRA.out Tryz.underlying84 rfl (by kernel_rfl))) rfl ?_
    exact ⟨0, 0, false, [], none, 0, false, Or.inr ⟨HN.out, rfl, rfl, rfl, rfl, rfl⟩, rfl, vnone_row _ _ _, HBf.out⟩
  | some p =>
    obtain ⟨l, z⟩ := p
    rw [hn] at hg
    obtain ⟨v, rfl, hI⟩ := hg
    have hl := nums_len hn
    have hbd := nums_bd HR.out (by unfold maxLen; omega) hn
    obtain ⟨a, cap, rfl, hW⟩ := hI.w
    match l, hl with
    | [x, y, f, d0, d1, d2, d3], hl =>
    have k0 := hW.sl 0 (by simp)
    obtain ⟨g, off, rfl, c0⟩ := k0
    have hcells : ∀ i v, [x, y, f, d0, d1, d2, d3][i]? = some v → w1.cell? ⟨g, off + i, none⟩ = some (.int .i64 v) := by
      intro i v hi
      obtain ⟨hi8, hv⟩ := List.getElem?_eq_some_iff.1 hi
      obtain ⟨g1, off1, e1, c1⟩ := hW.sl i hi8
      cases e1
      rw [c1, ← hv]
      simp [List.getD, List.getElem?_eq_getElem hi8]
    have HC := hid hcells
    have c1 := hcells 1 y rfl
    have c2 := hcells 2 f rfl
    replace c0 : w1.cell? ⟨g, off + 0, none⟩ = some (.int .i64 x) := c0
    rw [Nat.add_zero] at c0
    have hx := hbd x (by simp)
    have HD : Hid (∀ (i : Nat) (v : Int), [x, y, f, d0, d1, d2, d3][i]? = some v → 0 ≤ v ∧ v ≤ 562949953421311) := fun i v hi => hbd v (List.mem_of_getElem? hi)
    have hgl : g < w1.heap.size := World.block_lt_of_cell? w1 _ c0
    have HN := hid hn
    have hz : (0 : Int) ≤ (z : Int) := by omega
    obtain ⟨on, hon⟩ : ∃ on, (f == 1) = on := ⟨_, rfl⟩
    have HO : Hid (decide (f = 1) = on) := by rw [Hid, ← hon]; rfl
    clear hn hbd hI hW hl hcells
    go_wp2
    go_region
    obtain ⟨wq, hwq⟩ : ∃ wq, (w1.alloc (.cells #[.int .i64 (x - 1), .int .i64 y, .bool on, .slice none 0 0] 84)).drew = wq := ⟨_, rfl⟩
    have HV : Hid (VolWay w1 wq w1.heap.size (x - 1) y on none 0 []) := by
      rw [← hwq]
      exact vol_start w1 (x - 1) y on
    simp only [hwq]
    clear hwq c0 c1 c2 hx hon
    go_wp2
    go_loopw [7] (fun i wr => ∃ (k : Nat) (p : Option Addr) (d : Nat) (m : List Int), 3 ≤ k ∧ k ≤ 7 ∧ i = .int .i64 (k : Int) ∧ Hid (m = ([d0, d1, d2, d3].take (k - 3)).map (· + -1)) ∧ Hid (VolWay w1 wr w1.heap.size (x - 1) y on p d m)) (fun i _ => 7 - (intOf i).toNat)
    case atStart => exact ⟨3, none, 0, [], by omega, by omega, rfl, rfl, HV⟩
    case round =>
      obtain ⟨k, p, d, m, hk3, hk, rfl, Hm, HW⟩ := hrel
      clear HV
      by_cases hlt : k < 7
      · obtain ⟨y0, hy⟩ : ∃ y0, [x, y, f, d0, d1, d2, d3][k]? = some y0 := by
          rw [List.getElem?_eq_getElem (by simp; omega)]; exact ⟨_, rfl⟩
        have HMm : Hid (m ++ [y0 - 1] = ([d0, d1, d2, d3].take (k + 1 - 3)).map (· + -1)) := by
          obtain ⟨q, rfl⟩ : ∃ q, k = q + 3 := ⟨k - 3, by omega⟩
          have hy' : [d0, d1, d2, d3][q]? = some y0 := by rw [← hy]; rfl
          rw [Hid, show q + 3 + 1 - 3 = q + 1 by omega, List.take_add_one, hy', Hm.out]
          simp
          omega
        have cy := HC.out k y0 hy
        have hyb : 0 ≤ y0 ∧ y0 ≤ 562949953421311 := HD.out k y0 hy
        have hwy : IntKind.i64.wrap (y0 - 1) = y0 - 1 := by rw [IntWalk.i64_left, IntWalk.wrap64_in _ (by omega)]
        have hGr : w1.heap.size < wr.heap.size := HW.out.sz
        have hgr : g < wr.heap.size := Nat.lt_trans hgl hGr
        have cyr : wr.cell? ⟨g, off + k, none⟩ = some (.int .i64 y0) := (HW.out.bel.cell hgl).trans cy
        have b3 := HW.out.box.c 3 rfl
        have hmL : m.length + 1 ≤ 1048576 := by rw [Hm.out]; simp; omega
        clear cy hy Hm
        go_wp2
        go_region_law ((refine step_app_own 36 3 (.int .i64 0) 1 8 Tryz.underlying36 infoInt rfl (by decide) (by decide) (by rfl) (.tmp 36) (.tmp 42) (by rfl) (w1.heap.size + 1) (.slice p m.length d) m.length (ic m) (by rfl) (HW.out.rowA (y0 - 1)) ⟨wr.heap.size, 0, none⟩ 1 1 [.int .i64 (y0 - 1)] (by rfl) rfl (one_row wr.drew (y0 - 1)) (by intro u hu; simp at hu; subst hu; rfl) hmL (HW.out.szA (y0 - 1)) ?_; intro v' w' r kk; obtain ⟨p', d', e', _⟩ := r.wr; subst e'; have hb' := HW.out.after kk; have q3 := hb'.c 3 rfl; have qf := hb'.f 3; have HS := hid (HW.out.step r kk); clear hb'))
        all_goals (go_wp2; exact ⟨⟨k + 1, p', d', m ++ [y0 - 1], by omega, by omega, by go_num, HMm, HS⟩, by simp [intOf]; omega⟩)
      · obtain rfl : k = 7 := by omega
        obtain rfl : m = [d0, d1, d2, d3].map (· + -1) := Hm.out
        have hgen : ([d0, d1, d2, d3].map (· + -1)).length = 4 := rfl
        obtain ⟨m, hmm⟩ : ∃ m, m = [d0, d1, d2, d3].map (· + -1) := ⟨_, rfl⟩
        rw [← hmm] at HW hgen
        have HM := hid hmm
        have HBr := hid (HB1.out.trans (HW.out.bel.mono (by have := HB1.out.size; omega)))
        have HAr := hid (HA1.out.below HW.out.bel HA1.out.lt)
        have HWb := hid HW.out.box
        have HWr := hid HW.out.row
        have hbg : w.heap.size < w1.heap.size := HA1.out.lt
        have HMl : Hid (m.length = 4) := hgen
        have hm1 : m.length ≤ 1048576 := by omega
        have HSr : Hid (Ints wr p m) := by
          obtain ⟨a', cap', ea, hW⟩ := Ir.w HWr.out
          cases ea
          exact hW.sl
        clear hmm hgen HW Hm HA1 HB1 HC hlt hk hk3
        have p0 := HWb.out.c 0 rfl
        have p1 := HWb.out.c 1 rfl
        have p2 := HWb.out.c 2 rfl
        have p3 := HWb.out.c 3 rfl
        go_wp2_with fail
        refine (sShowVol wr (x - 1) y on p d m HSr.out hm1).mono ?_
        rintro e w5 ⟨rfl, b5⟩
        have HA5 := hid (HAr.out.below b5 HAr.out.lt)
        have HZ5 := hid (HWb.out.below b5 HWb.out.lt)
        have HI5 := hid (RowO.below HWr.out b5)
        have HB5 := hid (HBr.out.trans (b5.mono HBr.out.size))
        clear b5 HAr HWb HBr HWr HSr p0 p1 p2 p3
        have a0 := HA5.out.c 0 rfl
        have a1 := HA5.out.c 1 rfl
        have a2 := HA5.out.c 2 rfl
        have a3 := HA5.out.c 3 rfl
        have f0 := HA5.out.f 0
        have f1 := HA5.out.f 1
        have f2 := HA5.out.f 2
        have f3 := HA5.out.f 3
        have p0 := HZ5.out.c 0 rfl
        have p1 := HZ5.out.c 1 rfl
        have p2 := HZ5.out.c 2 rfl
        have p3 := HZ5.out.c 3 rfl
        by_cases hsh : showVol (x - 1) y on m = s
        · have HN2 : Hid (readVol R s = some (x - 1, y, on, m)) := by unfold Hid readVol; rw [HN.out]; simp only []; rw [HO.out, ← HM.out, if_pos hsh]
          have hne := Own.eqS_yes hsh
          generalize showVol (x - 1) y on m = sh at *
          have HRA := hid (((((HA5.out).set 0 (.int .i64 (x - 1))).set 1 (.int .i64 y)).set 2 (.bool on)).set 3 (.slice p m.length d))
          have HBf := hid (below_set (below_set (below_set (below_set (HB5.out) w.heap.size 0 (.int .i64 (x - 1)) (Nat.le_refl _)) w.heap.size 1 (.int .i64 y) (Nat.le_refl _)) w.heap.size 2 (.bool on) (Nat.le_refl _)) w.heap.size 3 (.slice p m.length d) (Nat.le_refl _))
          have HIf : Hid (Ir ((((w5.setCell ⟨w.heap.size, 0, none⟩ (.int .i64 (x - 1))).setCell ⟨w.heap.size, 1, none⟩ (.int .i64 y)).setCell ⟨w.heap.size, 2, none⟩ (.bool on)).setCell ⟨w.heap.size, 3, none⟩ (.slice p m.length d)) w.heap.size (.slice p m.length d) m) := RowO.mono (RowO.kept HI5.out ((((kept_set _ _ _ _).trans (kept_set _ _ _ _)).trans (kept_set _ _ _ _)).trans (kept_set _ _ _ _)) (fun b hb x => by have hb' := (RowO.lt HI5.out hb).1; rcases x with ((x | x) | x) | x <;> omega)) (by omega)
          clear HI5 HB5 HA5 HZ5 HM
          go_wp2
          refine bodyPost_ret (vresults_one rfl _ _ w.heap.size _ _ rfl rfl (load_row HRA.out Tryz.underlying84 rfl (by kernel_rfl))) rfl ?_
          exact ⟨x - 1, y, on, m, p, d, true, Or.inl ⟨HN2.out, by rw [HMl.out]; decide, rfl⟩, rfl, HIf.out, HBf.out⟩
        · have HN2 : Hid (readVol R s = none) := by unfold Hid readVol; rw [HN.out]; simp only []; rw [HO.out, ← HM.out, if_neg hsh]
          have hne := Own.eqS_no hsh
          generalize showVol (x - 1) y on m = sh at *
          have HRA := hid (((((HA5.out).set 0 (.int .i64 0)).set 1 (.int .i64 0)).set 2 (.bool false)).set 3 (.slice none 0 0))
          have HBf := hid (below_set (below_set (below_set (below_set (HB5.out) w.heap.size 0 (.int .i64 0) (Nat.le_refl _)) w.heap.size 1 (.int .i64 0) (Nat.le_refl _)) w.heap.size 2 (.bool false) (Nat.le_refl _)) w.heap.size 3 (.slice none 0 0) (Nat.le_refl _))
          clear HI5 HB5 HA5 HZ5 HM
          go_wp2
          refine bodyPost_ret (vresults_one rfl _ _ w.heap.size _ _ rfl rfl (load_row HRA.out Tryz.underlying84 rfl (by kernel_rfl))) rfl ?_
          exact ⟨0, 0, false, [], none, 0, false, Or.inr ⟨HN2.out, rfl, rfl, rfl, rfl, rfl⟩, rfl, vnone_row _ _ _, HBf.out⟩

end Go.Proofs.YtjlkighikfgaeaaGreatDoor.Rd

namespace Go.Proofs.YtjlkighikfgaeaaGreatDoor.Sec
open Go.RowKit Go.Proofs.YtjlkighikfgaeaaGreatDoor.Mem
set_option linter.unusedVariables false

/-- A sector that a journal writes. -/
structure Ou where
  sec : Int
  text : ByteArray

def Ou.none : Ou := ⟨0, ByteArray.empty⟩
def Ou.cells (x : Ou) : List Value := [.int .i64 x.sec, .string x.text]

/-- A journal. -/
structure Jn where
  txn : Int
  done : Bool
  kind : Int
  vol : Int
  to : Int
  at_ : Int
  text : ByteArray
  outs : List Ou

/-- Cell i of a list of them, two cells each. -/
def ocell (l : List Ou) (i : Nat) : Value := (l.getD (i / 2) Ou.none).cells.getD (i % 2) undef
def Ous (w : World) (a : Option Addr) (l : List Ou) : Prop := Sl w a (l.length * 2) (ocell l)
def OusW (w : World) (B : Nat) (a : Option Addr) (l : List Ou) : Prop := Wr w B a (l.length * 2) (ocell l)

theorem ocell_at (l : List Ou) (k j : Nat) (hj : j < 2) : ocell l (k * 2 + j) = (l.getD k Ou.none).cells.getD j undef := by
  unfold ocell
  rw [show (k * 2 + j) / 2 = k by omega, show (k * 2 + j) % 2 = j by omega]

theorem Ous.at_ {w : World} {a : Option Addr} {l : List Ou} (h : Ous w a l) (k : Nat) (hk : k < l.length) : ∃ b off, a = some ⟨b, off, none⟩ ∧
    w.cell? ⟨b, off + k * 2, none⟩ = some (.int .i64 (l.getD k Ou.none).sec) ∧ w.cell? ⟨b, off + k * 2 + 1, none⟩ = some (.string (l.getD k Ou.none).text) := by
  obtain ⟨b, off, rfl, h0⟩ := h (k * 2 + 0) (by omega)
  obtain ⟨b1, off1, e1, h1⟩ := h (k * 2 + 1) (by omega)
  cases e1
  rw [ocell_at l k _ (by omega)] at h0 h1
  exact ⟨b, off, rfl, h0, by rw [Nat.add_assoc]; exact h1⟩

/-- Number i of the list is right. -/
def outAt (l : List Ou) (i : Nat) : Prop := (0 ≤ (l.getD i Ou.none).sec ∧ (l.getD i Ou.none).sec ≤ 33) ∧ (0 < i → (l.getD (i - 1) Ou.none).sec < (l.getD i Ou.none).sec) ∧ ((l.getD i Ou.none).text.size : Int) ≤ 60

theorem outAt_dec (l : List Ou) : Nonempty (DecidablePred (outAt l)) := ⟨fun i => by unfold outAt; exact inferInstance⟩

def outsOk (l : List Ou) : Bool := (List.range l.length).all fun i => decide (0 ≤ (l.getD i Ou.none).sec ∧ (l.getD i Ou.none).sec ≤ 33) && decide (0 < i → (l.getD (i - 1) Ou.none).sec < (l.getD i Ou.none).sec) && decide (((l.getD i Ou.none).text.size : Int) ≤ 60)

theorem outsOk_iff (l : List Ou) : outsOk l = true ↔ ∀ i, i < l.length → outAt l i := by
  unfold outsOk outAt
  rw [List.all_eq_true]
  constructor
  · intro h i hi
    have := h i (List.mem_range.2 hi)
    rw [Bool.and_eq_true, Bool.and_eq_true] at this
    exact ⟨of_decide_eq_true this.1.1, of_decide_eq_true this.1.2, of_decide_eq_true this.2⟩
  · intro h i hi
    obtain ⟨a, b, c⟩ := h i (List.mem_range.1 hi)
    rw [Bool.and_eq_true, Bool.and_eq_true]
    exact ⟨⟨decide_eq_true a, decide_eq_true b⟩, decide_eq_true c⟩

theorem outsOk_no {l : List Ou} (i : Nat) (hi : i < l.length) (h : ¬ outAt l i) : outsOk l = false := by
  cases e : outsOk l with
  | false => rfl
  | true => exact absurd ((outsOk_iff l).1 e i hi) h

def opOk (kind vol to at_ : Int) (text : ByteArray) : Bool := decide (1 ≤ kind ∧ kind ≤ 20) && between 0 99 [vol, to, at_] && decide ((text.size : Int) ≤ 16)

def opNone (kind vol to at_ : Int) (text : ByteArray) : Prop := kind = 0 ∧ vol = 0 ∧ to = 0 ∧ at_ = 0 ∧ text.size = 0

def Jn.ok (J : Jn) : Bool :=
  if J.done then decide (0 ≤ J.txn ∧ J.txn ≤ 1000000) && (decide (J.kind = 0 ∧ J.vol = 0 ∧ J.to = 0 ∧ J.at_ = 0 ∧ J.text.size = 0) && decide (J.outs.length = 0))
  else decide (1 ≤ J.txn ∧ J.txn ≤ 1000000) && (opOk J.kind J.vol J.to J.at_ J.text && (decide (1 ≤ J.outs.length ∧ J.outs.length ≤ 8) && outsOk J.outs))

def piece (s : ByteArray) : ByteArray := vr (s.size : Int) ++ s

/-- The texts of sectors, one behind the other. -/
def outsS (l : List Ou) : ByteArray := l.foldl (fun s x => s ++ vr x.sec ++ piece x.text) ⟨#[]⟩

def Jn.head (J : Jn) : ByteArray := ⟨#[106]⟩ ++ vr J.txn ++ flag J.done ++ vr J.kind ++ vr J.vol ++ vr J.to ++ vr J.at_ ++ piece J.text ++ vr (J.outs.length : Int)
def Jn.show (J : Jn) : ByteArray := if J.ok then summed (J.head ++ outsS J.outs) else ⟨#[]⟩

theorem piece_size (s : ByteArray) : (piece s).size ≤ 7 + s.size := by
  have := vr_size (s.size : Int)
  unfold piece; rw [ByteArray.size_append]; omega

theorem outsS_take (l : List Ou) (k : Nat) (h : k < l.length) : outsS (l.take (k + 1)) = outsS (l.take k) ++ vr (l.getD k Ou.none).sec ++ piece (l.getD k Ou.none).text := by
  unfold outsS
  rw [List.take_add_one, List.foldl_append]
  simp [List.getD, h]

theorem outsS_size (l : List Ou) (hl : l.length ≤ 8) (h : ∀ i, i < l.length → ((l.getD i Ou.none).text.size : Int) ≤ 60) (k : Nat) (hk : k ≤ l.length) : (outsS (l.take k)).size ≤ 74 * k := by
  induction k with
  | zero => simp [outsS]; rfl
  | succ k ih =>
    have h1 := ih (by omega)
    have h2 := vr_size (l.getD k Ou.none).sec
    have h3 := piece_size (l.getD k Ou.none).text
    have h4 := h k (by omega)
    rw [outsS_take l k (by omega), ByteArray.size_append, ByteArray.size_append]
    omega

theorem head_size (J : Jn) (h : J.text.size ≤ 16) : J.head.size ≤ 100 := by
  have h0 := vr_size J.txn
  have h1 := vr_size J.kind
  have h2 := vr_size J.vol
  have h3 := vr_size J.to
  have h4 := vr_size J.at_
  have h5 := piece_size J.text
  have h6 := vr_size (J.outs.length : Int)
  have h7 : (flag J.done).size ≤ 7 := vr_size _
  unfold Jn.head
  simp only [ByteArray.size_append]
  have : (⟨#[106]⟩ : ByteArray).size = 1 := rfl
  omega

end Go.Proofs.YtjlkighikfgaeaaGreatDoor.Sec

namespace Go.Proofs.YtjlkighikfgaeaaGreatDoor.Sec
open Go.RowKit Go.Proofs.YtjlkighikfgaeaaGreatDoor.Mem
set_option linter.unusedVariables false

set_option maxHeartbeats 400000 in
theorem l4Piece (s : ByteArray) (w : World) (hs : s.size ≤ 1048576) : Calls Tryz.prog 139 #[.string s] w fun e w' => e = .returned (.string (piece s)) ∧ Below w.heap.size w w' := by
  have HD : Hid (vr (s.size : Int) ++ s = piece s) := rfl
  have hv := vr_size (s.size : Int)
  go_enter Tryz.func139, Tryz.ntmps139
  go_wp2_with fail
  refine (sVar (s.size : Int) _).mono ?_
  rintro e w1 ⟨rfl, b1⟩
  have HB := hid b1
  clear b1
  go_wp2
  go_ret
  exact ⟨Own.ret_str HD.out, HB.out⟩

set_option maxHeartbeats 400000 in
theorem showPiece (s : ByteArray) (w : World) (hs : s.size ≤ 1048576) : Calls Tryz.prog 195 #[.string s] w fun e w' => e = .returned (.string (piece s)) ∧ Below w.heap.size w w' := by
  have HD : Hid (vr (s.size : Int) ++ s = piece s) := rfl
  have hv := vr_size (s.size : Int)
  go_enter Tryz.func195, Tryz.ntmps195
  go_wp2_with fail
  refine (iVar (s.size : Int) _).mono ?_
  rintro e w1 ⟨rfl, b1⟩
  have HB := hid b1
  clear b1
  go_wp2
  go_ret
  exact ⟨Own.ret_str HD.out, HB.out⟩

/-- A call's value. -/
def opV (kind vol to at_ : Int) (text : ByteArray) : Value := .agg #[.int .i64 kind, .int .i64 vol, .int .i64 to, .int .i64 at_, .string text]

theorem op_no0 {k v t a : Int} {s : ByteArray} (h : ¬ (1 ≤ k ∧ k ≤ 20)) : opOk k v t a s = false := by unfold opOk; rw [decide_eq_false h]; rfl
theorem three {v t a : Int} : between 0 99 [v, t, a] = (decide (0 ≤ v ∧ v ≤ 99) && (decide (0 ≤ t ∧ t ≤ 99) && (decide (0 ≤ a ∧ a ≤ 99) && true))) := rfl
theorem op_no1 {k v t a : Int} {s : ByteArray} (h : between 0 99 [v, t, a] = false) : opOk k v t a s = false := by unfold opOk; rw [h, Bool.and_false]; rfl
theorem op_yes {k v t a : Int} {s : ByteArray} (h : 1 ≤ k ∧ k ≤ 20) (h1 : between 0 99 [v, t, a] = true) : opOk k v t a s = decide ((s.size : Int) ≤ 16) := by unfold opOk; rw [decide_eq_true h, h1]; rfl

set_option maxRecDepth 100000 in
set_option maxHeartbeats 1000000 in
theorem l4OpOk (k v t a : Int) (s : ByteArray) (w : World) (hs : s.size ≤ 1048576) :
    Calls Tryz.prog 176 #[opV k v t a s] w fun e w' => e = .returned (.bool (opOk k v t a s)) ∧ Below w.heap.size w w' := by
  unfold opV
  obtain ⟨wa, hwa, ez, A0, B0⟩ := one_new w [.int .i64 k, .int .i64 v, .int .i64 t, .int .i64 a, .string s] 53
  have k0 := A0.c 0 rfl
  have k1 := A0.c 1 rfl
  have k2 := A0.c 2 rfl
  have k3 := A0.c 3 rfl
  have k4 := A0.c 4 rfl
  have HB := hid B0
  clear A0 B0
  go_enter Tryz.func176, Tryz.ntmps176
  go_wp2_with fail
  by_cases c0 : 1 ≤ k ∧ k ≤ 20
  · have c0' := decide_eq_true c0
    have HC0 := hid c0
    clear c0
    refine (c0' ▸ l1In k 1 20 _).mono ?_
    rintro e w1 ⟨rfl, hw⟩
    obtain rfl := hw.symm
    go_wp2_with fail
    by_cases c1 : 0 ≤ v ∧ v ≤ 99
    · have c1' := decide_eq_true c1
      refine (c1' ▸ l1In v 0 99 _).mono ?_
      rintro e w1 ⟨rfl, hw⟩
      obtain rfl := hw.symm
      go_wp2_with fail
      by_cases c2 : 0 ≤ t ∧ t ≤ 99
      · have c2' := decide_eq_true c2
        refine (c2' ▸ l1In t 0 99 _).mono ?_
        rintro e w1 ⟨rfl, hw⟩
        obtain rfl := hw.symm
        go_wp2_with fail
        by_cases c3 : 0 ≤ a ∧ a ≤ 99
        · have c3' := decide_eq_true c3
          have HY : Hid (opOk k v t a s = decide ((s.size : Int) ≤ 16)) := op_yes HC0.out (by rw [three, c1', c2', c3']; rfl)
          clear c1 c2 c3
          refine (c3' ▸ l1In a 0 99 _).mono ?_
          rintro e w1 ⟨rfl, hw⟩
          obtain rfl := hw.symm
          go_wp2
          go_ret
          exact ⟨by rw [HY.out]; rfl, HB.out⟩
        · have c3' := decide_eq_false c3
          have HN : Hid (opOk k v t a s = false) := op_no1 (by rw [three, c3', c2', c1']; rfl)
          clear c1 c2 c3
          refine (c3' ▸ l1In a 0 99 _).mono ?_
          rintro e w1 ⟨rfl, hw⟩
          obtain rfl := hw.symm
          go_wp2
          go_ret
          exact ⟨by rw [HN.out]; rfl, HB.out⟩
      · have c2' := decide_eq_false c2
        have HN : Hid (opOk k v t a s = false) := op_no1 (by rw [three, c2', c1']; rfl)
        clear c1 c2
        refine (c2' ▸ l1In t 0 99 _).mono ?_
        rintro e w1 ⟨rfl, hw⟩
        obtain rfl := hw.symm
        go_wp2
        go_ret
        exact ⟨by rw [HN.out]; rfl, HB.out⟩
    · have c1' := decide_eq_false c1
      have HN : Hid (opOk k v t a s = false) := op_no1 (by rw [three, c1']; rfl)
      clear c1
      refine (c1' ▸ l1In v 0 99 _).mono ?_
      rintro e w1 ⟨rfl, hw⟩
      obtain rfl := hw.symm
      go_wp2
      go_ret
      exact ⟨by rw [HN.out]; rfl, HB.out⟩
  · have c0' := decide_eq_false c0
    have HN : Hid (opOk k v t a s = false) := op_no0 c0
    clear c0
    refine (c0' ▸ l1In k 1 20 _).mono ?_
    rintro e w1 ⟨rfl, hw⟩
    obtain rfl := hw.symm
    go_wp2
    go_ret
    exact ⟨by rw [HN.out]; rfl, HB.out⟩

theorem ints_new (w : World) (l : List Int) : Ints (w.alloc (.cells (l.map (Value.int .i64)).toArray 3)) (some ⟨w.heap.size, 0, none⟩) l :=
  (wr_new w _ 3 l.length (fun i => .int .i64 (l.getD i 0)) (fun i hi => by simp [List.getD, hi])).sl

set_option maxRecDepth 100000 in
set_option maxHeartbeats 1000000 in
theorem isJournalOp (k v t a : Int) (s : ByteArray) (w : World) (hs : s.size ≤ 1048576) :
    Calls Tryz.prog 190 #[opV k v t a s] w fun e w' => e = .returned (.bool (opOk k v t a s)) ∧ Below w.heap.size w w' := by
  unfold opV
  obtain ⟨wa, hwa, ez, A0, B0⟩ := one_new w [.int .i64 k, .int .i64 v, .int .i64 t, .int .i64 a, .string s] 53
  have k0 := A0.c 0 rfl
  have k1 := A0.c 1 rfl
  have k2 := A0.c 2 rfl
  have k3 := A0.c 3 rfl
  have k4 := A0.c 4 rfl
  have HA := hid A0
  have HB := hid B0
  clear A0 B0
  go_enter Tryz.func190, Tryz.ntmps190
  go_wp2_with fail
  obtain ⟨wb, hwb⟩ : ∃ wb, wa.alloc (.cells ([v, t, a].map (Value.int .i64)).toArray 3) = wb := ⟨_, rfl⟩
  have HI := hid (ints_new wa [v, t, a])
  have b2 : Below wa.heap.size wa (wa.alloc (.cells ([v, t, a].map (Value.int .i64)).toArray 3)) := (Below.refl _ _).alloc (Nat.le_refl _) _
  rw [hwb] at b2 HI
  rw [ez] at HI
  simp only [List.map_cons, List.map_nil] at hwb
  simp only [hwb]
  have HB2 := hid (HB.out.trans (b2.mono HB.out.size))
  replace k4 := (HA.out.below b2 HA.out.lt).c 4 rfl
  clear b2 hwb hwa k0 k1 k2 k3 HA
  by_cases c0 : 1 ≤ k ∧ k ≤ 20
  · have c0' := decide_eq_true c0
    have HC0 := hid c0
    clear c0
    refine (c0' ▸ isFrom k 1 20 _).mono ?_
    rintro e w1 ⟨rfl, hw⟩
    obtain rfl := hw.symm
    go_wp2_with fail
    refine (areFrom wb _ 3 [v, t, a] 0 99 HI.out (show 3 ≤ 1048576 by decide)).mono ?_
    rintro e w1 ⟨rfl, hw⟩
    obtain rfl := hw.symm
    cases hz : between 0 99 [v, t, a] with
    | true =>
      have HY := hid (op_yes (s := s) HC0.out hz)
      clear hz
      go_wp2
      go_ret
      exact ⟨by rw [HY.out]; rfl, HB2.out⟩
    | false =>
      have HN := hid (op_no1 (k := k) (s := s) hz)
      clear hz
      go_wp2
      go_ret
      exact ⟨by rw [HN.out]; rfl, HB2.out⟩
  · have c0' := decide_eq_false c0
    have HN : Hid (opOk k v t a s = false) := op_no0 c0
    clear c0
    refine (c0' ▸ isFrom k 1 20 _).mono ?_
    rintro e w1 ⟨rfl, hw⟩
    obtain rfl := hw.symm
    go_wp2
    go_ret
    exact ⟨by rw [HN.out]; rfl, HB2.out⟩

end Go.Proofs.YtjlkighikfgaeaaGreatDoor.Sec

namespace Go.Proofs.YtjlkighikfgaeaaGreatDoor.Sec
open Go.RowKit Go.Proofs.YtjlkighikfgaeaaGreatDoor.Mem
set_option linter.unusedVariables false

/-- The lowest sector that may follow the first k. -/
def low (l : List Ou) (k : Nat) : Int := if k = 0 then 0 else (l.getD (k - 1) Ou.none).sec + 1

theorem low_iff (l : List Ou) (k : Nat) (h : ∀ i, i < k → outAt l i) : (low l k ≤ (l.getD k Ou.none).sec ∧ (l.getD k Ou.none).sec ≤ 33) ↔ ((0 ≤ (l.getD k Ou.none).sec ∧ (l.getD k Ou.none).sec ≤ 33) ∧ (0 < k → (l.getD (k - 1) Ou.none).sec < (l.getD k Ou.none).sec)) := by
  unfold low
  by_cases hk : k = 0
  · subst hk; simp
  · rw [if_neg hk]
    have := (h (k - 1) (by omega)).1
    constructor
    · intro x; exact ⟨by omega, fun _ => by omega⟩
    · intro x; have := x.2 (by omega); omega

theorem low_bd (l : List Ou) (k : Nat) (h : ∀ i, i < k → outAt l i) : 0 ≤ low l k ∧ low l k ≤ 34 := by
  unfold low
  by_cases hk : k = 0
  · rw [if_pos hk]; omega
  · rw [if_neg hk]
    have := (h (k - 1) (by omega)).1
    omega

theorem low_succ (l : List Ou) (k : Nat) : low l (k + 1) = (l.getD k Ou.none).sec + 1 := rfl

theorem outs_step {l : List Ou} {k : Nat} (h : ∀ i, i < k → outAt l i) (hk : outAt l k) : ∀ i, i < k + 1 → outAt l i := fun i hi => by
  by_cases e : i = k
  · rw [e]; exact hk
  · exact h i (by omega)

set_option maxRecDepth 100000 in
set_option maxHeartbeats 1000000 in
theorem areOuts (w : World) (a : Option Addr) (cap : Nat) (l : List Ou) (S : Ous w a l) (hl : l.length ≤ 1048576) (hs : ∀ x ∈ l, x.text.size ≤ 1048576) :
    Calls Tryz.prog 191 #[.slice a l.length cap] w fun e w' => e = .returned (.bool (decide (l.length ≤ 8) && outsOk l)) ∧ Below w.heap.size w w' := by
  have HS := hid S
  have Hs : Hid (∀ k, (l.getD k Ou.none).text.size ≤ 1048576) := fun k => by
    by_cases h : k < l.length
    · exact hs _ (by simp [List.getD, h])
    · simp [List.getD, h, Ou.none]
  clear S hs
  by_cases hg : 8 < (l.length : Int)
  · have hg' : decide (l.length ≤ 8) = false := decide_eq_false (by omega)
    rw [hg']
    clear hg'
    go_enter Tryz.func191, Tryz.ntmps191
    go_wp2
    go_ret
    exact ⟨rfl, Below.refl _ _⟩
  have hg' : decide (l.length ≤ 8) = true := decide_eq_true (by omega)
  rw [hg', Bool.true_and]
  clear hg'
  have HZ := hid (low_succ l)
  go_enter Tryz.func191, Tryz.ntmps191
  go_wp2
  go_loopw [3, 11] (fun lo i wr => ∃ k : Nat, k ≤ l.length ∧ i = .int .i64 (k : Int) ∧ lo = .int .i64 (low l k) ∧ Hid (∀ i, i < k → outAt l i) ∧ Hid (Below w.heap.size w wr)) (fun _ i _ => l.length - (intOf i).toNat)
  case atStart => exact ⟨0, Nat.zero_le _, rfl, rfl, fun i hi => by omega, Below.refl _ _⟩
  case round =>
    obtain ⟨k, hk, rfl, rfl, HK, HB⟩ := hrel
    by_cases hlt : k < l.length
    · obtain ⟨b, off, rfl, c0, c1⟩ := Ous.at_ (HS.out.below HB.out) k hlt
      have HI := hid (low_iff l k HK.out)
      have hbd := low_bd l k HK.out
      have hsz := Hs.out k
      have HN := hid (outsOk_no k hlt)
      have HST := hid (fun h => outs_step (k := k) HK.out h)
      have HLS := hid (low_succ l k)
      have HAt : Hid (outAt l k ↔ ((0 ≤ (l.getD k Ou.none).sec ∧ (l.getD k Ou.none).sec ≤ 33) ∧ (0 < k → (l.getD (k - 1) Ou.none).sec < (l.getD k Ou.none).sec)) ∧ ((l.getD k Ou.none).text.size : Int) ≤ 60) := by
        unfold outAt
        exact ⟨fun x => ⟨⟨x.1, x.2.1⟩, x.2.2⟩, fun x => ⟨x.1.1, x.1.2, x.2⟩⟩
      rw [← HI.out] at HAt
      generalize l.getD k Ou.none = x at c0 c1 hsz HAt HLS
      clear HI
      obtain ⟨xs, xt⟩ := x
      simp only [] at c0 c1 hsz HAt HLS
      generalize low l k = lo at *
      go_wp2_with fail
      obtain ⟨wo, hwo, ez, O0, B0⟩ := one_new wr [.int .i64 xs, .string xt] 75
      simp only [hwo]
      have d0 := O0.c 0 rfl
      have d1 := O0.c 1 rfl
      have HBo := hid (HB.out.trans (B0.mono HB.out.size))
      clear hwo O0 B0 c0 c1
      by_cases c : lo ≤ xs ∧ xs ≤ 33
      · have c' := decide_eq_true c
        refine (c' ▸ isFrom xs lo 33 _).mono ?_
        rintro e w1 ⟨rfl, hw⟩
        obtain rfl := hw.symm
        by_cases h60 : 60 < (xt.size : Int)
        · have HR := hid (HN.out (fun x => by have := (HAt.out.1 x).2; omega))
          clear c
          go_wp2
          go_ret
          exact ⟨by rw [HR.out]; rfl, HBo.out⟩
        · have HR := hid (HST.out (HAt.out.2 ⟨c, by omega⟩))
          have hx33 : xs ≤ 33 := c.2
          have hx0 : 0 ≤ xs := by omega
          clear c
          go_wp2
          exact ⟨⟨k + 1, by omega, by go_num, by rw [HLS.out], HR, HBo⟩, by simp [intOf]; omega⟩
      · have c' := decide_eq_false c
        have HR := hid (HN.out (fun x => c (HAt.out.1 x).1))
        clear c
        refine (c' ▸ isFrom xs lo 33 _).mono ?_
        rintro e w1 ⟨rfl, hw⟩
        obtain rfl := hw.symm
        go_wp2
        go_ret
        exact ⟨by rw [HR.out]; rfl, HBo.out⟩
    · obtain rfl : k = l.length := by omega
      have HR := hid ((outsOk_iff l).2 HK.out)
      go_wp2
      go_ret
      exact ⟨by rw [HR.out]; rfl, HB.out⟩

theorem stOp : Tryz.prog.underlying 53 = some (.struct (Tryz.prog.fieldsOf 53)) := by kernel_rfl
theorem heldOp : Tryz.prog.stoodInHeld 53 = false := by kernel_rfl
theorem guardOp : Tryz.prog.eqGuardType Tryz.prog.depth 53 = false := by kernel_rfl

theorem eql_op (k v t a : Int) (s : ByteArray) (w : World) : (binOp .eql 53 (.agg #[.int .i64 k, .int .i64 v, .int .i64 t, .int .i64 a, .string s]) (.agg #[.int .i64 0, .int .i64 0, .int .i64 0, .int .i64 0, .string ⟨#[]⟩])).run Tryz.prog w = .ok (.bool (decide (k = 0 ∧ v = 0 ∧ t = 0 ∧ a = 0 ∧ s.size = 0))) w := by
  rw [run_eql_struct, run_equalIn_agg w 9999 53 _ _ stOp heldOp]
  unfold Program.fieldsOf
  rw [Tryz.underlying53]
  by_cases h5 : s.size = 0
  · obtain rfl : s = ⟨#[]⟩ := by
      apply ByteArray.ext
      have : s.data.size = 0 := h5
      exact Array.eq_empty_of_size_eq_zero this
    by_cases h1 : k = 0 <;> by_cases h2 : v = 0 <;> by_cases h3 : t = 0 <;> by_cases h4 : a = 0 <;> simp [Op.eqFields, part, go_sem, h1, h2, h3, h4, Tryz.underlying3]
  · have hne : ¬ s.toList = [] := fun e => h5 (by
      rw [ByteArray.toList_eq] at e
      show s.data.size = 0
      rw [← Array.length_toList, e]; rfl)
    by_cases h1 : k = 0 <;> by_cases h2 : v = 0 <;> by_cases h3 : t = 0 <;> by_cases h4 : a = 0 <;> simp [Op.eqFields, part, go_sem, h1, h2, h3, h4, h5, hne, Tryz.underlying3]

end Go.Proofs.YtjlkighikfgaeaaGreatDoor.Sec

namespace Go.Proofs.YtjlkighikfgaeaaGreatDoor.Sec
open Go.RowKit Go.Proofs.YtjlkighikfgaeaaGreatDoor.Mem
set_option linter.unusedVariables false

/-- A journal's cells, its list at a. -/
def Jn.cells (J : Jn) (a : Option Addr) (cap : Nat) : List Value := [.int .i64 J.txn, .bool J.done, .int .i64 J.kind, .int .i64 J.vol, .int .i64 J.to, .int .i64 J.at_, .string J.text, .slice a J.outs.length cap]
def jnV (J : Jn) (a : Option Addr) (cap : Nat) : Value := .agg (J.cells a cap).toArray

/-- All of it is of a size that the law lets by. -/
structure Jn.Small (J : Jn) : Prop where
  text : J.text.size ≤ 1048576
  outs : J.outs.length ≤ 1048576
  each : ∀ x ∈ J.outs, x.text.size ≤ 1048576

theorem jok_done {J : Jn} (h : J.done = true) : J.ok = (decide (0 ≤ J.txn ∧ J.txn ≤ 1000000) && (decide (J.kind = 0 ∧ J.vol = 0 ∧ J.to = 0 ∧ J.at_ = 0 ∧ J.text.size = 0) && decide (J.outs.length = 0))) := by unfold Jn.ok; rw [if_pos h]
theorem jok_not {J : Jn} (h : J.done = false) : J.ok = (decide (1 ≤ J.txn ∧ J.txn ≤ 1000000) && (opOk J.kind J.vol J.to J.at_ J.text && (decide (1 ≤ J.outs.length ∧ J.outs.length ≤ 8) && outsOk J.outs))) := by unfold Jn.ok; rw [if_neg (by rw [h]; decide)]

set_option maxRecDepth 100000 in
set_option maxHeartbeats 2000000 in
theorem isJournal (w : World) (J : Jn) (a : Option Addr) (cap : Nat) (S : Ous w a J.outs) (hs : J.Small) :
    Calls Tryz.prog 152 #[jnV J a cap] w fun r w' => r = .returned (.bool J.ok) ∧ Below w.heap.size w w' := by
  unfold jnV
  obtain ⟨txn, dn, k, v, t, at_, s, l⟩ := J
  have z1 : s.size ≤ 1048576 := hs.text
  have z2 : l.length ≤ 1048576 := hs.outs
  have HS := hid S
  have HSm := hid hs
  clear S hs
  cases dn with
  | true =>
    have HE := hid (jok_done (J := ⟨txn, true, k, v, t, at_, s, l⟩) rfl)
    simp only [] at HE
    generalize (Jn.mk txn true k v t at_ s l).ok = q at *
    unfold Jn.cells
    simp only []
    obtain ⟨wa, hwa, ez, A0, B0⟩ := one_new w [.int .i64 txn, .bool true, .int .i64 k, .int .i64 v, .int .i64 t, .int .i64 at_, .string s, .slice a l.length cap] 69
    have k0 := A0.c 0 rfl
    have k1 := A0.c 1 rfl
    have k2 := A0.c 2 rfl
    have k3 := A0.c 3 rfl
    have k4 := A0.c 4 rfl
    have k5 := A0.c 5 rfl
    have k6 := A0.c 6 rfl
    have k7 := A0.c 7 rfl
    have HB := hid B0
    have hgo := guardOp
    clear A0 B0
    go_enter Tryz.func152, Tryz.ntmps152
    go_wp2_with fail
    by_cases c0 : 0 ≤ txn ∧ txn ≤ 1000000
    · have c0' := decide_eq_true c0
      rw [c0', Bool.true_and] at HE
      clear c0
      refine (c0' ▸ isFrom txn 0 1000000 _).mono ?_
      rintro r w1 ⟨rfl, hw⟩
      obtain rfl := hw.symm
      have heq := eql_op k v t at_ s
      by_cases c1 : k = 0 ∧ v = 0 ∧ t = 0 ∧ at_ = 0 ∧ s.size = 0
      · rw [decide_eq_true c1] at HE
        simp only [decide_eq_true c1] at heq
        clear c1
        by_cases c2 : (l.length : Int) = 0
        · have HQ : Hid (q = true) := by rw [Hid, HE.out, decide_eq_true (show l.length = 0 by omega)]; rfl
          have c2' : ((l.length : Int) == 0) = true := by simpa using c2
          clear c2
          go_wp2
          go_ret
          exact ⟨by rw [HQ.out]; rfl, HB.out⟩
        · have HQ : Hid (q = false) := by rw [Hid, HE.out, decide_eq_false (show ¬ l.length = 0 by omega)]; rfl
          have c2' : ((l.length : Int) == 0) = false := by simpa using c2
          clear c2
          go_wp2
          go_ret
          exact ⟨by rw [HQ.out]; rfl, HB.out⟩
      · rw [decide_eq_false c1] at HE
        simp only [decide_eq_false c1] at heq
        clear c1
        go_wp2
        go_ret
        exact ⟨by rw [HE.out]; rfl, HB.out⟩
    · have c0' := decide_eq_false c0
      rw [c0', Bool.false_and] at HE
      clear c0
      refine (c0' ▸ isFrom txn 0 1000000 _).mono ?_
      rintro r w1 ⟨rfl, hw⟩
      obtain rfl := hw.symm
      go_wp2
      go_ret
      exact ⟨by rw [HE.out]; rfl, HB.out⟩
  | false =>
    have HE := hid (jok_not (J := ⟨txn, false, k, v, t, at_, s, l⟩) rfl)
    simp only [] at HE
    have Hs3 : Hid (∀ x ∈ l, x.text.size ≤ 1048576) := HSm.out.each
    generalize (Jn.mk txn false k v t at_ s l).ok = q at *
    unfold Jn.cells
    simp only []
    obtain ⟨wa, hwa, ez, A0, B0⟩ := one_new w [.int .i64 txn, .bool false, .int .i64 k, .int .i64 v, .int .i64 t, .int .i64 at_, .string s, .slice a l.length cap] 69
    have k0 := A0.c 0 rfl
    have k1 := A0.c 1 rfl
    have k2 := A0.c 2 rfl
    have k3 := A0.c 3 rfl
    have k4 := A0.c 4 rfl
    have k5 := A0.c 5 rfl
    have k6 := A0.c 6 rfl
    have k7 := A0.c 7 rfl
    have HA := hid A0
    have HB := hid B0
    clear A0 B0
    go_enter Tryz.func152, Tryz.ntmps152
    go_wp2_with fail
    by_cases c0 : 1 ≤ txn ∧ txn ≤ 1000000
    · have c0' := decide_eq_true c0
      rw [c0', Bool.true_and] at HE
      clear c0
      refine (c0' ▸ isFrom txn 1 1000000 _).mono ?_
      rintro r w1 ⟨rfl, hw⟩
      obtain rfl := hw.symm
      go_wp2_with fail
      refine (isJournalOp k v t at_ s _ z1).mono ?_
      rintro r w2 ⟨rfl, b2⟩
      replace k7 := (HA.out.below b2 HA.out.lt).c 7 rfl
      have HB2 := hid (HB.out.trans (b2.mono HB.out.size))
      clear b2 hwa k0 k1 k2 k3 k4 k5 k6 HA
      cases hz : opOk k v t at_ s with
      | true =>
        rw [hz, Bool.true_and] at HE
        clear hz
        by_cases c2 : 0 < (l.length : Int)
        · go_wp2_with fail
          refine (areOuts w2 a cap l (HS.out.below HB2.out) z2 Hs3.out).mono ?_
          rintro r w3 ⟨rfl, b3⟩
          have HB3 := hid (HB2.out.trans (b3.mono HB2.out.size))
          have HQ : Hid (q = (decide (l.length ≤ 8) && outsOk l)) := by
            rw [Hid, HE.out]
            congr 1
            exact decide_eq_decide.2 ⟨fun x => x.2, fun x => ⟨by omega, x⟩⟩
          generalize (decide (l.length ≤ 8) && outsOk l) = z at *
          clear b3
          go_wp2
          go_ret
          exact ⟨by rw [HQ.out]; rfl, HB3.out⟩
        · have HQ : Hid (q = false) := by rw [Hid, HE.out, decide_eq_false (show ¬ (1 ≤ l.length ∧ l.length ≤ 8) by omega)]; rfl
          go_wp2
          go_ret
          exact ⟨by rw [HQ.out]; rfl, HB2.out⟩
      | false =>
        rw [hz, Bool.false_and] at HE
        clear hz
        go_wp2
        go_ret
        exact ⟨by rw [HE.out]; rfl, HB2.out⟩
    · have c0' := decide_eq_false c0
      rw [c0', Bool.false_and] at HE
      clear c0
      refine (c0' ▸ isFrom txn 1 1000000 _).mono ?_
      rintro r w1 ⟨rfl, hw⟩
      obtain rfl := hw.symm
      go_wp2
      go_ret
      exact ⟨by rw [HE.out]; rfl, HB.out⟩

end Go.Proofs.YtjlkighikfgaeaaGreatDoor.Sec

namespace Go.Proofs.YtjlkighikfgaeaaGreatDoor.Sec
open Go.RowKit Go.Proofs.YtjlkighikfgaeaaGreatDoor.Mem
set_option linter.unusedVariables false

set_option maxRecDepth 100000 in
set_option maxHeartbeats 2000000 in
theorem jnOk_done (w : World) (txn k v t at_ : Int) (s : ByteArray) (l : List Ou) (a : Option Addr) (cap : Nat) (z1 : s.size ≤ 1048576) (z2 : l.length ≤ 1048576) :
    Calls Tryz.prog 136 #[jnV ⟨txn, true, k, v, t, at_, s, l⟩ a cap] w fun r w' => r = .returned (.bool (Jn.mk txn true k v t at_ s l).ok) ∧ Below w.heap.size w w' := by
  unfold jnV
  have HE := hid (jok_done (J := ⟨txn, true, k, v, t, at_, s, l⟩) rfl)
  simp only [] at HE
  generalize (Jn.mk txn true k v t at_ s l).ok = q at *
  unfold Jn.cells
  simp only []
  obtain ⟨wa, hwa, ez, A0, B0⟩ := one_new w [.int .i64 txn, .bool true, .int .i64 k, .int .i64 v, .int .i64 t, .int .i64 at_, .string s, .slice a l.length cap] 69
  have k0 := A0.c 0 rfl
  have k1 := A0.c 1 rfl
  have k2 := A0.c 2 rfl
  have k3 := A0.c 3 rfl
  have k4 := A0.c 4 rfl
  have k5 := A0.c 5 rfl
  have k6 := A0.c 6 rfl
  have k7 := A0.c 7 rfl
  have HB := hid B0
  have hgo := guardOp
  clear A0 B0
  go_enter Tryz.func136, Tryz.ntmps136
  go_wp2_with fail
  by_cases c0 : 0 ≤ txn ∧ txn ≤ 1000000
  · have c0' := decide_eq_true c0
    rw [c0', Bool.true_and] at HE
    clear c0
    refine (c0' ▸ l1In txn 0 1000000 _).mono ?_
    rintro r w1 ⟨rfl, hw⟩
    obtain rfl := hw.symm
    have heq := eql_op k v t at_ s
    by_cases c1 : k = 0 ∧ v = 0 ∧ t = 0 ∧ at_ = 0 ∧ s.size = 0
    · rw [decide_eq_true c1] at HE
      simp only [decide_eq_true c1] at heq
      clear c1
      by_cases c2 : (l.length : Int) = 0
      · have HQ : Hid (q = true) := by rw [Hid, HE.out, decide_eq_true (show l.length = 0 by omega)]; rfl
        have c2' : ((l.length : Int) == 0) = true := by simpa using c2
        clear c2
        go_wp2
        go_ret
        exact ⟨by rw [HQ.out]; rfl, HB.out⟩
      · have HQ : Hid (q = false) := by rw [Hid, HE.out, decide_eq_false (show ¬ l.length = 0 by omega)]; rfl
        have c2' : ((l.length : Int) == 0) = false := by simpa using c2
        clear c2
        go_wp2
        go_ret
        exact ⟨by rw [HQ.out]; rfl, HB.out⟩
    · rw [decide_eq_false c1] at HE
      simp only [decide_eq_false c1] at heq
      clear c1
      go_wp2
      go_ret
      exact ⟨by rw [HE.out]; rfl, HB.out⟩
  · have c0' := decide_eq_false c0
    rw [c0', Bool.false_and] at HE
    clear c0
    refine (c0' ▸ l1In txn 0 1000000 _).mono ?_
    rintro r w1 ⟨rfl, hw⟩
    obtain rfl := hw.symm
    go_wp2
    go_ret
    exact ⟨by rw [HE.out]; rfl, HB.out⟩

set_option maxRecDepth 100000 in
set_option maxHeartbeats 4000000 in
theorem jnOk_not (w : World) (txn k v t at_ : Int) (s : ByteArray) (l : List Ou) (a : Option Addr) (cap : Nat) (S : Ous w a l) (z1 : s.size ≤ 1048576) (z2 : l.length ≤ 1048576) (z3 : ∀ x ∈ l, x.text.size ≤ 1048576) :
    Calls Tryz.prog 136 #[jnV ⟨txn, false, k, v, t, at_, s, l⟩ a cap] w fun r w' => r = .returned (.bool (Jn.mk txn false k v t at_ s l).ok) ∧ Below w.heap.size w w' := by
  unfold jnV
  have HE := hid (jok_not (J := ⟨txn, false, k, v, t, at_, s, l⟩) rfl)
  simp only [] at HE
  have HS := hid S
  have Hs : Hid (∀ k, (l.getD k Ou.none).text.size ≤ 1048576) := fun k => by
    by_cases h : k < l.length
    · exact z3 _ (by simp [List.getD, h])
    · simp [List.getD, h, Ou.none]
  clear S z3
  generalize (Jn.mk txn false k v t at_ s l).ok = q at *
  unfold Jn.cells
  simp only []
  obtain ⟨wa, hwa, ez, A0, B0⟩ := one_new w [.int .i64 txn, .bool false, .int .i64 k, .int .i64 v, .int .i64 t, .int .i64 at_, .string s, .slice a l.length cap] 69
  have k0 := A0.c 0 rfl
  have k1 := A0.c 1 rfl
  have k2 := A0.c 2 rfl
  have k3 := A0.c 3 rfl
  have k4 := A0.c 4 rfl
  have k5 := A0.c 5 rfl
  have k6 := A0.c 6 rfl
  have k7 := A0.c 7 rfl
  have HA := hid A0
  have HB := hid B0
  clear A0 B0
  go_enter Tryz.func136, Tryz.ntmps136
  go_wp2_with fail
  by_cases c0 : 0 ≤ txn ∧ txn ≤ 1000000
  · have c0' := decide_eq_true c0
    refine (c0' ▸ l1In txn 0 1000000 _).mono ?_
    rintro r w1 ⟨rfl, hw⟩
    obtain rfl := hw.symm
    by_cases c1 : txn < 1
    · have HQ : Hid (q = false) := by rw [Hid, HE.out, decide_eq_false (show ¬ (1 ≤ txn ∧ txn ≤ 1000000) by omega)]; rfl
      clear c0
      go_wp2
      go_ret
      exact ⟨by rw [HQ.out]; rfl, HB.out⟩
    rw [decide_eq_true (show 1 ≤ txn ∧ txn ≤ 1000000 by omega), Bool.true_and] at HE
    have c1d : decide (txn < 1) = false := decide_eq_false c1
    clear c0
    go_wp2_with fail
    refine (l4OpOk k v t at_ s _ z1).mono ?_
    rintro r w2 ⟨rfl, b2⟩
    have HA2 := hid (HA.out.below b2 HA.out.lt)
    replace k7 := HA2.out.c 7 rfl
    have HB2 := hid (HB.out.trans (b2.mono HB.out.size))
    clear b2 hwa k0 k1 k2 k3 k4 k5 k6 HA
    cases hz : opOk k v t at_ s with
    | false =>
      rw [hz, Bool.false_and] at HE
      clear hz
      go_wp2
      go_ret
      exact ⟨by rw [HE.out]; rfl, HB2.out⟩
    | true =>
      rw [hz, Bool.true_and] at HE
      clear hz
      go_wp2_with fail
      by_cases c2 : 1 ≤ (l.length : Int) ∧ (l.length : Int) ≤ 8
      · have c2' := decide_eq_true c2
        rw [decide_eq_true (show 1 ≤ l.length ∧ l.length ≤ 8 by omega), Bool.true_and] at HE
        have hl8 : l.length ≤ 8 := by omega
        clear c2
        refine (c2' ▸ l1In (l.length : Int) 1 8 _).mono ?_
        rintro r w3 ⟨rfl, hw⟩
        obtain rfl := hw.symm
        go_wp2
        go_loopw [3] (fun i wr => ∃ k : Nat, k ≤ l.length ∧ i = .int .i64 (k : Int) ∧ Hid (∀ i, i < k → outAt l i) ∧ Hid (Below w2.heap.size w2 wr)) (fun i _ => l.length - (intOf i).toNat)
        case atStart => exact ⟨0, Nat.zero_le _, rfl, fun i hi => by omega, Below.refl _ _⟩
        case round =>
          obtain ⟨i, hi, rfl, HK, HBr⟩ := hrel
          have HBw := hid (HB2.out.trans (HBr.out.mono HB2.out.size))
          have m7 := (HA2.out.below HBr.out HA2.out.lt).c 7 rfl
          by_cases hlt : i < l.length
          · obtain ⟨b, off, rfl, e0, e1⟩ := Ous.at_ (HS.out.below HBw.out) i hlt
            have hsz := Hs.out i
            have HN := hid (outsOk_no i hlt)
            have HST := hid (fun h => outs_step (k := i) HK.out h)
            have HAt : Hid (outAt l i ↔ ((0 ≤ (l.getD i Ou.none).sec ∧ (l.getD i Ou.none).sec ≤ 33) ∧ (0 < i → (l.getD (i - 1) Ou.none).sec < (l.getD i Ou.none).sec)) ∧ ((l.getD i Ou.none).text.size : Int) ≤ 60) := by
              unfold outAt
              exact ⟨fun x => ⟨⟨x.1, x.2.1⟩, x.2.2⟩, fun x => ⟨x.1.1, x.1.2, x.2⟩⟩
            generalize l.getD i Ou.none = x at e0 e1 hsz HAt
            obtain ⟨xs, xt⟩ := x
            simp only [] at e0 e1 hsz HAt
            have hne : Nonempty (BW wr) := ⟨⟨wr, Below.refl _ _⟩⟩
            replace e0 := BW.cell e0
            replace e1 := BW.cell e1
            have n7 := BW.cell m7
            clear k7
            by_cases d0 : 0 ≤ xs ∧ xs ≤ 33
            · have d0' := decide_eq_true d0
              cases i with
              | zero =>
                simp only [Nat.zero_mul, Nat.add_zero] at e0 e1
                by_cases h60 : 60 < (xt.size : Int)
                · have HR := hid (HN.out (fun x => by have := (HAt.out.1 x).2; omega))
                  clear d0
                  go_wp2
                  refine wp_region_bw (by kernel_rfl) (by kernel_rfl) ?_
                  repeat (go_big_quiet_step (first
                    | (go_at_call 91; refine bw_same (v := .bool true) (d0' ▸ l1In xs 0 33 _))))
                  refine wpQuiet_nil ?_
                  intro _ hw'
                  obtain ⟨u, rfl⟩ := hw'
                  have HU := hid (HBw.out.trans (u.bel.mono HBw.out.size))
                  have HUr := hid (HBr.out.trans (u.bel.mono HBr.out.size))
                  clear e0 e1 n7 m7 
                  go_wp2
                  go_ret
                  exact ⟨by rw [HE.out, HR.out]; rfl, HU.out⟩
                · have HR := hid (HST.out (HAt.out.2 ⟨⟨d0, fun h => by omega⟩, by omega⟩))
                  clear d0
                  go_wp2
                  refine wp_region_bw (by kernel_rfl) (by kernel_rfl) ?_
                  repeat (go_big_quiet_step (first
                    | (go_at_call 91; refine bw_same (v := .bool true) (d0' ▸ l1In xs 0 33 _))))
                  refine wpQuiet_nil ?_
                  intro _ hw'
                  obtain ⟨u, rfl⟩ := hw'
                  have HU := hid (HBw.out.trans (u.bel.mono HBw.out.size))
                  have HUr := hid (HBr.out.trans (u.bel.mono HBr.out.size))
                  clear e0 e1 n7 m7 
                  go_wp2
                  exact ⟨⟨1, by omega, by go_num, HR, HUr⟩, by simp [intOf]; omega⟩
              | succ m =>
                obtain ⟨b', off', eb, p0, _⟩ := Ous.at_ (HS.out.below HBw.out) m (by omega)
                cases eb
                rw [show m + 1 - 1 = m from rfl] at HAt
                generalize (l.getD m Ou.none).sec = ys at p0 HAt
                replace p0 := BW.cell p0
                have hm0 : (0 : Int) < ((m + 1 : Nat) : Int) := by omega
                have hm1 : ((m + 1 : Nat) : Int) - 1 = (m : Int) := by omega
                have hm2 : (m : Int) < (l.length : Int) := by omega
                by_cases d1 : xs ≤ ys
                · have HR := hid (HN.out (fun x => by have := (HAt.out.1 x).1.2 (by omega); omega))
                  clear d0
                  go_wp2
                  refine wp_region_bw (by kernel_rfl) (by kernel_rfl) ?_
                  repeat (go_big_quiet_step (first
                    | (go_at_call 91; refine bw_same (v := .bool true) (d0' ▸ l1In xs 0 33 _))))
                  refine wpQuiet_nil ?_
                  intro _ hw'
                  obtain ⟨u, rfl⟩ := hw'
                  have HU := hid (HBw.out.trans (u.bel.mono HBw.out.size))
                  have HUr := hid (HBr.out.trans (u.bel.mono HBr.out.size))
                  clear e0 e1 n7 m7 p0
                  go_wp2
                  go_ret
                  exact ⟨by rw [HE.out, HR.out]; rfl, HU.out⟩
                have d1' : decide (xs ≤ ys) = false := decide_eq_false d1
                by_cases h60 : 60 < (xt.size : Int)
                · have HR := hid (HN.out (fun x => by have := (HAt.out.1 x).2; omega))
                  clear d0
                  go_wp2
                  refine wp_region_bw (by kernel_rfl) (by kernel_rfl) ?_
                  repeat (go_big_quiet_step (first
                    | (go_at_call 91; refine bw_same (v := .bool true) (d0' ▸ l1In xs 0 33 _))))
                  refine wpQuiet_nil ?_
                  intro _ hw'
                  obtain ⟨u, rfl⟩ := hw'
                  have HU := hid (HBw.out.trans (u.bel.mono HBw.out.size))
                  have HUr := hid (HBr.out.trans (u.bel.mono HBr.out.size))
                  clear e0 e1 n7 m7 p0
                  go_wp2
                  go_ret
                  exact ⟨by rw [HE.out, HR.out]; rfl, HU.out⟩
                · have HR := hid (HST.out (HAt.out.2 ⟨⟨d0, fun h => by omega⟩, by omega⟩))
                  clear d0
                  go_wp2
                  refine wp_region_bw (by kernel_rfl) (by kernel_rfl) ?_
                  repeat (go_big_quiet_step (first
                    | (go_at_call 91; refine bw_same (v := .bool true) (d0' ▸ l1In xs 0 33 _))))
                  refine wpQuiet_nil ?_
                  intro _ hw'
                  obtain ⟨u, rfl⟩ := hw'
                  have HU := hid (HBw.out.trans (u.bel.mono HBw.out.size))
                  have HUr := hid (HBr.out.trans (u.bel.mono HBr.out.size))
                  clear e0 e1 n7 m7 p0
                  go_wp2
                  exact ⟨⟨m + 1 + 1, by omega, by go_num, HR, HUr⟩, by simp [intOf]; omega⟩
            · have d0' := decide_eq_false d0
              have HR := hid (HN.out (fun x => d0 (HAt.out.1 x).1.1))
              clear d0
              go_wp2
              refine wp_region_bw (by kernel_rfl) (by kernel_rfl) ?_
              repeat (go_big_quiet_step (first
                | (go_at_call 91; refine bw_same (v := .bool false) (d0' ▸ l1In xs 0 33 _))))
              refine wpQuiet_nil ?_
              intro _ hw'
              obtain ⟨u, rfl⟩ := hw'
              have HU := hid (HBw.out.trans (u.bel.mono HBw.out.size))
              have HUr := hid (HBr.out.trans (u.bel.mono HBr.out.size))
              clear e0 e1 n7 m7 
              go_wp2
              go_ret
              exact ⟨by rw [HE.out, HR.out]; rfl, HU.out⟩
          · obtain rfl : i = l.length := by omega
            have HR := hid ((outsOk_iff l).2 HK.out)
            go_wp2
            go_ret
            exact ⟨by rw [HE.out, HR.out]; rfl, HBw.out⟩
      · have c2' := decide_eq_false c2
        rw [decide_eq_false (show ¬ (1 ≤ l.length ∧ l.length ≤ 8) by omega), Bool.false_and] at HE
        clear c2
        refine (c2' ▸ l1In (l.length : Int) 1 8 _).mono ?_
        rintro r w3 ⟨rfl, hw⟩
        obtain rfl := hw.symm
        go_wp2
        go_ret
        exact ⟨by rw [HE.out]; rfl, HB2.out⟩
  · have c0' := decide_eq_false c0
    have HQ : Hid (q = false) := by rw [Hid, HE.out, decide_eq_false (show ¬ (1 ≤ txn ∧ txn ≤ 1000000) by omega)]; rfl
    clear c0
    refine (c0' ▸ l1In txn 0 1000000 _).mono ?_
    rintro r w1 ⟨rfl, hw⟩
    obtain rfl := hw.symm
    go_wp2
    go_ret
    exact ⟨by rw [HQ.out]; rfl, HB.out⟩

theorem l4JournalOk (w : World) (J : Jn) (a : Option Addr) (cap : Nat) (S : Ous w a J.outs) (hs : J.Small) :
    Calls Tryz.prog 136 #[jnV J a cap] w fun r w' => r = .returned (.bool J.ok) ∧ Below w.heap.size w w' := by
  obtain ⟨txn, dn, k, v, t, at_, s, l⟩ := J
  cases dn
  · exact jnOk_not w txn k v t at_ s l a cap S hs.text hs.outs hs.each
  · exact jnOk_done w txn k v t at_ s l a cap hs.text hs.outs

end Go.Proofs.YtjlkighikfgaeaaGreatDoor.Sec
