/-
  The walks of spec.ShowFrees and impl.ShowFrees: both give the text of freed blocks. Condition for impl's: the table of sixteen sums holds what the program's text lays.
-/
import Derived.Test.YtogebppolkfldaaGreatDoorSecRows
namespace Go.Proofs.YtogebppolkfldaaGreatDoor.Sec
open Go.RowKit Go.Proofs.YtogebppolkfldaaGreatDoor.Mem
set_option linter.unusedVariables false

theorem freesOk_long (l : List Int) (h : ¬ l.length ≤ 12) : freesOk l = false := by unfold freesOk; rw [decide_eq_false h]; rfl
theorem freesOk_short (l : List Int) (h : l.length ≤ 12) : freesOk l = between 0 17 l := by unfold freesOk; rw [decide_eq_true h]; rfl
theorem frees_no {l : List Int} (h : freesOk l = false) : showFrees l = ⟨#[]⟩ := by unfold showFrees; rw [h]; rfl
theorem frees_yes {l : List Int} (h : freesOk l = true) : summed (⟨#[102]⟩ ++ vr (l.length : Int) ++ vrs 0 l) = showFrees l := by unfold showFrees; rw [h]; rfl
theorem frees_len {l : List Int} (h : freesOk l = true) : l.length ≤ 12 := by
  unfold freesOk at h; rw [Bool.and_eq_true] at h; exact of_decide_eq_true h.1
theorem frees_bd {l : List Int} (h : freesOk l = true) : ∀ k, k < l.length → 0 ≤ l.getD k 0 ∧ l.getD k 0 ≤ 17 := fun k hk => by
  unfold freesOk at h; rw [Bool.and_eq_true] at h; exact between_getD h.2 k hk

theorem frees_size (l : List Int) (h : l.length ≤ 12) : ((⟨#[102]⟩ : ByteArray) ++ vr (l.length : Int) ++ vrs 0 l).size ≤ 1048576 := by
  have h1 := vr_size (l.length : Int)
  have h2 := vrs_size 0 l
  rw [ByteArray.size_append, ByteArray.size_append]
  have : (⟨#[102]⟩ : ByteArray).size = 1 := rfl
  omega

set_option maxRecDepth 100000 in
set_option maxHeartbeats 1000000 in
theorem l4FreesOk (w : World) (a : Option Addr) (cap : Nat) (l : List Int) (S : Ints w a l) (hl : l.length ≤ 1048576) :
    Calls Tryz.prog 140 #[.slice a l.length cap] w fun e w' => e = .returned (.bool (freesOk l)) ∧ w' = w := by
  have HS := hid S
  clear S
  by_cases hg : 12 < (l.length : Int)
  · have HN := hid (freesOk_long l (by omega))
    go_enter Tryz.func140, Tryz.ntmps140
    go_wp2
    go_ret
    exact ⟨by rw [HN.out]; rfl, rfl⟩
  have HE := hid (freesOk_short l (by omega))
  go_enter Tryz.func140, Tryz.ntmps140
  go_wp2
  go_loop [3] (fun i => ∃ k : Nat, k ≤ l.length ∧ i = .int .i64 (k : Int) ∧ Hid (between 0 17 (l.take k) = true)) (fun i => l.length - (intOf i).toNat)
  case atStart => exact ⟨0, Nat.zero_le _, rfl, rfl⟩
  case round =>
    obtain ⟨k, hk, rfl, HK⟩ := hrel
    by_cases hlt : k < l.length
    · obtain ⟨b, off, rfl, hc⟩ := HS.out k hlt
      replace hc : w.cell? ⟨b, off + k, none⟩ = some (.int .i64 (l.getD k 0)) := hc
      have HT := hid (between_take 0 17 l k hlt)
      have HN := hid (between_no 0 17 l k hlt)
      generalize l.getD k 0 = x at *
      by_cases hx : 0 ≤ x ∧ x ≤ 17
      · have hx' := decide_eq_true hx
        have HR : Hid (between 0 17 (l.take (k + 1)) = true) := by rw [Hid, HT.out, HK.out, hx']; rfl
        clear hx
        go_wp2_with fail
        refine (hx' ▸ l4Block x _).mono ?_
        rintro e w1 ⟨rfl, hw⟩
        subst hw
        go_wp2
        exact ⟨⟨k + 1, by omega, by go_num, HR⟩, by simp [intOf]; omega⟩
      · have hx' := decide_eq_false hx
        have HR := hid (HN.out hx)
        clear hx
        go_wp2_with fail
        refine (hx' ▸ l4Block x _).mono ?_
        rintro e w1 ⟨rfl, hw⟩
        subst hw
        go_wp2
        go_ret
        exact ⟨by rw [HE.out, HR.out]; rfl, rfl⟩
    · obtain rfl : k = l.length := by omega
      have HR : Hid (between 0 17 l = true) := by have := HK.out; rwa [List.take_length] at this
      go_wp2
      go_ret
      exact ⟨by rw [HE.out, HR.out]; rfl, rfl⟩

set_option maxRecDepth 100000 in
set_option maxHeartbeats 1000000 in
theorem areFrees (w : World) (a : Option Addr) (cap : Nat) (l : List Int) (S : Ints w a l) (hl : l.length ≤ 1048576) :
    Calls Tryz.prog 173 #[.slice a l.length cap] w fun e w' => e = .returned (.bool (freesOk l)) ∧ w' = w := by
  have HS := hid S
  clear S
  by_cases hg : 12 < (l.length : Int)
  · have HN := hid (freesOk_long l (by omega))
    go_enter Tryz.func173, Tryz.ntmps173
    go_wp2
    go_ret
    exact ⟨by rw [HN.out]; rfl, rfl⟩
  have HE := hid (freesOk_short l (by omega))
  go_enter Tryz.func173, Tryz.ntmps173
  go_wp2_with fail
  refine (areFrom w a cap l 0 17 HS.out hl).mono ?_
  rintro e w1 ⟨rfl, hw⟩
  subst hw
  generalize between 0 17 l = z at *
  go_wp2
  go_ret
  exact ⟨by rw [HE.out]; rfl, rfl⟩

theorem step_str (p s v : ByteArray) : p ++ s ++ v = p ++ (s ++ v) := append_assoc p s v

set_option maxRecDepth 100000 in
set_option maxHeartbeats 1000000 in
theorem sShowFrees (w : World) (a : Option Addr) (cap : Nat) (l : List Int) (S : Ints w a l) (hl : l.length ≤ 1048576) :
    Calls Tryz.prog 110 #[.slice a l.length cap] w fun e w' => e = .returned (.string (showFrees l)) ∧ Below w.heap.size w w' := by
  have HS := hid S
  clear S
  go_enter Tryz.func110, Tryz.ntmps110
  go_wp2_with fail
  refine (l4FreesOk w a cap l HS.out hl).mono ?_
  rintro e w1 ⟨rfl, hw⟩
  subst hw
  cases hf : freesOk l with
  | false =>
    have HN := hid (frees_no hf)
    clear hf
    go_wp2
    go_ret
    exact ⟨Own.ret_str HN.out.symm, Below.refl _ _⟩
  | true =>
    have HY := hid (frees_yes hf)
    have h12 := frees_len hf
    have HZ := hid (frees_size l h12)
    have HV := hid (fun k => vrs_size 0 (l.take k))
    clear hf
    go_wp2_with fail
    refine (sVar (l.length : Int) _).mono ?_
    rintro e w2 ⟨rfl, b2⟩
    have z1 := vr_size (l.length : Int)
    have HB := hid b2
    clear b2
    generalize hp : (⟨#[102]⟩ : ByteArray) ++ vr (l.length : Int) = p at *
    have HP := hid hp
    have zp : p.size ≤ 8 := by rw [← hp, ByteArray.size_append]; have : (⟨#[102]⟩ : ByteArray).size = 1 := rfl; omega
    go_wp2
    clear hp
    go_loopw [3, 4] (fun s i wr => ∃ k : Nat, k ≤ l.length ∧ i = .int .i64 (k : Int) ∧ s = .string (p ++ vrs 0 (l.take k)) ∧ Hid (Below w1.heap.size w1 wr)) (fun _ i _ => l.length - (intOf i).toNat)
    case atStart => exact ⟨0, Nat.zero_le _, rfl, by rw [show vrs 0 (l.take 0) = ⟨#[]⟩ from rfl, append_empty], HB⟩
    case round =>
      obtain ⟨k, hk, rfl, rfl, HB'⟩ := hrel
      by_cases hlt : k < l.length
      · obtain ⟨b, off, rfl, hc⟩ := (HS.out.below HB'.out) k hlt
        replace hc : wr.cell? ⟨b, off + k, none⟩ = some (.int .i64 (l.getD k 0)) := hc
        have HT := hid (vrs_take 0 l k hlt)
        have hz := HV.out k
        have hzl : (l.take k).length ≤ k := List.length_take_le _ _
        generalize l.getD k 0 = x at *
        generalize vrs 0 (l.take k) = s at *
        have hps : (p ++ s).size ≤ 1000 := by rw [ByteArray.size_append]; omega
        have HA := hid (append_assoc p s (vr (x - 0)))
        generalize p ++ s = q at *
        go_wp2_with fail
        refine (sVar x _).mono ?_
        rintro e w3 ⟨rfl, b3⟩
        have zx := vr_size x
        have HB3 := hid (HB'.out.trans (b3.mono HB'.out.size))
        clear b3 hc
        go_wp2
        exact ⟨⟨k + 1, by omega, by go_num, by rw [HT.out, ← HA.out, Int.sub_zero], HB3⟩, by simp [intOf]; omega⟩
      · obtain rfl : k = l.length := by omega
        have HE : Hid (vrs 0 (l.take l.length) = vrs 0 l) := by rw [Hid, List.take_length]
        rw [HE.out]
        generalize p ++ vrs 0 l = q at *
        go_wp2_with fail
        refine (l4Sum q _ HZ.out).mono ?_
        rintro e w3 ⟨rfl, b3⟩
        have HB3 := hid (HB'.out.trans (b3.mono HB'.out.size))
        clear b3
        go_wp2
        go_ret
        exact ⟨Own.ret_str HY.out, HB3.out⟩

set_option maxRecDepth 100000 in
set_option maxHeartbeats 1000000 in
theorem iShowFrees (w : World) (a : Option Addr) (cap : Nat) (l : List Int) (S : Ints w a l) (hl : l.length ≤ 1048576) (T : Sums w) :
    Calls Tryz.prog 151 #[.slice a l.length cap] w fun e w' => e = .returned (.string (showFrees l)) ∧ Below w.heap.size w w' := by
  have HS := hid S
  have HT := hid T
  clear S T
  go_enter Tryz.func151, Tryz.ntmps151
  go_wp2_with fail
  refine (areFrees w a cap l HS.out hl).mono ?_
  rintro e w1 ⟨rfl, hw⟩
  subst hw
  cases hf : freesOk l with
  | false =>
    have HN := hid (frees_no hf)
    clear hf
    go_wp2
    go_ret
    exact ⟨Own.ret_str HN.out.symm, Below.refl _ _⟩
  | true =>
    have HY := hid (frees_yes hf)
    have h12 := frees_len hf
    have HZ := hid (frees_size l h12)
    have HB' := hid (frees_bd hf)
    clear hf
    go_wp2_with fail
    refine (iVar (l.length : Int) _).mono ?_
    rintro e w2 ⟨rfl, b2⟩
    have z1 := vr_size (l.length : Int)
    have HB := hid b2
    clear b2
    go_wp2_with fail
    refine (showNumbers w2 a cap l 0 (HS.out.below HB.out) (by omega) (by decide) (fun k hk => by have := HB'.out k hk; omega)).mono ?_
    rintro e w3 ⟨rfl, b3⟩
    have z2 := vrs_size 0 l
    have HB3 := hid (HB.out.trans (b3.mono HB.out.size))
    clear b3
    go_wp2_with fail
    refine (withSum' _ _ HZ.out (HT.out.below HB3.out)).mono ?_
    rintro e w4 ⟨rfl, b4⟩
    have HB4 := hid (HB3.out.trans (b4.mono HB3.out.size))
    clear b4
    go_wp2
    go_ret
    exact ⟨Own.ret_str HY.out, HB4.out⟩

end Go.Proofs.YtogebppolkfldaaGreatDoor.Sec
