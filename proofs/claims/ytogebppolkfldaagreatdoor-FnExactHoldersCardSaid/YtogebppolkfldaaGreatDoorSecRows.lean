/-
  The walks of impl.areFrom, impl.showNumbers, spec.l4Block, spec.l4Flag and impl.showFlag. No condition but short lists.
-/
import Derived.Test.YtogebppolkfldaaGreatDoorSecHost2
import Derived.Test.YtogebppolkfldaaGreatDoorSecBuild
namespace Go.Proofs.YtogebppolkfldaaGreatDoor.Sec
open Go.RowKit Go.Proofs.YtogebppolkfldaaGreatDoor.Mem
set_option linter.unusedVariables false

set_option maxRecDepth 100000 in
set_option maxHeartbeats 1000000 in
theorem areFrom (w : World) (a : Option Addr) (cap : Nat) (l : List Int) (lo hi : Int) (S : Ints w a l) (hl : l.length ≤ 1048576) :
    Calls Tryz.prog 56 #[.slice a l.length cap, .int .i64 lo, .int .i64 hi] w fun e w' => e = .returned (.bool (between lo hi l)) ∧ w' = w := by
  have HS := hid S
  clear S
  go_enter Tryz.func56, Tryz.ntmps56
  go_wp2
  go_loop [11] (fun i => ∃ k : Nat, k ≤ l.length ∧ i = .int .i64 (k : Int) ∧ Hid (between lo hi (l.take k) = true)) (fun i => l.length - (intOf i).toNat)
  case atStart => exact ⟨0, Nat.zero_le _, rfl, rfl⟩
  case round =>
    obtain ⟨k, hk, rfl, HK⟩ := hrel
    by_cases hlt : k < l.length
    · obtain ⟨b, off, rfl, hc⟩ := HS.out k hlt
      replace hc : w.cell? ⟨b, off + k, none⟩ = some (.int .i64 (l.getD k 0)) := hc
      have HT := hid (between_take lo hi l k hlt)
      have HN := hid (between_no lo hi l k hlt)
      generalize l.getD k 0 = x at *
      by_cases hx : lo ≤ x ∧ x ≤ hi
      · have hx' := decide_eq_true hx
        have HR : Hid (between lo hi (l.take (k + 1)) = true) := by rw [Hid, HT.out, HK.out, hx']; rfl
        clear hx
        go_wp2_with fail
        refine (hx' ▸ isFrom x lo hi _).mono ?_
        rintro e w1 ⟨rfl, hw⟩
        subst hw
        go_wp2
        exact ⟨⟨k + 1, by omega, by go_num, HR⟩, by simp [intOf]; omega⟩
      · have hx' := decide_eq_false hx
        have HR := hid (HN.out hx)
        clear hx
        go_wp2_with fail
        refine (hx' ▸ isFrom x lo hi _).mono ?_
        rintro e w1 ⟨rfl, hw⟩
        subst hw
        go_wp2
        go_ret
        exact ⟨by rw [HR.out]; rfl, rfl⟩
    · obtain rfl : k = l.length := by omega
      have HR : Hid (between lo hi l = true) := by have := HK.out; rwa [List.take_length] at this
      go_wp2
      go_ret
      exact ⟨by rw [HR.out]; rfl, rfl⟩

set_option maxRecDepth 100000 in
set_option maxHeartbeats 1000000 in
theorem showNumbers (w : World) (a : Option Addr) (cap : Nat) (l : List Int) (lo : Int) (S : Ints w a l) (hl : l.length ≤ 1000) (hlo : -1 ≤ lo ∧ lo ≤ 0) (hb : ∀ k, k < l.length → -1 ≤ l.getD k 0 ∧ l.getD k 0 ≤ 1000000) :
    Calls Tryz.prog 133 #[.slice a l.length cap, .int .i64 lo] w fun e w' => e = .returned (.string (vrs lo l)) ∧ Below w.heap.size w w' := by
  have HS := hid S
  have HN := hid (Build.Bd.new w)
  have HL : Hid (∀ k, k < l.length → -1 ≤ l.getD k 0 ∧ l.getD k 0 ≤ 1000000) := hb
  have HZ := hid (fun k => vrs_size lo (l.take k))
  clear S hb
  go_enter Tryz.func133, Tryz.ntmps133
  go_wp2
  go_loopw [10] (fun i wr => ∃ k : Nat, k ≤ l.length ∧ i = .int .i64 (k : Int) ∧ Hid (Build.Bd w.heap.size w.heap.size (vrs lo (l.take k)) wr) ∧ Hid (Below w.heap.size w wr)) (fun i _ => l.length - (intOf i).toNat)
  case atStart => exact ⟨0, Nat.zero_le _, rfl, HN, (Below.refl _ _).alloc (Nat.le_refl _) _⟩
  case round =>
    obtain ⟨k, hk, rfl, HD, HB⟩ := hrel
    by_cases hlt : k < l.length
    · obtain ⟨b, off, rfl, hc⟩ := (HS.out.below HB.out) k hlt
      replace hc : wr.cell? ⟨b, off + k, none⟩ = some (.int .i64 (l.getD k 0)) := hc
      have hbk := HL.out k hlt
      have HT := hid (vrs_take lo l k hlt)
      have hz := HZ.out k
      have hzl : (l.take k).length ≤ k := List.length_take_le _ _
      generalize l.getD k 0 = x at *
      generalize vrs lo (l.take k) = s at *
      go_wp2_with fail
      refine (iVar (x - lo) _).mono ?_
      rintro e w1 ⟨rfl, b1⟩
      have hv := vr_size (x - lo)
      have HB1 := hid (HB.out.trans (b1.mono HB.out.size))
      have HD1 := hid (HD.out.below b1)
      clear b1 hc
      go_wp2_with fail
      refine (Build.write w.heap.size w.heap.size s (vr (x - lo)) w1 HD1.out (by omega) HB1.out.size).mono ?_
      rintro e w2 ⟨rfl, hD2, b2⟩
      have HD2 := hid hD2
      have HB2 := hid (HB1.out.trans b2)
      clear hD2 b2
      go_wp2
      exact ⟨⟨k + 1, by omega, by go_num, by rw [HT.out]; exact HD2, HB2⟩, by simp [intOf]; omega⟩
    · obtain rfl : k = l.length := by omega
      have HD' : Hid (Build.Bd w.heap.size w.heap.size (vrs lo l) wr) := by have := HD.out; rwa [List.take_length] at this
      go_wp2_with fail
      refine (Build.string w.heap.size w.heap.size (vrs lo l) wr HD'.out HB.out.size).mono ?_
      rintro e w1 ⟨rfl, b1⟩
      have HB1 := hid (HB.out.trans b1)
      clear b1
      go_wp2
      go_ret
      exact ⟨rfl, HB1.out⟩

set_option maxHeartbeats 400000 in
theorem l4Block (x : Int) (w : World) :
    Calls Tryz.prog 112 #[.int .i64 x] w fun e w' => e = .returned (.bool (decide (0 ≤ x ∧ x ≤ 17))) ∧ w' = w := by
  by_cases h1 : 0 ≤ x
  · by_cases h2 : x < 18
    · rw [decide_eq_true (And.intro h1 (show x ≤ 17 by omega))]
      go_enter Tryz.func112, Tryz.ntmps112
      go_wp2
      go_ret
      exact ⟨rfl, rfl⟩
    · rw [decide_eq_false (fun h => h2 (by omega))]
      go_enter Tryz.func112, Tryz.ntmps112
      go_wp2
      go_ret
      exact ⟨rfl, rfl⟩
  · rw [decide_eq_false (fun h => h1 h.1)]
    go_enter Tryz.func112, Tryz.ntmps112
    go_wp2
    go_ret
    exact ⟨rfl, rfl⟩

set_option maxHeartbeats 400000 in
theorem l4Flag (b : Bool) (w : World) : Calls Tryz.prog 81 #[.bool b] w fun e w' => e = .returned (.string (flag b)) ∧ Below w.heap.size w w' := by
  cases b
  · have HD : Hid (vr 0 = flag false) := rfl
    go_enter Tryz.func81, Tryz.ntmps81
    go_wp2_with fail
    refine (sVar 0 _).mono ?_
    rintro e w1 ⟨rfl, b1⟩
    have HB := hid b1
    clear b1
    go_wp2
    go_ret
    exact ⟨Own.ret_str HD.out, HB.out⟩
  · have HD : Hid (vr 1 = flag true) := rfl
    go_enter Tryz.func81, Tryz.ntmps81
    go_wp2_with fail
    refine (sVar 1 _).mono ?_
    rintro e w1 ⟨rfl, b1⟩
    have HB := hid b1
    clear b1
    go_wp2
    go_ret
    exact ⟨Own.ret_str HD.out, HB.out⟩

set_option maxHeartbeats 400000 in
theorem showFlag (b : Bool) (w : World) : Calls Tryz.prog 132 #[.bool b] w fun e w' => e = .returned (.string (flag b)) ∧ Below w.heap.size w w' := by
  cases b
  · have HD : Hid (vr 0 = flag false) := rfl
    go_enter Tryz.func132, Tryz.ntmps132
    go_wp2_with fail
    refine (iVar 0 _).mono ?_
    rintro e w1 ⟨rfl, b1⟩
    have HB := hid b1
    clear b1
    go_wp2
    go_ret
    exact ⟨Own.ret_str HD.out, HB.out⟩
  · have HD : Hid (vr 1 = flag true) := rfl
    go_enter Tryz.func132, Tryz.ntmps132
    go_wp2_with fail
    refine (iVar 1 _).mono ?_
    rintro e w1 ⟨rfl, b1⟩
    have HB := hid b1
    clear b1
    go_wp2
    go_ret
    exact ⟨Own.ret_str HD.out, HB.out⟩

end Go.Proofs.YtogebppolkfldaaGreatDoor.Sec
