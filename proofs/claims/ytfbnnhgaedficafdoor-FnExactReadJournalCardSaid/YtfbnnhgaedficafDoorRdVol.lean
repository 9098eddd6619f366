/-
  The walks of impl's cursor's flag and of impl.volParts. Condition: the table of sixteen sums and the error of a part that lacks stand in their variables.
-/
import Derived.Test.YtfbnnhgaedficafDoorRdNums
import Derived.Test.YtfbnnhgaedficafDoorRdHost
import Derived.Test.YtfbnnhgaedficafDoorSecVol
import Derived.Test.YtfbnnhgaedficafDoorRdGroup
import Derived.Test.YtfbnnhgaedficafDoorRdFrees
import Derived.RegionTactic
import Derived.BigRegion
import Derived.Deep.RegionWith
import Derived.RegionDies
namespace Go.Proofs.YtfbnnhgaedficafDoor.Rd
open Go.RowKit Go.Proofs.YtfbnnhgaedficafDoor.Mem Go.Proofs.YtfbnnhgaedficafDoor.Sec
set_option linter.unusedVariables false

theorem nums_split3 {R : ByteArray → Int × Nat} {s : ByteArray} {i : Nat} : ∀ {n : Nat} {x y f : Int} {z : Nat}, nums R s i 3 = some ([x, y, f], z) → nums R s i (n + 3) = (nums R s z n).map (fun p => (x :: y :: f :: p.1, p.2))
  | 0, x, y, f, z, h => by rw [h]; rfl
  | n + 1, x, y, f, z, h => by
    show nums R s i ((n + 3) + 1) = _
    conv => lhs; unfold nums
    rw [nums_split3 (n := n) h]
    conv => rhs; unfold nums
    cases nums R s z n with
    | none => rfl
    | some p =>
      simp only [Option.map_some, Option.bind_some]
      split <;> simp

/-- The flag: a number that is 0 or 1. -/
theorem flagOf (R : ByteArray → Int × Nat) (hR : Reads R) (s : ByteArray) (hs : s.size ≤ 1048576) (i : Nat) (w : World) (c : Nat) (h : Cur w c (rest s i)) (u : TypeId) (pv : Value) (hL : Lacks w u pv) (hc : 1 < c) :
    Calls Tryd.prog 90 #[.pointer (some ⟨c, 0, none⟩)] w fun e w' => ((R (rest s i)).2 ≠ 0 ∧ (R (rest s i)).1 ≤ 1 ∧ e = .returned (.bool (decide ((R (rest s i)).1 = 1))) ∧ Moved w w' c (rest s (i + (R (rest s i)).2))) ∨ (((R (rest s i)).2 = 0 ∨ 1 < (R (rest s i)).1) ∧ e = lack u pv ∧ Kept (fun b => b = c) w w') := by
  have HR := hid hR
  have HH := hid h
  have HL := hid hL
  clear hR h hL
  go_enter Tryd.func90, Tryd.ntmps90
  go_wp2_with fail
  refine (count R HR.out s hs i 1 w c HH.out u pv HL.out hc).mono ?_
  rintro e w1 (⟨hq, hle, rfl, M1⟩ | ⟨hq, rfl, k1⟩)
  · have HM := hid M1
    have HQ := hid hq
    have HX := hid hle
    clear M1 hq hle
    generalize hx : (R (rest s i)).1 = x
    have HE := hid hx
    clear hx
    go_wp2
    go_ret
    exact Or.inl ⟨HQ.out, by have := HX.out; have := HE.out; omega, by rw [HE.out]; rfl, HM.out⟩
  · have HQ := hid hq
    have HK := hid k1
    clear hq k1
    unfold lack
    go_wp2
    exact ⟨rfl, Or.inr ⟨HQ.out, rfl, HK.out⟩⟩

/-- No volume: a number lacks, or the flag is no flag. -/
def NoVol (R : ByteArray → Int × Nat) (s : ByteArray) (i : Nat) : Prop := nums R s i 7 = none ∨ ∃ x y f l z, nums R s i 7 = some (x :: y :: f :: l, z) ∧ 1 < f

theorem noVol_flag {R : ByteArray → Int × Nat} {s : ByteArray} {i : Nat} {x y : Int} {z : Nat} (h : nums R s i 2 = some ([x, y], z)) (hq : (R (rest s z)).2 = 0 ∨ 1 < (R (rest s z)).1) : NoVol R s i := by
  have h3 := nums_step h
  by_cases h0 : (R (rest s z)).2 = 0
  · rw [if_pos h0] at h3
    exact Or.inl (nums_none (k := 3) h3 4)
  · rw [if_neg h0] at h3
    have h7 := nums_split3 (n := 4) h3
    cases hn : nums R s (z + (R (rest s z)).2) 4 with
    | none => rw [hn] at h7; exact Or.inl h7
    | some p =>
      rw [hn] at h7
      exact Or.inr ⟨x, y, (R (rest s z)).1, p.1, p.2, h7, by rcases hq with q | q; exact absurd q h0; exact q⟩

end Go.Proofs.YtfbnnhgaedficafDoor.Rd
