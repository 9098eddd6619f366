/-
  The walk of laws.FnExactFormat: the law answers true, and nothing that was there is changed. Condition: the tables of sixteen sums and of the kinds' sizes stand in their variables.
-/
import Derived.Test.YtfbnnhgaedficafDoorFm2
import Derived.Test.YtfbnnhgaedficafDoorFm4
import Derived.Test.YtfbnnhgaedficafDoorEqDisk
import Derived.Test.YtfbnnhgaedficafDoorMarkRows
namespace Go.Proofs.YtfbnnhgaedficafDoor.Fm
open Go.RowKit Go.Proofs.YtfbnnhgaedficafDoor.Mem Go.Proofs.YtfbnnhgaedficafDoor.Sec
set_option linter.unusedVariables false

theorem strs34 {w : World} {a : Option Addr} {l : List ByteArray} {n : Nat} (h : Strs w a l) (e : l.length = n) : Sl w a n (fun i => .string (l.getD i ByteArray.empty)) := by
  subst e; exact h

set_option maxRecDepth 100000 in
set_option maxHeartbeats 2000000 in
theorem eqFmt (w : World) (a b : Option Addr) (ca cb : Nat) (S : Strs w a fmt) (T : Strs w b fmt) :
    Calls Tryd.prog 27 #[.slice a 34 ca, .slice b 34 cb] w fun e w' => e = .returned (.bool true) ∧ Below w.heap.size w w' := by
  have h := eqStringS w a b ca cb fmt fmt S T (by rw [fmt_length]; unfold maxLen; omega) (by rw [fmt_length]; unfold maxLen; omega)
  rw [fmt_length] at h
  refine h.mono ?_
  rintro e w' ⟨rfl, b1⟩
  exact ⟨by rw [decide_eq_true (rfl : fmt = fmt)], b1⟩

set_option maxRecDepth 100000 in
set_option maxHeartbeats 2000000 in
theorem lawFormat (w : World) (T : Sums w) (K : Sector.Kinds w) (hg : 0 < w.heap.size) :
    Calls Tryd.prog 7 #[] w fun e w' => e = .returned (.bool true) ∧ Below w.heap.size w w' := by
  have HT := hid T
  have HK := hid K
  have HG := hid hg
  clear T K hg
  go_enter Tryd.func7, Tryd.ntmps7
  go_wp2_with fail
  refine (sFormat w).mono ?_
  rintro e w1 ⟨a, cap, rfl, hW1, b1⟩
  have HB1 := hid b1
  have HS1 := hid (Wr.sl hW1)
  have HF1 : Hid (∀ b, foot a fmt.length b → b < w1.heap.size) := fun b hb => (Wr.sl hW1).lt hb
  clear hW1 b1
  go_wp2_with fail
  refine (iFormat w1 (HT.out.below HB1.out) (kinds_below HK.out HG.out HB1.out) (Nat.lt_of_lt_of_le HG.out HB1.out.size)).mono ?_
  rintro e w2 ⟨g, rfl, hg0, hW2, b2⟩
  have HB2 := hid (HB1.out.trans (b2.mono HB1.out.size))
  have HS2 : Hid (Strs w2 a fmt) := Sl.below HS1.out b2
  have HW2 := hid hW2
  have HF2 : Hid (∀ b, foot (some ⟨g, 0, none⟩) 34 b → w1.heap.size ≤ b) := fun b hb => Wr.foot_ge hW2 (by rw [fmt_length]; exact hb)
  clear hW2 b2 HS1
  go_wp2_with fail
  refine (eqFmt w2 (some ⟨g, 0, none⟩) a 34 cap HW2.out.sl HS2.out).mono ?_
  rintro e w3 ⟨rfl, b3⟩
  have HB3 := hid (HB2.out.trans (b3.mono HB2.out.size))
  have HS3 : Hid (Strs w3 a fmt) := Sl.below HS2.out b3
  have HW3 : Hid (StrsW w3 w1.heap.size (some ⟨g, 0, none⟩) fmt) := Wr.below HW2.out b3
  clear b3 HS2 HW2
  have HW3' : Hid (Wr w3 w1.heap.size (some ⟨g, 0, none⟩) 34 (fun i => .string (fmt.getD i ByteArray.empty))) := by have := HW3.out; unfold StrsW at this; rwa [fmt_length] at this
  clear HW3
  go_wp2_with fail
  refine (markStringS w3 w1.heap.size (some ⟨g, 0, none⟩) 34 34 1 _ HW3'.out (by decide) (by decide)).mono ?_
  rintro e w4 ⟨rfl, hW4, k4⟩
  have HB4 : Hid (Below w.heap.size w w4) := HB3.out.trans (k4.below HB3.out.size (fun b hb x => by have := HF2.out b x; have := HB1.out.size; omega))
  have HS4 : Hid (Strs w4 a fmt) := Sl.move HS3.out k4 (fun b hb x => by have := HF2.out b x; have := HF1.out b hb; omega)
  have HW4 := hid hW4
  clear hW4 k4 HS3 HW3'
  go_wp2_with fail
  refine (heldStringS w4 (some ⟨g, 0, none⟩) 34 34 1 HW4.out.sl (by decide) (by decide)).mono ?_
  rintro e w5 ⟨rfl, b5⟩
  have HB5 := hid (HB4.out.trans (b5.mono HB4.out.size))
  have HS5 : Hid (Strs w5 a fmt) := Sl.below HS4.out b5
  have HW5 := hid (HW4.out.below b5)
  clear b5 HS4 HW4
  go_wp2_with fail
  refine (iFormat w5 (HT.out.below HB5.out) (kinds_below HK.out HG.out HB5.out) (Nat.lt_of_lt_of_le HG.out HB5.out.size)).mono ?_
  rintro e w6 ⟨g2, rfl, hg2, hW6, b6⟩
  have HB6 := hid (HB5.out.trans (b6.mono HB5.out.size))
  have HS6 : Hid (Strs w6 a fmt) := Sl.below HS5.out b6
  have HW6 := hid (HW5.out.below b6)
  have HS62 := hid (Wr.sl hW6)
  clear hW6 b6 HS5 HW5
  go_wp2_with fail
  refine (eqFmt w6 (some ⟨g2, 0, none⟩) a 34 cap HS62.out HS6.out).mono ?_
  rintro e w7 ⟨rfl, b7⟩
  have HB7 := hid (HB6.out.trans (b7.mono HB6.out.size))
  have HW7 := hid (HW6.out.below b7)
  clear b7 HS6 HW6 HS62
  go_wp2_with fail
  refine (heldStringS w7 (some ⟨g, 0, none⟩) 34 34 1 HW7.out.sl (by decide) (by decide)).mono ?_
  rintro e w8 ⟨rfl, b8⟩
  have HB8 := hid (HB7.out.trans (b8.mono HB7.out.size))
  clear b8 HW7
  go_wp2
  go_ret
  exact ⟨rfl, HB8.out⟩

end Go.Proofs.YtfbnnhgaedficafDoor.Fm
