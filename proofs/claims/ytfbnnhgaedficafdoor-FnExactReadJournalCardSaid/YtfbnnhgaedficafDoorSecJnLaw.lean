/-
  The walks of the laws' helpers for journals: sizes, and a journal laid anew. No condition but texts and lists that Go can hold.
-/
import Derived.Test.YtfbnnhgaedficafDoorSecJn7
import Derived.Test.YtfbnnhgaedficafDoorEqDisk
namespace Go.Proofs.YtfbnnhgaedficafDoor.Sec
open Go.RowKit Go.Proofs.YtfbnnhgaedficafDoor.Mem
set_option linter.unusedVariables false

set_option maxRecDepth 100000 in
set_option maxHeartbeats 1000000 in
theorem szOp (w : World) (k v t a : Int) (s : ByteArray) (left : Int) (hl : s.size ≤ maxLen) (h0 : 0 ≤ left) (h1 : left ≤ 1048576) :
    Calls Tryd.prog 40 #[opV k v t a s, .int .i64 left] w fun e w' => ∃ r, e = .returned (.int .i64 r) ∧ Below w.heap.size w w' ∧ FitN r left s.size := by
  unfold maxLen at hl
  unfold opV
  by_cases hb : left < (s.size : Int)
  · go_enter Tryd.func40, Tryd.ntmps40
    go_wp2
    go_ret
    exact ⟨_, rfl, by go_grown, Or.inl (by decide)⟩
  · go_enter Tryd.func40, Tryd.ntmps40
    go_wp2
    go_ret
    exact ⟨_, rfl, by go_grown, Or.inr ⟨by omega, by omega, by omega⟩⟩

set_option maxRecDepth 100000 in
set_option maxHeartbeats 1000000 in
theorem szOut (w : World) (xs : Int) (s : ByteArray) (left : Int) (hl : s.size ≤ maxLen) (h0 : 0 ≤ left) (h1 : left ≤ 1048576) :
    Calls Tryd.prog 80 #[.agg #[.int .i64 xs, .string s], .int .i64 left] w fun e w' => ∃ r, e = .returned (.int .i64 r) ∧ Below w.heap.size w w' ∧ FitN r left s.size := by
  unfold maxLen at hl
  by_cases hb : left < (s.size : Int)
  · go_enter Tryd.func80, Tryd.ntmps80
    go_wp2
    go_ret
    exact ⟨_, rfl, by go_grown, Or.inl (by decide)⟩
  · go_enter Tryd.func80, Tryd.ntmps80
    go_wp2
    go_ret
    exact ⟨_, rfl, by go_grown, Or.inr ⟨by omega, by omega, by omega⟩⟩

/-- What is left: a number below 0, or one not above what was, and all fits. -/
def FitO (r left : Int) (l : List Ou) : Prop := r < 0 ∨ (0 ≤ r ∧ r ≤ left ∧ (l.length : Int) ≤ left ∧ ∀ x ∈ l, (x.text.size : Int) ≤ left)

set_option maxRecDepth 100000 in
set_option maxHeartbeats 1000000 in
theorem szOutS (w : World) (a : Option Addr) (cap : Nat) (l : List Ou) (left : Int) (S : Ous w a l) (hl : l.length ≤ maxLen) (hs : ∀ x ∈ l, x.text.size ≤ maxLen) (h0 : 0 ≤ left) (h1 : left ≤ 1048576) :
    Calls Tryd.prog 41 #[.slice a l.length cap, .int .i64 left] w fun e w' => ∃ r, e = .returned (.int .i64 r) ∧ Below w.heap.size w w' ∧ FitO r left l := by
  unfold maxLen at hl
  have HS := hid S
  have Hs := hid hs
  clear S hs
  by_cases hb : left < (l.length : Int)
  · go_enter Tryd.func41, Tryd.ntmps41
    go_wp2
    go_ret
    exact ⟨_, rfl, Below.refl _ _, Or.inl (by decide)⟩
  go_enter Tryd.func41, Tryd.ntmps41
  go_wp2
  go_loopw [1, 5] (fun z i wr => ∃ (k : Nat) (m : Int), k ≤ l.length ∧ i = .int .i64 (k : Int) ∧ z = .int .i64 m ∧ 0 ≤ m ∧ m ≤ left ∧ Hid (∀ j, j < k → ((l.getD j Ou.none).text.size : Int) ≤ left) ∧ Hid (Below w.heap.size w wr)) (fun _ i _ => l.length - (intOf i).toNat)
  case atStart => exact ⟨0, left - l.length, Nat.zero_le _, rfl, rfl, by omega, by omega, fun j hj => by omega, Below.refl _ _⟩
  case round =>
    obtain ⟨k, m, hk, rfl, rfl, hm0, hm1, HJ, HB⟩ := hrel
    by_cases hlt : k < l.length
    · obtain ⟨b, off, rfl, c0, c1⟩ := Ous.at_ (HS.out.below HB.out) k hlt
      have hx : (l.getD k Ou.none).text.size ≤ maxLen := Hs.out _ (by simp [List.getD, hlt])
      generalize hq : l.getD k Ou.none = x at c0 c1 hx
      have HX := hid hq
      clear hq
      obtain ⟨xs, xt⟩ := x
      simp only [] at c0 c1 hx
      go_wp2_with fail
      refine (szOut wr xs xt m hx hm0 (by omega)).mono ?_
      rintro e w1 ⟨r, rfl, b1, hf⟩
      have HB1 := hid (HB.out.trans (b1.mono HB.out.size))
      have HF := hid hf
      clear b1 hf c0 c1 hx
      by_cases hr : r < 0
      · go_wp2
        go_ret
        exact ⟨_, rfl, HB1.out, Or.inl (by decide)⟩
      · have hf : 0 ≤ r ∧ r ≤ m ∧ (xt.size : Int) ≤ m := by
          rcases HF.out with h | h
          · omega
          · exact h
        have hf1 := hf.1
        have hf2 := hf.2.1
        have HF2 := hid hf.2.2
        clear hf HF
        go_wp2
        exact ⟨⟨k + 1, r, by omega, by go_num, rfl, hf1, by omega, fun j hj => by
          by_cases h : j = k
          · subst h; rw [HX.out]; have := HF2.out; show (xt.size : Int) ≤ left; omega
          · exact HJ.out j (by omega), HB1⟩, by simp [intOf]; omega⟩
    · obtain rfl : k = l.length := by omega
      go_wp2
      go_ret
      refine ⟨_, rfl, HB.out, Or.inr ⟨hm0, hm1, by omega, fun x hx => ?_⟩⟩
      obtain ⟨j, hj, rfl⟩ := List.getElem_of_mem hx
      have := HJ.out j hj
      rwa [List.getD, List.getElem?_eq_getElem hj] at this

/-- All of it is of a size that Go can hold. -/
structure Jn.Held (J : Jn) : Prop where
  text : J.text.size ≤ maxLen
  outs : J.outs.length ≤ maxLen
  each : ∀ x ∈ J.outs, x.text.size ≤ maxLen

set_option maxRecDepth 100000 in
set_option maxHeartbeats 1000000 in
theorem szJournal (w : World) (J : Jn) (a : Option Addr) (cap : Nat) (S : Ous w a J.outs) (hh : J.Held) :
    Calls Tryd.prog 16 #[jnV J a cap, .int .i64 1048576] w fun e w' => ∃ r, e = .returned (.int .i64 r) ∧ Below w.heap.size w w' ∧ (r < 0 ∨ J.Small) := by
  obtain ⟨txn, dn, k, v, t, at_, s, l⟩ := J
  have hS1 : s.size ≤ maxLen := hh.text
  have hS2 : l.length ≤ maxLen := hh.outs
  have HS3 : Hid (∀ x ∈ l, x.text.size ≤ maxLen) := hh.each
  have HS := hid S
  have HV : Hid (jnV ⟨txn, dn, k, v, t, at_, s, l⟩ a cap = .agg #[.int .i64 txn, .bool dn, .int .i64 k, .int .i64 v, .int .i64 t, .int .i64 at_, .string s, .slice a l.length cap]) := rfl
  rw [HV.out]
  clear S hh
  obtain ⟨wa, hwa, ez, A0, B0⟩ := one_new w [.int .i64 txn, .bool dn, .int .i64 k, .int .i64 v, .int .i64 t, .int .i64 at_, .string s, .slice a l.length cap] 35
  have k0 := A0.c 0 rfl
  have k1 := A0.c 1 rfl
  have k2 := A0.c 2 rfl
  have k3 := A0.c 3 rfl
  have k4 := A0.c 4 rfl
  have k5 := A0.c 5 rfl
  have k6 := A0.c 6 rfl
  have k7 := A0.c 7 rfl
  have HA := hid A0
  have HB := hid B0
  clear A0 B0
  go_enter Tryd.func16, Tryd.ntmps16
  go_wp2_with fail
  refine (szOp wa k v t at_ s 1048576 hS1 (by decide) (by decide)).mono ?_
  rintro e w1 ⟨r, rfl, b1, hf⟩
  replace k7 := (HA.out.below b1 HA.out.lt).c 7 rfl
  have HB1 := hid (HB.out.trans (b1.mono HB.out.size))
  have HF := hid hf
  clear b1 hf hwa k0 k1 k2 k3 k4 k5 k6 HA HB
  by_cases hr : r < 0
  · go_wp2
    go_ret
    exact ⟨_, rfl, HB1.out, Or.inl (by decide)⟩
  have hf : 0 ≤ r ∧ r ≤ 1048576 ∧ (s.size : Int) ≤ 1048576 := by
    rcases HF.out with h | h
    · omega
    · exact h
  have hf1 := hf.1
  have hf2 := hf.2.1
  have HF2 := hid hf.2.2
  clear hf HF
  go_wp2_with fail
  refine (szOutS w1 a cap l r (HS.out.below HB1.out) hS2 HS3.out hf1 hf2).mono ?_
  rintro e w2 ⟨r2, rfl, b2, hf⟩
  have HB2 := hid (HB1.out.trans (b2.mono HB1.out.size))
  have HF := hid hf
  clear b2 hf k7
  by_cases hr2 : r2 < 0
  · go_wp2
    go_ret
    exact ⟨_, rfl, HB2.out, Or.inl (by decide)⟩
  · have HSm : Hid (Jn.Small ⟨txn, dn, k, v, t, at_, s, l⟩) := by
      rcases HF.out with h | ⟨_, h2, h3, h4⟩
      · omega
      · have := HF2.out
        exact ⟨by show s.size ≤ 1048576; omega, by show l.length ≤ 1048576; omega, fun x hx => by have := h4 x hx; omega⟩
    go_wp2
    go_ret
    exact ⟨_, rfl, HB2.out, Or.inr HSm.out⟩

end Go.Proofs.YtfbnnhgaedficafDoor.Sec
