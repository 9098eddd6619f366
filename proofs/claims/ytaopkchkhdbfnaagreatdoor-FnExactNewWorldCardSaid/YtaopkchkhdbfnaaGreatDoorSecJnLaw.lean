/-
  The walks of the laws' helpers for journals: sizes, and a journal laid anew. No condition but texts and lists that Go can hold.
-/
import Derived.Test.YtaopkchkhdbfnaaGreatDoorSecJn7
import Derived.Test.YtaopkchkhdbfnaaGreatDoorEqDisk
namespace Go.Proofs.YtaopkchkhdbfnaaGreatDoor.Sec
open Go.RowKit Go.Proofs.YtaopkchkhdbfnaaGreatDoor.Mem
set_option linter.unusedVariables false

set_option maxRecDepth 100000 in
set_option maxHeartbeats 1000000 in
theorem szOp (w : World) (k v t a : Int) (s : ByteArray) (left : Int) (hl : s.size ≤ maxLen) (h0 : 0 ≤ left) (h1 : left ≤ 1048576) :
    Calls Tryz.prog 144 #[opV k v t a s, .int .i64 left] w fun e w' => ∃ r, e = .returned (.int .i64 r) ∧ Below w.heap.size w w' ∧ FitN r left s.size := by
  unfold maxLen at hl
  unfold opV
  by_cases hb : left < (s.size : Int)
  · go_enter Tryz.func144, Tryz.ntmps144
    go_wp2
    go_ret
    exact ⟨_, rfl, by go_grown, Or.inl (by decide)⟩
  · go_enter Tryz.func144, Tryz.ntmps144
    go_wp2
    go_ret
    exact ⟨_, rfl, by go_grown, Or.inr ⟨by omega, by omega, by omega⟩⟩

set_option maxRecDepth 100000 in
set_option maxHeartbeats 1000000 in
theorem szOut (w : World) (xs : Int) (s : ByteArray) (left : Int) (hl : s.size ≤ maxLen) (h0 : 0 ≤ left) (h1 : left ≤ 1048576) :
    Calls Tryz.prog 250 #[.agg #[.int .i64 xs, .string s], .int .i64 left] w fun e w' => ∃ r, e = .returned (.int .i64 r) ∧ Below w.heap.size w w' ∧ FitN r left s.size := by
  unfold maxLen at hl
  by_cases hb : left < (s.size : Int)
  · go_enter Tryz.func250, Tryz.ntmps250
    go_wp2
    go_ret
    exact ⟨_, rfl, by go_grown, Or.inl (by decide)⟩
  · go_enter Tryz.func250, Tryz.ntmps250
    go_wp2
    go_ret
    exact ⟨_, rfl, by go_grown, Or.inr ⟨by omega, by omega, by omega⟩⟩

/-- What is left: a number below 0, or one not above what was, and all fits. -/
def FitO (r left : Int) (l : List Ou) : Prop := r < 0 ∨ (0 ≤ r ∧ r ≤ left ∧ (l.length : Int) ≤ left ∧ ∀ x ∈ l, (x.text.size : Int) ≤ left)

set_option maxRecDepth 100000 in
set_option maxHeartbeats 1000000 in
theorem szOutS (w : World) (a : Option Addr) (cap : Nat) (l : List Ou) (left : Int) (S : Ous w a l) (hl : l.length ≤ maxLen) (hs : ∀ x ∈ l, x.text.size ≤ maxLen) (h0 : 0 ≤ left) (h1 : left ≤ 1048576) :
    Calls Tryz.prog 209 #[.slice a l.length cap, .int .i64 left] w fun e w' => ∃ r, e = .returned (.int .i64 r) ∧ Below w.heap.size w w' ∧ FitO r left l := by
  unfold maxLen at hl
  have HS := hid S
  have Hs := hid hs
  clear S hs
  by_cases hb : left < (l.length : Int)
  · go_enter Tryz.func209, Tryz.ntmps209
    go_wp2
    go_ret
    exact ⟨_, rfl, Below.refl _ _, Or.inl (by decide)⟩
  go_enter Tryz.func209, Tryz.ntmps209
  go_wp2
  go_loopw [1, 5] (fun z i wr => ∃ (k : Nat) (m : Int), k ≤ l.length ∧ i = .int .i64 (k : Int) ∧ z = .int .i64 m ∧ 0 ≤ m ∧ m ≤ left ∧ Hid (∀ j, j < k → ((l.getD j Ou.none).text.size : Int) ≤ left) ∧ Hid (Below w.heap.size w wr)) (fun _ i _ => l.length - (intOf i).toNat)
  case atStart => exact ⟨0, left - l.length, Nat.zero_le _, rfl, rfl, by omega, by omega, fun j hj => by omega, Below.refl _ _⟩
  case round =>
    obtain ⟨k, m, hk, rfl, rfl, hm0, hm1, HJ, HB⟩ := hrel
    by_cases hlt : k < l.length
    · obtain ⟨b, off, rfl, c0, c1⟩ := Ous.at_ (HS.out.below HB.out) k hlt
      have hx : (l.getD k Ou.none).text.size ≤ maxLen := Hs.out _ (by simp [List.getD, hlt])
      generalize hq : l.getD k Ou.none = x at c0 c1 hx
      have HX := hid hq
      clear hq
      obtain ⟨xs, xt⟩ := x
      simp only [] at c0 c1 hx
      go_wp2_with fail
      refine (szOut wr xs xt m hx hm0 (by omega)).mono ?_
      rintro e w1 ⟨r, rfl, b1, hf⟩
      have HB1 := hid (HB.out.trans (b1.mono HB.out.size))
      have HF := hid hf
      clear b1 hf c0 c1 hx
      by_cases hr : r < 0
      · go_wp2
        go_ret
        exact ⟨_, rfl, HB1.out, Or.inl (by decide)⟩
      · have hf : 0 ≤ r ∧ r ≤ m ∧ (xt.size : Int) ≤ m := by
          rcases HF.out with h | h
          · omega
          · exact h
        have hf1 := hf.1
        have hf2 := hf.2.1
        have HF2 := hid hf.2.2
        clear hf HF
        go_wp2
        exact ⟨⟨k + 1, r, by omega, by go_num, rfl, hf1, by omega, fun j hj => by
          by_cases h : j = k
          · subst h; rw [HX.out]; have := HF2.out; show (xt.size : Int) ≤ left; omega
          · exact HJ.out j (by omega), HB1⟩, by simp [intOf]; omega⟩
    · obtain rfl : k = l.length := by omega
      go_wp2
      go_ret
      refine ⟨_, rfl, HB.out, Or.inr ⟨hm0, hm1, by omega, fun x hx => ?_⟩⟩
      obtain ⟨j, hj, rfl⟩ := List.getElem_of_mem hx
      have := HJ.out j hj
      rwa [List.getD, List.getElem?_eq_getElem hj] at this

/-- All of it is of a size that Go can hold. -/
structure Jn.Held (J : Jn) : Prop where
  text : J.text.size ≤ maxLen
  outs : J.outs.length ≤ maxLen
  each : ∀ x ∈ J.outs, x.text.size ≤ maxLen

end Go.Proofs.YtaopkchkhdbfnaaGreatDoor.Sec
