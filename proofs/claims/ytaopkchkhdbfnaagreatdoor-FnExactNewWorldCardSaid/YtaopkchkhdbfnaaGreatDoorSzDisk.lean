/-
  The walks of laws.szStringS, laws.szIntS, laws.szWrite, laws.szWriteS and laws.szDisk: where they leave a number that isn't below 0, all lengths are at most what was left. No condition but texts that Go can hold.
-/
import Derived.Test.YtaopkchkhdbfnaaGreatDoorToDisk
namespace Go.Proofs.YtaopkchkhdbfnaaGreatDoor.Mem
open Go.RowKit
set_option linter.unusedVariables false

/-- What is left: a number below 0, or one not above what was, and all fits. -/
def FitS (r left : Int) (l : List ByteArray) : Prop := r < 0 ∨ (0 ≤ r ∧ r ≤ left ∧ (l.length : Int) ≤ left ∧ ∀ s ∈ l, (s.size : Int) ≤ left)
def FitN (r left : Int) (n : Nat) : Prop := r < 0 ∨ (0 ≤ r ∧ r ≤ left ∧ (n : Int) ≤ left)
def FitW (r left : Int) (l : List Wt) : Prop := r < 0 ∨ (0 ≤ r ∧ r ≤ left ∧ (l.length : Int) ≤ left ∧ ∀ s ∈ l, (s.text.size : Int) ≤ left)

set_option maxRecDepth 100000 in
set_option maxHeartbeats 1000000 in
theorem szStringS (w : World) (a : Option Addr) (cap : Nat) (l : List ByteArray) (left : Int) (S : Strs w a l) (hl : l.length ≤ maxLen) (hs : ∀ s ∈ l, s.size ≤ maxLen) (h0 : 0 ≤ left) (h1 : left ≤ 1048576) :
    Calls Tryz.prog 84 #[.slice a l.length cap, .int .i64 left] w fun e w' => ∃ r, e = .returned (.int .i64 r) ∧ w' = w ∧ FitS r left l := by
  unfold maxLen at hl hs
  have HS := hid S
  have Hs := hid hs
  clear S hs
  by_cases hb : left < (l.length : Int)
  · go_enter Tryz.func84, Tryz.ntmps84
    go_wp2
    go_ret
    exact ⟨_, rfl, rfl, Or.inl (by decide)⟩
  · go_enter Tryz.func84, Tryz.ntmps84
    go_wp2
    go_loop [1, 5] (fun x i => ∃ (k : Nat) (m : Int), k ≤ l.length ∧ i = .int .i64 (k : Int) ∧ x = .int .i64 m ∧ 0 ≤ m ∧ m ≤ left ∧ Hid (∀ j, j < k → ((l.getD j ByteArray.empty).size : Int) ≤ left)) (fun _ i => l.length - (intOf i).toNat)
    case atStart => exact ⟨0, _, Nat.zero_le _, rfl, rfl, by omega, by omega, fun j hj => by omega⟩
    case round =>
      obtain ⟨k, m, hk, rfl, rfl, hm0, hm1, HJ⟩ := hrel
      by_cases hlt : k < l.length
      · obtain ⟨b, off, rfl, hc⟩ := HS.out k hlt
        replace hc : w.cell? ⟨b, off + k, none⟩ = some (.string (l.getD k ByteArray.empty)) := hc
        have hx2 : (l.getD k ByteArray.empty).size ≤ 9223372036854775807 := by
          rw [List.getD, List.getElem?_eq_getElem hlt]; exact Hs.out _ (List.getElem_mem hlt)
        generalize hx : l.getD k ByteArray.empty = x at hc hx2
        have HX := hid hx
        clear hx
        by_cases hneg : m < (x.size : Int)
        · go_wp2
          go_ret
          exact ⟨_, rfl, rfl, Or.inl (by decide)⟩
        · go_wp2
          go_round
          case rel => exact ⟨k + 1, m - x.size, by omega, by go_num, rfl, by omega, by omega, fun j hj => by
            by_cases h : j = k
            · subst h; rw [HX.out]; omega
            · exact HJ.out j (by omega)⟩
          case measure => simp [intOf]; omega
      · obtain rfl : k = l.length := by omega
        go_wp2
        go_ret
        refine ⟨_, rfl, rfl, Or.inr ⟨hm0, hm1, by omega, fun s hs => ?_⟩⟩
        obtain ⟨j, hj, rfl⟩ := List.getElem_of_mem hs
        have := HJ.out j hj
        rwa [List.getD, List.getElem?_eq_getElem hj] at this

set_option maxHeartbeats 1000000 in
theorem szIntS (w : World) (a : Option Addr) (cap n : Nat) (left : Int) (hl : n ≤ maxLen) (h0 : 0 ≤ left) (h1 : left ≤ 1048576) :
    Calls Tryz.prog 26 #[.slice a n cap, .int .i64 left] w fun e w' => ∃ r, e = .returned (.int .i64 r) ∧ w' = w ∧ FitN r left n := by
  unfold maxLen at hl
  by_cases hb : left < (n : Int)
  · go_enter Tryz.func26, Tryz.ntmps26
    go_wp2
    go_ret
    exact ⟨_, rfl, rfl, Or.inl (by decide)⟩
  · go_enter Tryz.func26, Tryz.ntmps26
    go_wp2
    go_ret
    exact ⟨_, rfl, rfl, Or.inr ⟨by omega, by omega, by omega⟩⟩

set_option maxHeartbeats 1000000 in
theorem szWrite (w : World) (x : Wt) (left : Int) (hl : x.text.size ≤ maxLen) (h0 : 0 ≤ left) (h1 : left ≤ 1048576) :
    Calls Tryz.prog 143 #[x.val, .int .i64 left] w fun e w' => ∃ r, e = .returned (.int .i64 r) ∧ Below w.heap.size w w' ∧ FitN r left x.text.size := by
  unfold maxLen at hl
  obtain ⟨xh, xe, xs, xt⟩ := x
  unfold Wt.val
  replace hl : xt.size ≤ 2 ^ 63 - 1 := hl
  by_cases hb : left < (xt.size : Int)
  · go_enter Tryz.func143, Tryz.ntmps143
    go_wp2
    go_ret
    exact ⟨_, rfl, by go_grown, Or.inl (by decide)⟩
  · go_enter Tryz.func143, Tryz.ntmps143
    go_wp2
    go_ret
    exact ⟨_, rfl, by go_grown, Or.inr ⟨by omega, by omega, by show (xt.size : Int) ≤ left; omega⟩⟩

set_option maxRecDepth 100000 in
set_option maxHeartbeats 1000000 in
theorem szWriteS (w : World) (a : Option Addr) (cap : Nat) (l : List Wt) (left : Int) (S : Wts w a l) (hl : l.length ≤ maxLen) (hs : ∀ s ∈ l, s.text.size ≤ maxLen) (h0 : 0 ≤ left) (h1 : left ≤ 1048576) :
    Calls Tryz.prog 85 #[.slice a l.length cap, .int .i64 left] w fun e w' => ∃ r, e = .returned (.int .i64 r) ∧ Below w.heap.size w w' ∧ FitW r left l := by
  unfold maxLen at hl
  have HS := hid S
  have Hs := hid hs
  clear S hs
  by_cases hb : left < (l.length : Int)
  · go_enter Tryz.func85, Tryz.ntmps85
    go_wp2
    go_ret
    exact ⟨_, rfl, Below.refl _ _, Or.inl (by decide)⟩
  · go_enter Tryz.func85, Tryz.ntmps85
    go_wp2
    go_loopw [1, 5] (fun x i wr => ∃ (k : Nat) (m : Int), k ≤ l.length ∧ i = .int .i64 (k : Int) ∧ x = .int .i64 m ∧ 0 ≤ m ∧ m ≤ left ∧ Hid (∀ j, j < k → ((l.getD j Wt.none).text.size : Int) ≤ left) ∧ Hid (Below w.heap.size w wr)) (fun _ i _ => l.length - (intOf i).toNat)
    case atStart => exact ⟨0, _, Nat.zero_le _, rfl, rfl, by omega, by omega, fun j hj => by omega, Below.refl _ _⟩
    case round =>
      obtain ⟨k, m, hk, rfl, rfl, hm0, hm1, HJ, HB⟩ := hrel
      by_cases hlt : k < l.length
      · obtain ⟨b, off, rfl, c0, c1, c2, c3⟩ := Wts.at_ (HS.out.below HB.out) k hlt
        have Hx2 : Hid ((l.getD k Wt.none).text.size ≤ maxLen) := by
          show (l.getD k Wt.none).text.size ≤ maxLen
          rw [List.getD, List.getElem?_eq_getElem hlt]; exact Hs.out _ (List.getElem_mem hlt)
        generalize hx : l.getD k Wt.none = x at c0 c1 c2 c3 Hx2
        have HX := hid hx
        clear hx
        go_wp2_with fail
        refine (szWrite _ x m Hx2.out hm0 (by omega)).mono ?_
        rintro e w1 ⟨r, rfl, hb1, hf⟩
        have HB1 := hid (HB.out.trans (hb1.mono HB.out.size))
        have HF := hid hf
        clear hb1 hf c0 c1 c2 c3
        by_cases hneg : r < 0
        · go_wp2
          go_ret
          exact ⟨_, rfl, HB1.out, Or.inl (by decide)⟩
        · obtain ⟨q0, q1, q2⟩ : 0 ≤ r ∧ r ≤ m ∧ (x.text.size : Int) ≤ m := by
            rcases HF.out with h | h
            · omega
            · exact h
          go_wp2
          go_roundw
          case rel => exact ⟨k + 1, r, by omega, by go_num, rfl, by omega, by omega, fun j hj => by
            by_cases h : j = k
            · subst h; rw [HX.out]; omega
            · exact HJ.out j (by omega), HB1⟩
          case measure => simp [intOf]; omega
      · obtain rfl : k = l.length := by omega
        go_wp2
        go_ret
        refine ⟨_, rfl, HB.out, Or.inr ⟨hm0, hm1, by omega, fun s hs => ?_⟩⟩
        obtain ⟨j, hj, rfl⟩ := List.getElem_of_mem hs
        have := HJ.out j hj
        rwa [List.getD, List.getElem?_eq_getElem hj] at this

/-- The sizes that Go can hold. -/
structure Dk.Held (D : Dk) : Prop where
  h1 : D.sec.length ≤ maxLen
  h2 : D.ep.length ≤ maxLen
  h3 : D.pe.length ≤ maxLen
  t1 : ∀ s ∈ D.sec, s.size ≤ maxLen
  t3 : ∀ x ∈ D.pe, x.text.size ≤ maxLen

/-- The sizes that the laws look at. -/
structure Dk.Small (D : Dk) (m : Int) : Prop where
  h1 : (D.sec.length : Int) ≤ m
  h2 : (D.ep.length : Int) ≤ m
  h3 : (D.pe.length : Int) ≤ m
  t1 : ∀ s ∈ D.sec, (s.size : Int) ≤ m
  t3 : ∀ x ∈ D.pe, (x.text.size : Int) ≤ m

def FitD (r left : Int) (D : Dk) : Prop := r < 0 ∨ (0 ≤ r ∧ r ≤ left ∧ D.Small left)

set_option maxRecDepth 100000 in
set_option maxHeartbeats 1000000 in
theorem szDisk (w : World) (v : Value) (D : Dk) (left : Int) (h : DkR w v D) (hd : D.Held) (h0 : 0 ≤ left) (h1 : left ≤ 1048576) :
    Calls Tryz.prog 23 #[v, .int .i64 left] w fun e w' => ∃ r, e = .returned (.int .i64 r) ∧ Below w.heap.size w w' ∧ FitD r left D := by
  obtain ⟨a1, c1, a2, c2, a3, c3, rfl, s1, s2, s3⟩ := h
  have HS1 := hid s1
  have HS2 := hid s2
  have HS3 := hid s3
  have HD := hid hd
  clear s1 s2 s3 hd
  go_enter Tryz.func23, Tryz.ntmps23
  go_wp2_with fail
  obtain ⟨w1, hw1, _, A0, B0⟩ := one_new w [.slice a1 D.sec.length c1, .slice a2 D.ep.length c2, .slice a3 D.pe.length c3] 26
  simp only [hw1]
  clear hw1
  refine (szStringS w1 a1 c1 D.sec left (HS1.out.below B0) HD.out.h1 HD.out.t1 h0 h1).mono ?_
  rintro e w1' ⟨r1, rfl, hw, hf⟩
  subst hw
  have HF1 := hid hf
  have HB := hid B0
  have HA := hid A0
  have ca := A0.c 1 rfl
  clear hf B0 A0
  by_cases hn1 : r1 < 0
  · go_wp2
    go_ret
    exact ⟨_, rfl, HB.out, Or.inl (by decide)⟩
  obtain ⟨p0, p1, p2, p3⟩ : 0 ≤ r1 ∧ r1 ≤ left ∧ (D.sec.length : Int) ≤ left ∧ ∀ s ∈ D.sec, (s.size : Int) ≤ left := by
    rcases HF1.out with h | h
    · omega
    · exact h
  have HP3 := hid p3
  clear p3
  go_wp2_with fail
  refine (szIntS w1' a2 c2 D.ep.length r1 HD.out.h2 p0 (by omega)).mono ?_
  rintro e w2 ⟨r2, rfl, hw, hf⟩
  subst hw
  have HF2 := hid hf
  have cb := HA.out.c 2 rfl
  clear hf ca
  by_cases hn2 : r2 < 0
  · go_wp2
    go_ret
    exact ⟨_, rfl, HB.out, Or.inl (by decide)⟩
  obtain ⟨q0, q1, q2⟩ : 0 ≤ r2 ∧ r2 ≤ r1 ∧ (D.ep.length : Int) ≤ r1 := by
    rcases HF2.out with h | h
    · omega
    · exact h
  go_wp2_with fail
  refine (szWriteS w2 a3 c3 D.pe r2 (HS3.out.below HB.out) HD.out.h3 HD.out.t3 q0 (by omega)).mono ?_
  rintro e w3 ⟨r3, rfl, hb3, hf⟩
  have HF3 := hid hf
  have HB3 := hid (HB.out.trans (hb3.mono HB.out.size))
  clear hf hb3 cb
  by_cases hn3 : r3 < 0
  · go_wp2
    go_ret
    exact ⟨_, rfl, HB3.out, Or.inl (by decide)⟩
  obtain ⟨t0, t1, t2, t3⟩ : 0 ≤ r3 ∧ r3 ≤ r2 ∧ (D.pe.length : Int) ≤ r2 ∧ ∀ s ∈ D.pe, (s.text.size : Int) ≤ r2 := by
    rcases HF3.out with h | h
    · omega
    · exact h
  have HT3 := hid t3
  clear t3
  go_wp2
  go_ret
  exact ⟨_, rfl, HB3.out, Or.inr ⟨by omega, by omega, ⟨p2, by omega, by omega, HP3.out, fun x hx => by have := HT3.out x hx; omega⟩⟩⟩

end Go.Proofs.YtaopkchkhdbfnaaGreatDoor.Mem
