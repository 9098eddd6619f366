/-
  The walk of laws.FnExactPeek, out of a contract for impl.Peek: at every disk, host and sector the law answers true, and nothing that was there is changed. No other condition.
-/
import Derived.Test.YtppjohfafnbdlajOpenDisk
namespace Go.Proofs.Ytppjohfafnbdlaj.Mem
open Go.RowKit Classical
set_option linter.unusedVariables false

/-- What impl.Peek must do. -/
def PeekDoes : Prop := ∀ (w : World) (v : Value) (D : Dk) (x s : Int), DkR w v D → D.Held → D.Small 1048576 →
  Calls Try.prog 18 #[v, .int .i64 x, .int .i64 s] w fun e w' => e = .returned (.tuple #[.string (D.peek x s).1, .bool (D.peek x s).2]) ∧ Below w.heap.size w w'

theorem Dk.Small.c1 {D : Dk} (h : D.Small 1048576) : D.sec.length ≤ 1048576 := by have := h.h1; omega
theorem Dk.Small.c2 {D : Dk} (h : D.Small 1048576) : D.ep.length ≤ 1048576 := by have := h.h2; omega
theorem Dk.Small.c3 {D : Dk} (h : D.Small 1048576) : D.pe.length ≤ 1048576 := by have := h.h3; omega

set_option maxRecDepth 100000 in
set_option maxHeartbeats 2000000 in
theorem peek_law (IP : PeekDoes) (w : World) (v : Value) (D : Dk) (x s : Int) (h : DkR w v D) (hd : D.Held) :
    Calls Try.prog 5 #[v, .int .i64 x, .int .i64 s] w fun e w' => e = .returned (.bool true) ∧ Below w.heap.size w w' := by
  have HI := hid IP
  have HH := hid h
  have HD := hid hd
  obtain ⟨a1, c1, a2, c2, a3, c3, rfl, _, _, _⟩ := h
  clear hd IP
  go_enter Try.func5, Try.ntmps5
  go_wp2_with fail
  obtain ⟨wb, hwb, ez, A0, B0⟩ := one_new w [.slice a1 D.sec.length c1, .slice a2 D.ep.length c2, .slice a3 D.pe.length c3] 26
  simp only [hwb]
  clear hwb
  refine (szDisk wb _ D 1048576 (HH.out.below B0) HD.out (by decide) (by decide)).mono ?_
  rintro e w1 ⟨r, rfl, b1, hf⟩
  replace A0 := A0.below b1 A0.lt
  replace B0 := B0.trans (b1.mono B0.size)
  have HA := hid A0
  have HB := hid B0
  have HF := hid hf
  clear A0 B0 b1 hf
  by_cases hr : r < 0
  · go_wp2
    go_ret
    exact ⟨rfl, HB.out⟩
  have HS : Hid (D.Small 1048576) := by
    rcases HF.out with h | h
    · omega
    · exact h.2.2
  have k0 := HA.out.c 0 rfl
  have k1 := HA.out.c 1 rfl
  have k2 := HA.out.c 2 rfl
  clear HF
  go_wp2_with fail
  refine (toDisk w1 _ D (HH.out.below HB.out) HS.out.c1 HS.out.c2 HS.out.c3).mono ?_
  rintro e w2 ⟨v2, rfl, D2, b2⟩
  have HA2 := hid (HA.out.below b2 HA.out.lt)
  have HB2 := hid (HB.out.trans (b2.mono HB.out.size))
  have HD2 := hid D2
  replace k0 := HA2.out.c 0 rfl
  replace k1 := HA2.out.c 1 rfl
  replace k2 := HA2.out.c 2 rfl
  clear HA HB b2 D2
  go_wp2_with fail
  refine (specPeek w2 v2 D HD2.out.read HD.out x s).mono ?_
  rintro e w3 ⟨rfl, b3⟩
  have HA3 := hid (HA2.out.below b3 HA2.out.lt)
  have HB3 := hid (HB2.out.trans (b3.mono HB2.out.size))
  replace k0 := HA3.out.c 0 rfl
  replace k1 := HA3.out.c 1 rfl
  replace k2 := HA3.out.c 2 rfl
  clear HA2 HB2 b3 HD2
  go_wp2_with fail
  refine (toDisk w3 _ D (HH.out.below HB3.out) HS.out.c1 HS.out.c2 HS.out.c3).mono ?_
  rintro e w4 ⟨v4, rfl, D4, b4⟩
  have HA4 := hid (HA3.out.below b4 HA3.out.lt)
  have HB4 := hid (HB3.out.trans (b4.mono HB3.out.size))
  have HD4 := hid D4
  obtain ⟨p1, q1, p2, q2, p3, q3, rfl, _, _, _, _, _⟩ := D4
  replace k0 := HA4.out.c 0 rfl
  replace k1 := HA4.out.c 1 rfl
  replace k2 := HA4.out.c 2 rfl
  clear HA3 HB3 b4
  go_wp2_with fail
  obtain ⟨wc, hwc, ec, X0, B0⟩ := one_new w4 [.slice p1 D.sec.length q1, .slice p2 D.ep.length q2, .slice p3 D.pe.length q3] 31
  simp only [hwc]
  clear hwc
  have A0 := HA4.out.below B0 HA4.out.lt
  refine (HI.out wc _ D x s (HD4.out.below B0).read HD.out HS.out).mono ?_
  rintro e w5 ⟨rfl, b5⟩
  have HA5 := hid (A0.below b5 A0.lt)
  have HX5 := hid (X0.below b5 X0.lt)
  have HD5 := hid ((HD4.out.below B0).below b5)
  have HB5 := hid ((HB4.out.trans (B0.mono HB4.out.size)).trans (b5.mono (Nat.le_trans HB4.out.size B0.size)))
  replace k0 := HA5.out.c 0 rfl
  replace k1 := HA5.out.c 1 rfl
  replace k2 := HA5.out.c 2 rfl
  have m0 := HX5.out.c 0 rfl
  have m1 := HX5.out.c 1 rfl
  have m2 := HX5.out.c 2 rfl
  clear HA4 HB4 b5 X0 B0 A0
  generalize (D.peek x s).1 = y
  generalize (D.peek x s).2 = z
  have hdd : decide (D = D) = true := decide_eq_true rfl
  go_wp2
  go_region_with (first
    | (go_at_call 10; refine (toDisk _ _ D (HH.out.below HB5.out.drew) HS.out.c1 HS.out.c2 HS.out.c3).mono ?_; rintro e w6 ⟨v6, rfl, D6, b6'⟩; have b6 := undrew b6'; have n0 := (HX5.out.below b6 HX5.out.lt).c 0 rfl; have n1 := (HX5.out.below b6 HX5.out.lt).c 1 rfl; have n2 := (HX5.out.below b6 HX5.out.lt).c 2 rfl)
    | (go_at_call 12; refine (eqDisk _ _ _ D D (HD5.out.below b6).read D6.read HD.out HD.out).mono ?_; rintro e w7 ⟨rfl, b7⟩))
  all_goals (have HB7 := hid ((HB5.out.trans (b6.mono HB5.out.size)).trans (b7.mono (Nat.le_trans HB5.out.size b6.size))); clear b6 b6' b7 D6 n0 n1 n2 m0 m1 m2 k0 k1 k2; go_wp2; go_ret; exact ⟨rfl, HB7.out⟩)

end Go.Proofs.Ytppjohfafnbdlaj.Mem
