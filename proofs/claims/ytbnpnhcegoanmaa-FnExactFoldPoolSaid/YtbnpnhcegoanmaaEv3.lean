/-
  The walk of laws.markEventS, and a list of events that comes in as an argument. No condition.
-/
import Derived.Test.YtbnpnhcegoanmaaEv2
import Derived.Test.YtbnpnhcegoanmaaPpIn
namespace Go.Proofs.Ytbnpnhcegoanmaa.Pl
open Go.RowKit Go.ChangeShapes Go.WideShapes Go.ChangeAt Go.Joins Go.Deep
open Go.Proofs.Ytbnpnhcegoanmaa.Mem
set_option linter.unusedVariables false

/-- The marks in a list of events. -/
def mkE (k i : Nat) : Value := if i % 7 = 6 then .string (markS (k + i)) else .int .i64 ((k + i : Nat) : Int)

def msE (f : Nat → Value) (k j i : Nat) : Value := if i < j * 7 then mkE k i else f i

theorem msE_succ (f : Nat → Value) (k j : Nat) (i : Nat) : (if i = j * 7 + 6 then Value.string (markS (k + (j * 7 + 6))) else if i = j * 7 + 5 then Value.int .i64 ((k + (j * 7 + 5) : Nat) : Int) else if i = j * 7 + 4 then Value.int .i64 ((k + (j * 7 + 4) : Nat) : Int) else if i = j * 7 + 3 then Value.int .i64 ((k + (j * 7 + 3) : Nat) : Int) else if i = j * 7 + 2 then Value.int .i64 ((k + (j * 7 + 2) : Nat) : Int) else if i = j * 7 + 1 then Value.int .i64 ((k + (j * 7 + 1) : Nat) : Int) else if i = j * 7 then Value.int .i64 ((k + (j * 7) : Nat) : Int) else msE f k j i) = msE f k (j + 1) i := by
  unfold msE mkE
  by_cases h6 : i = j * 7 + 6
  · subst h6
    rw [if_pos rfl, if_pos (by omega), if_pos (by omega)]
  rw [if_neg h6]
  by_cases h5 : i = j * 7 + 5
  · subst h5
    rw [if_pos rfl, if_pos (by omega), if_neg (by omega)]
  rw [if_neg h5]
  by_cases h4 : i = j * 7 + 4
  · subst h4
    rw [if_pos rfl, if_pos (by omega), if_neg (by omega)]
  rw [if_neg h4]
  by_cases h3 : i = j * 7 + 3
  · subst h3
    rw [if_pos rfl, if_pos (by omega), if_neg (by omega)]
  rw [if_neg h3]
  by_cases h2 : i = j * 7 + 2
  · subst h2
    rw [if_pos rfl, if_pos (by omega), if_neg (by omega)]
  rw [if_neg h2]
  by_cases h1 : i = j * 7 + 1
  · subst h1
    rw [if_pos rfl, if_pos (by omega), if_neg (by omega)]
  rw [if_neg h1]
  by_cases h0 : i = j * 7
  · subst h0
    rw [if_pos rfl, if_pos (by omega), if_neg (by omega)]
  rw [if_neg h0]
  by_cases h : i < j * 7
  · rw [if_pos h, if_pos (show i < (j + 1) * 7 by omega)]
  · rw [if_neg h, if_neg (show ¬ i < (j + 1) * 7 by omega)]

set_option maxRecDepth 100000 in
set_option maxHeartbeats 1500000 in
theorem markEventS (w : World) (B : Nat) (a : Option Addr) (n cap k : Nat) (f : Nat → Value) (S : Wr w B a (n * 7) f) (hk : 0 < k) (hn : n ≤ 1048576) (hb : k + n * 7 ≤ 16777216) :
    Calls Try.prog 10 #[.slice a n cap, .int .i64 (k : Int)] w fun e w' => e = .returned (.int .i64 ((k + n * 7 : Nat) : Int)) ∧ Wr w' B a (n * 7) (mkE k) ∧ Kept (foot a (n * 7)) w w' := by
  have HS := hid S
  clear S
  go_enter Try.func10, Try.ntmps10
  go_wp2
  go_loopw [1, 5] (fun x i wr => ∃ (j m : Nat), j ≤ n ∧ i = .int .i64 (j : Int) ∧ x = .int .i64 (m : Int) ∧ m ≤ 16777216 ∧ Hid (m = k + j * 7) ∧ Hid (Wr wr B a (n * 7) (msE f k j)) ∧ Hid (Kept (foot a (n * 7)) w wr)) (fun _ i _ => n - (intOf i).toNat)
  case atStart => exact ⟨0, k, Nat.zero_le _, rfl, rfl, by omega, by rw [Hid]; omega, HS.out.congr (fun i _ => by simp [msE]), Kept.refl _ _⟩
  case round =>
    obtain ⟨j, m, hj, rfl, rfl, hm, Hm, HW, HK⟩ := hrel
    by_cases hlt : j < n
    · have hm2 : m + 7 ≤ 16777216 := by have := Hm.out; omega
      obtain ⟨b, off, rfl, hB, hc0, hz0⟩ := HW.out (j * 7) (by omega)
      go_upto_region 6 with fail
      obtain ⟨w00, hw00, HW0, HK0⟩ : ∃ w00, wr.setCell ⟨b, off + j * 7, none⟩ (.int .i64 ((m : Int))) = w00 ∧ Hid (Wr w00 B (some ⟨b, off, none⟩) (n * 7) _) ∧ Hid (Kept _ w w00) :=
        ⟨_, rfl, (by have := HW.out.set (j * 7) (by omega) (.int .i64 ((m : Int))); exact this), HK.out.trans (kept_set _ b (off + j * 7) (.int .i64 ((m : Int))))⟩
      simp only [hw00]
      clear hw00 hc0 hz0
      obtain ⟨b1, off1, e1, _, hc1, hz1⟩ := HW0.out (j * 7 + 1) (by omega)
      cases e1
      rw [← Nat.add_assoc] at hc1 hz1
      go_upto_region 8 with fail
      obtain ⟨w10, hw10, HW1, HK1⟩ : ∃ w10, w00.setCell ⟨b, off + j * 7 + 1, none⟩ (.int .i64 ((m : Int) + 1)) = w10 ∧ Hid (Wr w10 B (some ⟨b, off, none⟩) (n * 7) _) ∧ Hid (Kept _ w w10) :=
        ⟨_, rfl, (by have := HW0.out.set (j * 7 + 1) (by omega) (.int .i64 ((m : Int) + 1)); rw [← Nat.add_assoc] at this; exact this), HK0.out.trans (kept_set _ b (off + j * 7 + 1) (.int .i64 ((m : Int) + 1)))⟩
      simp only [hw10]
      clear hw10 hc1 hz1
      obtain ⟨b1, off1, e1, _, hc2, hz2⟩ := HW1.out (j * 7 + 2) (by omega)
      cases e1
      rw [← Nat.add_assoc] at hc2 hz2
      go_upto_region 10 with fail
      obtain ⟨w20, hw20, HW2, HK2⟩ : ∃ w20, w10.setCell ⟨b, off + j * 7 + 2, none⟩ (.int .i64 ((m : Int) + 1 + 1)) = w20 ∧ Hid (Wr w20 B (some ⟨b, off, none⟩) (n * 7) _) ∧ Hid (Kept _ w w20) :=
        ⟨_, rfl, (by have := HW1.out.set (j * 7 + 2) (by omega) (.int .i64 ((m : Int) + 1 + 1)); rw [← Nat.add_assoc] at this; exact this), HK1.out.trans (kept_set _ b (off + j * 7 + 2) (.int .i64 ((m : Int) + 1 + 1)))⟩
      simp only [hw20]
      clear hw20 hc2 hz2
      obtain ⟨b1, off1, e1, _, hc3, hz3⟩ := HW2.out (j * 7 + 3) (by omega)
      cases e1
      rw [← Nat.add_assoc] at hc3 hz3
      go_upto_region 12 with fail
      obtain ⟨w30, hw30, HW3, HK3⟩ : ∃ w30, w20.setCell ⟨b, off + j * 7 + 3, none⟩ (.int .i64 ((m : Int) + 1 + 1 + 1)) = w30 ∧ Hid (Wr w30 B (some ⟨b, off, none⟩) (n * 7) _) ∧ Hid (Kept _ w w30) :=
        ⟨_, rfl, (by have := HW2.out.set (j * 7 + 3) (by omega) (.int .i64 ((m : Int) + 1 + 1 + 1)); rw [← Nat.add_assoc] at this; exact this), HK2.out.trans (kept_set _ b (off + j * 7 + 3) (.int .i64 ((m : Int) + 1 + 1 + 1)))⟩
      simp only [hw30]
      clear hw30 hc3 hz3
      obtain ⟨b1, off1, e1, _, hc4, hz4⟩ := HW3.out (j * 7 + 4) (by omega)
      cases e1
      rw [← Nat.add_assoc] at hc4 hz4
      go_upto_region 14 with fail
      obtain ⟨w40, hw40, HW4, HK4⟩ : ∃ w40, w30.setCell ⟨b, off + j * 7 + 4, none⟩ (.int .i64 ((m : Int) + 1 + 1 + 1 + 1)) = w40 ∧ Hid (Wr w40 B (some ⟨b, off, none⟩) (n * 7) _) ∧ Hid (Kept _ w w40) :=
        ⟨_, rfl, (by have := HW3.out.set (j * 7 + 4) (by omega) (.int .i64 ((m : Int) + 1 + 1 + 1 + 1)); rw [← Nat.add_assoc] at this; exact this), HK3.out.trans (kept_set _ b (off + j * 7 + 4) (.int .i64 ((m : Int) + 1 + 1 + 1 + 1)))⟩
      simp only [hw40]
      clear hw40 hc4 hz4
      obtain ⟨b1, off1, e1, _, hc5, hz5⟩ := HW4.out (j * 7 + 5) (by omega)
      cases e1
      rw [← Nat.add_assoc] at hc5 hz5
      go_wp2_with fail
      obtain ⟨w50, hw50, HW5, HK5⟩ : ∃ w50, w40.setCell ⟨b, off + j * 7 + 5, none⟩ (.int .i64 ((m : Int) + 1 + 1 + 1 + 1 + 1)) = w50 ∧ Hid (Wr w50 B (some ⟨b, off, none⟩) (n * 7) _) ∧ Hid (Kept _ w w50) :=
        ⟨_, rfl, (by have := HW4.out.set (j * 7 + 5) (by omega) (.int .i64 ((m : Int) + 1 + 1 + 1 + 1 + 1)); rw [← Nat.add_assoc] at this; exact this), HK4.out.trans (kept_set _ b (off + j * 7 + 5) (.int .i64 ((m : Int) + 1 + 1 + 1 + 1 + 1)))⟩
      simp only [hw50]
      clear hw50 hc5 hz5
      have hm6 : (m : Int) + 1 + 1 + 1 + 1 + 1 + 1 = ((m + 6 : Nat) : Int) := by omega
      rw [hm6]
      clear hm6
      refine (markText (m + 6) w50 (by omega) (by omega)).mono ?_
      rintro e w1 ⟨rfl, b1⟩
      have HW7 := hid (HW5.out.below b1)
      have HK7 := hid (HK5.out.trans (Kept.of_below (S := fun _ => False) b1))
      clear b1
      obtain ⟨b', off', e', _, hc', hz'⟩ := HW7.out (j * 7 + 6) (by omega)
      cases e'
      rw [← Nat.add_assoc] at hc' hz'
      go_wp2
      refine ⟨⟨j + 1, m + 7, by omega, by go_num, by go_num, hm2, by have := Hm.out; rw [Hid]; omega, ?_, ?_⟩, by simp [intOf]; omega⟩
      · have := HW7.out.set (j * 7 + 6) (by omega) (.string (markS (m + 6)))
        rw [← Nat.add_assoc] at this
        have hq := Hm.out
        have q0 : ((k + (j * 7) : Nat) : Int) = (m : Int) := by omega
        have q1 : ((k + (j * 7 + 1) : Nat) : Int) = (m : Int) + 1 := by omega
        have q2 : ((k + (j * 7 + 2) : Nat) : Int) = (m : Int) + 1 + 1 := by omega
        have q3 : ((k + (j * 7 + 3) : Nat) : Int) = (m : Int) + 1 + 1 + 1 := by omega
        have q4 : ((k + (j * 7 + 4) : Nat) : Int) = (m : Int) + 1 + 1 + 1 + 1 := by omega
        have q5 : ((k + (j * 7 + 5) : Nat) : Int) = (m : Int) + 1 + 1 + 1 + 1 + 1 := by omega
        have q6 : k + (j * 7 + 6) = m + 6 := by omega
        exact this.congr (fun i _ => by rw [← msE_succ, q0, q1, q2, q3, q4, q5, q6])
      · exact (HK7.out.trans (kept_set w1 b (off + j * 7 + 6) _)).mono (fun b2 _ h => by
          rcases h with ((((((((h | h) | h) | h) | h) | h) | h) | h) | h)
          · exact h
          all_goals first
            | exact h.elim
            | (subst h; exact ⟨by omega, off, rfl⟩))
    · obtain rfl : j = n := by omega
      go_wp2
      go_ret
      exact ⟨by rw [Hm.out]; rfl, HW.out.congr (fun i hi => by unfold msE; rw [if_pos hi]), HK.out⟩

variable {H : Type} {enc : TypeId × Value → H} {W : World} {base : Nat} {spare : Nat → Bool} {held : Bool}

set_option maxRecDepth 100000 in
theorem ev_cells_in {fuel : Nat} {cs : List Value} {x : DataW H × List MemPlace} (h : DataW.trod enc Try.prog W base spare held fuel 40 cs = some x) :
    ∃ y : Ev, cs = y.cells ∧ y.s.size ≤ maxLen := by
  obtain ⟨xs, n, _, rfl, hl, hlen, hf⟩ := DataW.trod_struct Try.underlying40 h
  have c7 : Try.prog.cellsOf 40 = 7 := by kernel_rfl
  have cO : Try.prog.cellsOf 38 = 5 := by kernel_rfl
  rw [c7] at hl
  match xs, hlen, cs, hl with
  | [y0, y1, y2], _, [v0, v1, v2, v3, v4, v5, v6], _ =>
    have f0 : DataW.trod enc Try.prog W base spare held n 3 [v0] = some y0 := by simpa [cInt] using hf 0 _ rfl
    have f1 : DataW.trod enc Try.prog W base spare held n 3 [v1] = some y1 := by simpa [cInt] using hf 1 _ rfl
    have f2 : DataW.trod enc Try.prog W base spare held n 38 [v2, v3, v4, v5, v6] = some y2 := by simpa [cInt, cO] using hf 2 _ rfl
    obtain ⟨n0, e0, _, _⟩ := DataW.trod_int Try.underlying3 f0
    obtain ⟨n1, e1, _, _⟩ := DataW.trod_int Try.underlying3 f1
    obtain ⟨k, v, t, a, s, e2, hs⟩ := op_in f2
    simp only [List.cons.injEq, and_true] at e0 e1 e2
    obtain ⟨r2, r3, r4, r5, r6⟩ := e2
    subst e0; subst e1; subst r2; subst r3; subst r4; subst r5; subst r6
    exact ⟨⟨n0, n1, k, v, t, a, s⟩, rfl, hs⟩

set_option maxRecDepth 100000 in
/-- A log that came in. -/
theorem evs_in {fuel : Nat} {v : Value} {x : DataW H × List MemPlace} (h : DataW.trod enc Try.prog W base spare held fuel 22 [v] = some x) :
    ∃ a cap l, v = .slice a (l : List Ev).length cap ∧ Evs W a l ∧ l.length ≤ maxLen ∧ ∀ y ∈ l, y.s.size ≤ maxLen := by
  have c2 : Try.prog.cellsOf 40 = 7 := by kernel_rfl
  rcases open_slice Try.underlying22 h with ⟨hcs, _⟩ | ⟨a, len, cap, m, n, D, Pl, hcs, _, hl, hm, hmm, _, hx⟩
  · simp only [List.cons.injEq, and_true] at hcs
    exact ⟨none, 0, [], hcs, fun i hi => by simp at hi, by simp, by simp⟩
  · simp only [List.cons.injEq, and_true] at hcs
    have hlm : len ≤ m := by rw [hmm]; split <;> omega
    have each : ∀ i, ∃ y : Ev, i < len → W.cells? base (a.add (i * 7)) 7 = some y.cells ∧ y.s.size ≤ maxLen := fun i => by
      by_cases hi : i < len
      · obtain ⟨cs', hc, ht⟩ := hx i (by omega)
        rw [c2] at hc
        obtain ⟨y, rfl, hy⟩ := ev_cells_in ht
        exact ⟨y, fun _ => ⟨hc, hy⟩⟩
      · exact ⟨Ev.none, fun h => absurd h hi⟩
    obtain ⟨Y, hY⟩ := Classical.axiomOfChoice each
    refine ⟨some a, cap, (List.range len).map Y, by rw [hcs]; simp, ?_, by simp; omega, ?_⟩
    · unfold Evs
      rw [List.length_map, List.length_range]
      refine Pk.sl_of_add (fun i hi => ?_)
      have hq : i / 7 < len := by omega
      have hc := (World.cells?_some (hY (i / 7) hq).1).2.2 (i % 7) (by omega)
      rw [Addr.add_add, show i / 7 * 7 + i % 7 = i by omega] at hc
      rw [hc]
      unfold evcell
      have e : ((List.range len).map Y).getD (i / 7) Ev.none = Y (i / 7) := by simp [List.getD, hq]
      rw [e]
      have : i % 7 = 0 ∨ i % 7 = 1 ∨ i % 7 = 2 ∨ i % 7 = 3 ∨ i % 7 = 4 ∨ i % 7 = 5 ∨ i % 7 = 6 := by omega
      rcases this with h | h | h | h | h | h | h <;> rw [h] <;> rfl
    · intro s hs
      obtain ⟨i, hi, rfl⟩ := List.mem_map.1 hs
      exact (hY i (List.mem_range.1 hi)).2

end Go.Proofs.Ytbnpnhcegoanmaa.Pl
