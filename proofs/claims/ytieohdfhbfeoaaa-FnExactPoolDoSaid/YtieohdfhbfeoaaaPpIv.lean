/-
  The program's own volumes: each in a block of its own. The walks of impl.volumeOf, impl.hasEachPlace, impl.isVolume. No condition.
-/
import Derived.Test.YtieohdfhbfeoaaaPpEq
namespace Go.Proofs.Ytieohdfhbfeoaaa.Pl
open Go.RowKit Go.Proofs.Ytieohdfhbfeoaaa.Mem
set_option linter.unusedVariables false

/-- A volume's cells behind k places. -/
def ivK (on : Bool) (h : Nat → Bool) (t : Nat → ByteArray) (k : Nat) : List Value :=
  .bool on :: (List.range 4).flatMap fun i => [.bool (if i < k then h i else false), .string (if i < k then t i else ⟨#[]⟩)]
/-- A volume's cells. -/
def ivR (on : Bool) (h : Nat → Bool) (t : Nat → ByteArray) : List Value := [.bool on, .bool (h 0), .string (t 0), .bool (h 1), .string (t 1), .bool (h 2), .string (t 2), .bool (h 3), .string (t 3)]
theorem ivK_4 (on : Bool) (h : Nat → Bool) (t : Nat → ByteArray) : ivK on h t 4 = ivR on h t := rfl
theorem ivK_0 (on : Bool) (h : Nat → Bool) (t : Nat → ByteArray) : ivK on h t 0 = [.bool on, .bool false, .string ⟨#[]⟩, .bool false, .string ⟨#[]⟩, .bool false, .string ⟨#[]⟩, .bool false, .string ⟨#[]⟩] := rfl
theorem ivK_succ (on : Bool) (h : Nat → Bool) (t : Nat → ByteArray) (k : Nat) (hk : k < 4) : ((ivK on h t k).set (1 + k * 2) (.bool (h k))).set (1 + k * 2 + 1) (.string (t k)) = ivK on h t (k + 1) := by
  have : k = 0 ∨ k = 1 ∨ k = 2 ∨ k = 3 := by omega
  rcases this with rfl | rfl | rfl | rfl <;> rfl
theorem ivK_len (on : Bool) (h : Nat → Bool) (t : Nat → ByteArray) (k : Nat) : (ivK on h t k).length = 9 := rfl

theorem row_ex {w : World} {g : Nat} {xs : List Value} (h : Row w g xs) (i : Nat) (hi : i < xs.length) : ∃ v, w.cell? ⟨g, i, none⟩ = some v := ⟨xs[i], h.c i (List.getElem?_eq_getElem hi)⟩

def Pv.h (x : Pv) (i : Nat) : Bool := x.hs.getD i false
def Pv.t (x : Pv) (i : Nat) : ByteArray := x.ts.getD i ByteArray.empty

set_option maxRecDepth 100000 in
set_option maxHeartbeats 4000000 in
theorem volumeOf (w : World) (x : Pv) (S : Bls w x.ha x.hs ∧ Strs w x.ta x.ts) (h1 : x.hs.length = 4) (h2 : x.ts.length = 4) :
    Calls Try.prog 31 #[x.val] w fun r w' => ∃ g, r = .returned (.pointer (some ⟨g, 0, none⟩)) ∧ w.heap.size ≤ g ∧ g < w'.heap.size ∧ Row w' g (ivR x.on x.h x.t) ∧ Below w.heap.size w w' := by
  have HH : Hid (∀ k, x.h k = x.hs.getD k false) := fun _ => rfl
  have HT : Hid (∀ k, x.t k = x.ts.getD k ByteArray.empty) := fun _ => rfl
  generalize x.h = hf at *
  generalize x.t = tf at *
  obtain ⟨on, ha, hc, hs, ta, tc, ts⟩ := x
  unfold Pv.val
  simp only [] at S h1 h2 HH HT ⊢
  have HS := hid S
  have H1 := hid h1
  have H2 := hid h2
  clear S h1 h2
  obtain ⟨wa, hwa, ez, A0, C0, B0⟩ := two_new w [.bool on, .slice ha hs.length hc, .slice ta ts.length tc] [.bool on, .bool false, .string ⟨#[]⟩, .bool false, .string ⟨#[]⟩, .bool false, .string ⟨#[]⟩, .bool false, .string ⟨#[]⟩] 49 57
  have HA := hid A0
  have HC : Hid (Row wa (w.heap.size + 1) (ivK on hf tf 0)) := C0
  have HB := hid B0
  have HZ := hid ez
  clear A0 B0 C0 ez
  go_enter Try.func31, Try.ntmps31
  go_wp2
  try simp only [hwa]
  clear hwa
  go_loopw [9] (fun i wr => ∃ k : Nat, k ≤ 4 ∧ i = .int .i64 (k : Int) ∧ Hid (Row wr (w.heap.size + 1) (ivK on hf tf k)) ∧ Hid (Row wr w.heap.size [.bool on, .slice ha hs.length hc, .slice ta ts.length tc]) ∧ Hid (Below w.heap.size w wr)) (fun i _ => 4 - (intOf i).toNat)
  case atStart => exact ⟨0, Nat.zero_le _, rfl, HC, HA, HB⟩
  case round =>
    obtain ⟨k, hk, rfl, HR, HP, HW⟩ := hrel
    clear HC HA HB
    by_cases hlt : k < 4
    · have h1' : k < hs.length := by have := H1.out; omega
      have h2' : k < ts.length := by have := H2.out; omega
      obtain ⟨g1, o1, rfl, f1⟩ := (HS.out.1.below HW.out) k h1'
      obtain ⟨g2, o2, rfl, f2⟩ := (HS.out.2.below HW.out) k h2'
      simp only [← HH.out, ← HT.out] at f1 f2
      have p1 := HP.out.c 1 rfl
      have p2 := HP.out.c 2 rfl
      obtain ⟨v0, q0⟩ := row_ex HR.out (1 + k * 2) (by rw [ivK_len]; omega)
      obtain ⟨v1, q1⟩ := row_ex HR.out (1 + k * 2 + 1) (by rw [ivK_len]; omega)
      have z0 := HR.out.f (1 + k * 2)
      have z1 := HR.out.f (1 + k * 2 + 1)
      have HN : Hid (∀ w9 : World, w9.heap = wr.heap → Row ((w9.setCell ⟨w.heap.size + 1, 1 + k * 2, none⟩ (.bool (hf k))).setCell ⟨w.heap.size + 1, 1 + k * 2 + 1, none⟩ (.string (tf k))) (w.heap.size + 1) (ivK on hf tf (k + 1))) := fun w9 e => by
        have h9 : Row w9 (w.heap.size + 1) (ivK on hf tf k) := by
          obtain ⟨ty, hy⟩ := HR.out
          exact ⟨ty, by rw [e]; exact hy⟩
        rw [← ivK_succ on hf tf k hlt]
        exact (h9.set _ _).set _ _
      have HM : Hid (∀ w9 : World, w9.heap = wr.heap → Row ((w9.setCell ⟨w.heap.size + 1, 1 + k * 2, none⟩ (.bool (hf k))).setCell ⟨w.heap.size + 1, 1 + k * 2 + 1, none⟩ (.string (tf k))) w.heap.size [.bool on, .slice (some ⟨g1, o1, none⟩) hs.length hc, .slice (some ⟨g2, o2, none⟩) ts.length tc]) := fun w9 e => by
        have h9 : Row w9 w.heap.size [.bool on, .slice (some ⟨g1, o1, none⟩) hs.length hc, .slice (some ⟨g2, o2, none⟩) ts.length tc] := by
          obtain ⟨ty, hy⟩ := HP.out
          exact ⟨ty, by rw [e]; exact hy⟩
        exact (h9.other (p := ⟨w.heap.size + 1, 1 + k * 2, none⟩) (by show w.heap.size ≠ w.heap.size + 1; omega) _).other (p := ⟨w.heap.size + 1, 1 + k * 2 + 1, none⟩) (by show w.heap.size ≠ w.heap.size + 1; omega) _
      generalize hf k = hx at f1 HN HM
      generalize tf k = tx at f2 HN HM
      go_wp2
      go_region
      all_goals (go_wp2; exact ⟨⟨k + 1, by omega, by go_num, HN.out wr rfl, HM.out wr rfl, Below.drew (below_set (below_set HW.out (w.heap.size + 1) _ _ (by omega)) (w.heap.size + 1) _ _ (by omega))⟩, by simp [intOf]; omega⟩)
    · obtain rfl : k = 4 := by omega
      go_wp2
      go_ret
      exact ⟨_, rfl, by omega, by have := HR.out.lt; omega, HR.out, HW.out⟩

set_option maxRecDepth 100000 in
set_option maxHeartbeats 1000000 in
theorem hasEachPlace (w : World) (x : Pv) :
    Calls Try.prog 29 #[x.val] w fun r w' => r = .returned (.bool (decide (x.hs.length = 4) && decide (x.ts.length = 4))) ∧ Below w.heap.size w w' := by
  obtain ⟨on, ha, hc, hs, ta, tc, ts⟩ := x
  unfold Pv.val
  simp only []
  by_cases h1 : hs.length = 4
  · have b1 : ((hs.length : Int) == 4) = true := by simp; omega
    by_cases h2 : ts.length = 4
    · have b2 : ((ts.length : Int) == 4) = true := by simp; omega
      have HQ : Hid ((decide (hs.length = 4) && decide (ts.length = 4)) = true) := by rw [Hid, decide_eq_true h1, decide_eq_true h2]; rfl
      rw [HQ.out]
      clear h1 h2
      go_enter Try.func29, Try.ntmps29
      go_wp2
      go_ret
      exact ⟨rfl, by go_grown⟩
    · have b2 : ((ts.length : Int) == 4) = false := by simp; omega
      have HQ : Hid ((decide (hs.length = 4) && decide (ts.length = 4)) = false) := by rw [Hid, decide_eq_true h1, decide_eq_false h2]; rfl
      rw [HQ.out]
      clear h1 h2
      go_enter Try.func29, Try.ntmps29
      go_wp2
      go_ret
      exact ⟨rfl, by go_grown⟩
  · have b1 : ((hs.length : Int) == 4) = false := by simp; omega
    have HQ : Hid ((decide (hs.length = 4) && decide (ts.length = 4)) = false) := by rw [Hid, decide_eq_false h1]; rfl
    rw [HQ.out]
    clear h1
    go_enter Try.func29, Try.ntmps29
    go_wp2
    go_ret
    exact ⟨rfl, by go_grown⟩

theorem index_pl0 (b0 b1 b2 b3 : Bool) (s0 s1 s2 s3 : ByteArray) (w : World) : (Instr.index 55 (.agg #[.bool b0, .string s0, .bool b1, .string s1, .bool b2, .string s2, .bool b3, .string s3]) (.int .i64 0)).run Try.prog w = .ok (.agg #[.bool b0, .string s0]) w := by kernel_rfl
theorem index_pl1 (b0 b1 b2 b3 : Bool) (s0 s1 s2 s3 : ByteArray) (w : World) : (Instr.index 55 (.agg #[.bool b0, .string s0, .bool b1, .string s1, .bool b2, .string s2, .bool b3, .string s3]) (.int .i64 1)).run Try.prog w = .ok (.agg #[.bool b1, .string s1]) w := by kernel_rfl
theorem index_pl2 (b0 b1 b2 b3 : Bool) (s0 s1 s2 s3 : ByteArray) (w : World) : (Instr.index 55 (.agg #[.bool b0, .string s0, .bool b1, .string s1, .bool b2, .string s2, .bool b3, .string s3]) (.int .i64 2)).run Try.prog w = .ok (.agg #[.bool b2, .string s2]) w := by kernel_rfl
theorem index_pl3 (b0 b1 b2 b3 : Bool) (s0 s1 s2 s3 : ByteArray) (w : World) : (Instr.index 55 (.agg #[.bool b0, .string s0, .bool b1, .string s1, .bool b2, .string s2, .bool b3, .string s3]) (.int .i64 3)).run Try.prog w = .ok (.agg #[.bool b3, .string s3]) w := by kernel_rfl
theorem index_pl (h : Nat → Bool) (t : Nat → ByteArray) (k : Nat) (hk : k < 4) (w : World) : (Instr.index 55 (.agg #[.bool (h 0), .string (t 0), .bool (h 1), .string (t 1), .bool (h 2), .string (t 2), .bool (h 3), .string (t 3)]) (.int .i64 (k : Int))).run Try.prog w = .ok (.agg #[.bool (h k), .string (t k)]) w := by
  have : k = 0 ∨ k = 1 ∨ k = 2 ∨ k = 3 := by omega
  rcases this with rfl | rfl | rfl | rfl
  · exact index_pl0 _ _ _ _ _ _ _ _ w
  · exact index_pl1 _ _ _ _ _ _ _ _ w
  · exact index_pl2 _ _ _ _ _ _ _ _ w
  · exact index_pl3 _ _ _ _ _ _ _ _ w

/-- Is what stands at one number of the program's volume right, whatever the volume. -/
def ivPl (h : Bool) (t : ByteArray) : Bool := !(decide (16 < t.size) || (!h && !decide (t = ⟨#[]⟩)))
def ivZ (h : Nat → Bool) (t : Nat → ByteArray) : Bool := decide (false = h 0 ∧ ⟨#[]⟩ = t 0) && (decide (false = h 1 ∧ ⟨#[]⟩ = t 1) && (decide (false = h 2 ∧ ⟨#[]⟩ = t 2) && decide (false = h 3 ∧ ⟨#[]⟩ = t 3)))
def ivOk (on : Bool) (h : Nat → Bool) (t : Nat → ByteArray) : Bool := (List.range 4).all (fun k => ivPl (h k) (t k)) && (on || ivZ h t)

set_option maxRecDepth 100000 in
set_option maxHeartbeats 4000000 in
theorem isVolume (w : World) (g : Nat) (on : Bool) (h : Nat → Bool) (t : Nat → ByteArray) (R : Row w g (ivR on h t)) :
    Calls Try.prog 30 #[.pointer (some ⟨g, 0, none⟩)] w fun r w' => r = .returned (.bool (ivOk on h t)) ∧ Below w.heap.size w w' := by
  generalize hq : ivOk on h t = q
  have HQ := hid hq
  clear hq
  have HR := hid R
  have c0 := R.c 0 rfl
  have c1 := R.c 1 rfl
  have c2 := R.c 2 rfl
  have c3 := R.c 3 rfl
  have c4 := R.c 4 rfl
  have c5 := R.c 5 rfl
  have c6 := R.c 6 rfl
  have c7 := R.c 7 rfl
  have c8 := R.c 8 rfl
  clear R
  go_enter Try.func30, Try.ntmps30
  go_wp2
  clear c0 c1 c2 c3 c4 c5 c6 c7 c8
  go_loopw [9] (fun i wr => ∃ k : Nat, k ≤ 4 ∧ i = .int .i64 (k : Int) ∧ Hid (∀ j, j < k → ivPl (h j) (t j) = true) ∧ Hid (Below w.heap.size w wr)) (fun i _ => 4 - (intOf i).toNat)
  case atStart => exact ⟨0, Nat.zero_le _, rfl, fun j hj => by omega, Below.refl _ _⟩
  case round =>
    obtain ⟨k, hk, rfl, HJ, HW⟩ := hrel
    by_cases hlt : k < 4
    · have hyes : Hid (ivPl (h k) (t k) = true → ∀ j, j < k + 1 → ivPl (h j) (t j) = true) := fun hp j hj => by
        by_cases e : j = k
        · subst e; exact hp
        · exact HJ.out j (by omega)
      have hno : Hid (ivPl (h k) (t k) = false → q = false) := fun hp => by
        rw [← HQ.out]
        unfold ivOk
        have : (List.range 4).all (fun k => ivPl (h k) (t k)) = false := by rw [List.all_eq_false]; exact ⟨k, List.mem_range.2 hlt, by simpa using hp⟩
        rw [this]; rfl
      obtain ⟨hk', ehk⟩ : ∃ b, h k = b := ⟨_, rfl⟩
      obtain ⟨tk, etk⟩ : ∃ b, t k = b := ⟨_, rfl⟩
      rw [ehk, etk] at hyes hno
      have hix := index_pl h t k hlt
      rw [ehk, etk] at hix
      clear HJ HQ HR ehk etk
      by_cases hs : 16 < tk.size
      · have HZ := hid (hno.out (by unfold ivPl; rw [decide_eq_true hs]; rfl))
        have hs' : (16 : Int) < (tk.size : Int) := by omega
        clear hyes hno
        go_wp2
        go_ret
        exact ⟨by rw [HZ.out]; rfl, HW.out.alloc HW.out.size _⟩
      · have hs' : ¬ (16 : Int) < (tk.size : Int) := by omega
        cases hk' with
        | true =>
          have HZ := hid (hyes.out (by unfold ivPl; rw [decide_eq_false hs]; rfl))
          clear hyes hno
          go_wp2
          exact ⟨⟨k + 1, by omega, by go_num, HZ, HW.out.alloc HW.out.size _⟩, by simp [intOf]; omega⟩
        | false =>
          by_cases ht : tk = ⟨#[]⟩
          · have HZ := hid (hyes.out (by unfold ivPl; rw [decide_eq_false hs, decide_eq_true ht]; rfl))
            have hn := neq_pl (h := false) (h' := false) (t := tk) (t' := ⟨#[]⟩) (q := true) (decide_eq_true ⟨rfl, ht⟩)
            clear hyes hno ht
            go_wp2
            exact ⟨⟨k + 1, by omega, by go_num, HZ, HW.out.alloc HW.out.size _⟩, by simp [intOf]; omega⟩
          · have HZ := hid (hno.out (by unfold ivPl; rw [decide_eq_false hs, decide_eq_false ht]; rfl))
            have hn := neq_pl (h := false) (h' := false) (t := tk) (t' := ⟨#[]⟩) (q := false) (decide_eq_false (fun e => ht e.2))
            clear hyes hno ht
            go_wp2
            go_ret
            exact ⟨by rw [HZ.out]; rfl, HW.out.alloc HW.out.size _⟩
    · obtain rfl : k = 4 := by omega
      have HA : Hid ((List.range 4).all (fun k => ivPl (h k) (t k)) = true) := by rw [Hid, List.all_eq_true]; exact fun j hj => HJ.out j (List.mem_range.1 hj)
      have R := HR.out.below HW.out HR.out.lt
      have c0 := R.c 0 rfl
      have c1 := R.c 1 rfl
      have c2 := R.c 2 rfl
      have c3 := R.c 3 rfl
      have c4 := R.c 4 rfl
      have c5 := R.c 5 rfl
      have c6 := R.c 6 rfl
      have c7 := R.c 7 rfl
      have c8 := R.c 8 rfl
      clear R hk hlt HJ
      cases on with
      | true =>
        have HZ : Hid (q = true) := by rw [Hid, ← HQ.out]; unfold ivOk; rw [HA.out]; rfl
        go_wp2
        go_ret
        exact ⟨by rw [HZ.out]; rfl, HW.out⟩
      | false =>
        have HZ : Hid (q = ivZ h t) := by rw [Hid, ← HQ.out]; unfold ivOk; rw [HA.out]; rfl
        have HY : Hid (∀ p q : ByteArray, ∀ a b : Bool, decide (a = b ∧ p = q) = decide (b = a ∧ q = p)) := fun p q a b => by simp [eq_comm]
        have he := eql_vo (on := false) (on' := false) (h0 := h 0) (h1 := h 1) (h2 := h 2) (h3 := h 3) (h0' := false) (h1' := false) (h2' := false) (h3' := false) (t0 := t 0) (t1 := t 1) (t2 := t 2) (t3 := t 3) (t0' := ⟨#[]⟩) (t1' := ⟨#[]⟩) (t2' := ⟨#[]⟩) (t3' := ⟨#[]⟩) (q := ivZ h t) (by
          unfold ivZ
          rw [HY.out ⟨#[]⟩ (t 0) false (h 0), HY.out ⟨#[]⟩ (t 1) false (h 1), HY.out ⟨#[]⟩ (t 2) false (h 2), HY.out ⟨#[]⟩ (t 3) false (h 3)]
          rfl)
        generalize ivZ h t = z at he HZ
        go_wp2
        go_ret
        exact ⟨by rw [HZ.out]; rfl, HW.out⟩

end Go.Proofs.Ytieohdfhbfeoaaa.Pl
