/-
  The program's own volumes: each in a block of its own. The walks of impl.volumeOf, impl.hasEachPlace, impl.isVolume. No condition.
-/
import Derived.Test.YtbnpnhcegoanmaaPpEq
namespace Go.Proofs.Ytbnpnhcegoanmaa.Pl
open Go.RowKit Go.Proofs.Ytbnpnhcegoanmaa.Mem
set_option linter.unusedVariables false

/-- A volume's cells behind k places. -/
def ivK (on : Bool) (h : Nat → Bool) (t : Nat → ByteArray) (k : Nat) : List Value :=
  .bool on :: (List.range 4).flatMap fun i => [.bool (if i < k then h i else false), .string (if i < k then t i else ⟨#[]⟩)]
/-- A volume's cells. -/
def ivR (on : Bool) (h : Nat → Bool) (t : Nat → ByteArray) : List Value := [.bool on, .bool (h 0), .string (t 0), .bool (h 1), .string (t 1), .bool (h 2), .string (t 2), .bool (h 3), .string (t 3)]
theorem ivK_4 (on : Bool) (h : Nat → Bool) (t : Nat → ByteArray) : ivK on h t 4 = ivR on h t := rfl
theorem ivK_0 (on : Bool) (h : Nat → Bool) (t : Nat → ByteArray) : ivK on h t 0 = [.bool on, .bool false, .string ⟨#[]⟩, .bool false, .string ⟨#[]⟩, .bool false, .string ⟨#[]⟩, .bool false, .string ⟨#[]⟩] := rfl
theorem ivK_succ (on : Bool) (h : Nat → Bool) (t : Nat → ByteArray) (k : Nat) (hk : k < 4) : ((ivK on h t k).set (1 + k * 2) (.bool (h k))).set (1 + k * 2 + 1) (.string (t k)) = ivK on h t (k + 1) := by
  have : k = 0 ∨ k = 1 ∨ k = 2 ∨ k = 3 := by omega
  rcases this with rfl | rfl | rfl | rfl <;> rfl
theorem ivK_len (on : Bool) (h : Nat → Bool) (t : Nat → ByteArray) (k : Nat) : (ivK on h t k).length = 9 := rfl

theorem row_ex {w : World} {g : Nat} {xs : List Value} (h : Row w g xs) (i : Nat) (hi : i < xs.length) : ∃ v, w.cell? ⟨g, i, none⟩ = some v := ⟨xs[i], h.c i (List.getElem?_eq_getElem hi)⟩

def Pv.h (x : Pv) (i : Nat) : Bool := x.hs.getD i false
def Pv.t (x : Pv) (i : Nat) : ByteArray := x.ts.getD i ByteArray.empty

set_option maxRecDepth 100000 in
set_option maxHeartbeats 4000000 in
theorem volumeOf (w : World) (x : Pv) (S : Bls w x.ha x.hs ∧ Strs w x.ta x.ts) (h1 : x.hs.length = 4) (h2 : x.ts.length = 4) :
    Calls Try.prog 37 #[x.val] w fun r w' => ∃ g, r = .returned (.pointer (some ⟨g, 0, none⟩)) ∧ w.heap.size ≤ g ∧ g < w'.heap.size ∧ Row w' g (ivR x.on x.h x.t) ∧ Below w.heap.size w w' := by
  have HH : Hid (∀ k, x.h k = x.hs.getD k false) := fun _ => rfl
  have HT : Hid (∀ k, x.t k = x.ts.getD k ByteArray.empty) := fun _ => rfl
  generalize x.h = hf at *
  generalize x.t = tf at *
  obtain ⟨on, ha, hc, hs, ta, tc, ts⟩ := x
  unfold Pv.val
  simp only [] at S h1 h2 HH HT ⊢
  have HS := hid S
  have H1 := hid h1
  have H2 := hid h2
  clear S h1 h2
  obtain ⟨wa, hwa, ez, A0, C0, B0⟩ := two_new w [.bool on, .slice ha hs.length hc, .slice ta ts.length tc] [.bool on, .bool false, .string ⟨#[]⟩, .bool false, .string ⟨#[]⟩, .bool false, .string ⟨#[]⟩, .bool false, .string ⟨#[]⟩] 67 74
  have HA := hid A0
  have HC : Hid (Row wa (w.heap.size + 1) (ivK on hf tf 0)) := C0
  have HB := hid B0
  have HZ := hid ez
  clear A0 B0 C0 ez
  go_enter Try.func37, Try.ntmps37
  go_wp2
  try simp only [hwa]
  clear hwa
  go_loopw [9] (fun i wr => ∃ k : Nat, k ≤ 4 ∧ i = .int .i64 (k : Int) ∧ Hid (Row wr (w.heap.size + 1) (ivK on hf tf k)) ∧ Hid (Row wr w.heap.size [.bool on, .slice ha hs.length hc, .slice ta ts.length tc]) ∧ Hid (Below w.heap.size w wr)) (fun i _ => 4 - (intOf i).toNat)
  case atStart => exact ⟨0, Nat.zero_le _, rfl, HC, HA, HB⟩
  case round =>
    obtain ⟨k, hk, rfl, HR, HP, HW⟩ := hrel
    clear HC HA HB
    by_cases hlt : k < 4
    · have h1' : k < hs.length := by have := H1.out; omega
      have h2' : k < ts.length := by have := H2.out; omega
      obtain ⟨g1, o1, rfl, f1⟩ := (HS.out.1.below HW.out) k h1'
      obtain ⟨g2, o2, rfl, f2⟩ := (HS.out.2.below HW.out) k h2'
      simp only [← HH.out, ← HT.out] at f1 f2
      have p1 := HP.out.c 1 rfl
      have p2 := HP.out.c 2 rfl
      obtain ⟨v0, q0⟩ := row_ex HR.out (1 + k * 2) (by rw [ivK_len]; omega)
      obtain ⟨v1, q1⟩ := row_ex HR.out (1 + k * 2 + 1) (by rw [ivK_len]; omega)
      have z0 := HR.out.f (1 + k * 2)
      have z1 := HR.out.f (1 + k * 2 + 1)
      have HN : Hid (∀ w9 : World, w9.heap = wr.heap → Row ((w9.setCell ⟨w.heap.size + 1, 1 + k * 2, none⟩ (.bool (hf k))).setCell ⟨w.heap.size + 1, 1 + k * 2 + 1, none⟩ (.string (tf k))) (w.heap.size + 1) (ivK on hf tf (k + 1))) := fun w9 e => by
        have h9 : Row w9 (w.heap.size + 1) (ivK on hf tf k) := by
          obtain ⟨ty, hy⟩ := HR.out
          exact ⟨ty, by rw [e]; exact hy⟩
        rw [← ivK_succ on hf tf k hlt]
        exact (h9.set _ _).set _ _
      have HM : Hid (∀ w9 : World, w9.heap = wr.heap → Row ((w9.setCell ⟨w.heap.size + 1, 1 + k * 2, none⟩ (.bool (hf k))).setCell ⟨w.heap.size + 1, 1 + k * 2 + 1, none⟩ (.string (tf k))) w.heap.size [.bool on, .slice (some ⟨g1, o1, none⟩) hs.length hc, .slice (some ⟨g2, o2, none⟩) ts.length tc]) := fun w9 e => by
        have h9 : Row w9 w.heap.size [.bool on, .slice (some ⟨g1, o1, none⟩) hs.length hc, .slice (some ⟨g2, o2, none⟩) ts.length tc] := by
          obtain ⟨ty, hy⟩ := HP.out
          exact ⟨ty, by rw [e]; exact hy⟩
        exact (h9.other (p := ⟨w.heap.size + 1, 1 + k * 2, none⟩) (by show w.heap.size ≠ w.heap.size + 1; omega) _).other (p := ⟨w.heap.size + 1, 1 + k * 2 + 1, none⟩) (by show w.heap.size ≠ w.heap.size + 1; omega) _
      generalize hf k = hx at f1 HN HM
      generalize tf k = tx at f2 HN HM
      go_wp2
      go_region
      all_goals (go_wp2; exact ⟨⟨k + 1, by omega, by go_num, HN.out wr rfl, HM.out wr rfl, Below.drew (below_set (below_set HW.out (w.heap.size + 1) _ _ (by omega)) (w.heap.size + 1) _ _ (by omega))⟩, by simp [intOf]; omega⟩)
    · obtain rfl : k = 4 := by omega
      go_wp2
      go_ret
      exact ⟨_, rfl, by omega, by have := HR.out.lt; omega, HR.out, HW.out⟩

theorem index_pl0 (b0 b1 b2 b3 : Bool) (s0 s1 s2 s3 : ByteArray) (w : World) : (Instr.index 72 (.agg #[.bool b0, .string s0, .bool b1, .string s1, .bool b2, .string s2, .bool b3, .string s3]) (.int .i64 0)).run Try.prog w = .ok (.agg #[.bool b0, .string s0]) w := by kernel_rfl
theorem index_pl1 (b0 b1 b2 b3 : Bool) (s0 s1 s2 s3 : ByteArray) (w : World) : (Instr.index 72 (.agg #[.bool b0, .string s0, .bool b1, .string s1, .bool b2, .string s2, .bool b3, .string s3]) (.int .i64 1)).run Try.prog w = .ok (.agg #[.bool b1, .string s1]) w := by kernel_rfl
theorem index_pl2 (b0 b1 b2 b3 : Bool) (s0 s1 s2 s3 : ByteArray) (w : World) : (Instr.index 72 (.agg #[.bool b0, .string s0, .bool b1, .string s1, .bool b2, .string s2, .bool b3, .string s3]) (.int .i64 2)).run Try.prog w = .ok (.agg #[.bool b2, .string s2]) w := by kernel_rfl
theorem index_pl3 (b0 b1 b2 b3 : Bool) (s0 s1 s2 s3 : ByteArray) (w : World) : (Instr.index 72 (.agg #[.bool b0, .string s0, .bool b1, .string s1, .bool b2, .string s2, .bool b3, .string s3]) (.int .i64 3)).run Try.prog w = .ok (.agg #[.bool b3, .string s3]) w := by kernel_rfl
theorem index_pl (h : Nat → Bool) (t : Nat → ByteArray) (k : Nat) (hk : k < 4) (w : World) : (Instr.index 72 (.agg #[.bool (h 0), .string (t 0), .bool (h 1), .string (t 1), .bool (h 2), .string (t 2), .bool (h 3), .string (t 3)]) (.int .i64 (k : Int))).run Try.prog w = .ok (.agg #[.bool (h k), .string (t k)]) w := by
  have : k = 0 ∨ k = 1 ∨ k = 2 ∨ k = 3 := by omega
  rcases this with rfl | rfl | rfl | rfl
  · exact index_pl0 _ _ _ _ _ _ _ _ w
  · exact index_pl1 _ _ _ _ _ _ _ _ w
  · exact index_pl2 _ _ _ _ _ _ _ _ w
  · exact index_pl3 _ _ _ _ _ _ _ _ w

/-- Is what stands at one number of the program's volume right, whatever the volume. -/
def ivPl (h : Bool) (t : ByteArray) : Bool := !(decide (16 < t.size) || (!h && !decide (t = ⟨#[]⟩)))
def ivZ (h : Nat → Bool) (t : Nat → ByteArray) : Bool := decide (false = h 0 ∧ ⟨#[]⟩ = t 0) && (decide (false = h 1 ∧ ⟨#[]⟩ = t 1) && (decide (false = h 2 ∧ ⟨#[]⟩ = t 2) && decide (false = h 3 ∧ ⟨#[]⟩ = t 3)))
def ivOk (on : Bool) (h : Nat → Bool) (t : Nat → ByteArray) : Bool := (List.range 4).all (fun k => ivPl (h k) (t k)) && (on || ivZ h t)

end Go.Proofs.Ytbnpnhcegoanmaa.Pl
