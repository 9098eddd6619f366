/-
  The walks of laws.markOutS, laws.heldOutS, laws.markJournal and laws.heldJournal: marks are laid into a list of outs and found there again. No condition but lists that may be written.
-/
import Derived.Test.YtaopkchkhdbfnaaGreatDoorSecJnEq
import Derived.Test.YtaopkchkhdbfnaaGreatDoorMarkRows
import Derived.Test.YtaopkchkhdbfnaaGreatDoorQuietB
namespace Go.Proofs.YtaopkchkhdbfnaaGreatDoor.Rd
open Go.RowKit Go.Proofs.YtaopkchkhdbfnaaGreatDoor.Mem Go.Proofs.YtaopkchkhdbfnaaGreatDoor.Sec
set_option linter.unusedVariables false

/-- The marks in a list of outs. -/
def mkO (k i : Nat) : Value := if i % 2 = 0 then .int .i64 ((k + i : Nat) : Int) else .string (markS (k + i))
def msO (f : Nat → Value) (k j i : Nat) : Value := if i < j * 2 then mkO k i else f i

theorem msO_succ (f : Nat → Value) (k j : Nat) (i : Nat) : (if i = j * 2 + 1 then Value.string (markS (k + (j * 2 + 1))) else if i = j * 2 then .int .i64 ((k + j * 2 : Nat) : Int) else msO f k j i) = msO f k (j + 1) i := by
  unfold msO
  by_cases h : i = j * 2 + 1
  · subst h
    rw [if_pos rfl, if_pos (by omega)]
    unfold mkO
    rw [if_neg (by omega)]
  · by_cases h1 : i = j * 2
    · subst h1
      rw [if_neg h, if_pos rfl, if_pos (by omega)]
      unfold mkO
      rw [if_pos (by omega)]
    · by_cases h2 : i < j * 2
      · rw [if_neg h, if_neg h1, if_pos h2, if_pos (by omega)]
      · rw [if_neg h, if_neg h1, if_neg h2, if_neg (by omega)]

set_option maxRecDepth 100000 in
set_option maxHeartbeats 1000000 in
theorem markOutS (w : World) (B : Nat) (a : Option Addr) (n cap k : Nat) (f : Nat → Value) (S : Wr w B a (n * 2) f) (hk : 0 < k) (hb : k + n * 2 ≤ 1048576) :
    Calls Tryz.prog 123 #[.slice a n cap, .int .i64 (k : Int)] w fun e w' => e = .returned (.int .i64 ((k + n * 2 : Nat) : Int)) ∧ Wr w' B a (n * 2) (mkO k) ∧ Kept (foot a (n * 2)) w w' := by
  have HS := hid S
  clear S
  go_enter Tryz.func123, Tryz.ntmps123
  go_wp2
  go_loopw [1, 5] (fun x i wr => ∃ (j m : Nat), j ≤ n ∧ i = .int .i64 (j : Int) ∧ x = .int .i64 (m : Int) ∧ m ≤ 1048576 ∧ Hid (m = k + j * 2) ∧ Hid (Wr wr B a (n * 2) (msO f k j)) ∧ Hid (Kept (foot a (n * 2)) w wr)) (fun _ i _ => n - (intOf i).toNat)
  case atStart => exact ⟨0, k, Nat.zero_le _, rfl, rfl, by omega, by rw [Hid]; omega, HS.out.congr (fun i _ => by simp [msO]), Kept.refl _ _⟩
  case round =>
    obtain ⟨j, m, hj, rfl, rfl, hm, Hm, HW, HK⟩ := hrel
    by_cases hlt : j < n
    · obtain ⟨b, off, rfl, hB, hc, hz⟩ := HW.out (j * 2) (by omega)
      obtain ⟨b1, off1, e1, _, hc1, hz1⟩ := HW.out (j * 2 + 1) (by omega)
      cases e1
      have hm2 : m + 2 ≤ 1048576 := by have := Hm.out; omega
      have HW0 := hid (HW.out.set (j * 2) (by omega) (.int .i64 (m : Int)))
      have HK0 := hid (HK.out.trans (kept_set wr b (off + j * 2) (.int .i64 (m : Int))))
      obtain ⟨w0, hw0⟩ : ∃ w0, wr.setCell ⟨b, off + j * 2, none⟩ (.int .i64 (m : Int)) = w0 := ⟨_, rfl⟩
      rw [hw0] at HW0 HK0
      go_wp2_with fail
      clear hw0
      refine (markText (m + 1) _ (by omega) (by omega)).mono ?_
      rintro e w1 ⟨rfl, b1⟩
      have HW1 := hid (HW0.out.below b1)
      have HK1 := hid (HK0.out.trans (Kept.of_below (S := fun _ => False) b1))
      clear b1 hc hz hc1 hz1
      obtain ⟨b', off', e', _, hc', hz'⟩ := HW1.out (j * 2 + 1) (by omega)
      cases e'
      rw [← Nat.add_assoc] at hc' hz'
      go_wp2
      refine ⟨⟨j + 1, m + 2, by omega, by go_num, by go_num, hm2, by have := Hm.out; rw [Hid]; omega, ?_, ?_⟩, by simp [intOf]; omega⟩
      · have := HW1.out.set (j * 2 + 1) (by omega) (.string (markS (m + 1)))
        rw [← Nat.add_assoc] at this
        exact this.congr (fun i _ => by rw [← msO_succ, Hm.out, Nat.add_assoc])
      · exact (HK1.out.trans (kept_set w1 b (off + j * 2 + 1) _)).mono (fun b2 _ h => by
          rcases h with ((h | h) | h) | h
          · exact h
          · subst h; exact ⟨by omega, off, rfl⟩
          · exact h.elim
          · subst h; exact ⟨by omega, off, rfl⟩)
    · obtain rfl : j = n := by omega
      go_wp2
      go_ret
      exact ⟨by rw [Hm.out]; rfl, HW.out.congr (fun i hi => by unfold msO; rw [if_pos hi]), HK.out⟩

set_option maxRecDepth 100000 in
set_option maxHeartbeats 1000000 in
theorem heldOutS (w : World) (a : Option Addr) (n cap k : Nat) (S : Sl w a (n * 2) (mkO k)) (hk : 0 < k) (hb : k + n * 2 ≤ 1048576) :
    Calls Tryz.prog 126 #[.slice a n cap, .int .i64 (k : Int)] w fun e w' => e = .returned (.int .i64 ((k + n * 2 : Nat) : Int)) ∧ Below w.heap.size w w' := by
  have HS := hid S
  clear S
  go_enter Tryz.func126, Tryz.ntmps126
  go_wp2
  go_loopw [1, 5] (fun x i wr => ∃ (j m : Nat), j ≤ n ∧ i = .int .i64 (j : Int) ∧ x = .int .i64 (m : Int) ∧ m ≤ 1048576 ∧ Hid (m = k + j * 2) ∧ Hid (Below w.heap.size w wr)) (fun _ i _ => n - (intOf i).toNat)
  case atStart => exact ⟨0, k, Nat.zero_le _, rfl, rfl, by omega, by rw [Hid]; omega, Below.refl _ _⟩
  case round =>
    obtain ⟨j, m, hj, rfl, rfl, hm, Hm, HB⟩ := hrel
    by_cases hlt : j < n
    · have HSr := hid (HS.out.below HB.out)
      obtain ⟨b, off, rfl, hc⟩ := HSr.out (j * 2) (by omega)
      obtain ⟨b1, off1, e1, hc1⟩ := HSr.out (j * 2 + 1) (by omega)
      cases e1
      have hm2 : m + 2 ≤ 1048576 := by have := Hm.out; omega
      have v0 : mkO k (j * 2) = .int .i64 (m : Int) := by unfold mkO; rw [if_pos (by omega), Hm.out]
      have v1 : mkO k (j * 2 + 1) = .string (markS (m + 1)) := by unfold mkO; rw [if_neg (by omega), Hm.out, Nat.add_assoc]
      rw [v0] at hc
      rw [v1, ← Nat.add_assoc] at hc1
      have HMT := hid (fun (u : BW wr) => markText (m + 1) u.val (by omega) (by omega))
      have hne : Nonempty (BW wr) := ⟨⟨wr, Below.refl _ _⟩⟩
      have hcu := BW.cell hc1
      clear v0 v1 hc1
      generalize markS (m + 1) = mt at *
      go_wp2
      refine wp_region_bw (by kernel_rfl) (by kernel_rfl) ?_
      repeat (go_big_quiet_step (first
        | (go_at_call 122; refine bw_below (HMT.out _))))
      refine wpQuiet_nil ?_
      intro _ hw'
      obtain ⟨u, rfl⟩ := hw'
      have HU := hid (HB.out.trans (u.bel.mono HB.out.size))
      clear hc hcu HMT
      go_wp2
      exact ⟨⟨j + 1, m + 2, by omega, by go_num, by go_num, hm2, by have := Hm.out; rw [Hid]; omega, HU⟩, by simp [intOf]; omega⟩
    · obtain rfl : j = n := by omega
      go_wp2
      go_ret
      exact ⟨by rw [Hm.out]; rfl, HB.out⟩

end Go.Proofs.YtaopkchkhdbfnaaGreatDoor.Rd
