/-
  The walks of laws.markHost and laws.heldHost at lists of at most 2^20. No condition but lists that may be written.
-/
import Derived.Test.YtllgjoflhjnnaaaHo2
namespace Go.Proofs.Ytllgjoflhjnnaaa.Pl
open Go.RowKit Go.Proofs.Ytllgjoflhjnnaaa.Mem Go.Proofs.Ytllgjoflhjnnaaa.Sec Go.Proofs.Ytllgjoflhjnnaaa.Rd
set_option linter.unusedVariables false

set_option maxRecDepth 100000 in
set_option maxHeartbeats 1000000 in
theorem markOutS2 (w : World) (B : Nat) (a : Option Addr) (n cap k : Nat) (f : Nat → Value) (S : Wr w B a (n * 2) f) (hk : 0 < k) (hb : k + n * 2 ≤ 4194304) :
    Calls Try.prog 44 #[.slice a n cap, .int .i64 (k : Int)] w fun e w' => e = .returned (.int .i64 ((k + n * 2 : Nat) : Int)) ∧ Wr w' B a (n * 2) (mkO k) ∧ Kept (foot a (n * 2)) w w' := by
  have HS := hid S
  clear S
  go_enter Try.func44, Try.ntmps44
  go_wp2
  go_loopw [1, 5] (fun x i wr => ∃ (j m : Nat), j ≤ n ∧ i = .int .i64 (j : Int) ∧ x = .int .i64 (m : Int) ∧ m ≤ 4194304 ∧ Hid (m = k + j * 2) ∧ Hid (Wr wr B a (n * 2) (msO f k j)) ∧ Hid (Kept (foot a (n * 2)) w wr)) (fun _ i _ => n - (intOf i).toNat)
  case atStart => exact ⟨0, k, Nat.zero_le _, rfl, rfl, by omega, by rw [Hid]; omega, HS.out.congr (fun i _ => by simp [msO]), Kept.refl _ _⟩
  case round =>
    obtain ⟨j, m, hj, rfl, rfl, hm, Hm, HW, HK⟩ := hrel
    by_cases hlt : j < n
    · obtain ⟨b, off, rfl, hB, hc, hz⟩ := HW.out (j * 2) (by omega)
      obtain ⟨b1, off1, e1, _, hc1, hz1⟩ := HW.out (j * 2 + 1) (by omega)
      cases e1
      have hm2 : m + 2 ≤ 4194304 := by have := Hm.out; omega
      have HW0 := hid (HW.out.set (j * 2) (by omega) (.int .i64 (m : Int)))
      have HK0 := hid (HK.out.trans (kept_set wr b (off + j * 2) (.int .i64 (m : Int))))
      obtain ⟨w0, hw0⟩ : ∃ w0, wr.setCell ⟨b, off + j * 2, none⟩ (.int .i64 (m : Int)) = w0 := ⟨_, rfl⟩
      rw [hw0] at HW0 HK0
      go_wp2_with fail
      clear hw0
      refine (markText (m + 1) _ (by omega) (by omega)).mono ?_
      rintro e w1 ⟨rfl, b1⟩
      have HW1 := hid (HW0.out.below b1)
      have HK1 := hid (HK0.out.trans (Kept.of_below (S := fun _ => False) b1))
      clear b1 hc hz hc1 hz1
      obtain ⟨b', off', e', _, hc', hz'⟩ := HW1.out (j * 2 + 1) (by omega)
      cases e'
      rw [← Nat.add_assoc] at hc' hz'
      go_wp2
      refine ⟨⟨j + 1, m + 2, by omega, by go_num, by go_num, hm2, by have := Hm.out; rw [Hid]; omega, ?_, ?_⟩, by simp [intOf]; omega⟩
      · have := HW1.out.set (j * 2 + 1) (by omega) (.string (markS (m + 1)))
        rw [← Nat.add_assoc] at this
        exact this.congr (fun i _ => by rw [← msO_succ, Hm.out, Nat.add_assoc])
      · exact (HK1.out.trans (kept_set w1 b (off + j * 2 + 1) _)).mono (fun b2 _ h => by
          rcases h with ((h | h) | h) | h
          · exact h
          · subst h; exact ⟨by omega, off, rfl⟩
          · exact h.elim
          · subst h; exact ⟨by omega, off, rfl⟩)
    · obtain rfl : j = n := by omega
      go_wp2
      go_ret
      exact ⟨by rw [Hm.out]; rfl, HW.out.congr (fun i hi => by unfold msO; rw [if_pos hi]), HK.out⟩

set_option maxRecDepth 100000 in
set_option maxHeartbeats 1000000 in
theorem heldOutS2 (w : World) (a : Option Addr) (n cap k : Nat) (S : Sl w a (n * 2) (mkO k)) (hk : 0 < k) (hb : k + n * 2 ≤ 4194304) :
    Calls Try.prog 45 #[.slice a n cap, .int .i64 (k : Int)] w fun e w' => e = .returned (.int .i64 ((k + n * 2 : Nat) : Int)) ∧ Below w.heap.size w w' := by
  have HS := hid S
  clear S
  go_enter Try.func45, Try.ntmps45
  go_wp2
  go_loopw [1, 5] (fun x i wr => ∃ (j m : Nat), j ≤ n ∧ i = .int .i64 (j : Int) ∧ x = .int .i64 (m : Int) ∧ m ≤ 4194304 ∧ Hid (m = k + j * 2) ∧ Hid (Below w.heap.size w wr)) (fun _ i _ => n - (intOf i).toNat)
  case atStart => exact ⟨0, k, Nat.zero_le _, rfl, rfl, by omega, by rw [Hid]; omega, Below.refl _ _⟩
  case round =>
    obtain ⟨j, m, hj, rfl, rfl, hm, Hm, HB⟩ := hrel
    by_cases hlt : j < n
    · have HSr := hid (HS.out.below HB.out)
      obtain ⟨b, off, rfl, hc⟩ := HSr.out (j * 2) (by omega)
      obtain ⟨b1, off1, e1, hc1⟩ := HSr.out (j * 2 + 1) (by omega)
      cases e1
      have hm2 : m + 2 ≤ 4194304 := by have := Hm.out; omega
      have v0 : mkO k (j * 2) = .int .i64 (m : Int) := by unfold mkO; rw [if_pos (by omega), Hm.out]
      have v1 : mkO k (j * 2 + 1) = .string (markS (m + 1)) := by unfold mkO; rw [if_neg (by omega), Hm.out, Nat.add_assoc]
      rw [v0] at hc
      rw [v1, ← Nat.add_assoc] at hc1
      have HMT := hid (fun (u : BW wr) => markText (m + 1) u.val (by omega) (by omega))
      have hne : Nonempty (BW wr) := ⟨⟨wr, Below.refl _ _⟩⟩
      have hcu := BW.cell hc1
      clear v0 v1 hc1
      generalize markS (m + 1) = mt at *
      go_wp2
      refine wp_region_bw (by kernel_rfl) (by kernel_rfl) ?_
      repeat (go_big_quiet_step (first
        | (go_at_call 50; refine bw_below (HMT.out _))))
      refine wpQuiet_nil ?_
      intro _ hw'
      obtain ⟨u, rfl⟩ := hw'
      have HU := hid (HB.out.trans (u.bel.mono HB.out.size))
      clear hc hcu HMT
      go_wp2
      exact ⟨⟨j + 1, m + 2, by omega, by go_num, by go_num, hm2, by have := Hm.out; rw [Hid]; omega, HU⟩, by simp [intOf]; omega⟩
    · obtain rfl : j = n := by omega
      go_wp2
      go_ret
      exact ⟨by rw [Hm.out]; rfl, HB.out⟩

set_option maxRecDepth 100000 in
set_option maxHeartbeats 1000000 in
theorem markPlan2 (w : World) (B : Nat) (cd bk : Int) (tx : ByteArray) (p : Option Addr) (n c k : Nat) (f : Nat → Value) (S : Wr w B p (n * 2) f) (hB : B ≤ w.heap.size) (hk : 0 < k) (hb : k + n * 2 ≤ 4194304) :
    Calls Try.prog 34 #[plnV cd bk tx p n c, .int .i64 (k : Int)] w fun e w' => e = .returned (.int .i64 ((k + n * 2 : Nat) : Int)) ∧ Wr w' B p (n * 2) (mkO k) ∧ Kept (foot p (n * 2)) w w' := by
  unfold plnV
  have HS := hid S
  clear S
  obtain ⟨wa, hwa, ez, A0, B0⟩ := one_new w [.int .i64 cd, .int .i64 bk, .string tx, .slice p n c] 34
  have k0 := A0.c 0 rfl
  have k1 := A0.c 1 rfl
  have k2 := A0.c 2 rfl
  have k3 := A0.c 3 rfl
  have HB := hid B0
  clear A0 B0 ez
  go_enter Try.func34, Try.ntmps34
  go_wp2_with fail
  try simp only [hwa]
  clear hwa
  refine (markOutS2 wa B p n c k f (HS.out.below HB.out) hk hb).mono ?_
  rintro e w1 ⟨rfl, W1, K1⟩
  have HW1 := hid W1
  have HK := hid (((Kept.of_below (S := foot p (n * 2)) HB.out).trans K1).mono (fun b _ h => by rcases h with h | h <;> exact h))
  clear W1 K1 k0 k1 k2 k3
  go_wp2
  go_ret
  exact ⟨rfl, HW1.out, HK.out⟩

set_option maxRecDepth 100000 in
set_option maxHeartbeats 1000000 in
theorem heldPlan2 (w : World) (cd bk : Int) (tx : ByteArray) (p : Option Addr) (n c k : Nat) (S : Sl w p (n * 2) (mkO k)) (hk : 0 < k) (hb : k + n * 2 ≤ 4194304) :
    Calls Try.prog 35 #[plnV cd bk tx p n c, .int .i64 (k : Int)] w fun e w' => e = .returned (.int .i64 ((k + n * 2 : Nat) : Int)) ∧ Below w.heap.size w w' := by
  unfold plnV
  have HS := hid S
  clear S
  obtain ⟨wa, hwa, ez, A0, B0⟩ := one_new w [.int .i64 cd, .int .i64 bk, .string tx, .slice p n c] 34
  have k0 := A0.c 0 rfl
  have k1 := A0.c 1 rfl
  have k2 := A0.c 2 rfl
  have k3 := A0.c 3 rfl
  have HB := hid B0
  clear A0 B0 ez
  go_enter Try.func35, Try.ntmps35
  go_wp2_with fail
  try simp only [hwa]
  clear hwa
  refine (heldOutS2 wa p n c k (Sl.below HS.out HB.out) hk hb).mono ?_
  rintro e w1 ⟨rfl, b1⟩
  have HB1 := hid (HB.out.trans (b1.mono HB.out.size))
  have hn : ¬ ((k + n * 2 : Nat) : Int) < 0 := by omega
  generalize hT : k + n * 2 = T at *
  have HT := hid hT
  clear hT b1 k0 k1 k2 k3
  go_wp2
  go_ret
  exact ⟨by first | (rw [HT.out]; done) | (rw [HT.out]; rfl), HB1.out⟩

set_option maxRecDepth 100000 in
set_option maxHeartbeats 1000000 in
theorem markHost2 (w : World) (B : Nat) (H : Ho) (p : Option Addr) (c m : Nat) (f : Nat → Value) (S : Wr w B p (H.l.length * 2) f) (hB : B ≤ w.heap.size) (hk : 0 < m) (hb : m + H.l.length * 2 ≤ 4194304) :
    Calls Try.prog 14 #[hoV H p c, .int .i64 (m : Int)] w fun e w' => e = .returned (.int .i64 ((m + H.l.length * 2 : Nat) : Int)) ∧ Wr w' B p (H.l.length * 2) (mkO m) ∧ Kept (foot p (H.l.length * 2)) w w' := by
  obtain ⟨id, ep, up, rd, bz, k, v, t, a, s, pc, cd, bk, tx, l, txn⟩ := H
  have HS : Hid (Wr w B p (l.length * 2) f) := S
  replace hb : m + l.length * 2 ≤ 4194304 := hb
  clear S
  unfold hoV
  try simp only []
  generalize l.length = n at *
  obtain ⟨wa, hwa, ez, A0, B0⟩ := one_new w [.int .i64 id, .int .i64 ep, .bool up, .bool rd, .bool bz, .int .i64 k, .int .i64 v, .int .i64 t, .int .i64 a, .string s, .int .i64 pc, .int .i64 cd, .int .i64 bk, .string tx, .slice p n c, .int .i64 txn] 36
  have k11 := A0.c 11 rfl
  have k12 := A0.c 12 rfl
  have k13 := A0.c 13 rfl
  have k14 := A0.c 14 rfl
  have HB := hid B0
  clear A0 B0 ez
  go_enter Try.func14, Try.ntmps14
  go_wp2_with fail
  try simp only [hwa]
  clear hwa
  refine (markPlan2 wa B cd bk tx p n c m f (HS.out.below HB.out) (Nat.le_trans hB HB.out.size) hk hb).mono ?_
  rintro e w1 ⟨rfl, W1, K1⟩
  have HW1 := hid W1
  have HK := hid (((Kept.of_below (S := foot p (n * 2)) HB.out).trans K1).mono (fun b _ h => by rcases h with h | h <;> exact h))
  clear W1 K1 k11 k12 k13 k14
  go_wp2
  go_ret
  exact ⟨rfl, HW1.out, HK.out⟩

set_option maxRecDepth 100000 in
set_option maxHeartbeats 1000000 in
theorem heldHost2 (w : World) (H : Ho) (p : Option Addr) (c m : Nat) (S : Sl w p (H.l.length * 2) (mkO m)) (hk : 0 < m) (hb : m + H.l.length * 2 ≤ 4194304) :
    Calls Try.prog 15 #[hoV H p c, .int .i64 (m : Int)] w fun e w' => e = .returned (.int .i64 ((m + H.l.length * 2 : Nat) : Int)) ∧ Below w.heap.size w w' := by
  obtain ⟨id, ep, up, rd, bz, k, v, t, a, s, pc, cd, bk, tx, l, txn⟩ := H
  have HS : Hid (Sl w p (l.length * 2) (mkO m)) := S
  replace hb : m + l.length * 2 ≤ 4194304 := hb
  clear S
  unfold hoV
  try simp only []
  generalize l.length = n at *
  obtain ⟨wa, hwa, ez, A0, B0⟩ := one_new w [.int .i64 id, .int .i64 ep, .bool up, .bool rd, .bool bz, .int .i64 k, .int .i64 v, .int .i64 t, .int .i64 a, .string s, .int .i64 pc, .int .i64 cd, .int .i64 bk, .string tx, .slice p n c, .int .i64 txn] 36
  have k11 := A0.c 11 rfl
  have k12 := A0.c 12 rfl
  have k13 := A0.c 13 rfl
  have k14 := A0.c 14 rfl
  have HB := hid B0
  clear A0 B0 ez
  go_enter Try.func15, Try.ntmps15
  go_wp2_with fail
  try simp only [hwa]
  clear hwa
  refine (heldPlan2 wa cd bk tx p n c m (Sl.below HS.out HB.out) hk hb).mono ?_
  rintro e w1 ⟨rfl, b1⟩
  have HB1 := hid (HB.out.trans (b1.mono HB.out.size))
  have hn : ¬ ((m + n * 2 : Nat) : Int) < 0 := by omega
  generalize hT : m + n * 2 = T at *
  have HT := hid hT
  clear hT b1 k11 k12 k13 k14
  go_wp2
  go_ret
  exact ⟨by first | (rw [HT.out]; done) | (rw [HT.out]; rfl), HB1.out⟩

end Go.Proofs.Ytllgjoflhjnnaaa.Pl
