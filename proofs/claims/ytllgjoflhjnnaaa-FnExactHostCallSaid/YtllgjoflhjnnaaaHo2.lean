/-
  The walks of laws.toHost, laws.markHost and laws.heldHost. No condition but lists of at most 2^20, that may be written.
-/
import Derived.Test.YtllgjoflhjnnaaaHo
import Derived.Test.YtllgjoflhjnnaaaRowCopy
import Derived.Deep.DeepCutAuto
namespace Go.Proofs.Ytllgjoflhjnnaaa.Pl
open Go.RowKit Go.Proofs.Ytllgjoflhjnnaaa.Mem Go.Proofs.Ytllgjoflhjnnaaa.Sec Go.Proofs.Ytllgjoflhjnnaaa.Rd
set_option linter.unusedVariables false

set_option maxRecDepth 100000 in
set_option maxHeartbeats 8000000 in
theorem toHost (w : World) (H : Ho) (p : Option Addr) (c : Nat) (S : Ous w p H.l) (hl : H.l.length ≤ 1048576) :
    Calls Try.prog 7 #[hoV H p c] w fun r w' => ∃ g, r = .returned (hoV H (some ⟨g, 0, none⟩) H.l.length) ∧ w.heap.size ≤ g ∧ g < w'.heap.size ∧ OusW w' w.heap.size (some ⟨g, 0, none⟩) H.l ∧ Below w.heap.size w w' := by
  obtain ⟨id, ep, up, rd, bz, k, v, t, a, s, pc, cd, bk, tx, l, txn⟩ := H
  have HS : Hid (Ous w p l) := S
  replace hl : l.length ≤ 1048576 := hl
  clear S
  unfold hoV
  try simp only []
  go_enter Try.func7, Try.ntmps7
  go_wp2_with fail
  obtain ⟨wc, hwc, e2, A0, R0, O0, B0⟩ := three_news w [.int .i64 id, .int .i64 ep, .bool up, .bool rd, .bool bz, .int .i64 k, .int .i64 v, .int .i64 t, .int .i64 a, .string s, .int .i64 pc, .int .i64 cd, .int .i64 bk, .string tx, .slice p l.length c, .int .i64 txn] [.int .i64 0, .int .i64 0, .bool false, .bool false, .bool false, .int .i64 0, .int .i64 0, .int .i64 0, .int .i64 0, .string ⟨#[]⟩, .int .i64 0, .int .i64 0, .int .i64 0, .string ⟨#[]⟩, .slice none 0 0, .int .i64 0] [.int .i64 id, .int .i64 ep, .bool up, .bool rd, .bool bz, .int .i64 0, .int .i64 0, .int .i64 0, .int .i64 0, .string ⟨#[]⟩, .int .i64 0, .int .i64 0, .int .i64 0, .string ⟨#[]⟩, .slice none 0 0, .int .i64 0] 28 36
  simp only [hwc]
  clear hwc
  refine (toOp wc k v t a s).mono ?_
  rintro r w1 ⟨rfl, b1⟩
  replace A0 := A0.below b1 (by omega)
  replace R0 := R0.below b1 (by omega)
  replace O0 := O0.below b1 (by omega)
  replace B0 := B0.trans (b1.mono (by omega))
  have hs1 := b1.size
  have ca10 := A0.c 10 rfl
  have ca11 := A0.c 11 rfl
  have ca12 := A0.c 12 rfl
  have ca13 := A0.c 13 rfl
  have ca14 := A0.c 14 rfl
  have co5 := O0.c 5 rfl
  have co6 := O0.c 6 rfl
  have co7 := O0.c 7 rfl
  have co8 := O0.c 8 rfl
  have co9 := O0.c 9 rfl
  have co10 := O0.c 10 rfl
  have fo5 := O0.f 5
  have fo6 := O0.f 6
  have fo7 := O0.f 7
  have fo8 := O0.f 8
  have fo9 := O0.f 9
  have fo10 := O0.f 10
  have HA := hid A0
  have HR := hid R0
  have HO := hid O0
  clear A0 R0 O0 b1
  unfold opV
  go_wp2_with fail
  obtain ⟨w1', hw1', A0, R0, O0, B1, es⟩ : ∃ w1', ((((((w1.setCell ⟨w.heap.size + 1 + 1, 5, none⟩ (.int .i64 k)).setCell ⟨w.heap.size + 1 + 1, 6, none⟩ (.int .i64 v)).setCell ⟨w.heap.size + 1 + 1, 7, none⟩ (.int .i64 t)).setCell ⟨w.heap.size + 1 + 1, 8, none⟩ (.int .i64 a)).setCell ⟨w.heap.size + 1 + 1, 9, none⟩ (.string s)).setCell ⟨w.heap.size + 1 + 1, 10, none⟩ (.int .i64 pc)) = w1' ∧ Row w1' w.heap.size _ ∧ Row w1' (w.heap.size + 1) _ ∧ Row w1' (w.heap.size + 1 + 1) _ ∧ Below w.heap.size w w1' ∧ w1'.heap.size = w1.heap.size :=
    ⟨_, rfl, puts_other HA.out (by omega) 5 [.int .i64 k, .int .i64 v, .int .i64 t, .int .i64 a, .string s, .int .i64 pc], puts_other HR.out (by omega) 5 [.int .i64 k, .int .i64 v, .int .i64 t, .int .i64 a, .string s, .int .i64 pc], puts_row HO.out 5 [.int .i64 k, .int .i64 v, .int .i64 t, .int .i64 a, .string s, .int .i64 pc], puts_below B0 (by omega) 5 [.int .i64 k, .int .i64 v, .int .i64 t, .int .i64 a, .string s, .int .i64 pc], puts_size w1 _ 5 [.int .i64 k, .int .i64 v, .int .i64 t, .int .i64 a, .string s, .int .i64 pc]⟩
  simp only [hw1']
  clear hw1' HA HR HO B0 ca10 ca11 ca12 ca13 ca14 co5 fo5 co6 fo6 co7 fo7 co8 fo8 co9 fo9 co10 fo10
  refine (toPlan w1' cd bk tx p c l (HS.out.below B1) hl).mono ?_
  rintro r w2 ⟨g, rfl, hg, hl2, S2, b2⟩
  replace R0 := R0.below b2 R0.lt
  replace O0 := O0.below b2 O0.lt
  replace A0 := A0.below b2 A0.lt
  replace B1 := B1.trans (b2.mono (by omega))
  have d11 := O0.c 11 rfl
  have d12 := O0.c 12 rfl
  have d13 := O0.c 13 rfl
  have d14 := O0.c 14 rfl
  have fd11 := O0.f 11
  have fd12 := O0.f 12
  have fd13 := O0.f 13
  have fd14 := O0.f 14
  have HA := hid A0
  have HR := hid R0
  have HO := hid O0
  have HS2 := hid S2
  clear A0 R0 O0 b2 S2
  unfold plnV
  go_upto_region 10 with fail
  obtain ⟨w3, hw3, A0, R0, O0, B3, K3⟩ : ∃ w3, ((((w2.setCell ⟨w.heap.size + 1 + 1, 11, none⟩ (.int .i64 cd)).setCell ⟨w.heap.size + 1 + 1, 12, none⟩ (.int .i64 bk)).setCell ⟨w.heap.size + 1 + 1, 13, none⟩ (.string tx)).setCell ⟨w.heap.size + 1 + 1, 14, none⟩ (.slice (some ⟨g, 0, none⟩) l.length l.length)) = w3 ∧ Row w3 w.heap.size _ ∧ Row w3 (w.heap.size + 1) _ ∧ Row w3 (w.heap.size + 1 + 1) _ ∧ Below w.heap.size w w3 ∧ Kept (fun b => b = w.heap.size + 1 + 1) w2 w3 :=
    ⟨_, rfl, puts_other HA.out (by omega) 11 [.int .i64 cd, .int .i64 bk, .string tx, .slice (some ⟨g, 0, none⟩) l.length l.length], puts_other HR.out (by omega) 11 [.int .i64 cd, .int .i64 bk, .string tx, .slice (some ⟨g, 0, none⟩) l.length l.length], puts_row HO.out 11 [.int .i64 cd, .int .i64 bk, .string tx, .slice (some ⟨g, 0, none⟩) l.length l.length], puts_below B1 (by omega) 11 [.int .i64 cd, .int .i64 bk, .string tx, .slice (some ⟨g, 0, none⟩) l.length l.length], puts_kept w2 _ 11 [.int .i64 cd, .int .i64 bk, .string tx, .slice (some ⟨g, 0, none⟩) l.length l.length]⟩
  try simp only [hw3]
  clear hw3 d11 d12 d13 d14 fd11 fd12 fd13 fd14 HA HR HO B1
  have a15 := A0.c 15 rfl
  have d15 := O0.c 15 rfl
  have fd15 := O0.f 15
  have HR := hid R0
  have HO := hid O0
  clear A0 R0 O0
  go_upto_region 11 with fail
  obtain ⟨w4, hw4, R0, O0, B4, K4⟩ : ∃ w4, w3.setCell ⟨w.heap.size + 1 + 1, 15, none⟩ (.int .i64 txn) = w4 ∧ Row w4 (w.heap.size + 1) _ ∧ Row w4 (w.heap.size + 1 + 1) _ ∧ Below w.heap.size w w4 ∧ Kept (fun b => b = w.heap.size + 1 + 1) w3 w4 :=
    ⟨_, rfl, HR.out.other (p := ⟨w.heap.size + 1 + 1, 15, none⟩) (by show w.heap.size + 1 ≠ w.heap.size + 1 + 1; omega) _, HO.out.set 15 (.int .i64 txn), below_set B3 _ _ _ (by omega), kept_set w3 _ _ _⟩
  try simp only [hw4]
  clear hw4 a15 d15 fd15 HR HO
  refine wp_region_list ?_
  refine wpList_load_row rfl 36 _ rfl (w.heap.size + 1 + 1) rfl [.int .i64 id, .int .i64 ep, .bool up, .bool rd, .bool bz, .int .i64 k, .int .i64 v, .int .i64 t, .int .i64 a, .string s, .int .i64 pc, .int .i64 cd, .int .i64 bk, .string tx, .slice (some ⟨g, 0, none⟩) l.length l.length, .int .i64 txn] _ O0 Try.underlying36 rfl (by kernel_rfl) ?_
  refine wpList_store_row rfl 36 _ _ rfl (w.heap.size + 1) rfl _ [.int .i64 id, .int .i64 ep, .bool up, .bool rd, .bool bz, .int .i64 k, .int .i64 v, .int .i64 t, .int .i64 a, .string s, .int .i64 pc, .int .i64 cd, .int .i64 bk, .string tx, .slice (some ⟨g, 0, none⟩) l.length l.length, .int .i64 txn] rfl R0 rfl (by kernel_rfl) rfl ?_
  have HR := hid (puts_row R0 0 [.int .i64 id, .int .i64 ep, .bool up, .bool rd, .bool bz, .int .i64 k, .int .i64 v, .int .i64 t, .int .i64 a, .string s, .int .i64 pc, .int .i64 cd, .int .i64 bk, .string tx, .slice (some ⟨g, 0, none⟩) l.length l.length, .int .i64 txn])
  have HB := hid (puts_below B4 (show w.heap.size ≤ w.heap.size + 1 by omega) 0 [.int .i64 id, .int .i64 ep, .bool up, .bool rd, .bool bz, .int .i64 k, .int .i64 v, .int .i64 t, .int .i64 a, .string s, .int .i64 pc, .int .i64 cd, .int .i64 bk, .string tx, .slice (some ⟨g, 0, none⟩) l.length l.length, .int .i64 txn])
  have HK := hid (((K3.trans K4).trans (puts_kept w4 (w.heap.size + 1) 0 [.int .i64 id, .int .i64 ep, .bool up, .bool rd, .bool bz, .int .i64 k, .int .i64 v, .int .i64 t, .int .i64 a, .string s, .int .i64 pc, .int .i64 cd, .int .i64 bk, .string tx, .slice (some ⟨g, 0, none⟩) l.length l.length, .int .i64 txn])).mono (T := fun b => b < wc.heap.size) (fun b _ hb => by rcases hb with (h | h) | h <;> omega))
  have hz : w2.heap.size ≤ (puts w4 (w.heap.size + 1) 0 [.int .i64 id, .int .i64 ep, .bool up, .bool rd, .bool bz, .int .i64 k, .int .i64 v, .int .i64 t, .int .i64 a, .string s, .int .i64 pc, .int .i64 cd, .int .i64 bk, .string tx, .slice (some ⟨g, 0, none⟩) l.length l.length, .int .i64 txn]).heap.size := HK.out.size
  generalize puts w4 (w.heap.size + 1) 0 [.int .i64 id, .int .i64 ep, .bool up, .bool rd, .bool bz, .int .i64 k, .int .i64 v, .int .i64 t, .int .i64 a, .string s, .int .i64 pc, .int .i64 cd, .int .i64 bk, .string tx, .slice (some ⟨g, 0, none⟩) l.length l.length, .int .i64 txn] = w5 at *
  clear R0 O0 B3 B4 K3 K4
  refine wpList_nil ?_
  go_wp2
  refine bodyPost_ret (results_row rfl _ _ (w.heap.size + 1) [.int .i64 id, .int .i64 ep, .bool up, .bool rd, .bool bz, .int .i64 k, .int .i64 v, .int .i64 t, .int .i64 a, .string s, .int .i64 pc, .int .i64 cd, .int .i64 bk, .string tx, .slice (some ⟨g, 0, none⟩) l.length l.length, .int .i64 txn] _ rfl HR.out Try.underlying36 rfl (by kernel_rfl)) rfl ?_
  refine ⟨g, rfl, by omega, by omega, ?_, HB.out⟩
  exact (HS2.out.move HK.out (fun b hb => by have := HS2.out.foot_ge hb; omega)).mono (by omega)

set_option maxRecDepth 100000 in
set_option maxHeartbeats 1000000 in
theorem markPlan (w : World) (B : Nat) (cd bk : Int) (tx : ByteArray) (p : Option Addr) (n c k : Nat) (f : Nat → Value) (S : Wr w B p (n * 2) f) (hB : B ≤ w.heap.size) (hk : 0 < k) (hb : k + n * 2 ≤ 1048576) :
    Calls Try.prog 34 #[plnV cd bk tx p n c, .int .i64 (k : Int)] w fun e w' => e = .returned (.int .i64 ((k + n * 2 : Nat) : Int)) ∧ Wr w' B p (n * 2) (mkO k) ∧ Kept (foot p (n * 2)) w w' := by
  unfold plnV
  have HS := hid S
  clear S
  obtain ⟨wa, hwa, ez, A0, B0⟩ := one_new w [.int .i64 cd, .int .i64 bk, .string tx, .slice p n c] 34
  have k0 := A0.c 0 rfl
  have k1 := A0.c 1 rfl
  have k2 := A0.c 2 rfl
  have k3 := A0.c 3 rfl
  have HB := hid B0
  clear A0 B0 ez
  go_enter Try.func34, Try.ntmps34
  go_wp2_with fail
  try simp only [hwa]
  clear hwa
  refine (markOutS wa B p n c k f (HS.out.below HB.out) hk hb).mono ?_
  rintro e w1 ⟨rfl, W1, K1⟩
  have HW1 := hid W1
  have HK := hid (((Kept.of_below (S := foot p (n * 2)) HB.out).trans K1).mono (fun b _ h => by rcases h with h | h <;> exact h))
  clear W1 K1 k0 k1 k2 k3
  go_wp2
  go_ret
  exact ⟨rfl, HW1.out, HK.out⟩

set_option maxRecDepth 100000 in
set_option maxHeartbeats 1000000 in
theorem heldPlan (w : World) (cd bk : Int) (tx : ByteArray) (p : Option Addr) (n c k : Nat) (S : Sl w p (n * 2) (mkO k)) (hk : 0 < k) (hb : k + n * 2 ≤ 1048576) :
    Calls Try.prog 35 #[plnV cd bk tx p n c, .int .i64 (k : Int)] w fun e w' => e = .returned (.int .i64 ((k + n * 2 : Nat) : Int)) ∧ Below w.heap.size w w' := by
  unfold plnV
  have HS := hid S
  clear S
  obtain ⟨wa, hwa, ez, A0, B0⟩ := one_new w [.int .i64 cd, .int .i64 bk, .string tx, .slice p n c] 34
  have k0 := A0.c 0 rfl
  have k1 := A0.c 1 rfl
  have k2 := A0.c 2 rfl
  have k3 := A0.c 3 rfl
  have HB := hid B0
  clear A0 B0 ez
  go_enter Try.func35, Try.ntmps35
  go_wp2_with fail
  try simp only [hwa]
  clear hwa
  refine (heldOutS wa p n c k (Sl.below HS.out HB.out) hk hb).mono ?_
  rintro e w1 ⟨rfl, b1⟩
  have HB1 := hid (HB.out.trans (b1.mono HB.out.size))
  have hn : ¬ ((k + n * 2 : Nat) : Int) < 0 := by omega
  generalize hT : k + n * 2 = T at *
  have HT := hid hT
  clear hT b1 k0 k1 k2 k3
  go_wp2
  go_ret
  exact ⟨by first | (rw [HT.out]; done) | (rw [HT.out]; rfl), HB1.out⟩

set_option maxRecDepth 100000 in
set_option maxHeartbeats 1000000 in
theorem markHost (w : World) (B : Nat) (H : Ho) (p : Option Addr) (c m : Nat) (f : Nat → Value) (S : Wr w B p (H.l.length * 2) f) (hB : B ≤ w.heap.size) (hk : 0 < m) (hb : m + H.l.length * 2 ≤ 1048576) :
    Calls Try.prog 14 #[hoV H p c, .int .i64 (m : Int)] w fun e w' => e = .returned (.int .i64 ((m + H.l.length * 2 : Nat) : Int)) ∧ Wr w' B p (H.l.length * 2) (mkO m) ∧ Kept (foot p (H.l.length * 2)) w w' := by
  obtain ⟨id, ep, up, rd, bz, k, v, t, a, s, pc, cd, bk, tx, l, txn⟩ := H
  have HS : Hid (Wr w B p (l.length * 2) f) := S
  replace hb : m + l.length * 2 ≤ 1048576 := hb
  clear S
  unfold hoV
  try simp only []
  generalize l.length = n at *
  obtain ⟨wa, hwa, ez, A0, B0⟩ := one_new w [.int .i64 id, .int .i64 ep, .bool up, .bool rd, .bool bz, .int .i64 k, .int .i64 v, .int .i64 t, .int .i64 a, .string s, .int .i64 pc, .int .i64 cd, .int .i64 bk, .string tx, .slice p n c, .int .i64 txn] 36
  have k11 := A0.c 11 rfl
  have k12 := A0.c 12 rfl
  have k13 := A0.c 13 rfl
  have k14 := A0.c 14 rfl
  have HB := hid B0
  clear A0 B0 ez
  go_enter Try.func14, Try.ntmps14
  go_wp2_with fail
  try simp only [hwa]
  clear hwa
  refine (markPlan wa B cd bk tx p n c m f (HS.out.below HB.out) (Nat.le_trans hB HB.out.size) hk hb).mono ?_
  rintro e w1 ⟨rfl, W1, K1⟩
  have HW1 := hid W1
  have HK := hid (((Kept.of_below (S := foot p (n * 2)) HB.out).trans K1).mono (fun b _ h => by rcases h with h | h <;> exact h))
  clear W1 K1 k11 k12 k13 k14
  go_wp2
  go_ret
  exact ⟨rfl, HW1.out, HK.out⟩

set_option maxRecDepth 100000 in
set_option maxHeartbeats 1000000 in
theorem heldHost (w : World) (H : Ho) (p : Option Addr) (c m : Nat) (S : Sl w p (H.l.length * 2) (mkO m)) (hk : 0 < m) (hb : m + H.l.length * 2 ≤ 1048576) :
    Calls Try.prog 15 #[hoV H p c, .int .i64 (m : Int)] w fun e w' => e = .returned (.int .i64 ((m + H.l.length * 2 : Nat) : Int)) ∧ Below w.heap.size w w' := by
  obtain ⟨id, ep, up, rd, bz, k, v, t, a, s, pc, cd, bk, tx, l, txn⟩ := H
  have HS : Hid (Sl w p (l.length * 2) (mkO m)) := S
  replace hb : m + l.length * 2 ≤ 1048576 := hb
  clear S
  unfold hoV
  try simp only []
  generalize l.length = n at *
  obtain ⟨wa, hwa, ez, A0, B0⟩ := one_new w [.int .i64 id, .int .i64 ep, .bool up, .bool rd, .bool bz, .int .i64 k, .int .i64 v, .int .i64 t, .int .i64 a, .string s, .int .i64 pc, .int .i64 cd, .int .i64 bk, .string tx, .slice p n c, .int .i64 txn] 36
  have k11 := A0.c 11 rfl
  have k12 := A0.c 12 rfl
  have k13 := A0.c 13 rfl
  have k14 := A0.c 14 rfl
  have HB := hid B0
  clear A0 B0 ez
  go_enter Try.func15, Try.ntmps15
  go_wp2_with fail
  try simp only [hwa]
  clear hwa
  refine (heldPlan wa cd bk tx p n c m (Sl.below HS.out HB.out) hk hb).mono ?_
  rintro e w1 ⟨rfl, b1⟩
  have HB1 := hid (HB.out.trans (b1.mono HB.out.size))
  have hn : ¬ ((m + n * 2 : Nat) : Int) < 0 := by omega
  generalize hT : m + n * 2 = T at *
  have HT := hid hT
  clear hT b1 k11 k12 k13 k14
  go_wp2
  go_ret
  exact ⟨by first | (rw [HT.out]; done) | (rw [HT.out]; rfl), HB1.out⟩

end Go.Proofs.Ytllgjoflhjnnaaa.Pl
