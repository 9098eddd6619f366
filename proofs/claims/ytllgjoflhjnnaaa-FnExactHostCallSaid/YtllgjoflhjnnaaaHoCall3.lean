/-
  The walk of impl.HostCall. No condition but texts and lists of at most 2^20.
-/
import Derived.Test.YtllgjoflhjnnaaaHoCall
import Derived.Test.YtllgjoflhjnnaaaHoOk6
import Derived.Deep.DeepCutAuto
namespace Go.Proofs.Ytllgjoflhjnnaaa.Pl
open Go.RowKit Go.Proofs.Ytllgjoflhjnnaaa.Mem Go.Proofs.Ytllgjoflhjnnaaa.Sec
set_option linter.unusedVariables false

theorem wr_foot_lt {w : World} {B m : Nat} {a : Option Addr} {f : Nat → Value} (h : Wr w B a m f) {b : Nat} (hb : foot a m b) : b < w.heap.size := by
  obtain ⟨hm, off, rfl⟩ := hb
  obtain ⟨_, _, e, _, hc, _⟩ := h 0 hm
  cases e
  exact World.block_lt_of_cell? _ _ hc

set_option maxRecDepth 100000 in
theorem iRecover (i : Int) (w : World) : Calls Try.prog 33 #[.int .i64 i] w fun e w' => e = .returned (.agg #[.int .i64 12, .int .i64 i, .int .i64 0, .int .i64 0, .string ⟨#[]⟩]) ∧ Below w.heap.size w w' := by
  go_enter Try.func33, Try.ntmps33
  go_wp2
  go_returns
  exact ⟨rfl, by go_grown⟩

def hoL' (H : Ho) (p : Option Addr) (c : Nat) : List Value := [.int .i64 H.id, .int .i64 H.ep, .bool H.up, .bool H.rd, .bool H.bz, .int .i64 H.k, .int .i64 H.v, .int .i64 H.t, .int .i64 H.a, .string H.s, .int .i64 H.pc, .int .i64 H.cd, .int .i64 H.bk, .string H.tx, .slice p H.l.length c, .int .i64 H.txn]

set_option maxRecDepth 100000 in
set_option maxHeartbeats 8000000 in
theorem iHostCall (w : World) (H : Ho) (p : Option Addr) (c : Nat) (K V T A : Int) (X : ByteArray) (S : Ous w p H.l) (hu : H.Upto 1048576) (hX : X.size ≤ 1048576) :
    Calls Try.prog 13 #[hoV H p c, opV K V T A X] w fun r w' => ∃ p' c', r = .returned (.tuple #[hoV (callD H K V T A X).1 p' c', .bool (callD H K V T A X).2]) ∧ OusW w' w.heap.size p' (callD H K V T A X).1.l ∧ Below w.heap.size w w' := by
  obtain ⟨id, ep, up, rd, bz, k, v, t, a, s, pc, cd, bk, tx, l, txn⟩ := H
  have HS : Hid (Ous w p l) := S
  have HU : Hid (Ho.Upto 1048576 ⟨id, ep, up, rd, bz, k, v, t, a, s, pc, cd, bk, tx, l, txn⟩) := hu
  have HL : Hid (l.length ≤ 1048576) := hu.l
  clear S hu
  unfold hoV opV
  try simp only []
  go_enter Try.func13, Try.ntmps13
  go_upto_region 1 with fail
  obtain ⟨wa, hwa, ea, A0, C0, R0, B0⟩ := three_y w [.int .i64 id, .int .i64 ep, .bool up, .bool rd, .bool bz, .int .i64 k, .int .i64 v, .int .i64 t, .int .i64 a, .string s, .int .i64 pc, .int .i64 cd, .int .i64 bk, .string tx, .slice p l.length c, .int .i64 txn] [.int .i64 K, .int .i64 V, .int .i64 T, .int .i64 A, .string X] [.int .i64 0, .int .i64 0, .bool false, .bool false, .bool false, .int .i64 0, .int .i64 0, .int .i64 0, .int .i64 0, .string ⟨#[]⟩, .int .i64 0, .int .i64 0, .int .i64 0, .string ⟨#[]⟩, .slice none 0 0, .int .i64 0] 36 31 36
  simp only [hwa]
  clear hwa
  have HA := hid A0
  have HC := hid C0
  have HR := hid R0
  have HB := hid B0
  have k0 := A0.c 0 rfl
  have k1 := A0.c 1 rfl
  have k2 := A0.c 2 rfl
  have k3 := A0.c 3 rfl
  have k4 := A0.c 4 rfl
  have k5 := A0.c 5 rfl
  have k6 := A0.c 6 rfl
  have k7 := A0.c 7 rfl
  have k8 := A0.c 8 rfl
  have k9 := A0.c 9 rfl
  have k10 := A0.c 10 rfl
  have k11 := A0.c 11 rfl
  have k12 := A0.c 12 rfl
  have k13 := A0.c 13 rfl
  have k14 := A0.c 14 rfl
  have k15 := A0.c 15 rfl
  clear A0 C0 R0 B0
  have hz0 : w.heap.size < wa.heap.size := by omega
  have hz1 : w.heap.size + 1 < wa.heap.size := by omega
  have hz2 : w.heap.size + 1 + 1 < wa.heap.size := by omega
  clear ea
  go_wp2_with fail
  have hok := iHostOk wa ⟨id, ep, up, rd, bz, k, v, t, a, s, pc, cd, bk, tx, l, txn⟩ p c (HS.out.below HB.out) HU.out
  cases hq : Ho.ok ⟨id, ep, up, rd, bz, k, v, t, a, s, pc, cd, bk, tx, l, txn⟩ with
  | false =>
    rw [hq] at hok
    refine hok.mono ?_
    rintro r w1 ⟨rfl, b1⟩
    have HD : Hid (callD ⟨id, ep, up, rd, bz, k, v, t, a, s, pc, cd, bk, tx, l, txn⟩ K V T A X = (Ho.zero, false)) := call_no hq
    have HR1 := hid (HR.out.below b1 HR.out.lt)
    have HB1 := hid (HB.out.trans (b1.mono HB.out.size))
    clear b1 hq hok k0 k1 k2 k3 k4 k5 k6 k7 k8 k9 k10 k11 k12 k13 k14 k15
    go_upto_region 2 with fail
    refine wp_region_list ?_
    refine wpList_step (fun K' hK => ?_)
    go_simp
    refine hK _ _ ?_
    clear hK K'
    refine wpList_store_row rfl 36 _ _ rfl (w.heap.size + 1 + 1) rfl _ [.int .i64 0, .int .i64 0, .bool false, .bool false, .bool false, .int .i64 0, .int .i64 0, .int .i64 0, .int .i64 0, .string ⟨#[]⟩, .int .i64 0, .int .i64 0, .int .i64 0, .string ⟨#[]⟩, .slice none 0 0, .int .i64 0] rfl HR1.out rfl (by kernel_rfl) rfl ?_
    have HRz := hid (puts_row HR1.out 0 [.int .i64 0, .int .i64 0, .bool false, .bool false, .bool false, .int .i64 0, .int .i64 0, .int .i64 0, .int .i64 0, .string ⟨#[]⟩, .int .i64 0, .int .i64 0, .int .i64 0, .string ⟨#[]⟩, .slice none 0 0, .int .i64 0])
    have HBz := hid (puts_below HB1.out (show w.heap.size ≤ (w.heap.size + 1 + 1) by omega) 0 [.int .i64 0, .int .i64 0, .bool false, .bool false, .bool false, .int .i64 0, .int .i64 0, .int .i64 0, .int .i64 0, .string ⟨#[]⟩, .int .i64 0, .int .i64 0, .int .i64 0, .string ⟨#[]⟩, .slice none 0 0, .int .i64 0])
    generalize puts w1 (w.heap.size + 1 + 1) 0 [.int .i64 0, .int .i64 0, .bool false, .bool false, .bool false, .int .i64 0, .int .i64 0, .int .i64 0, .int .i64 0, .string ⟨#[]⟩, .int .i64 0, .int .i64 0, .int .i64 0, .string ⟨#[]⟩, .slice none 0 0, .int .i64 0] = w9 at *
    go_wp2
    refine bodyPost_ret (results_hb rfl _ _ (w.heap.size + 1 + 1) [.int .i64 0, .int .i64 0, .bool false, .bool false, .bool false, .int .i64 0, .int .i64 0, .int .i64 0, .int .i64 0, .string ⟨#[]⟩, .int .i64 0, .int .i64 0, .int .i64 0, .string ⟨#[]⟩, .slice none 0 0, .int .i64 0] _ rfl HRz.out Try.underlying36 rfl (by kernel_rfl)) rfl ?_
    exact ⟨none, 0, by rw [HD.out]; rfl, by rw [HD.out]; exact fun i hi => by simp [Ho.zero] at hi, HBz.out⟩
  | true =>
    rw [hq] at hok
    refine hok.mono ?_
    rintro r wb ⟨rfl, bb⟩
    have HAb := hid (HA.out.below bb HA.out.lt)
    have HCb := hid (HC.out.below bb HC.out.lt)
    have HRb := hid (HR.out.below bb HR.out.lt)
    have HBb := hid (HB.out.trans (bb.mono HB.out.size))
    have hsb := bb.size
    have HQ := hid hq
    clear bb hq hok HA HC HR HB k0 k1 k2 k3 k4 k5 k6 k7 k8 k9 k10 k11 k12 k13 k14 k15
    go_upto_region 3 with fail
    refine region_box rfl rfl rfl rfl rfl 36 _ rfl w.heap.size _ _ rfl HAb.out Try.underlying36 rfl (by kernel_rfl) 31 _ _ rfl call_iCopy rfl [.int .i64 0, .int .i64 0, .bool false, .bool false, .bool false, .int .i64 0, .int .i64 0, .int .i64 0, .int .i64 0, .string ⟨#[]⟩, .int .i64 0, .int .i64 0, .int .i64 0, .string ⟨#[]⟩, .slice none 0 0, .int .i64 0] 36 (fun ρ w => by unfold execOp; simp [go_sem]) 36 _ _ rfl (by kernel_rfl) (fun _ _ => rfl) (fun _ _ => rfl) (fun cs w' => ∃ p1 c1, cs = hoL' ⟨id, ep, up, rd, bz, k, v, t, a, s, pc, cd, bk, tx, l, txn⟩ p1 c1 ∧ OusW w' wb.heap.size p1 l) ?_ ?_
    · refine (iCopyHost wb ⟨id, ep, up, rd, bz, k, v, t, a, s, pc, cd, bk, tx, l, txn⟩ p c (HS.out.below HBb.out) HL.out).mono ?_
      rintro e w1 ⟨p1, c1, rfl, W1, b1⟩
      exact ⟨hoL' ⟨id, ep, up, rd, bz, k, v, t, a, s, pc, cd, bk, tx, l, txn⟩ p1 c1, rfl, rfl, rfl, ⟨p1, c1, rfl, W1⟩, b1⟩
    rintro cs w1 w2 ⟨p1, c1, rfl, W1⟩ b1 X0 BX
    have hn0 : wb.heap.size ≤ w1.heap.size := b1.size
    have hn1 : w1.heap.size < w2.heap.size := X0.lt
    have HN : Hid (Row w2 w1.heap.size [.int .i64 id, .int .i64 ep, .bool up, .bool rd, .bool bz, .int .i64 k, .int .i64 v, .int .i64 t, .int .i64 a, .string s, .int .i64 pc, .int .i64 cd, .int .i64 bk, .string tx, .slice p1 l.length c1, .int .i64 txn]) := X0
    have HAo := hid ((HAb.out.below b1 HAb.out.lt).below BX (HAb.out.below b1 HAb.out.lt).lt)
    have HC2 := hid ((HCb.out.below b1 HCb.out.lt).below BX (HCb.out.below b1 HCb.out.lt).lt)
    have HR2 := hid ((HRb.out.below b1 HRb.out.lt).below BX (HRb.out.below b1 HRb.out.lt).lt)
    have HB2 := hid ((HBb.out.trans (b1.mono HBb.out.size)).trans (BX.mono (HBb.out.trans (b1.mono HBb.out.size)).size))
    have HW2 := hid (Wr.below W1 BX)
    have HFw : Hid (∀ b, foot p1 (l.length * 2) b → b < w1.heap.size) := fun b hb => wr_foot_lt W1 hb
    clear W1 b1 BX X0 HAb HCb HRb HBb
    rw [show (hoL' ⟨id, ep, up, rd, bz, k, v, t, a, s, pc, cd, bk, tx, l, txn⟩ p1 c1).toArray = #[.int .i64 id, .int .i64 ep, .bool up, .bool rd, .bool bz, .int .i64 k, .int .i64 v, .int .i64 t, .int .i64 a, .string s, .int .i64 pc, .int .i64 cd, .int .i64 bk, .string tx, .slice p1 l.length c1, .int .i64 txn] from rfl]
    simp only [Act.put, List.setIfInBounds_toArray, List.set_cons_zero, List.set_cons_succ]
    try rw [← show hoV ⟨id, ep, up, rd, bz, k, v, t, a, s, pc, cd, bk, tx, l, txn⟩ p c = .agg #[.int .i64 id, .int .i64 ep, .bool up, .bool rd, .bool bz, .int .i64 k, .int .i64 v, .int .i64 t, .int .i64 a, .string s, .int .i64 pc, .int .i64 cd, .int .i64 bk, .string tx, .slice p l.length c, .int .i64 txn] from rfl]
    try rw [← show hoV ⟨id, ep, up, rd, bz, k, v, t, a, s, pc, cd, bk, tx, l, txn⟩ p1 c1 = .agg #[.int .i64 id, .int .i64 ep, .bool up, .bool rd, .bool bz, .int .i64 k, .int .i64 v, .int .i64 t, .int .i64 a, .string s, .int .i64 pc, .int .i64 cd, .int .i64 bk, .string tx, .slice p1 l.length c1, .int .i64 txn] from rfl]
    have k2 := HAo.out.c 2 rfl
    have k4 := HAo.out.c 4 rfl
    have k0 := HAo.out.c 0 rfl
    have o0 := HC2.out.c 0 rfl
    have o1 := HC2.out.c 1 rfl
    have o2 := HC2.out.c 2 rfl
    have o3 := HC2.out.c 3 rfl
    have o4 := HC2.out.c 4 rfl
    have hgl := guardOpT
    have HAB := hid (Below.refl w2.heap.size w2)
    cases up with
    | false =>
      have hne : Nonempty (BW w2) := ⟨⟨w2, Below.refl _ _⟩⟩
      replace k2 := BW.cell k2
      replace k4 := BW.cell k4
      replace k0 := BW.cell k0
      replace o0 := BW.cell o0
      replace o1 := BW.cell o1
      replace o2 := BW.cell o2
      replace o3 := BW.cell o3
      replace o4 := BW.cell o4
      go_upto_region 4 with fail
      refine wp_region_bw (by kernel_rfl) (by kernel_rfl) ?_
      repeat (go_big_quiet_step (first
        | (fail)))
      refine wpQuiet_nil ?_
      intro _ hw'
      obtain ⟨u, rfl⟩ := hw'
      have HN3 := hid (HN.out.below u.bel HN.out.lt)
      have HR23 := hid (HR2.out.below u.bel HR2.out.lt)
      have HC23 := hid (HC2.out.below u.bel HC2.out.lt)
      have HB23 := hid (HB2.out.trans (u.bel.mono HB2.out.size))
      have HW23 := hid (Wr.below HW2.out u.bel)
      have hu3 : w2.heap.size ≤ u.val.heap.size := u.bel.size
      obtain ⟨w3, hw3⟩ : ∃ w3, w3 = u.val := ⟨_, rfl⟩
      rw [← hw3] at HN3 HR23 HC23 HB23 HW23 hu3 ⊢
      clear hw3 k0 k2 k4 o0 o1 o2 o3 o4
      have HD : Hid (callD ⟨id, ep, false, rd, bz, k, v, t, a, s, pc, cd, bk, tx, l, txn⟩ K V T A X = (⟨id, ep, false, rd, bz, k, v, t, a, s, pc, cd, bk, tx, l, txn⟩, false)) := call_is HQ.out (may_up rfl)
      go_upto_region 5 with fail
      refine wp_region_list ?_
      refine wpList_load_row rfl 36 _ rfl (w1.heap.size) rfl [.int .i64 id, .int .i64 ep, .bool false, .bool rd, .bool bz, .int .i64 k, .int .i64 v, .int .i64 t, .int .i64 a, .string s, .int .i64 pc, .int .i64 cd, .int .i64 bk, .string tx, .slice p1 l.length c1, .int .i64 txn] _ HN3.out Try.underlying36 rfl (by kernel_rfl) ?_
      refine wpList_store_row rfl 36 _ _ rfl (w.heap.size + 1 + 1) rfl _ [.int .i64 id, .int .i64 ep, .bool false, .bool rd, .bool bz, .int .i64 k, .int .i64 v, .int .i64 t, .int .i64 a, .string s, .int .i64 pc, .int .i64 cd, .int .i64 bk, .string tx, .slice p1 l.length c1, .int .i64 txn] rfl HR23.out rfl (by kernel_rfl) rfl ?_
      have HRz := hid (puts_row HR23.out 0 [.int .i64 id, .int .i64 ep, .bool false, .bool rd, .bool bz, .int .i64 k, .int .i64 v, .int .i64 t, .int .i64 a, .string s, .int .i64 pc, .int .i64 cd, .int .i64 bk, .string tx, .slice p1 l.length c1, .int .i64 txn])
      have HBz := hid (puts_below HB23.out (show w.heap.size ≤ (w.heap.size + 1 + 1) by omega) 0 [.int .i64 id, .int .i64 ep, .bool false, .bool rd, .bool bz, .int .i64 k, .int .i64 v, .int .i64 t, .int .i64 a, .string s, .int .i64 pc, .int .i64 cd, .int .i64 bk, .string tx, .slice p1 l.length c1, .int .i64 txn])
      have HWz := hid (Wr.move HW23.out (puts_kept w3 (w.heap.size + 1 + 1) 0 [.int .i64 id, .int .i64 ep, .bool false, .bool rd, .bool bz, .int .i64 k, .int .i64 v, .int .i64 t, .int .i64 a, .string s, .int .i64 pc, .int .i64 cd, .int .i64 bk, .string tx, .slice p1 l.length c1, .int .i64 txn]) (fun b hb e => by have := Wr.foot_ge HW23.out hb; omega))
      generalize puts w3 (w.heap.size + 1 + 1) 0 [.int .i64 id, .int .i64 ep, .bool false, .bool rd, .bool bz, .int .i64 k, .int .i64 v, .int .i64 t, .int .i64 a, .string s, .int .i64 pc, .int .i64 cd, .int .i64 bk, .string tx, .slice p1 l.length c1, .int .i64 txn] = w9 at *
      go_wp2
      refine bodyPost_ret (results_hb rfl _ _ (w.heap.size + 1 + 1) [.int .i64 id, .int .i64 ep, .bool false, .bool rd, .bool bz, .int .i64 k, .int .i64 v, .int .i64 t, .int .i64 a, .string s, .int .i64 pc, .int .i64 cd, .int .i64 bk, .string tx, .slice p1 l.length c1, .int .i64 txn] _ rfl HRz.out Try.underlying36 rfl (by kernel_rfl)) rfl ?_
      first | exact ⟨p1, ⟨c1, by rw [HD.out]; rfl⟩, by rw [HD.out]; exact HWz.out.mono (by omega), HBz.out⟩ | exact ⟨p1, c1, by rw [HD.out]; rfl, by rw [HD.out]; exact HWz.out.mono (by omega), HBz.out⟩
    | true =>
      cases bz with
      | true =>
        have hne : Nonempty (BW w2) := ⟨⟨w2, Below.refl _ _⟩⟩
        replace k2 := BW.cell k2
        replace k4 := BW.cell k4
        replace k0 := BW.cell k0
        replace o0 := BW.cell o0
        replace o1 := BW.cell o1
        replace o2 := BW.cell o2
        replace o3 := BW.cell o3
        replace o4 := BW.cell o4
        go_upto_region 4 with fail
        refine wp_region_bw (by kernel_rfl) (by kernel_rfl) ?_
        repeat (go_big_quiet_step (first
          | (fail)))
        refine wpQuiet_nil ?_
        intro _ hw'
        obtain ⟨u, rfl⟩ := hw'
        have HN3 := hid (HN.out.below u.bel HN.out.lt)
        have HR23 := hid (HR2.out.below u.bel HR2.out.lt)
        have HC23 := hid (HC2.out.below u.bel HC2.out.lt)
        have HB23 := hid (HB2.out.trans (u.bel.mono HB2.out.size))
        have HW23 := hid (Wr.below HW2.out u.bel)
        have hu3 : w2.heap.size ≤ u.val.heap.size := u.bel.size
        obtain ⟨w3, hw3⟩ : ∃ w3, w3 = u.val := ⟨_, rfl⟩
        rw [← hw3] at HN3 HR23 HC23 HB23 HW23 hu3 ⊢
        clear hw3 k0 k2 k4 o0 o1 o2 o3 o4
        have HD : Hid (callD ⟨id, ep, true, rd, true, k, v, t, a, s, pc, cd, bk, tx, l, txn⟩ K V T A X = (⟨id, ep, true, rd, true, k, v, t, a, s, pc, cd, bk, tx, l, txn⟩, false)) := call_is HQ.out (may_bz rfl)
        go_upto_region 5 with fail
        refine wp_region_list ?_
        refine wpList_load_row rfl 36 _ rfl (w1.heap.size) rfl [.int .i64 id, .int .i64 ep, .bool true, .bool rd, .bool true, .int .i64 k, .int .i64 v, .int .i64 t, .int .i64 a, .string s, .int .i64 pc, .int .i64 cd, .int .i64 bk, .string tx, .slice p1 l.length c1, .int .i64 txn] _ HN3.out Try.underlying36 rfl (by kernel_rfl) ?_
        refine wpList_store_row rfl 36 _ _ rfl (w.heap.size + 1 + 1) rfl _ [.int .i64 id, .int .i64 ep, .bool true, .bool rd, .bool true, .int .i64 k, .int .i64 v, .int .i64 t, .int .i64 a, .string s, .int .i64 pc, .int .i64 cd, .int .i64 bk, .string tx, .slice p1 l.length c1, .int .i64 txn] rfl HR23.out rfl (by kernel_rfl) rfl ?_
        have HRz := hid (puts_row HR23.out 0 [.int .i64 id, .int .i64 ep, .bool true, .bool rd, .bool true, .int .i64 k, .int .i64 v, .int .i64 t, .int .i64 a, .string s, .int .i64 pc, .int .i64 cd, .int .i64 bk, .string tx, .slice p1 l.length c1, .int .i64 txn])
        have HBz := hid (puts_below HB23.out (show w.heap.size ≤ (w.heap.size + 1 + 1) by omega) 0 [.int .i64 id, .int .i64 ep, .bool true, .bool rd, .bool true, .int .i64 k, .int .i64 v, .int .i64 t, .int .i64 a, .string s, .int .i64 pc, .int .i64 cd, .int .i64 bk, .string tx, .slice p1 l.length c1, .int .i64 txn])
        have HWz := hid (Wr.move HW23.out (puts_kept w3 (w.heap.size + 1 + 1) 0 [.int .i64 id, .int .i64 ep, .bool true, .bool rd, .bool true, .int .i64 k, .int .i64 v, .int .i64 t, .int .i64 a, .string s, .int .i64 pc, .int .i64 cd, .int .i64 bk, .string tx, .slice p1 l.length c1, .int .i64 txn]) (fun b hb e => by have := Wr.foot_ge HW23.out hb; omega))
        generalize puts w3 (w.heap.size + 1 + 1) 0 [.int .i64 id, .int .i64 ep, .bool true, .bool rd, .bool true, .int .i64 k, .int .i64 v, .int .i64 t, .int .i64 a, .string s, .int .i64 pc, .int .i64 cd, .int .i64 bk, .string tx, .slice p1 l.length c1, .int .i64 txn] = w9 at *
        go_wp2
        refine bodyPost_ret (results_hb rfl _ _ (w.heap.size + 1 + 1) [.int .i64 id, .int .i64 ep, .bool true, .bool rd, .bool true, .int .i64 k, .int .i64 v, .int .i64 t, .int .i64 a, .string s, .int .i64 pc, .int .i64 cd, .int .i64 bk, .string tx, .slice p1 l.length c1, .int .i64 txn] _ rfl HRz.out Try.underlying36 rfl (by kernel_rfl)) rfl ?_
        first | exact ⟨p1, ⟨c1, by rw [HD.out]; rfl⟩, by rw [HD.out]; exact HWz.out.mono (by omega), HBz.out⟩ | exact ⟨p1, c1, by rw [HD.out]; rfl, by rw [HD.out]; exact HWz.out.mono (by omega), HBz.out⟩
      | false =>
        cases hz : opRight K V T A X with
        | false =>
          have HZ := hid hz
          have hne : Nonempty (BW w2) := ⟨⟨w2, Below.refl _ _⟩⟩
          replace k2 := BW.cell k2
          replace k4 := BW.cell k4
          replace k0 := BW.cell k0
          replace o0 := BW.cell o0
          replace o1 := BW.cell o1
          replace o2 := BW.cell o2
          replace o3 := BW.cell o3
          replace o4 := BW.cell o4
          go_upto_region 4 with fail
          refine wp_region_bw (by kernel_rfl) (by kernel_rfl) ?_
          repeat (go_big_quiet_step (first
            | (fail)
            | (go_at_call 32; refine bw_below (v := .bool false) (hz ▸ iOpOk K V T A X _ hX))))
          refine wpQuiet_nil ?_
          intro _ hw'
          obtain ⟨u, rfl⟩ := hw'
          have HN3 := hid (HN.out.below u.bel HN.out.lt)
          have HR23 := hid (HR2.out.below u.bel HR2.out.lt)
          have HC23 := hid (HC2.out.below u.bel HC2.out.lt)
          have HB23 := hid (HB2.out.trans (u.bel.mono HB2.out.size))
          have HW23 := hid (Wr.below HW2.out u.bel)
          have hu3 : w2.heap.size ≤ u.val.heap.size := u.bel.size
          obtain ⟨w3, hw3⟩ : ∃ w3, w3 = u.val := ⟨_, rfl⟩
          rw [← hw3] at HN3 HR23 HC23 HB23 HW23 hu3 ⊢
          clear hw3 k0 k2 k4 o0 o1 o2 o3 o4 hz
          have HD : Hid (callD ⟨id, ep, true, rd, false, k, v, t, a, s, pc, cd, bk, tx, l, txn⟩ K V T A X = (⟨id, ep, true, rd, false, k, v, t, a, s, pc, cd, bk, tx, l, txn⟩, false)) := call_is HQ.out (may_op HZ.out)
          go_upto_region 5 with fail
          refine wp_region_list ?_
          refine wpList_load_row rfl 36 _ rfl (w1.heap.size) rfl [.int .i64 id, .int .i64 ep, .bool true, .bool rd, .bool false, .int .i64 k, .int .i64 v, .int .i64 t, .int .i64 a, .string s, .int .i64 pc, .int .i64 cd, .int .i64 bk, .string tx, .slice p1 l.length c1, .int .i64 txn] _ HN3.out Try.underlying36 rfl (by kernel_rfl) ?_
          refine wpList_store_row rfl 36 _ _ rfl (w.heap.size + 1 + 1) rfl _ [.int .i64 id, .int .i64 ep, .bool true, .bool rd, .bool false, .int .i64 k, .int .i64 v, .int .i64 t, .int .i64 a, .string s, .int .i64 pc, .int .i64 cd, .int .i64 bk, .string tx, .slice p1 l.length c1, .int .i64 txn] rfl HR23.out rfl (by kernel_rfl) rfl ?_
          have HRz := hid (puts_row HR23.out 0 [.int .i64 id, .int .i64 ep, .bool true, .bool rd, .bool false, .int .i64 k, .int .i64 v, .int .i64 t, .int .i64 a, .string s, .int .i64 pc, .int .i64 cd, .int .i64 bk, .string tx, .slice p1 l.length c1, .int .i64 txn])
          have HBz := hid (puts_below HB23.out (show w.heap.size ≤ (w.heap.size + 1 + 1) by omega) 0 [.int .i64 id, .int .i64 ep, .bool true, .bool rd, .bool false, .int .i64 k, .int .i64 v, .int .i64 t, .int .i64 a, .string s, .int .i64 pc, .int .i64 cd, .int .i64 bk, .string tx, .slice p1 l.length c1, .int .i64 txn])
          have HWz := hid (Wr.move HW23.out (puts_kept w3 (w.heap.size + 1 + 1) 0 [.int .i64 id, .int .i64 ep, .bool true, .bool rd, .bool false, .int .i64 k, .int .i64 v, .int .i64 t, .int .i64 a, .string s, .int .i64 pc, .int .i64 cd, .int .i64 bk, .string tx, .slice p1 l.length c1, .int .i64 txn]) (fun b hb e => by have := Wr.foot_ge HW23.out hb; omega))
          generalize puts w3 (w.heap.size + 1 + 1) 0 [.int .i64 id, .int .i64 ep, .bool true, .bool rd, .bool false, .int .i64 k, .int .i64 v, .int .i64 t, .int .i64 a, .string s, .int .i64 pc, .int .i64 cd, .int .i64 bk, .string tx, .slice p1 l.length c1, .int .i64 txn] = w9 at *
          go_wp2
          refine bodyPost_ret (results_hb rfl _ _ (w.heap.size + 1 + 1) [.int .i64 id, .int .i64 ep, .bool true, .bool rd, .bool false, .int .i64 k, .int .i64 v, .int .i64 t, .int .i64 a, .string s, .int .i64 pc, .int .i64 cd, .int .i64 bk, .string tx, .slice p1 l.length c1, .int .i64 txn] _ rfl HRz.out Try.underlying36 rfl (by kernel_rfl)) rfl ?_
          first | exact ⟨p1, ⟨c1, by rw [HD.out]; rfl⟩, by rw [HD.out]; exact HWz.out.mono (by omega), HBz.out⟩ | exact ⟨p1, c1, by rw [HD.out]; rfl, by rw [HD.out]; exact HWz.out.mono (by omega), HBz.out⟩
        | true =>
          have HZ := hid hz
          have hself := @self_is K V T A id X hz
          cases hb : decide (K = 12 ∧ V = id ∧ T = 0 ∧ A = 0 ∧ X = ⟨#[]⟩) with
          | true =>
            have HSf := hid (hself.1 (of_decide_eq_true hb))
            have heq := eql_is hb
            clear hself hb
            have hne : Nonempty (BW w2) := ⟨⟨w2, Below.refl _ _⟩⟩
            replace k2 := BW.cell k2
            replace k4 := BW.cell k4
            replace k0 := BW.cell k0
            replace o0 := BW.cell o0
            replace o1 := BW.cell o1
            replace o2 := BW.cell o2
            replace o3 := BW.cell o3
            replace o4 := BW.cell o4
            go_upto_region 4 with fail
            refine wp_region_bw (by kernel_rfl) (by kernel_rfl) ?_
            repeat (go_big_quiet_step (first
              | (fail)
              | (go_at_call 32; refine bw_below (v := .bool true) (hz ▸ iOpOk K V T A X _ hX))
              | (go_at_call 33; refine bw_below (v := .agg #[.int .i64 12, .int .i64 id, .int .i64 0, .int .i64 0, .string ⟨#[]⟩]) (iRecover id _))))
            refine wpQuiet_nil ?_
            intro _ hw'
            obtain ⟨u, rfl⟩ := hw'
            have HN3 := hid (HN.out.below u.bel HN.out.lt)
            have HR23 := hid (HR2.out.below u.bel HR2.out.lt)
            have HC23 := hid (HC2.out.below u.bel HC2.out.lt)
            have HB23 := hid (HB2.out.trans (u.bel.mono HB2.out.size))
            have HW23 := hid (Wr.below HW2.out u.bel)
            have hu3 : w2.heap.size ≤ u.val.heap.size := u.bel.size
            obtain ⟨w3, hw3⟩ : ∃ w3, w3 = u.val := ⟨_, rfl⟩
            rw [← hw3] at HN3 HR23 HC23 HB23 HW23 hu3 ⊢
            clear hw3 k0 k2 k4 o0 o1 o2 o3 o4 hz heq
            have HD : Hid (callD ⟨id, ep, true, rd, false, k, v, t, a, s, pc, cd, bk, tx, l, txn⟩ K V T A X = (⟨id, ep, true, rd, false, k, v, t, a, s, pc, cd, bk, tx, l, txn⟩, false)) := call_is HQ.out (may_self HSf.out)
            go_upto_region 5 with fail
            refine wp_region_list ?_
            refine wpList_load_row rfl 36 _ rfl (w1.heap.size) rfl [.int .i64 id, .int .i64 ep, .bool true, .bool rd, .bool false, .int .i64 k, .int .i64 v, .int .i64 t, .int .i64 a, .string s, .int .i64 pc, .int .i64 cd, .int .i64 bk, .string tx, .slice p1 l.length c1, .int .i64 txn] _ HN3.out Try.underlying36 rfl (by kernel_rfl) ?_
            refine wpList_store_row rfl 36 _ _ rfl (w.heap.size + 1 + 1) rfl _ [.int .i64 id, .int .i64 ep, .bool true, .bool rd, .bool false, .int .i64 k, .int .i64 v, .int .i64 t, .int .i64 a, .string s, .int .i64 pc, .int .i64 cd, .int .i64 bk, .string tx, .slice p1 l.length c1, .int .i64 txn] rfl HR23.out rfl (by kernel_rfl) rfl ?_
            have HRz := hid (puts_row HR23.out 0 [.int .i64 id, .int .i64 ep, .bool true, .bool rd, .bool false, .int .i64 k, .int .i64 v, .int .i64 t, .int .i64 a, .string s, .int .i64 pc, .int .i64 cd, .int .i64 bk, .string tx, .slice p1 l.length c1, .int .i64 txn])
            have HBz := hid (puts_below HB23.out (show w.heap.size ≤ (w.heap.size + 1 + 1) by omega) 0 [.int .i64 id, .int .i64 ep, .bool true, .bool rd, .bool false, .int .i64 k, .int .i64 v, .int .i64 t, .int .i64 a, .string s, .int .i64 pc, .int .i64 cd, .int .i64 bk, .string tx, .slice p1 l.length c1, .int .i64 txn])
            have HWz := hid (Wr.move HW23.out (puts_kept w3 (w.heap.size + 1 + 1) 0 [.int .i64 id, .int .i64 ep, .bool true, .bool rd, .bool false, .int .i64 k, .int .i64 v, .int .i64 t, .int .i64 a, .string s, .int .i64 pc, .int .i64 cd, .int .i64 bk, .string tx, .slice p1 l.length c1, .int .i64 txn]) (fun b hb e => by have := Wr.foot_ge HW23.out hb; omega))
            generalize puts w3 (w.heap.size + 1 + 1) 0 [.int .i64 id, .int .i64 ep, .bool true, .bool rd, .bool false, .int .i64 k, .int .i64 v, .int .i64 t, .int .i64 a, .string s, .int .i64 pc, .int .i64 cd, .int .i64 bk, .string tx, .slice p1 l.length c1, .int .i64 txn] = w9 at *
            go_wp2
            refine bodyPost_ret (results_hb rfl _ _ (w.heap.size + 1 + 1) [.int .i64 id, .int .i64 ep, .bool true, .bool rd, .bool false, .int .i64 k, .int .i64 v, .int .i64 t, .int .i64 a, .string s, .int .i64 pc, .int .i64 cd, .int .i64 bk, .string tx, .slice p1 l.length c1, .int .i64 txn] _ rfl HRz.out Try.underlying36 rfl (by kernel_rfl)) rfl ?_
            first | exact ⟨p1, ⟨c1, by rw [HD.out]; rfl⟩, by rw [HD.out]; exact HWz.out.mono (by omega), HBz.out⟩ | exact ⟨p1, c1, by rw [HD.out]; rfl, by rw [HD.out]; exact HWz.out.mono (by omega), HBz.out⟩
          | false =>
            have HD : Hid (callD ⟨id, ep, true, rd, false, k, v, t, a, s, pc, cd, bk, tx, l, txn⟩ K V T A X = (⟨id, ep, true, rd, true, K, V, T, A, X, pc, cd, bk, tx, l, txn⟩, true)) := call_on HQ.out (may_yes rfl rfl HZ.out (fun e => of_decide_eq_false hb (hself.2 e)))
            have heq := eql_is hb
            clear hself hb
            have hne : Nonempty (BW w2) := ⟨⟨w2, Below.refl _ _⟩⟩
            replace k2 := BW.cell k2
            replace k4 := BW.cell k4
            replace k0 := BW.cell k0
            replace o0 := BW.cell o0
            replace o1 := BW.cell o1
            replace o2 := BW.cell o2
            replace o3 := BW.cell o3
            replace o4 := BW.cell o4
            go_upto_region 4 with fail
            refine wp_region_bw (by kernel_rfl) (by kernel_rfl) ?_
            repeat (go_big_quiet_step (first
              | (fail)
              | (go_at_call 32; refine bw_below (v := .bool true) (hz ▸ iOpOk K V T A X _ hX))
              | (go_at_call 33; refine bw_below (v := .agg #[.int .i64 12, .int .i64 id, .int .i64 0, .int .i64 0, .string ⟨#[]⟩]) (iRecover id _))))
            refine wpQuiet_nil ?_
            intro _ hw'
            obtain ⟨u, rfl⟩ := hw'
            have HN3 := hid (HN.out.below u.bel HN.out.lt)
            have HR23 := hid (HR2.out.below u.bel HR2.out.lt)
            have HC23 := hid (HC2.out.below u.bel HC2.out.lt)
            have HB23 := hid (HB2.out.trans (u.bel.mono HB2.out.size))
            have HW23 := hid (Wr.below HW2.out u.bel)
            have hu3 : w2.heap.size ≤ u.val.heap.size := u.bel.size
            obtain ⟨w3, hw3⟩ : ∃ w3, w3 = u.val := ⟨_, rfl⟩
            rw [← hw3] at HN3 HR23 HC23 HB23 HW23 hu3 ⊢
            clear hw3 k0 k2 k4 o0 o1 o2 o3 o4 hz heq
            have o0 := HC23.out.c 0 rfl
            have o1 := HC23.out.c 1 rfl
            have o2 := HC23.out.c 2 rfl
            have o3 := HC23.out.c 3 rfl
            have o4 := HC23.out.c 4 rfl
            have k4 := HN3.out.c 4 rfl
            have k5 := HN3.out.c 5 rfl
            have k6 := HN3.out.c 6 rfl
            have k7 := HN3.out.c 7 rfl
            have k8 := HN3.out.c 8 rfl
            have k9 := HN3.out.c 9 rfl
            have f4 := HN3.out.f 4
            have f5 := HN3.out.f 5
            have f6 := HN3.out.f 6
            have f7 := HN3.out.f 7
            have f8 := HN3.out.f 8
            have f9 := HN3.out.f 9
            have HNx := hid (puts_row HN3.out 4 [.bool true, .int .i64 K, .int .i64 V, .int .i64 T, .int .i64 A, .string X])
            have HRx := hid (puts_other HR23.out (show (w.heap.size + 1 + 1) ≠ w1.heap.size by omega) 4 [.bool true, .int .i64 K, .int .i64 V, .int .i64 T, .int .i64 A, .string X])
            have HBx := hid (puts_below HB23.out (show w.heap.size ≤ w1.heap.size by omega) 4 [.bool true, .int .i64 K, .int .i64 V, .int .i64 T, .int .i64 A, .string X])
            have HWx := hid (Wr.move HW23.out (puts_kept w3 (w1.heap.size) 4 [.bool true, .int .i64 K, .int .i64 V, .int .i64 T, .int .i64 A, .string X]) (fun b hb e => by have := HFw.out b hb; omega))
            obtain ⟨w4, hw4⟩ : ∃ w4, puts w3 (w1.heap.size) 4 [.bool true, .int .i64 K, .int .i64 V, .int .i64 T, .int .i64 A, .string X] = w4 := ⟨_, rfl⟩
            rw [hw4] at HNx HRx HBx HWx
            have hw4' : ((((((w3.setCell ⟨w1.heap.size, 4, none⟩ (.bool true)).setCell ⟨w1.heap.size, 5, none⟩ (.int .i64 K)).setCell ⟨w1.heap.size, 6, none⟩ (.int .i64 V)).setCell ⟨w1.heap.size, 7, none⟩ (.int .i64 T)).setCell ⟨w1.heap.size, 8, none⟩ (.int .i64 A)).setCell ⟨w1.heap.size, 9, none⟩ (.string X)) = w4 := hw4
            clear hw4
            have hne : w.heap.size + 1 ≠ w1.heap.size := by omega
            go_upto_region 8 with fail
            try simp only [hw4']
            clear hw4' k4 k5 k6 k7 k8 k9 f4 f5 f6 f7 f8 f9 o0 o1 o2 o3 o4
            go_upto_region 8 with fail
            refine wp_region_list ?_
            refine wpList_load_row rfl 36 _ rfl (w1.heap.size) rfl [.int .i64 id, .int .i64 ep, .bool true, .bool rd, .bool true, .int .i64 K, .int .i64 V, .int .i64 T, .int .i64 A, .string X, .int .i64 pc, .int .i64 cd, .int .i64 bk, .string tx, .slice p1 l.length c1, .int .i64 txn] _ HNx.out Try.underlying36 rfl (by kernel_rfl) ?_
            refine wpList_store_row rfl 36 _ _ rfl (w.heap.size + 1 + 1) rfl _ [.int .i64 id, .int .i64 ep, .bool true, .bool rd, .bool true, .int .i64 K, .int .i64 V, .int .i64 T, .int .i64 A, .string X, .int .i64 pc, .int .i64 cd, .int .i64 bk, .string tx, .slice p1 l.length c1, .int .i64 txn] rfl HRx.out rfl (by kernel_rfl) rfl ?_
            have HRz := hid (puts_row HRx.out 0 [.int .i64 id, .int .i64 ep, .bool true, .bool rd, .bool true, .int .i64 K, .int .i64 V, .int .i64 T, .int .i64 A, .string X, .int .i64 pc, .int .i64 cd, .int .i64 bk, .string tx, .slice p1 l.length c1, .int .i64 txn])
            have HBz := hid (puts_below HBx.out (show w.heap.size ≤ (w.heap.size + 1 + 1) by omega) 0 [.int .i64 id, .int .i64 ep, .bool true, .bool rd, .bool true, .int .i64 K, .int .i64 V, .int .i64 T, .int .i64 A, .string X, .int .i64 pc, .int .i64 cd, .int .i64 bk, .string tx, .slice p1 l.length c1, .int .i64 txn])
            have HWz := hid (Wr.move HWx.out (puts_kept w4 (w.heap.size + 1 + 1) 0 [.int .i64 id, .int .i64 ep, .bool true, .bool rd, .bool true, .int .i64 K, .int .i64 V, .int .i64 T, .int .i64 A, .string X, .int .i64 pc, .int .i64 cd, .int .i64 bk, .string tx, .slice p1 l.length c1, .int .i64 txn]) (fun b hb e => by have := Wr.foot_ge HWx.out hb; omega))
            generalize puts w4 (w.heap.size + 1 + 1) 0 [.int .i64 id, .int .i64 ep, .bool true, .bool rd, .bool true, .int .i64 K, .int .i64 V, .int .i64 T, .int .i64 A, .string X, .int .i64 pc, .int .i64 cd, .int .i64 bk, .string tx, .slice p1 l.length c1, .int .i64 txn] = w9 at *
            go_wp2
            refine bodyPost_ret (results_hb rfl _ _ (w.heap.size + 1 + 1) [.int .i64 id, .int .i64 ep, .bool true, .bool rd, .bool true, .int .i64 K, .int .i64 V, .int .i64 T, .int .i64 A, .string X, .int .i64 pc, .int .i64 cd, .int .i64 bk, .string tx, .slice p1 l.length c1, .int .i64 txn] _ rfl HRz.out Try.underlying36 rfl (by kernel_rfl)) rfl ?_
            first | exact ⟨p1, ⟨c1, by rw [HD.out]; rfl⟩, by rw [HD.out]; exact HWz.out.mono (by omega), HBz.out⟩ | exact ⟨p1, c1, by rw [HD.out]; rfl, by rw [HD.out]; exact HWz.out.mono (by omega), HBz.out⟩

end Go.Proofs.Ytllgjoflhjnnaaa.Pl
