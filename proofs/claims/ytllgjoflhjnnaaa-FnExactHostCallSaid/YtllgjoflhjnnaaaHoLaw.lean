/-
  The walk of laws.FnExactHostOk: the law answers true, and nothing that was there is changed. No condition.
-/
import Derived.Test.YtllgjoflhjnnaaaHoOk2
import Derived.Test.YtllgjoflhjnnaaaHoOk6
import Derived.Test.YtllgjoflhjnnaaaHo2
import Derived.Test.YtllgjoflhjnnaaaLawReg
import Derived.Deep.DeepCutAuto
namespace Go.Proofs.Ytllgjoflhjnnaaa.Pl
open Go.RowKit Go.Proofs.Ytllgjoflhjnnaaa.Mem Go.Proofs.Ytllgjoflhjnnaaa.Sec
set_option linter.unusedVariables false

def hoL (H : Ho) (p : Option Addr) (c : Nat) : List Value := [.int .i64 H.id, .int .i64 H.ep, .bool H.up, .bool H.rd, .bool H.bz, .int .i64 H.k, .int .i64 H.v, .int .i64 H.t, .int .i64 H.a, .string H.s, .int .i64 H.pc, .int .i64 H.cd, .int .i64 H.bk, .string H.tx, .slice p H.l.length c, .int .i64 H.txn]

theorem call_toHost (vs : Array Value) (w : World) : (callFunc 7 vs).run Try.prog w = .ok (.enter 7 vs) w := by simp [go_sem]
theorem call_eqHost (vs : Array Value) (w : World) : (callFunc 9 vs).run Try.prog w = .ok (.enter 9 vs) w := by simp [go_sem]

set_option maxRecDepth 100000 in
set_option maxHeartbeats 8000000 in
theorem lawHostOk (w : World) (H : Ho) (p : Option Addr) (c : Nat) (S : Ous w p H.l) (hh : H.Upto maxLen) :
    Calls Try.prog 3 #[hoV H p c] w fun e w' => e = .returned (.bool true) ∧ Below w.heap.size w w' := by
  have HS := hid S
  have HH := hid hh
  clear S hh
  have HV : Hid (hoV H p c = .agg #[.int .i64 H.id, .int .i64 H.ep, .bool H.up, .bool H.rd, .bool H.bz, .int .i64 H.k, .int .i64 H.v, .int .i64 H.t, .int .i64 H.a, .string H.s, .int .i64 H.pc, .int .i64 H.cd, .int .i64 H.bk, .string H.tx, .slice p H.l.length c, .int .i64 H.txn]) := rfl
  rw [HV.out]
  obtain ⟨wa, hwa, ez, A0, B0⟩ := one_new w [.int .i64 H.id, .int .i64 H.ep, .bool H.up, .bool H.rd, .bool H.bz, .int .i64 H.k, .int .i64 H.v, .int .i64 H.t, .int .i64 H.a, .string H.s, .int .i64 H.pc, .int .i64 H.cd, .int .i64 H.bk, .string H.tx, .slice p H.l.length c, .int .i64 H.txn] 28
  have HA := hid A0
  have HB := hid B0
  have k0 := A0.c 0 rfl
  have k1 := A0.c 1 rfl
  have k2 := A0.c 2 rfl
  have k3 := A0.c 3 rfl
  have k4 := A0.c 4 rfl
  have k5 := A0.c 5 rfl
  have k6 := A0.c 6 rfl
  have k7 := A0.c 7 rfl
  have k8 := A0.c 8 rfl
  have k9 := A0.c 9 rfl
  have k10 := A0.c 10 rfl
  have k11 := A0.c 11 rfl
  have k12 := A0.c 12 rfl
  have k13 := A0.c 13 rfl
  have k14 := A0.c 14 rfl
  have k15 := A0.c 15 rfl
  clear A0 B0 ez
  go_enter Try.func3, Try.ntmps3
  go_wp2_with fail
  try simp only [hwa]
  clear hwa
  rw [← HV.out]
  refine (szHost wa H p c 1048576 (HS.out.below HB.out) HH.out (by decide) (by decide)).mono ?_
  rintro e w1 ⟨r, rfl, b1, hf⟩
  have HA1 := hid (HA.out.below b1 HA.out.lt)
  have HB1 := hid (HB.out.trans (b1.mono HB.out.size))
  clear k0 k1 k2 k3 k4 k5 k6 k7 k8 k9 k10 k11 k12 k13 k14 k15
  clear b1 HA HB
  by_cases hr : r < 0
  · clear hf
    go_wp2
    go_ret
    exact ⟨rfl, HB1.out⟩
  have hU : H.Upto 1048576 := by
    rcases hf with h | h
    · omega
    · exact h.2.2
  have HU := hid hU
  clear hf hU
  have k0 := HA1.out.c 0 rfl
  have k1 := HA1.out.c 1 rfl
  have k2 := HA1.out.c 2 rfl
  have k3 := HA1.out.c 3 rfl
  have k4 := HA1.out.c 4 rfl
  have k5 := HA1.out.c 5 rfl
  have k6 := HA1.out.c 6 rfl
  have k7 := HA1.out.c 7 rfl
  have k8 := HA1.out.c 8 rfl
  have k9 := HA1.out.c 9 rfl
  have k10 := HA1.out.c 10 rfl
  have k11 := HA1.out.c 11 rfl
  have k12 := HA1.out.c 12 rfl
  have k13 := HA1.out.c 13 rfl
  have k14 := HA1.out.c 14 rfl
  have k15 := HA1.out.c 15 rfl
  go_wp2_with fail
  rw [← HV.out]
  refine (toHost w1 H p c (HS.out.below HB1.out) HU.out.l).mono ?_
  rintro e w2 ⟨g2, rfl, hg2, hl2, S2, b2⟩
  have HA2 := hid (HA1.out.below b2 HA1.out.lt)
  have HB2 := hid (HB1.out.trans (b2.mono HB1.out.size))
  have HS2 := hid S2
  clear k0 k1 k2 k3 k4 k5 k6 k7 k8 k9 k10 k11 k12 k13 k14 k15
  clear b2 S2 HA1 HB1 hg2 hl2
  go_wp2_with fail
  refine (sHostOk w2 H _ _ HS2.out.sl HU.out).mono ?_
  rintro e w3 ⟨rfl, b3⟩
  have HA3 := hid (HA2.out.below b3 HA2.out.lt)
  have HB3 := hid (HB2.out.trans (b3.mono HB2.out.size))
  generalize hq : H.ok = q
  have HQ := hid hq
  clear b3 HA2 HB2 HS2 hq
  go_upto_region 6 with fail
  refine region_box rfl rfl rfl rfl rfl 28 _ rfl w.heap.size _ _ rfl HA3.out Try.underlying28 rfl (by kernel_rfl) 7 _ _ rfl call_toHost rfl [.int .i64 0, .int .i64 0, .bool false, .bool false, .bool false, .int .i64 0, .int .i64 0, .int .i64 0, .int .i64 0, .string ⟨#[]⟩, .int .i64 0, .int .i64 0, .int .i64 0, .string ⟨#[]⟩, .slice none 0 0, .int .i64 0] 36 (fun ρ w => by unfold execOp; simp [go_sem]) 36 _ _ rfl (by kernel_rfl) (fun _ _ => rfl) (fun _ _ => rfl) (fun cs w' => ∃ g, cs = hoL H (some ⟨g, 0, none⟩) H.l.length ∧ OusW w' w3.heap.size (some ⟨g, 0, none⟩) H.l) ?_ ?_
  · refine (toHost w3 H p c (HS.out.below HB3.out) HU.out.l).mono ?_
    rintro e w4 ⟨g4, rfl, hg4, hl4, S4, b4⟩
    exact ⟨hoL H (some ⟨g4, 0, none⟩) H.l.length, rfl, rfl, rfl, ⟨g4, rfl, S4⟩, b4⟩
  rintro cs w4 wx ⟨g4, rfl, S4⟩ b4 X0 BX
  have HX := hid X0
  have HAx := hid ((HA3.out.below b4 HA3.out.lt).below BX (HA3.out.below b4 HA3.out.lt).lt)
  have HBx := hid ((HB3.out.trans (b4.mono HB3.out.size)).trans (BX.mono (HB3.out.trans (b4.mono HB3.out.size)).size))
  have HSx := hid (S4.sl.below BX)
  have HV4 : Hid (.agg (hoL H (some ⟨g4, 0, none⟩) H.l.length).toArray = hoV H (some ⟨g4, 0, none⟩) H.l.length) := rfl
  clear b4 S4 HA3 HB3 BX
  rw [HV4.out]
  have HX' : Hid (Row wx w4.heap.size [.int .i64 H.id, .int .i64 H.ep, .bool H.up, .bool H.rd, .bool H.bz, .int .i64 H.k, .int .i64 H.v, .int .i64 H.t, .int .i64 H.a, .string H.s, .int .i64 H.pc, .int .i64 H.cd, .int .i64 H.bk, .string H.tx, .slice (some ⟨g4, 0, none⟩) H.l.length H.l.length, .int .i64 H.txn]) := X0
  have y0 := X0.c 0 rfl
  have y1 := X0.c 1 rfl
  have y2 := X0.c 2 rfl
  have y3 := X0.c 3 rfl
  have y4 := X0.c 4 rfl
  have y5 := X0.c 5 rfl
  have y6 := X0.c 6 rfl
  have y7 := X0.c 7 rfl
  have y8 := X0.c 8 rfl
  have y9 := X0.c 9 rfl
  have y10 := X0.c 10 rfl
  have y11 := X0.c 11 rfl
  have y12 := X0.c 12 rfl
  have y13 := X0.c 13 rfl
  have y14 := X0.c 14 rfl
  have y15 := X0.c 15 rfl
  clear X0
  go_wp2_with fail
  rw [← show hoV H (some ⟨g4, 0, none⟩) H.l.length = .agg #[.int .i64 H.id, .int .i64 H.ep, .bool H.up, .bool H.rd, .bool H.bz, .int .i64 H.k, .int .i64 H.v, .int .i64 H.t, .int .i64 H.a, .string H.s, .int .i64 H.pc, .int .i64 H.cd, .int .i64 H.bk, .string H.tx, .slice (some ⟨g4, 0, none⟩) H.l.length H.l.length, .int .i64 H.txn] from rfl]
  refine (iHostOk wx H _ _ HSx.out HU.out).mono ?_
  rintro e w5 ⟨rfl, b5⟩
  rw [HQ.out]
  have HA5 := hid (HAx.out.below b5 HAx.out.lt)
  have HX5 := hid (HX.out.below b5 HX.out.lt)
  have HB5 := hid (HBx.out.trans (b5.mono HBx.out.size))
  have HS5 := hid (HSx.out.below b5)
  clear y0 y1 y2 y3 y4 y5 y6 y7 y8 y9 y10 y11 y12 y13 y14 y15
  clear b5 HAx HX HBx HSx HX'
  go_upto_region 10 with fail
  refine region_eq (by kernel_rfl) rfl rfl rfl rfl rfl rfl rfl rfl rfl rfl rfl (by kernel_rfl) (by kernel_rfl) (by kernel_rfl) (by kernel_rfl) (by kernel_rfl) (by kernel_rfl) (by kernel_rfl) (by kernel_rfl) (by kernel_rfl) (fun _ _ _ _ h => h) (fun _ _ _ _ h => h)
    36 _ rfl w4.heap.size _ _ rfl HX5.out Try.underlying36 rfl (by kernel_rfl)
    28 _ rfl w.heap.size _ _ rfl HA5.out Try.underlying28 rfl (by kernel_rfl)
    7 _ _ rfl call_toHost rfl 9 _ _ _ rfl call_eqHost (fun _ => rfl) (fun _ => rfl) 4 _ rfl (fun _ => rfl)
    (fun V w' => ∃ g, V = hoV H (some ⟨g, 0, none⟩) H.l.length ∧ Ous w' (some ⟨g, 0, none⟩) H.l) ?_ ?_ ?_
  · intro w' hb
    refine (toHost w' H p c (HS.out.below (HB5.out.trans (hb.mono HB5.out.size))) HU.out.l).mono ?_
    rintro e w6 ⟨g6, rfl, hg6, hl6, S6, b6⟩
    exact ⟨_, rfl, ⟨g6, rfl, S6.sl⟩, b6⟩
  · rintro V w' hb ⟨g6, rfl, S6⟩
    exact eqHost w' H _ _ _ _ (HS5.out.below hb) S6 HU.out.max.l
  · intro V w7 hb
    have HB7 := hid (HB5.out.trans (hb.mono HB5.out.size))
    clear hb
    go_wp2
    go_ret
    exact ⟨rfl, HB7.out⟩

end Go.Proofs.Ytllgjoflhjnnaaa.Pl
