/-
  The walks of laws.markJournal, laws.heldJournal and laws.FnExactReadJournal: the law answers true, and nothing that was there is changed. Condition: the table of sixteen sums and the error of a part that lacks stand in their variables.
-/
import Derived.Test.YtfbnnhgaedficafDoorRdJn6
import Derived.Test.YtfbnnhgaedficafDoorRdJn7
import Derived.Test.YtfbnnhgaedficafDoorRdJn8
namespace Go.Proofs.YtfbnnhgaedficafDoor.Rd
open Go.RowKit Go.Proofs.YtfbnnhgaedficafDoor.Mem Go.Proofs.YtfbnnhgaedficafDoor.Sec
set_option linter.unusedVariables false

theorem jnV_is (J : Jn) (ad : Option Addr) (cap : Nat) : jnV J ad cap = .agg #[.int .i64 J.txn, .bool J.done, .int .i64 J.kind, .int .i64 J.vol, .int .i64 J.to, .int .i64 J.at_, .string J.text, .slice ad J.outs.length cap] := rfl

set_option maxRecDepth 100000 in
set_option maxHeartbeats 1000000 in
theorem markJournal (w : World) (B : Nat) (J : Jn) (a : Option Addr) (cap k : Nat) (f : Nat → Value) (S : Wr w B a (J.outs.length * 2) f) (hk : 0 < k) (hb : k + J.outs.length * 2 ≤ 1048576) :
    Calls Tryd.prog 23 #[jnV J a cap, .int .i64 (k : Int)] w fun r w' => r = .returned (.int .i64 ((k + J.outs.length * 2 : Nat) : Int)) ∧ Wr w' B a (J.outs.length * 2) (mkO k) ∧ Kept (foot a (J.outs.length * 2)) w w' := by
  rw [jnV_is]
  have HS := hid S
  clear S
  obtain ⟨wa, hwa, ez, A0, B0⟩ := one_new w [.int .i64 J.txn, .bool J.done, .int .i64 J.kind, .int .i64 J.vol, .int .i64 J.to, .int .i64 J.at_, .string J.text, .slice a J.outs.length cap] 41
  have k2 := A0.c 7 rfl
  have HB := hid B0
  clear A0 B0
  go_enter Tryd.func23, Tryd.ntmps23
  go_wp2_with fail
  refine (markOutS wa B a J.outs.length cap k f (HS.out.below HB.out) hk hb).mono ?_
  rintro r w1 ⟨rfl, hW, k1⟩
  have HW := hid hW
  have HK : Hid (Kept (foot a (J.outs.length * 2)) w w1) := ((Kept.of_below (S := fun _ => False) HB.out).trans k1).mono (fun b _ x => by rcases x with x | x; cases x; exact x)
  clear hwa hW k1 k2 HS HB
  obtain ⟨m, hm⟩ : ∃ m : Nat, m = k + J.outs.length * 2 := ⟨_, rfl⟩
  have HMe := hid hm
  rw [← hm]
  clear hm
  go_wp2
  go_ret
  exact ⟨by rw [← HMe.out]; rfl, HW.out, HK.out⟩

set_option maxRecDepth 100000 in
set_option maxHeartbeats 1000000 in
theorem heldJournal (w : World) (J : Jn) (a : Option Addr) (cap k : Nat) (S : Sl w a (J.outs.length * 2) (mkO k)) (hk : 0 < k) (hb : k + J.outs.length * 2 ≤ 1048576) :
    Calls Tryd.prog 24 #[jnV J a cap, .int .i64 (k : Int)] w fun r w' => r = .returned (.int .i64 ((k + J.outs.length * 2 : Nat) : Int)) ∧ Below w.heap.size w w' := by
  rw [jnV_is]
  have HS := hid S
  clear S
  obtain ⟨wa, hwa, ez, A0, B0⟩ := one_new w [.int .i64 J.txn, .bool J.done, .int .i64 J.kind, .int .i64 J.vol, .int .i64 J.to, .int .i64 J.at_, .string J.text, .slice a J.outs.length cap] 41
  have k2 := A0.c 7 rfl
  have HB := hid B0
  clear A0 B0
  go_enter Tryd.func24, Tryd.ntmps24
  go_wp2_with fail
  refine (heldOutS wa a J.outs.length cap k (HS.out.below HB.out) hk hb).mono ?_
  rintro r w1 ⟨rfl, b1⟩
  have HB1 := hid (HB.out.trans (b1.mono HB.out.size))
  obtain ⟨m, hm⟩ : ∃ m : Nat, m = k + J.outs.length * 2 := ⟨_, rfl⟩
  have hm1 : ¬ ((m : Int) < 0) := by omega
  have HMe := hid hm
  rw [← hm]
  clear hwa b1 k2 HS HB hm
  go_wp2
  go_ret
  exact ⟨by rw [← HMe.out]; rfl, HB1.out⟩

theorem jis_alike {R : ByteArray → Int × Nat} {s : ByteArray} {J J' : Jn} {ok ok' : Bool} (q : JnIs R s J ok) (q' : JnIs R s J' ok') : J = J' ∧ ok = ok' := by
  rcases q with ⟨q, _, rfl⟩ | ⟨q, rfl, rfl⟩ <;> rcases q' with ⟨q', _, rfl⟩ | ⟨q', rfl, rfl⟩ <;> rw [q] at q' <;> simp_all

theorem jis_len {R : ByteArray → Int × Nat} {s : ByteArray} {J : Jn} {ok : Bool} (q : JnIs R s J ok) : J.outs.length ≤ 8 := by
  rcases q with ⟨_, q, _⟩ | ⟨_, rfl, _⟩
  · exact q
  · simp [JZ]

set_option maxRecDepth 100000 in
set_option maxHeartbeats 2000000 in
theorem lawReadJournal (s : ByteArray) (hs : s.size ≤ maxLen) (w : World) (u : TypeId) (pv : Value) (hL : Lacks w u pv) (T : Sums w) :
    Calls Tryd.prog 6 #[.string s] w fun e w' => e = .returned (.bool true) ∧ Below w.heap.size w w' := by
  unfold maxLen at hs
  by_cases hg : 1048576 < (s.size : Int)
  · go_enter Tryd.func6, Tryd.ntmps6
    go_wp2
    go_ret
    exact ⟨rfl, Below.refl _ _⟩
  obtain ⟨R, hR, hTx⟩ := reads_ex2
  have HR := hid hR
  have HTx := hid hTx
  have HL := hid hL
  have HT := hid T
  have hs' : s.size ≤ 1048576 := by omega
  clear hR hL T hTx
  go_enter Tryd.func6, Tryd.ntmps6
  go_wp2_with fail
  refine (sReadJournal R HR.out s hs' w).mono ?_
  rintro e w1 ⟨J, a, cap, ok, ho, rfl, hI, b1⟩
  have HO := hid ho
  have hlen : J.outs.length ≤ 8 := jis_len ho
  have HM : Hid (J.outs.length ≤ maxLen) := by unfold Hid maxLen; omega
  have HB1 := hid b1
  obtain ⟨a', cap', ea, hW⟩ := Or2.w hI
  cases ea
  have HS1 := hid (Wr.sl hW)
  have HF1 : Hid (∀ b, foot a (J.outs.length * 2) b → b < w1.heap.size) := fun b hb => (Wr.sl hW).lt hb
  clear ho hI b1 hW
  rw [jnV_is]
  go_wp2_with fail
  obtain ⟨wx, hwx, ex, X0, BX⟩ := one_new w1 [.int .i64 J.txn, .bool J.done, .int .i64 J.kind, .int .i64 J.vol, .int .i64 J.to, .int .i64 J.at_, .string J.text, .slice a J.outs.length cap] 41
  simp only [hwx]
  have HX := hid X0
  have HBx := hid (HB1.out.trans (BX.mono HB1.out.size))
  have HSx : Hid (Ous wx a J.outs) := Sl.below HS1.out BX
  clear hwx X0 BX HS1
  refine (iReadJournal R HR.out s hs' (no_flagJn R HR.out HTx.out s hs') wx u pv (HL.out.kept (Kept.of_below (S := fun _ => False) HBx.out) (fun x => x)) (HT.out.below HBx.out)).mono ?_
  rintro e w2 ⟨J1, a1, cap1, ok1, ho1, rfl, hI1, b2⟩
  obtain ⟨rfl, rfl⟩ := jis_alike HO.out ho1
  have HB2 := hid (HBx.out.trans (b2.mono HBx.out.size))
  have HX2 := hid (HX.out.below b2 HX.out.lt)
  have hxl := HX.out.lt
  have hxs := b2.size
  have HS12 : Hid (Ous w2 a J.outs) := Sl.below HSx.out b2
  obtain ⟨a1', cap1', ea, hW1⟩ := Or2.w hI1
  cases ea
  have HW2 := hid hW1
  have HF2 : Hid (∀ b, foot a1 (J.outs.length * 2) b → b < w2.heap.size) := fun b hb => (Wr.sl hW1).lt hb
  clear ho1 hI1 b2 hW1 HX HSx
  rw [jnV_is]
  obtain ⟨wy, hwy, ey, Y0, BY⟩ := one_new w2 [.int .i64 J.txn, .bool J.done, .int .i64 J.kind, .int .i64 J.vol, .int .i64 J.to, .int .i64 J.at_, .string J.text, .slice a1 J.outs.length cap1] 41
  have HY := hid Y0
  have HBy := hid (HB2.out.trans (BY.mono HB2.out.size))
  have HXy := hid (HX2.out.below BY HX2.out.lt)
  have HSy : Hid (Ous wy a J.outs) := Sl.below HS12.out BY
  have HWy : Hid (OusW wy wx.heap.size a1 J.outs) := Wr.below HW2.out BY
  clear Y0 BY HX2 HS12 HW2
  have k0 := HXy.out.c 0 rfl
  have k1 := HXy.out.c 1 rfl
  have k2 := HXy.out.c 2 rfl
  have k3 := HXy.out.c 3 rfl
  have k4 := HXy.out.c 4 rfl
  have k5 := HXy.out.c 5 rfl
  have k6 := HXy.out.c 6 rfl
  have k7 := HXy.out.c 7 rfl
  have y0 := HY.out.c 0 rfl
  have y1 := HY.out.c 1 rfl
  have y2 := HY.out.c 2 rfl
  have y3 := HY.out.c 3 rfl
  have y4 := HY.out.c 4 rfl
  have y5 := HY.out.c 5 rfl
  have y6 := HY.out.c 6 rfl
  have y7 := HY.out.c 7 rfl
  go_wp2_with fail
  clear k0 k1 k2 k3 k4 k5 k6 k7 y0 y1 y2 y3 y4 y5 y6 y7 hwy
  refine (eqJournal wy J a1 a cap1 cap (Wr.sl HWy.out) HSy.out HM.out).mono ?_
  rintro e w3 ⟨rfl, b3⟩
  have HB3 := hid (HBy.out.trans (b3.mono HBy.out.size))
  have HX3 := hid (HXy.out.below b3 HXy.out.lt)
  have HY3 := hid (HY.out.below b3 HY.out.lt)
  have HS3 : Hid (Ous w3 a J.outs) := Sl.below HSy.out b3
  have HW3 : Hid (OusW w3 wx.heap.size a1 J.outs) := Wr.below HWy.out b3
  clear b3 HBy HXy HY HSy HWy
  have y0 := HY3.out.c 0 rfl
  have y1 := HY3.out.c 1 rfl
  have y2 := HY3.out.c 2 rfl
  have y3 := HY3.out.c 3 rfl
  have y4 := HY3.out.c 4 rfl
  have y5 := HY3.out.c 5 rfl
  have y6 := HY3.out.c 6 rfl
  have y7 := HY3.out.c 7 rfl
  go_wp2_with fail
  refine (markJournal w3 wx.heap.size J a1 cap1 1 _ HW3.out (by decide) (by omega)).mono ?_
  rintro e w4 ⟨rfl, hW4, k4⟩
  have hge : ∀ b, foot a1 (J.outs.length * 2) b → wx.heap.size ≤ b := fun b hb => Wr.foot_ge HW3.out hb
  have HB4 : Hid (Below w.heap.size w w4) := HB3.out.trans (k4.below HB3.out.size (fun b hb x => by have := hge b x; have := HBx.out.size; omega))
  have HX4 := hid (HX3.out.kept k4 (fun x => by have := hge _ x; omega))
  have HY4 := hid (HY3.out.kept k4 (fun x => by have := HF2.out _ x; omega))
  have HS4 : Hid (Ous w4 a J.outs) := Sl.move HS3.out k4 (fun b hb x => by have := hge b x; have := HF1.out b hb; omega)
  have HW4 := hid hW4
  clear hW4 k4 hge y0 y1 y2 y3 y4 y5 y6 y7 HB3 HX3 HY3 HS3 HW3
  obtain ⟨m, hm⟩ : ∃ m : Nat, m = 1 + J.outs.length * 2 := ⟨_, rfl⟩
  have hm1 : (0 : Int) ≤ (m : Int) := by omega
  have hmb : m ≤ 100 := by omega
  have HMe := hid hm
  rw [← hm]
  clear hm
  have y0 := HY4.out.c 0 rfl
  have y1 := HY4.out.c 1 rfl
  have y2 := HY4.out.c 2 rfl
  have y3 := HY4.out.c 3 rfl
  have y4 := HY4.out.c 4 rfl
  have y5 := HY4.out.c 5 rfl
  have y6 := HY4.out.c 6 rfl
  have y7 := HY4.out.c 7 rfl
  go_wp2_with fail
  refine (heldJournal w4 J a1 cap1 1 HW4.out.sl (by decide) (by omega)).mono ?_
  rintro e w5 ⟨rfl, b5⟩
  rw [← HMe.out]
  have HB5 := hid (HB4.out.trans (b5.mono HB4.out.size))
  have HX5 := hid (HX4.out.below b5 HX4.out.lt)
  have HY5 := hid (HY4.out.below b5 HY4.out.lt)
  have HS5 : Hid (Ous w5 a J.outs) := Sl.below HS4.out b5
  have HW5 := hid (HW4.out.below b5)
  clear b5 HS4 HW4 HX4 HY4 HB4 y0 y1 y2 y3 y4 y5 y6 y7
  go_wp2_with fail
  refine (iReadJournal R HR.out s hs' (no_flagJn R HR.out HTx.out s hs') w5 u pv (HL.out.kept (Kept.of_below (S := fun _ => False) HB5.out) (fun x => x)) (HT.out.below HB5.out)).mono ?_
  rintro e w6 ⟨J2, a2, cap2, ok2, ho2, rfl, hI2, b6⟩
  obtain ⟨rfl, rfl⟩ := jis_alike HO.out ho2
  have HB6 := hid (HB5.out.trans (b6.mono HB5.out.size))
  have HX6 := hid (HX5.out.below b6 HX5.out.lt)
  have HY6 := hid (HY5.out.below b6 HY5.out.lt)
  have HS6 : Hid (Ous w6 a J.outs) := Sl.below HS5.out b6
  have HW6 := hid (HW5.out.below b6)
  obtain ⟨a2', cap2', ea, hW2⟩ := Or2.w hI2
  cases ea
  have HS2 := hid (Wr.sl hW2)
  clear ho2 hI2 b6 hW2 HS5 HW5 HX5 HY5 HB5
  rw [jnV_is]
  obtain ⟨wz, hwz, ez, Z0, BZ⟩ := one_new w6 [.int .i64 J.txn, .bool J.done, .int .i64 J.kind, .int .i64 J.vol, .int .i64 J.to, .int .i64 J.at_, .string J.text, .slice a2 J.outs.length cap2] 41
  have HBz := hid (HB6.out.trans (BZ.mono HB6.out.size))
  have HYz := hid (HY6.out.below BZ HY6.out.lt)
  have HXz := hid (HX6.out.below BZ HX6.out.lt)
  have HSz : Hid (Ous wz a J.outs) := Sl.below HS6.out BZ
  have HS2z : Hid (Ous wz a2 J.outs) := Sl.below HS2.out BZ
  have HWz := hid (HW6.out.below BZ)
  have HZ0 := hid Z0
  clear HX6 HY6 HS6 HW6 HS2 HB6 Z0 BZ
  have k0 := HXz.out.c 0 rfl
  have k1 := HXz.out.c 1 rfl
  have k2 := HXz.out.c 2 rfl
  have k3 := HXz.out.c 3 rfl
  have k4 := HXz.out.c 4 rfl
  have k5 := HXz.out.c 5 rfl
  have k6 := HXz.out.c 6 rfl
  have k7 := HXz.out.c 7 rfl
  have y0 := HZ0.out.c 0 rfl
  have y1 := HZ0.out.c 1 rfl
  have y2 := HZ0.out.c 2 rfl
  have y3 := HZ0.out.c 3 rfl
  have y4 := HZ0.out.c 4 rfl
  have y5 := HZ0.out.c 5 rfl
  have y6 := HZ0.out.c 6 rfl
  have y7 := HZ0.out.c 7 rfl
  go_wp2_with fail
  clear k0 k1 k2 k3 k4 k5 k6 k7 y0 y1 y2 y3 y4 y5 y6 y7 hwz
  refine (eqJournal wz J a2 a cap2 cap HS2z.out HSz.out HM.out).mono ?_
  rintro e w7 ⟨rfl, b7⟩
  have HB7 := hid (HBz.out.trans (b7.mono HBz.out.size))
  have HY7 := hid (HYz.out.below b7 HYz.out.lt)
  have HW7 := hid (HWz.out.below b7)
  clear b7 HS2z HSz HWz HYz HBz
  have y0 := HY7.out.c 0 rfl
  have y1 := HY7.out.c 1 rfl
  have y2 := HY7.out.c 2 rfl
  have y3 := HY7.out.c 3 rfl
  have y4 := HY7.out.c 4 rfl
  have y5 := HY7.out.c 5 rfl
  have y6 := HY7.out.c 6 rfl
  have y7 := HY7.out.c 7 rfl
  go_wp2_with fail
  refine (heldJournal w7 J a1 cap1 1 HW7.out.sl (by decide) (by omega)).mono ?_
  rintro e w8 ⟨rfl, b8⟩
  rw [← HMe.out]
  have HB8 := hid (HB7.out.trans (b8.mono HB7.out.size))
  clear b8 y0 y1 y2 y3 y4 y5 y6 y7
  go_wp2
  go_ret
  exact ⟨rfl, HB8.out⟩

end Go.Proofs.YtfbnnhgaedficafDoor.Rd
