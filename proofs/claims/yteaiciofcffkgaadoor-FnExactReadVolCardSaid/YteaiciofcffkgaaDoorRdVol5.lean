/-
  The walks of laws.markVolSec, laws.heldVolSec and laws.FnExactReadVol: the law answers true, and nothing that was there is changed. Condition: the table of sixteen sums and the error of a part that lacks stand in their variables.
-/
import Derived.Test.YteaiciofcffkgaaDoorRdVol4
import Derived.Test.YteaiciofcffkgaaDoorRdVol3
import Derived.Test.YteaiciofcffkgaaDoorSecVolLaw
import Derived.Test.YteaiciofcffkgaaDoorMarkRows
namespace Go.Proofs.YteaiciofcffkgaaDoor.Rd
open Go.RowKit Go.Proofs.YteaiciofcffkgaaDoor.Mem Go.Proofs.YteaiciofcffkgaaDoor.Sec
set_option linter.unusedVariables false

theorem markVolSec (w : World) (B : Nat) (h e : Int) (on : Bool) (a : Option Addr) (n cap k : Nat) (f : Nat → Value) (S : Wr w B a n f) (hb : k + n ≤ 4611686018427387904) :
    Calls Tryd.prog 7 #[vlV h e on a n cap, .int .i64 (k : Int)] w fun r w' => r = .returned (.int .i64 ((k + n : Nat) : Int)) ∧ Wr w' B a n (fun i => .int .i64 ((k + i : Nat) : Int)) ∧ Kept (foot a n) w w' := by
  unfold vlV
  have HS := hid S
  clear S
  obtain ⟨wa, hwa, ez, A0, B0⟩ := one_new w [.int .i64 h, .int .i64 e, .bool on, .slice a n cap] 26
  have k2 := A0.c 3 rfl
  have HB := hid B0
  clear A0 B0
  go_enter Tryd.func7, Tryd.ntmps7
  go_wp2_with fail
  refine (markIntS wa B a n cap k f (HS.out.below HB.out) hb).mono ?_
  rintro r w1 ⟨rfl, hW, k1⟩
  have HW := hid hW
  have HK : Hid (Kept (foot a n) w w1) := ((Kept.of_below (S := fun _ => False) HB.out).trans k1).mono (fun b _ x => by rcases x with x | x; cases x; exact x)
  clear hwa hW k1 k2 HS HB
  go_wp2
  go_ret
  exact ⟨rfl, HW.out, HK.out⟩

theorem heldVolSec (w : World) (h e : Int) (on : Bool) (a : Option Addr) (n cap k : Nat) (S : Sl w a n (fun i => .int .i64 ((k + i : Nat) : Int))) (hb : k + n ≤ 4611686018427387904) :
    Calls Tryd.prog 8 #[vlV h e on a n cap, .int .i64 (k : Int)] w fun r w' => r = .returned (.int .i64 ((k + n : Nat) : Int)) ∧ Below w.heap.size w w' := by
  unfold vlV
  have HS := hid S
  clear S
  obtain ⟨wa, hwa, ez, A0, B0⟩ := one_new w [.int .i64 h, .int .i64 e, .bool on, .slice a n cap] 26
  have k2 := A0.c 3 rfl
  have HB := hid B0
  clear A0 B0
  go_enter Tryd.func8, Tryd.ntmps8
  go_wp2_with fail
  refine (heldIntS wa a n cap k (HS.out.below HB.out) hb).mono ?_
  rintro r w1 ⟨rfl, b1⟩
  have HB1 := hid (HB.out.trans (b1.mono HB.out.size))
  obtain ⟨m, hm⟩ : ∃ m : Nat, m = k + n := ⟨_, rfl⟩
  have hm1 : ¬ ((m : Int) < 0) := by omega
  have HMe := hid hm
  rw [← hm]
  clear hwa b1 k2 HS HB hm
  go_wp2
  go_ret
  exact ⟨by rw [← HMe.out]; rfl, HB1.out⟩

theorem vis_alike {R : ByteArray → Int × Nat} {s : ByteArray} {h e h' e' : Int} {on on' : Bool} {l l' : List Int} {ok ok' : Bool} (q : VolIs R s h e on l ok) (q' : VolIs R s h' e' on' l' ok') : h = h' ∧ e = e' ∧ on = on' ∧ l = l' ∧ ok = ok' := by
  rcases q with ⟨q, _, rfl⟩ | ⟨q, rfl, rfl, rfl, rfl, rfl⟩ <;> rcases q' with ⟨q', _, rfl⟩ | ⟨q', rfl, rfl, rfl, rfl, rfl⟩ <;> rw [q] at q' <;> simp_all

theorem vis_len {R : ByteArray → Int × Nat} {s : ByteArray} {h e : Int} {on : Bool} {l : List Int} {ok : Bool} (q : VolIs R s h e on l ok) : l.length ≤ 12 := by
  rcases q with ⟨_, q, _⟩ | ⟨_, _, _, _, rfl, _⟩
  · exact q
  · simp

set_option maxRecDepth 100000 in
set_option maxHeartbeats 2000000 in
theorem lawReadVol (s : ByteArray) (hs : s.size ≤ maxLen) (w : World) (u : TypeId) (pv : Value) (hL : Lacks w u pv) (T : Sums w) :
    Calls Tryd.prog 3 #[.string s] w fun e w' => e = .returned (.bool true) ∧ Below w.heap.size w w' := by
  unfold maxLen at hs
  by_cases hg : 1048576 < (s.size : Int)
  · go_enter Tryd.func3, Tryd.ntmps3
    go_wp2
    go_ret
    exact ⟨rfl, Below.refl _ _⟩
  obtain ⟨R, hR, hTx⟩ := reads_ex2
  have HR := hid hR
  have HTx := hid hTx
  have HL := hid hL
  have HT := hid T
  have hs' : s.size ≤ 1048576 := by omega
  clear hR hL T hTx
  go_enter Tryd.func3, Tryd.ntmps3
  go_wp2_with fail
  refine (sReadVol R HR.out s hs' w).mono ?_
  rintro e w1 ⟨h, ep, on, l, a, cap, ok, ho, rfl, hI, b1⟩
  have HO := hid ho
  have hlen : l.length ≤ 12 := vis_len ho
  have HM : Hid (l.length ≤ maxLen) := by unfold Hid maxLen; omega
  have HB1 := hid b1
  obtain ⟨a', cap', ea, hW⟩ := Ir.w hI
  cases ea
  have HS1 := hid hW.sl
  have HF1 : Hid (∀ b, foot a l.length b → b < w1.heap.size) := fun b hb => hW.sl.lt hb
  clear ho hI b1 hW
  unfold vlV
  go_wp2_with fail
  obtain ⟨wx, hwx, ex, X0, BX⟩ := one_new w1 [.int .i64 h, .int .i64 ep, .bool on, .slice a l.length cap] 26
  simp only [hwx]
  have HX := hid X0
  have HBx := hid (HB1.out.trans (BX.mono HB1.out.size))
  have HSx := hid (HS1.out.below BX)
  clear hwx X0 BX HS1
  refine (iReadVol R HR.out s hs' (no_flag R HR.out HTx.out s hs') wx u pv (HL.out.kept (Kept.of_below (S := fun _ => False) HBx.out) (fun x => x)) (HT.out.below HBx.out)).mono ?_
  rintro e w2 ⟨h1, ep1, on1, l1, a1, cap1, ok1, ho1, rfl, hI1, b2⟩
  obtain ⟨rfl, rfl, rfl, rfl, rfl⟩ := vis_alike HO.out ho1
  have HB2 := hid (HBx.out.trans (b2.mono HBx.out.size))
  have HX2 := hid (HX.out.below b2 HX.out.lt)
  have hxl := HX.out.lt
  have hxs := b2.size
  have HS12 := hid (HSx.out.below b2)
  obtain ⟨a1', cap1', ea, hW1⟩ := Ir.w hI1
  cases ea
  have HW2 := hid hW1
  have HF2 : Hid (∀ b, foot a1 l.length b → b < w2.heap.size) := fun b hb => hW1.sl.lt hb
  have k0 := HX2.out.c 0 rfl
  have k1 := HX2.out.c 1 rfl
  have k2 := HX2.out.c 2 rfl
  have k3 := HX2.out.c 3 rfl
  clear ho1 hI1 b2 hW1 HX HSx
  unfold vlV
  obtain ⟨wy, hwy, ey, Y0, BY⟩ := one_new w2 [.int .i64 h, .int .i64 ep, .bool on, .slice a1 l.length cap1] 26
  have HY := hid Y0
  have HBy := hid (HB2.out.trans (BY.mono HB2.out.size))
  have HXy := hid (HX2.out.below BY HX2.out.lt)
  have HSy := hid (HS12.out.below BY)
  have HWy := hid (HW2.out.below BY)
  clear Y0 BY HX2 HS12 HW2 k0 k1 k2 k3
  have k0 := HXy.out.c 0 rfl
  have k1 := HXy.out.c 1 rfl
  have k2 := HXy.out.c 2 rfl
  have k3 := HXy.out.c 3 rfl
  have y0 := HY.out.c 0 rfl
  have y1 := HY.out.c 1 rfl
  have y2 := HY.out.c 2 rfl
  have y3 := HY.out.c 3 rfl
  go_wp2_with fail
  clear k0 k1 k2 k3 y0 y1 y2 y3 hwy
  refine (eqVolSec wy h ep on a1 a cap1 cap l l HWy.out.sl HSy.out HM.out HM.out rfl).mono ?_
  rintro e w3 ⟨rfl, b3⟩
  have HB3 := hid (HBy.out.trans (b3.mono HBy.out.size))
  have HX3 := hid (HXy.out.below b3 HXy.out.lt)
  have HY3 := hid (HY.out.below b3 HY.out.lt)
  have HS3 := hid (HSy.out.below b3)
  have HW3 := hid (HWy.out.below b3)
  clear b3 HBy HXy HY HSy HWy
  have hkk : (((1 : Nat) : Int)) = 1 := rfl
  have y0 := HY3.out.c 0 rfl
  have y1 := HY3.out.c 1 rfl
  have y2 := HY3.out.c 2 rfl
  have y3 := HY3.out.c 3 rfl
  go_wp2_with fail
  refine (markVolSec w3 wx.heap.size h ep on a1 l.length cap1 1 _ HW3.out (by omega)).mono ?_
  rintro e w4 ⟨rfl, hW4, k4⟩
  have hge : ∀ b, foot a1 l.length b → wx.heap.size ≤ b := fun b hb => HW3.out.foot_ge hb
  have HB4 : Hid (Below w.heap.size w w4) := HB3.out.trans (k4.below HB3.out.size (fun b hb x => by have := hge b x; have := HBx.out.size; omega))
  have HX4 := hid (HX3.out.kept k4 (fun x => by have := hge _ x; omega))
  have HY4 := hid (HY3.out.kept k4 (fun x => by have := HF2.out _ x; omega))
  have HS4 : Hid (Ints w4 a l) := Sl.move HS3.out k4 (fun b hb x => by have := hge b x; have := HF1.out b hb; omega)
  have HW4 := hid hW4
  clear hW4 k4 hge y0 y1 y2 y3 HB3 HX3 HY3 HS3 HW3
  obtain ⟨m, hm⟩ : ∃ m : Nat, m = 1 + l.length := ⟨_, rfl⟩
  have hm1 : (0 : Int) ≤ (m : Int) := by omega
  have hmb : m ≤ 100 := by omega
  have HMe := hid hm
  rw [← hm]
  clear hm
  have y0 := HY4.out.c 0 rfl
  have y1 := HY4.out.c 1 rfl
  have y2 := HY4.out.c 2 rfl
  have y3 := HY4.out.c 3 rfl
  go_wp2_with fail
  refine (heldVolSec w4 h ep on a1 l.length cap1 1 HW4.out.sl (by omega)).mono ?_
  rintro e w5 ⟨rfl, b5⟩
  rw [← HMe.out]
  have HB5 := hid (HB4.out.trans (b5.mono HB4.out.size))
  have HX5 := hid (HX4.out.below b5 HX4.out.lt)
  have HY5 := hid (HY4.out.below b5 HY4.out.lt)
  have HS5 := hid (HS4.out.below b5)
  have HW5 := hid (HW4.out.below b5)
  clear b5 HS4 HW4 HX4 HY4 HB4 y0 y1 y2 y3
  go_wp2_with fail
  refine (iReadVol R HR.out s hs' (no_flag R HR.out HTx.out s hs') w5 u pv (HL.out.kept (Kept.of_below (S := fun _ => False) HB5.out) (fun x => x)) (HT.out.below HB5.out)).mono ?_
  rintro e w6 ⟨h2, ep2, on2, l2, a2, cap2, ok2, ho2, rfl, hI2, b6⟩
  obtain ⟨rfl, rfl, rfl, rfl, rfl⟩ := vis_alike HO.out ho2
  have HB6 := hid (HB5.out.trans (b6.mono HB5.out.size))
  have HX6 := hid (HX5.out.below b6 HX5.out.lt)
  have HY6 := hid (HY5.out.below b6 HY5.out.lt)
  have HS6 := hid (HS5.out.below b6)
  have HW6 := hid (HW5.out.below b6)
  obtain ⟨a2', cap2', ea, hW2⟩ := Ir.w hI2
  cases ea
  have HS2 := hid hW2.sl
  have k0 := HX6.out.c 0 rfl
  have k1 := HX6.out.c 1 rfl
  have k2 := HX6.out.c 2 rfl
  have k3 := HX6.out.c 3 rfl
  clear ho2 hI2 b6 hW2 HS5 HW5 HX5 HY5 HB5
  unfold vlV
  obtain ⟨wz, hwz, ez, Z0, BZ⟩ := one_new w6 [.int .i64 h, .int .i64 ep, .bool on, .slice a2 l.length cap2] 26
  have HBz := hid (HB6.out.trans (BZ.mono HB6.out.size))
  have HYz := hid (HY6.out.below BZ HY6.out.lt)
  have HXz := hid (HX6.out.below BZ HX6.out.lt)
  have HSz := hid (HS6.out.below BZ)
  have HS2z := hid (HS2.out.below BZ)
  have HWz := hid (HW6.out.below BZ)
  clear HX6 HY6 HS6 HW6 HS2 HB6 k0 k1 k2 k3
  have k0 := HXz.out.c 0 rfl
  have k1 := HXz.out.c 1 rfl
  have k2 := HXz.out.c 2 rfl
  have k3 := HXz.out.c 3 rfl
  have y0 := Z0.c 0 rfl
  have y1 := Z0.c 1 rfl
  have y2 := Z0.c 2 rfl
  have y3 := Z0.c 3 rfl
  clear Z0 BZ
  go_wp2_with fail
  clear k0 k1 k2 k3 y0 y1 y2 y3 hwz
  refine (eqVolSec wz h ep on a2 a cap2 cap l l HS2z.out HSz.out HM.out HM.out rfl).mono ?_
  rintro e w7 ⟨rfl, b7⟩
  have HB7 := hid (HBz.out.trans (b7.mono HBz.out.size))
  have HY7 := hid (HYz.out.below b7 HYz.out.lt)
  have HW7 := hid (HWz.out.below b7)
  clear b7 HS2z HSz HWz HYz HBz
  have y0 := HY7.out.c 0 rfl
  have y1 := HY7.out.c 1 rfl
  have y2 := HY7.out.c 2 rfl
  have y3 := HY7.out.c 3 rfl
  go_wp2_with fail
  refine (heldVolSec w7 h ep on a1 l.length cap1 1 HW7.out.sl (by omega)).mono ?_
  rintro e w8 ⟨rfl, b8⟩
  rw [← HMe.out]
  have HB8 := hid (HB7.out.trans (b8.mono HB7.out.size))
  clear b8 y0 y1 y2 y3
  go_wp2
  go_ret
  exact ⟨rfl, HB8.out⟩

end Go.Proofs.YteaiciofcffkgaaDoor.Rd
