/-
  The walks of impl.ReadHost, spec.ReadHost and laws.FnExactReadHost: the law answers true, and nothing that was there is changed. Condition: the table of sixteen sums and the error of a part that lacks stand in their variables.
-/
import Derived.Test.YtaefafcecnpdaalDoorRdHost
import Derived.Test.YtaefafcecnpdaalDoorSecEq
import Derived.RegionTactic
import Derived.BigRegion
import Derived.Laws.ResultCell
namespace Go.Proofs.YtaefafcecnpdaalDoor.Rd
open Go.RowKit Go.Proofs.YtaefafcecnpdaalDoor.Mem Go.Proofs.YtaefafcecnpdaalDoor.Sec
set_option linter.unusedVariables false

/-- A struct out of its own block, and a slot. -/
theorem results_one {P : Program} {fn : Func} {p q : Tmp} {ty : TypeId} (h : fn.results = #[.cell p ty, .tmp q]) (tmps : Array Value) (w : World) (g : Nat) (v b : Value)
    (hp : tmps.getD p undef = .pointer (some ⟨g, 0, none⟩)) (hq : tmps.getD q undef = b) (h1 : (loadVar ty ⟨g, 0, none⟩).run P w = .ok v w) :
    (results fn tmps).run P w = .ok (.tuple #[v, b]) w := by
  rw [results_cell_tmp h, hp, hq]
  simp [asAddr, h1]

/-- What both sides answer. -/
def HostOut (R : ByteArray → Int × Nat) (s : ByteArray) (e : Ending) : Prop := (∃ b x y, readHost R s = some (b, x, y) ∧ e = .returned (.tuple #[hsV b x y, .bool true])) ∨ (readHost R s = none ∧ e = .returned (.tuple #[hsV 0 0 0, .bool false]))

set_option maxRecDepth 100000 in
set_option maxHeartbeats 2000000 in
theorem iReadHost (R : ByteArray → Int × Nat) (hR : Reads R) (s : ByteArray) (hs : s.size ≤ 1048576) (w : World) (u : TypeId) (pv : Value) (hL : Lacks w u pv) (T : Sums w) :
    Calls Tryd.prog 27 #[.string s] w fun e w' => HostOut R s e ∧ Below w.heap.size w w' := by
  have HR := hid hR
  have HL := hid hL
  have HT := hid T
  clear hR hL T
  go_enter Tryd.func27, Tryd.ntmps27
  go_wp2_with fail
  obtain ⟨wc, hwc, ec, A0, K0⟩ := one_new w [.int .i64 0, .int .i64 0, .int .i64 0] 49
  simp only [hwc]
  clear hwc
  have HA := hid A0
  have HK := hid K0
  clear A0 K0
  refine (readKindHost R HR.out s hs wc u pv (HL.out.kept (Kept.of_below (S := fun _ => False) HK.out) (fun x => x)) (HT.out.below HK.out)).mono ?_
  rintro e w1 (⟨b, x, y, hn, rfl, b1⟩ | ⟨hn, rfl, b1⟩)
  · have HN := hid hn
    have HA1 := hid (HA.out.below b1 HA.out.lt)
    have HB1 := hid (HK.out.trans (b1.mono HK.out.size))
    clear hn b1 HA
    have a0 := HA1.out.c 0 rfl
    have a1 := HA1.out.c 1 rfl
    have a2 := HA1.out.c 2 rfl
    have f0 := HA1.out.f 0
    have f1 := HA1.out.f 1
    have f2 := HA1.out.f 2
    have HRA := hid (((HA1.out.set 0 (.int .i64 b)).set 1 (.int .i64 x)).set 2 (.int .i64 y))
    have HBf := hid (below_set (below_set (below_set HB1.out w.heap.size 0 (.int .i64 b) (Nat.le_refl _)) w.heap.size 1 (.int .i64 x) (Nat.le_refl _)) w.heap.size 2 (.int .i64 y) (Nat.le_refl _))
    unfold hsV
    go_wp2
    refine bodyPost_ret (results_one rfl _ _ w.heap.size _ _ rfl rfl (load_row HRA.out Tryd.underlying49 rfl (by kernel_rfl))) rfl ?_
    exact ⟨Or.inl ⟨b, x, y, HN.out, rfl⟩, HBf.out⟩
  · have HN := hid hn
    have HA1 := hid (HA.out.below b1 HA.out.lt)
    have HB1 := hid (HK.out.trans (b1.mono HK.out.size))
    clear hn b1 HA
    have a0 := HA1.out.c 0 rfl
    have a1 := HA1.out.c 1 rfl
    have a2 := HA1.out.c 2 rfl
    have f0 := HA1.out.f 0
    have f1 := HA1.out.f 1
    have f2 := HA1.out.f 2
    have HRA := hid (((HA1.out.set 0 (.int .i64 0)).set 1 (.int .i64 0)).set 2 (.int .i64 0))
    have HBf := hid (below_set (below_set (below_set HB1.out w.heap.size 0 (.int .i64 0) (Nat.le_refl _)) w.heap.size 1 (.int .i64 0) (Nat.le_refl _)) w.heap.size 2 (.int .i64 0) (Nat.le_refl _))
    unfold hsV
    go_wp2
    refine bodyPost_ret (results_one rfl _ _ w.heap.size _ _ rfl rfl (load_row HRA.out Tryd.underlying49 rfl (by kernel_rfl))) rfl ?_
    exact ⟨Or.inr ⟨HN.out, rfl⟩, HBf.out⟩

set_option maxRecDepth 100000 in
set_option maxHeartbeats 2000000 in
theorem sReadHost (R : ByteArray → Int × Nat) (hR : Reads R) (s : ByteArray) (hs : s.size ≤ 1048576) (w : World) :
    Calls Tryd.prog 26 #[.string s] w fun e w' => HostOut R s e ∧ Below w.heap.size w w' := by
  have HR := hid hR
  clear hR
  go_enter Tryd.func26, Tryd.ntmps26
  go_wp2_with fail
  obtain ⟨wc, hwc, ec, A0, K0⟩ := one_new w [.int .i64 0, .int .i64 0, .int .i64 0] 49
  simp only [hwc]
  clear hwc
  have HA := hid A0
  have HK := hid K0
  clear A0 K0
  refine (l4Vars R HR.out s hs 5 3 (by decide) (by decide) wc).mono ?_
  rintro e w1 ⟨hg, b1⟩
  have HA1 := hid (HA.out.below b1 HA.out.lt)
  have HB1 := hid (HK.out.trans (b1.mono HK.out.size))
  clear b1 HA HK
  cases hn : nums R s 5 3 with
  | none =>
    rw [hn] at hg
    obtain ⟨v, rfl⟩ := hg
    have HN : Hid (readHost R s = none) := by unfold Hid readHost; rw [hn]
    clear hn
    have a0 := HA1.out.c 0 rfl
    have a1 := HA1.out.c 1 rfl
    have a2 := HA1.out.c 2 rfl
    have f0 := HA1.out.f 0
    have f1 := HA1.out.f 1
    have f2 := HA1.out.f 2
    have HRA := hid (((HA1.out.set 0 (.int .i64 0)).set 1 (.int .i64 0)).set 2 (.int .i64 0))
    have HBf := hid (below_set (below_set (below_set HB1.out w.heap.size 0 (.int .i64 0) (Nat.le_refl _)) w.heap.size 1 (.int .i64 0) (Nat.le_refl _)) w.heap.size 2 (.int .i64 0) (Nat.le_refl _))
    go_wp2
    refine bodyPost_ret (results_one rfl _ _ w.heap.size _ _ rfl rfl (load_row HRA.out Tryd.underlying49 rfl (by kernel_rfl))) rfl ?_
    exact ⟨Or.inr ⟨HN.out, rfl⟩, HBf.out⟩
  | some p =>
    obtain ⟨l, z⟩ := p
    rw [hn] at hg
    obtain ⟨v, rfl, hI⟩ := hg
    have hl := nums_len hn
    have hbd := nums_bd HR.out (by unfold maxLen; omega) hn
    obtain ⟨a, cap, rfl, hW⟩ := hI.w
    match l, hl with
    | [b, x, y], _ =>
    obtain ⟨g, off, rfl, c0⟩ := hW.sl 0 (by simp)
    obtain ⟨g1, off1, e1, c1⟩ := hW.sl 1 (by simp)
    obtain ⟨g2, off2, e2, c2⟩ := hW.sl 2 (by simp)
    cases e1; cases e2
    replace c0 : w1.cell? ⟨g, off + 0, none⟩ = some (.int .i64 b) := c0
    replace c1 : w1.cell? ⟨g, off + 1, none⟩ = some (.int .i64 x) := c1
    replace c2 : w1.cell? ⟨g, off + 2, none⟩ = some (.int .i64 y) := c2
    rw [Nat.add_zero] at c0
    have hx := hbd x (by simp)
    have HN := hid hn
    have hz : (0 : Int) ≤ (z : Int) := by omega
    simp only [List.length_cons, List.length_nil]
    clear hn hbd hI hW
    go_wp2
    obtain ⟨wz, hwz, ez, Z0, BZ⟩ := one_new w1 [.int .i64 0, .int .i64 0, .int .i64 0] 49
    have hgl : g < w1.heap.size := World.block_lt_of_cell? w1 _ c0
    have d0 := (BZ.cell (p := ⟨g, off, none⟩) hgl).trans c0
    have d1 := (BZ.cell (p := ⟨g, off + 1, none⟩) hgl).trans c1
    have d2 := (BZ.cell (p := ⟨g, off + 2, none⟩) hgl).trans c2
    have z0 := Z0.c 0 rfl
    have z1 := Z0.c 1 rfl
    have z2 := Z0.c 2 rfl
    have y0 := Z0.f 0
    have y1 := Z0.f 1
    have y2 := Z0.f 2
    have HZ := hid (((Z0.set 0 (.int .i64 b)).set 1 (.int .i64 (x - 1))).set 2 (.int .i64 y))
    have HAz := hid ((((HA1.out.below BZ HA1.out.lt).other (p := ⟨w1.heap.size, 0, none⟩) (by have := HA1.out.lt; show w.heap.size ≠ w1.heap.size; omega) (.int .i64 b)).other (p := ⟨w1.heap.size, 1, none⟩) (by have := HA1.out.lt; show w.heap.size ≠ w1.heap.size; omega) (.int .i64 (x - 1))).other (p := ⟨w1.heap.size, 2, none⟩) (by have := HA1.out.lt; show w.heap.size ≠ w1.heap.size; omega) (.int .i64 y))
    have HBz := hid (below_set (below_set (below_set (HB1.out.trans (BZ.mono HB1.out.size)) w1.heap.size 0 (.int .i64 b) HB1.out.size) w1.heap.size 1 (.int .i64 (x - 1)) HB1.out.size) w1.heap.size 2 (.int .i64 y) HB1.out.size)
    clear Z0 BZ
    go_region
    go_wp2_with fail
    obtain ⟨wq, hwq⟩ : ∃ wq, (((wz.setCell ⟨w1.heap.size, 0, none⟩ (.int .i64 b)).setCell ⟨w1.heap.size, 1, none⟩ (.int .i64 (x - 1))).setCell ⟨w1.heap.size, 2, none⟩ (.int .i64 y)).drew = wq := ⟨_, rfl⟩
    have HZq : Hid (Row wq w1.heap.size [.int .i64 b, .int .i64 (x - 1), .int .i64 y]) := by rw [← hwq]; exact HZ.out
    have HAq : Hid (Row wq w.heap.size [.int .i64 0, .int .i64 0, .int .i64 0]) := by rw [← hwq]; exact HAz.out
    have HBq : Hid (Below w.heap.size w wq) := by rw [← hwq]; exact HBz.out.drew
    simp only [hwq]
    clear hwq hwz d0 d1 d2 z0 z1 z2 y0 y1 y2 HZ HAz HBz c0 c1 c2
    refine (sShowHost b (x - 1) y wq).mono ?_
    rintro e w5 ⟨rfl, b5⟩
    have HA5 := hid (HAq.out.below b5 HAq.out.lt)
    have HZ5 := hid (HZq.out.below b5 HZq.out.lt)
    have HB5 := hid (HBq.out.trans (b5.mono HBq.out.size))
    clear b5 HAq HZq HBq
    have a0 := HA5.out.c 0 rfl
    have a1 := HA5.out.c 1 rfl
    have a2 := HA5.out.c 2 rfl
    have f0 := HA5.out.f 0
    have f1 := HA5.out.f 1
    have f2 := HA5.out.f 2
    have q0 := HZ5.out.c 0 rfl
    have q1 := HZ5.out.c 1 rfl
    have q2 := HZ5.out.c 2 rfl
    by_cases hsh : showHost b (x - 1) y = s
    · have HN2 : Hid (readHost R s = some (b, x - 1, y)) := by unfold Hid readHost; rw [HN.out]; simp only []; rw [if_pos hsh]
      have hne := Own.eqS_yes hsh
      generalize showHost b (x - 1) y = sh at *
      have HRA := hid ((((HA5.out).set 0 (.int .i64 b)).set 1 (.int .i64 (x - 1))).set 2 (.int .i64 y))
      have HBf := hid (below_set (below_set (below_set (HB5.out) w.heap.size 0 (.int .i64 b) (Nat.le_refl _)) w.heap.size 1 (.int .i64 (x - 1)) (Nat.le_refl _)) w.heap.size 2 (.int .i64 y) (Nat.le_refl _))
      go_wp2
      refine bodyPost_ret (results_one rfl _ _ w.heap.size _ _ rfl rfl (load_row HRA.out Tryd.underlying49 rfl (by kernel_rfl))) rfl ?_
      exact ⟨Or.inl ⟨b, x - 1, y, HN2.out, rfl⟩, HBf.out⟩
    · have HN2 : Hid (readHost R s = none) := by unfold Hid readHost; rw [HN.out]; simp only []; rw [if_neg hsh]
      have hne := Own.eqS_no hsh
      generalize showHost b (x - 1) y = sh at *
      have HRA := hid ((((HA5.out).set 0 (.int .i64 0)).set 1 (.int .i64 0)).set 2 (.int .i64 0))
      have HBf := hid (below_set (below_set (below_set (HB5.out) w.heap.size 0 (.int .i64 0) (Nat.le_refl _)) w.heap.size 1 (.int .i64 0) (Nat.le_refl _)) w.heap.size 2 (.int .i64 0) (Nat.le_refl _))
      go_wp2
      refine bodyPost_ret (results_one rfl _ _ w.heap.size _ _ rfl rfl (load_row HRA.out Tryd.underlying49 rfl (by kernel_rfl))) rfl ?_
      exact ⟨Or.inr ⟨HN2.out, rfl⟩, HBf.out⟩

/-- laws.eqHostSec at two that are alike. -/
theorem eqHostSec (b h e : Int) (w : World) : Calls Tryd.prog 28 #[hsV b h e, hsV b h e] w fun r w' => r = .returned (.bool true) ∧ Below w.heap.size w w' := by
  unfold hsV
  go_enter Tryd.func28, Tryd.ntmps28
  go_wp2
  go_ret
  exact ⟨rfl, by go_grown⟩

set_option maxRecDepth 100000 in
set_option maxHeartbeats 2000000 in
theorem lawReadHost (s : ByteArray) (hs : s.size ≤ maxLen) (w : World) (u : TypeId) (pv : Value) (hL : Lacks w u pv) (T : Sums w) :
    Calls Tryd.prog 7 #[.string s] w fun e w' => e = .returned (.bool true) ∧ Below w.heap.size w w' := by
  unfold maxLen at hs
  by_cases hg : 1048576 < (s.size : Int)
  · go_enter Tryd.func7, Tryd.ntmps7
    go_wp2
    go_ret
    exact ⟨rfl, Below.refl _ _⟩
  obtain ⟨R, hR⟩ := reads_ex
  have HR := hid hR
  have HL := hid hL
  have HT := hid T
  have hs' : s.size ≤ 1048576 := by omega
  clear hR hL T
  go_enter Tryd.func7, Tryd.ntmps7
  go_wp2_with fail
  refine (sReadHost R HR.out s hs' w).mono ?_
  rintro e w1 ⟨ho, b1⟩
  obtain ⟨b, x, y, ok, HO, rfl⟩ : ∃ b x y ok, Hid (∀ e, HostOut R s e → e = .returned (.tuple #[hsV b x y, .bool ok])) ∧ e = .returned (.tuple #[hsV b x y, .bool ok]) := by
    rcases ho with ⟨b, x, y, hn, rfl⟩ | ⟨hn, rfl⟩
    · refine ⟨b, x, y, true, fun e he => ?_, rfl⟩
      rcases he with ⟨b', x', y', hn', rfl⟩ | ⟨hn', _⟩
      · rw [hn] at hn'; cases hn'; rfl
      · rw [hn] at hn'; cases hn'
    · refine ⟨0, 0, 0, false, fun e he => ?_, rfl⟩
      rcases he with ⟨b', x', y', hn', rfl⟩ | ⟨hn', rfl⟩
      · rw [hn] at hn'; cases hn'
      · rfl
  have HV : Hid (hsV b x y = .agg #[.int .i64 b, .int .i64 x, .int .i64 y]) := rfl
  rw [HV.out]
  have HB1 := hid b1
  clear b1 ho
  go_wp2_with fail
  obtain ⟨w2, hw2, ez, A0, B0⟩ := one_new w1 [.int .i64 b, .int .i64 x, .int .i64 y] 49
  simp only [hw2]
  have HA := hid A0
  have HB2 := hid (HB1.out.trans (B0.mono HB1.out.size))
  clear hw2 A0 B0
  refine (iReadHost R HR.out s hs' w2 u pv (HL.out.kept (Kept.of_below (S := fun _ => False) HB2.out) (fun x => x)) (HT.out.below HB2.out)).mono ?_
  rintro e w3 ⟨ho, b3⟩
  obtain rfl := HO.out e ho
  rw [HV.out]
  have HA3 := hid (HA.out.below b3 HA.out.lt)
  have HB3 := hid (HB2.out.trans (b3.mono HB2.out.size))
  clear ho b3 HA HO
  have k0 := HA3.out.c 0 rfl
  have k1 := HA3.out.c 1 rfl
  have k2 := HA3.out.c 2 rfl
  obtain ⟨w4, hw4, ez4, C0, B4⟩ := one_new w3 [.int .i64 b, .int .i64 x, .int .i64 y] 49
  have m0 := C0.c 0 rfl
  have m1 := C0.c 1 rfl
  have m2 := C0.c 2 rfl
  have n0 := (HA3.out.below B4 HA3.out.lt).c 0 rfl
  have n1 := (HA3.out.below B4 HA3.out.lt).c 1 rfl
  have n2 := (HA3.out.below B4 HA3.out.lt).c 2 rfl
  have HB4 := hid (HB3.out.trans (B4.mono HB3.out.size))
  clear C0 B4
  go_wp2_with fail
  clear hw4
  refine (eqHostSec b x y w4).mono ?_
  rintro e w5 ⟨rfl, b5⟩
  have HB5 := hid (HB4.out.trans (b5.mono HB4.out.size))
  clear b5
  go_wp2
  go_ret
  exact ⟨rfl, HB5.out⟩

end Go.Proofs.YtaefafcecnpdaalDoor.Rd
