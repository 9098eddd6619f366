/-
  The walks of laws.toEvent, toEventS, eqEvent, eqEventS. No condition but lists of at most 2^20.
-/
import Derived.Test.YtbnpnhcegoanmaaEv
import Derived.Test.YtbnpnhcegoanmaaPuts
import Derived.Test.YtbnpnhcegoanmaaRowCopy
import Derived.Deep.DeepCutAuto
namespace Go.Proofs.Ytbnpnhcegoanmaa.Pl
open Go.RowKit Go.Proofs.Ytbnpnhcegoanmaa.Mem
set_option linter.unusedVariables false

set_option maxRecDepth 100000 in
set_option maxHeartbeats 2000000 in
theorem toEvent (w : World) (x : Ev) : Calls Try.prog 17 #[x.val] w fun e w' => e = .returned x.val ∧ Below w.heap.size w w' := by
  obtain ⟨h, x, k, v, t, a, s⟩ := x
  unfold Ev.val
  simp only []
  have HT := hid (fun w => toOp w k v t a s)
  unfold opV at HT
  go_enter Try.func17, Try.ntmps17
  go_wp2_with fail
  obtain ⟨wc, hwc, e2, A0, R0, O0, B0⟩ := three_news w [.int .i64 h, .int .i64 x, .int .i64 k, .int .i64 v, .int .i64 t, .int .i64 a, .string s] [.int .i64 0, .int .i64 0, .int .i64 0, .int .i64 0, .int .i64 0, .int .i64 0, .string ⟨#[]⟩] [.int .i64 h, .int .i64 x, .int .i64 0, .int .i64 0, .int .i64 0, .int .i64 0, .string ⟨#[]⟩] 40 45
  simp only [hwc]
  clear hwc
  refine (HT.out wc).mono ?_
  rintro r w2 ⟨rfl, b2⟩
  replace R0 := R0.below b2 R0.lt
  replace O0 := O0.below b2 O0.lt
  replace B0 := B0.trans (b2.mono (by omega))
  have d0 := O0.c 0 rfl
  have d1 := O0.c 1 rfl
  have d2 := O0.c 2 rfl
  have d3 := O0.c 3 rfl
  have d4 := O0.c 4 rfl
  have d5 := O0.c 5 rfl
  have d6 := O0.c 6 rfl
  have fd2 := O0.f 2
  have fd3 := O0.f 3
  have fd4 := O0.f 4
  have fd5 := O0.f 5
  have fd6 := O0.f 6
  have r0 := R0.c 0 rfl
  have r1 := R0.c 1 rfl
  have r2 := R0.c 2 rfl
  have r3 := R0.c 3 rfl
  have r4 := R0.c 4 rfl
  have r5 := R0.c 5 rfl
  have r6 := R0.c 6 rfl
  have f0 := R0.f 0
  have f1 := R0.f 1
  have f2 := R0.f 2
  have f3 := R0.f 3
  have f4 := R0.f 4
  have f5 := R0.f 5
  have f6 := R0.f 6
  have HO := hid O0
  have HB := hid B0
  have HR := hid R0
  clear R0 O0 b2 B0 A0
  go_upto_region 5 with fail
  obtain ⟨w3, hw3, R0, O0, B3⟩ : ∃ w3, (((((w2.setCell ⟨w.heap.size + 1 + 1, 2, none⟩ (.int .i64 k)).setCell ⟨w.heap.size + 1 + 1, 3, none⟩ (.int .i64 v)).setCell ⟨w.heap.size + 1 + 1, 4, none⟩ (.int .i64 t)).setCell ⟨w.heap.size + 1 + 1, 5, none⟩ (.int .i64 a)).setCell ⟨w.heap.size + 1 + 1, 6, none⟩ (.string s)) = w3 ∧ Row w3 (w.heap.size + 1) _ ∧ Row w3 (w.heap.size + 1 + 1) _ ∧ Below w.heap.size w w3 :=
    ⟨_, rfl, puts_other HR.out (by omega) 2 [.int .i64 k, .int .i64 v, .int .i64 t, .int .i64 a, .string s], puts_row HO.out 2 [.int .i64 k, .int .i64 v, .int .i64 t, .int .i64 a, .string s], puts_below HB.out (by omega) 2 [.int .i64 k, .int .i64 v, .int .i64 t, .int .i64 a, .string s]⟩
  try simp only [hw3]
  clear hw3
  refine wp_region_list ?_
  refine wpList_load_row rfl 45 _ rfl (w.heap.size + 1 + 1) rfl [.int .i64 h, .int .i64 x, .int .i64 k, .int .i64 v, .int .i64 t, .int .i64 a, .string s] _ O0 Try.underlying45 rfl (by kernel_rfl) ?_
  refine wpList_store_row rfl 45 _ _ rfl (w.heap.size + 1) rfl _ [.int .i64 h, .int .i64 x, .int .i64 k, .int .i64 v, .int .i64 t, .int .i64 a, .string s] rfl R0 rfl (by kernel_rfl) rfl ?_
  have HR3 := hid (puts_row R0 0 [.int .i64 h, .int .i64 x, .int .i64 k, .int .i64 v, .int .i64 t, .int .i64 a, .string s])
  have HB3 := hid (puts_below B3 (show w.heap.size ≤ w.heap.size + 1 by omega) 0 [.int .i64 h, .int .i64 x, .int .i64 k, .int .i64 v, .int .i64 t, .int .i64 a, .string s])
  generalize puts w3 (w.heap.size + 1) 0 [.int .i64 h, .int .i64 x, .int .i64 k, .int .i64 v, .int .i64 t, .int .i64 a, .string s] = w5 at *
  clear R0 O0 B3
  go_wp2
  refine bodyPost_ret (results_row rfl _ _ (w.heap.size + 1) [.int .i64 h, .int .i64 x, .int .i64 k, .int .i64 v, .int .i64 t, .int .i64 a, .string s] _ rfl HR3.out Try.underlying45 rfl (by kernel_rfl)) rfl ?_
  exact ⟨rfl, HB3.out⟩

theorem infoE : (Try.prog.info? 45).map (fun i => (i.zero, i.size, i.bytes)) = some (some (.agg #[.int .i64 0, .int .i64 0, .int .i64 0, .int .i64 0, .int .i64 0, .int .i64 0, .string ByteArray.empty]), 7, 64) := by kernel_rfl

/-- What stands in the new row behind k rounds. -/
def partE (l : List Ev) (k : Nat) (i : Nat) : Value := if i < k * 7 then evcell l i else Ev.none.cells.getD (i % 7) undef

theorem set7 {w : World} {B b : Nat} {m : Nat} {f : Nat → Value} (h : Wr w B (some ⟨b, 0, none⟩) m f) (k : Nat) (hk : k * 7 + 7 ≤ m) (v0 v1 v2 v3 v4 v5 v6 : Value) :
    Wr (((((((w.setCell ⟨b, k * 7, none⟩ v0).setCell ⟨b, k * 7 + 1, none⟩ v1).setCell ⟨b, k * 7 + 2, none⟩ v2).setCell ⟨b, k * 7 + 3, none⟩ v3).setCell ⟨b, k * 7 + 4, none⟩ v4).setCell ⟨b, k * 7 + 5, none⟩ v5).setCell ⟨b, k * 7 + 6, none⟩ v6) B (some ⟨b, 0, none⟩) m (fun j => if j / 7 = k then [v0, v1, v2, v3, v4, v5, v6].getD (j % 7) undef else f j) := by
  have h0 := h.set (k * 7) (by omega) v0
  have h1 := h0.set (k * 7 + 1) (by omega) v1
  have h2 := h1.set (k * 7 + 2) (by omega) v2
  have h3 := h2.set (k * 7 + 3) (by omega) v3
  have h4 := h3.set (k * 7 + 4) (by omega) v4
  have h5 := h4.set (k * 7 + 5) (by omega) v5
  have h6 := h5.set (k * 7 + 6) (by omega) v6
  simp only [Nat.zero_add] at h6
  refine h6.congr (fun j _ => ?_)
  by_cases hj : j / 7 = k
  · have : j = k * 7 ∨ j = k * 7 + 1 ∨ j = k * 7 + 2 ∨ j = k * 7 + 3 ∨ j = k * 7 + 4 ∨ j = k * 7 + 5 ∨ j = k * 7 + 6 := by omega
    rw [if_pos hj]
    rcases this with rfl | rfl | rfl | rfl | rfl | rfl | rfl
    · rw [show (k * 7) % 7 = 0 by omega]; rw [if_neg (by omega)]; rw [if_neg (by omega)]; rw [if_neg (by omega)]; rw [if_neg (by omega)]; rw [if_neg (by omega)]; rw [if_neg (by omega)]; rw [if_pos rfl]; rfl
    · rw [show (k * 7 + 1) % 7 = 1 by omega]; rw [if_neg (by omega)]; rw [if_neg (by omega)]; rw [if_neg (by omega)]; rw [if_neg (by omega)]; rw [if_neg (by omega)]; rw [if_pos rfl]; rfl
    · rw [show (k * 7 + 2) % 7 = 2 by omega]; rw [if_neg (by omega)]; rw [if_neg (by omega)]; rw [if_neg (by omega)]; rw [if_neg (by omega)]; rw [if_pos rfl]; rfl
    · rw [show (k * 7 + 3) % 7 = 3 by omega]; rw [if_neg (by omega)]; rw [if_neg (by omega)]; rw [if_neg (by omega)]; rw [if_pos rfl]; rfl
    · rw [show (k * 7 + 4) % 7 = 4 by omega]; rw [if_neg (by omega)]; rw [if_neg (by omega)]; rw [if_pos rfl]; rfl
    · rw [show (k * 7 + 5) % 7 = 5 by omega]; rw [if_neg (by omega)]; rw [if_pos rfl]; rfl
    · rw [show (k * 7 + 6) % 7 = 6 by omega]; rw [if_pos rfl]; rfl
  · rw [if_neg (by omega)]; rw [if_neg (by omega)]; rw [if_neg (by omega)]; rw [if_neg (by omega)]; rw [if_neg (by omega)]; rw [if_neg (by omega)]; rw [if_neg (by omega)]; rw [if_neg hj]

theorem partE_succ (l : List Ev) (k : Nat) (j : Nat) : (if j / 7 = k then (l.getD k Ev.none).cells.getD (j % 7) undef else partE l k j) = partE l (k + 1) j := by
  unfold partE
  by_cases h : j / 7 = k
  · rw [if_pos h, if_pos (by omega)]
    unfold evcell
    rw [h]
  · by_cases h2 : j < k * 7
    · rw [if_neg h, if_pos h2, if_pos (by omega)]
    · rw [if_neg h, if_neg h2, if_neg (by omega)]

theorem wr_seven {w : World} {B b : Nat} {m : Nat} {f : Nat → Value} (h : Wr w B (some ⟨b, 0, none⟩) m f) (k : Nat) (hk : k * 7 + 7 ≤ m) :
    (∃ v, w.cell? ⟨b, k * 7, none⟩ = some v) ∧ (∃ v, w.cell? ⟨b, k * 7 + 1, none⟩ = some v) ∧ (∃ v, w.cell? ⟨b, k * 7 + 2, none⟩ = some v) ∧ (∃ v, w.cell? ⟨b, k * 7 + 3, none⟩ = some v) ∧ (∃ v, w.cell? ⟨b, k * 7 + 4, none⟩ = some v) ∧ (∃ v, w.cell? ⟨b, k * 7 + 5, none⟩ = some v) ∧ (∃ v, w.cell? ⟨b, k * 7 + 6, none⟩ = some v) ∧ w.frozen? ⟨b, k * 7, none⟩ = false ∧ w.frozen? ⟨b, k * 7 + 1, none⟩ = false ∧ w.frozen? ⟨b, k * 7 + 2, none⟩ = false ∧ w.frozen? ⟨b, k * 7 + 3, none⟩ = false ∧ w.frozen? ⟨b, k * 7 + 4, none⟩ = false ∧ w.frozen? ⟨b, k * 7 + 5, none⟩ = false ∧ w.frozen? ⟨b, k * 7 + 6, none⟩ = false := by
  obtain ⟨_, _, e0, _, h0, z0⟩ := h (k * 7) (by omega)
  obtain ⟨_, _, e1, _, h1, z1⟩ := h (k * 7 + 1) (by omega)
  obtain ⟨_, _, e2, _, h2, z2⟩ := h (k * 7 + 2) (by omega)
  obtain ⟨_, _, e3, _, h3, z3⟩ := h (k * 7 + 3) (by omega)
  obtain ⟨_, _, e4, _, h4, z4⟩ := h (k * 7 + 4) (by omega)
  obtain ⟨_, _, e5, _, h5, z5⟩ := h (k * 7 + 5) (by omega)
  obtain ⟨_, _, e6, _, h6, z6⟩ := h (k * 7 + 6) (by omega)
  cases e0; cases e1; cases e2; cases e3; cases e4; cases e5; cases e6
  rw [Nat.zero_add] at h0 z0 h1 z1 h2 z2 h3 z3 h4 z4 h5 z5 h6 z6
  exact ⟨⟨_, h0⟩, ⟨_, h1⟩, ⟨_, h2⟩, ⟨_, h3⟩, ⟨_, h4⟩, ⟨_, h5⟩, ⟨_, h6⟩, z0, z1, z2, z3, z4, z5, z6⟩

set_option maxRecDepth 100000 in
set_option maxHeartbeats 2000000 in
theorem toEventS (w : World) (a : Option Addr) (cap : Nat) (l : List Ev) (S : Evs w a l) (hl : l.length ≤ 1048576) :
    Calls Try.prog 6 #[.slice a l.length cap] w fun e w' => ∃ g, e = .returned (.slice (some ⟨g, 0, none⟩) l.length l.length) ∧ w.heap.size ≤ g ∧ g < w'.heap.size ∧ EvsW w' w.heap.size (some ⟨g, 0, none⟩) l ∧ Below w.heap.size w w' := by
  have hmk := make_rows (P := Try.prog) 29 45 (.agg #[.int .i64 0, .int .i64 0, .int .i64 0, .int .i64 0, .int .i64 0, .int .i64 0, .string ByteArray.empty]) 7 64 Try.underlying29 infoE .i64 .i64 l.length (by omega) (by omega)
  have HS := hid S
  have hw0 := wr_new w (madeCells (Value.agg #[.int .i64 0, .int .i64 0, .int .i64 0, .int .i64 0, .int .i64 0, .int .i64 0, .string ByteArray.empty]).cells (l.length * 7)) 45 (l.length * 7) (partE l 0) (fun i hi => by
    simp [madeCells, hi, partE, Ev.none, Ev.cells, Value.cells]
    have : i % 7 = 0 ∨ i % 7 = 1 ∨ i % 7 = 2 ∨ i % 7 = 3 ∨ i % 7 = 4 ∨ i % 7 = 5 ∨ i % 7 = 6 := by omega
    rcases this with h | h | h | h | h | h | h <;> simp [h])
  generalize madeCells (Value.agg #[.int .i64 0, .int .i64 0, .int .i64 0, .int .i64 0, .int .i64 0, .int .i64 0, .string ByteArray.empty]).cells (l.length * 7) = cur at hmk hw0
  have HW := hid hw0
  clear S hw0
  go_enter Try.func6, Try.ntmps6
  go_wp2
  go_loopw [4] (fun i wr => ∃ k : Nat, k ≤ l.length ∧ i = .int .i64 (k : Int) ∧ w.heap.size < wr.heap.size ∧ Hid (Wr wr w.heap.size (some ⟨w.heap.size, 0, none⟩) (l.length * 7) (partE l k)) ∧ Hid (Below w.heap.size w wr)) (fun i _ => l.length - (intOf i).toNat)
  case atStart => exact ⟨0, Nat.zero_le _, rfl, lt_alloc _ _, HW, (Below.refl _ _).alloc (Nat.le_refl _) _⟩
  case round =>
    obtain ⟨k, hk, rfl, hsz, HW', HB⟩ := hrel
    by_cases hlt : k < l.length
    · obtain ⟨b, off, rfl, c0, c1, c2, c3, c4, c5, c6⟩ := Evs.at_ (HS.out.below HB.out) k hlt
      generalize hx : l.getD k Ev.none = x at c0 c1 c2 c3 c4 c5 c6
      have HX := hid hx
      clear hx
      have HC := hid (fun w => toEvent w x)
      unfold Ev.val at HC
      obtain ⟨xh, xx, xk, xv, xt, xa, xs⟩ := x
      simp only [] at c0 c1 c2 c3 c4 c5 c6 HC
      go_wp2_with fail
      refine (HC.out _).mono ?_
      rintro e w1 ⟨rfl, hb1⟩
      have HW1 := hid (HW'.out.below hb1)
      have HB1 := hid (HB.out.trans (hb1.mono (Nat.le_of_lt hsz)))
      have hsz1 : w.heap.size < w1.heap.size := Nat.lt_of_lt_of_le hsz hb1.size
      obtain ⟨⟨u0, d0⟩, ⟨u1, d1⟩, ⟨u2, d2⟩, ⟨u3, d3⟩, ⟨u4, d4⟩, ⟨u5, d5⟩, ⟨u6, d6⟩, z0, z1, z2, z3, z4, z5, z6⟩ := wr_seven HW1.out k (by omega)
      clear hb1 c0 c1 c2 c3 c4 c5 c6
      go_wp2
      refine ⟨⟨k + 1, by omega, by go_num, by simpa using hsz1, ?_, ((((((HB1.out.setCell (Nat.le_refl _) _).setCell (Nat.le_refl _) _).setCell (Nat.le_refl _) _).setCell (Nat.le_refl _) _).setCell (Nat.le_refl _) _).setCell (Nat.le_refl _) _).setCell (Nat.le_refl _) _⟩, by simp [intOf]; omega⟩
      exact (set7 HW1.out k (by omega) _ _ _ _ _ _ _).congr (fun j _ => by rw [← partE_succ, HX.out]; rfl)
    · obtain rfl : k = l.length := by omega
      go_wp2
      go_ret
      exact ⟨_, rfl, Nat.le_refl _, hsz, HW'.out.congr (fun i hi => by simp [partE, hi]), HB.out⟩

set_option maxRecDepth 100000 in
set_option maxHeartbeats 2000000 in
theorem eqOpE (w : World) (k v t a : Int) (s : ByteArray) : Calls Try.prog 41 #[opV k v t a s, opV k v t a s] w fun e w' => e = .returned (.bool true) ∧ Below w.heap.size w w' := by
  unfold opV
  go_enter Try.func41, Try.ntmps41
  go_wp2
  go_ret
  exact ⟨rfl, by go_grown⟩

set_option maxRecDepth 100000 in
set_option maxHeartbeats 2000000 in
theorem eqEvent (w : World) (x : Ev) : Calls Try.prog 26 #[x.val, x.val] w fun e w' => e = .returned (.bool true) ∧ Below w.heap.size w w' := by
  obtain ⟨h, x, k, v, t, a, s⟩ := x
  unfold Ev.val
  simp only []
  have HT := hid (fun w => eqOpE w k v t a s)
  unfold opV at HT
  obtain ⟨wa, hwa, ez, A0, C0, B0⟩ := two_new w [.int .i64 h, .int .i64 x, .int .i64 k, .int .i64 v, .int .i64 t, .int .i64 a, .string s] [.int .i64 h, .int .i64 x, .int .i64 k, .int .i64 v, .int .i64 t, .int .i64 a, .string s] 45 45
  have HB := hid B0
  have k0 := A0.c 0 rfl
  have k1 := A0.c 1 rfl
  have k2 := A0.c 2 rfl
  have k3 := A0.c 3 rfl
  have k4 := A0.c 4 rfl
  have k5 := A0.c 5 rfl
  have k6 := A0.c 6 rfl
  have m0 := C0.c 0 rfl
  have m1 := C0.c 1 rfl
  have m2 := C0.c 2 rfl
  have m3 := C0.c 3 rfl
  have m4 := C0.c 4 rfl
  have m5 := C0.c 5 rfl
  have m6 := C0.c 6 rfl
  clear A0 C0 B0
  go_enter Try.func26, Try.ntmps26
  go_wp2_with fail
  refine (HT.out _).mono ?_
  rintro e w1 ⟨rfl, b1⟩
  have HB1 := hid (HB.out.trans (b1.mono HB.out.size))
  clear b1
  go_wp2
  go_ret
  exact ⟨rfl, HB1.out⟩

set_option maxRecDepth 100000 in
set_option maxHeartbeats 2000000 in
theorem eqEventS (w : World) (a b : Option Addr) (ca cb : Nat) (l : List Ev) (S : Evs w a l) (T : Evs w b l) (hl : l.length ≤ maxLen) :
    Calls Try.prog 9 #[.slice a l.length ca, .slice b l.length cb] w fun e w' => e = .returned (.bool true) ∧ Below w.heap.size w w' := by
  unfold maxLen at hl
  have HS := hid S
  have HT := hid T
  clear S T
  go_enter Try.func9, Try.ntmps9
  go_wp2
  go_loopw [5] (fun i wr => ∃ k : Nat, k ≤ l.length ∧ i = .int .i64 (k : Int) ∧ Hid (Below w.heap.size w wr)) (fun i _ => l.length - (intOf i).toNat)
  case atStart => exact ⟨0, Nat.zero_le _, rfl, Below.refl _ _⟩
  case round =>
    obtain ⟨k, hk, rfl, HB⟩ := hrel
    by_cases hlt : k < l.length
    · obtain ⟨b1, o1, rfl, c0, c1, c2, c3, c4, c5, c6⟩ := Evs.at_ (HS.out.below HB.out) k hlt
      obtain ⟨b2, o2, rfl, d0, d1, d2, d3, d4, d5, d6⟩ := Evs.at_ (HT.out.below HB.out) k hlt
      generalize l.getD k Ev.none = x at c0 c1 c2 c3 c4 c5 c6 d0 d1 d2 d3 d4 d5 d6
      have HC := hid (fun w => eqEvent w x)
      unfold Ev.val at HC
      obtain ⟨xh, xx, xk, xv, xt, xa, xs⟩ := x
      simp only [] at c0 c1 c2 c3 c4 c5 c6 d0 d1 d2 d3 d4 d5 d6 HC
      have hne : Nonempty (BW wr) := ⟨⟨wr, Below.refl _ _⟩⟩
      replace c0 := BW.cell c0
      replace c1 := BW.cell c1
      replace c2 := BW.cell c2
      replace c3 := BW.cell c3
      replace c4 := BW.cell c4
      replace c5 := BW.cell c5
      replace c6 := BW.cell c6
      replace d0 := BW.cell d0
      replace d1 := BW.cell d1
      replace d2 := BW.cell d2
      replace d3 := BW.cell d3
      replace d4 := BW.cell d4
      replace d5 := BW.cell d5
      replace d6 := BW.cell d6
      go_wp2
      refine wp_region_bw (by kernel_rfl) (by kernel_rfl) ?_
      repeat (go_big_quiet_step (first
        | (go_at_call 26; refine bw_below (HC.out _))))
      refine wpQuiet_nil ?_
      intro _ hw'
      obtain ⟨u, rfl⟩ := hw'
      have HU := hid (HB.out.trans (u.bel.mono HB.out.size))
      clear c0 c1 c2 c3 c4 c5 c6 d0 d1 d2 d3 d4 d5 d6
      go_wp2
      exact ⟨⟨k + 1, by omega, by go_num, HU⟩, by simp [intOf]; omega⟩
    · obtain rfl : k = l.length := by omega
      go_wp2
      go_ret
      exact ⟨rfl, HB.out⟩

end Go.Proofs.Ytbnpnhcegoanmaa.Pl
