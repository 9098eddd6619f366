/-
  The walks of laws.toOp, laws.toOut, laws.toOutS and laws.toJournal: a journal laid anew. No condition but lists of at most 2^20.
-/
import Derived.Test.YtfbnnhgaedficafDoorSecJnLaw
namespace Go.Proofs.YtfbnnhgaedficafDoor.Sec
open Go.RowKit Go.Proofs.YtfbnnhgaedficafDoor.Mem
set_option linter.unusedVariables false

set_option maxRecDepth 100000 in
set_option maxHeartbeats 1000000 in
theorem toOp (w : World) (k v t a : Int) (s : ByteArray) : Calls Tryd.prog 45 #[opV k v t a s] w fun e w' => e = .returned (opV k v t a s) ∧ Below w.heap.size w w' := by
  unfold opV
  go_enter Tryd.func45, Tryd.ntmps45
  go_wp2
  go_returns
  exact ⟨rfl, by go_grown⟩

set_option maxRecDepth 100000 in
set_option maxHeartbeats 1000000 in
theorem toOut (w : World) (x : Int) (s : ByteArray) : Calls Tryd.prog 82 #[.agg #[.int .i64 x, .string s]] w fun e w' => e = .returned (.agg #[.int .i64 x, .string s]) ∧ Below w.heap.size w w' := by
  go_enter Tryd.func82, Tryd.ntmps82
  go_wp2
  go_returns
  exact ⟨rfl, by go_grown⟩

theorem infoO : (Tryd.prog.info? 65).map (fun i => (i.zero, i.size, i.bytes)) = some (some (.agg #[.int .i64 0, .string ByteArray.empty]), 2, 24) := by kernel_rfl

/-- What stands in the new row behind k rounds. -/
def partO (l : List Ou) (k : Nat) (i : Nat) : Value := if i < k * 2 then ocell l i else Ou.none.cells.getD (i % 2) undef

theorem set2 {w : World} {B b : Nat} {m : Nat} {f : Nat → Value} (h : Wr w B (some ⟨b, 0, none⟩) m f) (k : Nat) (hk : k * 2 + 2 ≤ m) (v0 v1 : Value) :
    Wr ((w.setCell ⟨b, k * 2, none⟩ v0).setCell ⟨b, k * 2 + 1, none⟩ v1) B (some ⟨b, 0, none⟩) m (fun j => if j / 2 = k then [v0, v1].getD (j % 2) undef else f j) := by
  have h0 := h.set (k * 2) (by omega) v0
  have h1 := h0.set (k * 2 + 1) (by omega) v1
  simp only [Nat.zero_add] at h1
  refine h1.congr (fun j _ => ?_)
  by_cases hj : j / 2 = k
  · have : j = k * 2 ∨ j = k * 2 + 1 := by omega
    rcases this with rfl | rfl
    · rw [if_neg (by omega), if_pos rfl, if_pos (by omega), show k * 2 % 2 = 0 by omega]; rfl
    · rw [if_pos rfl, if_pos (by omega), show (k * 2 + 1) % 2 = 1 by omega]; rfl
  · rw [if_neg (by omega), if_neg (by omega), if_neg hj]

theorem partO_succ (l : List Ou) (k : Nat) (j : Nat) : (if j / 2 = k then [Value.int .i64 (l.getD k Ou.none).sec, .string (l.getD k Ou.none).text].getD (j % 2) undef else partO l k j) = partO l (k + 1) j := by
  unfold partO
  by_cases h : j / 2 = k
  · rw [if_pos h, if_pos (by omega)]
    unfold ocell
    rw [h]; rfl
  · by_cases h2 : j < k * 2
    · rw [if_neg h, if_pos h2, if_pos (by omega)]
    · rw [if_neg h, if_neg h2, if_neg (by omega)]

theorem wr_two {w : World} {B b : Nat} {m : Nat} {f : Nat → Value} (h : Wr w B (some ⟨b, 0, none⟩) m f) (k : Nat) (hk : k * 2 + 2 ≤ m) :
    (∃ v, w.cell? ⟨b, k * 2, none⟩ = some v) ∧ (∃ v, w.cell? ⟨b, k * 2 + 1, none⟩ = some v) ∧ w.frozen? ⟨b, k * 2, none⟩ = false ∧ w.frozen? ⟨b, k * 2 + 1, none⟩ = false := by
  obtain ⟨_, _, e0, _, h0, z0⟩ := h (k * 2) (by omega)
  obtain ⟨_, _, e1, _, h1, z1⟩ := h (k * 2 + 1) (by omega)
  cases e0; cases e1
  rw [Nat.zero_add] at h0 h1 z0 z1
  exact ⟨⟨_, h0⟩, ⟨_, h1⟩, z0, z1⟩

set_option maxRecDepth 100000 in
set_option maxHeartbeats 1000000 in
theorem toOutS (w : World) (a : Option Addr) (cap : Nat) (l : List Ou) (S : Ous w a l) (hl : l.length ≤ 1048576) :
    Calls Tryd.prog 46 #[.slice a l.length cap] w fun e w' => ∃ g, e = .returned (.slice (some ⟨g, 0, none⟩) l.length l.length) ∧ w.heap.size ≤ g ∧ g < w'.heap.size ∧ OusW w' w.heap.size (some ⟨g, 0, none⟩) l ∧ Below w.heap.size w w' := by
  have hmk := make_rows (P := Tryd.prog) 39 65 (.agg #[.int .i64 0, .string ByteArray.empty]) 2 24 Tryd.underlying39 infoO .i64 .i64 l.length (by omega) (by omega)
  have HS := hid S
  have hw0 := wr_new w (madeCells (Value.agg #[.int .i64 0, .string ByteArray.empty]).cells (l.length * 2)) 65 (l.length * 2) (partO l 0) (fun i hi => by
    simp [madeCells, hi, partO, Ou.none, Ou.cells, Value.cells]
    have : i % 2 = 0 ∨ i % 2 = 1 := by omega
    rcases this with h | h <;> simp [h])
  generalize madeCells (Value.agg #[.int .i64 0, .string ByteArray.empty]).cells (l.length * 2) = cur at hmk hw0
  have HW := hid hw0
  clear S hw0
  go_enter Tryd.func46, Tryd.ntmps46
  go_wp2
  go_loopw [4] (fun i wr => ∃ k : Nat, k ≤ l.length ∧ i = .int .i64 (k : Int) ∧ w.heap.size < wr.heap.size ∧ Hid (Wr wr w.heap.size (some ⟨w.heap.size, 0, none⟩) (l.length * 2) (partO l k)) ∧ Hid (Below w.heap.size w wr)) (fun i _ => l.length - (intOf i).toNat)
  case atStart => exact ⟨0, Nat.zero_le _, rfl, lt_alloc _ _, HW, (Below.refl _ _).alloc (Nat.le_refl _) _⟩
  case round =>
    obtain ⟨k, hk, rfl, hsz, HW', HB⟩ := hrel
    by_cases hlt : k < l.length
    · obtain ⟨b, off, rfl, c0, c1⟩ := Ous.at_ (HS.out.below HB.out) k hlt
      generalize hx : l.getD k Ou.none = x at c0 c1
      have HX := hid hx
      clear hx
      obtain ⟨xs, xt⟩ := x
      simp only [] at c0 c1
      go_wp2_with fail
      refine (toOut _ xs xt).mono ?_
      rintro e w1 ⟨rfl, hb1⟩
      have HW1 := hid (HW'.out.below hb1)
      have HB1 := hid (HB.out.trans (hb1.mono (Nat.le_of_lt hsz)))
      have hsz1 : w.heap.size < w1.heap.size := Nat.lt_of_lt_of_le hsz hb1.size
      obtain ⟨⟨u0, d0⟩, ⟨u1, d1⟩, z0, z1⟩ := wr_two HW1.out k (by omega)
      clear hb1 c0 c1
      go_wp2
      refine ⟨⟨k + 1, by omega, by go_num, by simpa using hsz1, ?_, (HB1.out.setCell (Nat.le_refl _) _).setCell (Nat.le_refl _) _⟩, by simp [intOf]; omega⟩
      exact (set2 HW1.out k (by omega) _ _).congr (fun j _ => by rw [← partO_succ, HX.out])
    · obtain rfl : k = l.length := by omega
      go_wp2
      go_ret
      exact ⟨_, rfl, Nat.le_refl _, hsz, HW'.out.congr (fun i hi => by simp [partO, hi]), HB.out⟩

/-- Cells stored one behind the other. -/
def puts (w : World) (g : Nat) : Nat → List Value → World
  | _, [] => w
  | i, v :: vs => puts (w.setCell ⟨g, i, none⟩ v) g (i + 1) vs

def listed (xs : List Value) : Nat → List Value → List Value
  | _, [] => xs
  | i, v :: vs => listed (xs.set i v) (i + 1) vs

theorem puts_row {w : World} {g : Nat} {xs : List Value} (h : Row w g xs) (i : Nat) (vs : List Value) : Row (puts w g i vs) g (listed xs i vs) := by
  induction vs generalizing w xs i with
  | nil => exact h
  | cons v vs ih => exact ih (h.set i v) (i + 1)

theorem puts_other {w : World} {g b : Nat} {xs : List Value} (h : Row w b xs) (hb : b ≠ g) (i : Nat) (vs : List Value) : Row (puts w g i vs) b xs := by
  induction vs generalizing w i with
  | nil => exact h
  | cons v vs ih => exact ih (h.other (p := ⟨g, i, none⟩) hb v) (i + 1)

theorem puts_kept (w : World) (g i : Nat) (vs : List Value) : Kept (fun b => b = g) w (puts w g i vs) := by
  induction vs generalizing w i with
  | nil => exact Kept.refl _ _
  | cons v vs ih => exact ((kept_set w g i v).trans (ih (w.setCell ⟨g, i, none⟩ v) (i + 1))).mono (fun b _ h => by rcases h with h | h <;> exact h)

theorem puts_below {B : Nat} {w w' : World} {g : Nat} (h : Below B w w') (hg : B ≤ g) (i : Nat) (vs : List Value) : Below B w (puts w' g i vs) := by
  induction vs generalizing w' i with
  | nil => exact h
  | cons v vs ih => exact ih (below_set h g i v hg) (i + 1)

theorem puts_size (w : World) (g i : Nat) (vs : List Value) : (puts w g i vs).heap.size = w.heap.size := by
  induction vs generalizing w i with
  | nil => rfl
  | cons v vs ih => rw [puts, ih]; simp

theorem three_news (w : World) (xs ys zs : List Value) (t u : TypeId) :
    ∃ wc, ((w.alloc (.cells xs.toArray t)).alloc (.cells ys.toArray u)).alloc (.cells zs.toArray u) = wc ∧ wc.heap.size = w.heap.size + 1 + 1 + 1 ∧
      Row wc w.heap.size xs ∧ Row wc (w.heap.size + 1) ys ∧ Row wc (w.heap.size + 1 + 1) zs ∧ Below w.heap.size w wc := by
  have e0 : (w.alloc (.cells xs.toArray t)).heap.size = w.heap.size + 1 := by simp
  have e1 : ((w.alloc (.cells xs.toArray t)).alloc (.cells ys.toArray u)).heap.size = w.heap.size + 1 + 1 := by simp
  have r1 := Row.new (w.alloc (.cells xs.toArray t)) ys u
  have r2 := Row.new ((w.alloc (.cells xs.toArray t)).alloc (.cells ys.toArray u)) zs u
  rw [e0] at r1
  rw [e1] at r2
  exact ⟨_, rfl, by simp, ((Row.new w xs t).alloc _).alloc _, r1.alloc _, r2, (((Below.refl _ _).alloc (Nat.le_refl _) _).alloc (by omega) _).alloc (by omega) _⟩

set_option maxRecDepth 100000 in
set_option maxHeartbeats 4000000 in
theorem toJournal (w : World) (J : Jn) (a : Option Addr) (cap : Nat) (S : Ous w a J.outs) (hl : J.outs.length ≤ 1048576) :
    Calls Tryd.prog 18 #[jnV J a cap] w fun r w' => ∃ g, r = .returned (jnV J (some ⟨g, 0, none⟩) J.outs.length) ∧ w.heap.size ≤ g ∧ g < w'.heap.size ∧ OusW w' w.heap.size (some ⟨g, 0, none⟩) J.outs ∧ Below w.heap.size w w' := by
  obtain ⟨txn, dn, k, v, t, at_, s, l⟩ := J
  have HV : Hid (∀ a cap, jnV ⟨txn, dn, k, v, t, at_, s, l⟩ a cap = .agg #[.int .i64 txn, .bool dn, .int .i64 k, .int .i64 v, .int .i64 t, .int .i64 at_, .string s, .slice a l.length cap]) := fun _ _ => rfl
  replace hl : l.length ≤ 1048576 := hl
  have HS : Hid (Ous w a l) := S
  rw [HV.out]
  clear S
  simp only [HV.out]
  go_enter Tryd.func18, Tryd.ntmps18
  go_wp2_with fail
  obtain ⟨wc, hwc, e2, A0, R0, O0, B0⟩ := three_news w [.int .i64 txn, .bool dn, .int .i64 k, .int .i64 v, .int .i64 t, .int .i64 at_, .string s, .slice a l.length cap] [.int .i64 0, .bool false, .int .i64 0, .int .i64 0, .int .i64 0, .int .i64 0, .string ⟨#[]⟩, .slice none 0 0] [.int .i64 txn, .bool dn, .int .i64 0, .int .i64 0, .int .i64 0, .int .i64 0, .string ⟨#[]⟩, .slice none 0 0] 35 41
  simp only [hwc]
  clear hwc
  refine (toOp wc k v t at_ s).mono ?_
  rintro r w1 ⟨rfl, b1⟩
  replace A0 := A0.below b1 (by omega)
  replace R0 := R0.below b1 (by omega)
  replace O0 := O0.below b1 (by omega)
  replace B0 := B0.trans (b1.mono (by omega))
  have hs1 := b1.size
  have ca := A0.c 7 rfl
  have co2 := O0.c 2 rfl
  have co3 := O0.c 3 rfl
  have co4 := O0.c 4 rfl
  have co5 := O0.c 5 rfl
  have co6 := O0.c 6 rfl
  have fo2 := O0.f 2
  have fo3 := O0.f 3
  have fo4 := O0.f 4
  have fo5 := O0.f 5
  have fo6 := O0.f 6
  have HA := hid A0
  have HR := hid R0
  have HO := hid O0
  clear A0 R0 O0 b1
  unfold opV
  go_wp2_with fail
  obtain ⟨w1', hw1', A0, R0, O0, B1, es⟩ : ∃ w1', ((((w1.setCell ⟨w.heap.size + 1 + 1, 2, none⟩ (.int .i64 k)).setCell ⟨w.heap.size + 1 + 1, 3, none⟩ (.int .i64 v)).setCell ⟨w.heap.size + 1 + 1, 4, none⟩ (.int .i64 t)).setCell ⟨w.heap.size + 1 + 1, 5, none⟩ (.int .i64 at_)).setCell ⟨w.heap.size + 1 + 1, 6, none⟩ (.string s) = w1' ∧ Row w1' w.heap.size _ ∧ Row w1' (w.heap.size + 1) _ ∧ Row w1' (w.heap.size + 1 + 1) _ ∧ Below w.heap.size w w1' ∧ w1'.heap.size = w1.heap.size :=
    ⟨_, rfl, puts_other HA.out (by omega) 2 [.int .i64 k, .int .i64 v, .int .i64 t, .int .i64 at_, .string s], puts_other HR.out (by omega) 2 [.int .i64 k, .int .i64 v, .int .i64 t, .int .i64 at_, .string s], puts_row HO.out 2 [.int .i64 k, .int .i64 v, .int .i64 t, .int .i64 at_, .string s], puts_below B0 (by omega) 2 [.int .i64 k, .int .i64 v, .int .i64 t, .int .i64 at_, .string s], puts_size w1 _ 2 [.int .i64 k, .int .i64 v, .int .i64 t, .int .i64 at_, .string s]⟩
  simp only [hw1']
  clear hw1' ca co2 co3 co4 co5 co6 fo2 fo3 fo4 fo5 fo6 HA HR HO B0
  refine (toOutS w1' a cap l (HS.out.below B1) hl).mono ?_
  rintro r w2 ⟨g, rfl, hg, hl2, S2, b2⟩
  replace R0 := R0.below b2 R0.lt
  replace O0 := O0.below b2 O0.lt
  replace B1 := B1.trans (b2.mono (by omega))
  have d0 := O0.c 0 rfl
  have d1 := O0.c 1 rfl
  have d2 := O0.c 2 rfl
  have d3 := O0.c 3 rfl
  have d4 := O0.c 4 rfl
  have d5 := O0.c 5 rfl
  have d6 := O0.c 6 rfl
  have d7 := O0.c 7 rfl
  have fd := O0.f 7
  have r0 := R0.c 0 rfl
  have r1 := R0.c 1 rfl
  have r2 := R0.c 2 rfl
  have r3 := R0.c 3 rfl
  have r4 := R0.c 4 rfl
  have r5 := R0.c 5 rfl
  have r6 := R0.c 6 rfl
  have r7 := R0.c 7 rfl
  have f0 := R0.f 0
  have f1 := R0.f 1
  have f2 := R0.f 2
  have f3 := R0.f 3
  have f4 := R0.f 4
  have f5 := R0.f 5
  have f6 := R0.f 6
  have f7 := R0.f 7
  have HS2 := hid S2
  have HB := hid B1
  have HR := hid (puts_row (R0.other (p := ⟨w.heap.size + 1 + 1, 7, none⟩) (by show w.heap.size + 1 ≠ w.heap.size + 1 + 1; omega) (.slice (some ⟨g, 0, none⟩) l.length l.length)) 0 [.int .i64 txn, .bool dn, .int .i64 k, .int .i64 v, .int .i64 t, .int .i64 at_, .string s, .slice (some ⟨g, 0, none⟩) l.length l.length])
  clear R0 O0 b2 S2 B1 A0
  go_wp2
  refine bodyPost_ret (results_row rfl _ _ (w.heap.size + 1) [.int .i64 txn, .bool dn, .int .i64 k, .int .i64 v, .int .i64 t, .int .i64 at_, .string s, .slice (some ⟨g, 0, none⟩) l.length l.length] _ rfl HR.out Tryd.underlying41 rfl (by kernel_rfl)) rfl ?_
  refine ⟨g, rfl, by omega, by simpa using hl2, ?_, ?_⟩
  · exact (HS2.out.move (((kept_set _ _ _ _).trans (puts_kept _ (w.heap.size + 1) 0 [.int .i64 txn, .bool dn, .int .i64 k, .int .i64 v, .int .i64 t, .int .i64 at_, .string s, .slice (some ⟨g, 0, none⟩) l.length l.length])).mono (T := fun b => b < wc.heap.size) (fun b _ hb => by rcases hb with h | h <;> omega)) (fun b hb => by have := HS2.out.foot_ge hb; omega)).mono (by omega)
  · exact puts_below (below_set HB.out (w.heap.size + 1 + 1) 7 _ (by omega)) (by omega) 0 [.int .i64 txn, .bool dn, .int .i64 k, .int .i64 v, .int .i64 t, .int .i64 at_, .string s, .slice (some ⟨g, 0, none⟩) l.length l.length]

end Go.Proofs.YtfbnnhgaedficafDoor.Sec
