/-
  The walks of laws.toOp, laws.toOut, laws.toOutS and laws.toJournal: a journal laid anew. No condition but lists of at most 2^20.
-/
import Derived.Test.YtaopkchkhdbfnaaGreatDoorSecJnLaw
namespace Go.Proofs.YtaopkchkhdbfnaaGreatDoor.Sec
open Go.RowKit Go.Proofs.YtaopkchkhdbfnaaGreatDoor.Mem
set_option linter.unusedVariables false

set_option maxRecDepth 100000 in
set_option maxHeartbeats 1000000 in
theorem toOp (w : World) (k v t a : Int) (s : ByteArray) : Calls Tryz.prog 147 #[opV k v t a s] w fun e w' => e = .returned (opV k v t a s) ∧ Below w.heap.size w w' := by
  unfold opV
  go_enter Tryz.func147, Tryz.ntmps147
  go_wp2
  go_returns
  exact ⟨rfl, by go_grown⟩

set_option maxRecDepth 100000 in
set_option maxHeartbeats 1000000 in
theorem toOut (w : World) (x : Int) (s : ByteArray) : Calls Tryz.prog 251 #[.agg #[.int .i64 x, .string s]] w fun e w' => e = .returned (.agg #[.int .i64 x, .string s]) ∧ Below w.heap.size w w' := by
  go_enter Tryz.func251, Tryz.ntmps251
  go_wp2
  go_returns
  exact ⟨rfl, by go_grown⟩

theorem infoO : (Tryz.prog.info? 187).map (fun i => (i.zero, i.size, i.bytes)) = some (some (.agg #[.int .i64 0, .string ByteArray.empty]), 2, 24) := by kernel_rfl

/-- What stands in the new row behind k rounds. -/
def partO (l : List Ou) (k : Nat) (i : Nat) : Value := if i < k * 2 then ocell l i else Ou.none.cells.getD (i % 2) undef

theorem set2 {w : World} {B b : Nat} {m : Nat} {f : Nat → Value} (h : Wr w B (some ⟨b, 0, none⟩) m f) (k : Nat) (hk : k * 2 + 2 ≤ m) (v0 v1 : Value) :
    Wr ((w.setCell ⟨b, k * 2, none⟩ v0).setCell ⟨b, k * 2 + 1, none⟩ v1) B (some ⟨b, 0, none⟩) m (fun j => if j / 2 = k then [v0, v1].getD (j % 2) undef else f j) := by
  have h0 := h.set (k * 2) (by omega) v0
  have h1 := h0.set (k * 2 + 1) (by omega) v1
  simp only [Nat.zero_add] at h1
  refine h1.congr (fun j _ => ?_)
  by_cases hj : j / 2 = k
  · have : j = k * 2 ∨ j = k * 2 + 1 := by omega
    rcases this with rfl | rfl
    · rw [if_neg (by omega), if_pos rfl, if_pos (by omega), show k * 2 % 2 = 0 by omega]; rfl
    · rw [if_pos rfl, if_pos (by omega), show (k * 2 + 1) % 2 = 1 by omega]; rfl
  · rw [if_neg (by omega), if_neg (by omega), if_neg hj]

theorem partO_succ (l : List Ou) (k : Nat) (j : Nat) : (if j / 2 = k then [Value.int .i64 (l.getD k Ou.none).sec, .string (l.getD k Ou.none).text].getD (j % 2) undef else partO l k j) = partO l (k + 1) j := by
  unfold partO
  by_cases h : j / 2 = k
  · rw [if_pos h, if_pos (by omega)]
    unfold ocell
    rw [h]; rfl
  · by_cases h2 : j < k * 2
    · rw [if_neg h, if_pos h2, if_pos (by omega)]
    · rw [if_neg h, if_neg h2, if_neg (by omega)]

theorem wr_two {w : World} {B b : Nat} {m : Nat} {f : Nat → Value} (h : Wr w B (some ⟨b, 0, none⟩) m f) (k : Nat) (hk : k * 2 + 2 ≤ m) :
    (∃ v, w.cell? ⟨b, k * 2, none⟩ = some v) ∧ (∃ v, w.cell? ⟨b, k * 2 + 1, none⟩ = some v) ∧ w.frozen? ⟨b, k * 2, none⟩ = false ∧ w.frozen? ⟨b, k * 2 + 1, none⟩ = false := by
  obtain ⟨_, _, e0, _, h0, z0⟩ := h (k * 2) (by omega)
  obtain ⟨_, _, e1, _, h1, z1⟩ := h (k * 2 + 1) (by omega)
  cases e0; cases e1
  rw [Nat.zero_add] at h0 h1 z0 z1
  exact ⟨⟨_, h0⟩, ⟨_, h1⟩, z0, z1⟩

set_option maxRecDepth 100000 in
set_option maxHeartbeats 1000000 in
theorem toOutS (w : World) (a : Option Addr) (cap : Nat) (l : List Ou) (S : Ous w a l) (hl : l.length ≤ 1048576) :
    Calls Tryz.prog 210 #[.slice a l.length cap] w fun e w' => ∃ g, e = .returned (.slice (some ⟨g, 0, none⟩) l.length l.length) ∧ w.heap.size ≤ g ∧ g < w'.heap.size ∧ OusW w' w.heap.size (some ⟨g, 0, none⟩) l ∧ Below w.heap.size w w' := by
  have hmk := make_rows (P := Tryz.prog) 59 187 (.agg #[.int .i64 0, .string ByteArray.empty]) 2 24 Tryz.underlying59 infoO .i64 .i64 l.length (by omega) (by omega)
  have HS := hid S
  have hw0 := wr_new w (madeCells (Value.agg #[.int .i64 0, .string ByteArray.empty]).cells (l.length * 2)) 187 (l.length * 2) (partO l 0) (fun i hi => by
    simp [madeCells, hi, partO, Ou.none, Ou.cells, Value.cells]
    have : i % 2 = 0 ∨ i % 2 = 1 := by omega
    rcases this with h | h <;> simp [h])
  generalize madeCells (Value.agg #[.int .i64 0, .string ByteArray.empty]).cells (l.length * 2) = cur at hmk hw0
  have HW := hid hw0
  clear S hw0
  go_enter Tryz.func210, Tryz.ntmps210
  go_wp2
  go_loopw [4] (fun i wr => ∃ k : Nat, k ≤ l.length ∧ i = .int .i64 (k : Int) ∧ w.heap.size < wr.heap.size ∧ Hid (Wr wr w.heap.size (some ⟨w.heap.size, 0, none⟩) (l.length * 2) (partO l k)) ∧ Hid (Below w.heap.size w wr)) (fun i _ => l.length - (intOf i).toNat)
  case atStart => exact ⟨0, Nat.zero_le _, rfl, lt_alloc _ _, HW, (Below.refl _ _).alloc (Nat.le_refl _) _⟩
  case round =>
    obtain ⟨k, hk, rfl, hsz, HW', HB⟩ := hrel
    by_cases hlt : k < l.length
    · obtain ⟨b, off, rfl, c0, c1⟩ := Ous.at_ (HS.out.below HB.out) k hlt
      generalize hx : l.getD k Ou.none = x at c0 c1
      have HX := hid hx
      clear hx
      obtain ⟨xs, xt⟩ := x
      simp only [] at c0 c1
      go_wp2_with fail
      refine (toOut _ xs xt).mono ?_
      rintro e w1 ⟨rfl, hb1⟩
      have HW1 := hid (HW'.out.below hb1)
      have HB1 := hid (HB.out.trans (hb1.mono (Nat.le_of_lt hsz)))
      have hsz1 : w.heap.size < w1.heap.size := Nat.lt_of_lt_of_le hsz hb1.size
      obtain ⟨⟨u0, d0⟩, ⟨u1, d1⟩, z0, z1⟩ := wr_two HW1.out k (by omega)
      clear hb1 c0 c1
      go_wp2
      refine ⟨⟨k + 1, by omega, by go_num, by simpa using hsz1, ?_, (HB1.out.setCell (Nat.le_refl _) _).setCell (Nat.le_refl _) _⟩, by simp [intOf]; omega⟩
      exact (set2 HW1.out k (by omega) _ _).congr (fun j _ => by rw [← partO_succ, HX.out])
    · obtain rfl : k = l.length := by omega
      go_wp2
      go_ret
      exact ⟨_, rfl, Nat.le_refl _, hsz, HW'.out.congr (fun i hi => by simp [partO, hi]), HB.out⟩

/-- Cells stored one behind the other. -/
def puts (w : World) (g : Nat) : Nat → List Value → World
  | _, [] => w
  | i, v :: vs => puts (w.setCell ⟨g, i, none⟩ v) g (i + 1) vs

def listed (xs : List Value) : Nat → List Value → List Value
  | _, [] => xs
  | i, v :: vs => listed (xs.set i v) (i + 1) vs

theorem puts_row {w : World} {g : Nat} {xs : List Value} (h : Row w g xs) (i : Nat) (vs : List Value) : Row (puts w g i vs) g (listed xs i vs) := by
  induction vs generalizing w xs i with
  | nil => exact h
  | cons v vs ih => exact ih (h.set i v) (i + 1)

theorem puts_other {w : World} {g b : Nat} {xs : List Value} (h : Row w b xs) (hb : b ≠ g) (i : Nat) (vs : List Value) : Row (puts w g i vs) b xs := by
  induction vs generalizing w i with
  | nil => exact h
  | cons v vs ih => exact ih (h.other (p := ⟨g, i, none⟩) hb v) (i + 1)

theorem puts_kept (w : World) (g i : Nat) (vs : List Value) : Kept (fun b => b = g) w (puts w g i vs) := by
  induction vs generalizing w i with
  | nil => exact Kept.refl _ _
  | cons v vs ih => exact ((kept_set w g i v).trans (ih (w.setCell ⟨g, i, none⟩ v) (i + 1))).mono (fun b _ h => by rcases h with h | h <;> exact h)

theorem puts_below {B : Nat} {w w' : World} {g : Nat} (h : Below B w w') (hg : B ≤ g) (i : Nat) (vs : List Value) : Below B w (puts w' g i vs) := by
  induction vs generalizing w' i with
  | nil => exact h
  | cons v vs ih => exact ih (below_set h g i v hg) (i + 1)

theorem puts_size (w : World) (g i : Nat) (vs : List Value) : (puts w g i vs).heap.size = w.heap.size := by
  induction vs generalizing w i with
  | nil => rfl
  | cons v vs ih => rw [puts, ih]; simp

theorem three_news (w : World) (xs ys zs : List Value) (t u : TypeId) :
    ∃ wc, ((w.alloc (.cells xs.toArray t)).alloc (.cells ys.toArray u)).alloc (.cells zs.toArray u) = wc ∧ wc.heap.size = w.heap.size + 1 + 1 + 1 ∧
      Row wc w.heap.size xs ∧ Row wc (w.heap.size + 1) ys ∧ Row wc (w.heap.size + 1 + 1) zs ∧ Below w.heap.size w wc := by
  have e0 : (w.alloc (.cells xs.toArray t)).heap.size = w.heap.size + 1 := by simp
  have e1 : ((w.alloc (.cells xs.toArray t)).alloc (.cells ys.toArray u)).heap.size = w.heap.size + 1 + 1 := by simp
  have r1 := Row.new (w.alloc (.cells xs.toArray t)) ys u
  have r2 := Row.new ((w.alloc (.cells xs.toArray t)).alloc (.cells ys.toArray u)) zs u
  rw [e0] at r1
  rw [e1] at r2
  exact ⟨_, rfl, by simp, ((Row.new w xs t).alloc _).alloc _, r1.alloc _, r2, (((Below.refl _ _).alloc (Nat.le_refl _) _).alloc (by omega) _).alloc (by omega) _⟩

end Go.Proofs.YtaopkchkhdbfnaaGreatDoor.Sec
