/-
  Lists of sectors with texts in memory: right ones, sizes, laid anew, compared. No condition but lists of at most 2^20.
-/
import Derived.Test.YtllgjoflhjnnaaaRows
import Derived.Test.YtllgjoflhjnnaaaQuietB
import Derived.Test.YtllgjoflhjnnaaaEqDisk
import Derived.Laws.StructEq
import Derived.WalkSpells
import Derived.WalkLawsBesides
namespace Go.Proofs.Ytllgjoflhjnnaaa.Sec
open Go.RowKit Go.Proofs.Ytllgjoflhjnnaaa.Mem
set_option linter.unusedVariables false

set_option maxHeartbeats 400000 in
theorem isFrom (x lo hi : Int) (w : World) :
    Calls Try.prog 25 #[.int .i64 x, .int .i64 lo, .int .i64 hi] w fun e w' => e = .returned (.bool (decide (lo ≤ x ∧ x ≤ hi))) ∧ w' = w := by
  by_cases h1 : lo ≤ x
  · by_cases h2 : x ≤ hi
    · rw [decide_eq_true (And.intro h1 h2)]
      go_enter Try.func25, Try.ntmps25
      go_wp2
      go_ret
      exact ⟨rfl, rfl⟩
    · rw [decide_eq_false (fun h => h2 h.2)]
      go_enter Try.func25, Try.ntmps25
      go_wp2
      go_ret
      exact ⟨rfl, rfl⟩
  · rw [decide_eq_false (fun h => h1 h.1)]
    go_enter Try.func25, Try.ntmps25
    go_wp2
    go_ret
    exact ⟨rfl, rfl⟩

/-- A sector that a journal writes. -/
structure Ou where
  sec : Int
  text : ByteArray

def Ou.none : Ou := ⟨0, ByteArray.empty⟩

def Ou.cells (x : Ou) : List Value := [.int .i64 x.sec, .string x.text]

/-- Cell i of a list of them, two cells each. -/
def ocell (l : List Ou) (i : Nat) : Value := (l.getD (i / 2) Ou.none).cells.getD (i % 2) undef

def Ous (w : World) (a : Option Addr) (l : List Ou) : Prop := Sl w a (l.length * 2) (ocell l)

def OusW (w : World) (B : Nat) (a : Option Addr) (l : List Ou) : Prop := Wr w B a (l.length * 2) (ocell l)

theorem ocell_at (l : List Ou) (k j : Nat) (hj : j < 2) : ocell l (k * 2 + j) = (l.getD k Ou.none).cells.getD j undef := by
  unfold ocell
  rw [show (k * 2 + j) / 2 = k by omega, show (k * 2 + j) % 2 = j by omega]

theorem Ous.at_ {w : World} {a : Option Addr} {l : List Ou} (h : Ous w a l) (k : Nat) (hk : k < l.length) : ∃ b off, a = some ⟨b, off, none⟩ ∧
    w.cell? ⟨b, off + k * 2, none⟩ = some (.int .i64 (l.getD k Ou.none).sec) ∧ w.cell? ⟨b, off + k * 2 + 1, none⟩ = some (.string (l.getD k Ou.none).text) := by
  obtain ⟨b, off, rfl, h0⟩ := h (k * 2 + 0) (by omega)
  obtain ⟨b1, off1, e1, h1⟩ := h (k * 2 + 1) (by omega)
  cases e1
  rw [ocell_at l k _ (by omega)] at h0 h1
  exact ⟨b, off, rfl, h0, by rw [Nat.add_assoc]; exact h1⟩

/-- Number i of the list is right. -/
def outAt (l : List Ou) (i : Nat) : Prop := (0 ≤ (l.getD i Ou.none).sec ∧ (l.getD i Ou.none).sec ≤ 33) ∧ (0 < i → (l.getD (i - 1) Ou.none).sec < (l.getD i Ou.none).sec) ∧ ((l.getD i Ou.none).text.size : Int) ≤ 60

theorem outAt_dec (l : List Ou) : Nonempty (DecidablePred (outAt l)) := ⟨fun i => by unfold outAt; exact inferInstance⟩

def outsOk (l : List Ou) : Bool := (List.range l.length).all fun i => decide (0 ≤ (l.getD i Ou.none).sec ∧ (l.getD i Ou.none).sec ≤ 33) && decide (0 < i → (l.getD (i - 1) Ou.none).sec < (l.getD i Ou.none).sec) && decide (((l.getD i Ou.none).text.size : Int) ≤ 60)

theorem outsOk_iff (l : List Ou) : outsOk l = true ↔ ∀ i, i < l.length → outAt l i := by
  unfold outsOk outAt
  rw [List.all_eq_true]
  constructor
  · intro h i hi
    have := h i (List.mem_range.2 hi)
    rw [Bool.and_eq_true, Bool.and_eq_true] at this
    exact ⟨of_decide_eq_true this.1.1, of_decide_eq_true this.1.2, of_decide_eq_true this.2⟩
  · intro h i hi
    obtain ⟨a, b, c⟩ := h i (List.mem_range.1 hi)
    rw [Bool.and_eq_true, Bool.and_eq_true]
    exact ⟨⟨decide_eq_true a, decide_eq_true b⟩, decide_eq_true c⟩

theorem outsOk_no {l : List Ou} (i : Nat) (hi : i < l.length) (h : ¬ outAt l i) : outsOk l = false := by
  cases e : outsOk l with
  | false => rfl
  | true => exact absurd ((outsOk_iff l).1 e i hi) h

/-- The lowest sector that may follow the first k. -/
def low (l : List Ou) (k : Nat) : Int := if k = 0 then 0 else (l.getD (k - 1) Ou.none).sec + 1

theorem low_iff (l : List Ou) (k : Nat) (h : ∀ i, i < k → outAt l i) : (low l k ≤ (l.getD k Ou.none).sec ∧ (l.getD k Ou.none).sec ≤ 33) ↔ ((0 ≤ (l.getD k Ou.none).sec ∧ (l.getD k Ou.none).sec ≤ 33) ∧ (0 < k → (l.getD (k - 1) Ou.none).sec < (l.getD k Ou.none).sec)) := by
  unfold low
  by_cases hk : k = 0
  · subst hk; simp
  · rw [if_neg hk]
    have := (h (k - 1) (by omega)).1
    constructor
    · intro x; exact ⟨by omega, fun _ => by omega⟩
    · intro x; have := x.2 (by omega); omega

theorem low_bd (l : List Ou) (k : Nat) (h : ∀ i, i < k → outAt l i) : 0 ≤ low l k ∧ low l k ≤ 34 := by
  unfold low
  by_cases hk : k = 0
  · rw [if_pos hk]; omega
  · rw [if_neg hk]
    have := (h (k - 1) (by omega)).1
    omega

theorem low_succ (l : List Ou) (k : Nat) : low l (k + 1) = (l.getD k Ou.none).sec + 1 := rfl

theorem outs_step {l : List Ou} {k : Nat} (h : ∀ i, i < k → outAt l i) (hk : outAt l k) : ∀ i, i < k + 1 → outAt l i := fun i hi => by
  by_cases e : i = k
  · rw [e]; exact hk
  · exact h i (by omega)

set_option maxRecDepth 100000 in
set_option maxHeartbeats 1000000 in
theorem areOuts (w : World) (a : Option Addr) (cap : Nat) (l : List Ou) (S : Ous w a l) (hl : l.length ≤ 1048576) (hs : ∀ x ∈ l, x.text.size ≤ 1048576) :
    Calls Try.prog 48 #[.slice a l.length cap] w fun e w' => e = .returned (.bool (decide (l.length ≤ 8) && outsOk l)) ∧ Below w.heap.size w w' := by
  have HS := hid S
  have Hs : Hid (∀ k, (l.getD k Ou.none).text.size ≤ 1048576) := fun k => by
    by_cases h : k < l.length
    · exact hs _ (by simp [List.getD, h])
    · simp [List.getD, h, Ou.none]
  clear S hs
  by_cases hg : 8 < (l.length : Int)
  · have hg' : decide (l.length ≤ 8) = false := decide_eq_false (by omega)
    rw [hg']
    clear hg'
    go_enter Try.func48, Try.ntmps48
    go_wp2
    go_ret
    exact ⟨rfl, Below.refl _ _⟩
  have hg' : decide (l.length ≤ 8) = true := decide_eq_true (by omega)
  rw [hg', Bool.true_and]
  clear hg'
  have HZ := hid (low_succ l)
  go_enter Try.func48, Try.ntmps48
  go_wp2
  go_loopw [3, 11] (fun lo i wr => ∃ k : Nat, k ≤ l.length ∧ i = .int .i64 (k : Int) ∧ lo = .int .i64 (low l k) ∧ Hid (∀ i, i < k → outAt l i) ∧ Hid (Below w.heap.size w wr)) (fun _ i _ => l.length - (intOf i).toNat)
  case atStart => exact ⟨0, Nat.zero_le _, rfl, rfl, fun i hi => by omega, Below.refl _ _⟩
  case round =>
    obtain ⟨k, hk, rfl, rfl, HK, HB⟩ := hrel
    by_cases hlt : k < l.length
    · obtain ⟨b, off, rfl, c0, c1⟩ := Ous.at_ (HS.out.below HB.out) k hlt
      have HI := hid (low_iff l k HK.out)
      have hbd := low_bd l k HK.out
      have hsz := Hs.out k
      have HN := hid (outsOk_no k hlt)
      have HST := hid (fun h => outs_step (k := k) HK.out h)
      have HLS := hid (low_succ l k)
      have HAt : Hid (outAt l k ↔ ((0 ≤ (l.getD k Ou.none).sec ∧ (l.getD k Ou.none).sec ≤ 33) ∧ (0 < k → (l.getD (k - 1) Ou.none).sec < (l.getD k Ou.none).sec)) ∧ ((l.getD k Ou.none).text.size : Int) ≤ 60) := by
        unfold outAt
        exact ⟨fun x => ⟨⟨x.1, x.2.1⟩, x.2.2⟩, fun x => ⟨x.1.1, x.1.2, x.2⟩⟩
      rw [← HI.out] at HAt
      generalize l.getD k Ou.none = x at c0 c1 hsz HAt HLS
      clear HI
      obtain ⟨xs, xt⟩ := x
      simp only [] at c0 c1 hsz HAt HLS
      generalize low l k = lo at *
      go_wp2_with fail
      obtain ⟨wo, hwo, ez, O0, B0⟩ := one_new wr [.int .i64 xs, .string xt] 60
      simp only [hwo]
      have d0 := O0.c 0 rfl
      have d1 := O0.c 1 rfl
      have HBo := hid (HB.out.trans (B0.mono HB.out.size))
      clear hwo O0 B0 c0 c1
      by_cases c : lo ≤ xs ∧ xs ≤ 33
      · have c' := decide_eq_true c
        refine (c' ▸ isFrom xs lo 33 _).mono ?_
        rintro e w1 ⟨rfl, hw⟩
        obtain rfl := hw.symm
        by_cases h60 : 60 < (xt.size : Int)
        · have HR := hid (HN.out (fun x => by have := (HAt.out.1 x).2; omega))
          clear c
          go_wp2
          go_ret
          exact ⟨by rw [HR.out]; rfl, HBo.out⟩
        · have HR := hid (HST.out (HAt.out.2 ⟨c, by omega⟩))
          have hx33 : xs ≤ 33 := c.2
          have hx0 : 0 ≤ xs := by omega
          clear c
          go_wp2
          exact ⟨⟨k + 1, by omega, by go_num, by rw [HLS.out], HR, HBo⟩, by simp [intOf]; omega⟩
      · have c' := decide_eq_false c
        have HR := hid (HN.out (fun x => c (HAt.out.1 x).1))
        clear c
        refine (c' ▸ isFrom xs lo 33 _).mono ?_
        rintro e w1 ⟨rfl, hw⟩
        obtain rfl := hw.symm
        go_wp2
        go_ret
        exact ⟨by rw [HR.out]; rfl, HBo.out⟩
    · obtain rfl : k = l.length := by omega
      have HR := hid ((outsOk_iff l).2 HK.out)
      go_wp2
      go_ret
      exact ⟨by rw [HR.out]; rfl, HB.out⟩

set_option maxRecDepth 100000 in
set_option maxHeartbeats 1000000 in
theorem szOut (w : World) (xs : Int) (s : ByteArray) (left : Int) (hl : s.size ≤ maxLen) (h0 : 0 ≤ left) (h1 : left ≤ 1048576) :
    Calls Try.prog 46 #[.agg #[.int .i64 xs, .string s], .int .i64 left] w fun e w' => ∃ r, e = .returned (.int .i64 r) ∧ Below w.heap.size w w' ∧ FitN r left s.size := by
  unfold maxLen at hl
  by_cases hb : left < (s.size : Int)
  · go_enter Try.func46, Try.ntmps46
    go_wp2
    go_ret
    exact ⟨_, rfl, by go_grown, Or.inl (by decide)⟩
  · go_enter Try.func46, Try.ntmps46
    go_wp2
    go_ret
    exact ⟨_, rfl, by go_grown, Or.inr ⟨by omega, by omega, by omega⟩⟩

/-- What is left: a number below 0, or one not above what was, and all fits. -/
def FitO (r left : Int) (l : List Ou) : Prop := r < 0 ∨ (0 ≤ r ∧ r ≤ left ∧ (l.length : Int) ≤ left ∧ ∀ x ∈ l, (x.text.size : Int) ≤ left)

set_option maxRecDepth 100000 in
set_option maxHeartbeats 1000000 in
theorem szOutS (w : World) (a : Option Addr) (cap : Nat) (l : List Ou) (left : Int) (S : Ous w a l) (hl : l.length ≤ maxLen) (hs : ∀ x ∈ l, x.text.size ≤ maxLen) (h0 : 0 ≤ left) (h1 : left ≤ 1048576) :
    Calls Try.prog 36 #[.slice a l.length cap, .int .i64 left] w fun e w' => ∃ r, e = .returned (.int .i64 r) ∧ Below w.heap.size w w' ∧ FitO r left l := by
  unfold maxLen at hl
  have HS := hid S
  have Hs := hid hs
  clear S hs
  by_cases hb : left < (l.length : Int)
  · go_enter Try.func36, Try.ntmps36
    go_wp2
    go_ret
    exact ⟨_, rfl, Below.refl _ _, Or.inl (by decide)⟩
  go_enter Try.func36, Try.ntmps36
  go_wp2
  go_loopw [1, 5] (fun z i wr => ∃ (k : Nat) (m : Int), k ≤ l.length ∧ i = .int .i64 (k : Int) ∧ z = .int .i64 m ∧ 0 ≤ m ∧ m ≤ left ∧ Hid (∀ j, j < k → ((l.getD j Ou.none).text.size : Int) ≤ left) ∧ Hid (Below w.heap.size w wr)) (fun _ i _ => l.length - (intOf i).toNat)
  case atStart => exact ⟨0, left - l.length, Nat.zero_le _, rfl, rfl, by omega, by omega, fun j hj => by omega, Below.refl _ _⟩
  case round =>
    obtain ⟨k, m, hk, rfl, rfl, hm0, hm1, HJ, HB⟩ := hrel
    by_cases hlt : k < l.length
    · obtain ⟨b, off, rfl, c0, c1⟩ := Ous.at_ (HS.out.below HB.out) k hlt
      have hx : (l.getD k Ou.none).text.size ≤ maxLen := Hs.out _ (by simp [List.getD, hlt])
      generalize hq : l.getD k Ou.none = x at c0 c1 hx
      have HX := hid hq
      clear hq
      obtain ⟨xs, xt⟩ := x
      simp only [] at c0 c1 hx
      go_wp2_with fail
      refine (szOut wr xs xt m hx hm0 (by omega)).mono ?_
      rintro e w1 ⟨r, rfl, b1, hf⟩
      have HB1 := hid (HB.out.trans (b1.mono HB.out.size))
      have HF := hid hf
      clear b1 hf c0 c1 hx
      by_cases hr : r < 0
      · go_wp2
        go_ret
        exact ⟨_, rfl, HB1.out, Or.inl (by decide)⟩
      · have hf : 0 ≤ r ∧ r ≤ m ∧ (xt.size : Int) ≤ m := by
          rcases HF.out with h | h
          · omega
          · exact h
        have hf1 := hf.1
        have hf2 := hf.2.1
        have HF2 := hid hf.2.2
        clear hf HF
        go_wp2
        exact ⟨⟨k + 1, r, by omega, by go_num, rfl, hf1, by omega, fun j hj => by
          by_cases h : j = k
          · subst h; rw [HX.out]; have := HF2.out; show (xt.size : Int) ≤ left; omega
          · exact HJ.out j (by omega), HB1⟩, by simp [intOf]; omega⟩
    · obtain rfl : k = l.length := by omega
      go_wp2
      go_ret
      refine ⟨_, rfl, HB.out, Or.inr ⟨hm0, hm1, by omega, fun x hx => ?_⟩⟩
      obtain ⟨j, hj, rfl⟩ := List.getElem_of_mem hx
      have := HJ.out j hj
      rwa [List.getD, List.getElem?_eq_getElem hj] at this

set_option maxRecDepth 100000 in
set_option maxHeartbeats 1000000 in
theorem toOut (w : World) (x : Int) (s : ByteArray) : Calls Try.prog 47 #[.agg #[.int .i64 x, .string s]] w fun e w' => e = .returned (.agg #[.int .i64 x, .string s]) ∧ Below w.heap.size w w' := by
  go_enter Try.func47, Try.ntmps47
  go_wp2
  go_returns
  exact ⟨rfl, by go_grown⟩

theorem infoO : (Try.prog.info? 60).map (fun i => (i.zero, i.size, i.bytes)) = some (some (.agg #[.int .i64 0, .string ByteArray.empty]), 2, 24) := by kernel_rfl

/-- What stands in the new row behind k rounds. -/
def partO (l : List Ou) (k : Nat) (i : Nat) : Value := if i < k * 2 then ocell l i else Ou.none.cells.getD (i % 2) undef

theorem set2 {w : World} {B b : Nat} {m : Nat} {f : Nat → Value} (h : Wr w B (some ⟨b, 0, none⟩) m f) (k : Nat) (hk : k * 2 + 2 ≤ m) (v0 v1 : Value) :
    Wr ((w.setCell ⟨b, k * 2, none⟩ v0).setCell ⟨b, k * 2 + 1, none⟩ v1) B (some ⟨b, 0, none⟩) m (fun j => if j / 2 = k then [v0, v1].getD (j % 2) undef else f j) := by
  have h0 := h.set (k * 2) (by omega) v0
  have h1 := h0.set (k * 2 + 1) (by omega) v1
  simp only [Nat.zero_add] at h1
  refine h1.congr (fun j _ => ?_)
  by_cases hj : j / 2 = k
  · have : j = k * 2 ∨ j = k * 2 + 1 := by omega
    rcases this with rfl | rfl
    · rw [if_neg (by omega), if_pos rfl, if_pos (by omega), show k * 2 % 2 = 0 by omega]; rfl
    · rw [if_pos rfl, if_pos (by omega), show (k * 2 + 1) % 2 = 1 by omega]; rfl
  · rw [if_neg (by omega), if_neg (by omega), if_neg hj]

theorem partO_succ (l : List Ou) (k : Nat) (j : Nat) : (if j / 2 = k then [Value.int .i64 (l.getD k Ou.none).sec, .string (l.getD k Ou.none).text].getD (j % 2) undef else partO l k j) = partO l (k + 1) j := by
  unfold partO
  by_cases h : j / 2 = k
  · rw [if_pos h, if_pos (by omega)]
    unfold ocell
    rw [h]; rfl
  · by_cases h2 : j < k * 2
    · rw [if_neg h, if_pos h2, if_pos (by omega)]
    · rw [if_neg h, if_neg h2, if_neg (by omega)]

theorem wr_two {w : World} {B b : Nat} {m : Nat} {f : Nat → Value} (h : Wr w B (some ⟨b, 0, none⟩) m f) (k : Nat) (hk : k * 2 + 2 ≤ m) :
    (∃ v, w.cell? ⟨b, k * 2, none⟩ = some v) ∧ (∃ v, w.cell? ⟨b, k * 2 + 1, none⟩ = some v) ∧ w.frozen? ⟨b, k * 2, none⟩ = false ∧ w.frozen? ⟨b, k * 2 + 1, none⟩ = false := by
  obtain ⟨_, _, e0, _, h0, z0⟩ := h (k * 2) (by omega)
  obtain ⟨_, _, e1, _, h1, z1⟩ := h (k * 2 + 1) (by omega)
  cases e0; cases e1
  rw [Nat.zero_add] at h0 h1 z0 z1
  exact ⟨⟨_, h0⟩, ⟨_, h1⟩, z0, z1⟩

set_option maxRecDepth 100000 in
set_option maxHeartbeats 1000000 in
theorem toOutS (w : World) (a : Option Addr) (cap : Nat) (l : List Ou) (S : Ous w a l) (hl : l.length ≤ 1048576) :
    Calls Try.prog 38 #[.slice a l.length cap] w fun e w' => ∃ g, e = .returned (.slice (some ⟨g, 0, none⟩) l.length l.length) ∧ w.heap.size ≤ g ∧ g < w'.heap.size ∧ OusW w' w.heap.size (some ⟨g, 0, none⟩) l ∧ Below w.heap.size w w' := by
  have hmk := make_rows (P := Try.prog) 32 60 (.agg #[.int .i64 0, .string ByteArray.empty]) 2 24 Try.underlying32 infoO .i64 .i64 l.length (by omega) (by omega)
  have HS := hid S
  have hw0 := wr_new w (madeCells (Value.agg #[.int .i64 0, .string ByteArray.empty]).cells (l.length * 2)) 60 (l.length * 2) (partO l 0) (fun i hi => by
    simp [madeCells, hi, partO, Ou.none, Ou.cells, Value.cells]
    have : i % 2 = 0 ∨ i % 2 = 1 := by omega
    rcases this with h | h <;> simp [h])
  generalize madeCells (Value.agg #[.int .i64 0, .string ByteArray.empty]).cells (l.length * 2) = cur at hmk hw0
  have HW := hid hw0
  clear S hw0
  go_enter Try.func38, Try.ntmps38
  go_wp2
  go_loopw [4] (fun i wr => ∃ k : Nat, k ≤ l.length ∧ i = .int .i64 (k : Int) ∧ w.heap.size < wr.heap.size ∧ Hid (Wr wr w.heap.size (some ⟨w.heap.size, 0, none⟩) (l.length * 2) (partO l k)) ∧ Hid (Below w.heap.size w wr)) (fun i _ => l.length - (intOf i).toNat)
  case atStart => exact ⟨0, Nat.zero_le _, rfl, lt_alloc _ _, HW, (Below.refl _ _).alloc (Nat.le_refl _) _⟩
  case round =>
    obtain ⟨k, hk, rfl, hsz, HW', HB⟩ := hrel
    by_cases hlt : k < l.length
    · obtain ⟨b, off, rfl, c0, c1⟩ := Ous.at_ (HS.out.below HB.out) k hlt
      generalize hx : l.getD k Ou.none = x at c0 c1
      have HX := hid hx
      clear hx
      obtain ⟨xs, xt⟩ := x
      simp only [] at c0 c1
      go_wp2_with fail
      refine (toOut _ xs xt).mono ?_
      rintro e w1 ⟨rfl, hb1⟩
      have HW1 := hid (HW'.out.below hb1)
      have HB1 := hid (HB.out.trans (hb1.mono (Nat.le_of_lt hsz)))
      have hsz1 : w.heap.size < w1.heap.size := Nat.lt_of_lt_of_le hsz hb1.size
      obtain ⟨⟨u0, d0⟩, ⟨u1, d1⟩, z0, z1⟩ := wr_two HW1.out k (by omega)
      clear hb1 c0 c1
      go_wp2
      refine ⟨⟨k + 1, by omega, by go_num, by simpa using hsz1, ?_, (HB1.out.setCell (Nat.le_refl _) _).setCell (Nat.le_refl _) _⟩, by simp [intOf]; omega⟩
      exact (set2 HW1.out k (by omega) _ _).congr (fun j _ => by rw [← partO_succ, HX.out])
    · obtain rfl : k = l.length := by omega
      go_wp2
      go_ret
      exact ⟨_, rfl, Nat.le_refl _, hsz, HW'.out.congr (fun i hi => by simp [partO, hi]), HB.out⟩

set_option maxRecDepth 100000 in
set_option maxHeartbeats 1000000 in
theorem eqOut (w : World) (x : Int) (s : ByteArray) : Calls Try.prog 49 #[.agg #[.int .i64 x, .string s], .agg #[.int .i64 x, .string s]] w fun e w' => e = .returned (.bool true) ∧ Below w.heap.size w w' := by
  go_enter Try.func49, Try.ntmps49
  go_wp2
  go_ret
  exact ⟨rfl, by go_grown⟩

set_option maxRecDepth 100000 in
set_option maxHeartbeats 1000000 in
theorem eqOutS (w : World) (a b : Option Addr) (ca cb : Nat) (l : List Ou) (S : Ous w a l) (T : Ous w b l) (hl : l.length ≤ maxLen) :
    Calls Try.prog 41 #[.slice a l.length ca, .slice b l.length cb] w fun e w' => e = .returned (.bool true) ∧ Below w.heap.size w w' := by
  unfold maxLen at hl
  have HS := hid S
  have HT := hid T
  clear S T
  go_enter Try.func41, Try.ntmps41
  go_wp2
  go_loopw [5] (fun i wr => ∃ k : Nat, k ≤ l.length ∧ i = .int .i64 (k : Int) ∧ Hid (Below w.heap.size w wr)) (fun i _ => l.length - (intOf i).toNat)
  case atStart => exact ⟨0, Nat.zero_le _, rfl, Below.refl _ _⟩
  case round =>
    obtain ⟨k, hk, rfl, HB⟩ := hrel
    by_cases hlt : k < l.length
    · obtain ⟨b1, o1, rfl, c0, c1⟩ := Ous.at_ (HS.out.below HB.out) k hlt
      obtain ⟨b2, o2, rfl, d0, d1⟩ := Ous.at_ (HT.out.below HB.out) k hlt
      generalize l.getD k Ou.none = x at c0 c1 d0 d1
      obtain ⟨xs, xt⟩ := x
      simp only [] at c0 c1 d0 d1
      have hne : Nonempty (BW wr) := ⟨⟨wr, Below.refl _ _⟩⟩
      replace c0 := BW.cell c0
      replace c1 := BW.cell c1
      replace d0 := BW.cell d0
      replace d1 := BW.cell d1
      go_wp2
      refine wp_region_bw (by kernel_rfl) (by kernel_rfl) ?_
      repeat (go_big_quiet_step (first
        | (go_at_call 49; refine bw_below (eqOut _ xs xt))))
      refine wpQuiet_nil ?_
      intro _ hw'
      obtain ⟨u, rfl⟩ := hw'
      have HU := hid (HB.out.trans (u.bel.mono HB.out.size))
      clear c0 c1 d0 d1
      go_wp2
      exact ⟨⟨k + 1, by omega, by go_num, HU⟩, by simp [intOf]; omega⟩
    · obtain rfl : k = l.length := by omega
      go_wp2
      go_ret
      exact ⟨rfl, HB.out⟩

end Go.Proofs.Ytllgjoflhjnnaaa.Sec
