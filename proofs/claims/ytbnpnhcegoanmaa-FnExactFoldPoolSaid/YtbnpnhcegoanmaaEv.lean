/-
  Events in memory: lists of them, sizes, laid anew, compared, marked. No condition but lists of at most 2^20.
-/
import Derived.Test.YtbnpnhcegoanmaaPlOpLaw
import Derived.Test.YtbnpnhcegoanmaaQuietB
import Derived.Test.YtbnpnhcegoanmaaEqDisk
import Derived.Test.YtbnpnhcegoanmaaMarkRows
import Derived.Laws.StructEq
import Derived.WalkSpells
import Derived.WalkLawsBesides
namespace Go.Proofs.Ytbnpnhcegoanmaa.Pl
open Go.RowKit Go.Proofs.Ytbnpnhcegoanmaa.Mem
set_option linter.unusedVariables false

/-- An event: who, which try, and the call. -/
structure Ev where
  h : Int
  x : Int
  k : Int
  v : Int
  t : Int
  a : Int
  s : ByteArray

def Ev.none : Ev := ⟨0, 0, 0, 0, 0, 0, ByteArray.empty⟩
def Ev.cells (e : Ev) : List Value := [.int .i64 e.h, .int .i64 e.x, .int .i64 e.k, .int .i64 e.v, .int .i64 e.t, .int .i64 e.a, .string e.s]
def Ev.val (e : Ev) : Value := .agg #[.int .i64 e.h, .int .i64 e.x, .int .i64 e.k, .int .i64 e.v, .int .i64 e.t, .int .i64 e.a, .string e.s]
def Ev.op (e : Ev) : Value := opV e.k e.v e.t e.a e.s

def evcell (l : List Ev) (i : Nat) : Value := (l.getD (i / 7) Ev.none).cells.getD (i % 7) undef
def Evs (w : World) (a : Option Addr) (l : List Ev) : Prop := Sl w a (l.length * 7) (evcell l)
def EvsW (w : World) (B : Nat) (a : Option Addr) (l : List Ev) : Prop := Wr w B a (l.length * 7) (evcell l)

theorem evcell_at (l : List Ev) (k j : Nat) (hj : j < 7) : evcell l (k * 7 + j) = (l.getD k Ev.none).cells.getD j undef := by
  unfold evcell
  rw [show (k * 7 + j) / 7 = k by omega, show (k * 7 + j) % 7 = j by omega]

theorem Evs.at_ {w : World} {a : Option Addr} {l : List Ev} (h : Evs w a l) (k : Nat) (hk : k < l.length) : ∃ b off, a = some ⟨b, off, none⟩ ∧
    w.cell? ⟨b, off + k * 7, none⟩ = some (.int .i64 (l.getD k Ev.none).h) ∧ w.cell? ⟨b, off + k * 7 + 1, none⟩ = some (.int .i64 (l.getD k Ev.none).x) ∧ w.cell? ⟨b, off + k * 7 + 2, none⟩ = some (.int .i64 (l.getD k Ev.none).k) ∧ w.cell? ⟨b, off + k * 7 + 3, none⟩ = some (.int .i64 (l.getD k Ev.none).v) ∧ w.cell? ⟨b, off + k * 7 + 4, none⟩ = some (.int .i64 (l.getD k Ev.none).t) ∧ w.cell? ⟨b, off + k * 7 + 5, none⟩ = some (.int .i64 (l.getD k Ev.none).a) ∧ w.cell? ⟨b, off + k * 7 + 6, none⟩ = some (.string (l.getD k Ev.none).s) := by
  obtain ⟨b, off, rfl, h0⟩ := h (k * 7 + 0) (by omega)
  obtain ⟨b1, off1, e1, h1⟩ := h (k * 7 + 1) (by omega)
  cases e1
  obtain ⟨b2, off2, e2, h2⟩ := h (k * 7 + 2) (by omega)
  cases e2
  obtain ⟨b3, off3, e3, h3⟩ := h (k * 7 + 3) (by omega)
  cases e3
  obtain ⟨b4, off4, e4, h4⟩ := h (k * 7 + 4) (by omega)
  cases e4
  obtain ⟨b5, off5, e5, h5⟩ := h (k * 7 + 5) (by omega)
  cases e5
  obtain ⟨b6, off6, e6, h6⟩ := h (k * 7 + 6) (by omega)
  cases e6
  rw [evcell_at l k _ (by omega)] at h0 h1 h2 h3 h4 h5 h6
  exact ⟨b, off, rfl, h0, by rw [Nat.add_assoc]; exact h1, by rw [Nat.add_assoc]; exact h2, by rw [Nat.add_assoc]; exact h3, by rw [Nat.add_assoc]; exact h4, by rw [Nat.add_assoc]; exact h5, by rw [Nat.add_assoc]; exact h6⟩

set_option maxRecDepth 100000 in
set_option maxHeartbeats 2000000 in
theorem szEvent (w : World) (x : Ev) (left : Int) (hl : x.s.size ≤ maxLen) (h0 : 0 ≤ left) (h1 : left ≤ 1048576) :
    Calls Try.prog 13 #[x.val, .int .i64 left] w fun e w' => ∃ r, e = .returned (.int .i64 r) ∧ Below w.heap.size w w' ∧ Fits1 r left x.s.size := by
  obtain ⟨h, x, k, v, t, a, s⟩ := x
  unfold Ev.val
  simp only [] at hl ⊢
  obtain ⟨wa, hwa, ez, A0, B0⟩ := one_new w [.int .i64 h, .int .i64 x, .int .i64 k, .int .i64 v, .int .i64 t, .int .i64 a, .string s] 40
  have HA := hid A0
  have HB := hid B0
  clear A0 B0
  have k2 := HA.out.c 2 rfl
  have k3 := HA.out.c 3 rfl
  have k4 := HA.out.c 4 rfl
  have k5 := HA.out.c 5 rfl
  have k6 := HA.out.c 6 rfl
  go_enter Try.func13, Try.ntmps13
  go_wp2_with fail
  refine (szOp wa k v t a s left hl h0 h1).mono ?_
  rintro e w1 ⟨r, rfl, b1, hr⟩
  have HB1 := hid (HB.out.trans (b1.mono HB.out.size))
  have HR := hid hr
  clear b1 hwa k2 k3 k4 k5 k6 hr
  by_cases hneg : r < 0
  · go_wp2
    go_ret
    exact ⟨_, rfl, HB1.out, Or.inl (by decide)⟩
  · go_wp2
    go_ret
    exact ⟨_, rfl, HB1.out, HR.out⟩

/-- What is left: a number below 0, or one not above what was, and all fits. -/
def FitE (r left : Int) (l : List Ev) : Prop := r < 0 ∨ (0 ≤ r ∧ r ≤ left ∧ (l.length : Int) ≤ left ∧ ∀ x ∈ l, (x.s.size : Int) ≤ left)

set_option maxRecDepth 100000 in
set_option maxHeartbeats 2000000 in
theorem szEventS (w : World) (a : Option Addr) (cap : Nat) (l : List Ev) (left : Int) (S : Evs w a l) (hl : l.length ≤ maxLen) (hs : ∀ x ∈ l, x.s.size ≤ maxLen) (h0 : 0 ≤ left) (h1 : left ≤ 1048576) :
    Calls Try.prog 4 #[.slice a l.length cap, .int .i64 left] w fun e w' => ∃ r, e = .returned (.int .i64 r) ∧ Below w.heap.size w w' ∧ FitE r left l := by
  unfold maxLen at hl
  have HS := hid S
  have Hs := hid hs
  clear S hs
  by_cases hb : left < (l.length : Int)
  · go_enter Try.func4, Try.ntmps4
    go_wp2
    go_ret
    exact ⟨_, rfl, Below.refl _ _, Or.inl (by decide)⟩
  go_enter Try.func4, Try.ntmps4
  go_wp2
  go_loopw [1, 5] (fun z i wr => ∃ (k : Nat) (m : Int), k ≤ l.length ∧ i = .int .i64 (k : Int) ∧ z = .int .i64 m ∧ 0 ≤ m ∧ m ≤ left ∧ Hid (∀ j, j < k → ((l.getD j Ev.none).s.size : Int) ≤ left) ∧ Hid (Below w.heap.size w wr)) (fun _ i _ => l.length - (intOf i).toNat)
  case atStart => exact ⟨0, left - l.length, Nat.zero_le _, rfl, rfl, by omega, by omega, fun j hj => by omega, Below.refl _ _⟩
  case round =>
    obtain ⟨k, m, hk, rfl, rfl, hm0, hm1, HJ, HB⟩ := hrel
    by_cases hlt : k < l.length
    · obtain ⟨b, off, rfl, c0, c1, c2, c3, c4, c5, c6⟩ := Evs.at_ (HS.out.below HB.out) k hlt
      have hx : (l.getD k Ev.none).s.size ≤ maxLen := Hs.out _ (by simp [List.getD, hlt])
      generalize hq : l.getD k Ev.none = x at c0 c1 c2 c3 c4 c5 c6 hx
      have HX := hid hq
      clear hq
      have HC := hid (szEvent wr x m hx hm0 (by omega))
      clear hx
      unfold Ev.val at HC
      obtain ⟨xh, xx, xk, xv, xt, xa, xs⟩ := x
      simp only [] at c0 c1 c2 c3 c4 c5 c6 HC
      go_wp2_with fail
      refine HC.out.mono ?_
      rintro e w1 ⟨r, rfl, b1, hf⟩
      have HB1 := hid (HB.out.trans (b1.mono HB.out.size))
      have HF := hid hf
      clear b1 hf c0 c1 c2 c3 c4 c5 c6
      by_cases hr : r < 0
      · go_wp2
        go_ret
        exact ⟨_, rfl, HB1.out, Or.inl (by decide)⟩
      · have hf : 0 ≤ r ∧ r ≤ m ∧ (xs.size : Int) ≤ m := by
          rcases HF.out with h | h
          · omega
          · exact h
        have hf1 := hf.1
        have hf2 := hf.2.1
        have HF2 := hid hf.2.2
        clear hf HF HC
        go_wp2
        exact ⟨⟨k + 1, r, by omega, by go_num, rfl, hf1, by omega, fun j hj => by
          by_cases h : j = k
          · subst h; rw [HX.out]; have := HF2.out; show (xs.size : Int) ≤ left; omega
          · exact HJ.out j (by omega), HB1⟩, by simp [intOf]; omega⟩
    · obtain rfl : k = l.length := by omega
      go_wp2
      go_ret
      refine ⟨_, rfl, HB.out, Or.inr ⟨hm0, hm1, by omega, fun x hx => ?_⟩⟩
      obtain ⟨j, hj, rfl⟩ := List.getElem_of_mem hx
      have := HJ.out j hj
      rwa [List.getD, List.getElem?_eq_getElem hj] at this

end Go.Proofs.Ytbnpnhcegoanmaa.Pl
