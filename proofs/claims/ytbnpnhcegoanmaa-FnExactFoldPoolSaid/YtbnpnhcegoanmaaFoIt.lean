/-
  impl.callsOf, an iterator over the calls of a log: its contract, for every loop body that keeps what lay below n₀. No condition but small texts.
-/
import Derived.Test.YtbnpnhcegoanmaaFo
import Derived.RangeFuncNested
import Derived.RangeFuncBound
import Derived.RangeFuncCalls
import Derived.RangeFuncLeaves
import Derived.RangeFuncBox
import Derived.Shelf.Abstract
import Derived.Shelf.RegionOpen
import Derived.WalkKit
import Derived.OwnWalkIn
import Derived.TacticsInMore
import Derived.LoopNIn
import Derived.LoopIn
namespace Go.Proofs.Ytbnpnhcegoanmaa.Pl
open Go.RowKit Go.Shelf Go.Proofs.Ytbnpnhcegoanmaa.Mem
set_option linter.unusedVariables false
attribute [local go_sem] Oper.semAt_some

/-- An event of a small text. -/
abbrev EvS := { e : Ev // e.s.size ≤ 1048576 }
def evS (l : List Ev) (h : ∀ j, (l.getD j Ev.none).s.size ≤ 1048576) (j : Nat) : EvS := ⟨l.getD j Ev.none, h j⟩
def uptoE (f : Nat → EvS) (k : Nat) : List EvS := (List.range k).map f
theorem uptoE_succ (f : Nat → EvS) (k : Nat) : uptoE f (k + 1) = uptoE f k ++ [f k] := by simp [uptoE, List.range_succ]
theorem uptoE_length (f : Nat → EvS) (k : Nat) : (uptoE f k).length = k := by simp [uptoE]

set_option maxRecDepth 100000 in
set_option maxHeartbeats 2000000 in
theorem callsOf_in (F : Fence) (n : Nat) (h5 : F.fn 22) (hro : F.round = none) (a : Option Addr) (len cap : Nat) (w : World) :
    CallsIn F n Try.prog 22 #[.slice a len cap] w fun e w' => e = .returned (.func (.func 38) #[] #[.pointer (some ⟨w.heap.size, 0, none⟩)]) ∧ w' = w.alloc (.cells #[.slice a len cap] 29) := by
  refine callsIn_of_wp Try.func22 rfl h5 ?_ hro
  simp only [Try.ntmps22, List.size_toArray, List.length_cons, List.length_nil, Nat.reduceAdd, Nat.reduceSub, Array.replicate_succ, Array.replicate_zero, List.push_toArray, List.append_toArray, List.nil_append, List.cons_append]
  gi_wp2
  go_ret
  exact ⟨rfl, rfl⟩

set_option maxRecDepth 100000 in
set_option maxHeartbeats 2000000 in
theorem calls1_in (F : Fence) (n : Nat) (h7 : F.fn 38) (hro : F.round = none) (hn : 1 ≤ n) (l Bs n₀ : Nat) (b off cap : Nat) (ls : List Ev) (hs : ∀ j, (ls.getD j Ev.none).s.size ≤ 1048576) (hreach : ls.length ≤ 1048576) (hb : b < n₀) (J Jx : List EvS → World → Prop)
    (W : World) (hn₀ : n₀ ≤ W.heap.size) (hAb : AbidesFrom W.heap.size J)
    (hY : ∀ pre (x : EvS) W1, J pre W1 → pre.length < ls.length → YieldAt F (n - 1) Try.prog l #[opV x.1.k x.1.v x.1.t x.1.a x.1.s] W1 fun e W' =>
      (e = .returned (.bool true) ∧ J (pre ++ [x]) W' ∧ Below n₀ W1 W') ∨ (e = .returned (.bool false) ∧ Jx (pre ++ [x]) W'))
    (hBs : W.cell? ⟨Bs, 0, none⟩ = some (.slice (some ⟨b, off, none⟩) ls.length cap)) (hc : Evs W (some ⟨b, off, none⟩) ls) (h0 : J [] W) :
    CallsIn F n Try.prog 38 #[.func (.yield l) #[] #[], .pointer (some ⟨Bs, 0, none⟩)] W fun e W' => (∃ v, e = .returned v) ∧
      ((∃ ys, ys = uptoE (evS ls hs) ls.length ∧ J ys W') ∨ (∃ pre, (∃ k, k ≤ ls.length ∧ pre = uptoE (evS ls hs) k) ∧ Jx pre W')) := by
  refine callsIn_of_wp Try.func38 rfl h7 ?_ hro
  simp only [Try.ntmps38, List.size_toArray, List.length_cons, List.length_nil, Nat.reduceAdd, Nat.reduceSub, Array.replicate_succ, Array.replicate_zero, List.push_toArray, List.append_toArray, List.nil_append, List.cons_append]
  gi_wp2
  gi_loopw [7] (fun i wr => ∃ k : Nat, k ≤ ls.length ∧ i = .int .i64 k ∧ J (uptoE (evS ls hs) k) wr ∧ Below n₀ W wr ∧ W.heap.size ≤ wr.heap.size)
    (fun i _ => ls.length - (intOf i).toNat)
  case atStart => exact ⟨0, Nat.zero_le _, rfl, h0, Below.refl _ _, Nat.le_refl _⟩
  case round =>
    obtain ⟨k, hk, rfl, hJs, hnx, hsz⟩ := hrel
    by_cases hlt : k < ls.length
    · obtain ⟨b', off', e', c0, c1, c2, c3, c4, c5, c6⟩ := Evs.at_ hc k hlt
      cases e'
      have go : ∀ {o : Nat} {u : Value}, W.cell? ⟨b, o, none⟩ = some u → wr.cell? ⟨b, o, none⟩ = some u := fun {o} {u} hu => (hnx.cell (p := ⟨b, o, none⟩) hb).trans hu
      replace c0 := go c0
      replace c1 := go c1
      replace c2 := go c2
      replace c3 := go c3
      replace c4 := go c4
      replace c5 := go c5
      replace c6 := go c6
      have hxs : (evS ls hs k).1 = ls.getD k Ev.none := rfl
      have hx0 := hs k
      generalize hq : ls.getD k Ev.none = x at c0 c1 c2 c3 c4 c5 c6 hx0 hxs
      have HE : Hid (evS ls hs k = ⟨x, hx0⟩) := Subtype.ext hxs
      clear hq hxs
      obtain ⟨xh, xx, xk, xv, xt, xa, xs⟩ := x
      simp only [] at c0 c1 c2 c3 c4 c5 c6 hx0
      have hJ2 := hAb _ wr (wr.alloc (.cells #[.int .i64 xh, .int .i64 xx, .int .i64 xk, .int .i64 xv, .int .i64 xt, .int .i64 xa, .string xs] 45)) none hJs (World.grownBy_alloc wr _ none) (fun r e => by cases e)
      obtain ⟨fn, tmps, assign, body, hy, hR⟩ := hY _ ⟨⟨xh, xx, xk, xv, xt, xa, xs⟩, hx0⟩ _ hJ2 (by rw [uptoE_length]; exact hlt)
      dsimp only [opV] at hy
      gi_wp2
      refine hR.mono ?_
      rintro e W3 (⟨rfl, hJ3, hk3⟩ | ⟨rfl, hJx3⟩)
      · gi_wp2
        go_roundw
        case rel => exact ⟨k + 1, by omega, by simp, by rw [uptoE_succ, HE.out]; exact hJ3, hnx.trans (((Below.refl _ wr).alloc (by omega) _).trans hk3), by have := hk3.size; simp at this; omega⟩
        case measure => simp [intOf]; omega
      · gi_wp2
        refine bodyPost_ret (results_none rfl _ _ _) rfl ?_
        exact ⟨⟨_, rfl⟩, .inr ⟨_, ⟨k + 1, by omega, by rw [uptoE_succ, HE.out]⟩, hJx3⟩⟩
    · obtain rfl : k = ls.length := by omega
      gi_wp2
      go_end0
      exact ⟨⟨_, rfl⟩, .inl ⟨_, rfl, hJs⟩⟩

set_option maxRecDepth 100000 in
set_option maxHeartbeats 1000000 in
theorem calls1_nil_in (F : Fence) (n : Nat) (h7 : F.fn 38) (hro : F.round = none) (l Bs cap : Nat) (a : Option Addr) (J : List EvS → World → Prop) (W : World) (hBs : W.cell? ⟨Bs, 0, none⟩ = some (.slice a 0 cap)) (h0 : J [] W) :
    CallsIn F n Try.prog 38 #[.func (.yield l) #[] #[], .pointer (some ⟨Bs, 0, none⟩)] W fun e W' => (∃ v, e = .returned v) ∧ J [] W' := by
  refine callsIn_of_wp Try.func38 rfl h7 ?_ hro
  simp only [Try.ntmps38, List.size_toArray, List.length_cons, List.length_nil, Nat.reduceAdd, Nat.reduceSub, Array.replicate_succ, Array.replicate_zero, List.push_toArray, List.append_toArray, List.nil_append, List.cons_append]
  gi_wp2
  gi_loopw [7] (fun i wr => i = .int .i64 0 ∧ J [] wr) (fun _ _ => 0)
  case atStart => exact ⟨rfl, h0⟩
  case round =>
    obtain ⟨rfl, hJs⟩ := hrel
    gi_wp2
    go_end0
    exact ⟨⟨_, rfl⟩, hJs⟩

/-- A log in memory below n₀; or none. -/
def EvsB (n₀ : Nat) (W : World) (a : Option Addr) (l : List Ev) : Prop := Evs W a l ∧ ∀ b off, a = some ⟨b, off, none⟩ → 0 < l.length → b < n₀
theorem evsB {w : World} {a : Option Addr} {l : List Ev} (h : Evs w a l) : EvsB w.heap.size w a l := ⟨h, fun b off e hl => by
  obtain ⟨b', off', e', c0, _⟩ := h.at_ 0 hl
  rw [e] at e'
  cases e'
  exact World.block_lt_of_cell? w _ c0⟩

theorem calls_stops (F : Fence) (n : Nat) (h7 : F.fn 38) (hro : F.round = none) (hn : 1 ≤ n) (Bs n₀ : Nat) (a : Option Addr) (cap : Nat) (ls : List Ev) (hs : ∀ j, (ls.getD j Ev.none).s.size ≤ 1048576) (hreach : ls.length ≤ 1048576) (w : World) (hBs : Bs < w.heap.size) (hn₀ : n₀ ≤ w.heap.size)
    (hc : w.cell? ⟨Bs, 0, none⟩ = some (.slice a ls.length cap)) (hI : EvsB n₀ w a ls) :
    SeqStopsK F n Try.prog 38 #[.pointer (some ⟨Bs, 0, none⟩)] (fun x : EvS => #[opV x.1.k x.1.v x.1.t x.1.a x.1.s]) (Below n₀) (fun ys => ys = uptoE (evS ls hs) ls.length) (fun pre => ∃ k, k ≤ ls.length ∧ pre = uptoE (evS ls hs) k) ls.length w := fun l J Jx W hW hJ _ hY h0 => by
  have hc' := (hW.cell (p := ⟨Bs, 0, none⟩) hBs).trans hc
  by_cases h1 : 0 < ls.length
  · obtain ⟨b, off, rfl, _⟩ := Evs.at_ hI.1 0 h1
    refine (calls1_in F n h7 hro hn l Bs n₀ b off cap ls hs hreach (hI.2 b off rfl h1) J Jx W (Nat.le_trans hn₀ hW.size) hJ hY hc' (hI.1.below hW) h0).mono ?_
    rintro e W' ⟨he, h | h⟩
    · exact ⟨he, .inl h⟩
    · exact ⟨he, .inr h⟩
  · have e0 : ls = [] := List.eq_nil_of_length_eq_zero (by omega)
    subst e0
    exact (calls1_nil_in F n h7 hro l Bs cap a J W hc' h0).mono fun e W' ⟨he, hj⟩ => ⟨he, .inl ⟨_, rfl, hj⟩⟩

end Go.Proofs.Ytbnpnhcegoanmaa.Pl
