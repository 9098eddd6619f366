/-
  The walk of impl.areCalls: a range over the log's calls. No condition but small texts.
-/
import Derived.Test.YtbnpnhcegoanmaaFoIt
import Derived.Test.YtbnpnhcegoanmaaPlOp4
import Derived.RangeFuncWrites
namespace Go.Proofs.Ytbnpnhcegoanmaa.Pl
open Go.RowKit Go.Shelf Go.Proofs.Ytbnpnhcegoanmaa.Mem
set_option linter.unusedVariables false
attribute [local go_sem] Oper.semAt_some

/-- A call is right. -/
def Ev.right (e : Ev) : Bool := opRight e.k e.v e.t e.a e.s

theorem keepsFrom_below {W W' : World} (B : Nat) (h : Below W.heap.size W W') : KeepsFrom B W W' :=
  ⟨h.size, fun k o _ hk ho => (h.block k (Array.getElem?_eq_some_iff.1 hk).1).trans hk⟩

/-- The five cells of a call in its box. -/
def OpAt (W : World) (B : Nat) (e : Ev) : Prop := W.cell? ⟨B, 0, none⟩ = some (.int .i64 e.k) ∧ W.cell? ⟨B, 1, none⟩ = some (.int .i64 e.v) ∧ W.cell? ⟨B, 2, none⟩ = some (.int .i64 e.t) ∧ W.cell? ⟨B, 3, none⟩ = some (.int .i64 e.a) ∧ W.cell? ⟨B, 4, none⟩ = some (.string e.s)
theorem opAt_own {W W' : World} {row : Option Nat} {B : Nat} {e : Ev} (h : OpAt W B e) (hg : W.grownBy W' row) (hr : ∀ r, row = some r → ∃ o : Obj, W.heap[r]? = some o ∧ o.isCells = false) : OpAt W' B e :=
  ⟨cell_kept h.1 hg hr, cell_kept h.2.1 hg hr, cell_kept h.2.2.1 hg hr, cell_kept h.2.2.2.1 hg hr, cell_kept h.2.2.2.2 hg hr⟩
theorem opAt_new (W : World) (e : Ev) (t : TypeId) : OpAt (W.alloc (.cells #[.int .i64 e.k, .int .i64 e.v, .int .i64 e.t, .int .i64 e.a, .string e.s] t)) W.heap.size e := by
  have h := Row.new W [.int .i64 e.k, .int .i64 e.v, .int .i64 e.t, .int .i64 e.a, .string e.s] t
  exact ⟨h.c 0 rfl, h.c 1 rfl, h.c 2 rfl, h.c 3 rfl, h.c 4 rfl⟩

theorem all_upto {l : List Ev} (hs : ∀ j, (l.getD j Ev.none).s.size ≤ 1048576) (h : ∀ e ∈ uptoE (evS l hs) l.length, e.1.right = true) : ∀ e ∈ l, e.right = true := fun e he => by
  obtain ⟨j, hj, rfl⟩ := List.getElem_of_mem he
  have := h (evS l hs j) (by unfold uptoE; exact List.mem_map_of_mem (List.mem_range.2 hj))
  simpa [evS, List.getD, hj] using this
theorem in_upto {l : List Ev} (hs : ∀ j, (l.getD j Ev.none).s.size ≤ 1048576) {k : Nat} (hk : k ≤ l.length) {e : EvS} (h : e ∈ uptoE (evS l hs) k) : e.1 ∈ l := by
  unfold uptoE at h
  obtain ⟨j, hj, rfl⟩ := List.mem_map.1 h
  have hj' : j < l.length := by have := List.mem_range.1 hj; omega
  simp only [evS, List.getD, List.getElem?_eq_getElem hj', Option.getD_some]
  exact List.getElem_mem hj'

set_option maxRecDepth 100000 in
set_option maxHeartbeats 2000000 in
theorem areCalls (w : World) (al : Option Addr) (cl : Nat) (l : List Ev) (S : Evs w al l) (hl : l.length ≤ 1048576) (hs : ∀ j, (l.getD j Ev.none).s.size ≤ 1048576) :
    Calls Try.prog 19 #[.slice al l.length cl] w fun e w' => e = .returned (.bool (decide (∀ e ∈ l, e.right = true))) ∧ Below w.heap.size w w' := by
  have HS := hid S
  clear S
  refine (callsIn_wide (n := 4)).1 ?_
  refine callsIn_of_wp_marks Try.func19 rfl trivial ?_ rfl
  simp only [Try.ntmps19, List.size_toArray, List.length_cons, List.length_nil, Nat.reduceAdd, Nat.reduceSub, Array.replicate_succ, Array.replicate_zero, List.push_toArray, List.append_toArray, List.nil_append, List.cons_append]
  gi_wp2
  refine ⟨trivial, ?_⟩
  refine (callsOf_in Fence.wide _ trivial rfl _ _ _ _).mono ?_
  rintro e w' ⟨rfl, rfl⟩
  gi_wp2
  have bR := (Boxed.new w 4 (.bool false)).alloc (.cells #[.slice al l.length cl] 29)
  have bN := Boxed.new (w.alloc (.cells #[.bool false] 4)) 29 (.slice al l.length cl)
  simp only [World.size_alloc] at bN
  have hB0 : Below w.heap.size w ((w.alloc (.cells #[.bool false] 4)).alloc (.cells #[.slice al l.length cl] 29)) := ((Below.refl _ w).alloc (Nat.le_refl _) _).alloc (by simp) _
  have hsz : ((w.alloc (.cells #[.bool false] 4)).alloc (.cells #[.slice al l.length cl] 29)).heap.size = w.heap.size + 2 := by simp
  obtain ⟨W0, hW0⟩ : ∃ W0, (w.alloc (.cells #[.bool false] 4)).alloc (.cells #[.slice al l.length cl] 29) = W0 := ⟨_, rfl⟩
  rw [hW0] at bR bN hB0 hsz ⊢
  clear hW0
  have hEv : EvsB w.heap.size W0 al l := ⟨HS.out.below hB0, (evsB HS.out).2⟩
  refine wpIn_rangeFunc_ownH rfl (by omega) (gf := 38) (lb := #[.pointer (some ⟨w.heap.size + 1, 0, none⟩)]) rfl trivial (enters_of Try.func38 (by kernel_rfl) rfl)
    (calls_stops Fence.wide _ trivial rfl (by omega) (w.heap.size + 1) w.heap.size al cl l hs hl W0 (by omega) (by omega) bN.cell hEv) belowK_t (belowK_b (by omega)) (Below.refl _ _) (fun _ => rfl)
    (fun pre W => (Boxed W w.heap.size 4 (.bool false) ∧ ∀ e ∈ pre, e.1.right = true) ∧ Below w.heap.size w W)
    (fun c pre W => (c = .ret ∧ (∃ e ∈ pre, e.1.right = false) ∧ W.cell? ⟨w.heap.size, 0, none⟩ = some (.bool false)) ∧ Below w.heap.size w W)
    (OwnFrom.and (Own.from (fun s A B row hs hg hr => ⟨boxed_own _ _ (fun (_ : Unit) => Value.bool false) () A B row hs.1 hg hr, hs.2⟩) _) (ownFrom_below (Nat.le_refl _) (by omega)))
    (fun c => OwnFrom.and (Own.from (fun s A B row hs hg hr => ⟨hs.1, hs.2.1, cell_kept hs.2.2 hg hr⟩) _) (ownFrom_below (Nat.le_refl _) (by omega)))
    ⟨⟨bR, by simp⟩, hB0⟩
    (fun x a' W => ∃ Bx, w.heap.size < Bx ∧ OpAt W Bx x.1 ∧ a' = { tmps := #[.slice al l.length cl, undef, .pointer (some ⟨w.heap.size, 0, none⟩), .pointer (some ⟨Bx, 0, none⟩), .slice al l.length cl, .func (.func 38) #[] #[.pointer (some ⟨w.heap.size + 1, 0, none⟩)], opV x.1.k x.1.v x.1.t x.1.a x.1.s, undef, undef, undef], defers := [] })
    (fun x a' _ X Y row hs hg hr => by obtain ⟨Bx, h1, h2, h3⟩ := hs; exact ⟨Bx, h1, opAt_own h2 hg (fun r e => (hr r e).2), h3⟩)
    ?assign ?body ?done ?stop
  case assign =>
    rintro l' pre x W K ⟨⟨bR1, hp⟩, hB1⟩ hK
    unfold opV
    gi_wp2
    exact hK _ _ ((KeepsOthers.alloc _ _).from _) ((Below.refl _ W).alloc hB1.size _) ⟨⟨bR1.alloc _, hp⟩, hB1.alloc hB1.size _⟩ ⟨W.heap.size, bR1.lt, opAt_new W x.1 _, rfl⟩
  case body =>
    rintro l' pre x a' W hl' ⟨r, hr⟩ ⟨⟨bR1, hp⟩, hB1⟩ ⟨Bx, hBx, ⟨x0, x1, x2, x3, x4⟩, rfl⟩ hlt
    gi_wp2
    refine ⟨trivial, ?_⟩
    refine (CallsIn.inRound l' (callsIn_wide.2 (iOpOk x.1.k x.1.v x.1.t x.1.a x.1.s W x.2))).mono ?_
    rintro e w' ⟨rfl, hb⟩
    have bR2 : Boxed w' w.heap.size 4 (.bool false) := (hb.block _ bR1.lt).trans bR1
    have hB2 := hB1.trans (hb.mono hB1.size)
    have cr := bR2.cell
    have fr := bR2.frozen
    cases hx : opRight x.1.k x.1.v x.1.t x.1.a x.1.s with
    | true =>
      gi_wp2
      exact ⟨keepsFrom_below _ hb, hb.mono hB1.size, ⟨bR2, fun e he => (List.mem_append.1 he).elim (hp e) (fun h => by simp at h; subst h; exact hx)⟩, hB2⟩
    | false =>
      gi_wp2
      exact ⟨(keepsFrom_below _ hb).trans ((KeepsOthers.setCell _ _ _).from _), ⟨rfl, ⟨x, by simp, hx⟩, World.cell?_setCell_same' _ _ _ (by rw [cr]; rfl)⟩, hB2.setCell (p := ⟨w.heap.size, 0, none⟩) (Nat.le_refl _) _⟩
  case done =>
    rintro D ys W hD rfl ⟨⟨bR1, hp⟩, hB⟩ hK
    have hcr := bR1.cell
    have hfr := bR1.frozen
    gi_wp2
    have hK' := (KeepsOthers.setCell W ⟨w.heap.size, 0, none⟩ (.bool true)).same D _ hK rfl
    refine ⟨by simp, .inl ⟨_, _, rfl, run_takeDeferred hK', ?_⟩⟩
    have hc5 := cell_kept (World.cell?_setCell_same' W ⟨w.heap.size, 0, none⟩ (.bool true) (by rw [hcr]; rfl)) (grownBy_putObj' _ D (.deferred none)) (fun r e => by cases e; exact ⟨_, hK', rfl⟩)
    refine ⟨.bool true, ?_, by rw [decide_eq_true (all_upto hs hp)], (hB.setCell (p := ⟨w.heap.size, 0, none⟩) (Nat.le_refl _) _).trans (belowK_b (w := w) (Nat.le_refl _) _ D _ _ (by omega) hK' rfl rfl)⟩
    simp [results, Try.f19, go_sem, hc5]
  case stop =>
    rintro D c pre W hD ⟨k, hk, rfl⟩ ⟨⟨rfl, ⟨e, he, hne⟩, hcr⟩, hB⟩ hK
    gi_wp2
    refine ⟨by simp, .inl ⟨_, _, rfl, run_takeDeferred hK, ?_⟩⟩
    have hc5 := cell_kept hcr (grownBy_putObj' _ D (.deferred none)) (fun r e => by cases e; exact ⟨_, hK, rfl⟩)
    refine ⟨.bool false, ?_, by rw [decide_eq_false (fun h => by have := h _ (in_upto hs hk he); rw [hne] at this; cases this)], hB.trans (belowK_b (w := w) (Nat.le_refl _) W D _ _ (by omega) hK rfl rfl)⟩
    simp [results, Try.f19, go_sem, hc5]

end Go.Proofs.Ytbnpnhcegoanmaa.Pl
