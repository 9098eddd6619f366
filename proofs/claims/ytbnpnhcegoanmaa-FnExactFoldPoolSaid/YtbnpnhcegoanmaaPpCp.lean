/-
  The walks of spec.l7CopyVol and spec.l7Copy. No condition but lists of at most 2^20.
-/
import Derived.Test.YtbnpnhcegoanmaaPpDoN
import Derived.Test.YtbnpnhcegoanmaaDkCopy
import Derived.Deep.RegionHeldLaw
namespace Go.Proofs.Ytbnpnhcegoanmaa.Pl
open Go.RowKit Go.Proofs.Ytbnpnhcegoanmaa.Mem
set_option linter.unusedVariables false

def bCells (l : List Bool) : List Value := l.map .bool
theorem bCells_one (l : List Bool) : ∀ u ∈ bCells l, u.oneCell' = true := fun u hu => by
  obtain ⟨x, _, rfl⟩ := List.mem_map.1 hu; rfl
theorem bls_sl {w : World} {a : Option Addr} {l : List Bool} (h : Bls w a l) : Sl w a (l.length * 1) (fun i => (bCells l).getD i undef) := by
  rw [Nat.mul_one]; exact Sl.congr h (fun i hi => by unfold bCells; simp [List.getD_eq_getElem?_getD, hi])

theorem copy_end2 {w wc w2 : World} {v1 v2 : Value} {hs : List Bool} {ts : List ByteArray} (on : Bool) (ec : wc.heap.size = w.heap.size + 1 + 1) (hB : Below w.heap.size w wc) (hb : Below (w.heap.size + 1) wc w2)
    (r1 : RowO w2 wc.heap.size 4 1 v1 hs.length (bCells hs)) (r2 : RowO w2 wc.heap.size 9 1 v2 ts.length (sCells ts)) (s12 : ∀ b, rb v1 = some b → rb v2 ≠ some b) :
    ∃ x : Pv, (.agg [.bool on, v1, v2].toArray : Value) = x.val ∧ x.data = (on, hs, ts) ∧ Two w.heap.size x (((w2.setCell ⟨w.heap.size + 1, 0, none⟩ (.bool on)).setCell ⟨w.heap.size + 1, 1, none⟩ v1).setCell ⟨w.heap.size + 1, 2, none⟩ v2) ∧
    Below w.heap.size w (((w2.setCell ⟨w.heap.size + 1, 0, none⟩ (.bool on)).setCell ⟨w.heap.size + 1, 1, none⟩ v1).setCell ⟨w.heap.size + 1, 2, none⟩ v2) := by
  have k := kept3 w2 (w.heap.size + 1) (.bool on) v1 v2
  have q1 := (r1.kept k (fun b h e => by have := (r1.lt h).1; omega)).mono (B' := w.heap.size) (by omega)
  have q2 := (r2.kept k (fun b h e => by have := (r2.lt h).1; omega)).mono (B' := w.heap.size) (by omega)
  obtain ⟨a1, c1, rfl, w1⟩ := q1.wr
  obtain ⟨a2, c2, rfl, w2'⟩ := q2.wr
  refine ⟨⟨on, a1, c1, hs, a2, c2, ts⟩, rfl, rfl, ⟨?_, ?_, fun b e1 e2 => s12 b (RowO.foot q1 rfl (by simpa using e1)) (RowO.foot q2 rfl (by simpa using e2))⟩, ?_⟩
  · unfold BlsW
    simp only [Nat.mul_one] at w1
    exact w1.congr (fun i hi => by unfold bCells; simp [List.getD_eq_getElem?_getD, hi])
  · unfold StrsW
    simp only [Nat.mul_one] at w2'
    exact w2'.congr (fun i hi => by unfold sCells; simp [List.getD_eq_getElem?_getD, hi])
  · exact below_set (below_set (below_set (hB.trans (hb.mono (by omega))) _ _ _ (by omega)) _ _ _ (by omega)) _ _ _ (by omega)

set_option maxRecDepth 100000 in
set_option maxHeartbeats 2000000 in
theorem l7CopyVol (w : World) (x : Pv) (S : Bls w x.ha x.hs ∧ Strs w x.ta x.ts) (hx : x.Upto 1048576) :
    Calls Try.prog 47 #[x.val] w fun r w' => ∃ y : Pv, r = .returned y.val ∧ y.data = x.data ∧ Two w.heap.size y w' ∧ Below w.heap.size w w' := by
  obtain ⟨on, a1, c1, hs, a2, c2, ts⟩ := x
  unfold Pv.val
  simp only [] at S ⊢
  have h1 : hs.length ≤ 1048576 := by have := hx.1; simp only [] at this; omega
  have h2 : ts.length ≤ 1048576 := by have := hx.2.1; simp only [] at this; omega
  have HS1 := hid (bls_sl S.1)
  have HS2 := hid (strs_sl S.2)
  clear S hx
  go_enter Try.func47, Try.ntmps47
  go_wp2
  obtain ⟨wc, hwc, ec, A0, R0, B0⟩ := two_new w [.bool on, .slice a1 hs.length c1, .slice a2 ts.length c2] [.bool false, .slice none 0 0, .slice none 0 0] 67 67
  simp only [hwc]
  clear hwc
  have k0 := A0.c 0 rfl
  have k1 := A0.c 1 rfl
  have k2 := A0.c 2 rfl
  have HB := hid B0
  have hn : w.heap.size + 1 ≤ wc.heap.size := by omega
  have hcp : CpRest wc w.heap.size wc.drew := ⟨(Below.refl _ wc).drew, fun j hj => by
    match j, hj with
    | 0, _ => exact ⟨_, R0.c 0 rfl⟩
    | 1, _ => exact ⟨_, R0.c 1 rfl⟩
    | 2, _ => exact ⟨_, R0.c 2 rfl⟩, fun j _ => R0.f j⟩
  have Q0 := hid (show wc.drew.cell? ⟨w.heap.size, 0, none⟩ = some (.bool on) ∧ wc.drew.cell? ⟨w.heap.size, 1, none⟩ = some (.slice a1 hs.length c1) ∧ wc.drew.cell? ⟨w.heap.size, 2, none⟩ = some (.slice a2 ts.length c2) ∧ CpRest wc w.heap.size wc.drew from ⟨k0, k1, k2, hcp⟩)
  clear A0 R0 B0 hcp k0 k1 k2
  go_region_held_law (fun w' => w'.cell? ⟨w.heap.size, 0, none⟩ = some (.bool on) ∧ w'.cell? ⟨w.heap.size, 1, none⟩ = some (.slice a1 hs.length c1) ∧ w'.cell? ⟨w.heap.size, 2, none⟩ = some (.slice a2 ts.length c2) ∧ CpRest wc w.heap.size w')
    (first | with_reducible exact Q0.out | with_reducible exact Q2.out | with_reducible exact Q1.out | (with_reducible refine cp_alloc_drew hn ?_ _; with_reducible assumption) | (with_reducible refine cp_alloc hn ?_ _; with_reducible assumption) | (with_reducible refine cp_set (cp_set (cp_set ?_ 0 _) 1 _) 2 _; with_reducible assumption))
    (first
      | (refine step_app_empty 64 4 (.bool false) 1 1 Try.underlying64 infoBl rfl (by decide) (by decide) rfl (.tmp 5) (.tmp 7) rfl _ rfl a1 hs.length c1 (bCells hs) rfl (by simp [bCells]) (cp_sl HS1.out HB.out rfl (by with_reducible assumption)) (bCells_one _) h1 ?_; intro v1 w1 r1 b1 z1 y1; replace r1 := r1.mono (cp_size (wc := wc) (n := w.heap.size) (x0 := .bool on) (x1 := .slice a1 hs.length c1) (x2 := .slice a2 ts.length c2) (by with_reducible assumption)); obtain ⟨p1, d1, e1, _⟩ := r1.wr; subst e1; have Q1 := hid (cp_below (wc := wc) (n := w.heap.size) (x0 := .bool on) (x1 := .slice a1 hs.length c1) (x2 := .slice a2 ts.length c2) hn b1 (by with_reducible assumption)); have R1 := hid r1; have Z1 := hid z1; have Y1 := hid y1; clear r1 b1 z1 y1)
      | (refine step_app_empty 65 9 (.string ByteArray.empty) 1 16 Try.underlying65 info9 rfl (by decide) (by decide) rfl (.tmp 9) (.tmp 11) rfl _ rfl a2 ts.length c2 (sCells ts) rfl (by simp [sCells]) (cp_sl HS2.out HB.out rfl (by with_reducible assumption)) (sCells_one _) h2 ?_; intro v2 w2 r2 b2 z2 y2; replace r2 := r2.mono (cp_size (wc := wc) (n := w.heap.size) (x0 := .bool on) (x1 := .slice a1 hs.length c1) (x2 := .slice a2 ts.length c2) (by with_reducible assumption)); obtain ⟨p2, d2, e2, _⟩ := r2.wr; subst e2; have Q2 := hid (cp_below (wc := wc) (n := w.heap.size) (x0 := .bool on) (x1 := .slice a1 hs.length c1) (x2 := .slice a2 ts.length c2) hn b2 (by with_reducible assumption)); have T12 := hid (show Below w1.heap.size w1 w2 from (by first | with_reducible exact b2 | with_reducible exact below_a1 b2 | with_reducible exact below_a2 b2)); have R1' := hid (R1.out.below T12.out); have S12 := hid (apart_fresh Z1.out Y1.out z2 y2 (by first | with_reducible exact Nat.le_refl _ | with_reducible exact Nat.le_of_lt (lt_alloc _ _) | with_reducible exact Nat.le_of_lt (Nat.lt_trans (lt_alloc _ _) (lt_alloc _ _)))); have R2 := hid r2; clear r2 b2 z2 y2; obtain ⟨u0, g0⟩ := Q2.out.2.2.2.s 0 (by decide); obtain ⟨u1, g1⟩ := Q2.out.2.2.2.s 1 (by decide); obtain ⟨u2, g2⟩ := Q2.out.2.2.2.s 2 (by decide); have gf0 := Q2.out.2.2.2.f 0 (by decide); have gf1 := Q2.out.2.2.2.f 1 (by decide); have gf2 := Q2.out.2.2.2.f 2 (by decide)))
  all_goals clear Q0
  all_goals (go_wp2; refine bodyPost_ret (results_mid rfl _ _ (w.heap.size + 1) [.bool on, .slice p1 hs.length d1, .slice p2 ts.length d2] _ rfl (range3 g0 g1 g2) Try.underlying67 rfl (by kernel_rfl)) rfl ?_; obtain ⟨y, ey, hy1, hy2, hy3⟩ := copy_end2 on ec HB.out Q2.out.2.2.2.bel R1'.out R2.out S12.out; exact ⟨y, by rw [ey]; rfl, hy1, hy2, hy3⟩)

theorem enters_copy (a : Act) (o : Oper) (w : World) (xs : Array Operand) (ts : Array TypeId) (ho : o.op = .call { callee := .value (.func 47), args := xs, argTypes := ts }) (u : Value) (hv : xs.map a.eval = #[u]) :
    (execOp a.eval o).run Try.prog w = .ok (.enter 47 #[u]) w := by
  unfold execOp
  simp [ho, hv, go_sem, resolve, invoke]

/-- A volume copied, as one step of a region that draws its order. -/
theorem step_copy {ops : Array Oper} {o : Oper} {a : Act} {w : World} {K : Act → World → Prop} {Q : Exit → Act → World → Prop} {E : Prop} (hgd : o.guard = none) (s : Operand) (ts : Array TypeId)
    (ho : o.op = .call { callee := .value (.func 47), args := #[s], argTypes := ts }) (x : Pv) (hs : a.eval s = x.val) (S : Bls w x.ha x.hs ∧ Strs w x.ta x.ts) (hx : x.Upto 1048576)
    (hK : ∀ (y : Pv) w', y.data = x.data → Two w.heap.size y w' → Below w.heap.size w w' → K (a.put o.dst (.agg #[.bool y.on, .slice y.ha y.hs.length y.hc, .slice y.ta y.ts.length y.tc])) w') :
    if Region.wanted o (yielded ops a.tmps) = true then Oper.wp Try.prog o a w K Q else E := by
  have hw : Region.wanted o (yielded ops a.tmps) = true := by simp [Region.wanted, hgd]
  have hm : (#[s] : Array Operand).map a.eval = #[x.val] := by simp only [List.map_toArray, List.map_cons, List.map_nil, hs]
  rw [if_pos hw]
  unfold Oper.wp
  rw [enters_copy a o w #[s] ts ho _ hm, Oper.upon_enter]
  refine (l7CopyVol w x S hx).mono ?_
  rintro e w' ⟨y, rfl, hd, h2, hb⟩
  exact hK y w' hd h2 hb

end Go.Proofs.Ytbnpnhcegoanmaa.Pl
