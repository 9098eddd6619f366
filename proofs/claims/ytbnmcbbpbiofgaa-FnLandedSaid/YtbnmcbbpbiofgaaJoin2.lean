/-
  The walk of impl's left: the writes whose numbers are still in a queue, in the order in which they were given. No condition but a list of at most 40 writes.
  Plain: what is left of the writes when one number is struck, or all of one host's. No condition.
  Plain: what a flush leaves in each sector: the last of the host's writes to it, or what stood there. No condition.
  The walk of impl's take once more, with a sharper word on what it leaves alone. No condition but that the number is there.
  The walk of impl.copyDisk: the same disk, in rows of its own. No condition but lengths of at most 2^20.
  What a function of chapter 3 keeps in memory while it makes its answer: the argument's box, the result's block, its own disk with its box. No condition.
  The walk of impl.Flush: it answers as spec.Flush does, in rows of its own. No condition but sizes.
  The walk of impl.Land: it answers as spec.Land does, in rows of its own. No condition but sizes.
  A region that draws its order, walked once: one condition on what has come up, what it has left, and the world; each operation keeps it; so whatever order is drawn, it holds at the end. At any program. No condition.
  Plain: cells stored one behind the other. No condition.
  A struct of many cells that is loaded whole and stored whole in a plain region: one step each, however long it is. No condition.
  Two regions that each exact law has, at any program: an argument laid anew and put into a box; what stands in the box compared with the argument laid anew. One step an operation, however long the structs are. No condition.
-/
import Derived.Test.YtbnmcbbpbiofgaaJoin1
import Derived.Maps.RangeWalk
import Derived.Shelf.Sort.Plain
import Derived.Shelf.Slices.In.SortNone
import Derived.Test.YtbnmcbbpbiofgaaDkFence
import Derived.Test.YtbnmcbbpbiofgaaDkRight
import Derived.Test.YtbnmcbbpbiofgaaDkCopy
import Derived.Test.YtbnmcbbpbiofgaaWrapEnd
import Derived.Test.YtbnmcbbpbiofgaaDkSwap
import Derived.Test.YtbnmcbbpbiofgaaDkLand
import Derived.WalkKit
import Derived.WalkSmall
import Derived.RegionTactic
import Derived.Deep.MidRow
import Derived.OrdersHeld
import Derived.Test.YtbnmcbbpbiofgaaMem
namespace Go.Proofs.Ytbnmcbbpbiofgaa.Mem
open Go.RowKit Go.Maps Go.Sort
set_option linter.unusedVariables false

theorem kept_grown {r : Option Nat} {w w' : World} (k : Kept (fun b => r = some b) w w') : w.grownBy w' r := ⟨k.os, k.tape, k.output, k.size, fun i hi hne => k.block i hi (fun e => hne e.symm)⟩
theorem grown_kept {r : Option Nat} {w w' : World} (k : w.grownBy w' r) : Kept (fun b => r = some b) w w' := ⟨k.os, k.tape, k.output, k.size, fun i hi hne => k.block i hi (fun e => hne e.symm)⟩

/-- slices.Sort on a row of the call's own. -/
theorem sortRow (w : World) (B : Nat) (v : Value) (L S : List Nat) (r : RowO w B 3 1 v L.length (qCells L)) (hl : L.length ≤ 1048576) (hS : (zOf L).mergeSort (fun x y => decide (x ≤ y)) = zOf S) :
    Calls Try.prog 33 #[v] w fun e w' => e = .returned (.tuple #[]) ∧ RowO w' B 3 1 v L.length (qCells S) ∧ Kept (fun b => rb v = some b) w w' := by
  have hlen : S.length = L.length := by
    have := congrArg List.length hS
    rw [List.length_mergeSort, zOf_length, zOf_length] at this
    exact this.symm
  rcases Nat.eq_zero_or_pos L.length with h0 | h0
  · obtain ⟨a, c, e, _⟩ := r.wr
    have hLn : L = [] := List.eq_nil_of_length_eq_zero h0
    have hSn : S = [] := List.eq_nil_of_length_eq_zero (hlen.trans h0)
    subst hLn; subst hSn
    rw [e] at r ⊢
    refine (Any.slices_Sort_int_none Try.lays189 a c w).mono ?_
    rintro e w' ⟨rfl, rfl⟩
    exact ⟨rfl, r, Kept.refl _ _⟩
  · obtain ⟨g, c, e⟩ := r.form h0
    subst e
    obtain ⟨cur, hb, hB, h1, h2, h3, h4⟩ := r.block
    have hc := Any.slices_Sort_int Try.lays189 g 0 (c + 1) (zOf L) w (holds_row r) (r.lt (b := g) rfl).2 (by rw [zOf_length]; omega)
    rw [zOf_length] at hc
    refine hc.mono ?_
    rintro e w' ⟨rfl, n, os, hw'⟩
    rw [hS] at hw'
    have ho := ownsRow_sortedI (n := n) (os := os) (ss := zOf L) (ts := zOf S) (by rw [zOf_length, zOf_length, hlen]) hB hb (by rw [zOf_length]; exact h1) h2 h3
    have hg := grownBy_sortedI (w := w) (g := g) (n := n) (os := os) (zOf S).toArray
    rw [← hw'] at ho hg
    rw [zOf_length, ← qCells_zOf] at ho
    exact ⟨rfl, Or.inr ⟨ho, _, c, rfl⟩, (grown_kept hg).mono (fun b _ e => by cases e; rfl)⟩

theorem leftW_take (l : List Wt) (S : List Nat) (k : Nat) (hk : k < S.length) : (S.take (k + 1)).map (fun i => l.getD i Wt.none) = (S.take k).map (fun i => l.getD i Wt.none) ++ [l.getD (S.getD k 0) Wt.none] := by
  have e : S.getD k 0 = S[k] := by simp [List.getD, hk]
  rw [List.take_add_one, List.getElem?_eq_getElem hk, List.map_append, e]
  rfl

set_option maxRecDepth 100000 in
set_option maxHeartbeats 4000000 in
theorem left (w : World) (B b n : Nat) (Q : Int → Int → List Nat) (D : DataW Value) (V : Int → Int → Value) (q : QM w B b n Q D V) (a : Option Addr) (cap : Nat) (l : List Wt) (S : Wts w a l) (hl : l.length ≤ 40) (hk : ∀ j, j < l.length → OkK (l.getD j Wt.none).host (l.getD j Wt.none).sector) (hq : QOk l Q) :
    Calls Try.prog 23 #[.map (some b), .slice a l.length cap] w fun e w' => ∃ v', e = .returned v' ∧ RowO w' w.heap.size 36 4 v' (leftW l Q).length (wCells (leftW l Q)) ∧ Below w.heap.size w w' := by
  have HS := hid S
  have HK := hid hk
  have HQO := hid hq
  have HQ := hid q
  have hbl := q.own.lt
  clear S hk hq q
  go_enter Try.func23, Try.ntmps23
  go_wp2_with (at_range; refine wpList_range_own _ rfl _ 50 rfl 53 25 keyedQ Try.underlying50 Rid b n D rfl HQ.out.own ?_; intro w0 hrg0 hg0 hs0)
  go_frame
  have HR0 := hid hrg0
  have HG0 := hid hg0
  have HZ0 := hid hs0
  clear hrg0 hg0 hs0
  go_loopw [5] (fun v wr => ∃ left cnt L, Hid (RowO wr (w.heap.size + 1) 3 1 v L.length (qCells L)) ∧ Hid (wr.ranges Try.prog 53 Rid b w.heap.size n D left cnt) ∧ Hid (Col Q left L) ∧ Hid (Below w.heap.size w wr) ∧ Hid (w.heap.size + 1 ≤ wr.heap.size)) (fun _ wr => wr.rangeLeft b w.heap.size)
  case atStart => exact ⟨_, _, [], Or.inl ⟨_, rfl, rfl, rfl⟩, HR0.out, Col.start HQ.out.has, (Below.refl _ _).grown HG0.out (Nat.le_refl _) (fun j hj => by cases hj), hid (by rw [HZ0.out]; exact Nat.le_refl _)⟩
  case round =>
    obtain ⟨left, cnt, L, HRo, HRg, HC, HB, HZ⟩ := hrel
    obtain ⟨pa, pc, ev, _⟩ := HRo.out.wr
    subst ev
    go_wp2_with (at_next; refine wpList_next_ranges _ rfl _ rfl 53 keyedQ Rid (fun v => v) (fun v => v) (fun key kl _ => ⟨key, rfl⟩) (fun v y _ => ⟨v, rfl⟩) b w.heap.size n D left cnt rfl HRg.out ?_ ?_)
    · intro hc0 hl0
      have HP := hid (HC.out.perm HQO.out HK.out hl0)
      have HSo := hid (sorted_kept HP.out)
      have hLl : L.length ≤ 40 := Nat.le_trans (nodup_le HC.out.nodup (HC.out.lt HQO.out)) hl
      have HLl := hid hLl
      have HLe := hid (show (keptQ l Q).length = L.length from HP.out.length_eq.symm)
      have HX := hid (show ∀ k, k < (keptQ l Q).length → (keptQ l Q).getD k 0 < l.length from fun k hk => by
        have hm : (keptQ l Q).getD k 0 ∈ keptQ l Q := by rw [List.getD_eq_getElem?_getD, List.getElem?_eq_getElem hk]; exact List.getElem_mem hk
        unfold keptQ at hm
        exact List.mem_range.1 (List.mem_filter.1 hm).1)
      have HLW := hid (show leftW l Q = ((keptQ l Q).take L.length).map (fun i => l.getD i Wt.none) from by rw [← HLe.out, List.take_length]; rfl)
      clear hc0 hl0 hLl
      generalize keptQ l Q = SS at *
      go_wp2_with fail
      refine (sortRow wr (w.heap.size + 1) _ L SS HRo.out (by have := HLl.out; omega) HSo.out).mono ?_
      rintro e w2 ⟨rfl, r2, k2⟩
      have HR2 := hid r2
      have HB2 := hid (HB.out.trans (k2.below HB.out.size (fun g hg e => by have := (HRo.out.lt e).1; omega)))
      have HZ2 := hid (show w.heap.size + 1 ≤ w2.heap.size from Nat.le_trans HZ.out k2.size)
      have HLn := hid HLl.out
      clear r2 k2
      generalize hm : L.length = m at *
      have hm40 : m ≤ 40 := HLl.out
      clear hm HP HSo HLl HRo HRg HC
      go_wp2
      go_loopw [8, 24] (fun o i wr => ∃ k : Nat, k ≤ m ∧ i = .int .i64 (k : Int) ∧ Hid (RowO wr w2.heap.size 36 4 o k (wCells ((SS.take k).map (fun i => l.getD i Wt.none)))) ∧ Hid (Below w2.heap.size w2 wr)) (fun _ i _ => m - (intOf i).toNat)
      case atStart => exact ⟨0, Nat.zero_le _, rfl, Or.inl ⟨_, rfl, rfl, by simp [wCells]⟩, Below.refl _ _⟩
      case round =>
        obtain ⟨k, hk, rfl, HO, HBr⟩ := hrel
        obtain ⟨oa, oc, eo, _⟩ := HO.out.wr
        subst eo
        by_cases hlt : k < m
        · have hkS : k < SS.length := by rw [HLe.out]; exact hlt
          obtain ⟨aa, cc, ea, hwa⟩ := HR2.out.wr
          cases ea
          obtain ⟨g, o, rfl, hc⟩ := hwa.sl k (by omega)
          have hcv : (qCells SS).getD k undef = .int .i64 ((SS.getD k 0 : Nat) : Int) := by unfold qCells; simp [List.getD, hkS]
          have hc2 := (HBr.out.cell (p := ⟨g, o + k, none⟩) (World.block_lt_of_cell? w2 _ hc)).trans hc
          replace hc2 : wr.cell? ⟨g, o + k, none⟩ = some (.int .i64 ((SS.getD k 0 : Nat) : Int)) := hc2.trans (congrArg some hcv)
          have hxl := HX.out k hkS
          have htk := hid (leftW_take l SS k hkS)
          generalize SS.getD k 0 = y at *
          have hy1 : (y : Int) < (l.length : Int) := by omega
          have hy0 : (0 : Int) ≤ (y : Int) := Int.natCast_nonneg y
          obtain ⟨b3, o3, rfl, x0, x1, x2, x3⟩ := Wts.at_ ((HS.out.below HB2.out).below HBr.out) y hxl
          generalize l.getD y Wt.none = u at *
          have HRa : Hid (∀ ob, RowO (wr.alloc ob) w2.heap.size 36 4 (.slice oa k oc) k (wCells ((SS.take k).map (fun i => l.getD i Wt.none)))) := fun ob => HO.out.below ((Below.refl _ _).alloc (Nat.le_refl _) ob)
          have HBa := hid (show ∀ ob, w2.heap.size ≤ (wr.alloc ob).heap.size from fun ob => by have := lt_alloc wr ob; have := HBr.out.size; omega)
          have HO2 := hid (fun g => HO.out.lt (b := g))
          clear hwa hc
          generalize (SS.take k).map (fun i => l.getD i Wt.none) = ol at *
          go_wp2_with (at_builtin; refine wpList_app 26 36 Wt.none.val 4 40 Try.underlying26 infoW rfl (by decide) (by decide) _ rfl (.tmp 28) (.tmp 33) rfl w2.heap.size _ k (wCells ol) rfl (HRa.out _) ⟨wr.heap.size, 0, none⟩ 1 1 u.cells rfl rfl (sl_lit wr u.cells 36 4 rfl) (by intro z hz; exact wCells_one [u] z (by simpa [wCells] using hz)) (by omega) (HBa.out _) ?_; intro v3 w3 r3 kk hi; obtain ⟨p3, d3, e3, _⟩ := r3.wr; subst e3; have HR3 := hid r3; have HK3 := hid kk; clear r3 kk hi)
          exact ⟨⟨k + 1, by omega, by go_num, by rw [htk.out, wCells_snoc]; exact HR3.out, (HBr.out.alloc HBr.out.size _).trans (HK3.out.below (HBa.out _) (fun g hg e => by have := (HO2.out g e).1; omega))⟩, by simp [intOf]; omega⟩
        obtain rfl : k = m := by omega
        go_wp2
        go_ret
        refine ⟨_, rfl, ?_, HB2.out.trans (HBr.out.mono HB2.out.size)⟩
        rw [HLW.out, List.length_map, List.length_take, HLe.out, Nat.min_self]
        exact HO.out.mono HB2.out.size
    · intro x c kl yd yp w1 cnt1 hkey hlk hv hat hrg1 hlt hg1 hs1 hen
      obtain ⟨h0, s0, hk0, rfl⟩ := HQ.out.only kl (Maps.has_true_of_atKey hat)
      have hyd : yd = .held c := by
        simp only [Rid, Option.some.injEq, Prod.mk.injEq] at hv
        exact hv.1.symm
      have hcV : c = V h0 s0 := by
        have e1 := HQ.out.at_ h0 s0 hk0
        rw [hat, hyd] at e1
        injection e1
      have hQne : Q h0 s0 ≠ [] := (HQ.out.has h0 s0 hk0).1 (Maps.has_true_of_atKey hat)
      have hrw := HQ.out.row h0 s0 hk0
      obtain ⟨g, cc, hVf⟩ := hrw.form (List.length_pos_iff.2 hQne)
      rw [hVf] at hcV hrw
      subst hcV
      have HC1 := hid (HC.out.step HQO.out hk0 hlk)
      have HB1 := hid (HB.out.grown hg1 HB.out.size (fun j hj => by cases hj; exact Nat.le_refl _))
      have hLl := nodup_le HC1.out.nodup (HC1.out.lt HQO.out)
      rw [List.length_append] at hLl
      have HRg1 := hid hrg1
      have HRo1 := hid (HRo.out.kept (grown_kept hg1) (fun y hy e => by have := (HRo.out.lt hy).1; cases e; omega))
      have HSl : Hid (Sl w1 (some ⟨g, 0, none⟩) ((Q h0 s0).length * 1) (fun i => (qCells (Q h0 s0)).getD i undef)) := by
        obtain ⟨_, _, ea, hwa⟩ := hrw.wr
        cases ea
        exact hwa.sl.below HB1.out
      have HZ1 := hid (show w.heap.size + 1 ≤ w1.heap.size from by rw [hs1]; exact HZ.out)
      have Hlt := hid hlt
      clear hs1 hg1 hrg1 hrw hVf hat hv hyd hkey hlt
      generalize Q h0 s0 = Z at *
      go_wp2_with (at_builtin; refine wpList_app 25 3 (.int .i64 0) 1 8 Try.underlying25 info3' rfl (by decide) (by decide) _ rfl (.tmp 17) (.tmp 18) rfl (w.heap.size + 1) _ L.length (qCells L) rfl HRo1.out ⟨g, 0, none⟩ Z.length (cc + 1) (qCells Z) rfl (by rw [qCells_length]; omega) HSl.out (by intro u hu; unfold qCells at hu; obtain ⟨z, _, rfl⟩ := List.mem_map.1 hu; rfl) (by omega) HZ1.out ?_; intro v3 w3 r3 kk hi; obtain ⟨p3, d3, e3, _⟩ := r3.wr; subst e3; have HR3 := hid r3; have HK3 := hid kk; clear r3 kk hi)
      have hrg3 := HRg1.out.kept (kept_grown HK3.out) (fun e => by have := (HRo1.out.lt e.symm).1; omega) (fun e => by have := (HRo1.out.lt e.symm).1; omega)
      exact ⟨⟨_, cnt1, L ++ Z, by rw [List.length_append, show qCells (L ++ Z) = qCells L ++ qCells Z from by simp [qCells]]; exact HR3.out, hrg3, HC1.out, HB1.out.trans (HK3.out.below HB1.out.size (fun g hg e => by have := (HRo1.out.lt e).1; omega)), hid (Nat.le_trans HZ1.out HK3.out.size)⟩, by rw [hrg3.left_eq, HRg.out.left_eq]; exact Hlt.out⟩

end Go.Proofs.Ytbnmcbbpbiofgaa.Mem

namespace Go.Proofs.Ytbnmcbbpbiofgaa.Mem
open Go.RowKit
set_option linter.unusedVariables false

theorem range_getD (l : List Wt) : (List.range l.length).map (fun i => l.getD i Wt.none) = l := by
  apply List.ext_getElem (by simp)
  intro i h1 h2
  simp [List.getD, h2]

theorem range'_getD (l : List Wt) : ∀ (n k : Nat), k + n = l.length → (List.range' k n).map (fun i => l.getD i Wt.none) = l.drop k
  | 0, k, h => by rw [List.drop_eq_nil_of_le (by omega)]; rfl
  | n + 1, k, h => by
    have hk : k < l.length := by omega
    rw [List.range'_succ, List.map_cons, range'_getD l n (k + 1) (by omega), List.drop_eq_getElem_cons hk]
    simp [List.getD, hk]

theorem split_range (n i : Nat) (h : i < n) : List.range n = List.range i ++ i :: List.range' (i + 1) (n - i - 1) := by
  rw [List.range_eq_range', List.range_eq_range', show n = i + ((n - i - 1) + 1) from by omega, List.range'_append_1.symm, Nat.zero_add, List.range'_succ]
  congr 3
  omega

/-- All but number i. -/
theorem but_one (l : List Wt) (i : Nat) (h : i < l.length) : ((List.range l.length).filter (fun j => decide (j ≠ i))).map (fun j => l.getD j Wt.none) = l.eraseIdx i := by
  have f1 : (List.range i).filter (fun j => decide (j ≠ i)) = List.range i := List.filter_eq_self.2 (fun j hj => by have := List.mem_range.1 hj; simp; omega)
  have f2 : (List.range' (i + 1) (l.length - i - 1)).filter (fun j => decide (j ≠ i)) = List.range' (i + 1) (l.length - i - 1) := List.filter_eq_self.2 (fun j hj => by have := (List.mem_range'_1.1 hj).1; simp; omega)
  have f3 : decide (i ≠ i) = false := by simp
  rw [split_range l.length i h, List.filter_append, List.filter_cons, f3, f1, f2, List.map_append, if_neg (by simp), range'_getD l _ _ (by omega), List.eraseIdx_eq_take_drop_succ]
  congr 1
  apply List.ext_getElem (by simp; omega)
  intro j h1 h2
  have hj : j < l.length := by simp at h1; omega
  simp [List.getD, hj]

theorem mem_qAt {l : List Wt} {i : Nat} (h : i < l.length) : i ∈ qAt l l.length (l.getD i Wt.none).host (l.getD i Wt.none).sector := by
  unfold qAt
  exact List.mem_filter.2 ⟨List.mem_range.2 h, decide_eq_true ⟨rfl, rfl⟩⟩

theorem qAt_lt (l : List Wt) (h s : Int) : (qAt l l.length h s).Pairwise (fun a b => a < b) := List.Pairwise.filter _ List.pairwise_lt_range
theorem qAt_nodup (l : List Wt) (h s : Int) : (qAt l l.length h s).Nodup := nodup_filter List.nodup_range

theorem erase_mem {Z : List Nat} (hn : Z.Nodup) (p : Nat) (hp : p < Z.length) (x : Nat) : x ∈ Z.eraseIdx p ↔ x ∈ Z ∧ x ≠ Z.getD p 0 := by
  have e : Z.getD p 0 = Z[p] := by simp [List.getD, hp]
  rw [e]
  have hz := List.getElem_cons_drop hp
  have hs : Z = Z.take p ++ Z[p] :: Z.drop (p + 1) := by rw [hz, List.take_append_drop]
  have hne : ∀ a ∈ Z.take p ++ Z.drop (p + 1), a ≠ Z[p] := by
    rw [hs] at hn
    obtain ⟨h1, h2, h3⟩ := List.nodup_append.1 hn
    intro a ha
    rcases List.mem_append.1 ha with ha | ha
    · exact h3 a ha _ List.mem_cons_self
    · exact fun e => (List.nodup_cons.1 h2).1 (by rw [← e]; exact ha)
  rw [List.eraseIdx_eq_take_drop_succ]
  constructor
  · intro hx
    refine ⟨?_, hne x hx⟩
    rcases List.mem_append.1 hx with hx | hx
    · exact List.mem_of_mem_take hx
    · exact List.mem_of_mem_drop hx
  · rintro ⟨hx, hn2⟩
    rw [hs] at hx
    rcases List.mem_append.1 hx with hx | hx
    · exact List.mem_append.2 (Or.inl hx)
    · rcases List.mem_cons.1 hx with hx | hx
      · exact absurd hx hn2
      · exact List.mem_append.2 (Or.inr hx)

/-- One number is struck from its queue. -/
theorem left_erase (l : List Wt) (i p : Nat) (hi : i < l.length) (hp : p < (qAt l l.length (l.getD i Wt.none).host (l.getD i Wt.none).sector).length) (he : (qAt l l.length (l.getD i Wt.none).host (l.getD i Wt.none).sector).getD p 0 = i) :
    leftW l (upd (qAt l l.length) (l.getD i Wt.none).host (l.getD i Wt.none).sector ((qAt l l.length (l.getD i Wt.none).host (l.getD i Wt.none).sector).eraseIdx p)) = l.eraseIdx i := by
  rw [← but_one l i hi]
  unfold leftW keptQ
  congr 1
  apply List.filter_congr
  intro j hj
  have hj := List.mem_range.1 hj
  apply decide_eq_decide.2
  by_cases e : (l.getD j Wt.none).host = (l.getD i Wt.none).host ∧ (l.getD j Wt.none).sector = (l.getD i Wt.none).sector
  · rw [e.1, e.2, upd_same, erase_mem (qAt_nodup _ _ _) p hp, he]
    have hm := mem_qAt hj
    rw [e.1, e.2] at hm
    exact ⟨fun h => h.2, fun h => ⟨hm, h⟩⟩
  · rw [upd_other _ _ e]
    exact ⟨fun _ e' => e (by rw [e']; exact ⟨rfl, rfl⟩), fun _ => mem_qAt hj⟩

theorem qOk_erase (l : List Wt) (h s : Int) (p : Nat) : QOk l (upd (qAt l l.length) h s ((qAt l l.length h s).eraseIdx p)) :=
  (qOk_at l).erase h s _ (fun x hx => List.mem_of_mem_eraseIdx hx) (fun _ => List.Pairwise.sublist (List.eraseIdx_sublist _ _) (qAt_nodup l h s))

/-- The first of a queue. -/
theorem first_q (l : List Wt) (i : Nat) (hi : i < l.length) : (qAt l l.length (l.getD i Wt.none).host (l.getD i Wt.none).sector).getD 0 0 = i ↔ ∀ j, j < i → ¬ ((l.getD j Wt.none).host = (l.getD i Wt.none).host ∧ (l.getD j Wt.none).sector = (l.getD i Wt.none).sector) := by
  have hm := mem_qAt hi
  have hlt := qAt_lt l (l.getD i Wt.none).host (l.getD i Wt.none).sector
  have hmem : ∀ x, x ∈ qAt l l.length (l.getD i Wt.none).host (l.getD i Wt.none).sector ↔ x < l.length ∧ (l.getD x Wt.none).host = (l.getD i Wt.none).host ∧ (l.getD x Wt.none).sector = (l.getD i Wt.none).sector := fun x =>
    ⟨fun h => qAt_mem h, fun h => by have := mem_qAt h.1; rw [h.2.1, h.2.2] at this; exact this⟩
  generalize qAt l l.length (l.getD i Wt.none).host (l.getD i Wt.none).sector = Z at *
  match Z, hm, hlt, hmem with
  | z :: r, hm, hlt, hmem =>
    have hmin : ∀ x ∈ z :: r, z ≤ x := fun x hx => by
      rcases List.mem_cons.1 hx with h | h
      · omega
      · exact Nat.le_of_lt ((List.pairwise_cons.1 hlt).1 x h)
    show z = i ↔ _
    constructor
    · rintro rfl j hj hs
      have := hmin j ((hmem j).2 ⟨by omega, hs⟩)
      omega
    · intro h
      have h1 := hmin i hm
      have h2 := (hmem z).1 (by simp)
      rcases Nat.lt_or_ge z i with h3 | h3
      · exact absurd h2.2 (h z h3)
      · omega

/-- The queues without those of host x to the first k sectors. -/
def qBut (Q : Int → Int → List Nat) (x : Int) (k : Nat) (h s : Int) : List Nat := if h = x ∧ s < (k : Int) then [] else Q h s

theorem qBut_succ (Q : Int → Int → List Nat) (x : Int) (k : Nat) (h s : Int) (h0 : OkK h s) : qBut Q x (k + 1) h s = upd (qBut Q x k) x (k : Int) [] h s := by
  unfold qBut upd
  by_cases e : h = x ∧ s = (k : Int)
  · rw [if_pos e, if_pos ⟨e.1, by omega⟩]
  · rw [if_neg e]
    show (if h = x ∧ s < ((k + 1 : Nat) : Int) then [] else Q h s) = (if h = x ∧ s < (k : Int) then [] else Q h s)
    by_cases e2 : h = x ∧ s < (k : Int)
    · rw [if_pos e2, if_pos ⟨e2.1, by omega⟩]
    · rw [if_neg e2, if_neg (fun q => e ⟨q.1, by have := q.2; have : ¬ s < (k : Int) := fun z => e2 ⟨q.1, z⟩; omega⟩)]

theorem qOk_but (l : List Wt) (x : Int) (k : Nat) : QOk l (qBut (qAt l l.length) x k) := by
  refine ⟨fun h s hk i hi => ?_, fun h s hk => ?_⟩
  · unfold qBut at hi
    split at hi
    · simp at hi
    · exact qAt_mem hi
  · unfold qBut
    split
    · exact List.nodup_nil
    · exact qAt_nodup l h s

/-- All of one host's are struck. -/
theorem left_but (l : List Wt) (x : Int) (n : Nat) (hs : ∀ j, j < l.length → (l.getD j Wt.none).sector < (n : Int)) : leftW l (qBut (qAt l l.length) x n) = others l x := by
  have e : keptQ l (qBut (qAt l l.length) x n) = (List.range l.length).filter (fun i => decide ((l.getD i Wt.none).host ≠ x)) := by
    unfold keptQ
    apply List.filter_congr
    intro j hj
    have hj := List.mem_range.1 hj
    apply decide_eq_decide.2
    unfold qBut
    by_cases e : (l.getD j Wt.none).host = x
    · rw [if_pos ⟨e, hs j hj⟩]
      exact ⟨fun h => absurd h (by simp), fun h => absurd e h⟩
    · rw [if_neg (fun q => e q.1)]
      exact ⟨fun _ => e, fun _ => mem_qAt hj⟩
  unfold leftW others
  rw [e]
  conv => rhs; rw [← range_getD l]
  rw [List.filter_map]
  congr 1

end Go.Proofs.Ytbnmcbbpbiofgaa.Mem

namespace Go.Proofs.Ytbnmcbbpbiofgaa.Mem
open Go.RowKit
set_option linter.unusedVariables false

theorem getD_set_eq (l : List ByteArray) (i : Nat) (t : ByteArray) (c : Nat) (hc : c < l.length) : (l.set i t).getD c ByteArray.empty = if i = c then t else l.getD c ByteArray.empty := by
  rw [List.getD_eq_getElem?_getD, List.getElem?_set, List.getD_eq_getElem?_getD]
  by_cases e : i = c
  · subst e
    simp [hc]
  · simp [e]

theorem lands_getD (h : Int) (c : Nat) : ∀ (l : List Wt) (s : List ByteArray), (∀ x ∈ l, 0 ≤ x.sector) → c < s.length → (lands s l h).getD c ByteArray.empty = seeL (s.getD c ByteArray.empty) l h (c : Int)
  | [], s, _, _ => rfl
  | x :: r, s, hp, hc => by
    have hx := hp x (by simp)
    have ih := lands_getD h c r (if x.host = h then s.set x.sector.toNat x.text else s) (fun y hy => hp y (by simp [hy])) (by split <;> simpa using hc)
    rw [lands_cons, ih]
    show seeL _ r h (c : Int) = seeL (if x.host = h ∧ x.sector = (c : Int) then x.text else s.getD c ByteArray.empty) r h (c : Int)
    congr 1
    by_cases e1 : x.host = h
    · rw [if_pos e1, getD_set_eq s _ _ c hc]
      by_cases e2 : x.sector.toNat = c
      · rw [if_pos e2, if_pos ⟨e1, by omega⟩]
      · rw [if_neg e2, if_neg (fun q => e2 (by omega))]
    · rw [if_neg e1, if_neg (fun q => e1 q.1)]

/-- The sectors of which the first k were flushed. -/
structure SecK (D : Dk) (x : Int) (k : Nat) (l : List ByteArray) : Prop where
  len : l.length = D.sec.length
  done : ∀ c, c < k → l.getD c ByteArray.empty = D.see x (c : Int) D.pe.length
  todo : ∀ c, k ≤ c → l.getD c ByteArray.empty = D.sec.getD c ByteArray.empty

theorem SecK.start (D : Dk) (x : Int) : SecK D x 0 D.sec := ⟨rfl, fun c h => by omega, fun c _ => rfl⟩

theorem SecK.all {D : Dk} {x : Int} {l : List ByteArray} (h : SecK D x D.sec.length l) (hp : ∀ y ∈ D.pe, 0 ≤ y.sector) : l = lands D.sec D.pe x := by
  apply List.ext_getElem (by rw [h.len, lands_length])
  intro c h1 h2
  have hc : c < D.sec.length := by rw [← h.len]; exact h1
  have e1 := h.done c hc
  have e2 := lands_getD x c D.pe D.sec hp hc
  have e3 := see_all D x (c : Int)
  rw [Int.toNat_natCast] at e3
  rw [← e3, ← e1] at e2
  rw [List.getD_eq_getElem?_getD, List.getElem?_eq_getElem h2, List.getD_eq_getElem?_getD, List.getElem?_eq_getElem h1] at e2
  exact e2.symm

/-- Sector k behind the first j of its queue. -/
def secAt (D : Dk) (Z : List Nat) (k j : Nat) : ByteArray := if j = 0 then D.sec.getD k ByteArray.empty else (D.pe.getD (Z.getD (j - 1) 0) Wt.none).text

theorem secAt_zero (D : Dk) (Z : List Nat) (k : Nat) : secAt D Z k 0 = D.sec.getD k ByteArray.empty := if_pos rfl
theorem secAt_succ (D : Dk) (Z : List Nat) (k j : Nat) : secAt D Z k (j + 1) = (D.pe.getD (Z.getD j 0) Wt.none).text := by unfold secAt; rw [if_neg (by omega)]; rfl
theorem secAt_all (D : Dk) (x : Int) (k : Nat) : secAt D (qAt D.pe D.pe.length x (k : Int)) k (qAt D.pe D.pe.length x (k : Int)).length = D.see x (k : Int) D.pe.length := by
  rw [see_q]
  generalize qAt D.pe D.pe.length x (k : Int) = Z
  by_cases hZ : Z = []
  · subst hZ
    rfl
  · obtain ⟨Z', i, rfl⟩ : ∃ Z' i, Z = Z' ++ [i] := ⟨Z.dropLast, Z.getLast hZ, (List.dropLast_concat_getLast hZ).symm⟩
    rw [List.length_append]
    show secAt D (Z' ++ [i]) k (Z'.length + 1) = _
    rw [secAt_succ]
    simp

/-- Sector k is stored while it is flushed. -/
structure SecJ (D : Dk) (x : Int) (k : Nat) (t : ByteArray) (l : List ByteArray) : Prop where
  len : l.length = D.sec.length
  done : ∀ c, c < k → l.getD c ByteArray.empty = D.see x (c : Int) D.pe.length
  here : l.getD k ByteArray.empty = t
  todo : ∀ c, k < c → l.getD c ByteArray.empty = D.sec.getD c ByteArray.empty

theorem SecK.begin_ {D : Dk} {x : Int} {k : Nat} {l : List ByteArray} (h : SecK D x k l) : SecJ D x k (D.sec.getD k ByteArray.empty) l := ⟨h.len, h.done, h.todo k (Nat.le_refl _), fun c hc => h.todo c (by omega)⟩
theorem SecJ.end_ {D : Dk} {x : Int} {k : Nat} {l : List ByteArray} (h : SecJ D x k (D.see x (k : Int) D.pe.length) l) : SecK D x (k + 1) l :=
  ⟨h.len, fun c hc => by by_cases e : c = k; · rw [e]; exact h.here
                         · exact h.done c (by omega), fun c hc => h.todo c (by omega)⟩
theorem SecJ.set {D : Dk} {x : Int} {k : Nat} {t t' : ByteArray} {l : List ByteArray} (h : SecJ D x k t l) (hk : k < D.sec.length) : SecJ D x k t' (l.set k t') := by
  have hl := h.len
  have none_ : ∀ c, ¬ c < l.length → (l.set k t').getD c ByteArray.empty = l.getD c ByteArray.empty := fun c hc => by
    rw [List.getD_eq_getElem?_getD, List.getElem?_eq_none (by simp; omega), List.getD_eq_getElem?_getD, List.getElem?_eq_none (by omega)]
  have ne : ∀ c, c ≠ k → (l.set k t').getD c ByteArray.empty = l.getD c ByteArray.empty := fun c hc => by
    by_cases e : c < l.length
    · rw [getD_set_eq l k t' c e, if_neg (fun q => hc q.symm)]
    · exact none_ c e
  refine ⟨by rw [List.length_set]; exact h.len, fun c hc => by rw [ne c (by omega)]; exact h.done c hc, ?_, fun c hc => by rw [ne c (by omega)]; exact h.todo c hc⟩
  rw [getD_set_eq l k t' k (by omega), if_pos rfl]

/-- The queues while sector k is flushed: j of its queue are gone. -/
theorem qBut_here (Q : Int → Int → List Nat) (x : Int) (k : Nat) : qBut Q x k x (k : Int) = Q x (k : Int) := if_neg (fun q => by have := q.2; omega)

end Go.Proofs.Ytbnmcbbpbiofgaa.Mem

namespace Go.Proofs.Ytbnmcbbpbiofgaa.Mem
open Go.RowKit Go.Sort
set_option linter.unusedVariables false

set_option maxRecDepth 100000 in
set_option maxHeartbeats 2000000 in
theorem takeS (w : World) (B b n : Nat) (Q : Int → Int → List Nat) (D : DataW Value) (V : Int → Int → Value) (q : QM w B b n Q D V) (h s : Int) (hk : OkK h s) (i : Nat) (hi : i < (Q h s).length) (hn : n < 1048576) (hi40 : i < 1048576) :
    Calls Try.prog 22 #[.map (some b), .agg #[.int .i64 h, .int .i64 s], .int .i64 (i : Int)] w fun e w' => e = .returned (.tuple #[]) ∧ (∃ D' V', QM w' B b (n + 1) (upd Q h s ((Q h s).eraseIdx i)) D' V' ∧ ∀ h' s' y, rb (V' h' s') = some y → rb (V h' s') = some y) ∧ Kept (fun g => g = b ∨ rb (V h s) = some g) w w' := by
  obtain ⟨wb, hwb, ez, A0, B0⟩ := one_new w [.int .i64 h, .int .i64 s] 53
  have qb := q.below B0
  have hlk : (Instr.lookup 50 (.map (some b)) (.agg #[.int .i64 h, .int .i64 s]) false).run Try.prog wb = .ok (V h s) wb := qb.look hk
  have hrow := qb.row h s hk
  obtain ⟨g, c, hv⟩ := hrow.form (by omega)
  have HV := hid hv
  have hgl : g < w.heap.size := ((q.row h s hk).lt (b := g) (by rw [hv]; rfl)).2
  rw [hv] at hlk hrow
  have HQ := hid qb
  have HR := hid hrow
  have HA := hid A0
  have HB0 := hid B0
  have hcap := hid hrow.cap
  have k0 := A0.c 0 rfl
  have k1 := A0.c 1 rfl
  have Hlt := hid (show (zOf (Q h s)).length = (Q h s).length from zOf_length _)
  have hq40 : (Q h s).length ≤ 9223372036854775807 := by have := hcap.out.1; have := hcap.out.2; unfold maxLen at this; omega
  clear q qb hv hrow A0 B0 ez
  generalize hZ : Q h s = Z at *
  have HZ := hid hZ
  clear hZ
  go_enter Try.func22, Try.ntmps22
  go_wp2_with fail
  have hc := Any.slices_Delete_int Try.lays223 g 0 (c + 1) i (i + 1) (zOf Z) wb (holds_row HR.out) (by rw [zOf_length]; exact hcap.out.1) (by have := hcap.out.2; unfold maxLen at this; exact this) (by omega) (by rw [zOf_length]; omega)
  rw [zOf_length, show (i + 1 - i) = 1 from by omega] at hc
  obtain ⟨m, hm⟩ : ∃ m, Z.length - 1 = m := ⟨_, rfl⟩
  rw [hm] at hc
  refine hc.mono ?_
  rintro e w2 ⟨rfl, p, hw2⟩
  have r2 := row_deleted (q := p) HR.out hi
  rw [show (i + 1 - i) = 1 from by omega, ← hw2, hm] at r2
  have k2 : Kept (fun y => y = g) wb w2 := by rw [hw2]; exact kept_putRow wb g p _
  have hlE : (Z.eraseIdx i).length = m := by rw [List.length_eraseIdx_of_lt hi]; exact hm
  have kv : Kept (fun y => rb (V h s) = some y) wb w2 := k2.mono (fun y _ e => by rw [HV.out, e]; rfl)
  have R2 := HA.out.kept k2 (by omega)
  have hgB := (HR.out.lt (b := g) rfl).1
  have HK2 := hid ((Kept.of_below (S := fun _ => False) HB0.out).trans k2)
  clear hc hw2 k0 k1 hlk hwb
  have k0 := R2.c 0 rfl
  have k1 := R2.c 1 rfl
  have HKV := hid kv
  have HR2 := hid r2
  clear kv k2 r2 R2
  by_cases hm0 : m = 0
  · subst hm0
    have hnil : Z.eraseIdx i = [] := List.eq_nil_of_length_eq_zero hlE
    obtain ⟨w3, hr3, q3, k3⟩ := HQ.out.drop hk HKV.out 0
    have hd : ∀ ty, (Builtin.delete_ #[50, 53] ty #[.map (some b), .agg #[.int .i64 h, .int .i64 s]]).run Try.prog w2 = .ok (.tuple #[]) w3 := fun ty => hr3
    have HQ3 := hid q3
    have HK3 := hid k3
    clear q3 k3 hr3
    go_wp2
    refine bodyPost_ret (results_none rfl _ _ _) rfl ?_
    rw [hnil]
    exact ⟨rfl, ⟨_, _, HQ3.out.more, fun h' s' y hy => by
      by_cases e : h' = h ∧ s' = s
      · obtain ⟨rfl, rfl⟩ := e; rw [upd_same] at hy; simp [rb, nilv] at hy
      · rw [upd_other _ _ e] at hy; exact hy⟩, (HK2.out.trans HK3.out).mono (fun y _ e => by rcases e with (e | e) | e; exact e.elim; exact Or.inr (by rw [HV.out, e]; rfl); exact Or.inl e)⟩
  · have hne : Z.eraseIdx i ≠ [] := fun e => hm0 (by rw [← hlE, e]; rfl)
    obtain ⟨w3, hr3, q3, k3⟩ := HQ.out.store hk (by unfold maxLen; omega) HKV.out (.slice (some ⟨g, 0, none⟩) m (c + 1)) (Z.eraseIdx i) hne HR2.out (Or.inr (Or.inl (by rw [HV.out]; rfl)))
    replace hr3 : (Instr.mapUpdate 50 (.map (some b)) (.agg #[.int .i64 h, .int .i64 s]) (.slice (some ⟨g, 0, none⟩) m (c + 1))).run Try.prog w2 = .ok () w3 := hr3
    have HQ3 := hid q3
    have HK3 := hid k3
    clear q3 k3
    go_wp2
    go_end0
    exact ⟨rfl, ⟨_, _, HQ3.out, fun h' s' y hy => by
      by_cases e : h' = h ∧ s' = s
      · obtain ⟨rfl, rfl⟩ := e; rw [upd_same] at hy; rw [HV.out]; exact hy
      · rw [upd_other _ _ e] at hy; exact hy⟩, (HK2.out.trans HK3.out).mono (fun y _ e => by rcases e with (e | e) | e; exact e.elim; exact Or.inr (by rw [HV.out, e]; rfl); exact Or.inl e)⟩

end Go.Proofs.Ytbnmcbbpbiofgaa.Mem

namespace Go.Proofs.Ytbnmcbbpbiofgaa.Mem
open Go.RowKit
set_option linter.unusedVariables false

set_option maxRecDepth 100000 in
set_option maxHeartbeats 2000000 in
theorem copyDisk (w : World) (v : Value) (D : Dk) (h : DkR w v D) (h1 : D.sec.length ≤ 1048576) (h2 : D.ep.length ≤ 1048576) (h3 : D.pe.length ≤ 1048576) :
    Calls Try.prog 19 #[v] w fun e w' => ∃ v', e = .returned v' ∧ DkO w' w.heap.size v' D ∧ Below w.heap.size w w' := by
  obtain ⟨a1, c1, a2, c2, a3, c3, rfl, s1, s2, s3⟩ := h
  have HS1 := hid (strs_sl s1)
  have HS2 := hid (ints_sl s2)
  have HS3 := hid (wts_sl s3)
  clear s1 s2 s3
  go_enter Try.func19, Try.ntmps19
  go_wp2
  obtain ⟨wc, hwc, ec, A0, R0, B0⟩ := two_new w [.slice a1 D.sec.length c1, .slice a2 D.ep.length c2, .slice a3 D.pe.length c3] [.slice none 0 0, .slice none 0 0, .slice none 0 0] 28 28
  simp only [hwc]
  clear hwc
  have k0 := A0.c 0 rfl
  have k1 := A0.c 1 rfl
  have k2 := A0.c 2 rfl
  have HB := hid B0
  have hn : w.heap.size + 1 ≤ wc.heap.size := by omega
  have hcp : CpRest wc w.heap.size wc.drew := ⟨(Below.refl _ wc).drew, fun j hj => by
    match j, hj with
    | 0, _ => exact ⟨_, R0.c 0 rfl⟩
    | 1, _ => exact ⟨_, R0.c 1 rfl⟩
    | 2, _ => exact ⟨_, R0.c 2 rfl⟩, fun j _ => R0.f j⟩
  have Q0 := hid (show wc.drew.cell? ⟨w.heap.size, 0, none⟩ = some (.slice a1 D.sec.length c1) ∧ wc.drew.cell? ⟨w.heap.size, 1, none⟩ = some (.slice a2 D.ep.length c2) ∧ wc.drew.cell? ⟨w.heap.size, 2, none⟩ = some (.slice a3 D.pe.length c3) ∧ CpRest wc w.heap.size wc.drew from ⟨k0, k1, k2, hcp⟩)
  clear A0 R0 B0 hcp k0 k1 k2
  go_region_held_law (fun w' => w'.cell? ⟨w.heap.size, 0, none⟩ = some (.slice a1 D.sec.length c1) ∧ w'.cell? ⟨w.heap.size, 1, none⟩ = some (.slice a2 D.ep.length c2) ∧ w'.cell? ⟨w.heap.size, 2, none⟩ = some (.slice a3 D.pe.length c3) ∧ CpRest wc w.heap.size w')
    (first | with_reducible exact Q0.out | with_reducible exact Q3.out | with_reducible exact Q2.out | with_reducible exact Q1.out | (with_reducible refine cp_alloc_drew hn ?_ _; with_reducible assumption) | (with_reducible refine cp_alloc hn ?_ _; with_reducible assumption) | (with_reducible refine cp_set (cp_set (cp_set ?_ 0 _) 1 _) 2 _; with_reducible assumption))
    (first
      | (refine step_app_empty 24 9 (.string ByteArray.empty) 1 16 Try.underlying24 info9' rfl (by decide) (by decide) rfl (.const (.slice none 0 0)) (.tmp 4) rfl _ rfl a1 D.sec.length c1 (sCells D.sec) rfl (by simp [sCells]) (cp_sl HS1.out HB.out rfl (by with_reducible assumption)) (sCells_one _) h1 ?_; intro v1 w1 r1 b1 z1 y1; replace r1 := r1.mono (cp_size (wc := wc) (n := w.heap.size) (x0 := .slice a1 D.sec.length c1) (x1 := .slice a2 D.ep.length c2) (x2 := .slice a3 D.pe.length c3) (by with_reducible assumption)); obtain ⟨p1, d1, e1, _⟩ := r1.wr; subst e1; have Q1 := hid (cp_below (wc := wc) (n := w.heap.size) (x0 := .slice a1 D.sec.length c1) (x1 := .slice a2 D.ep.length c2) (x2 := .slice a3 D.pe.length c3) hn b1 (by with_reducible assumption)); have R1 := hid r1; have Z1 := hid z1; have Y1 := hid y1; clear r1 b1 z1 y1)
      | (refine step_app_empty 26 36 Wt.none.val 4 40 Try.underlying26 infoW rfl (by decide) (by decide) rfl (.const (.slice none 0 0)) (.tmp 10) rfl _ rfl a3 D.pe.length c3 (wCells D.pe) rfl (wCells_length _) (cp_sl HS3.out HB.out rfl (by with_reducible assumption)) (wCells_one _) h3 ?_; intro v3 w3 r3 b3 z3 y3; replace r3 := r3.mono (cp_size (wc := wc) (n := w.heap.size) (x0 := .slice a1 D.sec.length c1) (x1 := .slice a2 D.ep.length c2) (x2 := .slice a3 D.pe.length c3) (by with_reducible assumption)); obtain ⟨p3, d3, e3, _⟩ := r3.wr; subst e3; have Q3 := hid (cp_below (wc := wc) (n := w.heap.size) (x0 := .slice a1 D.sec.length c1) (x1 := .slice a2 D.ep.length c2) (x2 := .slice a3 D.pe.length c3) hn b3 (by with_reducible assumption)); have T23 := hid (show Below w2.heap.size w2 w3 from (by first | with_reducible exact b3 | with_reducible exact below_a1 b3 | with_reducible exact below_a2 b3)); have R1'' := hid (R1'.out.below T23.out); have R2' := hid (R2.out.below T23.out); have S23 := hid (apart_fresh Z2.out Y2.out z3 y3 (by first | with_reducible exact Nat.le_refl _ | with_reducible exact Nat.le_of_lt (lt_alloc _ _) | with_reducible exact Nat.le_of_lt (Nat.lt_trans (lt_alloc _ _) (lt_alloc _ _)))); have S13 := hid (apart_fresh Z1.out Y1.out z3 y3 (Nat.le_trans T12.out.size (by first | with_reducible exact Nat.le_refl _ | with_reducible exact Nat.le_of_lt (lt_alloc _ _) | with_reducible exact Nat.le_of_lt (Nat.lt_trans (lt_alloc _ _) (lt_alloc _ _))))); obtain ⟨u0, g0⟩ := Q3.out.2.2.2.s 0 (by decide); obtain ⟨u1, g1⟩ := Q3.out.2.2.2.s 1 (by decide); obtain ⟨u2, g2⟩ := Q3.out.2.2.2.s 2 (by decide); have f0 := Q3.out.2.2.2.f 0 (by decide); have f1 := Q3.out.2.2.2.f 1 (by decide); have f2 := Q3.out.2.2.2.f 2 (by decide); have R3 := hid r3; have Z3 := hid z3; have Y3 := hid y3; clear r3 b3 z3 y3)
      | (refine step_app_empty 25 3 (.int .i64 0) 1 8 Try.underlying25 info3' rfl (by decide) (by decide) rfl (.const (.slice none 0 0)) (.tmp 7) rfl _ rfl a2 D.ep.length c2 (iCells D.ep) rfl (by simp [iCells]) (cp_sl HS2.out HB.out rfl (by with_reducible assumption)) (iCells_one _) h2 ?_; intro v2 w2 r2 b2 z2 y2; replace r2 := r2.mono (cp_size (wc := wc) (n := w.heap.size) (x0 := .slice a1 D.sec.length c1) (x1 := .slice a2 D.ep.length c2) (x2 := .slice a3 D.pe.length c3) (by with_reducible assumption)); obtain ⟨p2, d2, e2, _⟩ := r2.wr; subst e2; have Q2 := hid (cp_below (wc := wc) (n := w.heap.size) (x0 := .slice a1 D.sec.length c1) (x1 := .slice a2 D.ep.length c2) (x2 := .slice a3 D.pe.length c3) hn b2 (by with_reducible assumption)); have T12 := hid (show Below w1.heap.size w1 w2 from (by first | with_reducible exact b2 | with_reducible exact below_a1 b2 | with_reducible exact below_a2 b2)); have R1' := hid (R1.out.below T12.out); have S12 := hid (apart_fresh Z1.out Y1.out z2 y2 (by first | with_reducible exact Nat.le_refl _ | with_reducible exact Nat.le_of_lt (lt_alloc _ _) | with_reducible exact Nat.le_of_lt (Nat.lt_trans (lt_alloc _ _) (lt_alloc _ _)))); have R2 := hid r2; have Z2 := hid z2; have Y2 := hid y2; clear r2 b2 z2 y2))
  all_goals clear Q0
  all_goals (go_wp2; refine bodyPost_ret (results_mid rfl _ _ (w.heap.size + 1) [.slice p1 D.sec.length d1, .slice p2 D.ep.length d2, .slice p3 D.pe.length d3] _ rfl (range3 g0 g1 g2) Try.underlying28 rfl (by kernel_rfl)) rfl ?_; exact ⟨_, rfl, copy_end ec HB.out Q3.out.2.2.2.bel R1''.out R2'.out R3.out S12.out S13.out S23.out⟩)

end Go.Proofs.Ytbnmcbbpbiofgaa.Mem

namespace Go.Proofs.Ytbnmcbbpbiofgaa.Mem
open Go.RowKit
set_option linter.unusedVariables false

structure ISt (w : World) (a0 a1 a2 : Value) (B nn : Nat) (p0 p1 p2 : Value) (E : Dk) (wk : World) : Prop where
  bel : Below w.heap.size w wk
  ra : Row wk w.heap.size [a0, a1, a2]
  rr : Row wk (w.heap.size + 1) [.slice none 0 0, .slice none 0 0, .slice none 0 0]
  rn : Row wk nn [p0, p1, p2]
  o : DkO wk B (.agg #[p0, p1, p2]) E
  lb : w.heap.size + 1 < B
  ln : B ≤ nn
  far : ∀ b, DkB (.agg #[p0, p1, p2]) b → b ≠ nn

theorem ISt.below {w : World} {a0 a1 a2 : Value} {B nn : Nat} {p0 p1 p2 : Value} {E : Dk} {wk w' : World} (h : ISt w a0 a1 a2 B nn p0 p1 p2 E wk) (b : Below wk.heap.size wk w') : ISt w a0 a1 a2 B nn p0 p1 p2 E w' :=
  ⟨h.bel.trans (b.mono h.bel.size), h.ra.below b h.ra.lt, h.rr.below b h.rr.lt, h.rn.below b h.rn.lt, h.o.below b, h.lb, h.ln, h.far⟩

theorem ISt.cells {w : World} {a0 a1 a2 : Value} {B nn : Nat} {p0 p1 p2 : Value} {E : Dk} {wk : World} (h : ISt w a0 a1 a2 B nn p0 p1 p2 E wk) :
    wk.cell? ⟨w.heap.size, 0, none⟩ = some a0 ∧ wk.cell? ⟨w.heap.size, 1, none⟩ = some a1 ∧ wk.cell? ⟨w.heap.size, 2, none⟩ = some a2 ∧
    wk.cell? ⟨w.heap.size + 1, 0, none⟩ = some (.slice none 0 0) ∧ wk.cell? ⟨w.heap.size + 1, 1, none⟩ = some (.slice none 0 0) ∧ wk.cell? ⟨w.heap.size + 1, 2, none⟩ = some (.slice none 0 0) ∧
    wk.frozen? ⟨w.heap.size + 1, 0, none⟩ = false ∧ wk.frozen? ⟨w.heap.size + 1, 1, none⟩ = false ∧ wk.frozen? ⟨w.heap.size + 1, 2, none⟩ = false ∧
    wk.cell? ⟨nn, 0, none⟩ = some p0 ∧ wk.cell? ⟨nn, 1, none⟩ = some p1 ∧ wk.cell? ⟨nn, 2, none⟩ = some p2 ∧ wk.frozen? ⟨nn, 2, none⟩ = false :=
  ⟨h.ra.c 0 rfl, h.ra.c 1 rfl, h.ra.c 2 rfl, h.rr.c 0 rfl, h.rr.c 1 rfl, h.rr.c 2 rfl, h.rr.f 0, h.rr.f 1, h.rr.f 2, h.rn.c 0 rfl, h.rn.c 1 rfl, h.rn.c 2 rfl, h.rn.f 2⟩

/-- The own disk is handed back. -/
theorem ISt.done {w : World} {a0 a1 a2 : Value} {B nn : Nat} {p0 p1 p2 : Value} {E : Dk} {wk : World} (h : ISt w a0 a1 a2 B nn p0 p1 p2 E wk) :
    DkW (((wk.setCell ⟨w.heap.size + 1, 0, none⟩ p0).setCell ⟨w.heap.size + 1, 1, none⟩ p1).setCell ⟨w.heap.size + 1, 2, none⟩ p2) w.heap.size (.agg #[p0, p1, p2]) E ∧
    Below w.heap.size w (((wk.setCell ⟨w.heap.size + 1, 0, none⟩ p0).setCell ⟨w.heap.size + 1, 1, none⟩ p1).setCell ⟨w.heap.size + 1, 2, none⟩ p2) ∧
    Row (((wk.setCell ⟨w.heap.size + 1, 0, none⟩ p0).setCell ⟨w.heap.size + 1, 1, none⟩ p1).setCell ⟨w.heap.size + 1, 2, none⟩ p2) (w.heap.size + 1) [p0, p1, p2] :=
  wrap_end h.lb h.bel h.o (Below.refl _ _) h.rr

theorem ISt.start {w w1 w2 wn : World} {a0 a1 a2 p0 p1 p2 : Value} {E : Dk} (HB : Below w.heap.size w w1) (HA : Row w1 w.heap.size [a0, a1, a2]) (HR : Row w1 (w.heap.size + 1) [.slice none 0 0, .slice none 0 0, .slice none 0 0])
    (O : DkO w2 w1.heap.size (.agg #[p0, p1, p2]) E) (b2 : Below w1.heap.size w1 w2) (N0 : Row wn w2.heap.size [p0, p1, p2]) (bn : Below w2.heap.size w2 wn) : ISt w a0 a1 a2 w1.heap.size w2.heap.size p0 p1 p2 E wn :=
  ⟨(HB.trans (b2.mono HB.size)).trans (bn.mono (Nat.le_trans HB.size b2.size)), (HA.below b2 HA.lt).below bn (HA.below b2 HA.lt).lt, (HR.below b2 HR.lt).below bn (HR.below b2 HR.lt).lt, N0, O.below bn, HR.lt, b2.size, fun b hb => by have := (O.lt hb).2; omega⟩

theorem Row.otherK {S : Nat → Prop} {w w' : World} {g : Nat} {xs : List Value} (h : Row w g xs) (k : Kept S w w') (hg : ¬ S g) : Row w' g xs := h.kept k hg

/-- A sector of the own disk is stored. -/
theorem ISt.setSec {w : World} {a0 a1 a2 : Value} {B nn : Nat} {g n cap i : Nat} {p1 p2 : Value} {E : Dk} {wk : World} (h : ISt w a0 a1 a2 B nn (.slice (some ⟨g, 0, none⟩) n (cap + 1)) p1 p2 E wk) (hi : i < E.sec.length) (t : ByteArray) :
    ISt w a0 a1 a2 B nn (.slice (some ⟨g, 0, none⟩) n (cap + 1)) p1 p2 ⟨E.sec.set i t, E.ep, E.pe⟩ (wk.setCell ⟨g, i, none⟩ (.string t)) := by
  have hg := h.o.lt (b := g) ⟨_, _, _, rfl, Or.inl rfl⟩
  have hf := h.far g ⟨_, _, _, rfl, Or.inl rfl⟩
  have k := kept_set wk g i (.string t)
  have := h.lb
  exact ⟨below_set h.bel g i _ (by omega), h.ra.kept k (by omega), h.rr.kept k (by omega), h.rn.kept k (fun e => hf e.symm), h.o.setSec hi t, h.lb, h.ln, h.far⟩

/-- An epoch of the own disk is stored. -/
theorem ISt.setEp {w : World} {a0 a1 a2 : Value} {B nn : Nat} {g n cap i : Nat} {p0 p2 : Value} {E : Dk} {wk : World} (h : ISt w a0 a1 a2 B nn p0 (.slice (some ⟨g, 0, none⟩) n (cap + 1)) p2 E wk) (hi : i < E.ep.length) (z : Int) :
    ISt w a0 a1 a2 B nn p0 (.slice (some ⟨g, 0, none⟩) n (cap + 1)) p2 ⟨E.sec, E.ep.set i z, E.pe⟩ (wk.setCell ⟨g, i, none⟩ (.int .i64 z)) := by
  have hg := h.o.lt (b := g) ⟨_, _, _, rfl, Or.inr (Or.inl rfl)⟩
  have hf := h.far g ⟨_, _, _, rfl, Or.inr (Or.inl rfl)⟩
  have k := kept_set wk g i (.int .i64 z)
  have := h.lb
  exact ⟨below_set h.bel g i _ (by omega), h.ra.kept k (by omega), h.rr.kept k (by omega), h.rn.kept k (fun e => hf e.symm), h.o.setEp hi z, h.lb, h.ln, h.far⟩

/-- Another list of writes is laid into the own disk. -/
theorem ISt.setPend {w : World} {a0 a1 a2 : Value} {B nn : Nat} {p0 p1 p2 v : Value} {E : Dk} {wk w2 : World} {l : List Wt} (h : ISt w a0 a1 a2 B nn p0 p1 p2 E wk) (b : Below wk.heap.size wk w2) (r : RowO w2 wk.heap.size 36 4 v l.length (wCells l)) :
    ISt w a0 a1 a2 B nn p0 p1 v ⟨E.sec, E.ep, l⟩ (w2.setCell ⟨nn, 2, none⟩ v) := by
  have hn := h.rn.lt
  have hB : B ≤ wk.heap.size := by have := h.ln; omega
  have o2 := h.o.swapped b hB r
  have far : ∀ c, DkB (.agg #[p0, p1, v]) c → c ≠ nn := by
    rintro c ⟨_, _, _, e, hc⟩
    cases e
    rcases hc with hc | hc | hc
    · exact h.far c ⟨_, _, _, rfl, Or.inl hc⟩
    · exact h.far c ⟨_, _, _, rfl, Or.inr (Or.inl hc)⟩
    · have := (r.lt hc).1; omega
  have k := kept_set w2 nn 2 v
  have := h.lb
  have := h.ln
  have h2 := h.below b
  exact ⟨below_set h2.bel nn 2 _ (by omega), h2.ra.kept k (by omega), h2.rr.kept k (by omega), by simpa using h2.rn.set 2 v, o2.kept k (fun c hc => far c hc), h.lb, h.ln, far⟩

/-- A write is appended to the own disk's. -/
theorem ISt.app {w : World} {a0 a1 a2 : Value} {B nn : Nat} {p0 p1 p2 v : Value} {E : Dk} {wk wa w2 : World} {x : Wt} (h : ISt w a0 a1 a2 B nn p0 p1 p2 E wk) (b : Below wk.heap.size wk wa) (k : Kept (fun b => rb p2 = some b) wa w2)
    (r : RowO w2 B 36 4 v (E.pe.length + 1) (wCells E.pe ++ x.cells)) (hi : rb v = none ∨ rb v = rb p2 ∨ (rb v = some wa.heap.size ∧ wa.heap.size < w2.heap.size)) :
    ISt w a0 a1 a2 B nn p0 p1 v ⟨E.sec, E.ep, E.pe ++ [x]⟩ (w2.setCell ⟨nn, 2, none⟩ v) := by
  have ha := h.below b
  have o2 := h.o.more1 b k r hi
  have hn := h.rn.lt
  have hsz := b.size
  have far : ∀ c, DkB (.agg #[p0, p1, v]) c → c ≠ nn := by
    rintro c ⟨_, _, _, e, hc⟩
    cases e
    rcases hc with hc | hc | hc
    · exact h.far c ⟨_, _, _, rfl, Or.inl hc⟩
    · exact h.far c ⟨_, _, _, rfl, Or.inr (Or.inl hc)⟩
    · rcases hi with e | e | e
      · rw [e] at hc; cases hc
      · rw [e] at hc; exact h.far c ⟨_, _, _, rfl, Or.inr (Or.inr hc)⟩
      · rw [e.1] at hc; cases hc; omega
  have p2B : ∀ c, rb p2 = some c → B ≤ c := fun c hc => (h.o.lt ⟨_, _, _, rfl, Or.inr (Or.inr hc)⟩).1
  have p2n : ¬ rb p2 = some nn := fun e => h.far nn ⟨_, _, _, rfl, Or.inr (Or.inr e)⟩ rfl
  have k2 := kept_set w2 nn 2 v
  have := h.lb
  have := h.ln
  have n2 := ha.rn.kept k p2n
  refine ⟨below_set (ha.bel.trans (k.below ha.bel.size (fun c hc e => by have := p2B c e; omega))) nn 2 _ (by omega), (ha.ra.kept k (fun e => by have := p2B _ e; omega)).kept k2 (by omega), (ha.rr.kept k (fun e => by have := p2B _ e; omega)).kept k2 (by omega), by simpa using n2.set 2 v, o2.kept k2 (fun c hc => far c hc), h.lb, h.ln, far⟩

end Go.Proofs.Ytbnmcbbpbiofgaa.Mem

namespace Go.Proofs.Ytbnmcbbpbiofgaa.Mem
open Go.RowKit
set_option linter.unusedVariables false

theorem flush_refuse (D : Dk) (h1 : 1 ≤ D.sec.length) (x ep : Int) : D.flush x ep = if D.refuse x ep 0 [] = 0 then (⟨lands D.sec D.pe x, D.ep, others D.pe x⟩, 0) else (D, D.refuse x ep 0 []) := by
  have e : (((0 ≤ x ∧ x < 3) ∧ (0 : Int) ≤ 0 ∧ (0 : Int) < (D.sec.length : Int)) ∧ ∀ j, j < ([] : List ByteArray).length → ((([] : List ByteArray).getD j ByteArray.empty).size : Int) ≤ 700) ↔ (0 ≤ x ∧ x < 3) := ⟨fun h => h.1.1, fun h => ⟨⟨h, by omega, by omega⟩, fun j hj => by simp at hj⟩⟩
  unfold Dk.flush Dk.refuse
  simp only [e]
  by_cases g1 : 0 ≤ x ∧ x < 3
  · rw [if_pos g1, if_pos g1]
    by_cases g2 : D.ep.getD x.toNat 0 = ep
    · simp only [if_pos g2, if_true]
    · simp only [if_neg g2]
      rfl
  · rw [if_neg g1, if_neg g1]
    rfl

theorem refuse_host {D : Dk} {x ep s : Int} {ts : List ByteArray} (h : D.refuse x ep s ts = 0) : 0 ≤ x ∧ x < 3 := by
  unfold Dk.refuse at h
  by_cases h1 : ((0 ≤ x ∧ x < 3) ∧ 0 ≤ s ∧ s < (D.sec.length : Int)) ∧ (∀ j, j < ts.length → ((ts.getD j ByteArray.empty).size : Int) ≤ 700)
  · exact h1.1.1
  · rw [if_neg h1] at h; cases h

theorem QM.likeF {w : World} {B b n : Nat} {Q Q' : Int → Int → List Nat} {D : DataW Value} {V : Int → Int → Value} (q : QM w B b n Q D V) (e : ∀ h s, OkK h s → Q h s = Q' h s) : QM w B b n Q' D V :=
  ⟨q.own, q.lt, fun h s hk => by rw [← e h s hk]; exact q.has h s hk, q.at_, fun h s hk => by rw [← e h s hk]; exact q.row h s hk, q.apart, q.only⟩

theorem wts_of {w : World} {a1 a2 a3 : Option Addr} {n1 n2 n3 c1 c2 c3 : Nat} {D : Dk} (h : DkR w (.agg #[.slice a1 n1 c1, .slice a2 n2 c2, .slice a3 n3 c3]) D) : Wts w a3 D.pe := by
  obtain ⟨_, _, _, _, _, _, e, _, _, s3⟩ := h
  cases e
  exact s3

theorem QM.other {w : World} {B b n : Nat} {Q : Int → Int → List Nat} {D : DataW Value} {V : Int → Int → Value} (q : QM w B b n Q D V) (g i : Nat) (v : Value) (hg : g < b) : QM (w.setCell ⟨g, i, none⟩ v) B b n Q D V :=
  q.kept (kept_set w g i v) (by omega) (fun h s g' hk hg' e => by have := ((q.row h s hk).lt hg').1; have := q.lt; omega)

theorem ISt.kept {S : Nat → Prop} {w : World} {a0 a1 a2 : Value} {B nn : Nat} {p0 p1 p2 : Value} {E : Dk} {wk w' : World} (h : ISt w a0 a1 a2 B nn p0 p1 p2 E wk) (k : Kept S wk w') (b : Nat) (hb : nn < b) (hB : ∀ g, DkB (.agg #[p0, p1, p2]) g → g < b) (hS : ∀ g, S g → b ≤ g) : ISt w a0 a1 a2 B nn p0 p1 p2 E w' := by
  have h1 := h.lb
  have h2 := h.ln
  exact ⟨h.bel.trans (k.below h.bel.size (fun g hg hs => by have := hS g hs; omega)), h.ra.kept k (fun hs => by have := hS _ hs; omega), h.rr.kept k (fun hs => by have := hS _ hs; omega), h.rn.kept k (fun hs => by have := hS _ hs; omega),
    h.o.kept k (fun g hg hs => by have := hS g hs; have := hB g hg; omega), h.lb, h.ln, h.far⟩

theorem ISt.secCell {w : World} {a0 a1 a2 : Value} {B nn g n c : Nat} {p1 p2 : Value} {E : Dk} {wk : World} (h : ISt w a0 a1 a2 B nn (.slice (some ⟨g, 0, none⟩) n (c + 1)) p1 p2 E wk) {i : Nat} (hi : i < E.sec.length) :
    (∃ u, wk.cell? ⟨g, i, none⟩ = some u) ∧ wk.frozen? ⟨g, i, none⟩ = false := by
  have ho := h.o
  obtain ⟨_, _, _, ev, r1, _⟩ := ho
  cases ev
  obtain ⟨aa, cp, e1, hw⟩ := r1.wr
  cases e1
  obtain ⟨b, off, e2, _, hc2, hf2⟩ := hw i (by omega)
  cases e2
  rw [Nat.zero_add] at hc2 hf2
  exact ⟨⟨_, hc2⟩, hf2⟩

/-- How long the queue at a key is can be read off the world. -/
theorem look_len (b : Nat) {x s : Int} (hk : OkK x s) : ∃ lk : World → Nat, ∀ (w : World) (B n : Nat) (Q : Int → Int → List Nat) (D : DataW Value) (V : Int → Int → Value), QM w B b n Q D V → lk w = (Q x s).length := by
  refine ⟨fun w => match (Instr.lookup 50 (.map (some b)) (kval x s) false).run Try.prog w with | .ok (.slice _ n _) _ => n | _ => 0, fun w B n Q D V q => ?_⟩
  have h := q.look hk
  obtain ⟨a, c, e, _⟩ := (q.row x s hk).wr
  rw [e] at h
  simp only [h]

set_option maxRecDepth 100000 in
set_option maxHeartbeats 4000000 in
theorem implFlush (w : World) (v : Value) (D : Dk) (x ep : Int) (h : DkR w v D) (hd : D.Held) (hs : D.Small 1048576) :
    Calls Try.prog 7 #[v, .int .i64 x, .int .i64 ep] w fun e w' => ∃ v', e = .returned (.tuple #[v', .int .i64 (D.flushA x ep).2]) ∧ DkW w' w.heap.size v' (D.flushA x ep).1 ∧ Below w.heap.size w w' := by
  have HH := hid h
  have HD := hid hd
  have HS := hid hs
  obtain ⟨a1, c1, a2, c2, a3, c3, rfl, _, _, _⟩ := h
  clear hd hs
  obtain ⟨wb, hwb, ez, A0, R0, B0⟩ := two_new w [.slice a1 D.sec.length c1, .slice a2 D.ep.length c2, .slice a3 D.pe.length c3] [.slice none 0 0, .slice none 0 0, .slice none 0 0] 28 28
  have k0 := A0.c 0 rfl
  have k1 := A0.c 1 rfl
  have k2 := A0.c 2 rfl
  go_enter Try.func7, Try.ntmps7
  go_wp2_with fail
  refine (implDiskOk wb _ D (HH.out.below B0) HD.out).mono ?_
  rintro e w1 ⟨rfl, b1⟩
  have HA := hid (A0.below b1 A0.lt)
  have HR := hid (R0.below b1 R0.lt)
  have HB := hid (B0.trans (b1.mono B0.size))
  clear A0 R0 B0 b1 hwb ez k0 k1 k2
  have m0 := HR.out.c 0 rfl
  have m1 := HR.out.c 1 rfl
  have m2 := HR.out.c 2 rfl
  have f0 := HR.out.f 0
  have f1 := HR.out.f 1
  have f2 := HR.out.f 2
  by_cases hr : ¬ D.right = true
  · have HP : Hid (D.flushA x ep = (Dk.nil, 1)) := if_neg hr
    have hr' : D.right = false := by simpa using hr
    clear hr
    have E := hid (wrap_bad HB.out HR.out)
    go_wp2
    refine bodyPost_ret (results_row2 rfl _ _ (w.heap.size + 1) [.slice none 0 0, .slice none 0 0, .slice none 0 0] _ rfl E.out.2.2 Try.underlying28 rfl (by kernel_rfl)) rfl ?_
    rw [HP.out]
    exact ⟨_, rfl, E.out.1, E.out.2.1⟩
  replace hr := Classical.not_not.mp hr
  have HP : Hid (D.flushA x ep = D.flush x ep) := if_pos hr
  have HT := hid (Dk.of_right hr)
  have k0 := HA.out.c 0 rfl
  have k1 := HA.out.c 1 rfl
  have k2 := HA.out.c 2 rfl
  go_wp2_with fail
  refine (copyDisk w1 _ D (HH.out.below HB.out) HS.out.c1 HS.out.c2 HS.out.c3).mono ?_
  rintro e w2 ⟨v2, rfl, O2, b2⟩
  have HO2 := hid O2
  obtain ⟨u1, u2, u3, rfl, r1, r2, r3, _, _⟩ := O2
  obtain ⟨p1, q1, e1, _⟩ := r1.wr
  obtain ⟨p2, q2, e2, _⟩ := r2.wr
  obtain ⟨p3, q3, e3, _⟩ := r3.wr
  subst e1; subst e2; subst e3
  clear r1 r2 r3 m0 m1 m2 f0 f1 f2 k0 k1 k2
  obtain ⟨wn, hwn, en, N0, Bn⟩ := one_new w2 [.slice p1 D.sec.length q1, .slice p2 D.ep.length q2, .slice p3 D.pe.length q3] 28
  have I := hid (ISt.start HB.out HA.out HR.out HO2.out b2 N0 Bn)
  have HDn := hid (HH.out.below I.out.bel)
  clear HO2 b2 N0 Bn en HA HR HB
  obtain ⟨k0, k1, k2, m0, m1, m2, f0, f1, f2, n0, n1, n2, n3⟩ := I.out.cells
  have HFr := hid (flush_refuse D HT.out.n1 x ep)
  have HRT := hid (refuse_host (D := D) (x := x) (ep := ep) (s := 0) (ts := []))
  go_wp2_with fail
  refine (refusal wn _ D x ep 0 none 0 [] HDn.out HT.out.e3 (fun i hi => by simp at hi) (by simp)).mono ?_
  rintro e w3 ⟨rfl, b3⟩
  generalize D.refuse x ep 0 [] = c at *
  have I3 := hid (I.out.below b3)
  have HD3 := hid (HDn.out.below b3)
  clear hwn HDn I b3 k0 k1 k2 m0 m1 m2 f0 f1 f2 n0 n1 n2 n3
  obtain ⟨k0, k1, k2, m0, m1, m2, f0, f1, f2, n0, n1, n2, n3⟩ := I3.out.cells
  by_cases g1 : ¬ c = 0
  · have HP1 := hid (HP.out.trans (HFr.out.trans (if_neg g1)))
    have E := hid I3.out.done
    go_wp2
    refine bodyPost_ret (results_row2 rfl _ _ (w.heap.size + 1) [.slice p1 D.sec.length q1, .slice p2 D.ep.length q2, .slice p3 D.pe.length q3] _ rfl E.out.2.2 Try.underlying28 rfl (by kernel_rfl)) rfl ?_
    rw [HP1.out]
    exact ⟨_, rfl, E.out.1, E.out.2.1⟩
  replace g1 := Classical.not_not.mp g1
  have HP1 := hid (HP.out.trans (HFr.out.trans (if_pos g1)))
  have HG := hid (HRT.out g1)
  subst g1
  clear HRT HFr
  obtain ⟨gg, cc, ef⟩ : ∃ g c, Value.slice p1 D.sec.length q1 = .slice (some ⟨g, 0, none⟩) D.sec.length (c + 1) := by
    obtain ⟨_, _, _, ev, r1, _⟩ := I3.out.o
    cases ev
    exact r1.form (by have := HT.out.n1; omega)
  cases ef
  have HDB := hid (show ∀ g, DkB (.agg #[.slice (some ⟨gg, 0, none⟩) D.sec.length (cc + 1), .slice p2 D.ep.length q2, .slice p3 D.pe.length q3]) g → g < w3.heap.size from fun g hg => (I3.out.o.lt hg).2)
  have Hnn := hid I3.out.rn.lt
  have hgl : gg < w3.heap.size := HDB.out gg ⟨_, _, _, rfl, Or.inl rfl⟩
  have hsl : (D.sec.length : Int) ≤ 40 := by have := HT.out.n2; omega
  go_wp2_with fail
  refine (queuesOf w3 a3 c3 D.pe (wts_of HD3.out) HT.out.p40 HT.out.okK).mono ?_
  rintro e w4 ⟨rfl, ⟨nq, M, V, hnq, q⟩, b4⟩
  have HQ4 : Hid (∃ nq M V, nq ≤ 40 + 0 * 41 ∧ QM w4 (w3.heap.size + 1) w3.heap.size nq (qBut (qAt D.pe D.pe.length) x 0) M V) := ⟨nq, M, V, by omega, q.likeF (fun h s hk => (if_neg (fun z => by have := z.2; have := hk.2.1; omega)).symm)⟩
  have I4 := hid (I3.out.below b4)
  have hq4 := q.own.lt
  clear q b4 HD3 I3 k0 k1 k2 m0 m1 m2 f0 f1 f2 n0 n1 n2 n3
  have k0 := I4.out.ra.c 0 rfl
  go_wp2
  clear k0
  go_loopw [33] (fun i wr => ∃ (k : Nat) (l : List ByteArray), k ≤ D.sec.length ∧ i = .int .i64 (k : Int) ∧ Hid (SecK D x k l) ∧ Hid (ISt w (.slice a1 D.sec.length c1) (.slice a2 D.ep.length c2) (.slice a3 D.pe.length c3) w1.heap.size w2.heap.size (.slice (some ⟨gg, 0, none⟩) D.sec.length (cc + 1)) (.slice p2 D.ep.length q2) (.slice p3 D.pe.length q3) ⟨l, D.ep, D.pe⟩ wr) ∧ Hid (∃ nq M V, nq ≤ 40 + k * 41 ∧ QM wr (w3.heap.size + 1) w3.heap.size nq (qBut (qAt D.pe D.pe.length) x k) M V)) (fun i _ => D.sec.length - (intOf i).toNat)
  case atStart => exact ⟨0, D.sec, Nat.zero_le _, rfl, SecK.start D x, I4.out, HQ4.out⟩
  case round =>
    obtain ⟨k, l, hk, rfl, HSK, HI, HQ⟩ := hrel
    by_cases hlt : k < D.sec.length
    · have hok : OkK x (k : Int) := ⟨HG.out, Int.natCast_nonneg k, by omega⟩
      have HOK := hid hok
      obtain ⟨lk, hlkl⟩ := look_len w3.heap.size hok
      have HLK := hid hlkl
      clear hlkl
      obtain ⟨wo, hwo⟩ : ∃ wo, wo = wr := ⟨_, rfl⟩
      subst hwo
      obtain ⟨nr, Mr, Vr, hnr, qr⟩ := HQ.out
      obtain ⟨wk, hwk, ek, K0, Bk⟩ := one_new wo [.int .i64 x, .int .i64 (k : Int)] 53
      have IK := hid (HI.out.below Bk)
      have QK := qr.below Bk
      have hZl := qAt_len D.pe D.pe.length x (k : Int)
      have hp40 := HT.out.p40
      obtain ⟨Z, hZ⟩ : ∃ Z, qAt D.pe D.pe.length x (k : Int) = Z := ⟨_, rfl⟩
      rw [hZ] at hZl
      have HZ := hid hZ
      have hZmem := hid (show ∀ i, i ∈ Z → i < D.pe.length from fun i hi => by rw [← hZ] at hi; exact (qAt_mem hi).1)
      have HQK : Hid (∃ nq M V, nq ≤ 40 + k * 41 + 0 ∧ QM wk (w3.heap.size + 1) w3.heap.size nq (upd (qBut (qAt D.pe D.pe.length) x k) x (k : Int) (Z.drop 0)) M V ∧ ∀ h s y, OkK h s → rb (V h s) = some y → y < wo.heap.size) := ⟨nr, Mr, Vr, by omega, QK.likeF (fun h s hk' => by
        by_cases e : h = x ∧ s = (k : Int)
        · rw [e.1, e.2, upd_same, qBut_here, hZ]; rfl
        · rw [upd_other _ _ e]), fun h s y hk' hy => ((qr.row h s hk').lt hy).2⟩
      have HK0 := hid K0
      have hkr : w3.heap.size < wo.heap.size := qr.own.lt
      clear qr QK K0 Bk ek hZ hok HI HQ
      go_wp2
      clear hwk
      go_loopw [39] (fun _ wr => ∃ (j : Nat) (l : List ByteArray), j ≤ Z.length ∧ Hid (SecJ D x k (secAt D Z k j) l) ∧ Hid (ISt w (.slice a1 D.sec.length c1) (.slice a2 D.ep.length c2) (.slice a3 D.pe.length c3) w1.heap.size w2.heap.size (.slice (some ⟨gg, 0, none⟩) D.sec.length (cc + 1)) (.slice p2 D.ep.length q2) (.slice p3 D.pe.length q3) ⟨l, D.ep, D.pe⟩ wr) ∧ Hid (∃ nq M V, nq ≤ 40 + k * 41 + j ∧ QM wr (w3.heap.size + 1) w3.heap.size nq (upd (qBut (qAt D.pe D.pe.length) x k) x (k : Int) (Z.drop j)) M V ∧ ∀ h s y, OkK h s → rb (V h s) = some y → y < wo.heap.size) ∧ Hid (Row wr wo.heap.size [.int .i64 x, .int .i64 (k : Int)])) (fun _ wr => lk wr)
      case atStart => exact ⟨0, l, Nat.zero_le _, by rw [secAt_zero]; exact HSK.out.begin_, IK.out, HQK.out, HK0.out⟩
      case round =>
        obtain ⟨j, l', hj, HSJ, HIy, HQy, HKy⟩ := hrel
        obtain ⟨ny, My, Vy, hny, qy, hVy⟩ := HQy.out
        have z0 := HKy.out.c 0 rfl
        have z1 := HKy.out.c 1 rfl
        have hlk := qy.look HOK.out
        have hrow := qy.row x k HOK.out
        rw [upd_same] at hrow
        have hLL := hid (HLK.out _ _ _ _ _ _ qy)
        rw [upd_same] at hLL
        by_cases hjl : j < Z.length
        · have hdl : (Z.drop j).length = Z.length - j := List.length_drop
          obtain ⟨g, c, hv⟩ := hrow.form (by omega)
          have hc0 := q_cell hrow hv 0 (by omega)
          rw [show (Z.drop j).getD 0 0 = Z.getD j 0 from by simp [List.getD, List.getElem?_drop]] at hc0
          obtain ⟨mm, hmm⟩ : ∃ mm, (Z.drop j).length = mm + 1 := ⟨Z.length - j - 1, by omega⟩
          have hlkd : (Instr.lookup 50 (.map (some w3.heap.size)) (.agg #[.int .i64 x, .int .i64 (k : Int)]) false).run Try.prog wr = .ok (.slice (some ⟨g, 0, none⟩) (mm + 1) (c + 1)) wr := by rw [← hmm, ← hv]; exact hlk
          have hlke : (Instr.lookup 50 (.map (some w3.heap.size)) (.agg #[.int .i64 x, .int .i64 (k : Int)]) false).run Try.prog wr.drew = .ok (.slice (some ⟨g, 0, none⟩) (mm + 1) (c + 1)) wr.drew := by rw [← hmm, ← hv]; exact (qy.below ((Below.refl _ wr).drew)).look HOK.out
          have hzm := hZmem.out (Z.getD j 0) (by rw [List.getD_eq_getElem?_getD, List.getElem?_eq_getElem hjl]; exact List.getElem_mem hjl)
          have hse := hid (secAt_succ D Z k j)
          have hHH := HH.out.below HIy.out.bel
          generalize Z.getD j 0 = zz at *
          have hz1 : (zz : Int) < (D.pe.length : Int) := by omega
          have hz0 : (0 : Int) ≤ (zz : Int) := Int.natCast_nonneg zz
          obtain ⟨b3, o3, ea, _, _, _, x3⟩ := Wts.at_ (wts_of hHH) zz hzm
          subst ea
          generalize (D.pe.getD zz Wt.none).text = tt at *
          obtain ⟨⟨us, hcu⟩, hfu⟩ := HIy.out.secCell (i := k) (by rw [HSJ.out.len]; exact hlt)
          have n0 := HIy.out.rn.c 0 rfl
          have k2 := HIy.out.ra.c 2 rfl
          have hkI : (k : Int) < (D.sec.length : Int) := by omega
          have hk0 : (0 : Int) ≤ (k : Int) := Int.natCast_nonneg k
          have hmb : (mm : Int) ≤ 1000 := by omega
          have HQY := hid qy
          have HVY := hid hVy
          have HRW := hid hrow
          have HLN := hid hmm
          have HDL := hid hdl
          clear hlk hrow hv hHH qy hVy hdl hmm
          go_wp2
          go_region
          have D5 := (Below.refl (wr.setCell ⟨gg, k, none⟩ (.string tt)).heap.size (wr.setCell ⟨gg, k, none⟩ (.string tt))).drew
          have I5 := hid ((HIy.out.setSec (i := k) (by rw [HSJ.out.len]; exact hlt) tt).below D5)
          have Q5 := hid ((HQY.out.other gg k (.string tt) hgl).below D5)
          have KO := HKy.out.other (p := ⟨gg, k, none⟩) (by show wo.heap.size ≠ gg; omega) (.string tt)
          have K5 := hid (KO.below D5 KO.lt)
          clear D5 KO z0 z1 hc0 hlkd hlke x3 hcu hfu n0 k2 HIy HKy HQY
          generalize (wr.setCell ⟨gg, k, none⟩ (.string tt)).drew = w5 at *
          have z0 := K5.out.c 0 rfl
          have z1 := K5.out.c 1 rfl
          have hrw5 := hid (Q5.out.row x k HOK.out)
          go_wp2_with fail
          refine (takeS w5 (w3.heap.size + 1) w3.heap.size ny _ My Vy Q5.out x k HOK.out 0 (by rw [upd_same]; have := HLN.out; omega) (by omega) (by omega)).mono ?_
          rintro e w6 ⟨rfl, ⟨M6, V6, q6, hV6⟩, k6⟩
          have hS6 : ∀ y, (y = w3.heap.size ∨ rb (Vy x k) = some y) → w3.heap.size ≤ y := fun y hy => by
            rcases hy with e | e
            · omega
            · have := (hrw5.out.lt e).1
              omega
          have hS7 : ¬ (wo.heap.size = w3.heap.size ∨ rb (Vy x k) = some wo.heap.size) := fun hy => by
            rcases hy with e | e
            · omega
            · have := HVY.out x k _ HOK.out e
              omega
          have HI6 := hid (I5.out.kept k6 w3.heap.size Hnn.out HDB.out hS6)
          have HK6 := hid (K5.out.kept k6 hS7)
          have q7 : QM w6 (w3.heap.size + 1) w3.heap.size (ny + 1) (upd (qBut (qAt D.pe D.pe.length) x k) x (k : Int) (Z.drop (j + 1))) M6 V6 := q6.likeF (fun h s hk' => by
            by_cases e : h = x ∧ s = (k : Int)
            · rw [e.1, e.2, upd_same, upd_same, upd_same, List.eraseIdx_zero, List.tail_drop]
            · rw [upd_other _ _ e, upd_other _ _ e, upd_other _ _ e])
          have HQ7 := hid q7
          have HV7 := hid (fun h s y hk' hy => HVY.out h s y hk' (hV6 h s y hy))
          clear q6 q7 hV6 k6 z0 z1
          go_wp2
          have hm6 := HLK.out _ _ _ _ _ _ HQ7.out
          rw [upd_same] at hm6
          exact ⟨⟨j + 1, l'.set k tt, by omega, by rw [hse.out]; exact HSJ.out.set hlt, HI6.out, ⟨ny + 1, M6, V6, by omega, HQ7.out, HV7.out⟩, HK6.out⟩, by rw [hm6, hLL.out, List.length_drop, List.length_drop]; omega⟩
        · obtain rfl : j = Z.length := by omega
          have hdn : Z.drop Z.length = [] := List.drop_length
          rw [hdn] at hrow
          obtain ⟨va, vc, hv, _⟩ := hrow.wr
          have hlkd : (Instr.lookup 50 (.map (some w3.heap.size)) (.agg #[.int .i64 x, .int .i64 (k : Int)]) false).run Try.prog wr = .ok (.slice va 0 vc) wr := by rw [show (Value.slice va 0 vc) = Vy x k from hv.symm]; exact hlk
          have HSK2 : Hid (SecK D x (k + 1) l') := by
            have e := secAt_all D x k
            rw [HZ.out] at e
            have h := HSJ.out
            rw [e] at h
            exact h.end_
          have HQ8 : Hid (QM wr (w3.heap.size + 1) w3.heap.size ny (qBut (qAt D.pe D.pe.length) x (k + 1)) My Vy) := qy.likeF (fun h s hk' => by rw [hdn]; exact (qBut_succ (qAt D.pe D.pe.length) x k h s hk').symm)
          clear hlk hrow hv qy hVy
          go_wp2
          exact ⟨⟨k + 1, l', by omega, by go_num, HSK2.out, HIy.out, ⟨ny, My, Vy, by omega, HQ8.out⟩⟩, by simp [intOf]; omega⟩
    · obtain rfl : k = D.sec.length := by omega
      obtain ⟨nr, Mr, Vr, hnr, qr⟩ := HQ.out
      have HQR := hid qr
      have HDr := hid (HH.out.below HI.out.bel)
      have k2 := HI.out.ra.c 2 rfl
      have HLl := hid (HSK.out.all (fun y hy => (HT.out.pm y hy).2.2.1))
      clear qr
      go_wp2_with fail
      refine (left wr (w3.heap.size + 1) w3.heap.size nr _ Mr Vr HQR.out a3 c3 D.pe (wts_of HDr.out) HT.out.p40 HT.out.okK (qOk_but D.pe x D.sec.length)).mono ?_
      rintro e w8 ⟨v8, rfl, r8, b8⟩
      rw [left_but D.pe x D.sec.length (fun j hj => (HT.out.p j hj).2.2.2.1)] at r8
      obtain ⟨p8, c8, e8, _⟩ := r8.wr
      subst e8
      have I9 := hid (HI.out.setPend b8 r8)
      have I8 := hid (HI.out.below b8)
      obtain ⟨w9, hw9⟩ : ∃ w9, w8.setCell ⟨w2.heap.size, 2, none⟩ (.slice p8 (others D.pe x).length c8) = w9 := ⟨_, rfl⟩
      rw [hw9] at I9
      have E := hid I9.out.done
      clear r8 b8 k2
      have t2 := I8.out.rn.c 2 rfl
      have t3 := I8.out.rn.f 2
      obtain ⟨k0, k1, k2, m0, m1, m2, f0, f1, f2, j0, j1, j2, j3⟩ := I9.out.cells
      go_wp2
      refine bodyPost_ret (results_row2 rfl _ _ (w.heap.size + 1) [.slice (some ⟨gg, 0, none⟩) D.sec.length (cc + 1), .slice p2 D.ep.length q2, .slice p8 (others D.pe x).length c8] _ rfl E.out.2.2 Try.underlying28 rfl (by kernel_rfl)) rfl ?_
      rw [HP1.out, ← HLl.out]
      exact ⟨_, rfl, E.out.1, E.out.2.1⟩

end Go.Proofs.Ytbnmcbbpbiofgaa.Mem

namespace Go.Proofs.Ytbnmcbbpbiofgaa.Mem
open Go.RowKit
set_option linter.unusedVariables false

theorem wts_ofL {w : World} {a1 a2 a3 : Option Addr} {n1 n2 n3 c1 c2 c3 : Nat} {D : Dk} (h : DkR w (.agg #[.slice a1 n1 c1, .slice a2 n2 c2, .slice a3 n3 c3]) D) : Wts w a3 D.pe := by
  obtain ⟨_, _, _, _, _, _, e, _, _, s3⟩ := h
  cases e
  exact s3

theorem ISt.secCellL {w : World} {a0 a1 a2 : Value} {B nn : Nat} {p0 : Value} {p1 p2 : Value} {E : Dk} {wk : World} (h : ISt w a0 a1 a2 B nn p0 p1 p2 E wk) {i : Nat} (hi : i < E.sec.length) :
    ∃ g c, p0 = .slice (some ⟨g, 0, none⟩) E.sec.length (c + 1) ∧ (∃ u, wk.cell? ⟨g, i, none⟩ = some u) ∧ wk.frozen? ⟨g, i, none⟩ = false ∧ B ≤ g ∧ g ≠ nn ∧ g < wk.heap.size := by
  have ho := h.o
  obtain ⟨_, _, _, ev, r1, _⟩ := ho
  cases ev
  obtain ⟨g, c, e⟩ := r1.form (by omega)
  subst e
  obtain ⟨aa, cp, e1, hw⟩ := r1.wr
  cases e1
  obtain ⟨b, off, e2, _, hc2, hf2⟩ := hw i (by omega)
  cases e2
  rw [Nat.zero_add] at hc2 hf2
  have hl := h.o.lt (b := g) ⟨_, _, _, rfl, Or.inl rfl⟩
  exact ⟨g, c, rfl, ⟨_, hc2⟩, hf2, hl.1, h.far g ⟨_, _, _, rfl, Or.inl rfl⟩, hl.2⟩

/-- The queues stay while a sector is stored. -/
theorem QM.otherL {w : World} {B b n : Nat} {Q : Int → Int → List Nat} {D : DataW Value} {V : Int → Int → Value} (q : QM w B b n Q D V) (g i : Nat) (v : Value) (hg : g < b) : QM (w.setCell ⟨g, i, none⟩ v) B b n Q D V :=
  q.kept (kept_set w g i v) (by omega) (fun h s g' hk hg' e => by have := ((q.row h s hk).lt hg').1; have := q.lt; omega)

set_option maxRecDepth 100000 in
set_option maxHeartbeats 4000000 in
theorem implLand (w : World) (v : Value) (D : Dk) (i : Int) (h : DkR w v D) (hd : D.Held) (hs : D.Small 1048576) :
    Calls Try.prog 9 #[v, .int .i64 i] w fun e w' => ∃ v', e = .returned (.tuple #[v', .bool (D.landA i).2]) ∧ DkW w' w.heap.size v' (D.landA i).1 ∧ Below w.heap.size w w' := by
  have HH := hid h
  have HD := hid hd
  have HS := hid hs
  obtain ⟨a1, c1, a2, c2, a3, c3, rfl, _, _, _⟩ := h
  clear hd hs
  obtain ⟨wb, hwb, ez, A0, R0, B0⟩ := two_new w [.slice a1 D.sec.length c1, .slice a2 D.ep.length c2, .slice a3 D.pe.length c3] [.slice none 0 0, .slice none 0 0, .slice none 0 0] 28 28
  have k0 := A0.c 0 rfl
  have k1 := A0.c 1 rfl
  have k2 := A0.c 2 rfl
  go_enter Try.func9, Try.ntmps9
  go_wp2_with fail
  refine (implDiskOk wb _ D (HH.out.below B0) HD.out).mono ?_
  rintro e w1 ⟨rfl, b1⟩
  have HA := hid (A0.below b1 A0.lt)
  have HR := hid (R0.below b1 R0.lt)
  have HB := hid (B0.trans (b1.mono B0.size))
  clear A0 R0 B0 b1 hwb ez k0 k1 k2
  have m0 := HR.out.c 0 rfl
  have m1 := HR.out.c 1 rfl
  have m2 := HR.out.c 2 rfl
  have f0 := HR.out.f 0
  have f1 := HR.out.f 1
  have f2 := HR.out.f 2
  by_cases hr : ¬ D.right = true
  · have HP : Hid (D.landA i = (Dk.nil, false)) := if_neg hr
    have hr' : D.right = false := by simpa using hr
    clear hr
    have E := hid (wrap_bad HB.out HR.out)
    go_wp2
    refine bodyPost_ret (results_row2 rfl _ _ (w.heap.size + 1) [.slice none 0 0, .slice none 0 0, .slice none 0 0] _ rfl E.out.2.2 Try.underlying28 rfl (by kernel_rfl)) rfl ?_
    rw [HP.out]
    exact ⟨_, rfl, E.out.1, E.out.2.1⟩
  replace hr := Classical.not_not.mp hr
  have HP : Hid (D.landA i = D.land i) := if_pos hr
  have HT := hid (Dk.of_right hr)
  have k0 := HA.out.c 0 rfl
  have k1 := HA.out.c 1 rfl
  have k2 := HA.out.c 2 rfl
  go_wp2_with fail
  refine (copyDisk w1 _ D (HH.out.below HB.out) HS.out.c1 HS.out.c2 HS.out.c3).mono ?_
  rintro e w2 ⟨v2, rfl, O2, b2⟩
  have HO2 := hid O2
  obtain ⟨u1, u2, u3, rfl, r1, r2, r3, _, _⟩ := O2
  obtain ⟨p1, q1, e1, _⟩ := r1.wr
  obtain ⟨p2, q2, e2, _⟩ := r2.wr
  obtain ⟨p3, q3, e3, _⟩ := r3.wr
  subst e1; subst e2; subst e3
  clear r1 r2 r3 m0 m1 m2 f0 f1 f2 k0 k1 k2
  obtain ⟨wn, hwn, en, N0, Bn⟩ := one_new w2 [.slice p1 D.sec.length q1, .slice p2 D.ep.length q2, .slice p3 D.pe.length q3] 28
  have I := hid (ISt.start HB.out HA.out HR.out HO2.out b2 N0 Bn)
  have HDn := hid (HH.out.below I.out.bel)
  clear HO2 b2 N0 Bn en HA HR HB
  obtain ⟨k0, k1, k2, m0, m1, m2, f0, f1, f2, n0, n1, n2, n3⟩ := I.out.cells
  have hd3 : (D.pe.length : Int) ≤ 40 := by have := HT.out.p40; omega
  by_cases g1 : i < 0
  · have HP1 := hid (HP.out.trans (if_neg (fun q => by have := q.1; omega)))
    have E := hid I.out.done
    go_wp2
    refine bodyPost_ret (results_row2 rfl _ _ (w.heap.size + 1) [.slice p1 D.sec.length q1, .slice p2 D.ep.length q2, .slice p3 D.pe.length q3] _ rfl E.out.2.2 Try.underlying28 rfl (by kernel_rfl)) rfl ?_
    rw [HP1.out]
    exact ⟨_, rfl, E.out.1, E.out.2.1⟩
  by_cases g2 : (D.pe.length : Int) ≤ i
  · have HP1 := hid (HP.out.trans (if_neg (fun q => by have := q.2.1; omega)))
    have E := hid I.out.done
    go_wp2
    refine bodyPost_ret (results_row2 rfl _ _ (w.heap.size + 1) [.slice p1 D.sec.length q1, .slice p2 D.ep.length q2, .slice p3 D.pe.length q3] _ rfl E.out.2.2 Try.underlying28 rfl (by kernel_rfl)) rfl ?_
    rw [HP1.out]
    exact ⟨_, rfl, E.out.1, E.out.2.1⟩
  obtain ⟨m, rfl⟩ : ∃ m : Nat, i = (m : Int) := Int.eq_ofNat_of_zero_le (by omega)
  have hml : m < D.pe.length := by omega
  have hm0 : (0 : Int) ≤ (m : Int) := Int.natCast_nonneg m
  obtain ⟨b3, o3, rfl, x0, x1, x2, x3⟩ := Wts.at_ (wts_ofL HDn.out) m hml
  have hok := HT.out.okK m hml
  have hpm := HT.out.p m hml
  have hfirst := hid (first_q D.pe m hml)
  have hleft := hid (left_erase D.pe m 0 hml)
  have hmem := hid (mem_qAt hml)
  have HLd := hid (show D.land (m : Int) = if 0 ≤ (m : Int) ∧ (m : Int) < (D.pe.length : Int) ∧ ∀ j, j < (m : Int).toNat → ¬ ((D.pe.getD j Wt.none).host = (D.pe.getD (m : Int).toNat Wt.none).host ∧ (D.pe.getD j Wt.none).sector = (D.pe.getD (m : Int).toNat Wt.none).sector) then (⟨D.sec.set (D.pe.getD (m : Int).toNat Wt.none).sector.toNat (D.pe.getD (m : Int).toNat Wt.none).text, D.ep, D.pe.eraseIdx (m : Int).toNat⟩, true) else (D, false) from rfl)
  simp only [Int.toNat_natCast] at HLd
  generalize D.pe.getD m Wt.none = u at *
  obtain ⟨xh, xe, xs, xt⟩ := u
  simp only [] at x0 x1 x2 x3 hok hpm hfirst hleft hmem HLd
  obtain ⟨sn, rfl⟩ : ∃ n : Nat, xs = (n : Int) := Int.eq_ofNat_of_zero_le hpm.2.2.1
  have hsl : (sn : Int) < (D.sec.length : Int) := hpm.2.2.2.1
  have hs0 : (0 : Int) ≤ (sn : Int) := Int.natCast_nonneg sn
  have HK := hid hok
  clear hok hpm
  obtain ⟨wk, hwk, ek, K0, K1, Bk⟩ := two_new wn [.int .i64 xh, .int .i64 xe, .int .i64 (sn : Int), .string xt] [.int .i64 xh, .int .i64 (sn : Int)] 36 53
  have IK := hid (I.out.below Bk)
  have HDk := hid (HDn.out.below Bk)
  have HK0 := hid K0
  have HK1 := hid K1
  have kk2 := IK.out.ra.c 2 rfl
  clear K0 K1 Bk ek
  go_wp2_with fail
  refine (queuesOf wk (some ⟨b3, o3, none⟩) c3 D.pe (wts_ofL HDk.out) HT.out.p40 HT.out.okK).mono ?_
  rintro e w4 ⟨rfl, ⟨nq, M, V, hnq, q⟩, b4⟩
  have I4 := hid (IK.out.below b4)
  have HB4 := hid b4
  have hlk : (Instr.lookup 50 (.map (some wk.heap.size)) (.agg #[.int .i64 xh, .int .i64 (sn : Int)]) false).run Try.prog w4 = .ok (V xh sn) w4 := q.look HK.out
  have hrow := q.row xh sn HK.out
  obtain ⟨Z, hZ⟩ : ∃ Z, qAt D.pe D.pe.length xh (sn : Int) = Z := ⟨_, rfl⟩
  rw [hZ] at hrow hfirst hleft hmem
  have hZp : 0 < Z.length := List.length_pos_iff.2 (fun e => by have := hmem.out; rw [e] at this; simp at this)
  obtain ⟨g, c, hv⟩ := hrow.form hZp
  have hc0 := q_cell hrow hv 0 hZp
  rw [hv] at hlk
  have HQ := hid q
  have HZ := hid hZ
  have HK0' := hid (HK0.out.below b4 HK0.out.lt)
  have HK1' := hid (HK1.out.below b4 HK1.out.lt)
  have y2 := HK0'.out.c 2 rfl
  have y3 := HK0'.out.c 3 rfl
  have z0 := HK1'.out.c 0 rfl
  have z1 := HK1'.out.c 1 rfl
  clear q hrow hv hZ b4 hwk hwn kk2 x0 x1 x2 x3 k0 k1 k2 m0 m1 m2 f0 f1 f2 n0 n1 n2 n3
  obtain ⟨k0, k1, k2, m0, m1, m2, f0, f1, f2, n0, n1, n2, n3⟩ := I4.out.cells
  generalize hz0 : Z.getD 0 0 = zz at hc0 hfirst hleft
  by_cases g3 : ¬ zz = m
  · have HP1 := hid (HP.out.trans (HLd.out.trans (if_neg (fun q => g3 (hfirst.out.2 q.2.2)))))
    have E := hid I4.out.done
    have g3' : ¬ (zz : Int) = (m : Int) := fun e => g3 (by omega)
    clear g3
    go_wp2
    refine bodyPost_ret (results_row2 rfl _ _ (w.heap.size + 1) [.slice p1 D.sec.length q1, .slice p2 D.ep.length q2, .slice p3 D.pe.length q3] _ rfl E.out.2.2 Try.underlying28 rfl (by kernel_rfl)) rfl ?_
    rw [HP1.out]
    exact ⟨_, rfl, E.out.1, E.out.2.1⟩
  replace g3 := Classical.not_not.mp g3
  have HP1 := hid (HP.out.trans (HLd.out.trans (if_pos ⟨hm0, by omega, hfirst.out.1 g3⟩)))
  have HLW := hid (hleft.out hZp g3)
  clear hleft hfirst hmem
  rw [g3] at hc0
  clear g3
  go_wp2_with fail
  refine (take w4 (wk.heap.size + 1) wk.heap.size nq _ M V HQ.out xh sn HK.out 0 (by rw [HZ.out]; exact hZp) (by omega) (by omega)).mono ?_
  rintro e w5 ⟨rfl, ⟨M5, V5, q5⟩, k5⟩
  rw [HZ.out] at q5
  have hkw : wk.heap.size < w4.heap.size := HQ.out.own.lt
  have HB5 := hid (HB4.out.trans (k5.below (by omega) (fun gg hg e => by rcases e with e | e <;> omega)))
  have I5 := hid (IK.out.below HB5.out)
  have HK0'' := hid (HK0.out.below HB5.out HK0.out.lt)
  have HQ5 := hid q5
  clear q5 k5 hc0 hlk z0 z1 y2 y3 k0 k1 k2 m0 m1 m2 f0 f1 f2 n0 n1 n2 n3 hz0
  obtain ⟨gg, cc, ef, ⟨us, hcu⟩, hfu, hgB, hgn, hgl⟩ := IK.out.secCellL (i := sn) (by omega)
  cases ef
  have hcu5 := (HB5.out.cell (p := ⟨gg, sn, none⟩) hgl).trans hcu
  have hfu5 := (HB5.out.frozen (p := ⟨gg, sn, none⟩) hgl).trans hfu
  have I6 := hid (I5.out.setSec (i := sn) (by omega) xt)
  have HQ6 := hid (HQ5.out.otherL gg sn (.string xt) hgl)
  obtain ⟨w6, hw6⟩ : ∃ w6, w5.setCell ⟨gg, sn, none⟩ (.string xt) = w6 := ⟨_, rfl⟩
  rw [hw6] at I6 HQ6
  have y2 := HK0''.out.c 2 rfl
  have y3 := HK0''.out.c 3 rfl
  have n0 := I5.out.rn.c 0 rfl
  have k2 := I6.out.ra.c 2 rfl
  have HD6 := hid (HH.out.below I6.out.bel)
  clear hcu hfu
  go_wp2_with fail
  refine (left w6 (wk.heap.size + 1) wk.heap.size _ _ M5 V5 HQ6.out (some ⟨b3, o3, none⟩) c3 D.pe (wts_ofL HD6.out) HT.out.p40 HT.out.okK (by rw [← HZ.out]; exact qOk_erase D.pe xh sn 0)).mono ?_
  rintro e w7 ⟨v7, rfl, r7, b7⟩
  rw [HLW.out] at r7
  obtain ⟨p7, c7, e7, _⟩ := r7.wr
  subst e7
  have I8 := hid (I6.out.setPend b7 r7)
  have I7 := hid (I6.out.below b7)
  obtain ⟨w8, hw8⟩ : ∃ w8, w7.setCell ⟨w2.heap.size, 2, none⟩ (.slice p7 (D.pe.eraseIdx m).length c7) = w8 := ⟨_, rfl⟩
  rw [hw8] at I8
  have E := hid I8.out.done
  clear r7 b7 hw6 hcu5 hfu5 y2 y3 n0 k2
  have n2 := I7.out.rn.c 2 rfl
  have n3 := I7.out.rn.f 2
  obtain ⟨k0, k1, k2, m0, m1, m2, f0, f1, f2, j0, j1, j2, j3⟩ := I8.out.cells
  go_wp2
  refine bodyPost_ret (results_row2 rfl _ _ (w.heap.size + 1) [.slice (some ⟨gg, 0, none⟩) D.sec.length (cc + 1), .slice p2 D.ep.length q2, .slice p7 (D.pe.eraseIdx m).length c7] _ rfl E.out.2.2 Try.underlying28 rfl (by kernel_rfl)) rfl ?_
  rw [HP1.out]
  exact ⟨_, rfl, E.out.1, E.out.2.1⟩

end Go.Proofs.Ytbnmcbbpbiofgaa.Mem

namespace Go.Proofs.Ytbnmcbbpbiofgaa.Rg
open Go.RowKit
set_option linter.unusedVariables false

def dstOf (ops : Array Oper) (i : Nat) : Option Tmp := (ops[i]?).bind (·.dst)

/-- The region's form: its results lie apart within n slots, and each operation waits for elder ones alone. -/
def fits (ops : Array Oper) (n : Nat) : Bool :=
  (List.range ops.size).all fun i =>
    (match dstOf ops i with
      | some d => decide (d < n) && (List.range ops.size).all fun j => j == i || dstOf ops j != some d
      | none => true) &&
    (match ops[i]? with
      | some o => o.after.all fun e => !Region.binds .any e || decide (e.on < i)
      | none => true)

/-- The slots behind the operations that have come up. -/
structure At (ops : Array Oper) (a0 : Act) (L : Nat → Bool) (v : Nat → Value) (a : Act) : Prop where
  size : a.tmps.size = a0.tmps.size
  defers : a.defers = a0.defers
  got : ∀ i d, L i = true → dstOf ops i = some d → a.tmps[d]? = some (v i)
  off : ∀ t, (∀ i, L i = true → dstOf ops i ≠ some t) → a.tmps[t]? = a0.tmps[t]?

def upd (L : Nat → Bool) (i : Nat) : Nat → Bool := fun j => if j = i then true else L j
def updv (v : Nat → Value) (i : Nat) (u : Value) : Nat → Value := fun j => if j = i then u else v j

theorem fits_lt {ops : Array Oper} {n i : Nat} {d : Tmp} (h : fits ops n = true) (hi : dstOf ops i = some d) : d < n := by
  have hlt : i < ops.size := by
    rcases Nat.lt_or_ge i ops.size with h1 | h1
    · exact h1
    · simp [dstOf, Array.getElem?_eq_none h1] at hi
  unfold fits at h
  rw [List.all_eq_true] at h
  have h1 := h i (List.mem_range.2 hlt)
  rw [hi] at h1
  simp only [Bool.and_eq_true, decide_eq_true_eq] at h1
  exact h1.1.1

theorem dstOf_lt {ops : Array Oper} {i : Nat} {d : Tmp} (hi : dstOf ops i = some d) : i < ops.size := by
  rcases Nat.lt_or_ge i ops.size with h1 | h1
  · exact h1
  · simp [dstOf, Array.getElem?_eq_none h1] at hi

theorem fits_inj {ops : Array Oper} {n i j : Nat} {d : Tmp} (h : fits ops n = true) (hi : dstOf ops i = some d) (hj : dstOf ops j = some d) : j = i := by
  unfold fits at h
  rw [List.all_eq_true] at h
  have h1 := h i (List.mem_range.2 (dstOf_lt hi))
  rw [hi] at h1
  simp only [Bool.and_eq_true, decide_eq_true_eq, List.all_eq_true] at h1
  have h2 := h1.1.2 j (List.mem_range.2 (dstOf_lt hj))
  rw [hj] at h2
  simpa using h2

theorem fits_after {ops : Array Oper} {n i : Nat} {o : Oper} (h : fits ops n = true) (hi : ops[i]? = some o) {e : Edge} (he : e ∈ o.after) (hb : Region.binds .any e = true) : e.on < i := by
  have hlt : i < ops.size := by
    rcases Nat.lt_or_ge i ops.size with h1 | h1
    · exact h1
    · simp [Array.getElem?_eq_none h1] at hi
  unfold fits at h
  rw [List.all_eq_true] at h
  have h1 := h i (List.mem_range.2 hlt)
  rw [hi] at h1
  simp only [Bool.and_eq_true] at h1
  have h2 := Array.all_eq_true_iff_forall_mem.1 h1.2 e he
  rw [hb] at h2
  simpa using h2

theorem At.step {ops : Array Oper} {n : Nat} {a0 a : Act} {L : Nat → Bool} {v : Nat → Value} (h : At ops a0 L v a) (hf : fits ops a0.tmps.size = true) {i : Nat} {o : Oper} (hi : ops[i]? = some o) (hL : L i = false) (u : Value) :
    At ops a0 (upd L i) (updv v i u) (a.put o.dst u) := by
  have hd : dstOf ops i = o.dst := by simp [dstOf, hi]
  cases hdd : o.dst with
  | none =>
    rw [hdd] at hd
    refine ⟨h.size, h.defers, fun j d hj e => ?_, fun t ht => ?_⟩
    · by_cases hji : j = i
      · rw [hji, hd] at e; cases e
      · simp only [upd, updv, if_neg hji] at hj ⊢
        exact h.got j d hj e
    · exact h.off t (fun j hj => ht j (by simp only [upd]; split <;> simp_all))
  | some s =>
    rw [hdd] at hd
    have hs : s < a.tmps.size := by rw [h.size]; exact fits_lt hf hd
    refine ⟨by simpa [Act.put] using h.size, h.defers, fun j d hj e => ?_, fun t ht => ?_⟩
    · by_cases hji : j = i
      · subst hji
        rw [hd] at e
        cases e
        show (a.tmps.setIfInBounds s u)[s]? = some (if j = j then u else v j)
        rw [Array.getElem?_setIfInBounds_self_of_lt hs, if_pos rfl]
      · simp only [upd, if_neg hji] at hj
        have hds : s ≠ d := fun e2 => hji (fits_inj hf hd (e2 ▸ e))
        simp only [Act.put, updv, if_neg hji]
        rw [Array.getElem?_setIfInBounds_ne hds]
        exact h.got j d hj e
    · have hts : s ≠ t := fun e => ht i (by simp [upd]) (e ▸ hd)
      simp only [Act.put]
      rw [Array.getElem?_setIfInBounds_ne hts]
      exact h.off t (fun j hj => ht j (by simp only [upd]; split <;> simp_all))

/-- The slots where all have come up. -/
def putsAll (a0 : Act) : List (Option Tmp) → (Nat → Value) → Nat → Act
  | [], _, _ => a0
  | d :: ds, v, k => putsAll (a0.put d (v k)) ds v (k + 1)

theorem At.eval_got {ops : Array Oper} {a0 a : Act} {L : Nat → Bool} {v : Nat → Value} (h : At ops a0 L v a) (j : Nat) {t : Tmp} (hj : L j = true) (hd : dstOf ops j = some t) : a.eval (.tmp t) = v j := by
  show a.tmps.getD t undef = v j
  rw [Array.getD_eq_getD_getElem?, h.got j t hj hd]
  rfl

def offAll (ops : Array Oper) (x : Operand) : Bool := match x with
  | .tmp t => (List.range ops.size).all fun j => dstOf ops j != some t
  | _ => true

theorem At.eval_off {ops : Array Oper} {a0 a : Act} {L : Nat → Bool} {v : Nat → Value} (h : At ops a0 L v a) {x : Operand} (hx : offAll ops x = true) : a.eval x = a0.eval x := by
  cases x with
  | tmp t =>
    show a.tmps.getD t undef = a0.tmps.getD t undef
    rw [Array.getD_eq_getD_getElem?, Array.getD_eq_getD_getElem?, h.off t (fun j _ e => ?_)]
    unfold offAll at hx
    simp only [List.all_eq_true] at hx
    have := hx j (List.mem_range.2 (dstOf_lt e))
    rw [e] at this
    simp at this
  | _ => rfl

theorem At.yielded {ops : Array Oper} {a0 a : Act} {L : Nat → Bool} {v : Nat → Value} (h : At ops a0 L v a) (j : Nat) {t : Tmp} (hj : L j = true) (hd : dstOf ops j = some t) {b : Bool} (hv : v j = .bool b) : yielded ops a.tmps j = some b := by
  have e : ((ops[j]?).bind (·.dst)) = some t := hd
  unfold Go.yielded
  rw [e]
  simp only [Option.bind_some]
  rw [h.got j t hj hd, hv]

theorem putsAll_size : ∀ (ds : List (Option Tmp)) (a0 : Act) (v : Nat → Value) (k : Nat), (putsAll a0 ds v k).tmps.size = a0.tmps.size ∧ (putsAll a0 ds v k).defers = a0.defers
  | [], a0, v, k => ⟨rfl, rfl⟩
  | d :: ds, a0, v, k => by
    have h := putsAll_size ds (a0.put d (v k)) v (k + 1)
    unfold putsAll
    rw [h.1, h.2]
    cases d <;> simp [Act.put]

theorem putsAll_off : ∀ (ds : List (Option Tmp)) (a0 : Act) (v : Nat → Value) (k t : Nat), some t ∉ ds → (putsAll a0 ds v k).tmps[t]? = a0.tmps[t]?
  | [], a0, v, k, t, _ => rfl
  | d :: ds, a0, v, k, t, h => by
    unfold putsAll
    rw [putsAll_off ds _ v (k + 1) t (fun e => h (List.mem_cons_of_mem _ e))]
    cases d with
    | none => rfl
    | some s =>
      have : s ≠ t := fun e => h (e ▸ List.mem_cons_self)
      simp only [Act.put]
      rw [Array.getElem?_setIfInBounds_ne this]

theorem putsAll_got : ∀ (ds : List (Option Tmp)) (a0 : Act) (v : Nat → Value) (k t j : Nat), ds[j]? = some (some t) → (∀ i, ds[i]? = some (some t) → i = j) → t < a0.tmps.size → (putsAll a0 ds v k).tmps[t]? = some (v (k + j))
  | [], a0, v, k, t, j, h, _, _ => by simp at h
  | d :: ds, a0, v, k, t, 0, h, hu, ht => by
    simp only [List.getElem?_cons_zero, Option.some.injEq] at h
    subst h
    unfold putsAll
    rw [putsAll_off ds _ v (k + 1) t (fun e => by
      obtain ⟨i, hi⟩ := List.mem_iff_getElem?.1 e
      have := hu (i + 1) (by simpa using hi)
      omega)]
    simp only [Act.put, Nat.add_zero]
    rw [Array.getElem?_setIfInBounds_self_of_lt ht]
  | d :: ds, a0, v, k, t, j + 1, h, hu, ht => by
    unfold putsAll
    have := putsAll_got ds (a0.put d (v k)) v (k + 1) t j (by simpa using h) (fun i hi => by have := hu (i + 1) (by simpa using hi); omega) (by cases d <;> simpa [Act.put] using ht)
    rw [this, show k + 1 + j = k + (j + 1) by omega]

theorem At.all {ops : Array Oper} {a0 a : Act} {L : Nat → Bool} {v : Nat → Value} (h : At ops a0 L v a) (hf : fits ops a0.tmps.size = true) (hL : ∀ i, i < ops.size → L i = true) (ds : List (Option Tmp)) (hds : (List.range ops.size).map (dstOf ops) = ds) :
    a = putsAll a0 ds v 0 := by
  have hds' : ∀ i, ds[i]? = some (dstOf ops i) ∨ (ds[i]? = none ∧ dstOf ops i = none) := fun i => by
    rw [← hds]
    rcases Nat.lt_or_ge i ops.size with h1 | h1
    · left; simp [h1]
    · right; exact ⟨by simp [h1], by simp [dstOf, Array.getElem?_eq_none h1]⟩
  obtain ⟨s1, s2⟩ := putsAll_size ds a0 v 0
  have ht : a.tmps = (putsAll a0 ds v 0).tmps := by
    refine Array.ext_getElem? (fun t => ?_)
    rcases Nat.lt_or_ge t a0.tmps.size with htl | htl
    · by_cases hx : ∃ j, dstOf ops j = some t
      · obtain ⟨j, hj⟩ := hx
        have e1 : ds[j]? = some (some t) := by
          rcases hds' j with h1 | ⟨_, h1⟩
          · rw [h1, hj]
          · rw [hj] at h1; cases h1
        rw [putsAll_got ds a0 v 0 t j e1 (fun i hi => by
          rcases hds' i with h1 | ⟨h1, _⟩
          · rw [h1] at hi
            exact fits_inj hf hj (Option.some.inj hi)
          · rw [h1] at hi; cases hi) htl, Nat.zero_add]
        exact h.got j t (hL j (dstOf_lt hj)) hj
      · rw [putsAll_off ds a0 v 0 t (fun e => by
          obtain ⟨i, hi⟩ := List.mem_iff_getElem?.1 e
          rcases hds' i with h1 | ⟨h1, _⟩
          · rw [h1] at hi; exact hx ⟨i, Option.some.inj hi⟩
          · rw [h1] at hi; cases hi)]
        exact h.off t (fun i _ e => hx ⟨i, e⟩)
    · rw [Array.getElem?_eq_none (by rw [h.size]; exact htl), Array.getElem?_eq_none (by rw [s1]; exact htl)]
  have : a.defers = (putsAll a0 ds v 0).defers := by rw [s2]; exact h.defers
  cases a
  cases hp : putsAll a0 ds v 0
  rw [hp] at ht this
  simp only at ht this
  rw [ht, this]

/-- What an operation waits for has come up. -/
def waits (o : Oper) (L : Nat → Bool) : Bool := o.after.all fun e => !Region.binds .any e || L e.on

section
variable {P : Program} {ops : Array Oper} {Q : Exit → Act → World → Prop}

theorem rg_any (a0 : Act) (hf : fits ops a0.tmps.size = true) (I : (Nat → Bool) → (Nat → Value) → World → Prop)
    (hstep : ∀ i o, ops[i]? = some o → ∀ L v a w, At ops a0 L v a → I L v w → (∀ j oj, ops[j]? = some oj → L j = true → waits oj L = true) → L i = false → waits o L = true → wpOp P ops Q i (fun a' w' => ∃ u, a' = a.put o.dst u ∧ I (upd L i) (updv v i u) w') a w)
    (hend : ∀ L v a w, (∀ i, i < ops.size → L i = true) → At ops a0 L v a → I L v w → Q .normal a w) :
    ∀ (fuel : Nat) (listed : Array Bool) (v : Nat → Value) (a : Act) (w : World) (l : List Nat), listed.size = ops.size → l.length = fuel → l.Nodup → (∀ i, i ∈ l ↔ i < ops.size ∧ listed.getD i false = false) →
      At ops a0 (fun i => listed.getD i false) v a → I (fun i => listed.getD i false) v w → (∀ j oj, ops[j]? = some oj → listed.getD j false = true → waits oj (fun i => listed.getD i false) = true) → wpAny P .any ops Q fuel listed a w := by
  have hdone : ∀ (listed : Array Bool) (v : Nat → Value) (a : Act) (w : World), listed.size = ops.size → (∀ i, i < ops.size → listed.getD i false = true) → At ops a0 (fun i => listed.getD i false) v a → I (fun i => listed.getD i false) v w → Q .normal a w :=
    fun listed v a w hsz hall hA hJ => hend _ v a w hall hA hJ
  intro fuel
  induction fuel with
  | zero =>
    intro listed v a w l hsz hl hnd hm hA hJ hC
    have hl0 : l = [] := List.length_eq_zero_iff.1 hl
    subst hl0
    have hall : ∀ i, i < ops.size → listed.getD i false = true := fun i hi => by
      cases hb : listed.getD i false with
      | true => rfl
      | false => exact absurd ((hm i).2 ⟨hi, hb⟩) (by simp)
    refine ⟨?_, hdone listed v a w hsz hall hA hJ⟩
    refine List.eq_nil_iff_forall_not_mem.2 (fun i hi => ?_)
    obtain ⟨h1, o, ho, _⟩ := mem_ready.1 hi
    have hlt : i < ops.size := (Array.getElem?_eq_some_iff.1 ho).1
    have h2 := hall i hlt
    rw [Array.getD_eq_getD_getElem?, Array.getElem?_eq_getElem (by omega)] at h1 h2
    simp at h1 h2
    rw [h1] at h2
    cases h2
  | succ fuel ih =>
    intro listed v a w l hsz hl hnd hm hA hJ hC
    refine ⟨fun hr => ?_, fun i hi => ?_⟩
    · -- none may come up: all have
      have hall : ∀ n i, i < n → i < ops.size → listed.getD i false = true := by
        intro n
        induction n with
        | zero => intro i h; omega
        | succ n ihn =>
          intro i hin hi
          by_cases hlt : i < n
          · exact ihn i hlt hi
          · obtain rfl : i = n := by omega
            cases hb : listed.getD i false with
            | true => rfl
            | false =>
              have : i ∈ Region.ready .any ops listed := by
                refine mem_ready.2 ⟨?_, ops[i], Array.getElem?_eq_getElem hi, fun e he hb2 => ?_⟩
                · rw [Array.getD_eq_getD_getElem?, Array.getElem?_eq_getElem (by omega)] at hb ⊢
                  simpa using hb
                · have hlt2 := fits_after hf (Array.getElem?_eq_getElem hi) he hb2
                  exact ihn e.on hlt2 (by omega)
              rw [hr] at this
              cases this
      exact hdone listed v a w hsz (fun i hi => hall (i + 1) i (by omega) hi) hA hJ
    · obtain ⟨h1, o, ho, hwt⟩ := mem_ready.1 hi
      have hlt : i < ops.size := (Array.getElem?_eq_some_iff.1 ho).1
      have hb : listed.getD i false = false := by
        rw [Array.getD_eq_getD_getElem?, Array.getElem?_eq_getElem (by omega)] at h1 ⊢
        simpa using h1
      have hw : waits o (fun j => listed.getD j false) = true := by
        unfold waits
        refine Array.all_eq_true_iff_forall_mem.2 (fun e he => ?_)
        cases hbb : Region.binds .any e with
        | false => rfl
        | true => simpa using hwt e he hbb
      refine wpOp_mono ?_ (hstep i o ho _ v a w hA hJ hC hb hw)
      rintro a' w' ⟨u, rfl, hJ'⟩
      have hset : ∀ j, (listed.setIfInBounds i true).getD j false = upd (fun j => listed.getD j false) i j := fun j => by
        unfold upd
        by_cases hji : j = i
        · subst hji
          rw [if_pos rfl, Array.getD_eq_getD_getElem?, Array.getElem?_setIfInBounds_self_of_lt (by omega)]
          rfl
        · rw [if_neg hji]
          show (listed.setIfInBounds i true).getD j false = listed.getD j false
          rw [Array.getD_eq_getD_getElem?, Array.getD_eq_getD_getElem?, Array.getElem?_setIfInBounds_ne (Ne.symm hji)]
      have hA' := At.step (n := 0) hA hf ho hb u
      refine ih (listed.setIfInBounds i true) (updv v i u) _ w' (l.erase i) (by simpa using hsz) ?_ (hnd.erase i) ?_ ?_ ?_ ?_
      · rw [List.length_erase_of_mem ((hm i).2 ⟨hlt, hb⟩), hl]; rfl
      · intro j
        rw [hnd.mem_erase_iff, hm j]
        constructor
        · rintro ⟨hne, hj, hjb⟩
          exact ⟨hj, by rw [hset j]; unfold upd; rw [if_neg hne]; exact hjb⟩
        · rintro ⟨hj, hjb⟩
          rw [hset j] at hjb
          unfold upd at hjb
          by_cases hji : j = i
          · rw [if_pos hji] at hjb; cases hjb
          · rw [if_neg hji] at hjb
            exact ⟨hji, hj, hjb⟩
      · rw [show (fun j => (listed.setIfInBounds i true).getD j false) = upd (fun j => listed.getD j false) i from funext hset]
        exact hA'
      · rw [show (fun j => (listed.setIfInBounds i true).getD j false) = upd (fun j => listed.getD j false) i from funext hset]
        exact hJ'
      · intro j oj hoj hj
        rw [hset j] at hj
        have hup : ∀ e, listed.getD e false = true → (listed.setIfInBounds i true).getD e false = true := fun e he => by
          rw [hset e]
          unfold upd
          split
          · rfl
          · exact he
        have hwj : waits oj (fun i => listed.getD i false) = true := by
          unfold upd at hj
          by_cases hji : j = i
          · subst hji
            rw [ho] at hoj
            cases hoj
            exact hw
          · rw [if_neg hji] at hj
            exact hC j oj hoj hj
        unfold waits at hwj ⊢
        rw [Array.all_eq_true_iff_forall_mem] at hwj ⊢
        intro e he
        have h9 := hwj e he
        simp only [Bool.or_eq_true] at h9 ⊢
        exact h9.imp id (hup e.on)

/-- THE LAW. 'a0' is the state ahead of the region, 'ds' are its results' slots. -/
theorem wp_region_rg {id : Nat} {a0 : Act} {w : World} (hm : P.follows .mixedOrders = true) (hf : fits ops a0.tmps.size = true)
    (ds : List (Option Tmp)) (hds : (List.range ops.size).map (dstOf ops) = ds)
    (I : (Nat → Bool) → (Nat → Value) → World → Prop) (h0 : I (fun _ => false) (fun _ => undef) w.drew)
    (hstep : ∀ i o, ops[i]? = some o → ∀ (L : Nat → Bool) (v : Nat → Value) (a : Act) (w : World), At ops a0 L v a → I L v w → (∀ j oj, ops[j]? = some oj → L j = true → waits oj L = true) → L i = false → waits o L = true →
      wpOp P ops Q i (fun a' w' => ∃ u, a' = a.put o.dst u ∧ I (upd L i) (updv v i u) w') a w)
    (hend : ∀ L v w, (∀ i, i < ops.size → L i = true) → I L v w → Q .normal (putsAll a0 ds v 0) w) : (Code.region id ops true).wp P Q a0 w := by
  refine wp_region_any hm ?_
  have hr : (fun i => (Array.replicate ops.size false).getD i false) = fun _ => false := by
    funext i
    rw [Array.getD_eq_getD_getElem?]
    rcases Nat.lt_or_ge i ops.size with h1 | h1
    · simp [h1]
    · rw [Array.getElem?_eq_none (by simpa using h1)]; rfl
  refine rg_any a0 hf I hstep ?_ ops.size (Array.replicate ops.size false) (fun _ => undef) a0 _ (List.range ops.size) (by simp) (by simp) List.nodup_range ?_ ?_ ?_ ?_
  · intro L v a w hL hA hI
    rw [hA.all hf hL ds hds]
    exact hend L v w hL hI
  · intro i
    rw [congrFun hr i]
    simp
  · rw [hr]
    exact ⟨rfl, rfl, fun i d hi => (by cases hi), fun t _ => rfl⟩
  · rw [hr]
    exact h0
  · intro j oj hoj hj2
    rw [congrFun hr j] at hj2
    cases hj2

/-- The same in a region that keeps its order. -/
theorem wp_region_rg_plain {id : Nat} {a0 : Act} {w : World} (hf : fits ops a0.tmps.size = true)
    (ds : List (Option Tmp)) (hds : (List.range ops.size).map (dstOf ops) = ds)
    (I : (Nat → Bool) → (Nat → Value) → World → Prop) (h0 : I (fun _ => false) (fun _ => undef) w)
    (hstep : ∀ i o, ops[i]? = some o → ∀ (L : Nat → Bool) (v : Nat → Value) (a : Act) (w : World), At ops a0 L v a → I L v w → (∀ j oj, ops[j]? = some oj → L j = true → waits oj L = true) → L i = false → waits o L = true →
      wpOp P ops Q i (fun a' w' => ∃ u, a' = a.put o.dst u ∧ I (upd L i) (updv v i u) w') a w)
    (hend : ∀ L v w, (∀ i, i < ops.size → L i = true) → I L v w → Q .normal (putsAll a0 ds v 0) w) : (Code.region id ops false).wp P Q a0 w := by
  refine wp_region ?_
  have main : ∀ (m i : Nat) (v : Nat → Value) (a : Act) (w : World), i + m = ops.size → At ops a0 (fun j => decide (j < i)) v a → I (fun j => decide (j < i)) v w → wpOps P ops Q (List.range' i m) a w := by
    intro m
    induction m with
    | zero =>
      intro i v a w hi hA hI
      have hL : ∀ j, j < ops.size → decide (j < i) = true := fun j hj => decide_eq_true (by omega)
      show Q .normal a w
      rw [hA.all hf hL ds hds]
      exact hend _ v w hL hI
    | succ m ih =>
      intro i v a w hi hA hI
      have hlt : i < ops.size := by omega
      have ho : ops[i]? = some ops[i] := Array.getElem?_eq_getElem hlt
      rw [List.range'_succ, wpOps_cons]
      have hup : upd (fun j => decide (j < i)) i = fun j => decide (j < i + 1) := by
        funext j
        unfold upd
        by_cases hji : j = i
        · rw [if_pos hji]; exact (decide_eq_true (by omega)).symm
        · rw [if_neg hji]
          by_cases hjl : j < i
          · exact (decide_eq_true hjl).trans (decide_eq_true (by omega)).symm
          · exact (decide_eq_false hjl).trans (decide_eq_false (by omega)).symm
      have hw : ∀ j oj, ops[j]? = some oj → j ≤ i → waits oj (fun j => decide (j < i)) = true := fun j oj hoj hji => by
        unfold waits
        refine Array.all_eq_true_iff_forall_mem.2 (fun e he => ?_)
        cases hb : Region.binds .any e with
        | false => rfl
        | true =>
          have := fits_after hf hoj he hb
          simp only [Bool.not_true, Bool.false_or]
          exact decide_eq_true (by omega)
      have hni : (fun j => decide (j < i)) i = false := decide_eq_false (by omega)
      refine wpOp_mono ?_ (hstep i ops[i] ho _ v a w hA hI (fun j oj hoj hj => hw j oj hoj (Nat.le_of_lt (of_decide_eq_true hj))) hni (hw i _ ho (Nat.le_refl _)))
      rintro a' w' ⟨u, rfl, hI'⟩
      have hA' := At.step (n := 0) hA hf ho hni u
      rw [hup] at hA' hI'
      exact ih (i + 1) _ _ w' (by omega) hA' hI'
  have h := main ops.size 0 (fun _ => undef) a0 w (by omega) ⟨rfl, rfl, fun i d hi => (by cases hi), fun t _ => rfl⟩ h0
  rw [List.range_eq_range']
  exact h

/-- What comes up only behind another one, near or far. -/
def reach (ops : Array Oper) : Nat → Nat → Nat → Bool
  | 0, _, _ => false
  | f + 1, i, j => match ops[i]? with
    | some o => o.after.toList.any fun e => Region.binds .any e && (e.on == j || reach ops f e.on j)
    | none => false

theorem reach_listed {L : Nat → Bool} (hC : ∀ j oj, ops[j]? = some oj → L j = true → waits oj L = true) : ∀ (f i j : Nat) (o : Oper), ops[i]? = some o → waits o L = true → reach ops f i j = true → L j = true
  | 0, i, j, o, _, _, h => by cases h
  | f + 1, i, j, o, ho, hw, h => by
    unfold reach at h
    rw [ho] at h
    rw [List.any_eq_true] at h
    obtain ⟨e, he, hb⟩ := h
    simp only [Bool.and_eq_true, Bool.or_eq_true, beq_iff_eq] at hb
    unfold waits at hw
    have h1 := Array.all_eq_true_iff_forall_mem.1 hw e (Array.mem_toList_iff.1 he)
    rw [hb.1] at h1
    have hLe : L e.on = true := by simpa using h1
    rcases hb.2 with h2 | h2
    · rw [← h2]; exact hLe
    · cases hoe : ops[e.on]? with
      | none =>
        cases f with
        | zero => cases h2
        | succ f => unfold reach at h2; rw [hoe] at h2; cases h2
      | some oe => exact reach_listed hC f e.on j oe hoe (hC e.on oe hoe hLe) h2

theorem wpOp_plain {i : Nat} {o : Oper} {K : Act → World → Prop} {a : Act} {w : World} (ho : ops[i]? = some o) (hg : o.guard = none) (h : ∀ K' : Act → World → Prop, (∀ a w, K a w → K' a w) → Oper.wp P o a w K' Q) : wpOp P ops Q i K a w :=
  wpOp_step ho fun K' hK => by
    rw [if_pos (by simp [Region.wanted, hg])]
    exact h K' hK

theorem wpOp_value {i : Nat} {o : Oper} {K : Act → World → Prop} {a : Act} {w w' : World} {u : Value} (ho : ops[i]? = some o) (hg : o.guard = none) (hr : (execOp a.eval o).run P w = .ok (.value u) w') (h : K (a.put o.dst u) w') : wpOp P ops Q i K a w :=
  wpOp_plain ho hg fun K' hK => by
    unfold Oper.wp
    rw [hr, Oper.upon_value]
    exact hK _ _ h

theorem wpOp_call {i : Nat} {o : Oper} {K : Act → World → Prop} {a : Act} {w : World} {f : FuncId} {vs : Array Value} (ho : ops[i]? = some o) (hg : o.guard = none) (hr : (execOp a.eval o).run P w = .ok (.enter f vs) w)
    (h : Calls P f vs w fun e w' => ∃ u, e = .returned u ∧ K (a.put o.dst u) w') : wpOp P ops Q i K a w :=
  wpOp_plain ho hg fun K' hK => by
    unfold Oper.wp
    rw [hr, Oper.upon_enter]
    refine h.mono ?_
    rintro e w' ⟨u, rfl, hu⟩
    exact hK _ _ hu

end

end Go.Proofs.Ytbnmcbbpbiofgaa.Rg

namespace Go.Proofs.Ytbnmcbbpbiofgaa.Pl
open Go.RowKit Go.Proofs.Ytbnmcbbpbiofgaa.Mem
set_option linter.unusedVariables false

/-- Cells stored one behind the other. -/
def puts (w : World) (g : Nat) : Nat → List Value → World
  | _, [] => w
  | i, v :: vs => puts (w.setCell ⟨g, i, none⟩ v) g (i + 1) vs

def listed (xs : List Value) : Nat → List Value → List Value
  | _, [] => xs
  | i, v :: vs => listed (xs.set i v) (i + 1) vs

theorem puts_row {w : World} {g : Nat} {xs : List Value} (h : Row w g xs) (i : Nat) (vs : List Value) : Row (puts w g i vs) g (listed xs i vs) := by
  induction vs generalizing w xs i with
  | nil => exact h
  | cons v vs ih => exact ih (h.set i v) (i + 1)

theorem puts_other {w : World} {g b : Nat} {xs : List Value} (h : Row w b xs) (hb : b ≠ g) (i : Nat) (vs : List Value) : Row (puts w g i vs) b xs := by
  induction vs generalizing w i with
  | nil => exact h
  | cons v vs ih => exact ih (h.other (p := ⟨g, i, none⟩) hb v) (i + 1)

theorem puts_kept (w : World) (g i : Nat) (vs : List Value) : Kept (fun b => b = g) w (puts w g i vs) := by
  induction vs generalizing w i with
  | nil => exact Kept.refl _ _
  | cons v vs ih => exact ((kept_set w g i v).trans (ih (w.setCell ⟨g, i, none⟩ v) (i + 1))).mono (fun b _ h => by rcases h with h | h <;> exact h)

theorem puts_below {B : Nat} {w w' : World} {g : Nat} (h : Below B w w') (hg : B ≤ g) (i : Nat) (vs : List Value) : Below B w (puts w' g i vs) := by
  induction vs generalizing w' i with
  | nil => exact h
  | cons v vs ih => exact ih (below_set h g i v hg) (i + 1)

theorem puts_size (w : World) (g i : Nat) (vs : List Value) : (puts w g i vs).heap.size = w.heap.size := by
  induction vs generalizing w i with
  | nil => rfl
  | cons v vs ih => rw [puts, ih]; simp

theorem three_news (w : World) (xs ys zs : List Value) (t u : TypeId) :
    ∃ wc, ((w.alloc (.cells xs.toArray t)).alloc (.cells ys.toArray u)).alloc (.cells zs.toArray u) = wc ∧ wc.heap.size = w.heap.size + 1 + 1 + 1 ∧
      Row wc w.heap.size xs ∧ Row wc (w.heap.size + 1) ys ∧ Row wc (w.heap.size + 1 + 1) zs ∧ Below w.heap.size w wc := by
  have e0 : (w.alloc (.cells xs.toArray t)).heap.size = w.heap.size + 1 := by simp
  have e1 : ((w.alloc (.cells xs.toArray t)).alloc (.cells ys.toArray u)).heap.size = w.heap.size + 1 + 1 := by simp
  have r1 := Row.new (w.alloc (.cells xs.toArray t)) ys u
  have r2 := Row.new ((w.alloc (.cells xs.toArray t)).alloc (.cells ys.toArray u)) zs u
  rw [e0] at r1
  rw [e1] at r2
  exact ⟨_, rfl, by simp, ((Row.new w xs t).alloc _).alloc _, r1.alloc _, r2, (((Below.refl _ _).alloc (Nat.le_refl _) _).alloc (by omega) _).alloc (by omega) _⟩

end Go.Proofs.Ytbnmcbbpbiofgaa.Pl

namespace Go.Proofs.Ytbnmcbbpbiofgaa.Pl
open Go.RowKit Go.Proofs.Ytbnmcbbpbiofgaa.Mem
set_option linter.unusedVariables false

theorem puts_setCells (g : Nat) : ∀ (vs : List Value) (w : World) (i : Nat), puts w g i vs = w.setCells g i vs
  | [], _, _ => rfl
  | v :: vs, w, i => by rw [puts, World.setCells]; exact puts_setCells g vs _ (i + 1)

theorem wpList_load_row {P : Program} {ops : Array Oper} {rest : List Oper} {op : Oper} {a : Act} {w : World} {Q : Exit → Act → World → Prop} (hgd : op.guard = none) (ty : TypeId) (x : Operand) (ho : op.op = .load ty x)
    (b : Nat) (hx : a.eval x = .pointer (some ⟨b, 0, none⟩)) (cs : List Value) (d : TypeDesc) (hr : Row w b cs)
    (hu : P.underlying ty = some d) (hd : d.isRow = true) (hi : (P.info? ty).map (·.size) = some cs.length)
    (h : wpList P ops Q rest (a.put op.dst (.agg cs.toArray)) w) : wpList P ops Q (op :: rest) a w :=
  wpList_load_mid hgd ty x ho b 0 hx cs d (fun j v hv => by rw [Nat.zero_add]; exact hr.c j hv) hu hd hi h

theorem wpList_store_row {P : Program} {ops : Array Oper} {rest : List Oper} {op : Oper} {a : Act} {w : World} {Q : Exit → Act → World → Prop} (hgd : op.guard = none) (ty : TypeId) (x y : Operand) (ho : op.op = .store ty x y)
    (b : Nat) (hx : a.eval x = .pointer (some ⟨b, 0, none⟩)) (xs cs : List Value) (hy : a.eval y = .agg cs.toArray) (hr : Row w b xs) (hl : cs.length = xs.length)
    (hi : (P.info? ty).map (·.size) = some cs.length) (h1 : cs.all (·.oneCell') = true)
    (h : wpList P ops Q rest (a.put op.dst undef) (puts w b 0 cs)) : wpList P ops Q (op :: rest) a w :=
  wpList_store_mid hgd ty x y ho b 0 cs.toArray hx hy
    (fun j hj => by
      have hj' : j < xs.length := by rw [← hl]; simpa using hj
      rw [Nat.zero_add]
      exact ⟨by rw [hr.c j (List.getElem?_eq_getElem hj')]; rfl, hr.f j⟩)
    (by rw [hi]; simp) (all_oneCell_toArray (fun v hv => List.all_eq_true.1 h1 v hv)) (by rw [puts_setCells] at h; exact h)

end Go.Proofs.Ytbnmcbbpbiofgaa.Pl

namespace Go.Proofs.Ytbnmcbbpbiofgaa.Pl
open Go.RowKit Go.Proofs.Ytbnmcbbpbiofgaa.Mem
set_option linter.unusedVariables false

theorem enters {P : Program} (a : Act) (o : Oper) (w : World) (xs : Array Operand) (ts : Array TypeId) (f : FuncId) (ho : o.op = .call { callee := .value (.func f), args := xs, argTypes := ts }) (vs : Array Value) (hv : xs.map a.eval = vs) (hc : ∀ vs w, (callFunc f vs).run P w = .ok (.enter f vs) w) :
    (execOp a.eval o).run P w = .ok (.enter f vs) w := by
  unfold execOp
  simp [ho, hv, go_sem, resolve, invoke, hc]

theorem run_not {P : Program} {ρ : Operand → Value} {o : Oper} {w : World} (ty : TypeId) (x : Operand) (p : o.op = .unOp .not ty x) (e : ρ x = .bool true) : (execOp ρ o).run P w = .ok (.value (.bool false)) w := by
  unfold execOp
  simp [p, e, go_sem]

theorem wpList_call {P : Program} {ops : Array Oper} {rest : List Oper} {op : Oper} {a : Act} {w : World} {Q : Exit → Act → World → Prop} (hgd : op.guard = none) (f : FuncId) (xs : Array Operand) (ts : Array TypeId)
    (ho : op.op = .call { callee := .value (.func f), args := xs, argTypes := ts }) (vs : Array Value) (hv : xs.map a.eval = vs) (hc : ∀ vs w, (callFunc f vs).run P w = .ok (.enter f vs) w)
    (h : Calls P f vs w fun e w' => ∃ v, e = .returned v ∧ wpList P ops Q rest (a.put op.dst v) w') : wpList P ops Q (op :: rest) a w :=
  wpList_plain hgd fun K hK => by
    unfold Oper.wp
    rw [enters a op w xs ts f ho vs hv hc, Oper.upon_enter]
    refine h.mono ?_
    rintro e w' ⟨v, rfl, hw⟩
    exact hK _ _ hw

/-- What stands in a box, held against the argument laid anew. -/
theorem region_eq {P : Program} {ops : Array Oper} {id : Nat} {a : Act} {w : World} {Q : Exit → Act → World → Prop} (hm : P.follows .mixedOrders = true) (h5 : ops.size = 5)
    {o0 o1 o2 o3 o4 : Oper} (i0 : ops[0]? = some o0) (i1 : ops[1]? = some o1) (i2 : ops[2]? = some o2) (i3 : ops[3]? = some o3) (i4 : ops[4]? = some o4)
    (g0 : o0.guard = none) (g1 : o1.guard = none) (g2 : o2.guard = none) (g3 : o3.guard = none) (g4 : o4.guard = none)
    (hs : Region.noSelect ops = true)
    (f0 : Region.free .any ops (Array.replicate 5 false) 0 = true) (r0 : (Region.ready .any ops (Array.replicate 5 false)).contains 0 = true)
    (f1 : Region.free .any ops ((Array.replicate 5 false).setIfInBounds 0 true) 1 = true) (r1 : (Region.ready .any ops ((Array.replicate 5 false).setIfInBounds 0 true)).contains 1 = true)
    (r2 : Region.ready .any ops (((Array.replicate 5 false).setIfInBounds 0 true).setIfInBounds 1 true) = [2])
    (r3 : Region.ready .any ops ((((Array.replicate 5 false).setIfInBounds 0 true).setIfInBounds 1 true).setIfInBounds 2 true) = [3])
    (r4 : Region.ready .any ops (((((Array.replicate 5 false).setIfInBounds 0 true).setIfInBounds 1 true).setIfInBounds 2 true).setIfInBounds 3 true) = [4])
    (r5 : Region.ready .any ops ((((((Array.replicate 5 false).setIfInBounds 0 true).setIfInBounds 1 true).setIfInBounds 2 true).setIfInBounds 3 true).setIfInBounds 4 true) = [])
    (q0 : ∀ (v : Value) c (a : Act) w, Q (.panic c) (a.put o0.dst v) w → Q (.panic c) a w) (q1 : ∀ (v : Value) c (a : Act) w, Q (.panic c) (a.put o1.dst v) w → Q (.panic c) a w)
    (ty0 : TypeId) (x0 : Operand) (p0 : o0.op = .load ty0 x0) (b0 : Nat) (cs0 : List Value) (d0 : TypeDesc) (e0 : a.eval x0 = .pointer (some ⟨b0, 0, none⟩)) (R0 : Row w b0 cs0)
    (u0 : P.underlying ty0 = some d0) (k0 : d0.isRow = true) (n0 : (P.info? ty0).map (·.size) = some cs0.length)
    (ty1 : TypeId) (x1 : Operand) (p1 : o1.op = .load ty1 x1) (b1 : Nat) (cs1 : List Value) (d1 : TypeDesc) (e1 : (a.put o0.dst (.agg cs0.toArray)).eval x1 = .pointer (some ⟨b1, 0, none⟩)) (R1 : Row w b1 cs1)
    (u1 : P.underlying ty1 = some d1) (k1 : d1.isRow = true) (n1 : (P.info? ty1).map (·.size) = some cs1.length)
    (c2 : FuncId) (y2 : Operand) (ts2 : Array TypeId) (p2 : o2.op = .call { callee := .value (.func c2), args := #[y2], argTypes := ts2 }) (m2 : ∀ vs w, (callFunc c2 vs).run P w = .ok (.enter c2 vs) w)
    (e2 : ((a.put o0.dst (.agg cs0.toArray)).put o1.dst (.agg cs1.toArray)).eval y2 = .agg cs1.toArray)
    (c3 : FuncId) (y3 z3 : Operand) (ts3 : Array TypeId) (p3 : o3.op = .call { callee := .value (.func c3), args := #[y3, z3], argTypes := ts3 }) (m3 : ∀ vs w, (callFunc c3 vs).run P w = .ok (.enter c3 vs) w)
    (e3 : ∀ V, (((a.put o0.dst (.agg cs0.toArray)).put o1.dst (.agg cs1.toArray)).put o2.dst V).eval y3 = .agg cs0.toArray) (e3' : ∀ V, (((a.put o0.dst (.agg cs0.toArray)).put o1.dst (.agg cs1.toArray)).put o2.dst V).eval z3 = V)
    (ty4 : TypeId) (x4 : Operand) (p4 : o4.op = .unOp .not ty4 x4) (e4 : ∀ V, ((((a.put o0.dst (.agg cs0.toArray)).put o1.dst (.agg cs1.toArray)).put o2.dst V).put o3.dst (.bool true)).eval x4 = .bool true)
    (R : Value → World → Prop)
    (C2 : ∀ w', Below w.heap.size w w' → Calls P c2 #[.agg cs1.toArray] w' fun e w'' => ∃ V, e = .returned V ∧ R V w'' ∧ Below w'.heap.size w' w'')
    (C3 : ∀ V w', Below w.heap.size w w' → R V w' → Calls P c3 #[.agg cs0.toArray, V] w' fun e w'' => e = .returned (.bool true) ∧ Below w'.heap.size w' w'')
    (h : ∀ V w', Below w.heap.size w w' → Q .normal (((((a.put o0.dst (.agg cs0.toArray)).put o1.dst (.agg cs1.toArray)).put o2.dst V).put o3.dst (.bool true)).put o4.dst (.bool false)) w') :
    (Code.region id ops true).wp P Q a w := by
  refine wp_region_held (S := fun w' => Below w.heap.size w w') hm ?_
  rw [h5]
  have S0 : Below w.heap.size w { w with drawn := w.drawn + 1 } := (Below.refl _ w).drew
  refine wpAnyH_take i0 hs f0 r0 (q0 _) (yieldsIf_load_mid (by simp [Region.wanted, g0]) ty0 x0 p0 b0 0 e0 cs0 d0 (fun w' hw' => fun j v hv => by rw [Nat.zero_add]; exact (R0.below hw' R0.lt).c j hv) u0 k0 n0) S0 ?_
  refine wpAnyH_take i1 hs f1 r1 (q1 _) (yieldsIf_load_mid (by simp [Region.wanted, g1]) ty1 x1 p1 b1 0 e1 cs1 d1 (fun w' hw' => fun j v hv => by rw [Nat.zero_add]; exact (R1.below hw' R1.lt).c j hv) u1 k1 n1) S0 ?_
  refine wpAnyH_all r2 (by simp) ?_
  intro i hi
  obtain rfl : i = 2 := by simpa using hi
  refine wpOp_step i2 (fun K hK => ?_)
  rw [if_pos (by simp [Region.wanted, g2])]
  unfold Oper.wp
  rw [enters _ o2 _ #[y2] ts2 c2 p2 #[.agg cs1.toArray] (by simp only [List.map_toArray, List.map_cons, List.map_nil, e2]) m2, Oper.upon_enter]
  refine (C2 _ S0).mono ?_
  rintro e w2 ⟨V, rfl, hR, B2⟩
  have S2 : Below w.heap.size w w2 := S0.trans (B2.mono S0.size)
  refine hK _ _ ⟨S2, ?_⟩
  refine wpAnyH_all r3 (by simp) ?_
  intro i hi
  obtain rfl : i = 3 := by simpa using hi
  refine wpOp_step i3 (fun K hK => ?_)
  rw [if_pos (by simp [Region.wanted, g3])]
  unfold Oper.wp
  rw [enters _ o3 _ #[y3, z3] ts3 c3 p3 #[.agg cs0.toArray, V] (by simp only [List.map_toArray, List.map_cons, List.map_nil, e3 V, e3' V]) m3, Oper.upon_enter]
  refine (C3 V w2 S2 hR).mono ?_
  rintro e w3 ⟨rfl, B3⟩
  have S3 : Below w.heap.size w w3 := S2.trans (B3.mono S2.size)
  refine hK _ _ ⟨S3, ?_⟩
  refine wpAnyH_all r4 (by simp) ?_
  intro i hi
  obtain rfl : i = 4 := by simpa using hi
  refine wpOp_step i4 (fun K hK => ?_)
  rw [if_pos (by simp [Region.wanted, g4])]
  unfold Oper.wp
  rw [run_not ty4 x4 p4 (e4 V), Oper.upon_value]
  exact hK _ _ ⟨S3, wpAnyH_done r5 (h V w3 S3) _⟩

theorem listed_all (vs : List Value) : ∀ (xs : List Value) (i : Nat), xs.length = i + vs.length → listed xs i vs = xs.take i ++ vs := by
  induction vs with
  | nil => intro xs i h; simp only [listed, List.append_nil]; rw [List.take_of_length_le]; simp at h; omega
  | cons v vs ih =>
    intro xs i h
    have h2 : i < xs.length := by simp at h; omega
    have h3 : (xs.set i v).take (i + 1) = xs.take i ++ [v] := by
      rw [List.take_add_one, List.take_set, List.set_eq_of_length_le (by simp; omega)]
      simp [h2]
    rw [listed, ih (xs.set i v) (i + 1) (by simp at h ⊢; omega), h3, List.append_assoc]
    rfl

/-- An argument laid anew and put into a box. -/
theorem region_box {P : Program} {ops : Array Oper} {id : Nat} {a : Act} {w : World} {Q : Exit → Act → World → Prop}
    {o0 o1 o2 o3 : Oper} (hl : ops.toList = [o0, o1, o2, o3]) (g0 : o0.guard = none) (g1 : o1.guard = none) (g2 : o2.guard = none) (g3 : o3.guard = none)
    (ty0 : TypeId) (x0 : Operand) (p0 : o0.op = .load ty0 x0) (b0 : Nat) (cs0 : List Value) (d0 : TypeDesc) (e0 : a.eval x0 = .pointer (some ⟨b0, 0, none⟩)) (R0 : Row w b0 cs0)
    (u0 : P.underlying ty0 = some d0) (k0 : d0.isRow = true) (n0 : (P.info? ty0).map (·.size) = some cs0.length)
    (c1 : FuncId) (y1 : Operand) (ts1 : Array TypeId) (p1 : o1.op = .call { callee := .value (.func c1), args := #[y1], argTypes := ts1 }) (m1 : ∀ vs w, (callFunc c1 vs).run P w = .ok (.enter c1 vs) w)
    (e1 : (a.put o0.dst (.agg cs0.toArray)).eval y1 = .agg cs0.toArray)
    (zs : List Value) (ty2 : TypeId) (al : ∀ (ρ : Operand → Value) w, (execOp ρ o2).run P w = .ok (.value (.pointer (some ⟨w.heap.size, 0, none⟩))) (w.alloc (.cells zs.toArray ty2)))
    (ty3 : TypeId) (x3 y3 : Operand) (p3 : o3.op = .store ty3 x3 y3) (i3 : (P.info? ty3).map (·.size) = some zs.length)
    (e3 : ∀ V X, (((a.put o0.dst (.agg cs0.toArray)).put o1.dst V).put o2.dst X).eval x3 = X) (e4 : ∀ V X, (((a.put o0.dst (.agg cs0.toArray)).put o1.dst V).put o2.dst X).eval y3 = V)
    (R : List Value → World → Prop)
    (C1 : Calls P c1 #[.agg cs0.toArray] w fun e w' => ∃ cs, e = .returned (.agg (List.toArray cs)) ∧ cs.length = zs.length ∧ cs.all (·.oneCell') = true ∧ R cs w' ∧ Below w.heap.size w w')
    (h : ∀ cs w1 wz, R cs w1 → Below w.heap.size w w1 → Row wz w1.heap.size cs → Below w1.heap.size w1 wz → Q .normal ((((a.put o0.dst (.agg cs0.toArray)).put o1.dst (.agg cs.toArray)).put o2.dst (.pointer (some ⟨w1.heap.size, 0, none⟩))).put o3.dst undef) wz) :
    (Code.region id ops false).wp P Q a w := by
  refine wp_region_list ?_
  rw [hl]
  refine wpList_load_row g0 ty0 x0 p0 b0 e0 cs0 d0 R0 u0 k0 n0 ?_
  refine wpList_call g1 c1 #[y1] ts1 p1 #[.agg cs0.toArray] (by simp only [List.map_toArray, List.map_cons, List.map_nil, e1]) m1 (C1.mono ?_)
  rintro e w1 ⟨cs, rfl, hlen, h1, hR, B1⟩
  refine ⟨_, rfl, ?_⟩
  refine wpList_plain g2 (fun K hK => ?_)
  unfold Oper.wp
  rw [al, Oper.upon_value]
  refine hK _ _ ?_
  have hr := Row.new w1 zs ty2
  refine wpList_store_row g3 ty3 x3 y3 p3 w1.heap.size (e3 _ _) zs cs (e4 _ _) hr hlen (by rw [i3, hlen]) h1 ?_
  refine wpList_nil ?_
  have hrow := puts_row hr 0 cs
  rw [listed_all cs zs 0 (by omega)] at hrow
  exact h cs w1 _ hR B1 hrow (puts_below ((Below.refl _ w1).alloc (Nat.le_refl _) _) (Nat.le_refl _) 0 cs)

end Go.Proofs.Ytbnmcbbpbiofgaa.Pl
