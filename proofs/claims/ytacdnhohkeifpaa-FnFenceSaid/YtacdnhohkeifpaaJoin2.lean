/-
  The walk of impl's left: the writes whose numbers are still in a queue, in the order in which they were given. No condition but a list of at most 40 writes.
  Plain: what is left of the writes when one number is struck, or all of one host's. No condition.
  The walk of impl.copyDisk: the same disk, in rows of its own. No condition but lengths of at most 2^20.
  What a function of chapter 3 keeps in memory while it makes its answer: the argument's box, the result's block, its own disk with its box. No condition.
  The walk of impl.Fence: it answers as spec.Fence does, in rows of its own. No condition but sizes.
  The walk of impl.refusal: the first reason against a call of a host. No condition but three epochs.
  The walk of impl.Put: it answers as spec.Put does, in rows of its own. No condition but sizes.
  Plain: what a flush leaves in each sector: the last of the host's writes to it, or what stood there. No condition.
  The walk of impl's take once more, with a sharper word on what it leaves alone. No condition but that the number is there.
  The walk of impl.Flush: it answers as spec.Flush does, in rows of its own. No condition but sizes.
  The walk of impl.Swap: it answers as spec.Swap does, in rows of its own. No condition but sizes.
-/
import Derived.Test.YtacdnhohkeifpaaJoin1
import Derived.Maps.RangeWalk
import Derived.Shelf.Sort.Plain
import Derived.Shelf.Slices.In.SortNone
import Derived.Test.YtacdnhohkeifpaaDkFence
import Derived.Test.YtacdnhohkeifpaaDkCopy
import Derived.Test.YtacdnhohkeifpaaWrapEnd
import Derived.Test.YtacdnhohkeifpaaDkSwap
import Derived.Test.YtacdnhohkeifpaaDkLand
import Derived.Test.YtacdnhohkeifpaaDiskPeek
import Derived.Test.YtacdnhohkeifpaaDkRight
namespace Go.Proofs.Ytacdnhohkeifpaa.Mem
open Go.RowKit Go.Maps Go.Sort
set_option linter.unusedVariables false

theorem kept_grown {r : Option Nat} {w w' : World} (k : Kept (fun b => r = some b) w w') : w.grownBy w' r := ⟨k.os, k.tape, k.output, k.size, fun i hi hne => k.block i hi (fun e => hne e.symm)⟩
theorem grown_kept {r : Option Nat} {w w' : World} (k : w.grownBy w' r) : Kept (fun b => r = some b) w w' := ⟨k.os, k.tape, k.output, k.size, fun i hi hne => k.block i hi (fun e => hne e.symm)⟩

/-- slices.Sort on a row of the call's own. -/
theorem sortRow (w : World) (B : Nat) (v : Value) (L S : List Nat) (r : RowO w B 3 1 v L.length (qCells L)) (hl : L.length ≤ 1048576) (hS : (zOf L).mergeSort (fun x y => decide (x ≤ y)) = zOf S) :
    Calls Try.prog 53 #[v] w fun e w' => e = .returned (.tuple #[]) ∧ RowO w' B 3 1 v L.length (qCells S) ∧ Kept (fun b => rb v = some b) w w' := by
  have hlen : S.length = L.length := by
    have := congrArg List.length hS
    rw [List.length_mergeSort, zOf_length, zOf_length] at this
    exact this.symm
  rcases Nat.eq_zero_or_pos L.length with h0 | h0
  · obtain ⟨a, c, e, _⟩ := r.wr
    have hLn : L = [] := List.eq_nil_of_length_eq_zero h0
    have hSn : S = [] := List.eq_nil_of_length_eq_zero (hlen.trans h0)
    subst hLn; subst hSn
    rw [e] at r ⊢
    refine (Any.slices_Sort_int_none Try.lays189 a c w).mono ?_
    rintro e w' ⟨rfl, rfl⟩
    exact ⟨rfl, r, Kept.refl _ _⟩
  · obtain ⟨g, c, e⟩ := r.form h0
    subst e
    obtain ⟨cur, hb, hB, h1, h2, h3, h4⟩ := r.block
    have hc := Any.slices_Sort_int Try.lays189 g 0 (c + 1) (zOf L) w (holds_row r) (r.lt (b := g) rfl).2 (by rw [zOf_length]; omega)
    rw [zOf_length] at hc
    refine hc.mono ?_
    rintro e w' ⟨rfl, n, os, hw'⟩
    rw [hS] at hw'
    have ho := ownsRow_sortedI (n := n) (os := os) (ss := zOf L) (ts := zOf S) (by rw [zOf_length, zOf_length, hlen]) hB hb (by rw [zOf_length]; exact h1) h2 h3
    have hg := grownBy_sortedI (w := w) (g := g) (n := n) (os := os) (zOf S).toArray
    rw [← hw'] at ho hg
    rw [zOf_length, ← qCells_zOf] at ho
    exact ⟨rfl, Or.inr ⟨ho, _, c, rfl⟩, (grown_kept hg).mono (fun b _ e => by cases e; rfl)⟩

theorem leftW_take (l : List Wt) (S : List Nat) (k : Nat) (hk : k < S.length) : (S.take (k + 1)).map (fun i => l.getD i Wt.none) = (S.take k).map (fun i => l.getD i Wt.none) ++ [l.getD (S.getD k 0) Wt.none] := by
  have e : S.getD k 0 = S[k] := by simp [List.getD, hk]
  rw [List.take_add_one, List.getElem?_eq_getElem hk, List.map_append, e]
  rfl

set_option maxRecDepth 100000 in
set_option maxHeartbeats 4000000 in
theorem left (w : World) (B b n : Nat) (Q : Int → Int → List Nat) (D : DataW Value) (V : Int → Int → Value) (q : QM w B b n Q D V) (a : Option Addr) (cap : Nat) (l : List Wt) (S : Wts w a l) (hl : l.length ≤ 40) (hk : ∀ j, j < l.length → OkK (l.getD j Wt.none).host (l.getD j Wt.none).sector) (hq : QOk l Q) :
    Calls Try.prog 45 #[.map (some b), .slice a l.length cap] w fun e w' => ∃ v', e = .returned v' ∧ RowO w' w.heap.size 44 4 v' (leftW l Q).length (wCells (leftW l Q)) ∧ Below w.heap.size w w' := by
  have HS := hid S
  have HK := hid hk
  have HQO := hid hq
  have HQ := hid q
  have hbl := q.own.lt
  clear S hk hq q
  go_enter Try.func45, Try.ntmps45
  go_wp2_with (at_range; refine wpList_range_own _ rfl _ 66 rfl 69 25 keyedQ Try.underlying66 Rid b n D rfl HQ.out.own ?_; intro w0 hrg0 hg0 hs0)
  go_frame
  have HR0 := hid hrg0
  have HG0 := hid hg0
  have HZ0 := hid hs0
  clear hrg0 hg0 hs0
  go_loopw [5] (fun v wr => ∃ left cnt L, Hid (RowO wr (w.heap.size + 1) 3 1 v L.length (qCells L)) ∧ Hid (wr.ranges Try.prog 69 Rid b w.heap.size n D left cnt) ∧ Hid (Col Q left L) ∧ Hid (Below w.heap.size w wr) ∧ Hid (w.heap.size + 1 ≤ wr.heap.size)) (fun _ wr => wr.rangeLeft b w.heap.size)
  case atStart => exact ⟨_, _, [], Or.inl ⟨_, rfl, rfl, rfl⟩, HR0.out, Col.start HQ.out.has, (Below.refl _ _).grown HG0.out (Nat.le_refl _) (fun j hj => by cases hj), hid (by rw [HZ0.out]; exact Nat.le_refl _)⟩
  case round =>
    obtain ⟨left, cnt, L, HRo, HRg, HC, HB, HZ⟩ := hrel
    obtain ⟨pa, pc, ev, _⟩ := HRo.out.wr
    subst ev
    go_wp2_with (at_next; refine wpList_next_ranges _ rfl _ rfl 69 keyedQ Rid (fun v => v) (fun v => v) (fun key kl _ => ⟨key, rfl⟩) (fun v y _ => ⟨v, rfl⟩) b w.heap.size n D left cnt rfl HRg.out ?_ ?_)
    · intro hc0 hl0
      have HP := hid (HC.out.perm HQO.out HK.out hl0)
      have HSo := hid (sorted_kept HP.out)
      have hLl : L.length ≤ 40 := Nat.le_trans (nodup_le HC.out.nodup (HC.out.lt HQO.out)) hl
      have HLl := hid hLl
      have HLe := hid (show (keptQ l Q).length = L.length from HP.out.length_eq.symm)
      have HX := hid (show ∀ k, k < (keptQ l Q).length → (keptQ l Q).getD k 0 < l.length from fun k hk => by
        have hm : (keptQ l Q).getD k 0 ∈ keptQ l Q := by rw [List.getD_eq_getElem?_getD, List.getElem?_eq_getElem hk]; exact List.getElem_mem hk
        unfold keptQ at hm
        exact List.mem_range.1 (List.mem_filter.1 hm).1)
      have HLW := hid (show leftW l Q = ((keptQ l Q).take L.length).map (fun i => l.getD i Wt.none) from by rw [← HLe.out, List.take_length]; rfl)
      clear hc0 hl0 hLl
      generalize keptQ l Q = SS at *
      go_wp2_with fail
      refine (sortRow wr (w.heap.size + 1) _ L SS HRo.out (by have := HLl.out; omega) HSo.out).mono ?_
      rintro e w2 ⟨rfl, r2, k2⟩
      have HR2 := hid r2
      have HB2 := hid (HB.out.trans (k2.below HB.out.size (fun g hg e => by have := (HRo.out.lt e).1; omega)))
      have HZ2 := hid (show w.heap.size + 1 ≤ w2.heap.size from Nat.le_trans HZ.out k2.size)
      have HLn := hid HLl.out
      clear r2 k2
      generalize hm : L.length = m at *
      have hm40 : m ≤ 40 := HLl.out
      clear hm HP HSo HLl HRo HRg HC
      go_wp2
      go_loopw [8, 24] (fun o i wr => ∃ k : Nat, k ≤ m ∧ i = .int .i64 (k : Int) ∧ Hid (RowO wr w2.heap.size 44 4 o k (wCells ((SS.take k).map (fun i => l.getD i Wt.none)))) ∧ Hid (Below w2.heap.size w2 wr)) (fun _ i _ => m - (intOf i).toNat)
      case atStart => exact ⟨0, Nat.zero_le _, rfl, Or.inl ⟨_, rfl, rfl, by simp [wCells]⟩, Below.refl _ _⟩
      case round =>
        obtain ⟨k, hk, rfl, HO, HBr⟩ := hrel
        obtain ⟨oa, oc, eo, _⟩ := HO.out.wr
        subst eo
        by_cases hlt : k < m
        · have hkS : k < SS.length := by rw [HLe.out]; exact hlt
          obtain ⟨aa, cc, ea, hwa⟩ := HR2.out.wr
          cases ea
          obtain ⟨g, o, rfl, hc⟩ := hwa.sl k (by omega)
          have hcv : (qCells SS).getD k undef = .int .i64 ((SS.getD k 0 : Nat) : Int) := by unfold qCells; simp [List.getD, hkS]
          have hc2 := (HBr.out.cell (p := ⟨g, o + k, none⟩) (World.block_lt_of_cell? w2 _ hc)).trans hc
          replace hc2 : wr.cell? ⟨g, o + k, none⟩ = some (.int .i64 ((SS.getD k 0 : Nat) : Int)) := hc2.trans (congrArg some hcv)
          have hxl := HX.out k hkS
          have htk := hid (leftW_take l SS k hkS)
          generalize SS.getD k 0 = y at *
          have hy1 : (y : Int) < (l.length : Int) := by omega
          have hy0 : (0 : Int) ≤ (y : Int) := Int.natCast_nonneg y
          obtain ⟨b3, o3, rfl, x0, x1, x2, x3⟩ := Wts.at_ ((HS.out.below HB2.out).below HBr.out) y hxl
          generalize l.getD y Wt.none = u at *
          have HRa : Hid (∀ ob, RowO (wr.alloc ob) w2.heap.size 44 4 (.slice oa k oc) k (wCells ((SS.take k).map (fun i => l.getD i Wt.none)))) := fun ob => HO.out.below ((Below.refl _ _).alloc (Nat.le_refl _) ob)
          have HBa := hid (show ∀ ob, w2.heap.size ≤ (wr.alloc ob).heap.size from fun ob => by have := lt_alloc wr ob; have := HBr.out.size; omega)
          have HO2 := hid (fun g => HO.out.lt (b := g))
          clear hwa hc
          generalize (SS.take k).map (fun i => l.getD i Wt.none) = ol at *
          go_wp2_with (at_builtin; refine wpList_app 26 44 Wt.none.val 4 40 Try.underlying26 infoW rfl (by decide) (by decide) _ rfl (.tmp 28) (.tmp 33) rfl w2.heap.size _ k (wCells ol) rfl (HRa.out _) ⟨wr.heap.size, 0, none⟩ 1 1 u.cells rfl rfl (sl_lit wr u.cells 44 4 rfl) (by intro z hz; exact wCells_one [u] z (by simpa [wCells] using hz)) (by omega) (HBa.out _) ?_; intro v3 w3 r3 kk hi; obtain ⟨p3, d3, e3, _⟩ := r3.wr; subst e3; have HR3 := hid r3; have HK3 := hid kk; clear r3 kk hi)
          exact ⟨⟨k + 1, by omega, by go_num, by rw [htk.out, wCells_snoc]; exact HR3.out, (HBr.out.alloc HBr.out.size _).trans (HK3.out.below (HBa.out _) (fun g hg e => by have := (HO2.out g e).1; omega))⟩, by simp [intOf]; omega⟩
        obtain rfl : k = m := by omega
        go_wp2
        go_ret
        refine ⟨_, rfl, ?_, HB2.out.trans (HBr.out.mono HB2.out.size)⟩
        rw [HLW.out, List.length_map, List.length_take, HLe.out, Nat.min_self]
        exact HO.out.mono HB2.out.size
    · intro x c kl yd yp w1 cnt1 hkey hlk hv hat hrg1 hlt hg1 hs1 hen
      obtain ⟨h0, s0, hk0, rfl⟩ := HQ.out.only kl (Maps.has_true_of_atKey hat)
      have hyd : yd = .held c := by
        simp only [Rid, Option.some.injEq, Prod.mk.injEq] at hv
        exact hv.1.symm
      have hcV : c = V h0 s0 := by
        have e1 := HQ.out.at_ h0 s0 hk0
        rw [hat, hyd] at e1
        injection e1
      have hQne : Q h0 s0 ≠ [] := (HQ.out.has h0 s0 hk0).1 (Maps.has_true_of_atKey hat)
      have hrw := HQ.out.row h0 s0 hk0
      obtain ⟨g, cc, hVf⟩ := hrw.form (List.length_pos_iff.2 hQne)
      rw [hVf] at hcV hrw
      subst hcV
      have HC1 := hid (HC.out.step HQO.out hk0 hlk)
      have HB1 := hid (HB.out.grown hg1 HB.out.size (fun j hj => by cases hj; exact Nat.le_refl _))
      have hLl := nodup_le HC1.out.nodup (HC1.out.lt HQO.out)
      rw [List.length_append] at hLl
      have HRg1 := hid hrg1
      have HRo1 := hid (HRo.out.kept (grown_kept hg1) (fun y hy e => by have := (HRo.out.lt hy).1; cases e; omega))
      have HSl : Hid (Sl w1 (some ⟨g, 0, none⟩) ((Q h0 s0).length * 1) (fun i => (qCells (Q h0 s0)).getD i undef)) := by
        obtain ⟨_, _, ea, hwa⟩ := hrw.wr
        cases ea
        exact hwa.sl.below HB1.out
      have HZ1 := hid (show w.heap.size + 1 ≤ w1.heap.size from by rw [hs1]; exact HZ.out)
      have Hlt := hid hlt
      clear hs1 hg1 hrg1 hrw hVf hat hv hyd hkey hlt
      generalize Q h0 s0 = Z at *
      go_wp2_with (at_builtin; refine wpList_app 25 3 (.int .i64 0) 1 8 Try.underlying25 info3' rfl (by decide) (by decide) _ rfl (.tmp 17) (.tmp 18) rfl (w.heap.size + 1) _ L.length (qCells L) rfl HRo1.out ⟨g, 0, none⟩ Z.length (cc + 1) (qCells Z) rfl (by rw [qCells_length]; omega) HSl.out (by intro u hu; unfold qCells at hu; obtain ⟨z, _, rfl⟩ := List.mem_map.1 hu; rfl) (by omega) HZ1.out ?_; intro v3 w3 r3 kk hi; obtain ⟨p3, d3, e3, _⟩ := r3.wr; subst e3; have HR3 := hid r3; have HK3 := hid kk; clear r3 kk hi)
      have hrg3 := HRg1.out.kept (kept_grown HK3.out) (fun e => by have := (HRo1.out.lt e.symm).1; omega) (fun e => by have := (HRo1.out.lt e.symm).1; omega)
      exact ⟨⟨_, cnt1, L ++ Z, by rw [List.length_append, show qCells (L ++ Z) = qCells L ++ qCells Z from by simp [qCells]]; exact HR3.out, hrg3, HC1.out, HB1.out.trans (HK3.out.below HB1.out.size (fun g hg e => by have := (HRo1.out.lt e).1; omega)), hid (Nat.le_trans HZ1.out HK3.out.size)⟩, by rw [hrg3.left_eq, HRg.out.left_eq]; exact Hlt.out⟩

end Go.Proofs.Ytacdnhohkeifpaa.Mem

namespace Go.Proofs.Ytacdnhohkeifpaa.Mem
open Go.RowKit
set_option linter.unusedVariables false

theorem range_getD (l : List Wt) : (List.range l.length).map (fun i => l.getD i Wt.none) = l := by
  apply List.ext_getElem (by simp)
  intro i h1 h2
  simp [List.getD, h2]

theorem range'_getD (l : List Wt) : ∀ (n k : Nat), k + n = l.length → (List.range' k n).map (fun i => l.getD i Wt.none) = l.drop k
  | 0, k, h => by rw [List.drop_eq_nil_of_le (by omega)]; rfl
  | n + 1, k, h => by
    have hk : k < l.length := by omega
    rw [List.range'_succ, List.map_cons, range'_getD l n (k + 1) (by omega), List.drop_eq_getElem_cons hk]
    simp [List.getD, hk]

theorem split_range (n i : Nat) (h : i < n) : List.range n = List.range i ++ i :: List.range' (i + 1) (n - i - 1) := by
  rw [List.range_eq_range', List.range_eq_range', show n = i + ((n - i - 1) + 1) from by omega, List.range'_append_1.symm, Nat.zero_add, List.range'_succ]
  congr 3
  omega

/-- All but number i. -/
theorem but_one (l : List Wt) (i : Nat) (h : i < l.length) : ((List.range l.length).filter (fun j => decide (j ≠ i))).map (fun j => l.getD j Wt.none) = l.eraseIdx i := by
  have f1 : (List.range i).filter (fun j => decide (j ≠ i)) = List.range i := List.filter_eq_self.2 (fun j hj => by have := List.mem_range.1 hj; simp; omega)
  have f2 : (List.range' (i + 1) (l.length - i - 1)).filter (fun j => decide (j ≠ i)) = List.range' (i + 1) (l.length - i - 1) := List.filter_eq_self.2 (fun j hj => by have := (List.mem_range'_1.1 hj).1; simp; omega)
  have f3 : decide (i ≠ i) = false := by simp
  rw [split_range l.length i h, List.filter_append, List.filter_cons, f3, f1, f2, List.map_append, if_neg (by simp), range'_getD l _ _ (by omega), List.eraseIdx_eq_take_drop_succ]
  congr 1
  apply List.ext_getElem (by simp; omega)
  intro j h1 h2
  have hj : j < l.length := by simp at h1; omega
  simp [List.getD, hj]

theorem mem_qAt {l : List Wt} {i : Nat} (h : i < l.length) : i ∈ qAt l l.length (l.getD i Wt.none).host (l.getD i Wt.none).sector := by
  unfold qAt
  exact List.mem_filter.2 ⟨List.mem_range.2 h, decide_eq_true ⟨rfl, rfl⟩⟩

theorem qAt_lt (l : List Wt) (h s : Int) : (qAt l l.length h s).Pairwise (fun a b => a < b) := List.Pairwise.filter _ List.pairwise_lt_range
theorem qAt_nodup (l : List Wt) (h s : Int) : (qAt l l.length h s).Nodup := nodup_filter List.nodup_range

theorem erase_mem {Z : List Nat} (hn : Z.Nodup) (p : Nat) (hp : p < Z.length) (x : Nat) : x ∈ Z.eraseIdx p ↔ x ∈ Z ∧ x ≠ Z.getD p 0 := by
  have e : Z.getD p 0 = Z[p] := by simp [List.getD, hp]
  rw [e]
  have hz := List.getElem_cons_drop hp
  have hs : Z = Z.take p ++ Z[p] :: Z.drop (p + 1) := by rw [hz, List.take_append_drop]
  have hne : ∀ a ∈ Z.take p ++ Z.drop (p + 1), a ≠ Z[p] := by
    rw [hs] at hn
    obtain ⟨h1, h2, h3⟩ := List.nodup_append.1 hn
    intro a ha
    rcases List.mem_append.1 ha with ha | ha
    · exact h3 a ha _ List.mem_cons_self
    · exact fun e => (List.nodup_cons.1 h2).1 (by rw [← e]; exact ha)
  rw [List.eraseIdx_eq_take_drop_succ]
  constructor
  · intro hx
    refine ⟨?_, hne x hx⟩
    rcases List.mem_append.1 hx with hx | hx
    · exact List.mem_of_mem_take hx
    · exact List.mem_of_mem_drop hx
  · rintro ⟨hx, hn2⟩
    rw [hs] at hx
    rcases List.mem_append.1 hx with hx | hx
    · exact List.mem_append.2 (Or.inl hx)
    · rcases List.mem_cons.1 hx with hx | hx
      · exact absurd hx hn2
      · exact List.mem_append.2 (Or.inr hx)

/-- One number is struck from its queue. -/
theorem left_erase (l : List Wt) (i p : Nat) (hi : i < l.length) (hp : p < (qAt l l.length (l.getD i Wt.none).host (l.getD i Wt.none).sector).length) (he : (qAt l l.length (l.getD i Wt.none).host (l.getD i Wt.none).sector).getD p 0 = i) :
    leftW l (upd (qAt l l.length) (l.getD i Wt.none).host (l.getD i Wt.none).sector ((qAt l l.length (l.getD i Wt.none).host (l.getD i Wt.none).sector).eraseIdx p)) = l.eraseIdx i := by
  rw [← but_one l i hi]
  unfold leftW keptQ
  congr 1
  apply List.filter_congr
  intro j hj
  have hj := List.mem_range.1 hj
  apply decide_eq_decide.2
  by_cases e : (l.getD j Wt.none).host = (l.getD i Wt.none).host ∧ (l.getD j Wt.none).sector = (l.getD i Wt.none).sector
  · rw [e.1, e.2, upd_same, erase_mem (qAt_nodup _ _ _) p hp, he]
    have hm := mem_qAt hj
    rw [e.1, e.2] at hm
    exact ⟨fun h => h.2, fun h => ⟨hm, h⟩⟩
  · rw [upd_other _ _ e]
    exact ⟨fun _ e' => e (by rw [e']; exact ⟨rfl, rfl⟩), fun _ => mem_qAt hj⟩

theorem qOk_erase (l : List Wt) (h s : Int) (p : Nat) : QOk l (upd (qAt l l.length) h s ((qAt l l.length h s).eraseIdx p)) :=
  (qOk_at l).erase h s _ (fun x hx => List.mem_of_mem_eraseIdx hx) (fun _ => List.Pairwise.sublist (List.eraseIdx_sublist _ _) (qAt_nodup l h s))

/-- The first of a queue. -/
theorem first_q (l : List Wt) (i : Nat) (hi : i < l.length) : (qAt l l.length (l.getD i Wt.none).host (l.getD i Wt.none).sector).getD 0 0 = i ↔ ∀ j, j < i → ¬ ((l.getD j Wt.none).host = (l.getD i Wt.none).host ∧ (l.getD j Wt.none).sector = (l.getD i Wt.none).sector) := by
  have hm := mem_qAt hi
  have hlt := qAt_lt l (l.getD i Wt.none).host (l.getD i Wt.none).sector
  have hmem : ∀ x, x ∈ qAt l l.length (l.getD i Wt.none).host (l.getD i Wt.none).sector ↔ x < l.length ∧ (l.getD x Wt.none).host = (l.getD i Wt.none).host ∧ (l.getD x Wt.none).sector = (l.getD i Wt.none).sector := fun x =>
    ⟨fun h => qAt_mem h, fun h => by have := mem_qAt h.1; rw [h.2.1, h.2.2] at this; exact this⟩
  generalize qAt l l.length (l.getD i Wt.none).host (l.getD i Wt.none).sector = Z at *
  match Z, hm, hlt, hmem with
  | z :: r, hm, hlt, hmem =>
    have hmin : ∀ x ∈ z :: r, z ≤ x := fun x hx => by
      rcases List.mem_cons.1 hx with h | h
      · omega
      · exact Nat.le_of_lt ((List.pairwise_cons.1 hlt).1 x h)
    show z = i ↔ _
    constructor
    · rintro rfl j hj hs
      have := hmin j ((hmem j).2 ⟨by omega, hs⟩)
      omega
    · intro h
      have h1 := hmin i hm
      have h2 := (hmem z).1 (by simp)
      rcases Nat.lt_or_ge z i with h3 | h3
      · exact absurd h2.2 (h z h3)
      · omega

/-- The queues without those of host x to the first k sectors. -/
def qBut (Q : Int → Int → List Nat) (x : Int) (k : Nat) (h s : Int) : List Nat := if h = x ∧ s < (k : Int) then [] else Q h s

theorem qBut_succ (Q : Int → Int → List Nat) (x : Int) (k : Nat) (h s : Int) (h0 : OkK h s) : qBut Q x (k + 1) h s = upd (qBut Q x k) x (k : Int) [] h s := by
  unfold qBut upd
  by_cases e : h = x ∧ s = (k : Int)
  · rw [if_pos e, if_pos ⟨e.1, by omega⟩]
  · rw [if_neg e]
    show (if h = x ∧ s < ((k + 1 : Nat) : Int) then [] else Q h s) = (if h = x ∧ s < (k : Int) then [] else Q h s)
    by_cases e2 : h = x ∧ s < (k : Int)
    · rw [if_pos e2, if_pos ⟨e2.1, by omega⟩]
    · rw [if_neg e2, if_neg (fun q => e ⟨q.1, by have := q.2; have : ¬ s < (k : Int) := fun z => e2 ⟨q.1, z⟩; omega⟩)]

theorem qOk_but (l : List Wt) (x : Int) (k : Nat) : QOk l (qBut (qAt l l.length) x k) := by
  refine ⟨fun h s hk i hi => ?_, fun h s hk => ?_⟩
  · unfold qBut at hi
    split at hi
    · simp at hi
    · exact qAt_mem hi
  · unfold qBut
    split
    · exact List.nodup_nil
    · exact qAt_nodup l h s

/-- All of one host's are struck. -/
theorem left_but (l : List Wt) (x : Int) (n : Nat) (hs : ∀ j, j < l.length → (l.getD j Wt.none).sector < (n : Int)) : leftW l (qBut (qAt l l.length) x n) = others l x := by
  have e : keptQ l (qBut (qAt l l.length) x n) = (List.range l.length).filter (fun i => decide ((l.getD i Wt.none).host ≠ x)) := by
    unfold keptQ
    apply List.filter_congr
    intro j hj
    have hj := List.mem_range.1 hj
    apply decide_eq_decide.2
    unfold qBut
    by_cases e : (l.getD j Wt.none).host = x
    · rw [if_pos ⟨e, hs j hj⟩]
      exact ⟨fun h => absurd h (by simp), fun h => absurd e h⟩
    · rw [if_neg (fun q => e q.1)]
      exact ⟨fun _ => e, fun _ => mem_qAt hj⟩
  unfold leftW others
  rw [e]
  conv => rhs; rw [← range_getD l]
  rw [List.filter_map]
  congr 1

end Go.Proofs.Ytacdnhohkeifpaa.Mem

namespace Go.Proofs.Ytacdnhohkeifpaa.Mem
open Go.RowKit
set_option linter.unusedVariables false

set_option maxRecDepth 100000 in
set_option maxHeartbeats 2000000 in
theorem copyDisk (w : World) (v : Value) (D : Dk) (h : DkR w v D) (h1 : D.sec.length ≤ 1048576) (h2 : D.ep.length ≤ 1048576) (h3 : D.pe.length ≤ 1048576) :
    Calls Try.prog 34 #[v] w fun e w' => ∃ v', e = .returned v' ∧ DkO w' w.heap.size v' D ∧ Below w.heap.size w w' := by
  obtain ⟨a1, c1, a2, c2, a3, c3, rfl, s1, s2, s3⟩ := h
  have HS1 := hid (strs_sl s1)
  have HS2 := hid (ints_sl s2)
  have HS3 := hid (wts_sl s3)
  clear s1 s2 s3
  go_enter Try.func34, Try.ntmps34
  go_wp2
  obtain ⟨wc, hwc, ec, A0, R0, B0⟩ := two_new w [.slice a1 D.sec.length c1, .slice a2 D.ep.length c2, .slice a3 D.pe.length c3] [.slice none 0 0, .slice none 0 0, .slice none 0 0] 28 28
  simp only [hwc]
  clear hwc
  have k0 := A0.c 0 rfl
  have k1 := A0.c 1 rfl
  have k2 := A0.c 2 rfl
  have HB := hid B0
  have hn : w.heap.size + 1 ≤ wc.heap.size := by omega
  have hcp : CpRest wc w.heap.size wc.drew := ⟨(Below.refl _ wc).drew, fun j hj => by
    match j, hj with
    | 0, _ => exact ⟨_, R0.c 0 rfl⟩
    | 1, _ => exact ⟨_, R0.c 1 rfl⟩
    | 2, _ => exact ⟨_, R0.c 2 rfl⟩, fun j _ => R0.f j⟩
  have Q0 := hid (show wc.drew.cell? ⟨w.heap.size, 0, none⟩ = some (.slice a1 D.sec.length c1) ∧ wc.drew.cell? ⟨w.heap.size, 1, none⟩ = some (.slice a2 D.ep.length c2) ∧ wc.drew.cell? ⟨w.heap.size, 2, none⟩ = some (.slice a3 D.pe.length c3) ∧ CpRest wc w.heap.size wc.drew from ⟨k0, k1, k2, hcp⟩)
  clear A0 R0 B0 hcp k0 k1 k2
  go_region_held_law (fun w' => w'.cell? ⟨w.heap.size, 0, none⟩ = some (.slice a1 D.sec.length c1) ∧ w'.cell? ⟨w.heap.size, 1, none⟩ = some (.slice a2 D.ep.length c2) ∧ w'.cell? ⟨w.heap.size, 2, none⟩ = some (.slice a3 D.pe.length c3) ∧ CpRest wc w.heap.size w')
    (first | with_reducible exact Q0.out | with_reducible exact Q3.out | with_reducible exact Q2.out | with_reducible exact Q1.out | (with_reducible refine cp_alloc_drew hn ?_ _; with_reducible assumption) | (with_reducible refine cp_alloc hn ?_ _; with_reducible assumption) | (with_reducible refine cp_set (cp_set (cp_set ?_ 0 _) 1 _) 2 _; with_reducible assumption))
    (first
      | (refine step_app_empty 24 9 (.string ByteArray.empty) 1 16 Try.underlying24 info9' rfl (by decide) (by decide) rfl (.const (.slice none 0 0)) (.tmp 4) rfl _ rfl a1 D.sec.length c1 (sCells D.sec) rfl (by simp [sCells]) (cp_sl HS1.out HB.out rfl (by with_reducible assumption)) (sCells_one _) h1 ?_; intro v1 w1 r1 b1 z1 y1; replace r1 := r1.mono (cp_size (wc := wc) (n := w.heap.size) (x0 := .slice a1 D.sec.length c1) (x1 := .slice a2 D.ep.length c2) (x2 := .slice a3 D.pe.length c3) (by with_reducible assumption)); obtain ⟨p1, d1, e1, _⟩ := r1.wr; subst e1; have Q1 := hid (cp_below (wc := wc) (n := w.heap.size) (x0 := .slice a1 D.sec.length c1) (x1 := .slice a2 D.ep.length c2) (x2 := .slice a3 D.pe.length c3) hn b1 (by with_reducible assumption)); have R1 := hid r1; have Z1 := hid z1; have Y1 := hid y1; clear r1 b1 z1 y1)
      | (refine step_app_empty 26 44 Wt.none.val 4 40 Try.underlying26 infoW rfl (by decide) (by decide) rfl (.const (.slice none 0 0)) (.tmp 10) rfl _ rfl a3 D.pe.length c3 (wCells D.pe) rfl (wCells_length _) (cp_sl HS3.out HB.out rfl (by with_reducible assumption)) (wCells_one _) h3 ?_; intro v3 w3 r3 b3 z3 y3; replace r3 := r3.mono (cp_size (wc := wc) (n := w.heap.size) (x0 := .slice a1 D.sec.length c1) (x1 := .slice a2 D.ep.length c2) (x2 := .slice a3 D.pe.length c3) (by with_reducible assumption)); obtain ⟨p3, d3, e3, _⟩ := r3.wr; subst e3; have Q3 := hid (cp_below (wc := wc) (n := w.heap.size) (x0 := .slice a1 D.sec.length c1) (x1 := .slice a2 D.ep.length c2) (x2 := .slice a3 D.pe.length c3) hn b3 (by with_reducible assumption)); have T23 := hid (show Below w2.heap.size w2 w3 from (by first | with_reducible exact b3 | with_reducible exact below_a1 b3 | with_reducible exact below_a2 b3)); have R1'' := hid (R1'.out.below T23.out); have R2' := hid (R2.out.below T23.out); have S23 := hid (apart_fresh Z2.out Y2.out z3 y3 (by first | with_reducible exact Nat.le_refl _ | with_reducible exact Nat.le_of_lt (lt_alloc _ _) | with_reducible exact Nat.le_of_lt (Nat.lt_trans (lt_alloc _ _) (lt_alloc _ _)))); have S13 := hid (apart_fresh Z1.out Y1.out z3 y3 (Nat.le_trans T12.out.size (by first | with_reducible exact Nat.le_refl _ | with_reducible exact Nat.le_of_lt (lt_alloc _ _) | with_reducible exact Nat.le_of_lt (Nat.lt_trans (lt_alloc _ _) (lt_alloc _ _))))); obtain ⟨u0, g0⟩ := Q3.out.2.2.2.s 0 (by decide); obtain ⟨u1, g1⟩ := Q3.out.2.2.2.s 1 (by decide); obtain ⟨u2, g2⟩ := Q3.out.2.2.2.s 2 (by decide); have f0 := Q3.out.2.2.2.f 0 (by decide); have f1 := Q3.out.2.2.2.f 1 (by decide); have f2 := Q3.out.2.2.2.f 2 (by decide); have R3 := hid r3; have Z3 := hid z3; have Y3 := hid y3; clear r3 b3 z3 y3)
      | (refine step_app_empty 25 3 (.int .i64 0) 1 8 Try.underlying25 info3' rfl (by decide) (by decide) rfl (.const (.slice none 0 0)) (.tmp 7) rfl _ rfl a2 D.ep.length c2 (iCells D.ep) rfl (by simp [iCells]) (cp_sl HS2.out HB.out rfl (by with_reducible assumption)) (iCells_one _) h2 ?_; intro v2 w2 r2 b2 z2 y2; replace r2 := r2.mono (cp_size (wc := wc) (n := w.heap.size) (x0 := .slice a1 D.sec.length c1) (x1 := .slice a2 D.ep.length c2) (x2 := .slice a3 D.pe.length c3) (by with_reducible assumption)); obtain ⟨p2, d2, e2, _⟩ := r2.wr; subst e2; have Q2 := hid (cp_below (wc := wc) (n := w.heap.size) (x0 := .slice a1 D.sec.length c1) (x1 := .slice a2 D.ep.length c2) (x2 := .slice a3 D.pe.length c3) hn b2 (by with_reducible assumption)); have T12 := hid (show Below w1.heap.size w1 w2 from (by first | with_reducible exact b2 | with_reducible exact below_a1 b2 | with_reducible exact below_a2 b2)); have R1' := hid (R1.out.below T12.out); have S12 := hid (apart_fresh Z1.out Y1.out z2 y2 (by first | with_reducible exact Nat.le_refl _ | with_reducible exact Nat.le_of_lt (lt_alloc _ _) | with_reducible exact Nat.le_of_lt (Nat.lt_trans (lt_alloc _ _) (lt_alloc _ _)))); have R2 := hid r2; have Z2 := hid z2; have Y2 := hid y2; clear r2 b2 z2 y2))
  all_goals clear Q0
  all_goals (go_wp2; refine bodyPost_ret (results_mid rfl _ _ (w.heap.size + 1) [.slice p1 D.sec.length d1, .slice p2 D.ep.length d2, .slice p3 D.pe.length d3] _ rfl (range3 g0 g1 g2) Try.underlying28 rfl (by kernel_rfl)) rfl ?_; exact ⟨_, rfl, copy_end ec HB.out Q3.out.2.2.2.bel R1''.out R2'.out R3.out S12.out S13.out S23.out⟩)

end Go.Proofs.Ytacdnhohkeifpaa.Mem

namespace Go.Proofs.Ytacdnhohkeifpaa.Mem
open Go.RowKit
set_option linter.unusedVariables false

structure ISt (w : World) (a0 a1 a2 : Value) (B nn : Nat) (p0 p1 p2 : Value) (E : Dk) (wk : World) : Prop where
  bel : Below w.heap.size w wk
  ra : Row wk w.heap.size [a0, a1, a2]
  rr : Row wk (w.heap.size + 1) [.slice none 0 0, .slice none 0 0, .slice none 0 0]
  rn : Row wk nn [p0, p1, p2]
  o : DkO wk B (.agg #[p0, p1, p2]) E
  lb : w.heap.size + 1 < B
  ln : B ≤ nn
  far : ∀ b, DkB (.agg #[p0, p1, p2]) b → b ≠ nn

theorem ISt.below {w : World} {a0 a1 a2 : Value} {B nn : Nat} {p0 p1 p2 : Value} {E : Dk} {wk w' : World} (h : ISt w a0 a1 a2 B nn p0 p1 p2 E wk) (b : Below wk.heap.size wk w') : ISt w a0 a1 a2 B nn p0 p1 p2 E w' :=
  ⟨h.bel.trans (b.mono h.bel.size), h.ra.below b h.ra.lt, h.rr.below b h.rr.lt, h.rn.below b h.rn.lt, h.o.below b, h.lb, h.ln, h.far⟩

theorem ISt.cells {w : World} {a0 a1 a2 : Value} {B nn : Nat} {p0 p1 p2 : Value} {E : Dk} {wk : World} (h : ISt w a0 a1 a2 B nn p0 p1 p2 E wk) :
    wk.cell? ⟨w.heap.size, 0, none⟩ = some a0 ∧ wk.cell? ⟨w.heap.size, 1, none⟩ = some a1 ∧ wk.cell? ⟨w.heap.size, 2, none⟩ = some a2 ∧
    wk.cell? ⟨w.heap.size + 1, 0, none⟩ = some (.slice none 0 0) ∧ wk.cell? ⟨w.heap.size + 1, 1, none⟩ = some (.slice none 0 0) ∧ wk.cell? ⟨w.heap.size + 1, 2, none⟩ = some (.slice none 0 0) ∧
    wk.frozen? ⟨w.heap.size + 1, 0, none⟩ = false ∧ wk.frozen? ⟨w.heap.size + 1, 1, none⟩ = false ∧ wk.frozen? ⟨w.heap.size + 1, 2, none⟩ = false ∧
    wk.cell? ⟨nn, 0, none⟩ = some p0 ∧ wk.cell? ⟨nn, 1, none⟩ = some p1 ∧ wk.cell? ⟨nn, 2, none⟩ = some p2 ∧ wk.frozen? ⟨nn, 2, none⟩ = false :=
  ⟨h.ra.c 0 rfl, h.ra.c 1 rfl, h.ra.c 2 rfl, h.rr.c 0 rfl, h.rr.c 1 rfl, h.rr.c 2 rfl, h.rr.f 0, h.rr.f 1, h.rr.f 2, h.rn.c 0 rfl, h.rn.c 1 rfl, h.rn.c 2 rfl, h.rn.f 2⟩

/-- The own disk is handed back. -/
theorem ISt.done {w : World} {a0 a1 a2 : Value} {B nn : Nat} {p0 p1 p2 : Value} {E : Dk} {wk : World} (h : ISt w a0 a1 a2 B nn p0 p1 p2 E wk) :
    DkW (((wk.setCell ⟨w.heap.size + 1, 0, none⟩ p0).setCell ⟨w.heap.size + 1, 1, none⟩ p1).setCell ⟨w.heap.size + 1, 2, none⟩ p2) w.heap.size (.agg #[p0, p1, p2]) E ∧
    Below w.heap.size w (((wk.setCell ⟨w.heap.size + 1, 0, none⟩ p0).setCell ⟨w.heap.size + 1, 1, none⟩ p1).setCell ⟨w.heap.size + 1, 2, none⟩ p2) ∧
    Row (((wk.setCell ⟨w.heap.size + 1, 0, none⟩ p0).setCell ⟨w.heap.size + 1, 1, none⟩ p1).setCell ⟨w.heap.size + 1, 2, none⟩ p2) (w.heap.size + 1) [p0, p1, p2] :=
  wrap_end h.lb h.bel h.o (Below.refl _ _) h.rr

theorem ISt.start {w w1 w2 wn : World} {a0 a1 a2 p0 p1 p2 : Value} {E : Dk} (HB : Below w.heap.size w w1) (HA : Row w1 w.heap.size [a0, a1, a2]) (HR : Row w1 (w.heap.size + 1) [.slice none 0 0, .slice none 0 0, .slice none 0 0])
    (O : DkO w2 w1.heap.size (.agg #[p0, p1, p2]) E) (b2 : Below w1.heap.size w1 w2) (N0 : Row wn w2.heap.size [p0, p1, p2]) (bn : Below w2.heap.size w2 wn) : ISt w a0 a1 a2 w1.heap.size w2.heap.size p0 p1 p2 E wn :=
  ⟨(HB.trans (b2.mono HB.size)).trans (bn.mono (Nat.le_trans HB.size b2.size)), (HA.below b2 HA.lt).below bn (HA.below b2 HA.lt).lt, (HR.below b2 HR.lt).below bn (HR.below b2 HR.lt).lt, N0, O.below bn, HR.lt, b2.size, fun b hb => by have := (O.lt hb).2; omega⟩

theorem Row.otherK {S : Nat → Prop} {w w' : World} {g : Nat} {xs : List Value} (h : Row w g xs) (k : Kept S w w') (hg : ¬ S g) : Row w' g xs := h.kept k hg

/-- A sector of the own disk is stored. -/
theorem ISt.setSec {w : World} {a0 a1 a2 : Value} {B nn : Nat} {g n cap i : Nat} {p1 p2 : Value} {E : Dk} {wk : World} (h : ISt w a0 a1 a2 B nn (.slice (some ⟨g, 0, none⟩) n (cap + 1)) p1 p2 E wk) (hi : i < E.sec.length) (t : ByteArray) :
    ISt w a0 a1 a2 B nn (.slice (some ⟨g, 0, none⟩) n (cap + 1)) p1 p2 ⟨E.sec.set i t, E.ep, E.pe⟩ (wk.setCell ⟨g, i, none⟩ (.string t)) := by
  have hg := h.o.lt (b := g) ⟨_, _, _, rfl, Or.inl rfl⟩
  have hf := h.far g ⟨_, _, _, rfl, Or.inl rfl⟩
  have k := kept_set wk g i (.string t)
  have := h.lb
  exact ⟨below_set h.bel g i _ (by omega), h.ra.kept k (by omega), h.rr.kept k (by omega), h.rn.kept k (fun e => hf e.symm), h.o.setSec hi t, h.lb, h.ln, h.far⟩

/-- An epoch of the own disk is stored. -/
theorem ISt.setEp {w : World} {a0 a1 a2 : Value} {B nn : Nat} {g n cap i : Nat} {p0 p2 : Value} {E : Dk} {wk : World} (h : ISt w a0 a1 a2 B nn p0 (.slice (some ⟨g, 0, none⟩) n (cap + 1)) p2 E wk) (hi : i < E.ep.length) (z : Int) :
    ISt w a0 a1 a2 B nn p0 (.slice (some ⟨g, 0, none⟩) n (cap + 1)) p2 ⟨E.sec, E.ep.set i z, E.pe⟩ (wk.setCell ⟨g, i, none⟩ (.int .i64 z)) := by
  have hg := h.o.lt (b := g) ⟨_, _, _, rfl, Or.inr (Or.inl rfl)⟩
  have hf := h.far g ⟨_, _, _, rfl, Or.inr (Or.inl rfl)⟩
  have k := kept_set wk g i (.int .i64 z)
  have := h.lb
  exact ⟨below_set h.bel g i _ (by omega), h.ra.kept k (by omega), h.rr.kept k (by omega), h.rn.kept k (fun e => hf e.symm), h.o.setEp hi z, h.lb, h.ln, h.far⟩

/-- Another list of writes is laid into the own disk. -/
theorem ISt.setPend {w : World} {a0 a1 a2 : Value} {B nn : Nat} {p0 p1 p2 v : Value} {E : Dk} {wk w2 : World} {l : List Wt} (h : ISt w a0 a1 a2 B nn p0 p1 p2 E wk) (b : Below wk.heap.size wk w2) (r : RowO w2 wk.heap.size 44 4 v l.length (wCells l)) :
    ISt w a0 a1 a2 B nn p0 p1 v ⟨E.sec, E.ep, l⟩ (w2.setCell ⟨nn, 2, none⟩ v) := by
  have hn := h.rn.lt
  have hB : B ≤ wk.heap.size := by have := h.ln; omega
  have o2 := h.o.swapped b hB r
  have far : ∀ c, DkB (.agg #[p0, p1, v]) c → c ≠ nn := by
    rintro c ⟨_, _, _, e, hc⟩
    cases e
    rcases hc with hc | hc | hc
    · exact h.far c ⟨_, _, _, rfl, Or.inl hc⟩
    · exact h.far c ⟨_, _, _, rfl, Or.inr (Or.inl hc)⟩
    · have := (r.lt hc).1; omega
  have k := kept_set w2 nn 2 v
  have := h.lb
  have := h.ln
  have h2 := h.below b
  exact ⟨below_set h2.bel nn 2 _ (by omega), h2.ra.kept k (by omega), h2.rr.kept k (by omega), by simpa using h2.rn.set 2 v, o2.kept k (fun c hc => far c hc), h.lb, h.ln, far⟩

/-- A write is appended to the own disk's. -/
theorem ISt.app {w : World} {a0 a1 a2 : Value} {B nn : Nat} {p0 p1 p2 v : Value} {E : Dk} {wk wa w2 : World} {x : Wt} (h : ISt w a0 a1 a2 B nn p0 p1 p2 E wk) (b : Below wk.heap.size wk wa) (k : Kept (fun b => rb p2 = some b) wa w2)
    (r : RowO w2 B 44 4 v (E.pe.length + 1) (wCells E.pe ++ x.cells)) (hi : rb v = none ∨ rb v = rb p2 ∨ (rb v = some wa.heap.size ∧ wa.heap.size < w2.heap.size)) :
    ISt w a0 a1 a2 B nn p0 p1 v ⟨E.sec, E.ep, E.pe ++ [x]⟩ (w2.setCell ⟨nn, 2, none⟩ v) := by
  have ha := h.below b
  have o2 := h.o.more1 b k r hi
  have hn := h.rn.lt
  have hsz := b.size
  have far : ∀ c, DkB (.agg #[p0, p1, v]) c → c ≠ nn := by
    rintro c ⟨_, _, _, e, hc⟩
    cases e
    rcases hc with hc | hc | hc
    · exact h.far c ⟨_, _, _, rfl, Or.inl hc⟩
    · exact h.far c ⟨_, _, _, rfl, Or.inr (Or.inl hc)⟩
    · rcases hi with e | e | e
      · rw [e] at hc; cases hc
      · rw [e] at hc; exact h.far c ⟨_, _, _, rfl, Or.inr (Or.inr hc)⟩
      · rw [e.1] at hc; cases hc; omega
  have p2B : ∀ c, rb p2 = some c → B ≤ c := fun c hc => (h.o.lt ⟨_, _, _, rfl, Or.inr (Or.inr hc)⟩).1
  have p2n : ¬ rb p2 = some nn := fun e => h.far nn ⟨_, _, _, rfl, Or.inr (Or.inr e)⟩ rfl
  have k2 := kept_set w2 nn 2 v
  have := h.lb
  have := h.ln
  have n2 := ha.rn.kept k p2n
  refine ⟨below_set (ha.bel.trans (k.below ha.bel.size (fun c hc e => by have := p2B c e; omega))) nn 2 _ (by omega), (ha.ra.kept k (fun e => by have := p2B _ e; omega)).kept k2 (by omega), (ha.rr.kept k (fun e => by have := p2B _ e; omega)).kept k2 (by omega), by simpa using n2.set 2 v, o2.kept k2 (fun c hc => far c hc), h.lb, h.ln, far⟩

end Go.Proofs.Ytacdnhohkeifpaa.Mem

namespace Go.Proofs.Ytacdnhohkeifpaa.Mem
open Go.RowKit
set_option linter.unusedVariables false

theorem QM.congr {w : World} {B b n : Nat} {Q Q' : Int → Int → List Nat} {D : DataW Value} {V : Int → Int → Value} (q : QM w B b n Q D V) (e : ∀ h s, OkK h s → Q h s = Q' h s) : QM w B b n Q' D V :=
  ⟨q.own, q.lt, fun h s hk => by rw [← e h s hk]; exact q.has h s hk, q.at_, fun h s hk => by rw [← e h s hk]; exact q.row h s hk, q.apart, q.only⟩

theorem wts_of' {w : World} {a1 a2 a3 : Option Addr} {n1 n2 n3 c1 c2 c3 : Nat} {D : Dk} (h : DkR w (.agg #[.slice a1 n1 c1, .slice a2 n2 c2, .slice a3 n3 c3]) D) : Wts w a3 D.pe ∧ Ints w a2 D.ep := by
  obtain ⟨_, _, _, _, _, _, e, _, s2, s3⟩ := h
  cases e
  exact ⟨s3, s2⟩

theorem ISt.epCell {w : World} {a0 a1 a2 : Value} {B nn : Nat} {p0 : Value} {p1 p2 : Value} {E : Dk} {wk : World} (h : ISt w a0 a1 a2 B nn p0 p1 p2 E wk) {i : Nat} (hi : i < E.ep.length) :
    ∃ g c, p1 = .slice (some ⟨g, 0, none⟩) E.ep.length (c + 1) ∧ wk.cell? ⟨g, i, none⟩ = some (.int .i64 (E.ep.getD i 0)) ∧ wk.frozen? ⟨g, i, none⟩ = false := by
  have ho := h.o
  obtain ⟨_, _, _, ev, _, r2, _⟩ := ho
  cases ev
  obtain ⟨g, c, e⟩ := r2.form (by omega)
  subst e
  obtain ⟨aa, cp, e1, hw⟩ := r2.wr
  cases e1
  obtain ⟨b, off, e2, _, hc2, hf2⟩ := hw i (by omega)
  cases e2
  rw [Nat.zero_add] at hc2 hf2
  exact ⟨g, c, rfl, hc2.trans (congrArg some (iCells_at _ i hi)), hf2⟩

set_option maxRecDepth 100000 in
set_option maxHeartbeats 4000000 in
theorem implFence (w : World) (v : Value) (D : Dk) (x : Int) (h : DkR w v D) (hd : D.Held) (hs : D.Small 1048576) :
    Calls Try.prog 19 #[v, .int .i64 x] w fun e w' => ∃ v', e = .returned (.tuple #[v', .bool (D.fenceA x).2]) ∧ DkW w' w.heap.size v' (D.fenceA x).1 ∧ Below w.heap.size w w' := by
  have HH := hid h
  have HD := hid hd
  have HS := hid hs
  obtain ⟨a1, c1, a2, c2, a3, c3, rfl, _, _, _⟩ := h
  clear hd hs
  obtain ⟨wb, hwb, ez, A0, R0, B0⟩ := two_new w [.slice a1 D.sec.length c1, .slice a2 D.ep.length c2, .slice a3 D.pe.length c3] [.slice none 0 0, .slice none 0 0, .slice none 0 0] 28 28
  have k0 := A0.c 0 rfl
  have k1 := A0.c 1 rfl
  have k2 := A0.c 2 rfl
  go_enter Try.func19, Try.ntmps19
  go_wp2_with fail
  refine (implDiskOk wb _ D (HH.out.below B0) HD.out).mono ?_
  rintro e w1 ⟨rfl, b1⟩
  have HA := hid (A0.below b1 A0.lt)
  have HR := hid (R0.below b1 R0.lt)
  have HB := hid (B0.trans (b1.mono B0.size))
  clear A0 R0 B0 b1 hwb ez k0 k1 k2
  have m0 := HR.out.c 0 rfl
  have m1 := HR.out.c 1 rfl
  have m2 := HR.out.c 2 rfl
  have f0 := HR.out.f 0
  have f1 := HR.out.f 1
  have f2 := HR.out.f 2
  by_cases hr : ¬ D.right = true
  · have HP : Hid (D.fenceA x = (Dk.nil, false)) := if_neg hr
    have hr' : D.right = false := by simpa using hr
    clear hr
    have E := hid (wrap_bad HB.out HR.out)
    go_wp2
    refine bodyPost_ret (results_row2 rfl _ _ (w.heap.size + 1) [.slice none 0 0, .slice none 0 0, .slice none 0 0] _ rfl E.out.2.2 Try.underlying28 rfl (by kernel_rfl)) rfl ?_
    rw [HP.out]
    exact ⟨_, rfl, E.out.1, E.out.2.1⟩
  replace hr := Classical.not_not.mp hr
  have HP : Hid (D.fenceA x = D.fence x) := if_pos hr
  have HT := hid (Dk.of_right hr)
  have k0 := HA.out.c 0 rfl
  have k1 := HA.out.c 1 rfl
  have k2 := HA.out.c 2 rfl
  go_wp2_with fail
  refine (copyDisk w1 _ D (HH.out.below HB.out) HS.out.c1 HS.out.c2 HS.out.c3).mono ?_
  rintro e w2 ⟨v2, rfl, O2, b2⟩
  have HO2 := hid O2
  obtain ⟨u1, u2, u3, rfl, r1, r2, r3, _, _⟩ := O2
  obtain ⟨p1, q1, e1, _⟩ := r1.wr
  obtain ⟨p2, q2, e2, _⟩ := r2.wr
  obtain ⟨p3, q3, e3, _⟩ := r3.wr
  subst e1; subst e2; subst e3
  clear r1 r2 r3 m0 m1 m2 f0 f1 f2 k0 k1 k2
  obtain ⟨wn, hwn, en, N0, Bn⟩ := one_new w2 [.slice p1 D.sec.length q1, .slice p2 D.ep.length q2, .slice p3 D.pe.length q3] 28
  have I := hid (ISt.start HB.out HA.out HR.out HO2.out b2 N0 Bn)
  have HDn := hid (HH.out.below I.out.bel)
  clear HO2 b2 N0 Bn en HA HR HB
  obtain ⟨k0, k1, k2, m0, m1, m2, f0, f1, f2, n0, n1, n2, n3⟩ := I.out.cells
  have HFd := hid (show D.fence x = if (0 ≤ x ∧ x < 3) ∧ D.ep.getD x.toNat 0 < 100000 then (⟨D.sec, D.ep.set x.toNat (D.ep.getD x.toNat 0 + 1), others D.pe x⟩, true) else (D, false) from rfl)
  go_wp2_with fail
  refine (isHost x wn).mono ?_
  rintro e wm ⟨rfl, hw⟩
  subst hw
  by_cases g1 : ¬ (0 ≤ x ∧ x < 3)
  · have g1' := decide_eq_false g1
    have HP1 := hid (HP.out.trans (HFd.out.trans (if_neg (fun q => g1 q.1))))
    have E := hid I.out.done
    clear g1
    go_wp2
    refine bodyPost_ret (results_row2 rfl _ _ (w.heap.size + 1) [.slice p1 D.sec.length q1, .slice p2 D.ep.length q2, .slice p3 D.pe.length q3] _ rfl E.out.2.2 Try.underlying28 rfl (by kernel_rfl)) rfl ?_
    rw [HP1.out]
    exact ⟨_, rfl, E.out.1, E.out.2.1⟩
  replace g1 := Classical.not_not.mp g1
  have g1' := decide_eq_true g1
  have HG1 := hid g1
  obtain ⟨n, rfl⟩ : ∃ n : Nat, x = (n : Int) := Int.eq_ofNat_of_zero_le g1.1
  have hn3 : (n : Int) < 3 := g1.2
  have hn0 : (0 : Int) ≤ (n : Int) := Int.natCast_nonneg n
  clear g1
  simp only [Int.toNat_natCast] at HFd
  have hnl : n < D.ep.length := by have := HT.out.e3; omega
  have hnI : (n : Int) < (D.ep.length : Int) := by omega
  have hye := HT.out.e n hnl
  obtain ⟨b2, o2, rfl, hc⟩ := (wts_of' HDn.out).2 n hnl
  replace hc : wm.cell? ⟨b2, o2 + n, none⟩ = some (.int .i64 (D.ep.getD n 0)) := hc
  obtain ⟨gg, cc, ef, hcu, hfu⟩ := I.out.epCell (i := n) hnl
  cases ef
  generalize hy : D.ep.getD n 0 = y at *
  have HY := hid hy
  clear hy
  by_cases g2 : y = 100000
  · have HP1 := hid (HP.out.trans (HFd.out.trans (if_neg (fun q => by have := q.2; omega))))
    have E := hid I.out.done
    subst g2
    clear hcu hfu
    go_wp2
    refine bodyPost_ret (results_row2 rfl _ _ (w.heap.size + 1) [.slice p1 D.sec.length q1, .slice (some ⟨gg, 0, none⟩) D.ep.length (cc + 1), .slice p3 D.pe.length q3] _ rfl E.out.2.2 Try.underlying28 rfl (by kernel_rfl)) rfl ?_
    rw [HP1.out]
    exact ⟨_, rfl, E.out.1, E.out.2.1⟩
  have HP1 := hid (HP.out.trans (HFd.out.trans (if_pos ⟨HG1.out, by omega⟩)))
  have I5 := hid (I.out.setEp (i := n) hnl (y + 1))
  obtain ⟨w5, hw5⟩ : ∃ w5, wm.setCell ⟨gg, n, none⟩ (.int .i64 (y + 1)) = w5 := ⟨_, rfl⟩
  rw [hw5] at I5
  have HD5 := hid (HH.out.below I5.out.bel)
  have l2 := I5.out.ra.c 2 rfl
  have l0 := I5.out.ra.c 0 rfl
  have hy1 : y ≤ 100000 := by omega
  have hy0 : 1 ≤ y := by omega
  go_wp2_with fail
  refine (queuesOf w5 a3 c3 D.pe (wts_of' HD5.out).1 HT.out.p40 HT.out.okK).mono ?_
  rintro e w6 ⟨rfl, ⟨nq, M, V, hnq, q⟩, b6⟩
  have HQ6 : Hid (∃ M V, QM w6 (w5.heap.size + 1) w5.heap.size nq (qBut (qAt D.pe D.pe.length) n 0) M V) := ⟨M, V, q.congr (fun h s hk => (if_neg (fun z => by have := z.2; have := hk.2.1; omega)).symm)⟩
  have HB6 := hid b6
  have hq6 := hid q.own.lt
  have I6 := hid (I5.out.below b6)
  have hsl : (D.sec.length : Int) ≤ 40 := by have := HT.out.n2; omega
  clear q b6 hw5 hwn hcu hfu hc l0 l2 k0 k1 k2 m0 m1 m2 f0 f1 f2 n0 n1 n2 n3 I
  obtain ⟨k0, k1, k2, m0, m1, m2, f0, f1, f2, n0, n1, n2, n3⟩ := I6.out.cells
  go_wp2
  clear k0 k1 k2 m0 m1 m2 f0 f1 f2 n0 n1 n2 n3
  go_loopw [40] (fun i wr => ∃ k : Nat, k ≤ D.sec.length ∧ i = .int .i64 (k : Int) ∧ Hid (∃ M V, QM wr (w5.heap.size + 1) w5.heap.size nq (qBut (qAt D.pe D.pe.length) n k) M V) ∧ Hid (Below w5.heap.size w5 wr)) (fun i _ => D.sec.length - (intOf i).toNat)
  case atStart => exact ⟨0, Nat.zero_le _, rfl, HQ6.out, HB6.out⟩
  case round =>
    obtain ⟨k, hk, rfl, HQr, HBr⟩ := hrel
    by_cases hlt : k < D.sec.length
    · obtain ⟨Mr, Vr, qr⟩ := HQr.out
      have hok : OkK (n : Int) (k : Int) := ⟨⟨hn0, hn3⟩, Int.natCast_nonneg k, by omega⟩
      obtain ⟨w7, hr7, q7, k7⟩ := qr.drop (w2 := wr) hok (Kept.refl _ _) 0
      have hd : ∀ ty, (Builtin.delete_ #[66, 69] ty #[.map (some w5.heap.size), .agg #[.int .i64 (n : Int), .int .i64 (k : Int)]]).run Try.prog wr = .ok (.tuple #[]) w7 := fun ty => hr7
      have HQ7 := hid (q7.congr (fun h s hk' => (qBut_succ (qAt D.pe D.pe.length) n k h s hk').symm))
      have HK7 := hid k7
      clear qr q7 k7 hr7 hok
      go_wp2
      exact ⟨⟨k + 1, by omega, by go_num, ⟨_, _, HQ7.out⟩, HBr.out.trans (HK7.out.below HBr.out.size (fun g hg e => by omega))⟩, by simp [intOf]; omega⟩
    obtain rfl : k = D.sec.length := by omega
    have I7 := hid (I5.out.below HBr.out)
    have HD7 := hid (HH.out.below I7.out.bel)
    have k2 := I7.out.ra.c 2 rfl
    obtain ⟨Mr, Vr, qr⟩ := HQr.out
    have HQR := hid qr
    clear qr
    go_wp2_with fail
    refine (left wr (w5.heap.size + 1) w5.heap.size nq _ Mr Vr HQR.out a3 c3 D.pe (wts_of' HD7.out).1 HT.out.p40 HT.out.okK (qOk_but D.pe n D.sec.length)).mono ?_
    rintro e w8 ⟨v8, rfl, r8, b8⟩
    rw [left_but D.pe n D.sec.length (fun j hj => (HT.out.p j hj).2.2.2.1)] at r8
    obtain ⟨p8, c8, e8, _⟩ := r8.wr
    subst e8
    have I9 := hid (I7.out.setPend b8 r8)
    have I8 := hid (I7.out.below b8)
    obtain ⟨w9, hw9⟩ : ∃ w9, w8.setCell ⟨w2.heap.size, 2, none⟩ (.slice p8 (others D.pe n).length c8) = w9 := ⟨_, rfl⟩
    rw [hw9] at I9
    have E := hid I9.out.done
    clear r8 b8 k2
    have t2 := I8.out.rn.c 2 rfl
    have t3 := I8.out.rn.f 2
    obtain ⟨k0, k1, k2, m0, m1, m2, f0, f1, f2, j0, j1, j2, j3⟩ := I9.out.cells
    go_wp2
    refine bodyPost_ret (results_row2 rfl _ _ (w.heap.size + 1) [.slice p1 D.sec.length q1, .slice (some ⟨gg, 0, none⟩) D.ep.length (cc + 1), .slice p8 (others D.pe n).length c8] _ rfl E.out.2.2 Try.underlying28 rfl (by kernel_rfl)) rfl ?_
    rw [HP1.out]
    exact ⟨_, rfl, by simpa using E.out.1, E.out.2.1⟩

end Go.Proofs.Ytacdnhohkeifpaa.Mem

namespace Go.Proofs.Ytacdnhohkeifpaa.Mem
open Go.RowKit
set_option linter.unusedVariables false

/-- The first reason. -/
def Dk.refuse (D : Dk) (x ep s : Int) (ts : List ByteArray) : Int := if ((0 ≤ x ∧ x < 3) ∧ 0 ≤ s ∧ s < (D.sec.length : Int)) ∧ (∀ j, j < ts.length → ((ts.getD j ByteArray.empty).size : Int) ≤ 700) then (if D.ep.getD x.toNat 0 = ep then 0 else 2) else 1

set_option maxRecDepth 100000 in
set_option maxHeartbeats 2000000 in
theorem refusal (w : World) (v : Value) (D : Dk) (x ep s : Int) (a : Option Addr) (cap : Nat) (ts : List ByteArray) (h : DkR w v D) (h3 : D.ep.length = 3) (T : Strs w a ts) (hl : ts.length ≤ maxLen) :
    Calls Try.prog 35 #[v, .int .i64 x, .int .i64 ep, .int .i64 s, .slice a ts.length cap] w fun e w' => e = .returned (.int .i64 (D.refuse x ep s ts)) ∧ Below w.heap.size w w' := by
  have HH := hid h
  have HT := hid T
  obtain ⟨a1, c1, a2, c2, a3, c3, rfl, _, s2, _⟩ := h
  have HS2 := hid s2
  clear T s2
  have hl' : ts.length ≤ 9223372036854775807 := hl
  have hp : D.refuse x ep s ts = if ((0 ≤ x ∧ x < 3) ∧ 0 ≤ s ∧ s < (D.sec.length : Int)) ∧ (∀ j, j < ts.length → ((ts.getD j ByteArray.empty).size : Int) ≤ 700) then (if D.ep.getD x.toNat 0 = ep then 0 else 2) else 1 := rfl
  generalize D.refuse x ep s ts = P at *
  have HP := hid hp
  have H3 := hid h3
  clear hp hl h3
  obtain ⟨wb, hwb, ez, A0, B0⟩ := one_new w [.slice a1 D.sec.length c1, .slice a2 D.ep.length c2, .slice a3 D.pe.length c3] 28
  have HA := hid A0
  have HB := hid B0
  have k0 := A0.c 0 rfl
  have k1 := A0.c 1 rfl
  have k2 := A0.c 2 rfl
  clear A0 B0 ez
  go_enter Try.func35, Try.ntmps35
  go_wp2_with fail
  refine (isHost x wb).mono ?_
  rintro e w0 ⟨rfl, hw⟩
  subst hw
  by_cases g1 : ¬ (0 ≤ x ∧ x < 3)
  · have g1' := decide_eq_false g1
    have HP1 := hid (HP.out.trans (if_neg (fun q => g1 q.1.1)))
    clear g1
    go_wp2
    go_ret
    exact ⟨by rw [HP1.out]; rfl, HB.out⟩
  replace g1 := Classical.not_not.mp g1
  have g1' := decide_eq_true g1
  have HG1 := hid g1
  obtain ⟨n, rfl⟩ : ∃ n : Nat, x = (n : Int) := Int.eq_ofNat_of_zero_le g1.1
  have hn3 : (n : Int) < 3 := g1.2
  clear g1
  go_wp2_with fail
  refine (isSector w0 _ _ _ a1 D.sec.length c1 rfl s).mono ?_
  rintro e w1 ⟨rfl, b1⟩
  have HA1 := hid (HA.out.below b1 HA.out.lt)
  have HB1 := hid (HB.out.trans (b1.mono HB.out.size))
  clear HA HB b1 k0 k1 k2 g1'
  have k0 := HA1.out.c 0 rfl
  have k1 := HA1.out.c 1 rfl
  have k2 := HA1.out.c 2 rfl
  by_cases g2 : ¬ (0 ≤ s ∧ s < (D.sec.length : Int))
  · have g2' := decide_eq_false g2
    have HP1 := hid (HP.out.trans (if_neg (fun q => g2 q.1.2)))
    clear g2
    go_wp2
    go_ret
    exact ⟨by rw [HP1.out]; rfl, HB1.out⟩
  replace g2 := Classical.not_not.mp g2
  have g2' := decide_eq_true g2
  have HG2 := hid g2
  clear g2
  go_wp2
  go_loop [24] (fun i => ∃ k : Nat, k ≤ ts.length ∧ i = .int .i64 (k : Int) ∧ Hid (∀ j, j < k → ((ts.getD j ByteArray.empty).size : Int) ≤ 700)) (fun i => ts.length - (intOf i).toNat)
  case atStart => exact ⟨0, Nat.zero_le _, rfl, fun j hj => by omega⟩
  case round =>
    obtain ⟨k, hk, rfl, HJ⟩ := hrel
    by_cases hlt : k < ts.length
    · obtain ⟨b, off, rfl, hc⟩ := (HT.out.below HB1.out) k hlt
      replace hc : w1.cell? ⟨b, off + k, none⟩ = some (.string (ts.getD k ByteArray.empty)) := hc
      generalize hx : ts.getD k ByteArray.empty = y at hc
      have HX := hid hx
      clear hx
      go_wp2_with fail
      refine (fitsSector y w1).mono ?_
      rintro e w1' ⟨rfl, hw⟩
      subst hw
      by_cases hn : (y.size : Int) ≤ 700
      · have hn' := decide_eq_true hn
        go_wp2
        exact ⟨⟨k + 1, by omega, by go_num, fun j hj => by
          by_cases h : j = k
          · subst h; rw [HX.out]; exact hn
          · exact HJ.out j (by omega)⟩, by simp [intOf]; omega⟩
      · have hn' := decide_eq_false hn
        have HP1 := hid (HP.out.trans (if_neg (fun q => by have := q.2 k hlt; rw [HX.out] at this; exact hn this)))
        clear hn
        go_wp2
        go_ret
        exact ⟨by rw [HP1.out]; rfl, HB1.out⟩
    obtain rfl : k = ts.length := by omega
    have HP1 := hid (HP.out.trans (if_pos ⟨⟨HG1.out, HG2.out⟩, HJ.out⟩))
    have hnl : n < D.ep.length := by have := H3.out; omega
    obtain ⟨b2, o2, rfl, hc⟩ := (HS2.out.below HB1.out) n hnl
    replace hc : w1.cell? ⟨b2, o2 + n, none⟩ = some (.int .i64 (D.ep.getD n 0)) := hc
    generalize hy : D.ep.getD n 0 = y at hc
    have HY := hid hy
    clear hy
    have q0 : (0 : Int) ≤ (n : Int) := Int.natCast_nonneg n
    by_cases g4 : ¬ ep = y
    · have HP2 := hid (HP1.out.trans (if_neg (by rw [Int.toNat_natCast, HY.out]; exact fun q => g4 q.symm)))
      go_wp2
      go_ret
      exact ⟨by rw [HP2.out]; rfl, HB1.out⟩
    replace g4 := Classical.not_not.mp g4
    subst g4
    have HP2 := hid (HP1.out.trans (if_pos (by rw [Int.toNat_natCast, HY.out])))
    go_wp2
    go_ret
    exact ⟨by rw [HP2.out]; rfl, HB1.out⟩

end Go.Proofs.Ytacdnhohkeifpaa.Mem

namespace Go.Proofs.Ytacdnhohkeifpaa.Mem
open Go.RowKit
set_option linter.unusedVariables false

theorem put_refuse (D : Dk) (x ep s : Int) (t : ByteArray) : D.put x ep s t = if D.refuse x ep s [t] = 0 then (if (D.pe.length : Int) < 40 then (⟨D.sec, D.ep, D.pe ++ [⟨x, ep, s, t⟩]⟩, 0) else (D, 3)) else (D, D.refuse x ep s [t]) := by
  have e : (∀ j, j < [t].length → (([t].getD j ByteArray.empty).size : Int) ≤ 700) ↔ (t.size : Int) ≤ 700 := ⟨fun h => h 0 (by simp), fun h j hj => by
    have : j = 0 := by simp at hj; omega
    subst this
    exact h⟩
  unfold Dk.put Dk.refuse
  simp only [e]
  by_cases h1 : ((0 ≤ x ∧ x < 3) ∧ 0 ≤ s ∧ s < (D.sec.length : Int)) ∧ (t.size : Int) ≤ 700
  · rw [if_pos h1, if_pos h1]
    by_cases h2 : D.ep.getD x.toNat 0 = ep
    · simp only [if_pos h2]
      rfl
    · simp only [if_neg h2]
      rfl
  · rw [if_neg h1, if_neg h1]
    rfl

set_option maxRecDepth 100000 in
set_option maxHeartbeats 4000000 in
theorem implPut (w : World) (v : Value) (D : Dk) (x ep s : Int) (t : ByteArray) (h : DkR w v D) (hd : D.Held) (hs : D.Small 1048576) (ht : t.size ≤ maxLen) :
    Calls Try.prog 9 #[v, .int .i64 x, .int .i64 ep, .int .i64 s, .string t] w fun e w' => ∃ v', e = .returned (.tuple #[v', .int .i64 (D.putA x ep s t).2]) ∧ DkW w' w.heap.size v' (D.putA x ep s t).1 ∧ Below w.heap.size w w' := by
  have HH := hid h
  have HD := hid hd
  have HS := hid hs
  obtain ⟨a1, c1, a2, c2, a3, c3, rfl, _, _, _⟩ := h
  clear hd hs
  obtain ⟨wb, hwb, ez, A0, R0, B0⟩ := two_new w [.slice a1 D.sec.length c1, .slice a2 D.ep.length c2, .slice a3 D.pe.length c3] [.slice none 0 0, .slice none 0 0, .slice none 0 0] 28 28
  have k0 := A0.c 0 rfl
  have k1 := A0.c 1 rfl
  have k2 := A0.c 2 rfl
  go_enter Try.func9, Try.ntmps9
  go_wp2_with fail
  refine (implDiskOk wb _ D (HH.out.below B0) HD.out).mono ?_
  rintro e w1 ⟨rfl, b1⟩
  have HA := hid (A0.below b1 A0.lt)
  have HR := hid (R0.below b1 R0.lt)
  have HB := hid (B0.trans (b1.mono B0.size))
  clear A0 R0 B0 b1 hwb ez k0 k1 k2
  have m0 := HR.out.c 0 rfl
  have m1 := HR.out.c 1 rfl
  have m2 := HR.out.c 2 rfl
  have f0 := HR.out.f 0
  have f1 := HR.out.f 1
  have f2 := HR.out.f 2
  by_cases hr : ¬ D.right = true
  · have HP : Hid (D.putA x ep s t = (Dk.nil, 1)) := if_neg hr
    have hr' : D.right = false := by simpa using hr
    clear hr
    have E := hid (wrap_bad HB.out HR.out)
    go_wp2
    refine bodyPost_ret (results_row2 rfl _ _ (w.heap.size + 1) [.slice none 0 0, .slice none 0 0, .slice none 0 0] _ rfl E.out.2.2 Try.underlying28 rfl (by kernel_rfl)) rfl ?_
    rw [HP.out]
    exact ⟨_, rfl, E.out.1, E.out.2.1⟩
  replace hr := Classical.not_not.mp hr
  have HP : Hid (D.putA x ep s t = D.put x ep s t) := if_pos hr
  have HT := hid (Dk.of_right hr)
  have k0 := HA.out.c 0 rfl
  have k1 := HA.out.c 1 rfl
  have k2 := HA.out.c 2 rfl
  go_wp2_with fail
  refine (copyDisk w1 _ D (HH.out.below HB.out) HS.out.c1 HS.out.c2 HS.out.c3).mono ?_
  rintro e w2 ⟨v2, rfl, O2, b2⟩
  have HO2 := hid O2
  obtain ⟨u1, u2, u3, rfl, r1, r2, r3, _, _⟩ := O2
  obtain ⟨p1, q1, e1, _⟩ := r1.wr
  obtain ⟨p2, q2, e2, _⟩ := r2.wr
  obtain ⟨p3, q3, e3, _⟩ := r3.wr
  subst e1; subst e2; subst e3
  clear r1 r2 r3 m0 m1 m2 f0 f1 f2 k0 k1 k2
  obtain ⟨wn, hwn, en, N0, Bn⟩ := one_new w2 [.slice p1 D.sec.length q1, .slice p2 D.ep.length q2, .slice p3 D.pe.length q3] 28
  have I := hid (ISt.start HB.out HA.out HR.out HO2.out b2 N0 Bn)
  have HDn := hid (HH.out.below I.out.bel)
  clear HO2 b2 N0 Bn en HA HR HB
  obtain ⟨k0, k1, k2, m0, m1, m2, f0, f1, f2, n0, n1, n2, n3⟩ := I.out.cells
  obtain ⟨ws, hws, es, S0, Bs⟩ := one_new wn [.string t] 9
  have HBs := hid Bs
  have HSt : Hid (Strs ws (some ⟨wn.heap.size, 0, none⟩) [t]) := fun i hi => by
    have : i = 0 := by simp at hi; omega
    subst this
    exact ⟨_, _, rfl, S0.c 0 rfl⟩
  have IS := hid (I.out.below Bs)
  clear S0 Bs es
  go_wp2_with fail
  refine (refusal ws _ D x ep s (some ⟨wn.heap.size, 0, none⟩) 1 [t] (HDn.out.below HBs.out) HT.out.e3 HSt.out (by simp [maxLen])).mono ?_
  rintro e w3 ⟨rfl, b3⟩
  have HQ := hid (put_refuse D x ep s t)
  generalize D.refuse x ep s [t] = c at *
  have I3 := hid (IS.out.below b3)
  clear hws hwn IS HBs HSt HDn I b3 k0 k1 k2 m0 m1 m2 f0 f1 f2 n0 n1 n2 n3
  obtain ⟨k0, k1, k2, m0, m1, m2, f0, f1, f2, n0, n1, n2, n3⟩ := I3.out.cells
  by_cases g1 : ¬ c = 0
  · have HP1 := hid (HP.out.trans (HQ.out.trans (if_neg g1)))
    have E := hid I3.out.done
    go_wp2
    refine bodyPost_ret (results_row2 rfl _ _ (w.heap.size + 1) [.slice p1 D.sec.length q1, .slice p2 D.ep.length q2, .slice p3 D.pe.length q3] _ rfl E.out.2.2 Try.underlying28 rfl (by kernel_rfl)) rfl ?_
    rw [HP1.out]
    exact ⟨_, rfl, E.out.1, E.out.2.1⟩
  replace g1 := Classical.not_not.mp g1
  have HP1 := hid (HP.out.trans (HQ.out.trans (if_pos g1)))
  subst g1
  by_cases g2 : (D.pe.length : Int) = 40
  · have HP2 := hid (HP1.out.trans (if_neg (by omega)))
    have hlen : D.pe.length = 40 := by omega
    have E' := I3.out.done
    rw [hlen] at k2 n2 E'
    have E := hid E'
    clear g2 hlen E'
    go_wp2
    refine bodyPost_ret (results_row2 rfl _ _ (w.heap.size + 1) [.slice p1 D.sec.length q1, .slice p2 D.ep.length q2, .slice p3 40 q3] _ rfl E.out.2.2 Try.underlying28 rfl (by kernel_rfl)) rfl ?_
    rw [HP2.out]
    exact ⟨_, rfl, E.out.1, E.out.2.1⟩
  have hp40 := HT.out.p40
  have HP2 := hid (HP1.out.trans (if_pos (by omega)))
  have HR3 : Hid (∀ o, RowO (w3.alloc o) w1.heap.size 44 4 (.slice p3 D.pe.length q3) D.pe.length (wCells D.pe)) := fun o => by
    obtain ⟨_, _, _, ev, _, _, r3, _, _⟩ := I3.out.o
    cases ev
    exact r3.below ((Below.refl _ _).alloc (Nat.le_refl _) o)
  have hpl : D.pe.length + 1 ≤ 1048576 := by omega
  have hne1 : ¬ w2.heap.size = w.heap.size + 1 := by have := I3.out.lb; have := I3.out.ln; omega
  have hne2 : ¬ w.heap.size + 1 = w2.heap.size := by omega
  have HBa : Hid (∀ o, w1.heap.size ≤ (w3.alloc o).heap.size) := fun o => by have := lt_alloc w3 o; have := I3.out.ln; have := I3.out.rn.lt; omega
  go_wp2_with (at_builtin; refine wpList_app 26 44 Wt.none.val 4 40 Try.underlying26 infoW rfl (by decide) (by decide) _ rfl (.tmp 37) (.tmp 43) rfl w1.heap.size _ D.pe.length (wCells D.pe) rfl (HR3.out _) ⟨w3.heap.size, 0, none⟩ 1 1 (Wt.mk x ep s t).cells rfl rfl (sl_lit w3 (Wt.mk x ep s t).cells 44 4 rfl) (by intro u hu; exact wCells_one [Wt.mk x ep s t] u (by simpa [wCells] using hu)) hpl (HBa.out _) ?_; intro v3' w4 r3' kk hi; obtain ⟨y3, d3, e3, _⟩ := r3'.wr; subst e3; have HN0 := hid (show ¬ rb (.slice p3 D.pe.length q3) = some w.heap.size from fun e => by have := (I3.out.o.lt ⟨_, _, _, rfl, Or.inr (Or.inr e)⟩).1; have := I3.out.lb; omega); have HN1 := hid (show ¬ rb (.slice p3 D.pe.length q3) = some (w.heap.size + 1) from fun e => by have := (I3.out.o.lt ⟨_, _, _, rfl, Or.inr (Or.inr e)⟩).1; have := I3.out.lb; omega); have HN2 := hid (show ¬ rb (.slice p3 D.pe.length q3) = some w2.heap.size from fun e => I3.out.far _ ⟨_, _, _, rfl, Or.inr (Or.inr e)⟩ rfl); have RN := ((I3.out.rn.alloc _).kept kk HN2.out); have RR := ((I3.out.rr.alloc _).kept kk HN1.out); have HI4 := hid (I3.out.app ((Below.refl _ _).alloc (Nat.le_refl _) _) kk r3' hi); clear k0 k1 k2 m0 m1 m2 f0 f1 f2 n0 n1 n2 n3; have n0 := RN.c 0 rfl; have n1 := RN.c 1 rfl; have n2 := RN.c 2 rfl; have n3 := RN.f 2; have m0 := RR.c 0 rfl; have m1 := RR.c 1 rfl; have m2 := RR.c 2 rfl; have f0 := RR.f 0; have f1 := RR.f 1; have f2 := RR.f 2; clear r3' kk hi RN RR)
  have E := HI4.out.done
  refine bodyPost_ret (results_row2 rfl _ _ (w.heap.size + 1) [.slice p1 D.sec.length q1, .slice p2 D.ep.length q2, .slice y3 (D.pe.length + 1) d3] _ rfl E.2.2 Try.underlying28 rfl (by kernel_rfl)) rfl ?_
  rw [HP2.out]
  exact ⟨_, rfl, E.1, E.2.1⟩

end Go.Proofs.Ytacdnhohkeifpaa.Mem

namespace Go.Proofs.Ytacdnhohkeifpaa.Mem
open Go.RowKit
set_option linter.unusedVariables false

theorem getD_set_eq (l : List ByteArray) (i : Nat) (t : ByteArray) (c : Nat) (hc : c < l.length) : (l.set i t).getD c ByteArray.empty = if i = c then t else l.getD c ByteArray.empty := by
  rw [List.getD_eq_getElem?_getD, List.getElem?_set, List.getD_eq_getElem?_getD]
  by_cases e : i = c
  · subst e
    simp [hc]
  · simp [e]

theorem lands_getD (h : Int) (c : Nat) : ∀ (l : List Wt) (s : List ByteArray), (∀ x ∈ l, 0 ≤ x.sector) → c < s.length → (lands s l h).getD c ByteArray.empty = seeL (s.getD c ByteArray.empty) l h (c : Int)
  | [], s, _, _ => rfl
  | x :: r, s, hp, hc => by
    have hx := hp x (by simp)
    have ih := lands_getD h c r (if x.host = h then s.set x.sector.toNat x.text else s) (fun y hy => hp y (by simp [hy])) (by split <;> simpa using hc)
    rw [lands_cons, ih]
    show seeL _ r h (c : Int) = seeL (if x.host = h ∧ x.sector = (c : Int) then x.text else s.getD c ByteArray.empty) r h (c : Int)
    congr 1
    by_cases e1 : x.host = h
    · rw [if_pos e1, getD_set_eq s _ _ c hc]
      by_cases e2 : x.sector.toNat = c
      · rw [if_pos e2, if_pos ⟨e1, by omega⟩]
      · rw [if_neg e2, if_neg (fun q => e2 (by omega))]
    · rw [if_neg e1, if_neg (fun q => e1 q.1)]

/-- The sectors of which the first k were flushed. -/
structure SecK (D : Dk) (x : Int) (k : Nat) (l : List ByteArray) : Prop where
  len : l.length = D.sec.length
  done : ∀ c, c < k → l.getD c ByteArray.empty = D.see x (c : Int) D.pe.length
  todo : ∀ c, k ≤ c → l.getD c ByteArray.empty = D.sec.getD c ByteArray.empty

theorem SecK.start (D : Dk) (x : Int) : SecK D x 0 D.sec := ⟨rfl, fun c h => by omega, fun c _ => rfl⟩

theorem SecK.all {D : Dk} {x : Int} {l : List ByteArray} (h : SecK D x D.sec.length l) (hp : ∀ y ∈ D.pe, 0 ≤ y.sector) : l = lands D.sec D.pe x := by
  apply List.ext_getElem (by rw [h.len, lands_length])
  intro c h1 h2
  have hc : c < D.sec.length := by rw [← h.len]; exact h1
  have e1 := h.done c hc
  have e2 := lands_getD x c D.pe D.sec hp hc
  have e3 := see_all D x (c : Int)
  rw [Int.toNat_natCast] at e3
  rw [← e3, ← e1] at e2
  rw [List.getD_eq_getElem?_getD, List.getElem?_eq_getElem h2, List.getD_eq_getElem?_getD, List.getElem?_eq_getElem h1] at e2
  exact e2.symm

/-- Sector k behind the first j of its queue. -/
def secAt (D : Dk) (Z : List Nat) (k j : Nat) : ByteArray := if j = 0 then D.sec.getD k ByteArray.empty else (D.pe.getD (Z.getD (j - 1) 0) Wt.none).text

theorem secAt_zero (D : Dk) (Z : List Nat) (k : Nat) : secAt D Z k 0 = D.sec.getD k ByteArray.empty := if_pos rfl
theorem secAt_succ (D : Dk) (Z : List Nat) (k j : Nat) : secAt D Z k (j + 1) = (D.pe.getD (Z.getD j 0) Wt.none).text := by unfold secAt; rw [if_neg (by omega)]; rfl
theorem secAt_all (D : Dk) (x : Int) (k : Nat) : secAt D (qAt D.pe D.pe.length x (k : Int)) k (qAt D.pe D.pe.length x (k : Int)).length = D.see x (k : Int) D.pe.length := by
  rw [see_q]
  generalize qAt D.pe D.pe.length x (k : Int) = Z
  by_cases hZ : Z = []
  · subst hZ
    rfl
  · obtain ⟨Z', i, rfl⟩ : ∃ Z' i, Z = Z' ++ [i] := ⟨Z.dropLast, Z.getLast hZ, (List.dropLast_concat_getLast hZ).symm⟩
    rw [List.length_append]
    show secAt D (Z' ++ [i]) k (Z'.length + 1) = _
    rw [secAt_succ]
    simp

/-- Sector k is stored while it is flushed. -/
structure SecJ (D : Dk) (x : Int) (k : Nat) (t : ByteArray) (l : List ByteArray) : Prop where
  len : l.length = D.sec.length
  done : ∀ c, c < k → l.getD c ByteArray.empty = D.see x (c : Int) D.pe.length
  here : l.getD k ByteArray.empty = t
  todo : ∀ c, k < c → l.getD c ByteArray.empty = D.sec.getD c ByteArray.empty

theorem SecK.begin_ {D : Dk} {x : Int} {k : Nat} {l : List ByteArray} (h : SecK D x k l) : SecJ D x k (D.sec.getD k ByteArray.empty) l := ⟨h.len, h.done, h.todo k (Nat.le_refl _), fun c hc => h.todo c (by omega)⟩
theorem SecJ.end_ {D : Dk} {x : Int} {k : Nat} {l : List ByteArray} (h : SecJ D x k (D.see x (k : Int) D.pe.length) l) : SecK D x (k + 1) l :=
  ⟨h.len, fun c hc => by by_cases e : c = k; · rw [e]; exact h.here
                         · exact h.done c (by omega), fun c hc => h.todo c (by omega)⟩
theorem SecJ.set {D : Dk} {x : Int} {k : Nat} {t t' : ByteArray} {l : List ByteArray} (h : SecJ D x k t l) (hk : k < D.sec.length) : SecJ D x k t' (l.set k t') := by
  have hl := h.len
  have none_ : ∀ c, ¬ c < l.length → (l.set k t').getD c ByteArray.empty = l.getD c ByteArray.empty := fun c hc => by
    rw [List.getD_eq_getElem?_getD, List.getElem?_eq_none (by simp; omega), List.getD_eq_getElem?_getD, List.getElem?_eq_none (by omega)]
  have ne : ∀ c, c ≠ k → (l.set k t').getD c ByteArray.empty = l.getD c ByteArray.empty := fun c hc => by
    by_cases e : c < l.length
    · rw [getD_set_eq l k t' c e, if_neg (fun q => hc q.symm)]
    · exact none_ c e
  refine ⟨by rw [List.length_set]; exact h.len, fun c hc => by rw [ne c (by omega)]; exact h.done c hc, ?_, fun c hc => by rw [ne c (by omega)]; exact h.todo c hc⟩
  rw [getD_set_eq l k t' k (by omega), if_pos rfl]

/-- The queues while sector k is flushed: j of its queue are gone. -/
theorem qBut_here (Q : Int → Int → List Nat) (x : Int) (k : Nat) : qBut Q x k x (k : Int) = Q x (k : Int) := if_neg (fun q => by have := q.2; omega)

end Go.Proofs.Ytacdnhohkeifpaa.Mem

namespace Go.Proofs.Ytacdnhohkeifpaa.Mem
open Go.RowKit Go.Sort
set_option linter.unusedVariables false

set_option maxRecDepth 100000 in
set_option maxHeartbeats 2000000 in
theorem takeS (w : World) (B b n : Nat) (Q : Int → Int → List Nat) (D : DataW Value) (V : Int → Int → Value) (q : QM w B b n Q D V) (h s : Int) (hk : OkK h s) (i : Nat) (hi : i < (Q h s).length) (hn : n < 1048576) (hi40 : i < 1048576) :
    Calls Try.prog 44 #[.map (some b), .agg #[.int .i64 h, .int .i64 s], .int .i64 (i : Int)] w fun e w' => e = .returned (.tuple #[]) ∧ (∃ D' V', QM w' B b (n + 1) (upd Q h s ((Q h s).eraseIdx i)) D' V' ∧ ∀ h' s' y, rb (V' h' s') = some y → rb (V h' s') = some y) ∧ Kept (fun g => g = b ∨ rb (V h s) = some g) w w' := by
  obtain ⟨wb, hwb, ez, A0, B0⟩ := one_new w [.int .i64 h, .int .i64 s] 69
  have qb := q.below B0
  have hlk : (Instr.lookup 66 (.map (some b)) (.agg #[.int .i64 h, .int .i64 s]) false).run Try.prog wb = .ok (V h s) wb := qb.look hk
  have hrow := qb.row h s hk
  obtain ⟨g, c, hv⟩ := hrow.form (by omega)
  have HV := hid hv
  have hgl : g < w.heap.size := ((q.row h s hk).lt (b := g) (by rw [hv]; rfl)).2
  rw [hv] at hlk hrow
  have HQ := hid qb
  have HR := hid hrow
  have HA := hid A0
  have HB0 := hid B0
  have hcap := hid hrow.cap
  have k0 := A0.c 0 rfl
  have k1 := A0.c 1 rfl
  have Hlt := hid (show (zOf (Q h s)).length = (Q h s).length from zOf_length _)
  have hq40 : (Q h s).length ≤ 9223372036854775807 := by have := hcap.out.1; have := hcap.out.2; unfold maxLen at this; omega
  clear q qb hv hrow A0 B0 ez
  generalize hZ : Q h s = Z at *
  have HZ := hid hZ
  clear hZ
  go_enter Try.func44, Try.ntmps44
  go_wp2_with fail
  have hc := Any.slices_Delete_int Try.lays223 g 0 (c + 1) i (i + 1) (zOf Z) wb (holds_row HR.out) (by rw [zOf_length]; exact hcap.out.1) (by have := hcap.out.2; unfold maxLen at this; exact this) (by omega) (by rw [zOf_length]; omega)
  rw [zOf_length, show (i + 1 - i) = 1 from by omega] at hc
  obtain ⟨m, hm⟩ : ∃ m, Z.length - 1 = m := ⟨_, rfl⟩
  rw [hm] at hc
  refine hc.mono ?_
  rintro e w2 ⟨rfl, p, hw2⟩
  have r2 := row_deleted (q := p) HR.out hi
  rw [show (i + 1 - i) = 1 from by omega, ← hw2, hm] at r2
  have k2 : Kept (fun y => y = g) wb w2 := by rw [hw2]; exact kept_putRow wb g p _
  have hlE : (Z.eraseIdx i).length = m := by rw [List.length_eraseIdx_of_lt hi]; exact hm
  have kv : Kept (fun y => rb (V h s) = some y) wb w2 := k2.mono (fun y _ e => by rw [HV.out, e]; rfl)
  have R2 := HA.out.kept k2 (by omega)
  have hgB := (HR.out.lt (b := g) rfl).1
  have HK2 := hid ((Kept.of_below (S := fun _ => False) HB0.out).trans k2)
  clear hc hw2 k0 k1 hlk hwb
  have k0 := R2.c 0 rfl
  have k1 := R2.c 1 rfl
  have HKV := hid kv
  have HR2 := hid r2
  clear kv k2 r2 R2
  by_cases hm0 : m = 0
  · subst hm0
    have hnil : Z.eraseIdx i = [] := List.eq_nil_of_length_eq_zero hlE
    obtain ⟨w3, hr3, q3, k3⟩ := HQ.out.drop hk HKV.out 0
    have hd : ∀ ty, (Builtin.delete_ #[66, 69] ty #[.map (some b), .agg #[.int .i64 h, .int .i64 s]]).run Try.prog w2 = .ok (.tuple #[]) w3 := fun ty => hr3
    have HQ3 := hid q3
    have HK3 := hid k3
    clear q3 k3 hr3
    go_wp2
    refine bodyPost_ret (results_none rfl _ _ _) rfl ?_
    rw [hnil]
    exact ⟨rfl, ⟨_, _, HQ3.out.more, fun h' s' y hy => by
      by_cases e : h' = h ∧ s' = s
      · obtain ⟨rfl, rfl⟩ := e; rw [upd_same] at hy; simp [rb, nilv] at hy
      · rw [upd_other _ _ e] at hy; exact hy⟩, (HK2.out.trans HK3.out).mono (fun y _ e => by rcases e with (e | e) | e; exact e.elim; exact Or.inr (by rw [HV.out, e]; rfl); exact Or.inl e)⟩
  · have hne : Z.eraseIdx i ≠ [] := fun e => hm0 (by rw [← hlE, e]; rfl)
    obtain ⟨w3, hr3, q3, k3⟩ := HQ.out.store hk (by unfold maxLen; omega) HKV.out (.slice (some ⟨g, 0, none⟩) m (c + 1)) (Z.eraseIdx i) hne HR2.out (Or.inr (Or.inl (by rw [HV.out]; rfl)))
    replace hr3 : (Instr.mapUpdate 66 (.map (some b)) (.agg #[.int .i64 h, .int .i64 s]) (.slice (some ⟨g, 0, none⟩) m (c + 1))).run Try.prog w2 = .ok () w3 := hr3
    have HQ3 := hid q3
    have HK3 := hid k3
    clear q3 k3
    go_wp2
    go_end0
    exact ⟨rfl, ⟨_, _, HQ3.out, fun h' s' y hy => by
      by_cases e : h' = h ∧ s' = s
      · obtain ⟨rfl, rfl⟩ := e; rw [upd_same] at hy; rw [HV.out]; exact hy
      · rw [upd_other _ _ e] at hy; exact hy⟩, (HK2.out.trans HK3.out).mono (fun y _ e => by rcases e with (e | e) | e; exact e.elim; exact Or.inr (by rw [HV.out, e]; rfl); exact Or.inl e)⟩

end Go.Proofs.Ytacdnhohkeifpaa.Mem

namespace Go.Proofs.Ytacdnhohkeifpaa.Mem
open Go.RowKit
set_option linter.unusedVariables false

theorem flush_refuse (D : Dk) (h1 : 1 ≤ D.sec.length) (x ep : Int) : D.flush x ep = if D.refuse x ep 0 [] = 0 then (⟨lands D.sec D.pe x, D.ep, others D.pe x⟩, 0) else (D, D.refuse x ep 0 []) := by
  have e : (((0 ≤ x ∧ x < 3) ∧ (0 : Int) ≤ 0 ∧ (0 : Int) < (D.sec.length : Int)) ∧ ∀ j, j < ([] : List ByteArray).length → ((([] : List ByteArray).getD j ByteArray.empty).size : Int) ≤ 700) ↔ (0 ≤ x ∧ x < 3) := ⟨fun h => h.1.1, fun h => ⟨⟨h, by omega, by omega⟩, fun j hj => by simp at hj⟩⟩
  unfold Dk.flush Dk.refuse
  simp only [e]
  by_cases g1 : 0 ≤ x ∧ x < 3
  · rw [if_pos g1, if_pos g1]
    by_cases g2 : D.ep.getD x.toNat 0 = ep
    · simp only [if_pos g2, if_true]
    · simp only [if_neg g2]
      rfl
  · rw [if_neg g1, if_neg g1]
    rfl

theorem refuse_host {D : Dk} {x ep s : Int} {ts : List ByteArray} (h : D.refuse x ep s ts = 0) : 0 ≤ x ∧ x < 3 := by
  unfold Dk.refuse at h
  by_cases h1 : ((0 ≤ x ∧ x < 3) ∧ 0 ≤ s ∧ s < (D.sec.length : Int)) ∧ (∀ j, j < ts.length → ((ts.getD j ByteArray.empty).size : Int) ≤ 700)
  · exact h1.1.1
  · rw [if_neg h1] at h; cases h

theorem QM.likeF {w : World} {B b n : Nat} {Q Q' : Int → Int → List Nat} {D : DataW Value} {V : Int → Int → Value} (q : QM w B b n Q D V) (e : ∀ h s, OkK h s → Q h s = Q' h s) : QM w B b n Q' D V :=
  ⟨q.own, q.lt, fun h s hk => by rw [← e h s hk]; exact q.has h s hk, q.at_, fun h s hk => by rw [← e h s hk]; exact q.row h s hk, q.apart, q.only⟩

theorem wts_of {w : World} {a1 a2 a3 : Option Addr} {n1 n2 n3 c1 c2 c3 : Nat} {D : Dk} (h : DkR w (.agg #[.slice a1 n1 c1, .slice a2 n2 c2, .slice a3 n3 c3]) D) : Wts w a3 D.pe := by
  obtain ⟨_, _, _, _, _, _, e, _, _, s3⟩ := h
  cases e
  exact s3

theorem QM.other {w : World} {B b n : Nat} {Q : Int → Int → List Nat} {D : DataW Value} {V : Int → Int → Value} (q : QM w B b n Q D V) (g i : Nat) (v : Value) (hg : g < b) : QM (w.setCell ⟨g, i, none⟩ v) B b n Q D V :=
  q.kept (kept_set w g i v) (by omega) (fun h s g' hk hg' e => by have := ((q.row h s hk).lt hg').1; have := q.lt; omega)

theorem ISt.kept {S : Nat → Prop} {w : World} {a0 a1 a2 : Value} {B nn : Nat} {p0 p1 p2 : Value} {E : Dk} {wk w' : World} (h : ISt w a0 a1 a2 B nn p0 p1 p2 E wk) (k : Kept S wk w') (b : Nat) (hb : nn < b) (hB : ∀ g, DkB (.agg #[p0, p1, p2]) g → g < b) (hS : ∀ g, S g → b ≤ g) : ISt w a0 a1 a2 B nn p0 p1 p2 E w' := by
  have h1 := h.lb
  have h2 := h.ln
  exact ⟨h.bel.trans (k.below h.bel.size (fun g hg hs => by have := hS g hs; omega)), h.ra.kept k (fun hs => by have := hS _ hs; omega), h.rr.kept k (fun hs => by have := hS _ hs; omega), h.rn.kept k (fun hs => by have := hS _ hs; omega),
    h.o.kept k (fun g hg hs => by have := hS g hs; have := hB g hg; omega), h.lb, h.ln, h.far⟩

theorem ISt.secCell {w : World} {a0 a1 a2 : Value} {B nn g n c : Nat} {p1 p2 : Value} {E : Dk} {wk : World} (h : ISt w a0 a1 a2 B nn (.slice (some ⟨g, 0, none⟩) n (c + 1)) p1 p2 E wk) {i : Nat} (hi : i < E.sec.length) :
    (∃ u, wk.cell? ⟨g, i, none⟩ = some u) ∧ wk.frozen? ⟨g, i, none⟩ = false := by
  have ho := h.o
  obtain ⟨_, _, _, ev, r1, _⟩ := ho
  cases ev
  obtain ⟨aa, cp, e1, hw⟩ := r1.wr
  cases e1
  obtain ⟨b, off, e2, _, hc2, hf2⟩ := hw i (by omega)
  cases e2
  rw [Nat.zero_add] at hc2 hf2
  exact ⟨⟨_, hc2⟩, hf2⟩

/-- How long the queue at a key is can be read off the world. -/
theorem look_len (b : Nat) {x s : Int} (hk : OkK x s) : ∃ lk : World → Nat, ∀ (w : World) (B n : Nat) (Q : Int → Int → List Nat) (D : DataW Value) (V : Int → Int → Value), QM w B b n Q D V → lk w = (Q x s).length := by
  refine ⟨fun w => match (Instr.lookup 66 (.map (some b)) (kval x s) false).run Try.prog w with | .ok (.slice _ n _) _ => n | _ => 0, fun w B n Q D V q => ?_⟩
  have h := q.look hk
  obtain ⟨a, c, e, _⟩ := (q.row x s hk).wr
  rw [e] at h
  simp only [h]

set_option maxRecDepth 100000 in
set_option maxHeartbeats 4000000 in
theorem implFlush (w : World) (v : Value) (D : Dk) (x ep : Int) (h : DkR w v D) (hd : D.Held) (hs : D.Small 1048576) :
    Calls Try.prog 14 #[v, .int .i64 x, .int .i64 ep] w fun e w' => ∃ v', e = .returned (.tuple #[v', .int .i64 (D.flushA x ep).2]) ∧ DkW w' w.heap.size v' (D.flushA x ep).1 ∧ Below w.heap.size w w' := by
  have HH := hid h
  have HD := hid hd
  have HS := hid hs
  obtain ⟨a1, c1, a2, c2, a3, c3, rfl, _, _, _⟩ := h
  clear hd hs
  obtain ⟨wb, hwb, ez, A0, R0, B0⟩ := two_new w [.slice a1 D.sec.length c1, .slice a2 D.ep.length c2, .slice a3 D.pe.length c3] [.slice none 0 0, .slice none 0 0, .slice none 0 0] 28 28
  have k0 := A0.c 0 rfl
  have k1 := A0.c 1 rfl
  have k2 := A0.c 2 rfl
  go_enter Try.func14, Try.ntmps14
  go_wp2_with fail
  refine (implDiskOk wb _ D (HH.out.below B0) HD.out).mono ?_
  rintro e w1 ⟨rfl, b1⟩
  have HA := hid (A0.below b1 A0.lt)
  have HR := hid (R0.below b1 R0.lt)
  have HB := hid (B0.trans (b1.mono B0.size))
  clear A0 R0 B0 b1 hwb ez k0 k1 k2
  have m0 := HR.out.c 0 rfl
  have m1 := HR.out.c 1 rfl
  have m2 := HR.out.c 2 rfl
  have f0 := HR.out.f 0
  have f1 := HR.out.f 1
  have f2 := HR.out.f 2
  by_cases hr : ¬ D.right = true
  · have HP : Hid (D.flushA x ep = (Dk.nil, 1)) := if_neg hr
    have hr' : D.right = false := by simpa using hr
    clear hr
    have E := hid (wrap_bad HB.out HR.out)
    go_wp2
    refine bodyPost_ret (results_row2 rfl _ _ (w.heap.size + 1) [.slice none 0 0, .slice none 0 0, .slice none 0 0] _ rfl E.out.2.2 Try.underlying28 rfl (by kernel_rfl)) rfl ?_
    rw [HP.out]
    exact ⟨_, rfl, E.out.1, E.out.2.1⟩
  replace hr := Classical.not_not.mp hr
  have HP : Hid (D.flushA x ep = D.flush x ep) := if_pos hr
  have HT := hid (Dk.of_right hr)
  have k0 := HA.out.c 0 rfl
  have k1 := HA.out.c 1 rfl
  have k2 := HA.out.c 2 rfl
  go_wp2_with fail
  refine (copyDisk w1 _ D (HH.out.below HB.out) HS.out.c1 HS.out.c2 HS.out.c3).mono ?_
  rintro e w2 ⟨v2, rfl, O2, b2⟩
  have HO2 := hid O2
  obtain ⟨u1, u2, u3, rfl, r1, r2, r3, _, _⟩ := O2
  obtain ⟨p1, q1, e1, _⟩ := r1.wr
  obtain ⟨p2, q2, e2, _⟩ := r2.wr
  obtain ⟨p3, q3, e3, _⟩ := r3.wr
  subst e1; subst e2; subst e3
  clear r1 r2 r3 m0 m1 m2 f0 f1 f2 k0 k1 k2
  obtain ⟨wn, hwn, en, N0, Bn⟩ := one_new w2 [.slice p1 D.sec.length q1, .slice p2 D.ep.length q2, .slice p3 D.pe.length q3] 28
  have I := hid (ISt.start HB.out HA.out HR.out HO2.out b2 N0 Bn)
  have HDn := hid (HH.out.below I.out.bel)
  clear HO2 b2 N0 Bn en HA HR HB
  obtain ⟨k0, k1, k2, m0, m1, m2, f0, f1, f2, n0, n1, n2, n3⟩ := I.out.cells
  have HFr := hid (flush_refuse D HT.out.n1 x ep)
  have HRT := hid (refuse_host (D := D) (x := x) (ep := ep) (s := 0) (ts := []))
  go_wp2_with fail
  refine (refusal wn _ D x ep 0 none 0 [] HDn.out HT.out.e3 (fun i hi => by simp at hi) (by simp)).mono ?_
  rintro e w3 ⟨rfl, b3⟩
  generalize D.refuse x ep 0 [] = c at *
  have I3 := hid (I.out.below b3)
  have HD3 := hid (HDn.out.below b3)
  clear hwn HDn I b3 k0 k1 k2 m0 m1 m2 f0 f1 f2 n0 n1 n2 n3
  obtain ⟨k0, k1, k2, m0, m1, m2, f0, f1, f2, n0, n1, n2, n3⟩ := I3.out.cells
  by_cases g1 : ¬ c = 0
  · have HP1 := hid (HP.out.trans (HFr.out.trans (if_neg g1)))
    have E := hid I3.out.done
    go_wp2
    refine bodyPost_ret (results_row2 rfl _ _ (w.heap.size + 1) [.slice p1 D.sec.length q1, .slice p2 D.ep.length q2, .slice p3 D.pe.length q3] _ rfl E.out.2.2 Try.underlying28 rfl (by kernel_rfl)) rfl ?_
    rw [HP1.out]
    exact ⟨_, rfl, E.out.1, E.out.2.1⟩
  replace g1 := Classical.not_not.mp g1
  have HP1 := hid (HP.out.trans (HFr.out.trans (if_pos g1)))
  have HG := hid (HRT.out g1)
  subst g1
  clear HRT HFr
  obtain ⟨gg, cc, ef⟩ : ∃ g c, Value.slice p1 D.sec.length q1 = .slice (some ⟨g, 0, none⟩) D.sec.length (c + 1) := by
    obtain ⟨_, _, _, ev, r1, _⟩ := I3.out.o
    cases ev
    exact r1.form (by have := HT.out.n1; omega)
  cases ef
  have HDB := hid (show ∀ g, DkB (.agg #[.slice (some ⟨gg, 0, none⟩) D.sec.length (cc + 1), .slice p2 D.ep.length q2, .slice p3 D.pe.length q3]) g → g < w3.heap.size from fun g hg => (I3.out.o.lt hg).2)
  have Hnn := hid I3.out.rn.lt
  have hgl : gg < w3.heap.size := HDB.out gg ⟨_, _, _, rfl, Or.inl rfl⟩
  have hsl : (D.sec.length : Int) ≤ 40 := by have := HT.out.n2; omega
  go_wp2_with fail
  refine (queuesOf w3 a3 c3 D.pe (wts_of HD3.out) HT.out.p40 HT.out.okK).mono ?_
  rintro e w4 ⟨rfl, ⟨nq, M, V, hnq, q⟩, b4⟩
  have HQ4 : Hid (∃ nq M V, nq ≤ 40 + 0 * 41 ∧ QM w4 (w3.heap.size + 1) w3.heap.size nq (qBut (qAt D.pe D.pe.length) x 0) M V) := ⟨nq, M, V, by omega, q.likeF (fun h s hk => (if_neg (fun z => by have := z.2; have := hk.2.1; omega)).symm)⟩
  have I4 := hid (I3.out.below b4)
  have hq4 := q.own.lt
  clear q b4 HD3 I3 k0 k1 k2 m0 m1 m2 f0 f1 f2 n0 n1 n2 n3
  have k0 := I4.out.ra.c 0 rfl
  go_wp2
  clear k0
  go_loopw [33] (fun i wr => ∃ (k : Nat) (l : List ByteArray), k ≤ D.sec.length ∧ i = .int .i64 (k : Int) ∧ Hid (SecK D x k l) ∧ Hid (ISt w (.slice a1 D.sec.length c1) (.slice a2 D.ep.length c2) (.slice a3 D.pe.length c3) w1.heap.size w2.heap.size (.slice (some ⟨gg, 0, none⟩) D.sec.length (cc + 1)) (.slice p2 D.ep.length q2) (.slice p3 D.pe.length q3) ⟨l, D.ep, D.pe⟩ wr) ∧ Hid (∃ nq M V, nq ≤ 40 + k * 41 ∧ QM wr (w3.heap.size + 1) w3.heap.size nq (qBut (qAt D.pe D.pe.length) x k) M V)) (fun i _ => D.sec.length - (intOf i).toNat)
  case atStart => exact ⟨0, D.sec, Nat.zero_le _, rfl, SecK.start D x, I4.out, HQ4.out⟩
  case round =>
    obtain ⟨k, l, hk, rfl, HSK, HI, HQ⟩ := hrel
    by_cases hlt : k < D.sec.length
    · have hok : OkK x (k : Int) := ⟨HG.out, Int.natCast_nonneg k, by omega⟩
      have HOK := hid hok
      obtain ⟨lk, hlkl⟩ := look_len w3.heap.size hok
      have HLK := hid hlkl
      clear hlkl
      obtain ⟨wo, hwo⟩ : ∃ wo, wo = wr := ⟨_, rfl⟩
      subst hwo
      obtain ⟨nr, Mr, Vr, hnr, qr⟩ := HQ.out
      obtain ⟨wk, hwk, ek, K0, Bk⟩ := one_new wo [.int .i64 x, .int .i64 (k : Int)] 69
      have IK := hid (HI.out.below Bk)
      have QK := qr.below Bk
      have hZl := qAt_len D.pe D.pe.length x (k : Int)
      have hp40 := HT.out.p40
      obtain ⟨Z, hZ⟩ : ∃ Z, qAt D.pe D.pe.length x (k : Int) = Z := ⟨_, rfl⟩
      rw [hZ] at hZl
      have HZ := hid hZ
      have hZmem := hid (show ∀ i, i ∈ Z → i < D.pe.length from fun i hi => by rw [← hZ] at hi; exact (qAt_mem hi).1)
      have HQK : Hid (∃ nq M V, nq ≤ 40 + k * 41 + 0 ∧ QM wk (w3.heap.size + 1) w3.heap.size nq (upd (qBut (qAt D.pe D.pe.length) x k) x (k : Int) (Z.drop 0)) M V ∧ ∀ h s y, OkK h s → rb (V h s) = some y → y < wo.heap.size) := ⟨nr, Mr, Vr, by omega, QK.likeF (fun h s hk' => by
        by_cases e : h = x ∧ s = (k : Int)
        · rw [e.1, e.2, upd_same, qBut_here, hZ]; rfl
        · rw [upd_other _ _ e]), fun h s y hk' hy => ((qr.row h s hk').lt hy).2⟩
      have HK0 := hid K0
      have hkr : w3.heap.size < wo.heap.size := qr.own.lt
      clear qr QK K0 Bk ek hZ hok HI HQ
      go_wp2
      clear hwk
      go_loopw [39] (fun _ wr => ∃ (j : Nat) (l : List ByteArray), j ≤ Z.length ∧ Hid (SecJ D x k (secAt D Z k j) l) ∧ Hid (ISt w (.slice a1 D.sec.length c1) (.slice a2 D.ep.length c2) (.slice a3 D.pe.length c3) w1.heap.size w2.heap.size (.slice (some ⟨gg, 0, none⟩) D.sec.length (cc + 1)) (.slice p2 D.ep.length q2) (.slice p3 D.pe.length q3) ⟨l, D.ep, D.pe⟩ wr) ∧ Hid (∃ nq M V, nq ≤ 40 + k * 41 + j ∧ QM wr (w3.heap.size + 1) w3.heap.size nq (upd (qBut (qAt D.pe D.pe.length) x k) x (k : Int) (Z.drop j)) M V ∧ ∀ h s y, OkK h s → rb (V h s) = some y → y < wo.heap.size) ∧ Hid (Row wr wo.heap.size [.int .i64 x, .int .i64 (k : Int)])) (fun _ wr => lk wr)
      case atStart => exact ⟨0, l, Nat.zero_le _, by rw [secAt_zero]; exact HSK.out.begin_, IK.out, HQK.out, HK0.out⟩
      case round =>
        obtain ⟨j, l', hj, HSJ, HIy, HQy, HKy⟩ := hrel
        obtain ⟨ny, My, Vy, hny, qy, hVy⟩ := HQy.out
        have z0 := HKy.out.c 0 rfl
        have z1 := HKy.out.c 1 rfl
        have hlk := qy.look HOK.out
        have hrow := qy.row x k HOK.out
        rw [upd_same] at hrow
        have hLL := hid (HLK.out _ _ _ _ _ _ qy)
        rw [upd_same] at hLL
        by_cases hjl : j < Z.length
        · have hdl : (Z.drop j).length = Z.length - j := List.length_drop
          obtain ⟨g, c, hv⟩ := hrow.form (by omega)
          have hc0 := q_cell hrow hv 0 (by omega)
          rw [show (Z.drop j).getD 0 0 = Z.getD j 0 from by simp [List.getD, List.getElem?_drop]] at hc0
          obtain ⟨mm, hmm⟩ : ∃ mm, (Z.drop j).length = mm + 1 := ⟨Z.length - j - 1, by omega⟩
          have hlkd : (Instr.lookup 66 (.map (some w3.heap.size)) (.agg #[.int .i64 x, .int .i64 (k : Int)]) false).run Try.prog wr = .ok (.slice (some ⟨g, 0, none⟩) (mm + 1) (c + 1)) wr := by rw [← hmm, ← hv]; exact hlk
          have hlke : (Instr.lookup 66 (.map (some w3.heap.size)) (.agg #[.int .i64 x, .int .i64 (k : Int)]) false).run Try.prog wr.drew = .ok (.slice (some ⟨g, 0, none⟩) (mm + 1) (c + 1)) wr.drew := by rw [← hmm, ← hv]; exact (qy.below ((Below.refl _ wr).drew)).look HOK.out
          have hzm := hZmem.out (Z.getD j 0) (by rw [List.getD_eq_getElem?_getD, List.getElem?_eq_getElem hjl]; exact List.getElem_mem hjl)
          have hse := hid (secAt_succ D Z k j)
          have hHH := HH.out.below HIy.out.bel
          generalize Z.getD j 0 = zz at *
          have hz1 : (zz : Int) < (D.pe.length : Int) := by omega
          have hz0 : (0 : Int) ≤ (zz : Int) := Int.natCast_nonneg zz
          obtain ⟨b3, o3, ea, _, _, _, x3⟩ := Wts.at_ (wts_of hHH) zz hzm
          subst ea
          generalize (D.pe.getD zz Wt.none).text = tt at *
          obtain ⟨⟨us, hcu⟩, hfu⟩ := HIy.out.secCell (i := k) (by rw [HSJ.out.len]; exact hlt)
          have n0 := HIy.out.rn.c 0 rfl
          have k2 := HIy.out.ra.c 2 rfl
          have hkI : (k : Int) < (D.sec.length : Int) := by omega
          have hk0 : (0 : Int) ≤ (k : Int) := Int.natCast_nonneg k
          have hmb : (mm : Int) ≤ 1000 := by omega
          have HQY := hid qy
          have HVY := hid hVy
          have HRW := hid hrow
          have HLN := hid hmm
          have HDL := hid hdl
          clear hlk hrow hv hHH qy hVy hdl hmm
          go_wp2
          go_region
          have D5 := (Below.refl (wr.setCell ⟨gg, k, none⟩ (.string tt)).heap.size (wr.setCell ⟨gg, k, none⟩ (.string tt))).drew
          have I5 := hid ((HIy.out.setSec (i := k) (by rw [HSJ.out.len]; exact hlt) tt).below D5)
          have Q5 := hid ((HQY.out.other gg k (.string tt) hgl).below D5)
          have KO := HKy.out.other (p := ⟨gg, k, none⟩) (by show wo.heap.size ≠ gg; omega) (.string tt)
          have K5 := hid (KO.below D5 KO.lt)
          clear D5 KO z0 z1 hc0 hlkd hlke x3 hcu hfu n0 k2 HIy HKy HQY
          generalize (wr.setCell ⟨gg, k, none⟩ (.string tt)).drew = w5 at *
          have z0 := K5.out.c 0 rfl
          have z1 := K5.out.c 1 rfl
          have hrw5 := hid (Q5.out.row x k HOK.out)
          go_wp2_with fail
          refine (takeS w5 (w3.heap.size + 1) w3.heap.size ny _ My Vy Q5.out x k HOK.out 0 (by rw [upd_same]; have := HLN.out; omega) (by omega) (by omega)).mono ?_
          rintro e w6 ⟨rfl, ⟨M6, V6, q6, hV6⟩, k6⟩
          have hS6 : ∀ y, (y = w3.heap.size ∨ rb (Vy x k) = some y) → w3.heap.size ≤ y := fun y hy => by
            rcases hy with e | e
            · omega
            · have := (hrw5.out.lt e).1
              omega
          have hS7 : ¬ (wo.heap.size = w3.heap.size ∨ rb (Vy x k) = some wo.heap.size) := fun hy => by
            rcases hy with e | e
            · omega
            · have := HVY.out x k _ HOK.out e
              omega
          have HI6 := hid (I5.out.kept k6 w3.heap.size Hnn.out HDB.out hS6)
          have HK6 := hid (K5.out.kept k6 hS7)
          have q7 : QM w6 (w3.heap.size + 1) w3.heap.size (ny + 1) (upd (qBut (qAt D.pe D.pe.length) x k) x (k : Int) (Z.drop (j + 1))) M6 V6 := q6.likeF (fun h s hk' => by
            by_cases e : h = x ∧ s = (k : Int)
            · rw [e.1, e.2, upd_same, upd_same, upd_same, List.eraseIdx_zero, List.tail_drop]
            · rw [upd_other _ _ e, upd_other _ _ e, upd_other _ _ e])
          have HQ7 := hid q7
          have HV7 := hid (fun h s y hk' hy => HVY.out h s y hk' (hV6 h s y hy))
          clear q6 q7 hV6 k6 z0 z1
          go_wp2
          have hm6 := HLK.out _ _ _ _ _ _ HQ7.out
          rw [upd_same] at hm6
          exact ⟨⟨j + 1, l'.set k tt, by omega, by rw [hse.out]; exact HSJ.out.set hlt, HI6.out, ⟨ny + 1, M6, V6, by omega, HQ7.out, HV7.out⟩, HK6.out⟩, by rw [hm6, hLL.out, List.length_drop, List.length_drop]; omega⟩
        · obtain rfl : j = Z.length := by omega
          have hdn : Z.drop Z.length = [] := List.drop_length
          rw [hdn] at hrow
          obtain ⟨va, vc, hv, _⟩ := hrow.wr
          have hlkd : (Instr.lookup 66 (.map (some w3.heap.size)) (.agg #[.int .i64 x, .int .i64 (k : Int)]) false).run Try.prog wr = .ok (.slice va 0 vc) wr := by rw [show (Value.slice va 0 vc) = Vy x k from hv.symm]; exact hlk
          have HSK2 : Hid (SecK D x (k + 1) l') := by
            have e := secAt_all D x k
            rw [HZ.out] at e
            have h := HSJ.out
            rw [e] at h
            exact h.end_
          have HQ8 : Hid (QM wr (w3.heap.size + 1) w3.heap.size ny (qBut (qAt D.pe D.pe.length) x (k + 1)) My Vy) := qy.likeF (fun h s hk' => by rw [hdn]; exact (qBut_succ (qAt D.pe D.pe.length) x k h s hk').symm)
          clear hlk hrow hv qy hVy
          go_wp2
          exact ⟨⟨k + 1, l', by omega, by go_num, HSK2.out, HIy.out, ⟨ny, My, Vy, by omega, HQ8.out⟩⟩, by simp [intOf]; omega⟩
    · obtain rfl : k = D.sec.length := by omega
      obtain ⟨nr, Mr, Vr, hnr, qr⟩ := HQ.out
      have HQR := hid qr
      have HDr := hid (HH.out.below HI.out.bel)
      have k2 := HI.out.ra.c 2 rfl
      have HLl := hid (HSK.out.all (fun y hy => (HT.out.pm y hy).2.2.1))
      clear qr
      go_wp2_with fail
      refine (left wr (w3.heap.size + 1) w3.heap.size nr _ Mr Vr HQR.out a3 c3 D.pe (wts_of HDr.out) HT.out.p40 HT.out.okK (qOk_but D.pe x D.sec.length)).mono ?_
      rintro e w8 ⟨v8, rfl, r8, b8⟩
      rw [left_but D.pe x D.sec.length (fun j hj => (HT.out.p j hj).2.2.2.1)] at r8
      obtain ⟨p8, c8, e8, _⟩ := r8.wr
      subst e8
      have I9 := hid (HI.out.setPend b8 r8)
      have I8 := hid (HI.out.below b8)
      obtain ⟨w9, hw9⟩ : ∃ w9, w8.setCell ⟨w2.heap.size, 2, none⟩ (.slice p8 (others D.pe x).length c8) = w9 := ⟨_, rfl⟩
      rw [hw9] at I9
      have E := hid I9.out.done
      clear r8 b8 k2
      have t2 := I8.out.rn.c 2 rfl
      have t3 := I8.out.rn.f 2
      obtain ⟨k0, k1, k2, m0, m1, m2, f0, f1, f2, j0, j1, j2, j3⟩ := I9.out.cells
      go_wp2
      refine bodyPost_ret (results_row2 rfl _ _ (w.heap.size + 1) [.slice (some ⟨gg, 0, none⟩) D.sec.length (cc + 1), .slice p2 D.ep.length q2, .slice p8 (others D.pe x).length c8] _ rfl E.out.2.2 Try.underlying28 rfl (by kernel_rfl)) rfl ?_
      rw [HP1.out, ← HLl.out]
      exact ⟨_, rfl, E.out.1, E.out.2.1⟩

end Go.Proofs.Ytacdnhohkeifpaa.Mem

namespace Go.Proofs.Ytacdnhohkeifpaa.Mem
open Go.RowKit
set_option linter.unusedVariables false

theorem qAt_empty (l : List Wt) (h s : Int) : qAt l l.length h s = [] ↔ ¬ ∃ j, j < l.length ∧ (l.getD j Wt.none).host = h ∧ (l.getD j Wt.none).sector = s := by
  unfold qAt
  rw [List.filter_eq_nil_iff]
  constructor
  · rintro hh ⟨j, h1, h2⟩
    exact hh j (by simpa using h1) (decide_eq_true h2)
  · intro hh j hj e
    exact hh ⟨j, by simpa using hj, of_decide_eq_true e⟩

theorem swap_refuse (D : Dk) (x ep s : Int) (old t : ByteArray) : D.swap x ep s old t = if D.refuse x ep s [old, t] = 0 then (if D.sec.getD s.toNat ByteArray.empty = old ∧ qAt D.pe D.pe.length x s = [] then (⟨D.sec.set s.toNat t, D.ep, D.pe⟩, 0) else (D, 4)) else (D, D.refuse x ep s [old, t]) := by
  have e : (∀ j, j < [old, t].length → (([old, t].getD j ByteArray.empty).size : Int) ≤ 700) ↔ (t.size : Int) ≤ 700 ∧ (old.size : Int) ≤ 700 := ⟨fun h => ⟨h 1 (by simp), h 0 (by simp)⟩, fun h j hj => by
    have : j = 0 ∨ j = 1 := by simp at hj; omega
    rcases this with rfl | rfl
    · exact h.2
    · exact h.1⟩
  unfold Dk.swap Dk.refuse
  simp only [e, qAt_empty]
  by_cases h1 : ((0 ≤ x ∧ x < 3) ∧ 0 ≤ s ∧ s < (D.sec.length : Int)) ∧ (t.size : Int) ≤ 700 ∧ (old.size : Int) ≤ 700
  · rw [if_pos h1, if_pos h1]
    by_cases h2 : D.ep.getD x.toNat 0 = ep
    · simp only [if_pos h2, if_true]
    · simp only [if_neg h2]
      rfl
  · rw [if_neg h1, if_neg h1]
    rfl

theorem refuse_there {D : Dk} {x ep s : Int} {ts : List ByteArray} (h : D.refuse x ep s ts = 0) : (0 ≤ x ∧ x < 3) ∧ 0 ≤ s ∧ s < (D.sec.length : Int) := by
  unfold Dk.refuse at h
  by_cases h1 : ((0 ≤ x ∧ x < 3) ∧ 0 ≤ s ∧ s < (D.sec.length : Int)) ∧ (∀ j, j < ts.length → ((ts.getD j ByteArray.empty).size : Int) ≤ 700)
  · exact h1.1
  · rw [if_neg h1] at h; cases h

set_option maxRecDepth 100000 in
set_option maxHeartbeats 4000000 in
theorem implSwap (w : World) (v : Value) (D : Dk) (x ep s : Int) (old t : ByteArray) (h : DkR w v D) (hd : D.Held) (hs : D.Small 1048576) (hold : old.size ≤ maxLen) (ht : t.size ≤ maxLen) :
    Calls Try.prog 21 #[v, .int .i64 x, .int .i64 ep, .int .i64 s, .string old, .string t] w fun e w' => ∃ v', e = .returned (.tuple #[v', .int .i64 (D.swapA x ep s old t).2]) ∧ DkW w' w.heap.size v' (D.swapA x ep s old t).1 ∧ Below w.heap.size w w' := by
  have HH := hid h
  have HD := hid hd
  have HS := hid hs
  obtain ⟨a1, c1, a2, c2, a3, c3, rfl, _, _, _⟩ := h
  clear hd hs
  obtain ⟨wb, hwb, ez, A0, R0, B0⟩ := two_new w [.slice a1 D.sec.length c1, .slice a2 D.ep.length c2, .slice a3 D.pe.length c3] [.slice none 0 0, .slice none 0 0, .slice none 0 0] 28 28
  have k0 := A0.c 0 rfl
  have k1 := A0.c 1 rfl
  have k2 := A0.c 2 rfl
  go_enter Try.func21, Try.ntmps21
  go_wp2_with fail
  refine (implDiskOk wb _ D (HH.out.below B0) HD.out).mono ?_
  rintro e w1 ⟨rfl, b1⟩
  have HA := hid (A0.below b1 A0.lt)
  have HR := hid (R0.below b1 R0.lt)
  have HB := hid (B0.trans (b1.mono B0.size))
  clear A0 R0 B0 b1 hwb ez k0 k1 k2
  have m0 := HR.out.c 0 rfl
  have m1 := HR.out.c 1 rfl
  have m2 := HR.out.c 2 rfl
  have f0 := HR.out.f 0
  have f1 := HR.out.f 1
  have f2 := HR.out.f 2
  by_cases hr : ¬ D.right = true
  · have HP : Hid (D.swapA x ep s old t = (Dk.nil, 1)) := if_neg hr
    have hr' : D.right = false := by simpa using hr
    clear hr
    have E := hid (wrap_bad HB.out HR.out)
    go_wp2
    refine bodyPost_ret (results_row2 rfl _ _ (w.heap.size + 1) [.slice none 0 0, .slice none 0 0, .slice none 0 0] _ rfl E.out.2.2 Try.underlying28 rfl (by kernel_rfl)) rfl ?_
    rw [HP.out]
    exact ⟨_, rfl, E.out.1, E.out.2.1⟩
  replace hr := Classical.not_not.mp hr
  have HP : Hid (D.swapA x ep s old t = D.swap x ep s old t) := if_pos hr
  have HT := hid (Dk.of_right hr)
  have k0 := HA.out.c 0 rfl
  have k1 := HA.out.c 1 rfl
  have k2 := HA.out.c 2 rfl
  go_wp2_with fail
  refine (copyDisk w1 _ D (HH.out.below HB.out) HS.out.c1 HS.out.c2 HS.out.c3).mono ?_
  rintro e w2 ⟨v2, rfl, O2, b2⟩
  have HO2 := hid O2
  obtain ⟨u1, u2, u3, rfl, r1, r2, r3, _, _⟩ := O2
  obtain ⟨p1, q1, e1, _⟩ := r1.wr
  obtain ⟨p2, q2, e2, _⟩ := r2.wr
  obtain ⟨p3, q3, e3, _⟩ := r3.wr
  subst e1; subst e2; subst e3
  clear r1 r2 r3 m0 m1 m2 f0 f1 f2 k0 k1 k2
  obtain ⟨wn, hwn, en, N0, Bn⟩ := one_new w2 [.slice p1 D.sec.length q1, .slice p2 D.ep.length q2, .slice p3 D.pe.length q3] 28
  have I := hid (ISt.start HB.out HA.out HR.out HO2.out b2 N0 Bn)
  have HDn := hid (HH.out.below I.out.bel)
  clear HO2 b2 N0 Bn en HA HR HB
  obtain ⟨k0, k1, k2, m0, m1, m2, f0, f1, f2, n0, n1, n2, n3⟩ := I.out.cells
  obtain ⟨ws, hws, es, S0, Bs⟩ := one_new wn [.string old, .string t] 9
  have HBs := hid Bs
  have HSt : Hid (Strs ws (some ⟨wn.heap.size, 0, none⟩) [old, t]) := fun i hi => by
    have : i = 0 ∨ i = 1 := by simp at hi; omega
    rcases this with rfl | rfl
    · exact ⟨_, _, rfl, S0.c 0 rfl⟩
    · exact ⟨_, _, rfl, S0.c 1 rfl⟩
  have IS := hid (I.out.below Bs)
  clear S0 Bs es
  go_wp2_with fail
  refine (refusal ws _ D x ep s (some ⟨wn.heap.size, 0, none⟩) 2 [old, t] (HDn.out.below HBs.out) HT.out.e3 HSt.out (by simp [maxLen])).mono ?_
  rintro e w3 ⟨rfl, b3⟩
  have HQ := hid (swap_refuse D x ep s old t)
  have HRT := hid (refuse_there (D := D) (x := x) (ep := ep) (s := s) (ts := [old, t]))
  generalize D.refuse x ep s [old, t] = c at *
  have I3 := hid (IS.out.below b3)
  have HD3 := hid ((HDn.out.below HBs.out).below b3)
  clear hws hwn IS HBs HSt HDn I b3 k0 k1 k2 m0 m1 m2 f0 f1 f2 n0 n1 n2 n3
  obtain ⟨k0, k1, k2, m0, m1, m2, f0, f1, f2, n0, n1, n2, n3⟩ := I3.out.cells
  by_cases g1 : ¬ c = 0
  · have HP1 := hid (HP.out.trans (HQ.out.trans (if_neg g1)))
    have E := hid I3.out.done
    go_wp2
    refine bodyPost_ret (results_row2 rfl _ _ (w.heap.size + 1) [.slice p1 D.sec.length q1, .slice p2 D.ep.length q2, .slice p3 D.pe.length q3] _ rfl E.out.2.2 Try.underlying28 rfl (by kernel_rfl)) rfl ?_
    rw [HP1.out]
    exact ⟨_, rfl, E.out.1, E.out.2.1⟩
  replace g1 := Classical.not_not.mp g1
  have HP1 := hid (HP.out.trans (HQ.out.trans (if_pos g1)))
  have HG := hid (HRT.out g1)
  have HK : Hid (OkK x s) := ⟨HG.out.1, HG.out.2.1, by have := HG.out.2.2; have := HT.out.n2; omega⟩
  subst g1
  obtain ⟨_, _, _, _, _, _, ev, sx1, _, sx3⟩ := HD3.out
  cases ev
  have HS1 := hid sx1
  have HS3 := hid sx3
  clear sx1 sx3 HRT HQ
  go_wp2_with fail
  refine (queuesOf w3 a3 c3 D.pe HS3.out HT.out.p40 HT.out.okK).mono ?_
  rintro e w4 ⟨rfl, ⟨n, M, V, hn, q⟩, b4⟩
  have I4 := hid (I3.out.below b4)
  have HS4 := hid (HS1.out.below b4)
  have hlk := q.look_ok HK.out
  replace hlk : (Instr.lookup 66 (.map (some w3.heap.size)) (.agg #[.int .i64 x, .int .i64 s]) true).run Try.prog w4 = .ok (.tuple #[V x s, .bool (decide (qAt D.pe D.pe.length x s ≠ []))]) w4 := hlk
  clear q b4 I3 HD3 HS1 HS3 k0 k1 k2 m0 m1 m2 f0 f1 f2 n0 n1 n2 n3
  obtain ⟨k0, k1, k2, m0, m1, m2, f0, f1, f2, n0, n1, n2, n3⟩ := I4.out.cells
  generalize qAt D.pe D.pe.length x s = Z at *
  by_cases hZ : ¬ Z = []
  · have HP2 := hid (HP1.out.trans (if_neg (fun q => hZ q.2)))
    have hlk2 : (Instr.lookup 66 (.map (some w3.heap.size)) (.agg #[.int .i64 x, .int .i64 s]) true).run Try.prog w4 = .ok (.tuple #[V x s, .bool true]) w4 := by rw [hlk, decide_eq_true hZ]
    have E := hid I4.out.done
    clear hlk hZ
    go_wp2
    refine bodyPost_ret (results_row2 rfl _ _ (w.heap.size + 1) [.slice p1 D.sec.length q1, .slice p2 D.ep.length q2, .slice p3 D.pe.length q3] _ rfl E.out.2.2 Try.underlying28 rfl (by kernel_rfl)) rfl ?_
    rw [HP2.out]
    exact ⟨_, rfl, E.out.1, E.out.2.1⟩
  replace hZ := Classical.not_not.mp hZ
  have hlk2 : (Instr.lookup 66 (.map (some w3.heap.size)) (.agg #[.int .i64 x, .int .i64 s]) true).run Try.prog w4 = .ok (.tuple #[V x s, .bool false]) w4 := by rw [hlk, decide_eq_false (fun q => q hZ)]
  clear hlk
  obtain ⟨sn, rfl⟩ : ∃ n : Nat, s = (n : Int) := Int.eq_ofNat_of_zero_le HG.out.2.1
  have hsl : (sn : Int) < (D.sec.length : Int) := HG.out.2.2
  have hs0 : (0 : Int) ≤ (sn : Int) := Int.natCast_nonneg sn
  obtain ⟨bb, oo, rfl, hc⟩ := HS4.out sn (by omega)
  replace hc : w4.cell? ⟨bb, oo + sn, none⟩ = some (.string (D.sec.getD sn ByteArray.empty)) := hc
  generalize hy : D.sec.getD sn ByteArray.empty = y at hc
  have HY := hid hy
  clear hy
  by_cases g5 : ¬ y = old
  · have HP2 := hid (HP1.out.trans (if_neg (fun q => g5 (by have := q.1; rw [Int.toNat_natCast, HY.out] at this; exact this))))
    have E := hid I4.out.done
    have g5' := Own.eqS_no g5
    clear hZ g5
    go_wp2
    refine bodyPost_ret (results_row2 rfl _ _ (w.heap.size + 1) [.slice p1 D.sec.length q1, .slice p2 D.ep.length q2, .slice p3 D.pe.length q3] _ rfl E.out.2.2 Try.underlying28 rfl (by kernel_rfl)) rfl ?_
    rw [HP2.out]
    exact ⟨_, rfl, E.out.1, E.out.2.1⟩
  replace g5 := Classical.not_not.mp g5
  have HP2 := hid (HP1.out.trans (if_pos ⟨by rw [Int.toNat_natCast, HY.out]; exact g5, hZ⟩))
  have g5' := Own.eqS_yes g5
  clear hZ g5
  obtain ⟨gg, cc, ef⟩ : ∃ g c, Value.slice p1 D.sec.length q1 = .slice (some ⟨g, 0, none⟩) D.sec.length (c + 1) := by
    obtain ⟨_, _, _, ev, r1, _⟩ := I4.out.o
    cases ev
    exact r1.form (by omega)
  cases ef
  have I5 := hid (I4.out.setSec (i := sn) (by omega) t)
  have hcs : ∃ u, w4.cell? ⟨gg, sn, none⟩ = some u ∧ w4.frozen? ⟨gg, sn, none⟩ = false := by
    obtain ⟨_, _, _, ev, r1, _⟩ := I4.out.o
    cases ev
    obtain ⟨aa, cp, e1, hw⟩ := r1.wr
    cases e1
    obtain ⟨b, off, e2, _, hc2, hf2⟩ := hw sn (by omega)
    cases e2
    rw [Nat.zero_add] at hc2 hf2
    exact ⟨_, hc2, hf2⟩
  obtain ⟨u, hcu, hfu⟩ := hcs
  have hgg := I4.out.o.lt (b := gg) ⟨_, _, _, rfl, Or.inl rfl⟩
  have hfar := I4.out.far gg ⟨_, _, _, rfl, Or.inl rfl⟩
  have hlb := I4.out.lb
  have hne1 : ¬ gg = w.heap.size + 1 := by omega
  have hne2 : ¬ w.heap.size + 1 = gg := by omega
  have hne3 : ¬ gg = w2.heap.size := hfar
  have hne4 : ¬ w2.heap.size = gg := fun e => hfar e.symm
  have E := hid I5.out.done
  clear hgg hfar hlb
  go_wp2
  refine bodyPost_ret (results_row2 rfl _ _ (w.heap.size + 1) [.slice (some ⟨gg, 0, none⟩) D.sec.length (cc + 1), .slice p2 D.ep.length q2, .slice p3 D.pe.length q3] _ rfl E.out.2.2 Try.underlying28 rfl (by kernel_rfl)) rfl ?_
  rw [HP2.out]
  exact ⟨_, rfl, E.out.1, E.out.2.1⟩

end Go.Proofs.Ytacdnhohkeifpaa.Mem
