/-
  The walk of impl's left: the writes whose numbers are still in a queue, in the order in which they were given. No condition but a list of at most 40 writes.
-/
import Derived.Test.YtppjohfafnbdlakLeftNum
import Derived.Maps.RangeWalk
import Derived.Shelf.Sort.Plain
import Derived.Shelf.Slices.In.SortNone
namespace Go.Proofs.Ytppjohfafnbdlak.Mem
open Go.RowKit Go.Maps Go.Sort
set_option linter.unusedVariables false

theorem kept_grown {r : Option Nat} {w w' : World} (k : Kept (fun b => r = some b) w w') : w.grownBy w' r := ⟨k.os, k.tape, k.output, k.size, fun i hi hne => k.block i hi (fun e => hne e.symm)⟩
theorem grown_kept {r : Option Nat} {w w' : World} (k : w.grownBy w' r) : Kept (fun b => r = some b) w w' := ⟨k.os, k.tape, k.output, k.size, fun i hi hne => k.block i hi (fun e => hne e.symm)⟩

/-- slices.Sort on a row of the call's own. -/
theorem sortRow (w : World) (B : Nat) (v : Value) (L S : List Nat) (r : RowO w B 3 1 v L.length (qCells L)) (hl : L.length ≤ 1048576) (hS : (zOf L).mergeSort (fun x y => decide (x ≤ y)) = zOf S) :
    Calls Try.prog 72 #[v] w fun e w' => e = .returned (.tuple #[]) ∧ RowO w' B 3 1 v L.length (qCells S) ∧ Kept (fun b => rb v = some b) w w' := by
  have hlen : S.length = L.length := by
    have := congrArg List.length hS
    rw [List.length_mergeSort, zOf_length, zOf_length] at this
    exact this.symm
  rcases Nat.eq_zero_or_pos L.length with h0 | h0
  · obtain ⟨a, c, e, _⟩ := r.wr
    have hLn : L = [] := List.eq_nil_of_length_eq_zero h0
    have hSn : S = [] := List.eq_nil_of_length_eq_zero (hlen.trans h0)
    subst hLn; subst hSn
    rw [e] at r ⊢
    refine (Any.slices_Sort_int_none Try.lays189 a c w).mono ?_
    rintro e w' ⟨rfl, rfl⟩
    exact ⟨rfl, r, Kept.refl _ _⟩
  · obtain ⟨g, c, e⟩ := r.form h0
    subst e
    obtain ⟨cur, hb, hB, h1, h2, h3, h4⟩ := r.block
    have hc := Any.slices_Sort_int Try.lays189 g 0 (c + 1) (zOf L) w (holds_row r) (r.lt (b := g) rfl).2 (by rw [zOf_length]; omega)
    rw [zOf_length] at hc
    refine hc.mono ?_
    rintro e w' ⟨rfl, n, os, hw'⟩
    rw [hS] at hw'
    have ho := ownsRow_sortedI (n := n) (os := os) (ss := zOf L) (ts := zOf S) (by rw [zOf_length, zOf_length, hlen]) hB hb (by rw [zOf_length]; exact h1) h2 h3
    have hg := grownBy_sortedI (w := w) (g := g) (n := n) (os := os) (zOf S).toArray
    rw [← hw'] at ho hg
    rw [zOf_length, ← qCells_zOf] at ho
    exact ⟨rfl, Or.inr ⟨ho, _, c, rfl⟩, (grown_kept hg).mono (fun b _ e => by cases e; rfl)⟩

theorem leftW_take (l : List Wt) (S : List Nat) (k : Nat) (hk : k < S.length) : (S.take (k + 1)).map (fun i => l.getD i Wt.none) = (S.take k).map (fun i => l.getD i Wt.none) ++ [l.getD (S.getD k 0) Wt.none] := by
  have e : S.getD k 0 = S[k] := by simp [List.getD, hk]
  rw [List.take_add_one, List.getElem?_eq_getElem hk, List.map_append, e]
  rfl

set_option maxRecDepth 100000 in
set_option maxHeartbeats 4000000 in
theorem left (w : World) (B b n : Nat) (Q : Int → Int → List Nat) (D : DataW Value) (V : Int → Int → Value) (q : QM w B b n Q D V) (a : Option Addr) (cap : Nat) (l : List Wt) (S : Wts w a l) (hl : l.length ≤ 40) (hk : ∀ j, j < l.length → OkK (l.getD j Wt.none).host (l.getD j Wt.none).sector) (hq : QOk l Q) :
    Calls Try.prog 50 #[.map (some b), .slice a l.length cap] w fun e w' => ∃ v', e = .returned v' ∧ RowO w' w.heap.size 72 4 v' (leftW l Q).length (wCells (leftW l Q)) ∧ Below w.heap.size w w' := by
  have HS := hid S
  have HK := hid hk
  have HQO := hid hq
  have HQ := hid q
  have hbl := q.own.lt
  clear S hk hq q
  go_enter Try.func50, Try.ntmps50
  go_wp2_with (at_range; refine wpList_range_own _ rfl _ 63 rfl 66 23 keyedQ Try.underlying63 Rid b n D rfl HQ.out.own ?_; intro w0 hrg0 hg0 hs0)
  go_frame
  have HR0 := hid hrg0
  have HG0 := hid hg0
  have HZ0 := hid hs0
  clear hrg0 hg0 hs0
  go_loopw [5] (fun v wr => ∃ left cnt L, Hid (RowO wr (w.heap.size + 1) 3 1 v L.length (qCells L)) ∧ Hid (wr.ranges Try.prog 66 Rid b w.heap.size n D left cnt) ∧ Hid (Col Q left L) ∧ Hid (Below w.heap.size w wr) ∧ Hid (w.heap.size + 1 ≤ wr.heap.size)) (fun _ wr => wr.rangeLeft b w.heap.size)
  case atStart => exact ⟨_, _, [], Or.inl ⟨_, rfl, rfl, rfl⟩, HR0.out, Col.start HQ.out.has, (Below.refl _ _).grown HG0.out (Nat.le_refl _) (fun j hj => by cases hj), hid (by rw [HZ0.out]; exact Nat.le_refl _)⟩
  case round =>
    obtain ⟨left, cnt, L, HRo, HRg, HC, HB, HZ⟩ := hrel
    obtain ⟨pa, pc, ev, _⟩ := HRo.out.wr
    subst ev
    go_wp2_with (at_next; refine wpList_next_ranges _ rfl _ rfl 66 keyedQ Rid (fun v => v) (fun v => v) (fun key kl _ => ⟨key, rfl⟩) (fun v y _ => ⟨v, rfl⟩) b w.heap.size n D left cnt rfl HRg.out ?_ ?_)
    · intro hc0 hl0
      have HP := hid (HC.out.perm HQO.out HK.out hl0)
      have HSo := hid (sorted_kept HP.out)
      have hLl : L.length ≤ 40 := Nat.le_trans (nodup_le HC.out.nodup (HC.out.lt HQO.out)) hl
      have HLl := hid hLl
      have HLe := hid (show (keptQ l Q).length = L.length from HP.out.length_eq.symm)
      have HX := hid (show ∀ k, k < (keptQ l Q).length → (keptQ l Q).getD k 0 < l.length from fun k hk => by
        have hm : (keptQ l Q).getD k 0 ∈ keptQ l Q := by rw [List.getD_eq_getElem?_getD, List.getElem?_eq_getElem hk]; exact List.getElem_mem hk
        unfold keptQ at hm
        exact List.mem_range.1 (List.mem_filter.1 hm).1)
      have HLW := hid (show leftW l Q = ((keptQ l Q).take L.length).map (fun i => l.getD i Wt.none) from by rw [← HLe.out, List.take_length]; rfl)
      clear hc0 hl0 hLl
      generalize keptQ l Q = SS at *
      go_wp2_with fail
      refine (sortRow wr (w.heap.size + 1) _ L SS HRo.out (by have := HLl.out; omega) HSo.out).mono ?_
      rintro e w2 ⟨rfl, r2, k2⟩
      have HR2 := hid r2
      have HB2 := hid (HB.out.trans (k2.below HB.out.size (fun g hg e => by have := (HRo.out.lt e).1; omega)))
      have HZ2 := hid (show w.heap.size + 1 ≤ w2.heap.size from Nat.le_trans HZ.out k2.size)
      have HLn := hid HLl.out
      clear r2 k2
      generalize hm : L.length = m at *
      have hm40 : m ≤ 40 := HLl.out
      clear hm HP HSo HLl HRo HRg HC
      go_wp2
      go_loopw [8, 24] (fun o i wr => ∃ k : Nat, k ≤ m ∧ i = .int .i64 (k : Int) ∧ Hid (RowO wr w2.heap.size 72 4 o k (wCells ((SS.take k).map (fun i => l.getD i Wt.none)))) ∧ Hid (Below w2.heap.size w2 wr)) (fun _ i _ => m - (intOf i).toNat)
      case atStart => exact ⟨0, Nat.zero_le _, rfl, Or.inl ⟨_, rfl, rfl, by simp [wCells]⟩, Below.refl _ _⟩
      case round =>
        obtain ⟨k, hk, rfl, HO, HBr⟩ := hrel
        obtain ⟨oa, oc, eo, _⟩ := HO.out.wr
        subst eo
        by_cases hlt : k < m
        · have hkS : k < SS.length := by rw [HLe.out]; exact hlt
          obtain ⟨aa, cc, ea, hwa⟩ := HR2.out.wr
          cases ea
          obtain ⟨g, o, rfl, hc⟩ := hwa.sl k (by omega)
          have hcv : (qCells SS).getD k undef = .int .i64 ((SS.getD k 0 : Nat) : Int) := by unfold qCells; simp [List.getD, hkS]
          have hc2 := (HBr.out.cell (p := ⟨g, o + k, none⟩) (World.block_lt_of_cell? w2 _ hc)).trans hc
          replace hc2 : wr.cell? ⟨g, o + k, none⟩ = some (.int .i64 ((SS.getD k 0 : Nat) : Int)) := hc2.trans (congrArg some hcv)
          have hxl := HX.out k hkS
          have htk := hid (leftW_take l SS k hkS)
          generalize SS.getD k 0 = y at *
          have hy1 : (y : Int) < (l.length : Int) := by omega
          have hy0 : (0 : Int) ≤ (y : Int) := Int.natCast_nonneg y
          obtain ⟨b3, o3, rfl, x0, x1, x2, x3⟩ := Wts.at_ ((HS.out.below HB2.out).below HBr.out) y hxl
          generalize l.getD y Wt.none = u at *
          have HRa : Hid (∀ ob, RowO (wr.alloc ob) w2.heap.size 72 4 (.slice oa k oc) k (wCells ((SS.take k).map (fun i => l.getD i Wt.none)))) := fun ob => HO.out.below ((Below.refl _ _).alloc (Nat.le_refl _) ob)
          have HBa := hid (show ∀ ob, w2.heap.size ≤ (wr.alloc ob).heap.size from fun ob => by have := lt_alloc wr ob; have := HBr.out.size; omega)
          have HO2 := hid (fun g => HO.out.lt (b := g))
          clear hwa hc
          generalize (SS.take k).map (fun i => l.getD i Wt.none) = ol at *
          go_wp2_with (at_builtin; refine wpList_app 28 72 Wt.none.val 4 40 Try.underlying28 infoW rfl (by decide) (by decide) _ rfl (.tmp 28) (.tmp 33) rfl w2.heap.size _ k (wCells ol) rfl (HRa.out _) ⟨wr.heap.size, 0, none⟩ 1 1 u.cells rfl rfl (sl_lit wr u.cells 72 4 rfl) (by intro z hz; exact wCells_one [u] z (by simpa [wCells] using hz)) (by omega) (HBa.out _) ?_; intro v3 w3 r3 kk hi; obtain ⟨p3, d3, e3, _⟩ := r3.wr; subst e3; have HR3 := hid r3; have HK3 := hid kk; clear r3 kk hi)
          exact ⟨⟨k + 1, by omega, by go_num, by rw [htk.out, wCells_snoc]; exact HR3.out, (HBr.out.alloc HBr.out.size _).trans (HK3.out.below (HBa.out _) (fun g hg e => by have := (HO2.out g e).1; omega))⟩, by simp [intOf]; omega⟩
        obtain rfl : k = m := by omega
        go_wp2
        go_ret
        refine ⟨_, rfl, ?_, HB2.out.trans (HBr.out.mono HB2.out.size)⟩
        rw [HLW.out, List.length_map, List.length_take, HLe.out, Nat.min_self]
        exact HO.out.mono HB2.out.size
    · intro x c kl yd yp w1 cnt1 hkey hlk hv hat hrg1 hlt hg1 hs1 hen
      obtain ⟨h0, s0, hk0, rfl⟩ := HQ.out.only kl (Maps.has_true_of_atKey hat)
      have hyd : yd = .held c := by
        simp only [Rid, Option.some.injEq, Prod.mk.injEq] at hv
        exact hv.1.symm
      have hcV : c = V h0 s0 := by
        have e1 := HQ.out.at_ h0 s0 hk0
        rw [hat, hyd] at e1
        injection e1
      have hQne : Q h0 s0 ≠ [] := (HQ.out.has h0 s0 hk0).1 (Maps.has_true_of_atKey hat)
      have hrw := HQ.out.row h0 s0 hk0
      obtain ⟨g, cc, hVf⟩ := hrw.form (List.length_pos_iff.2 hQne)
      rw [hVf] at hcV hrw
      subst hcV
      have HC1 := hid (HC.out.step HQO.out hk0 hlk)
      have HB1 := hid (HB.out.grown hg1 HB.out.size (fun j hj => by cases hj; exact Nat.le_refl _))
      have hLl := nodup_le HC1.out.nodup (HC1.out.lt HQO.out)
      rw [List.length_append] at hLl
      have HRg1 := hid hrg1
      have HRo1 := hid (HRo.out.kept (grown_kept hg1) (fun y hy e => by have := (HRo.out.lt hy).1; cases e; omega))
      have HSl : Hid (Sl w1 (some ⟨g, 0, none⟩) ((Q h0 s0).length * 1) (fun i => (qCells (Q h0 s0)).getD i undef)) := by
        obtain ⟨_, _, ea, hwa⟩ := hrw.wr
        cases ea
        exact hwa.sl.below HB1.out
      have HZ1 := hid (show w.heap.size + 1 ≤ w1.heap.size from by rw [hs1]; exact HZ.out)
      have Hlt := hid hlt
      clear hs1 hg1 hrg1 hrw hVf hat hv hyd hkey hlt
      generalize Q h0 s0 = Z at *
      go_wp2_with (at_builtin; refine wpList_app 23 3 (.int .i64 0) 1 8 Try.underlying23 info3' rfl (by decide) (by decide) _ rfl (.tmp 17) (.tmp 18) rfl (w.heap.size + 1) _ L.length (qCells L) rfl HRo1.out ⟨g, 0, none⟩ Z.length (cc + 1) (qCells Z) rfl (by rw [qCells_length]; omega) HSl.out (by intro u hu; unfold qCells at hu; obtain ⟨z, _, rfl⟩ := List.mem_map.1 hu; rfl) (by omega) HZ1.out ?_; intro v3 w3 r3 kk hi; obtain ⟨p3, d3, e3, _⟩ := r3.wr; subst e3; have HR3 := hid r3; have HK3 := hid kk; clear r3 kk hi)
      have hrg3 := HRg1.out.kept (kept_grown HK3.out) (fun e => by have := (HRo1.out.lt e.symm).1; omega) (fun e => by have := (HRo1.out.lt e.symm).1; omega)
      exact ⟨⟨_, cnt1, L ++ Z, by rw [List.length_append, show qCells (L ++ Z) = qCells L ++ qCells Z from by simp [qCells]]; exact HR3.out, hrg3, HC1.out, HB1.out.trans (HK3.out.below HB1.out.size (fun g hg e => by have := (HRo1.out.lt e).1; omega)), hid (Nat.le_trans HZ1.out HK3.out.size)⟩, by rw [hrg3.left_eq, HRg.out.left_eq]; exact Hlt.out⟩

end Go.Proofs.Ytppjohfafnbdlak.Mem
