/-
  The walk of impl.FoldPool. No condition but small texts.
-/
import Derived.Test.YtbnpnhcegoanmaaFoI0
import Derived.Test.YtbnpnhcegoanmaaFoS2
import Derived.Test.YtbnpnhcegoanmaaPpChK
import Derived.Test.YtbnpnhcegoanmaaPpDoI
import Derived.Test.YtbnpnhcegoanmaaPpPo
namespace Go.Proofs.Ytbnpnhcegoanmaa.Pl
open Go.RowKit Go.Shelf Go.Proofs.Ytbnpnhcegoanmaa.Mem
set_option linter.unusedVariables false
attribute [local go_sem] Oper.semAt_some

theorem right_ans {l : List Ev} {n : Int} : ((0 ≤ n ∧ n ≤ (l.length : Int)) ∧ l.length ≤ 400 ∧ ∀ e ∈ l, opRight e.k e.v e.t e.a e.s = true) ↔ ((0 ≤ n ∧ n ≤ (l.length : Int)) ∧ l.length ≤ 400 ∧ ∀ e ∈ l, e.right = true) := Iff.rfl

set_option maxRecDepth 100000 in
set_option maxHeartbeats 2000000 in
theorem iFoldPool (w : World) (al : Option Addr) (cl : Nat) (l : List Ev) (n : Int) (S : Evs w al l) (hl : l.length ≤ 1048576) (hcl : l.length ≤ cl) (hs : ∀ j, (l.getD j Ev.none).s.size ≤ 1048576) :
    Calls Try.prog 7 #[.slice al l.length cl, .int .i64 n] w fun r w' => ∃ a cap M, r = .returned (.tuple #[plV a (M : List Pv).length cap, .bool (foldAns l n).2]) ∧ PvsW w' w.heap.size a M ∧ M.map Pv.data = (foldAns l n).1 ∧ Below w.heap.size w w' := by
  have HS := hid S
  clear S
  obtain ⟨wa, hwa, ez, A0, B0⟩ := one_new w [.slice none 0 0] 26
  have HA := hid A0
  have HB := hid B0
  have HZ := hid ez
  have r0 := A0.c 0 rfl
  have rf := A0.f 0
  have HRn := hid (A0.set 0 (.slice none 0 0))
  have HBn := hid (below_set B0 w.heap.size 0 (.slice none 0 0) (Nat.le_refl _))
  clear A0 B0 ez
  refine (callsIn_wide (n := 6)).1 ?_
  refine callsIn_of_wp_marks Try.func7 rfl trivial ?_ rfl
  simp only [Try.ntmps7, List.size_toArray, List.length_cons, List.length_nil, Nat.reduceAdd, Nat.reduceSub, Array.replicate_succ, Array.replicate_zero, List.push_toArray, List.append_toArray, List.nil_append, List.cons_append]
  by_cases hlen : l.length ≤ 400
  rotate_left
  · have HN := hid (fold_no (l := l) (n := n) (fun h => hlen h.2.1))
    gi_wp2
    try simp only [hwa]
    refine ⟨trivial, ?_⟩
    gi_wp2
    refine ⟨trivial, ?_⟩
    gi_wp2
    refine ⟨_, results_pool2 rfl _ _ w.heap.size [.slice none 0 0] _ rfl HRn.out Try.underlying26 rfl (by kernel_rfl), ?_⟩
    exact ⟨none, 0, [], by rw [HN.out]; rfl, none_pool, by rw [HN.out]; rfl, HBn.out⟩
  by_cases hn : 0 ≤ n ∧ n ≤ (l.length : Int)
  rotate_left
  · have HN := hid (fold_no (l := l) (n := n) (fun h => hn h.1))
    gi_wp2
    try simp only [hwa]
    refine ⟨trivial, ?_⟩
    refine (callsIn_wide.2 (isFrom n 0 l.length wa)).mono ?_
    rintro e w1 ⟨rfl, e1⟩
    obtain rfl := e1.symm
    rw [decide_eq_false hn]
    gi_wp2
    refine ⟨trivial, ?_⟩
    gi_wp2
    refine ⟨_, results_pool2 rfl _ _ w.heap.size [.slice none 0 0] _ rfl HRn.out Try.underlying26 rfl (by kernel_rfl), ?_⟩
    exact ⟨none, 0, [], by rw [HN.out]; rfl, none_pool, by rw [HN.out]; rfl, HBn.out⟩
  gi_wp2
  try simp only [hwa]
  refine ⟨trivial, ?_⟩
  refine (callsIn_wide.2 (isFrom n 0 l.length wa)).mono ?_
  rintro e w1 ⟨rfl, e1⟩
  obtain rfl := e1.symm
  rw [decide_eq_true hn]
  gi_wp2
  refine ⟨trivial, ?_⟩
  refine (callsIn_wide.2 (areCalls wa al cl l (HS.out.below HB.out) hl hs)).mono ?_
  rintro e w1 ⟨rfl, b1⟩
  have HA1 := hid (HA.out.below b1 HA.out.lt)
  have HB1 := hid (HB.out.trans (b1.mono HB.out.size))
  clear b1 r0 rf HRn HBn
  by_cases hall : ∀ e ∈ l, e.right = true
  rotate_left
  · have HN := hid (fold_no (l := l) (n := n) (fun h => hall h.2.2))
    rw [decide_eq_false hall]
    have r0 := HA1.out.c 0 rfl
    have rf := HA1.out.f 0
    gi_wp2
    refine ⟨_, results_pool2 rfl _ _ w.heap.size [.slice none 0 0] _ rfl (HA1.out.set 0 (.slice none 0 0)) Try.underlying26 rfl (by kernel_rfl), ?_⟩
    exact ⟨none, 0, [], by rw [HN.out]; rfl, none_pool, by rw [HN.out]; rfl, below_set HB1.out _ _ _ (Nat.le_refl _)⟩
  rw [decide_eq_true hall]
  have HY := hid (fold_yes (l := l) (n := n) ⟨hn, hlen, hall⟩)
  clear hwa
  gi_wp2
  refine ⟨trivial, ?_⟩
  refine (callsIn_wide.2 (iNewPool w1)).mono ?_
  rintro e w2 ⟨a0, c0, M0, rfl, P2, D2, b2⟩
  have HF0 := hid (four_pool four_none D2)
  have HA2 := hid (HA1.out.below b2 HA1.out.lt)
  have HB2 := hid (HB1.out.trans (b2.mono HB1.out.size))
  gi_wp2
  refine ⟨trivial, ?_⟩
  refine (callsIn_wide.2 (volumesOf w2 a0 c0 M0 P2.r (by have := HF0.out.1; omega) HF0.out.2.1)).mono ?_
  rintro e w3 ⟨v3, G, rfl, hV, b3⟩
  obtain ⟨av, cv, rfl, hI⟩ := hV.ivs
  have HG4 : Hid (G.length = 4) := by rw [Hid, hV.len, List.length_map]; exact HF0.out.1
  have HD3 : Hid ((M0.map toIv).map ivData = List.replicate 4 noneD) := by rw [Hid, toIv_all HF0.out.2.1]; exact D2
  have HFt : Hid (∀ g ∈ G, ¬ foot av G.length g) := fun g hg hf => (hV.far g hg).2 (RowO.foot hV.row rfl (by simpa using hf))
  have HCt : Hid (∀ g ∈ G, w2.heap.size ≤ g) := fun g hg => (hV.far g hg).1
  have HND := hid hV.nd
  have HLt : Hid (∀ g ∈ G, g < w3.heap.size) := fun g hg => hV.lt hg
  have HI := hid hI
  have HA3 := hid (HA2.out.below b3 HA2.out.lt)
  have HB3 := hid (HB2.out.trans (b3.mono HB2.out.size))
  have HAv : Hid (∀ b off, av = some ⟨b, off, none⟩ → b < w3.heap.size) := fun b off e => by
    obtain ⟨b', off', e', hc⟩ := hI.row 0 (by have := HG4.out; omega)
    rw [e] at e'
    cases e'
    exact World.block_lt_of_cell? w3 _ hc
  have HZ2 : Hid (w.heap.size < w2.heap.size) := HA2.out.lt
  have HZ3 : Hid (w2.heap.size ≤ w3.heap.size) := b3.size
  clear hV hI P2 D2 b2 b3 HB HA HA1 HA2
  have hsl := take_small hs n.toNat
  obtain ⟨lm, hlm⟩ : ∃ lm, l.take n.toNat = lm := ⟨_, rfl⟩
  have hlm2 : lm.length ≤ l.length := by rw [← hlm, List.length_take]; omega
  have hle : Hid (n.toNat = lm.length) := by rw [Hid, ← hlm, List.length_take]; omega
  rw [hlm] at hsl HY
  have hEl : Evs w al lm := by rw [← hlm]; exact evs_take HS.out _
  have HEl := hid hEl
  clear hlm hEl
  gi_wp2
  rw [hle.out]
  refine ⟨trivial, ?_⟩
  refine (callsOf_in Fence.wide _ trivial rfl al lm.length cl _).mono ?_
  rintro e w' ⟨rfl, rfl⟩
  have bV := ((Boxed.new w3 48 (.slice av G.length cv)).alloc (.cells #[.bool true] 4)).alloc (.cells #[.slice al lm.length cl] 29)
  have bT := (Boxed.new (w3.alloc (.cells #[.slice av G.length cv] 48)) 4 (.bool true)).alloc (.cells #[.slice al lm.length cl] 29)
  have bN := Boxed.new ((w3.alloc (.cells #[.slice av G.length cv] 48)).alloc (.cells #[.bool true] 4)) 29 (.slice al lm.length cl)
  simp only [World.size_alloc] at bT bN
  have hB0 : Below w3.heap.size w3 (((w3.alloc (.cells #[.slice av G.length cv] 48)).alloc (.cells #[.bool true] 4)).alloc (.cells #[.slice al lm.length cl] 29)) := (((Below.refl _ w3).alloc (Nat.le_refl _) _).alloc (by simp) _).alloc (by simp; omega) _
  have hsz : (((w3.alloc (.cells #[.slice av G.length cv] 48)).alloc (.cells #[.bool true] 4)).alloc (.cells #[.slice al lm.length cl] 29)).heap.size = w3.heap.size + 3 := by simp
  obtain ⟨W0, hW0⟩ : ∃ W0, ((w3.alloc (.cells #[.slice av G.length cv] 48)).alloc (.cells #[.bool true] 4)).alloc (.cells #[.slice al lm.length cl] 29) = W0 := ⟨_, rfl⟩
  gi_wp2
  simp only [hW0] at bV bT bN hB0 hsz ⊢
  clear hW0
  have hA0 := HA3.out.below hB0 HA3.out.lt
  have hI0 := HI.out.below hB0
  have hw03 : w.heap.size < w3.heap.size := HA3.out.lt
  have hBW : Below w.heap.size w W0 := HB3.out.trans (hB0.mono HB3.out.size)
  have hEv : EvsB w.heap.size W0 al lm := ⟨HEl.out.below hBW, (evsB HEl.out).2⟩
  refine wpIn_rangeFunc_ownH rfl (by omega) (gf := 38) (lb := #[.pointer (some ⟨w3.heap.size + 1 + 1, 0, none⟩)]) rfl trivial (enters_of Try.func38 (by kernel_rfl) rfl)
    (calls_stops Fence.wide _ trivial rfl (by omega) (w3.heap.size + 1 + 1) w.heap.size al cl lm hsl (by omega) W0 (by omega) (by omega) bN.cell hEv) belowK_t (belowK_b (by omega)) (Below.refl _ _) (fun _ => rfl)
    (fun pre W => ((Boxed W w3.heap.size 48 (.slice av G.length cv) ∧ Boxed W (w3.heap.size + 1) 4 (.bool (foldD (pre.map Subtype.val)).2)) ∧ Row W w.heap.size [.slice none 0 0] ∧ ∃ D', Ivs W av G D' ∧ D'.map ivData = (foldD (pre.map Subtype.val)).1) ∧ Below w.heap.size w W)
    (fun _ _ _ => False)
    (OwnFrom.and (Own.from (fun s A B row hs hg hr => ⟨⟨boxed_own _ _ (fun (_ : Unit) => Value.slice av G.length cv) () A B row hs.1.1 hg hr, boxed_own _ _ (fun (_ : Unit) => Value.bool (foldD (s.map Subtype.val)).2) () A B row hs.1.2 hg hr⟩, row_grown hs.2.1 hg hr, by obtain ⟨D', h1, h2⟩ := hs.2.2; exact ⟨D', ivs_grown h1 hg hr, h2⟩⟩) _) (ownFrom_below (Nat.le_refl _) (by omega)))
    (fun _ _ _ _ _ hs _ _ => hs)
    ⟨⟨⟨bV, bT⟩, hA0, M0.map toIv, hI0, HD3.out⟩, hBW⟩
    (fun x a' W => ∃ Bx, w3.heap.size + 1 < Bx ∧ OpAt W Bx x.1 ∧ a' = { tmps := #[.slice al l.length cl, .int .i64 n, undef, undef, .pointer (some ⟨w.heap.size, 0, none⟩), .bool false, .pointer (some ⟨w3.heap.size, 0, none⟩), .pointer (some ⟨w3.heap.size + 1, 0, none⟩), .pointer (some ⟨Bx, 0, none⟩), .slice al l.length cl, .int .i64 (l.length : Int), .bool (decide (400 < (l.length : Int))), .bool (decide (400 < (l.length : Int))), .int .i64 n, .slice al l.length cl, .int .i64 (l.length : Int), .bool true, .bool false, .bool (decide (400 < (l.length : Int))), .bool (decide (400 < (l.length : Int))), .slice al l.length cl, .bool true, .bool false, .bool (decide (400 < (l.length : Int))), undef, plV a0 M0.length c0, .slice av G.length cv, .slice al l.length cl, .int .i64 n, .slice al lm.length cl, .func (.func 38) #[] #[.pointer (some ⟨w3.heap.size + 1 + 1, 0, none⟩)], opV x.1.k x.1.v x.1.t x.1.a x.1.s, undef, undef, undef, undef, undef, undef, undef], defers := [] })
    (fun x a' _ X Y row hs hg hr => by obtain ⟨Bx, h1, h2, h3⟩ := hs; exact ⟨Bx, h1, opAt_own h2 hg (fun r e => (hr r e).2), h3⟩)
    ?assign ?body ?done ?stop
  case assign =>
    rintro l' pre x W K ⟨⟨⟨bV1, bT1⟩, hA, hD⟩, hB1⟩ hK
    unfold opV
    gi_wp2
    obtain ⟨D', h1, h2⟩ := hD
    exact hK _ _ ((KeepsOthers.alloc _ _).from _) ((Below.refl _ W).alloc hB1.size _) ⟨⟨⟨bV1.alloc _, bT1.alloc _⟩, hA.alloc _, D', h1.below ((Below.refl _ W).alloc (Nat.le_refl _) _), h2⟩, hB1.alloc hB1.size _⟩ ⟨W.heap.size, bT1.lt, opAt_new W x.1 _, rfl⟩
  case body =>
    rintro l' pre x a' W hl' ⟨r, hr⟩ ⟨⟨⟨bV1, bT1⟩, hA, D', hD, eD⟩, hB1⟩ ⟨Bx, hBx, ⟨x0, x1, x2, x3, x4⟩, rfl⟩ hlt
    have cV := bV1.cell
    have hw2 : w.heap.size < w2.heap.size := by have := HZ2.out; omega
    have hw23 : w2.heap.size ≤ w3.heap.size := HZ3.out
    gi_wp2
    refine ⟨trivial, ?_⟩
    refine (CallsIn.inRound l' (callsIn_wide.2 (changeVolumesK W av cv G D' x.1.k x.1.v x.1.t x.1.a x.1.s hD HG4.out HND.out HFt.out w2.heap.size HCt.out (by have := bV1.lt; omega) x.2))).mono ?_
    rintro e w' ⟨rfl, ⟨D2, hD2, eD2⟩, hk⟩
    have hin : ∀ k ∈ G, ∃ o : Obj, W.heap[k]? = some o ∧ o.isCells = true := fun k hk => by
      obtain ⟨i, hi, rfl⟩ := List.getElem_of_mem hk
      obtain ⟨t, ht⟩ := hD.each i hi
      rw [show G.getD i 0 = G[i] from by simp [List.getD, hi]] at ht
      exact ⟨_, ht, rfl⟩
    have hKF : KeepsFrom W0.heap.size W w' := ⟨hk.kep.size, fun k o _ hko ho => (hk.kep.block k (Array.getElem?_eq_some_iff.1 hko).1 (fun hG => by
      obtain ⟨o', h1, h2⟩ := hin k hG
      rw [hko] at h1
      cases h1
      rw [ho] at h2
      cases h2)).trans hko⟩
    have bV2 : Boxed w' w3.heap.size 48 (.slice av G.length cv) := (hk.kep.block _ bV1.lt (fun h => by have := HLt.out _ h; omega)).trans bV1
    have bT2 : Boxed w' (w3.heap.size + 1) 4 (.bool (foldD (pre.map Subtype.val)).2) := (hk.kep.block _ bT1.lt (fun h => by have := HLt.out _ h; omega)).trans bT1
    have hA2 := hA.kept hk.kep (fun h => by have := HCt.out _ h; omega)
    have hB2 : Below w.heap.size W w' := hk.bel.mono (by omega)
    have hB3 := hB1.trans hB2
    have hst : foldD ((pre ++ [x]).map Subtype.val) = stepD (foldD (pre.map Subtype.val)) x.1 := by rw [List.map_append]; exact fold_snoc _ _
    unfold stepD at hst
    rw [eD] at eD2 ⊢
    have cT := bT2.cell
    have fT := bT2.frozen
    have bT3 := bT2.set (.bool false)
    cases hq : (doD (foldD (pre.map Subtype.val)).1 x.1.k x.1.v x.1.t x.1.a x.1.s).2 with
    | true =>
      have q2 : (foldD ((pre ++ [x]).map Subtype.val)).2 = (foldD (pre.map Subtype.val)).2 := by rw [hst]; show ((foldD (pre.map Subtype.val)).2 && _) = _; rw [hq, Bool.and_true]
      gi_wp2
      exact ⟨hKF, hB2, ⟨⟨bV2, by rw [q2]; exact bT2⟩, hA2, D2, hD2, by rw [hst]; exact eD2⟩, hB3⟩
    | false =>
      have q2 : (foldD ((pre ++ [x]).map Subtype.val)).2 = false := by rw [hst]; show ((foldD (pre.map Subtype.val)).2 && _) = _; rw [hq, Bool.and_false]
      gi_wp2
      exact ⟨hKF.trans ((KeepsOthers.setCell _ _ _).from _), hB2.setCell (p := ⟨w3.heap.size + 1, 0, none⟩) (by show w.heap.size ≤ w3.heap.size + 1; omega) _, ⟨⟨bV2.other (by omega) _, by rw [q2]; exact bT3⟩, hA2.other (p := ⟨w3.heap.size + 1, 0, none⟩) (by show w.heap.size ≠ w3.heap.size + 1; omega) _, D2, ivs_kept hD2 (kept_set w' (w3.heap.size + 1) 0 (.bool false)) (fun g hg e => by have := HLt.out _ hg; omega) (fun b off e e2 => by have := HAv.out b off e; omega), by rw [hst]; exact eD2⟩, hB3.setCell (p := ⟨w3.heap.size + 1, 0, none⟩) (by show w.heap.size ≤ w3.heap.size + 1; omega) _⟩
  case done =>
    rintro D ys W hD rfl ⟨⟨⟨bV1, bT1⟩, hA, D', hDv, eD⟩, hB⟩ hK
    rw [upto_vals] at bT1 eD
    have cV := bV1.cell
    have cT := bT1.cell
    have cA := hA.c 0 rfl
    have fA := hA.f 0
    gi_wp2
    have hmix : Try.prog.follows .mixedOrders = true := by kernel_rfl
    refine then_quiet ?_
    gi_region_with_o (refine ⟨trivial, ?_⟩; gi_at_call 24; refine (callsIn_wide.2 (poolOf W.drew av cv G D' (hDv.below (Below.refl _ W).drew) (by have := HG4.out; omega))).mono ?_; rintro e w9 ⟨a9, c9, M9, rfl, P9, D9, b9⟩; unfold plV; have cT9 : w9.cell? ⟨w3.heap.size + 1, 0, none⟩ = some (.bool (foldD lm).2) := (b9.cell (World.block_lt_of_cell? W _ cT)).trans cT; have hA9 : Row w9 w.heap.size [.slice none 0 0] := Row.below (show Row W.drew w.heap.size [.slice none 0 0] from hA) b9 hA.lt; have cA9 := hA9.c 0 rfl; have fA9 := hA9.f 0; have HP9 := hid P9; have HB9 := hid b9; have HA9 := hid hA9; clear P9 b9 hA9)
    all_goals
      gi_wp2
      have hK9 : w9.heap[D]? = some (.deferred (some [])) := (HB9.out.block D (show D < W.heap.size from (Array.getElem?_eq_some_iff.1 hK).1)).trans hK
      have hDl : D < W.heap.size := (Array.getElem?_eq_some_iff.1 hK).1
      have hK' := (KeepsOthers.setCell w9 ⟨w.heap.size, 0, none⟩ (.slice a9 M9.length c9)).same D _ hK9 rfl
      refine ⟨by simp, .inl ⟨_, _, rfl, run_takeDeferred hK', ?_⟩⟩
      refine ⟨_, results_pool2 rfl _ _ w.heap.size [.slice a9 M9.length c9] _ rfl (row_grown (HA9.out.set 0 (.slice a9 M9.length c9)) (grownBy_putObj' _ D (.deferred none)) (fun r e => by cases e; exact ⟨_, hK', rfl⟩)) Try.underlying26 rfl (by kernel_rfl), ?_⟩
      have hb9 : Below w.heap.size w w9 := hB.drew.trans (HB9.out.mono hB.drew.size)
      have hp9 := (HP9.out.move (kept_set w9 w.heap.size 0 (.slice a9 M9.length c9)) (fun b hb e => by have := (HP9.out.pfoot_ge hb).1; have := hA.lt; simp at *; omega))
      have hp8 := hp9.move (kept_putObj _ D (.deferred none)) (fun b hb e => by have := (hp9.pfoot_ge hb).1; simp at *; omega)
      exact ⟨a9, c9, M9, by rw [HY.out]; rfl, hp8.mono hB.drew.size, by rw [HY.out]; exact D9.trans eD, (below_set hb9 _ _ _ (Nat.le_refl _)).trans (belowK_b (w := w) (Nat.le_refl _) _ D _ _ (by omega) hK' rfl rfl)⟩
  case stop =>
    rintro D c pre W _ _ h _
    exact h.elim

end Go.Proofs.Ytbnpnhcegoanmaa.Pl
