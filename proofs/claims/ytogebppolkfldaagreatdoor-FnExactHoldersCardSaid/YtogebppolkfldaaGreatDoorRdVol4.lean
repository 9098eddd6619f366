/-
  'append' on an owned row as one step of a region that draws its order; the walk of spec.ReadVol. No condition but texts of at most 2^20 bytes.
-/
import Derived.Test.YtogebppolkfldaaGreatDoorRdVol2
import Derived.Deep.RegionLaw
import Derived.StillTailTactics
namespace Go.Proofs.YtogebppolkfldaaGreatDoor.Rd
open Go.RowKit Go.Proofs.YtogebppolkfldaaGreatDoor.Mem Go.Proofs.YtogebppolkfldaaGreatDoor.Sec
set_option linter.unusedVariables false

/-- 'append' on an owned row, as one step of a region that draws its order. -/
theorem step_app_own {P : Program} (t e : TypeId) (z : Value) (k bytes : Nat) (ht : P.underlying t = some (.slice e)) (hinfo : (P.info? e).map (fun i => (i.zero, i.size, i.bytes)) = some (some z, k, bytes)) (hzs : z.cells.size = k) (hk : 0 < k) (hby : bytes ≤ 1048576)
    {ops : Array Oper} {o : Oper} {a : Act} {w : World} {K : Act → World → Prop} {Q : Exit → Act → World → Prop} {E : Prop} (hgd : o.guard = none) (s x : Operand)
    (ho : o.op = .call { callee := .builtin .append, args := #[s, x], argTypes := #[t, t] })
    (B : Nat) (v : Value) (n : Nat) (xs : List Value) (hs : a.eval s = v) (h : RowO w B e k v n xs) (ad : Addr) (m c : Nat) (news : List Value) (hx : a.eval x = .slice (some ad) m c) (hl : news.length = m * k) (hS : Sl w (some ad) (m * k) (fun i => news.getD i undef)) (h1 : ∀ u ∈ news, u.oneCell' = true)
    (hm : n + m ≤ 1048576) (hB : B ≤ w.heap.size)
    (hK : ∀ v' w', RowO w' B e k v' (n + m) (xs ++ news) → Kept (fun b => rb v = some b) w w' → K (a.put o.dst v') w') :
    if Region.wanted o (yielded ops a.tmps) = true then Oper.wp P o a w K Q else E := by
  have hw : Region.wanted o (yielded ops a.tmps) = true := by simp [Region.wanted, hgd]
  rw [if_pos hw]
  obtain ⟨v', w', hr, h2, h3, h4⟩ := run_app (P := P) w B t o.type e z k bytes ht hinfo hzs hk v n xs h ad m c news hl hS h1 hm hby hB
  unfold Oper.wp execOp
  simp only [ho, resolve, invoke, builtin, Sem.run_bind, Sem.run_pure, Result.andThen_ok, List.map_toArray, List.map_cons, List.map_nil, hs, hx, hr]
  exact hK v' w' h2 h3

theorem infoInt : (Tryz.prog.info? 3).map (fun i => (i.zero, i.size, i.bytes)) = some (some (.int .i64 0), 1, 8) := by kernel_rfl

/-- A volume under way: its box at G, its list of its own behind it. -/
structure VolWay (w1 wr : World) (G : Nat) (x y : Int) (on : Bool) (p : Option Addr) (d : Nat) (l : List Int) : Prop where
  box : Row wr G [.int .i64 x, .int .i64 y, .bool on, .slice p l.length d]
  row : Ir wr (G + 1) (.slice p l.length d) l
  bel : Below G w1 wr
  sz : G + 1 ≤ wr.heap.size

theorem VolWay.after {w1 wr w' : World} {G : Nat} {x y : Int} {on : Bool} {p : Option Addr} {d : Nat} {l : List Int} {z : Int} (h : VolWay w1 wr G x y on p d l)
    (k : Kept (fun b => rb (.slice p l.length d) = some b) ((wr.drew).alloc (.cells #[.int .i64 z] 3)) w') : Row w' G [.int .i64 x, .int .i64 y, .bool on, .slice p l.length d] := by
  have hal : Below wr.heap.size wr ((wr.drew).alloc (.cells #[.int .i64 z] 3)) := ⟨rfl, rfl, rfl, by simp, fun k hk => heap_alloc_old wr.drew _ hk⟩
  have hnb : ¬ rb (.slice p l.length d) = some G := fun e => by have := (RowO.lt h.row e).1; omega
  exact (h.box.below hal h.box.lt).kept k hnb

theorem VolWay.rowA {w1 wr : World} {G : Nat} {x y : Int} {on : Bool} {p : Option Addr} {d : Nat} {l : List Int} (h : VolWay w1 wr G x y on p d l) (z : Int) :
    RowO ((wr.drew).alloc (.cells #[.int .i64 z] 3)) (G + 1) 3 1 (.slice p l.length d) l.length (ic l) :=
  RowO.below h.row ⟨rfl, rfl, rfl, by simp, fun k hk => heap_alloc_old wr.drew _ hk⟩

theorem VolWay.szA {w1 wr : World} {G : Nat} {x y : Int} {on : Bool} {p : Option Addr} {d : Nat} {l : List Int} (h : VolWay w1 wr G x y on p d l) (z : Int) : G + 1 ≤ ((wr.drew).alloc (.cells #[.int .i64 z] 3)).heap.size := by
  have := h.sz
  simp
  omega

theorem VolWay.step {w1 wr w' : World} {G : Nat} {x y : Int} {on : Bool} {p p' : Option Addr} {d d' : Nat} {l : List Int} {z : Int} (h : VolWay w1 wr G x y on p d l)
    (r : RowO w' (G + 1) 3 1 (.slice p' (l.length + 1) d') (l.length + 1) (ic l ++ [.int .i64 z])) (k : Kept (fun b => rb (.slice p l.length d) = some b) ((wr.drew).alloc (.cells #[.int .i64 z] 3)) w') :
    VolWay w1 (w'.setCell ⟨G, 3, none⟩ (.slice p' (l.length + 1) d')) G x y on p' d' (l ++ [z]) := by
  have hal : Below wr.heap.size wr ((wr.drew).alloc (.cells #[.int .i64 z] 3)) := ⟨rfl, rfl, rfl, by simp, fun k hk => heap_alloc_old wr.drew _ hk⟩
  have hnb : ¬ rb (.slice p l.length d) = some G := fun e => by have := (RowO.lt h.row e).1; omega
  have b0 : Row ((wr.drew).alloc (.cells #[.int .i64 z] 3)) G [.int .i64 x, .int .i64 y, .bool on, .slice p l.length d] := h.box.below hal h.box.lt
  have b1 := (b0.kept k hnb).set 3 (.slice p' (l.length + 1) d')
  have hl : (l ++ [z]).length = l.length + 1 := by simp
  refine ⟨?_, ?_, ?_, ?_⟩
  · rw [hl]; exact b1
  · have r2 : RowO (w'.setCell ⟨G, 3, none⟩ (.slice p' (l.length + 1) d')) (G + 1) 3 1 (.slice p' (l.length + 1) d') (l.length + 1) (ic l ++ [.int .i64 z]) :=
      RowO.kept r (kept_set w' G 3 _) (fun b hb e => by subst e; have := (RowO.lt r hb).1; omega)
    unfold Ir
    rw [hl, ← ic_app]
    exact r2
  · have k0 : Below G wr w' := by
      have k1 : Below G wr ((wr.drew).alloc (.cells #[.int .i64 z] 3)) := hal.mono (by have := h.sz; omega)
      exact k1.trans (k.below (by have := h.sz; have := hal.size; omega) (fun b hb e => by have := (RowO.lt h.row e).1; omega))
    exact below_set (h.bel.trans k0) G 3 _ (Nat.le_refl _)
  · have := h.sz
    have := hal.size
    have := k.size
    simp
    omega

theorem vol_start (w1 : World) (x y : Int) (on : Bool) : VolWay w1 (w1.alloc (.cells #[.int .i64 x, .int .i64 y, .bool on, .slice none 0 0] 55)).drew w1.heap.size x y on none 0 [] := by
  have b : Below w1.heap.size w1 (w1.alloc (.cells #[.int .i64 x, .int .i64 y, .bool on, .slice none 0 0] 55)).drew := ((Below.refl _ _).alloc (Nat.le_refl _) _).drew
  obtain ⟨t, e⟩ := Row.new w1 [.int .i64 x, .int .i64 y, .bool on, .slice none 0 0] 55
  exact ⟨⟨t, e⟩, vnone_row _ _ _, b, by show _ ≤ (w1.alloc _).heap.size; simp⟩

set_option maxRecDepth 100000 in
set_option maxHeartbeats 4000000 in
theorem sReadVol (R : ByteArray → Int × Nat) (hR : Reads R) (s : ByteArray) (hs : s.size ≤ 1048576) (w : World) :
    Calls Tryz.prog 16 #[.string s] w fun e w' => VolOut R s w w' e := by
  have HR := hid hR
  clear hR
  go_enter Tryz.func16, Tryz.ntmps16
  go_wp2_with fail
  obtain ⟨wc, hwc, ec, A0, K0⟩ := one_new w [.int .i64 0, .int .i64 0, .bool false, .slice none 0 0] 55
  simp only [hwc]
  clear hwc
  have HA := hid A0
  have HK := hid K0
  clear A0 K0
  refine (l4Vars R HR.out s hs 5 7 (by decide) (by decide) wc).mono ?_
  rintro e w1 ⟨hg, b1⟩
  have HA1 := hid (HA.out.below b1 HA.out.lt)
  have HB1 := hid (HK.out.trans (b1.mono HK.out.size))
  clear b1 HA HK
  cases hn : nums R s 5 7 with
  | none =>
    rw [hn] at hg
    obtain ⟨v, rfl⟩ := hg
    have HN : Hid (readVol R s = none) := by unfold Hid readVol; rw [hn]
    clear hn
    have a0 := HA1.out.c 0 rfl
    have a1 := HA1.out.c 1 rfl
    have a2 := HA1.out.c 2 rfl
    have a3 := HA1.out.c 3 rfl
    have f0 := HA1.out.f 0
    have f1 := HA1.out.f 1
    have f2 := HA1.out.f 2
    have f3 := HA1.out.f 3
    have HRA := hid ((((HA1.out.set 0 (.int .i64 0)).set 1 (.int .i64 0)).set 2 (.bool false)).set 3 (.slice none 0 0))
    have HBf := hid (below_set (below_set (below_set (below_set HB1.out w.heap.size 0 (.int .i64 0) (Nat.le_refl _)) w.heap.size 1 (.int .i64 0) (Nat.le_refl _)) w.heap.size 2 (.bool false) (Nat.le_refl _)) w.heap.size 3 (.slice none 0 0) (Nat.le_refl _))
    go_wp2
    refine bodyPost_ret (vresults_one rfl _ _ w.heap.size _ _ rfl rfl (load_row HRA.out Tryz.underlying55 rfl (by kernel_rfl))) rfl ?_
    exact ⟨0, 0, false, [], none, 0, false, Or.inr ⟨HN.out, rfl, rfl, rfl, rfl, rfl⟩, rfl, vnone_row _ _ _, HBf.out⟩
  | some p =>
    obtain ⟨l, z⟩ := p
    rw [hn] at hg
    obtain ⟨v, rfl, hI⟩ := hg
    have hl := nums_len hn
    have hbd := nums_bd HR.out (by unfold maxLen; omega) hn
    obtain ⟨a, cap, rfl, hW⟩ := hI.w
    match l, hl with
    | [x, y, f, d0, d1, d2, d3], hl =>
    have k0 := hW.sl 0 (by simp)
    obtain ⟨g, off, rfl, c0⟩ := k0
    have hcells : ∀ i v, [x, y, f, d0, d1, d2, d3][i]? = some v → w1.cell? ⟨g, off + i, none⟩ = some (.int .i64 v) := by
      intro i v hi
      obtain ⟨hi8, hv⟩ := List.getElem?_eq_some_iff.1 hi
      obtain ⟨g1, off1, e1, c1⟩ := hW.sl i hi8
      cases e1
      rw [c1, ← hv]
      simp [List.getD, List.getElem?_eq_getElem hi8]
    have HC := hid hcells
    have c1 := hcells 1 y rfl
    have c2 := hcells 2 f rfl
    replace c0 : w1.cell? ⟨g, off + 0, none⟩ = some (.int .i64 x) := c0
    rw [Nat.add_zero] at c0
    have hx := hbd x (by simp)
    have HD : Hid (∀ (i : Nat) (v : Int), [x, y, f, d0, d1, d2, d3][i]? = some v → 0 ≤ v ∧ v ≤ 562949953421311) := fun i v hi => hbd v (List.mem_of_getElem? hi)
    have hgl : g < w1.heap.size := World.block_lt_of_cell? w1 _ c0
    have HN := hid hn
    have hz : (0 : Int) ≤ (z : Int) := by omega
    obtain ⟨on, hon⟩ : ∃ on, (f == 1) = on := ⟨_, rfl⟩
    have HO : Hid (decide (f = 1) = on) := by rw [Hid, ← hon]; rfl
    clear hn hbd hI hW hl hcells
    go_wp2
    go_region
    obtain ⟨wq, hwq⟩ : ∃ wq, (w1.alloc (.cells #[.int .i64 (x - 1), .int .i64 y, .bool on, .slice none 0 0] 55)).drew = wq := ⟨_, rfl⟩
    have HV : Hid (VolWay w1 wq w1.heap.size (x - 1) y on none 0 []) := by
      rw [← hwq]
      exact vol_start w1 (x - 1) y on
    simp only [hwq]
    clear hwq c0 c1 c2 hx hon
    go_wp2
    go_loopw [7] (fun i wr => ∃ (k : Nat) (p : Option Addr) (d : Nat) (m : List Int), 3 ≤ k ∧ k ≤ 7 ∧ i = .int .i64 (k : Int) ∧ Hid (m = ([d0, d1, d2, d3].take (k - 3)).map (· + -1)) ∧ Hid (VolWay w1 wr w1.heap.size (x - 1) y on p d m)) (fun i _ => 7 - (intOf i).toNat)
    case atStart => exact ⟨3, none, 0, [], by omega, by omega, rfl, rfl, HV⟩
    case round =>
      obtain ⟨k, p, d, m, hk3, hk, rfl, Hm, HW⟩ := hrel
      clear HV
      by_cases hlt : k < 7
      · obtain ⟨y0, hy⟩ : ∃ y0, [x, y, f, d0, d1, d2, d3][k]? = some y0 := by
          rw [List.getElem?_eq_getElem (by simp; omega)]; exact ⟨_, rfl⟩
        have HMm : Hid (m ++ [y0 - 1] = ([d0, d1, d2, d3].take (k + 1 - 3)).map (· + -1)) := by
          obtain ⟨q, rfl⟩ : ∃ q, k = q + 3 := ⟨k - 3, by omega⟩
          have hy' : [d0, d1, d2, d3][q]? = some y0 := by rw [← hy]; rfl
          rw [Hid, show q + 3 + 1 - 3 = q + 1 by omega, List.take_add_one, hy', Hm.out]
          simp
          omega
        have cy := HC.out k y0 hy
        have hyb : 0 ≤ y0 ∧ y0 ≤ 562949953421311 := HD.out k y0 hy
        have hwy : IntKind.i64.wrap (y0 - 1) = y0 - 1 := by rw [IntWalk.i64_left, IntWalk.wrap64_in _ (by omega)]
        have hGr : w1.heap.size < wr.heap.size := HW.out.sz
        have hgr : g < wr.heap.size := Nat.lt_trans hgl hGr
        have cyr : wr.cell? ⟨g, off + k, none⟩ = some (.int .i64 y0) := (HW.out.bel.cell hgl).trans cy
        have b3 := HW.out.box.c 3 rfl
        have hmL : m.length + 1 ≤ 1048576 := by rw [Hm.out]; simp; omega
        clear cy hy Hm
        go_wp2
        go_region_law ((refine step_app_own 23 3 (.int .i64 0) 1 8 Tryz.underlying23 infoInt rfl (by decide) (by decide) (by rfl) (.tmp 36) (.tmp 42) (by rfl) (w1.heap.size + 1) (.slice p m.length d) m.length (ic m) (by rfl) (HW.out.rowA (y0 - 1)) ⟨wr.heap.size, 0, none⟩ 1 1 [.int .i64 (y0 - 1)] (by rfl) rfl (one_row wr.drew (y0 - 1)) (by intro u hu; simp at hu; subst hu; rfl) hmL (HW.out.szA (y0 - 1)) ?_; intro v' w' r kk; obtain ⟨p', d', e', _⟩ := r.wr; subst e'; have hb' := HW.out.after kk; have q3 := hb'.c 3 rfl; have qf := hb'.f 3; have HS := hid (HW.out.step r kk); clear hb'))
        all_goals (go_wp2; exact ⟨⟨k + 1, p', d', m ++ [y0 - 1], by omega, by omega, by go_num, HMm, HS⟩, by simp [intOf]; omega⟩)
      · obtain rfl : k = 7 := by omega
        obtain rfl : m = [d0, d1, d2, d3].map (· + -1) := Hm.out
        have hgen : ([d0, d1, d2, d3].map (· + -1)).length = 4 := rfl
        obtain ⟨m, hmm⟩ : ∃ m, m = [d0, d1, d2, d3].map (· + -1) := ⟨_, rfl⟩
        rw [← hmm] at HW hgen
        have HM := hid hmm
        have HBr := hid (HB1.out.trans (HW.out.bel.mono (by have := HB1.out.size; omega)))
        have HAr := hid (HA1.out.below HW.out.bel HA1.out.lt)
        have HWb := hid HW.out.box
        have HWr := hid HW.out.row
        have hbg : w.heap.size < w1.heap.size := HA1.out.lt
        have HMl : Hid (m.length = 4) := hgen
        have hm1 : m.length ≤ 1048576 := by omega
        have HSr : Hid (Ints wr p m) := by
          obtain ⟨a', cap', ea, hW⟩ := Ir.w HWr.out
          cases ea
          exact hW.sl
        clear hmm hgen HW Hm HA1 HB1 HC hlt hk hk3
        have p0 := HWb.out.c 0 rfl
        have p1 := HWb.out.c 1 rfl
        have p2 := HWb.out.c 2 rfl
        have p3 := HWb.out.c 3 rfl
        go_wp2_with fail
        refine (sShowVol wr (x - 1) y on p d m HSr.out hm1).mono ?_
        rintro e w5 ⟨rfl, b5⟩
        have HA5 := hid (HAr.out.below b5 HAr.out.lt)
        have HZ5 := hid (HWb.out.below b5 HWb.out.lt)
        have HI5 := hid (RowO.below HWr.out b5)
        have HB5 := hid (HBr.out.trans (b5.mono HBr.out.size))
        clear b5 HAr HWb HBr HWr HSr p0 p1 p2 p3
        have a0 := HA5.out.c 0 rfl
        have a1 := HA5.out.c 1 rfl
        have a2 := HA5.out.c 2 rfl
        have a3 := HA5.out.c 3 rfl
        have f0 := HA5.out.f 0
        have f1 := HA5.out.f 1
        have f2 := HA5.out.f 2
        have f3 := HA5.out.f 3
        have p0 := HZ5.out.c 0 rfl
        have p1 := HZ5.out.c 1 rfl
        have p2 := HZ5.out.c 2 rfl
        have p3 := HZ5.out.c 3 rfl
        by_cases hsh : showVol (x - 1) y on m = s
        · have HN2 : Hid (readVol R s = some (x - 1, y, on, m)) := by unfold Hid readVol; rw [HN.out]; simp only []; rw [HO.out, ← HM.out, if_pos hsh]
          have hne := Own.eqS_yes hsh
          generalize showVol (x - 1) y on m = sh at *
          have HRA := hid (((((HA5.out).set 0 (.int .i64 (x - 1))).set 1 (.int .i64 y)).set 2 (.bool on)).set 3 (.slice p m.length d))
          have HBf := hid (below_set (below_set (below_set (below_set (HB5.out) w.heap.size 0 (.int .i64 (x - 1)) (Nat.le_refl _)) w.heap.size 1 (.int .i64 y) (Nat.le_refl _)) w.heap.size 2 (.bool on) (Nat.le_refl _)) w.heap.size 3 (.slice p m.length d) (Nat.le_refl _))
          have HIf : Hid (Ir ((((w5.setCell ⟨w.heap.size, 0, none⟩ (.int .i64 (x - 1))).setCell ⟨w.heap.size, 1, none⟩ (.int .i64 y)).setCell ⟨w.heap.size, 2, none⟩ (.bool on)).setCell ⟨w.heap.size, 3, none⟩ (.slice p m.length d)) w.heap.size (.slice p m.length d) m) := RowO.mono (RowO.kept HI5.out ((((kept_set _ _ _ _).trans (kept_set _ _ _ _)).trans (kept_set _ _ _ _)).trans (kept_set _ _ _ _)) (fun b hb x => by have hb' := (RowO.lt HI5.out hb).1; rcases x with ((x | x) | x) | x <;> omega)) (by omega)
          clear HI5 HB5 HA5 HZ5 HM
          go_wp2
          refine bodyPost_ret (vresults_one rfl _ _ w.heap.size _ _ rfl rfl (load_row HRA.out Tryz.underlying55 rfl (by kernel_rfl))) rfl ?_
          exact ⟨x - 1, y, on, m, p, d, true, Or.inl ⟨HN2.out, by rw [HMl.out]; decide, rfl⟩, rfl, HIf.out, HBf.out⟩
        · have HN2 : Hid (readVol R s = none) := by unfold Hid readVol; rw [HN.out]; simp only []; rw [HO.out, ← HM.out, if_neg hsh]
          have hne := Own.eqS_no hsh
          generalize showVol (x - 1) y on m = sh at *
          have HRA := hid (((((HA5.out).set 0 (.int .i64 0)).set 1 (.int .i64 0)).set 2 (.bool false)).set 3 (.slice none 0 0))
          have HBf := hid (below_set (below_set (below_set (below_set (HB5.out) w.heap.size 0 (.int .i64 0) (Nat.le_refl _)) w.heap.size 1 (.int .i64 0) (Nat.le_refl _)) w.heap.size 2 (.bool false) (Nat.le_refl _)) w.heap.size 3 (.slice none 0 0) (Nat.le_refl _))
          clear HI5 HB5 HA5 HZ5 HM
          go_wp2
          refine bodyPost_ret (vresults_one rfl _ _ w.heap.size _ _ rfl rfl (load_row HRA.out Tryz.underlying55 rfl (by kernel_rfl))) rfl ?_
          exact ⟨0, 0, false, [], none, 0, false, Or.inr ⟨HN2.out, rfl, rfl, rfl, rfl, rfl⟩, rfl, vnone_row _ _ _, HBf.out⟩

end Go.Proofs.YtogebppolkfldaaGreatDoor.Rd
