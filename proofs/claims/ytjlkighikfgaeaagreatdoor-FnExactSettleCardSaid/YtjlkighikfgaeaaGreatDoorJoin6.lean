/-
  The walk of spec.ReadJournal. No condition but texts of at most 2^20 bytes.
  A journal's text whose flag is read as more than 1 is not what is shown of it: so both sides refuse it. Condition: texts of at most 2^20 bytes.
  Plain: which sectors are a pool's. Each Read, as it is asked by PoolOk: is it read; on both sides. Condition for impl: the table of sixteen sums and the error of a part that lacks stand in their variables.
  The walk of spec.PoolOk. No condition but texts and lists of at most 2^20.
  Plain: what doing a journal once makes of sectors, and what settling makes of them. No condition.
  The walk of spec.l6Redo: a journal done on sectors of one's own. No condition but texts of at most 2^20.
  The walks of spec.Redo and spec.Settle. No condition but texts and lists of at most 2^20.
  The walk of impl.PoolOk. Condition: the tables of sixteen sums and of the kinds' sizes and the error of a part that lacks stand in their variables.
-/
import Derived.Test.YtjlkighikfgaeaaGreatDoorJoin5
import Derived.Deep.RegionLaw
import Derived.Test.YtjlkighikfgaeaaGreatDoorJoin4
import Derived.Test.YtjlkighikfgaeaaGreatDoorJoin2
import Derived.Test.YtjlkighikfgaeaaGreatDoorJoin3
import Derived.Test.YtjlkighikfgaeaaGreatDoorJoin1
namespace Go.Proofs.YtjlkighikfgaeaaGreatDoor.Rd
open Go.RowKit Go.Proofs.YtjlkighikfgaeaaGreatDoor.Mem Go.Proofs.YtjlkighikfgaeaaGreatDoor.Sec
set_option linter.unusedVariables false

/-- 'append' on an owned row, as one step of a region that draws its order. -/
theorem step_app_jn {P : Program} (t e : TypeId) (z : Value) (k bytes : Nat) (ht : P.underlying t = some (.slice e)) (hinfo : (P.info? e).map (fun i => (i.zero, i.size, i.bytes)) = some (some z, k, bytes)) (hzs : z.cells.size = k) (hk : 0 < k) (hby : bytes ≤ 1048576)
    {ops : Array Oper} {o : Oper} {a : Act} {w : World} {K : Act → World → Prop} {Q : Exit → Act → World → Prop} {E : Prop} (hgd : o.guard = none) (s x : Operand)
    (ho : o.op = .call { callee := .builtin .append, args := #[s, x], argTypes := #[t, t] })
    (B : Nat) (v : Value) (n : Nat) (xs : List Value) (hs : a.eval s = v) (h : RowO w B e k v n xs) (ad : Addr) (m c : Nat) (news : List Value) (hx : a.eval x = .slice (some ad) m c) (hl : news.length = m * k) (hS : Sl w (some ad) (m * k) (fun i => news.getD i undef)) (h1 : ∀ u ∈ news, u.oneCell' = true)
    (hm : n + m ≤ 1048576) (hB : B ≤ w.heap.size)
    (hK : ∀ v' w', RowO w' B e k v' (n + m) (xs ++ news) → Kept (fun b => rb v = some b) w w' → K (a.put o.dst v') w') :
    if Region.wanted o (yielded ops a.tmps) = true then Oper.wp P o a w K Q else E := by
  have hw : Region.wanted o (yielded ops a.tmps) = true := by simp [Region.wanted, hgd]
  rw [if_pos hw]
  obtain ⟨v', w', hr, h2, h3, h4⟩ := run_app (P := P) w B t o.type e z k bytes ht hinfo hzs hk v n xs h ad m c news hl hS h1 hm hby hB
  unfold Oper.wp execOp
  simp only [ho, resolve, invoke, builtin, Sem.run_bind, Sem.run_pure, Result.andThen_ok, List.map_toArray, List.map_cons, List.map_nil, hs, hx, hr]
  exact hK v' w' h2 h3

/-- A journal under way: its box at G, its list of its own behind it. -/
structure JnWay (w1 wr : World) (G : Nat) (x : Int) (dn : Bool) (k v t a : Int) (tx : ByteArray) (p : Option Addr) (d : Nat) (l : List Ou) : Prop where
  box : Row wr G [.int .i64 x, .bool dn, .int .i64 k, .int .i64 v, .int .i64 t, .int .i64 a, .string tx, .slice p l.length d]
  row : Or2 wr (G + 1) (.slice p l.length d) l
  bel : Below G w1 wr
  sz : G + 1 ≤ wr.heap.size

theorem JnWay.move {w1 wr : World} {G : Nat} {x : Int} {dn : Bool} {k v t a : Int} {tx : ByteArray} {p : Option Addr} {d : Nat} {l : List Ou} {w2 : World} (h : JnWay w1 wr G x dn k v t a tx p d l) (b : Below wr.heap.size wr w2) : JnWay w1 w2 G x dn k v t a tx p d l :=
  ⟨h.box.below b h.box.lt, RowO.below h.row b, h.bel.trans (b.mono (by have := h.sz; omega)), Nat.le_trans h.sz b.size⟩

theorem JnWay.rowA {w1 wr : World} {G : Nat} {x : Int} {dn : Bool} {k v t a : Int} {tx : ByteArray} {p : Option Addr} {d : Nat} {l : List Ou} (h : JnWay w1 wr G x dn k v t a tx p d l) (y : Int) (s : ByteArray) :
    RowO ((wr.drew).alloc (.cells #[.int .i64 y, .string s] 75)) (G + 1) 75 2 (.slice p l.length d) l.length (oc l) :=
  RowO.below h.row ⟨rfl, rfl, rfl, by simp, fun k hk => heap_alloc_old wr.drew _ hk⟩

theorem JnWay.szA {w1 wr : World} {G : Nat} {x : Int} {dn : Bool} {k v t a : Int} {tx : ByteArray} {p : Option Addr} {d : Nat} {l : List Ou} (h : JnWay w1 wr G x dn k v t a tx p d l) (y : Int) (s : ByteArray) : G + 1 ≤ ((wr.drew).alloc (.cells #[.int .i64 y, .string s] 75)).heap.size := by
  have := h.sz
  simp
  omega

theorem JnWay.after {w1 wr : World} {G : Nat} {x : Int} {dn : Bool} {k v t a : Int} {tx : ByteArray} {p : Option Addr} {d : Nat} {l : List Ou} {w' : World} {y : Int} {s : ByteArray} (h : JnWay w1 wr G x dn k v t a tx p d l)
    (kk : Kept (fun b => rb (.slice p l.length d) = some b) ((wr.drew).alloc (.cells #[.int .i64 y, .string s] 75)) w') : Row w' G [.int .i64 x, .bool dn, .int .i64 k, .int .i64 v, .int .i64 t, .int .i64 a, .string tx, .slice p l.length d] := by
  have hal : Below wr.heap.size wr ((wr.drew).alloc (.cells #[.int .i64 y, .string s] 75)) := ⟨rfl, rfl, rfl, by simp, fun k hk => heap_alloc_old wr.drew _ hk⟩
  have hnb : ¬ rb (.slice p l.length d) = some G := fun e => by have := (RowO.lt h.row e).1; omega
  exact (h.box.below hal h.box.lt).kept kk hnb

theorem JnWay.step {w1 wr : World} {G : Nat} {x : Int} {dn : Bool} {k v t a : Int} {tx : ByteArray} {p : Option Addr} {d : Nat} {l : List Ou} {w' : World} {p' : Option Addr} {d' : Nat} {y : Int} {s : ByteArray} (h : JnWay w1 wr G x dn k v t a tx p d l)
    (r : RowO w' (G + 1) 75 2 (.slice p' (l.length + 1) d') (l.length + 1) (oc l ++ [.int .i64 y, .string s])) (kk : Kept (fun b => rb (.slice p l.length d) = some b) ((wr.drew).alloc (.cells #[.int .i64 y, .string s] 75)) w') :
    JnWay w1 (w'.setCell ⟨G, 7, none⟩ (.slice p' (l.length + 1) d')) G x dn k v t a tx p' d' (l ++ [⟨y, s⟩]) := by
  have hal : Below wr.heap.size wr ((wr.drew).alloc (.cells #[.int .i64 y, .string s] 75)) := ⟨rfl, rfl, rfl, by simp, fun k hk => heap_alloc_old wr.drew _ hk⟩
  have b1 := (h.after kk).set 7 (.slice p' (l.length + 1) d')
  have hl : (l ++ [(⟨y, s⟩ : Ou)]).length = l.length + 1 := by simp
  refine ⟨?_, ?_, ?_, ?_⟩
  · rw [hl]; exact b1
  · have r2 : RowO (w'.setCell ⟨G, 7, none⟩ (.slice p' (l.length + 1) d')) (G + 1) 75 2 (.slice p' (l.length + 1) d') (l.length + 1) (oc l ++ [.int .i64 y, .string s]) :=
      RowO.kept r (kept_set w' G 7 _) (fun b hb e => by subst e; have := (RowO.lt r hb).1; omega)
    unfold Or2
    rw [hl, ← oc_app]
    exact r2
  · have k0 : Below G wr w' := by
      have k1 : Below G wr ((wr.drew).alloc (.cells #[.int .i64 y, .string s] 75)) := hal.mono (by have := h.sz; omega)
      exact k1.trans (kk.below (by have := h.sz; have := hal.size; omega) (fun b hb e => by have := (RowO.lt h.row e).1; omega))
    exact below_set (h.bel.trans k0) G 7 _ (Nat.le_refl _)
  · have := h.sz
    have := hal.size
    have := kk.size
    simp
    omega

theorem jn_start (w1 : World) (x : Int) (dn : Bool) (k v t a : Int) (tx : ByteArray) : JnWay w1 ((w1.alloc (.cells #[.int .i64 x, .bool dn, .int .i64 k, .int .i64 v, .int .i64 t, .int .i64 a, .string tx, .slice none 0 0] 69)).drew) w1.heap.size x dn k v t a tx none 0 [] := by
  have b : Below w1.heap.size w1 (w1.alloc (.cells #[.int .i64 x, .bool dn, .int .i64 k, .int .i64 v, .int .i64 t, .int .i64 a, .string tx, .slice none 0 0] 69)).drew := ((Below.refl _ _).alloc (Nat.le_refl _) _).drew
  obtain ⟨ty, e⟩ := Row.new w1 [.int .i64 x, .bool dn, .int .i64 k, .int .i64 v, .int .i64 t, .int .i64 a, .string tx, .slice none 0 0] 69
  exact ⟨⟨ty, e⟩, Or.inl ⟨none, rfl, rfl, rfl⟩, b, by show _ ≤ (w1.alloc _).heap.size; simp⟩

theorem upd {w : World} {p : Addr} {v : Value} {o : Obj} (h : w.cell? p = some v) : (w.alloc o).drew.cell? p = some v := (((Below.refl _ w).alloc (Nat.le_refl _) o).cell (World.block_lt_of_cell? w _ h)).trans h

theorem pieceAt_end {R : ByteArray → Int × Nat} (hR : Reads R) {s : ByteArray} (hs : s.size ≤ 1048576) {i : Nat} {t : ByteArray} {z : Nat} (h : pieceAt R s i = some (t, z)) : z ≤ 1048576 := by
  unfold pieceAt at h
  split at h
  · cases h
  · rename_i hq
    split at h
    · cases h
    · rename_i hlt
      simp only [Option.some.injEq, Prod.mk.injEq] at h
      obtain ⟨_, rfl⟩ := h
      have h1 := (hR (rest s i) (by rw [rest_size]; unfold maxLen; omega))
      have h2 := h1.le
      have h3 := h1.x0
      rw [rest_size] at h2 hlt
      omega

set_option maxRecDepth 100000 in
set_option maxHeartbeats 4000000 in
theorem sReadJournal (R : ByteArray → Int × Nat) (hR : Reads R) (s : ByteArray) (hs : s.size ≤ 1048576) (w : World) :
    Calls Tryz.prog 46 #[.string s] w fun e w' => JnOut R s w w' e := by
  have HR := hid hR
  clear hR
  go_enter Tryz.func46, Tryz.ntmps46
  go_wp2_with fail
  obtain ⟨wc, hwc, ec, A0, K0⟩ := one_new w [.int .i64 0, .bool false, .int .i64 0, .int .i64 0, .int .i64 0, .int .i64 0, .string ⟨#[]⟩, .slice none 0 0] 69
  simp only [hwc]
  clear hwc
  have HA := hid A0
  have HK := hid K0
  clear A0 K0
  refine (l4Vars R HR.out s hs 5 6 (by decide) (by decide) wc).mono ?_
  rintro e w1 ⟨hg, b1⟩
  have HA1 := hid (HA.out.below b1 HA.out.lt)
  have HB1 := hid (HK.out.trans (b1.mono HK.out.size))
  clear b1 HA HK
  cases hn : nums R s 5 6 with
  | none =>
    rw [hn] at hg
    obtain ⟨vv, rfl⟩ := hg
    have HNo : Hid (readJn R s = none) := readJn_no (jnAt_no1 hn)
    clear hn
    go_wp2_with fail
    refine (l4TakeNeg s w1).mono ?_
    rintro e w2 ⟨hg2, b2⟩
    obtain rfl : e = _ := hg2
    have HA2 := hid (HA1.out.below b2 HA1.out.lt)
    have HB2 := hid (HB1.out.trans (b2.mono HB1.out.size))
    clear b2
    go_wp2_with fail
    refine (l4VarsNeg s w2).mono ?_
    rintro e w3 ⟨v3, rfl, b3⟩
    have HA3 := hid (HA2.out.below b3 HA2.out.lt)
    have HB3 := hid (HB2.out.trans (b3.mono HB2.out.size))
    clear b3
    have a0 := HA3.out.c 0 rfl
    have a1 := HA3.out.c 1 rfl
    have a2 := HA3.out.c 2 rfl
    have a3 := HA3.out.c 3 rfl
    have a4 := HA3.out.c 4 rfl
    have a5 := HA3.out.c 5 rfl
    have a6 := HA3.out.c 6 rfl
    have a7 := HA3.out.c 7 rfl
    have f0 := HA3.out.f 0
    have f1 := HA3.out.f 1
    have f2 := HA3.out.f 2
    have f3 := HA3.out.f 3
    have f4 := HA3.out.f 4
    have f5 := HA3.out.f 5
    have f6 := HA3.out.f 6
    have f7 := HA3.out.f 7
    have HRA := hid (row_set8 HA3.out (.int .i64 0) (.bool false) (.int .i64 0) (.int .i64 0) (.int .i64 0) (.int .i64 0) (.string ⟨#[]⟩) (.slice none 0 0))
    have HBf := hid (HB3.out.trans ((kept_set8 w3 w.heap.size (.int .i64 0) (.bool false) (.int .i64 0) (.int .i64 0) (.int .i64 0) (.int .i64 0) (.string ⟨#[]⟩) (.slice none 0 0)).below HB3.out.size (fun b hb x => by omega)))
    go_wp2
    refine bodyPost_ret (jresults_one rfl _ _ w.heap.size _ _ rfl rfl (load_row HRA.out Tryz.underlying69 rfl (by kernel_rfl))) rfl ?_
    exact ⟨JZ, none, 0, false, Or.inr ⟨HNo.out, rfl, rfl⟩, rfl, jnone_row _ _ _, HBf.out⟩
  | some pr =>
    obtain ⟨l0, z⟩ := pr
    rw [hn] at hg
    obtain ⟨vv, rfl, hI⟩ := hg
    have hl0 := nums_len hn
    have hzs : z ≤ 1048576 := by
      by_cases h5 : 5 ≤ s.size
      · exact Nat.le_trans (nums_le HR.out (by unfold maxLen; omega) h5 hn) hs
      · exfalso
        have := nums_short R HR.out s (by omega) hs 5
        rw [this] at hn; cases hn
    obtain ⟨gL, offL, capL, rfl, _, hgLl, hcL⟩ := ir_cells hI (by omega)
    match l0, hl0 with
    | [x, f, k, v, t, a], hl0 =>
    have HCL := hid hcL
    have HN := hid hn
    have hz0 : (0 : Int) ≤ (z : Int) := by omega
    clear hn hI hl0 hcL
    go_wp2_with fail
    refine (l4Take R HR.out s hs z hzs w1).mono ?_
    rintro e w2 ⟨hg2, b2⟩
    have HA2 := hid (HA1.out.below b2 HA1.out.lt)
    have HB2 := hid (HB1.out.trans (b2.mono HB1.out.size))
    have HCL2 : Hid (∀ i y, [x, f, k, v, t, a][i]? = some y → w2.cell? ⟨gL, offL + i, none⟩ = some (.int .i64 y)) := fun i y hy => (b2.cell hgLl).trans (HCL.out i y hy)
    have hgL2 : gL < w2.heap.size := Nat.lt_of_lt_of_le hgLl b2.size
    clear b2 HCL hgLl
    cases hp : pieceAt R s z with
    | none =>
      rw [hp] at hg2
      obtain rfl : e = _ := hg2
      have HNo : Hid (readJn R s = none) := readJn_no (jnAt_no2 HN.out hp)
      clear hp
      go_wp2_with fail
      refine (l4VarsNeg s w2).mono ?_
      rintro e w3 ⟨v3, rfl, b3⟩
      have HA3 := hid (HA2.out.below b3 HA2.out.lt)
      have HB3 := hid (HB2.out.trans (b3.mono HB2.out.size))
      clear b3
      have a0 := HA3.out.c 0 rfl
      have a1 := HA3.out.c 1 rfl
      have a2 := HA3.out.c 2 rfl
      have a3 := HA3.out.c 3 rfl
      have a4 := HA3.out.c 4 rfl
      have a5 := HA3.out.c 5 rfl
      have a6 := HA3.out.c 6 rfl
      have a7 := HA3.out.c 7 rfl
      have f0 := HA3.out.f 0
      have f1 := HA3.out.f 1
      have f2 := HA3.out.f 2
      have f3 := HA3.out.f 3
      have f4 := HA3.out.f 4
      have f5 := HA3.out.f 5
      have f6 := HA3.out.f 6
      have f7 := HA3.out.f 7
      have HRA := hid (row_set8 HA3.out (.int .i64 0) (.bool false) (.int .i64 0) (.int .i64 0) (.int .i64 0) (.int .i64 0) (.string ⟨#[]⟩) (.slice none 0 0))
      have HBf := hid (HB3.out.trans ((kept_set8 w3 w.heap.size (.int .i64 0) (.bool false) (.int .i64 0) (.int .i64 0) (.int .i64 0) (.int .i64 0) (.string ⟨#[]⟩) (.slice none 0 0)).below HB3.out.size (fun b hb x => by omega)))
      go_wp2
      refine bodyPost_ret (jresults_one rfl _ _ w.heap.size _ _ rfl rfl (load_row HRA.out Tryz.underlying69 rfl (by kernel_rfl))) rfl ?_
      exact ⟨JZ, none, 0, false, Or.inr ⟨HNo.out, rfl, rfl⟩, rfl, jnone_row _ _ _, HBf.out⟩
    | some pq =>
      obtain ⟨tx, z1⟩ := pq
      rw [hp] at hg2
      obtain rfl : e = _ := hg2
      have HPc := hid hp
      have hz1s : z1 ≤ 1048576 := pieceAt_end HR.out hs hp
      clear hp
      go_wp2_with fail
      refine (l4Vars R HR.out s hs z1 1 hz1s (by decide) w2).mono ?_
      rintro e w3 ⟨hg3, b3⟩
      have HA3 := hid (HA2.out.below b3 HA2.out.lt)
      have HB3 := hid (HB2.out.trans (b3.mono HB2.out.size))
      have HCL3 : Hid (∀ i y, [x, f, k, v, t, a][i]? = some y → w3.cell? ⟨gL, offL + i, none⟩ = some (.int .i64 y)) := fun i y hy => (b3.cell hgL2).trans (HCL2.out i y hy)
      have hgL3 : gL < w3.heap.size := Nat.lt_of_lt_of_le hgL2 b3.size
      clear b3 HCL2 hgL2 HA1 HB1 HA2 HB2
      by_cases hq : (R (rest s z1)).2 = 0
      · have hn1 : nums R s z1 1 = none := by rw [nums_1, if_pos hq]
        rw [hn1] at hg3
        obtain ⟨v3, rfl⟩ := hg3
        have HNo : Hid (readJn R s = none) := readJn_no (jnAt_no3 HN.out HPc.out (by unfold outsAll; rw [if_pos (Or.inl hq)]))
        clear hn1 hq
        have a0 := HA3.out.c 0 rfl
        have a1 := HA3.out.c 1 rfl
        have a2 := HA3.out.c 2 rfl
        have a3 := HA3.out.c 3 rfl
        have a4 := HA3.out.c 4 rfl
        have a5 := HA3.out.c 5 rfl
        have a6 := HA3.out.c 6 rfl
        have a7 := HA3.out.c 7 rfl
        have f0 := HA3.out.f 0
        have f1 := HA3.out.f 1
        have f2 := HA3.out.f 2
        have f3 := HA3.out.f 3
        have f4 := HA3.out.f 4
        have f5 := HA3.out.f 5
        have f6 := HA3.out.f 6
        have f7 := HA3.out.f 7
        have HRA := hid (row_set8 HA3.out (.int .i64 0) (.bool false) (.int .i64 0) (.int .i64 0) (.int .i64 0) (.int .i64 0) (.string ⟨#[]⟩) (.slice none 0 0))
        have HBf := hid (HB3.out.trans ((kept_set8 w3 w.heap.size (.int .i64 0) (.bool false) (.int .i64 0) (.int .i64 0) (.int .i64 0) (.int .i64 0) (.string ⟨#[]⟩) (.slice none 0 0)).below HB3.out.size (fun b hb x => by omega)))
        go_wp2
        refine bodyPost_ret (jresults_one rfl _ _ w.heap.size _ _ rfl rfl (load_row HRA.out Tryz.underlying69 rfl (by kernel_rfl))) rfl ?_
        exact ⟨JZ, none, 0, false, Or.inr ⟨HNo.out, rfl, rfl⟩, rfl, jnone_row _ _ _, HBf.out⟩
      have hn1 : nums R s z1 1 = some ([(R (rest s z1)).1], z1 + (R (rest s z1)).2) := by rw [nums_1, if_neg hq]
      rw [hn1] at hg3
      obtain ⟨v3, rfl, hI3⟩ := hg3
      have hRV1 := HR.out (rest s z1) (by rw [rest_size]; unfold maxLen; omega)
      obtain ⟨n, hnn⟩ : ∃ n : Nat, (R (rest s z1)).1 = (n : Int) := Int.eq_ofNat_of_zero_le hRV1.x0
      have hn49 : (n : Int) ≤ 562949953421311 := by rw [← hnn]; exact hRV1.x1
      obtain ⟨gN, offN, capN, rfl, _, hgNl, hcN⟩ := ir_cells hI3 (by simp)
      have cN := hcN 0 _ rfl
      rw [Nat.add_zero] at cN
      have HOA : Hid (outsAll R s z1 = if 8 < (n : Int) then none else outsAt R s (z1 + (R (rest s z1)).2) n) := by
        unfold Hid outsAll
        rw [hnn, Int.toNat_natCast]
        by_cases h8 : 8 < (n : Int)
        · rw [if_pos (Or.inr h8), if_pos h8]
        · rw [if_neg (by omega), if_neg h8]
      have hz2s : z1 + (R (rest s z1)).2 ≤ 1048576 := by have := hRV1.le; rw [rest_size] at this; omega
      rw [hnn] at cN
      clear hn1 hq hRV1 hI3 hcN hnn
      generalize z1 + (R (rest s z1)).2 = z2 at *
      have hz20 : (0 : Int) ≤ (z2 : Int) := by omega
      by_cases h8 : 8 < (n : Int)
      · have HNo : Hid (readJn R s = none) := readJn_no (jnAt_no3 HN.out HPc.out (by rw [HOA.out, if_pos h8]))
        clear HOA
        have a0 := HA3.out.c 0 rfl
        have a1 := HA3.out.c 1 rfl
        have a2 := HA3.out.c 2 rfl
        have a3 := HA3.out.c 3 rfl
        have a4 := HA3.out.c 4 rfl
        have a5 := HA3.out.c 5 rfl
        have a6 := HA3.out.c 6 rfl
        have a7 := HA3.out.c 7 rfl
        have f0 := HA3.out.f 0
        have f1 := HA3.out.f 1
        have f2 := HA3.out.f 2
        have f3 := HA3.out.f 3
        have f4 := HA3.out.f 4
        have f5 := HA3.out.f 5
        have f6 := HA3.out.f 6
        have f7 := HA3.out.f 7
        have HRA := hid (row_set8 HA3.out (.int .i64 0) (.bool false) (.int .i64 0) (.int .i64 0) (.int .i64 0) (.int .i64 0) (.string ⟨#[]⟩) (.slice none 0 0))
        have HBf := hid (HB3.out.trans ((kept_set8 w3 w.heap.size (.int .i64 0) (.bool false) (.int .i64 0) (.int .i64 0) (.int .i64 0) (.int .i64 0) (.string ⟨#[]⟩) (.slice none 0 0)).below HB3.out.size (fun b hb x => by omega)))
        go_wp2
        refine bodyPost_ret (jresults_one rfl _ _ w.heap.size _ _ rfl rfl (load_row HRA.out Tryz.underlying69 rfl (by kernel_rfl))) rfl ?_
        exact ⟨JZ, none, 0, false, Or.inr ⟨HNo.out, rfl, rfl⟩, rfl, jnone_row _ _ _, HBf.out⟩
      have HOA2 : Hid (outsAll R s z1 = outsAt R s z2 n) := by rw [Hid, HOA.out, if_neg h8]
      obtain ⟨dn, hdn⟩ : ∃ dn, (f == 1) = dn := ⟨_, rfl⟩
      have HDn : Hid (decide (f = 1) = dn) := by rw [Hid, ← hdn]; rfl
      clear HOA
      have c0 := HCL3.out 0 x rfl
      have c1 := HCL3.out 1 f rfl
      have c2 := HCL3.out 2 k rfl
      have c3 := HCL3.out 3 v rfl
      have c4 := HCL3.out 4 t rfl
      have c5 := HCL3.out 5 a rfl
      rw [Nat.add_zero] at c0
      have HE : Hid (w3.drew.cell? ⟨gL, offL, none⟩ = some (.int .i64 x) ∧ w3.drew.cell? ⟨gL, offL + 1, none⟩ = some (.int .i64 f) ∧ w3.drew.cell? ⟨gL, offL + 2, none⟩ = some (.int .i64 k) ∧ w3.drew.cell? ⟨gL, offL + 3, none⟩ = some (.int .i64 v) ∧ w3.drew.cell? ⟨gL, offL + 4, none⟩ = some (.int .i64 t) ∧ w3.drew.cell? ⟨gL, offL + 5, none⟩ = some (.int .i64 a)) := ⟨c0, c1, c2, c3, c4, c5⟩
      go_wp2
      go_region_held_law (fun w' => w'.cell? ⟨gL, offL, none⟩ = some (.int .i64 x) ∧ w'.cell? ⟨gL, offL + 1, none⟩ = some (.int .i64 f) ∧ w'.cell? ⟨gL, offL + 2, none⟩ = some (.int .i64 k) ∧ w'.cell? ⟨gL, offL + 3, none⟩ = some (.int .i64 v) ∧ w'.cell? ⟨gL, offL + 4, none⟩ = some (.int .i64 t) ∧ w'.cell? ⟨gL, offL + 5, none⟩ = some (.int .i64 a))
        (first | with_reducible exact HE.out | with_reducible exact ⟨upd c0, upd c1, upd c2, upd c3, upd c4, upd c5⟩ | go_keep)
        (fail)
      obtain ⟨wq, hwq⟩ : ∃ wq, (w3.alloc (.cells #[.int .i64 x, .bool dn, .int .i64 k, .int .i64 v, .int .i64 t, .int .i64 a, .string tx, .slice none 0 0] 69)).drew = wq := ⟨_, rfl⟩
      have HV : Hid (JnWay w3 wq w3.heap.size x dn k v t a tx none 0 []) := by
        rw [← hwq]
        exact jn_start w3 x dn k v t a tx
      simp only [hwq]
      clear hwq c0 c1 c2 c3 c4 c5 HE HCL3 hdn h8
      have hwb : w.heap.size < w3.heap.size := HA3.out.lt
      go_wp2
      go_loopw [5, 9] (fun at_ i wr => ∃ (j zz : Nat) (p : Option Addr) (d : Nat) (l : List Ou), j ≤ n ∧ i = .int .i64 (j : Int) ∧ at_ = .int .i64 (zz : Int) ∧ zz ≤ 1048576 ∧ Hid (outsAt R s z2 j = some (l, zz)) ∧ Hid (JnWay w3 wr w3.heap.size x dn k v t a tx p d l)) (fun _ i _ => n - (intOf i).toNat)
      case atStart => exact ⟨0, z2, none, 0, [], Nat.zero_le _, rfl, rfl, hz2s, rfl, HV⟩
      case round =>
        obtain ⟨j, zz, p, d, l, hj, rfl, rfl, hzz, HOs, HW⟩ := hrel
        clear HV
        have hsr : w3.heap.size < wr.heap.size := HW.out.sz
        have HAr := hid (HA3.out.below HW.out.bel hwb)
        have HBr := hid (HB3.out.trans (HW.out.bel.mono (by omega)))
        have cNr : wr.cell? ⟨gN, offN, none⟩ = some (.int .i64 (n : Int)) := (HW.out.bel.cell hgNl).trans cN
        by_cases hlt : j < n
        · have HST := hid (outsAt_step HOs.out)
          have HOn : Hid (outsAt R s z2 (j + 1) = none → readJn R s = none) := fun hz => by
            refine readJn_no (jnAt_no3 HN.out HPc.out ?_)
            rw [HOA2.out]
            have := outsAt_none hz (n - (j + 1))
            rwa [show j + 1 + (n - (j + 1)) = n by omega] at this
          go_wp2_with fail
          refine (l4Vars R HR.out s hs zz 1 hzz (by decide) wr).mono ?_
          rintro e w4 ⟨hg4, b4⟩
          have HW4 := hid (HW.out.move b4)
          have HA4 := hid (HAr.out.below b4 HAr.out.lt)
          have HB4 := hid (HBr.out.trans (b4.mono HBr.out.size))
          have hs4 := b4.size
          clear b4 cNr
          by_cases hq : (R (rest s zz)).2 = 0
          · have hn1 : nums R s zz 1 = none := by rw [nums_1, if_pos hq]
            rw [hn1] at hg4
            obtain ⟨v4, rfl⟩ := hg4
            have HNo := hid (HOn.out (by rw [HST.out, if_pos hq]))
            clear hn1 hq
            go_wp2_with fail
            refine (l4TakeNeg s w4).mono ?_
            rintro e w5 ⟨hg5, b5⟩
            obtain rfl : e = _ := hg5
            have HA5 := hid (HA4.out.below b5 HA4.out.lt)
            have HB5 := hid (HB4.out.trans (b5.mono HB4.out.size))
            clear b5
            have a0 := HA5.out.c 0 rfl
            have a1 := HA5.out.c 1 rfl
            have a2 := HA5.out.c 2 rfl
            have a3 := HA5.out.c 3 rfl
            have a4 := HA5.out.c 4 rfl
            have a5 := HA5.out.c 5 rfl
            have a6 := HA5.out.c 6 rfl
            have a7 := HA5.out.c 7 rfl
            have f0 := HA5.out.f 0
            have f1 := HA5.out.f 1
            have f2 := HA5.out.f 2
            have f3 := HA5.out.f 3
            have f4 := HA5.out.f 4
            have f5 := HA5.out.f 5
            have f6 := HA5.out.f 6
            have f7 := HA5.out.f 7
            have HRA := hid (row_set8 HA5.out (.int .i64 0) (.bool false) (.int .i64 0) (.int .i64 0) (.int .i64 0) (.int .i64 0) (.string ⟨#[]⟩) (.slice none 0 0))
            have HBf := hid (HB5.out.trans ((kept_set8 w5 w.heap.size (.int .i64 0) (.bool false) (.int .i64 0) (.int .i64 0) (.int .i64 0) (.int .i64 0) (.string ⟨#[]⟩) (.slice none 0 0)).below HB5.out.size (fun b hb x => by omega)))
            go_wp2
            refine bodyPost_ret (jresults_one rfl _ _ w.heap.size _ _ rfl rfl (load_row HRA.out Tryz.underlying69 rfl (by kernel_rfl))) rfl ?_
            exact ⟨JZ, none, 0, false, Or.inr ⟨HNo.out, rfl, rfl⟩, rfl, jnone_row _ _ _, HBf.out⟩
          have hn1 : nums R s zz 1 = some ([(R (rest s zz)).1], zz + (R (rest s zz)).2) := by rw [nums_1, if_neg hq]
          rw [hn1] at hg4
          obtain ⟨v4, rfl, hI4⟩ := hg4
          have hRV1 := HR.out (rest s zz) (by rw [rest_size]; unfold maxLen; omega)
          have hz3s : zz + (R (rest s zz)).2 ≤ 1048576 := by have := hRV1.le; rw [rest_size] at this; omega
          have HST2 : Hid (outsAt R s z2 (j + 1) = (pieceAt R s (zz + (R (rest s zz)).2)).map fun q => (l ++ [⟨(R (rest s zz)).1, q.1⟩], q.2)) := by rw [Hid, HST.out, if_neg hq]
          obtain ⟨gK, offK, capK, rfl, _, hgKl, hcK⟩ := ir_cells hI4 (by simp)
          have cK := hcK 0 _ rfl
          rw [Nat.add_zero] at cK
          clear hn1 hq hRV1 hI4 hcK HST
          generalize (R (rest s zz)).1 = y at *
          generalize zz + (R (rest s zz)).2 = z3 at *
          have hz30 : (0 : Int) ≤ (z3 : Int) := by omega
          go_wp2_with fail
          refine (l4Take R HR.out s hs z3 hz3s w4).mono ?_
          rintro e w5 ⟨hg5, b5⟩
          have HW5 := hid (HW4.out.move b5)
          have HA5 := hid (HA4.out.below b5 HA4.out.lt)
          have HB5 := hid (HB4.out.trans (b5.mono HB4.out.size))
          have cK5 : w5.cell? ⟨gK, offK, none⟩ = some (.int .i64 y) := (b5.cell hgKl).trans cK
          have hgK5 : gK < w5.heap.size := Nat.lt_of_lt_of_le hgKl b5.size
          clear b5 cK hgKl HW4 HA4 HB4 HW
          cases hp : pieceAt R s z3 with
          | none =>
            rw [hp] at hg5
            obtain rfl : e = _ := hg5
            have HNo := hid (HOn.out (by rw [HST2.out, hp]; rfl))
            clear hp
            have a0 := HA5.out.c 0 rfl
            have a1 := HA5.out.c 1 rfl
            have a2 := HA5.out.c 2 rfl
            have a3 := HA5.out.c 3 rfl
            have a4 := HA5.out.c 4 rfl
            have a5 := HA5.out.c 5 rfl
            have a6 := HA5.out.c 6 rfl
            have a7 := HA5.out.c 7 rfl
            have f0 := HA5.out.f 0
            have f1 := HA5.out.f 1
            have f2 := HA5.out.f 2
            have f3 := HA5.out.f 3
            have f4 := HA5.out.f 4
            have f5 := HA5.out.f 5
            have f6 := HA5.out.f 6
            have f7 := HA5.out.f 7
            have HRA := hid (row_set8 HA5.out (.int .i64 0) (.bool false) (.int .i64 0) (.int .i64 0) (.int .i64 0) (.int .i64 0) (.string ⟨#[]⟩) (.slice none 0 0))
            have HBf := hid (HB5.out.trans ((kept_set8 w5 w.heap.size (.int .i64 0) (.bool false) (.int .i64 0) (.int .i64 0) (.int .i64 0) (.int .i64 0) (.string ⟨#[]⟩) (.slice none 0 0)).below HB5.out.size (fun b hb x => by omega)))
            go_wp2
            refine bodyPost_ret (jresults_one rfl _ _ w.heap.size _ _ rfl rfl (load_row HRA.out Tryz.underlying69 rfl (by kernel_rfl))) rfl ?_
            exact ⟨JZ, none, 0, false, Or.inr ⟨HNo.out, rfl, rfl⟩, rfl, jnone_row _ _ _, HBf.out⟩
          | some pq =>
            obtain ⟨tt, z4⟩ := pq
            rw [hp] at hg5
            obtain rfl : e = _ := hg5
            have HOs2 : Hid (outsAt R s z2 (j + 1) = some (l ++ [⟨y, tt⟩], z4)) := by rw [Hid, HST2.out, hp]; rfl
            have hz4s : z4 ≤ 1048576 := pieceAt_end HR.out hs hp
            have hz40 : (0 : Int) ≤ (z4 : Int) := by omega
            have hlL : l.length + 1 ≤ 1048576 := by have := (outsAt_len HOs.out).1; omega
            have q7 := HW5.out.box.c 7 rfl
            have hG5 : w3.heap.size < w5.heap.size := HW5.out.sz
            clear hp HST2 HOn
            go_wp2
            go_region_law ((refine step_app_jn 43 75 (.agg #[.int .i64 0, .string ByteArray.empty]) 2 24 Tryz.underlying43 infoOut rfl (by decide) (by decide) (by rfl) (.tmp 84) (.tmp 90) (by rfl) (w3.heap.size + 1) (.slice p l.length d) l.length (oc l) (by rfl) (HW5.out.rowA y tt) ⟨w5.heap.size, 0, none⟩ 1 1 [.int .i64 y, .string tt] (by rfl) rfl (one_out w5.drew y tt) (by intro u hu; simp at hu; rcases hu with rfl | rfl <;> rfl) hlL (HW5.out.szA y tt) ?_; intro v' w' r kk; obtain ⟨p', d', e', _⟩ := r.wr; subst e'; have hb' := HW5.out.after kk; have g7 := hb'.c 7 rfl; have gf := hb'.f 7; have HS := hid (HW5.out.step r kk); clear hb'))
            all_goals (go_wp2; exact ⟨⟨j + 1, z4, p', d', l ++ [⟨y, tt⟩], by omega, by go_num, rfl, hz4s, HOs2, HS⟩, by simp [intOf]; omega⟩)
        · obtain rfl : j = n := by omega
          have HJ : Hid (jnAt R s = some ([x, f, k, v, t, a], tx, l)) := jnAt_yes HN.out HPc.out (HOA2.out.trans HOs.out)
          have hsm := jnAt_small HJ.out
          have ho8 := hsm.2.1
          have HSm : Hid (Jn.Small ⟨x, dn, k, v, t, a, tx, l⟩) := ⟨Nat.le_trans hsm.1 hs, by show l.length ≤ _; omega, fun y hy => Nat.le_trans (hsm.2.2 y hy) hs⟩
          have HRd : Hid (readJn R s = if Jn.show ⟨x, dn, k, v, t, a, tx, l⟩ = s then some ⟨x, dn, k, v, t, a, tx, l⟩ else none) := by rw [Hid, readJn_yes HJ.out, HDn.out]
          have HSr : Hid (Ous wr p l) := by
            obtain ⟨a', cap', ea, hW⟩ := Or2.w HW.out.row
            cases ea
            exact Wr.sl hW
          have HZ := hid HW.out.box
          have HO := hid HW.out.row
          clear hsm HJ HOs
          have q0 := HZ.out.c 0 rfl
          have q1 := HZ.out.c 1 rfl
          have q2 := HZ.out.c 2 rfl
          have q3 := HZ.out.c 3 rfl
          have q4 := HZ.out.c 4 rfl
          have q5 := HZ.out.c 5 rfl
          have q6 := HZ.out.c 6 rfl
          have q7 := HZ.out.c 7 rfl
          go_wp2_with fail
          refine (sShowJournal wr ⟨x, dn, k, v, t, a, tx, l⟩ p d HSr.out HSm.out).mono ?_
          rintro e w5 ⟨rfl, b5⟩
          have HA5 := hid (HAr.out.below b5 HAr.out.lt)
          have HZ5 := hid (HZ.out.below b5 HZ.out.lt)
          have HO5 := hid (RowO.below HO.out b5)
          have HB5 := hid (HBr.out.trans (b5.mono HBr.out.size))
          clear b5 HAr HZ HO HBr HSr HSm HW q0 q1 q2 q3 q4 q5 q6 q7 cNr
          have q0 := HZ5.out.c 0 rfl
          have q1 := HZ5.out.c 1 rfl
          have q2 := HZ5.out.c 2 rfl
          have q3 := HZ5.out.c 3 rfl
          have q4 := HZ5.out.c 4 rfl
          have q5 := HZ5.out.c 5 rfl
          have q6 := HZ5.out.c 6 rfl
          have q7 := HZ5.out.c 7 rfl
          by_cases hsh : Jn.show ⟨x, dn, k, v, t, a, tx, l⟩ = s
          · have HN2 : Hid (readJn R s = some ⟨x, dn, k, v, t, a, tx, l⟩) := by rw [Hid, HRd.out, if_pos hsh]
            have hne := Own.eqS_yes hsh
            generalize Jn.show ⟨x, dn, k, v, t, a, tx, l⟩ = sh at *
            have a0 := HA5.out.c 0 rfl
            have a1 := HA5.out.c 1 rfl
            have a2 := HA5.out.c 2 rfl
            have a3 := HA5.out.c 3 rfl
            have a4 := HA5.out.c 4 rfl
            have a5 := HA5.out.c 5 rfl
            have a6 := HA5.out.c 6 rfl
            have a7 := HA5.out.c 7 rfl
            have f0 := HA5.out.f 0
            have f1 := HA5.out.f 1
            have f2 := HA5.out.f 2
            have f3 := HA5.out.f 3
            have f4 := HA5.out.f 4
            have f5 := HA5.out.f 5
            have f6 := HA5.out.f 6
            have f7 := HA5.out.f 7
            have HRA := hid (row_set8 HA5.out (.int .i64 x) (.bool dn) (.int .i64 k) (.int .i64 v) (.int .i64 t) (.int .i64 a) (.string tx) (.slice p l.length d))
            have HKK := hid (kept_set8 w5 w.heap.size (.int .i64 x) (.bool dn) (.int .i64 k) (.int .i64 v) (.int .i64 t) (.int .i64 a) (.string tx) (.slice p l.length d))
            have HBf := hid (HB5.out.trans (HKK.out.below HB5.out.size (fun b hb x => by omega)))
            have HIf := hid (RowO.mono (B' := w.heap.size) (RowO.kept HO5.out HKK.out (fun b hb x => by have := (RowO.lt HO5.out hb).1; omega)) (by omega))
            clear HKK HO5 HB5 HA5 HZ5 HRd
            go_wp2
            refine bodyPost_ret (jresults_one rfl _ _ w.heap.size _ _ rfl rfl (load_row HRA.out Tryz.underlying69 rfl (by kernel_rfl))) rfl ?_
            exact ⟨⟨x, dn, k, v, t, a, tx, l⟩, p, d, true, Or.inl ⟨HN2.out, ho8, rfl⟩, rfl, HIf.out, HBf.out⟩
          · have HNo : Hid (readJn R s = none) := by rw [Hid, HRd.out, if_neg hsh]
            have hne := Own.eqS_no hsh
            generalize Jn.show ⟨x, dn, k, v, t, a, tx, l⟩ = sh at *
            clear HO5 HRd
            have a0 := HA5.out.c 0 rfl
            have a1 := HA5.out.c 1 rfl
            have a2 := HA5.out.c 2 rfl
            have a3 := HA5.out.c 3 rfl
            have a4 := HA5.out.c 4 rfl
            have a5 := HA5.out.c 5 rfl
            have a6 := HA5.out.c 6 rfl
            have a7 := HA5.out.c 7 rfl
            have f0 := HA5.out.f 0
            have f1 := HA5.out.f 1
            have f2 := HA5.out.f 2
            have f3 := HA5.out.f 3
            have f4 := HA5.out.f 4
            have f5 := HA5.out.f 5
            have f6 := HA5.out.f 6
            have f7 := HA5.out.f 7
            have HRA := hid (row_set8 HA5.out (.int .i64 0) (.bool false) (.int .i64 0) (.int .i64 0) (.int .i64 0) (.int .i64 0) (.string ⟨#[]⟩) (.slice none 0 0))
            have HBf := hid (HB5.out.trans ((kept_set8 w5 w.heap.size (.int .i64 0) (.bool false) (.int .i64 0) (.int .i64 0) (.int .i64 0) (.int .i64 0) (.string ⟨#[]⟩) (.slice none 0 0)).below HB5.out.size (fun b hb x => by omega)))
            go_wp2
            refine bodyPost_ret (jresults_one rfl _ _ w.heap.size _ _ rfl rfl (load_row HRA.out Tryz.underlying69 rfl (by kernel_rfl))) rfl ?_
            exact ⟨JZ, none, 0, false, Or.inr ⟨HNo.out, rfl, rfl⟩, rfl, jnone_row _ _ _, HBf.out⟩

end Go.Proofs.YtjlkighikfgaeaaGreatDoor.Rd

namespace Go.Proofs.YtjlkighikfgaeaaGreatDoor.Rd
open Go.RowKit Go.Proofs.YtjlkighikfgaeaaGreatDoor.Mem Go.Proofs.YtjlkighikfgaeaaGreatDoor.Sec
open Go.Proofs.YtjlkighikfgaeaaGreatDoor.Var (bl varS)
set_option linter.unusedVariables false

theorem two_steps {R : ByteArray → Int × Nat} {s : ByteArray} {i n : Nat} {x f : Int} {l : List Int} {z : Nat} (h : nums R s i (n + 2) = some (x :: f :: l, z)) :
    ∃ k1 k2, R (rest s i) = (x, k1) ∧ R (rest s (i + k1)) = (f, k2) ∧ k1 ≠ 0 ∧ k2 ≠ 0 := by
  have s1 := nums_step (R := R) (s := s) (i := i) (k := 0) (l := []) (e := i) rfl
  by_cases q1 : (R (rest s i)).2 = 0
  · rw [if_pos q1] at s1
    have := nums_none (k := 1) s1 (n + 1)
    rw [show 1 + (n + 1) = n + 2 by omega] at this
    rw [this] at h
    cases h
  rw [if_neg q1] at s1
  have s2 := nums_step s1
  by_cases q2 : (R (rest s (i + (R (rest s i)).2))).2 = 0
  · rw [if_pos q2] at s2
    have := nums_none (k := 2) s2 n
    rw [show 2 + n = n + 2 by omega] at this
    rw [this] at h
    cases h
  rw [if_neg q2] at s2
  have h7 := nums_split2 (n := n) s2
  rw [h] at h7
  cases hn : nums R s (i + (R (rest s i)).2 + (R (rest s (i + (R (rest s i)).2))).2) n with
  | none => rw [hn] at h7; cases h7
  | some p =>
    rw [hn] at h7
    simp only [Option.map_some, Option.some.injEq, Prod.mk.injEq, List.cons.injEq] at h7
    obtain ⟨⟨rfl, rfl, _⟩, _⟩ := h7
    exact ⟨_, _, rfl, rfl, q1, q2⟩

theorem jvr_of {x : Int} (h0 : 0 ≤ x) (h1 : x ≤ 562949953421311) : vr x = varS x := by unfold vr; rw [if_pos ⟨h0, h1⟩]

theorem jflag_bytes (on : Bool) : ∃ c : UInt8, flag on = ⟨#[c]⟩ ∧ c.toNat ≤ 1 := by
  cases on
  · exact ⟨0, by decide, by decide⟩
  · exact ⟨1, by decide, by decide⟩

theorem no_flagJn (R : ByteArray → Int × Nat) (hR : Reads R) (hT : ∀ s : ByteArray, s.size ≤ maxLen → Tx s (R s)) (s : ByteArray) (hs : s.size ≤ 1048576) : NoJn R s → readJn R s = none := by
  rintro (h | ⟨x, f, l, z, tx, o, h, hf, hj⟩)
  · exact readJn_no h
  have hl := nums_len h
  match l, hl with
  | [k, v, t, a], _ =>
  rw [readJn_yes hj, if_neg]
  intro hsh
  obtain ⟨k1, k2, e1, e2, q1, q2⟩ := two_steps (n := 4) h
  have hb : ∀ i, (rest s i).size ≤ maxLen := fun i => by rw [rest_size]; unfold maxLen; omega
  have r1 := hR _ (hb 5)
  have t1 := (hT _ (hb 5)).1
  have t2 := (hT _ (hb (5 + k1))).2
  rw [e1] at r1 t1
  rw [e2] at t2
  have z1 : (vr x).size = k1 := by rw [jvr_of r1.x0 r1.x1, t1 q1]; have := r1.le; simp at this ⊢; omega
  by_cases hv : Jn.ok ⟨x, decide (f = 1), k, v, t, a, tx, o⟩ = true
  · obtain ⟨c, hc, hc1⟩ := jflag_bytes (decide (f = 1))
    rw [← jn_yes hv] at hsh
    unfold summed Jn.head at hsh
    simp only [] at hsh
    rw [hc] at hsh
    obtain ⟨V, hV⟩ : ∃ V, vr k ++ (vr v ++ (vr t ++ (vr a ++ (Go.Proofs.YtjlkighikfgaeaaGreatDoor.Sec.piece tx ++ (vr (o.length : Int) ++ outsS o))))) = V := ⟨_, rfl⟩
    generalize hX : Go.Proofs.YtjlkighikfgaeaaGreatDoor.Fix.fxS (crc _) 4 = A at hsh
    have hA4 : A.size = 4 := by rw [← hX, Go.Proofs.YtjlkighikfgaeaaGreatDoor.Fix.fxS_size]
    have hs2 : (A ++ ⟨#[106]⟩ ++ vr x) ++ (⟨#[c]⟩ ++ V) = s := by rw [← hsh, ← hV]; simp only [ByteArray.append_assoc]
    have hr := rest_app (A ++ ⟨#[106]⟩ ++ vr x) (⟨#[c]⟩ ++ V) (5 + k1) (by simp only [ByteArray.size_append, hA4, z1]; rfl)
    rw [hs2] at hr
    rw [hr] at t2
    have hg : (bl (⟨#[c]⟩ ++ V)).getD 0 0 = (c.toNat : Int) := by simp [bl]
    rw [hg] at t2
    have := t2 q2 (by omega)
    simp at this
    omega
  · rw [jn_no (by simpa using hv)] at hsh
    have hk := r1.le
    rw [rest_size, ← hsh] at hk
    have h0 : (⟨#[]⟩ : ByteArray).size = 0 := rfl
    rw [h0] at hk
    have : k1 ≤ 0 - 5 := hk
    omega

end Go.Proofs.YtjlkighikfgaeaaGreatDoor.Rd

namespace Go.Proofs.YtjlkighikfgaeaaGreatDoor.Pk
open Go.RowKit Go.Proofs.YtjlkighikfgaeaaGreatDoor.Mem Go.Proofs.YtjlkighikfgaeaaGreatDoor.Sec Go.Proofs.YtjlkighikfgaeaaGreatDoor.Rd
set_option linter.unusedVariables false

/-- Is a text a sector of its kind. -/
def secOk (R : ByteArray → Int × Nat) (k : Nat) (s : ByteArray) : Bool :=
  match k with
  | 0 => (readHost R s).isSome
  | 1 => (readJn R s).isSome
  | 2 => (readFrees R s).isSome
  | 3 => (readVol R s).isSome
  | 4 => (readGroup R s).isSome
  | _ => decide ((s.size : Int) ≤ 16)

def kindOf (i : Nat) : Nat := if i < 3 then 0 else if i < 6 then 1 else if i < 9 then 2 else if i < 13 then 3 else if i < 16 then 4 else 5

/-- Are texts a pool's sectors. -/
def poolOk (R : ByteArray → Int × Nat) (l : List ByteArray) : Bool := decide (l.length = 34) && (List.range 34).all fun i => secOk R (kindOf i) (l.getD i ByteArray.empty)

theorem pool_no1 {R : ByteArray → Int × Nat} {l : List ByteArray} (h : ¬ l.length = 34) : poolOk R l = false := by unfold poolOk; rw [decide_eq_false h]; rfl
theorem pool_no2 {R : ByteArray → Int × Nat} {l : List ByteArray} (i : Nat) (hi : i < 34) (h : secOk R (kindOf i) (l.getD i ByteArray.empty) = false) : poolOk R l = false := by
  unfold poolOk
  have : ((List.range 34).all fun i => secOk R (kindOf i) (l.getD i ByteArray.empty)) = false := by
    rw [List.all_eq_false]
    exact ⟨i, List.mem_range.2 hi, by rw [h]; decide⟩
  rw [this, Bool.and_false]
theorem pool_yes {R : ByteArray → Int × Nat} {l : List ByteArray} (hl : l.length = 34) (h : ∀ i, i < 34 → secOk R (kindOf i) (l.getD i ByteArray.empty) = true) : poolOk R l = true := by
  unfold poolOk
  rw [decide_eq_true hl, Bool.true_and, List.all_eq_true]
  intro i hi
  exact h i (List.mem_range.1 hi)

theorem sHost (R : ByteArray → Int × Nat) (hR : Reads R) (s : ByteArray) (hs : s.size ≤ 1048576) (w : World) :
    Calls Tryz.prog 44 #[.string s] w fun e w' => ∃ b x y : Int, e = .returned (.tuple #[.agg #[.int .i64 b, .int .i64 x, .int .i64 y], .bool (secOk R 0 s)]) ∧ Below w.heap.size w w' := by
  refine (sReadHost R hR s hs w).mono ?_
  rintro e w' ⟨h, b⟩
  unfold secOk
  rcases h with ⟨x, y, z, h, rfl⟩ | ⟨h, rfl⟩
  · exact ⟨x, y, z, by rw [h]; rfl, b⟩
  · exact ⟨0, 0, 0, by rw [h]; rfl, b⟩

theorem iHost (R : ByteArray → Int × Nat) (hR : Reads R) (hT : ∀ s : ByteArray, s.size ≤ maxLen → Tx s (R s)) (s : ByteArray) (hs : s.size ≤ 1048576) (w : World) (u : TypeId) (pv : Value) (hL : Lacks w u pv) (T : Sums w) :
    Calls Tryz.prog 142 #[.string s] w fun e w' => ∃ b x y : Int, e = .returned (.tuple #[.agg #[.int .i64 b, .int .i64 x, .int .i64 y], .bool (secOk R 0 s)]) ∧ Below w.heap.size w w' := by
  refine (iReadHost R hR s hs w u pv hL T).mono ?_
  rintro e w' ⟨h, b⟩
  unfold secOk
  rcases h with ⟨x, y, z, h, rfl⟩ | ⟨h, rfl⟩
  · exact ⟨x, y, z, by rw [h]; rfl, b⟩
  · exact ⟨0, 0, 0, by rw [h]; rfl, b⟩

theorem sJournal (R : ByteArray → Int × Nat) (hR : Reads R) (s : ByteArray) (hs : s.size ≤ 1048576) (w : World) :
    Calls Tryz.prog 46 #[.string s] w fun e w' => ∃ (J : Jn) (a : Option Addr) (cap : Nat), e = .returned (.tuple #[.agg #[.int .i64 J.txn, .bool J.done, .int .i64 J.kind, .int .i64 J.vol, .int .i64 J.to, .int .i64 J.at_, .string J.text, .slice a J.outs.length cap], .bool (secOk R 1 s)]) ∧ Below w.heap.size w w' := by
  refine (sReadJournal R hR s hs w).mono ?_
  rintro e w' ⟨J, a, cap, ok, hi, rfl, _, b⟩
  unfold secOk
  rcases hi with ⟨h, _, rfl⟩ | ⟨h, _, rfl⟩
  · exact ⟨J, a, cap, by rw [h]; rfl, b⟩
  · exact ⟨J, a, cap, by rw [h]; rfl, b⟩

theorem iJournal (R : ByteArray → Int × Nat) (hR : Reads R) (hT : ∀ s : ByteArray, s.size ≤ maxLen → Tx s (R s)) (s : ByteArray) (hs : s.size ≤ 1048576) (w : World) (u : TypeId) (pv : Value) (hL : Lacks w u pv) (T : Sums w) :
    Calls Tryz.prog 38 #[.string s] w fun e w' => ∃ (J : Jn) (a : Option Addr) (cap : Nat), e = .returned (.tuple #[.agg #[.int .i64 J.txn, .bool J.done, .int .i64 J.kind, .int .i64 J.vol, .int .i64 J.to, .int .i64 J.at_, .string J.text, .slice a J.outs.length cap], .bool (secOk R 1 s)]) ∧ Below w.heap.size w w' := by
  refine (iReadJournal R hR s hs (no_flagJn R hR hT s hs) w u pv hL T).mono ?_
  rintro e w' ⟨J, a, cap, ok, hi, rfl, _, b⟩
  unfold secOk
  rcases hi with ⟨h, _, rfl⟩ | ⟨h, _, rfl⟩
  · exact ⟨J, a, cap, by rw [h]; rfl, b⟩
  · exact ⟨J, a, cap, by rw [h]; rfl, b⟩

theorem sFrees (R : ByteArray → Int × Nat) (hR : Reads R) (s : ByteArray) (hs : s.size ≤ 1048576) (w : World) :
    Calls Tryz.prog 47 #[.string s] w fun e w' => ∃ v : Value, e = .returned (.tuple #[v, .bool (secOk R 2 s)]) ∧ Below w.heap.size w w' := by
  refine (sReadFrees R hR s hs w).mono ?_
  rintro e w' ⟨v, l, ok, hi, rfl, _, b⟩
  unfold secOk
  rcases hi with ⟨h, rfl⟩ | ⟨h, _, rfl⟩
  · exact ⟨v, by rw [h]; rfl, b⟩
  · exact ⟨v, by rw [h]; rfl, b⟩

theorem iFrees (R : ByteArray → Int × Nat) (hR : Reads R) (hT : ∀ s : ByteArray, s.size ≤ maxLen → Tx s (R s)) (s : ByteArray) (hs : s.size ≤ 1048576) (w : World) (u : TypeId) (pv : Value) (hL : Lacks w u pv) (T : Sums w) :
    Calls Tryz.prog 143 #[.string s] w fun e w' => ∃ v : Value, e = .returned (.tuple #[v, .bool (secOk R 2 s)]) ∧ Below w.heap.size w w' := by
  refine (iReadFrees R hR s hs w u pv hL T).mono ?_
  rintro e w' ⟨v, l, ok, hi, rfl, _, b⟩
  unfold secOk
  rcases hi with ⟨h, rfl⟩ | ⟨h, _, rfl⟩
  · exact ⟨v, by rw [h]; rfl, b⟩
  · exact ⟨v, by rw [h]; rfl, b⟩

theorem sVol (R : ByteArray → Int × Nat) (hR : Reads R) (s : ByteArray) (hs : s.size ≤ 1048576) (w : World) :
    Calls Tryz.prog 48 #[.string s] w fun e w' => ∃ (h p : Int) (on : Bool) (a : Option Addr) (m cap : Nat), e = .returned (.tuple #[.agg #[.int .i64 h, .int .i64 p, .bool on, .slice a m cap], .bool (secOk R 3 s)]) ∧ Below w.heap.size w w' := by
  refine (sReadVol R hR s hs w).mono ?_
  rintro r w' ⟨h, p, on, l, a, cap, ok, hi, rfl, _, b⟩
  unfold secOk
  rcases hi with ⟨q, _, rfl⟩ | ⟨q, _, _, _, _, rfl⟩
  · exact ⟨h, p, on, a, l.length, cap, by rw [q]; rfl, b⟩
  · exact ⟨h, p, on, a, l.length, cap, by rw [q]; rfl, b⟩

theorem iVol (R : ByteArray → Int × Nat) (hR : Reads R) (hT : ∀ s : ByteArray, s.size ≤ maxLen → Tx s (R s)) (s : ByteArray) (hs : s.size ≤ 1048576) (w : World) (u : TypeId) (pv : Value) (hL : Lacks w u pv) (T : Sums w) :
    Calls Tryz.prog 144 #[.string s] w fun e w' => ∃ (h p : Int) (on : Bool) (a : Option Addr) (m cap : Nat), e = .returned (.tuple #[.agg #[.int .i64 h, .int .i64 p, .bool on, .slice a m cap], .bool (secOk R 3 s)]) ∧ Below w.heap.size w w' := by
  refine (iReadVol R hR s hs (no_flag R hR hT s hs) w u pv hL T).mono ?_
  rintro r w' ⟨h, p, on, l, a, cap, ok, hi, rfl, _, b⟩
  unfold secOk
  rcases hi with ⟨q, _, rfl⟩ | ⟨q, _, _, _, _, rfl⟩
  · exact ⟨h, p, on, a, l.length, cap, by rw [q]; rfl, b⟩
  · exact ⟨h, p, on, a, l.length, cap, by rw [q]; rfl, b⟩

theorem sGroup (R : ByteArray → Int × Nat) (hR : Reads R) (s : ByteArray) (hs : s.size ≤ 1048576) (w : World) :
    Calls Tryz.prog 49 #[.string s] w fun e w' => ∃ (h p : Int) (a : Option Addr) (m cap : Nat), e = .returned (.tuple #[.agg #[.int .i64 h, .int .i64 p, .slice a m cap], .bool (secOk R 4 s)]) ∧ Below w.heap.size w w' := by
  refine (sReadGroup R hR s hs w).mono ?_
  rintro r w' ⟨h, p, l, a, cap, ok, hi, rfl, _, b⟩
  unfold secOk
  rcases hi with ⟨q, _, rfl⟩ | ⟨q, _, _, _, rfl⟩
  · exact ⟨h, p, a, l.length, cap, by rw [q]; rfl, b⟩
  · exact ⟨h, p, a, l.length, cap, by rw [q]; rfl, b⟩

theorem iGroup (R : ByteArray → Int × Nat) (hR : Reads R) (hT : ∀ s : ByteArray, s.size ≤ maxLen → Tx s (R s)) (s : ByteArray) (hs : s.size ≤ 1048576) (w : World) (u : TypeId) (pv : Value) (hL : Lacks w u pv) (T : Sums w) :
    Calls Tryz.prog 145 #[.string s] w fun e w' => ∃ (h p : Int) (a : Option Addr) (m cap : Nat), e = .returned (.tuple #[.agg #[.int .i64 h, .int .i64 p, .slice a m cap], .bool (secOk R 4 s)]) ∧ Below w.heap.size w w' := by
  refine (iReadGroup R hR s hs w u pv hL T).mono ?_
  rintro r w' ⟨h, p, l, a, cap, ok, hi, rfl, _, b⟩
  unfold secOk
  rcases hi with ⟨q, _, rfl⟩ | ⟨q, _, _, _, rfl⟩
  · exact ⟨h, p, a, l.length, cap, by rw [q]; rfl, b⟩
  · exact ⟨h, p, a, l.length, cap, by rw [q]; rfl, b⟩

theorem sec0 (m : Nat) (h : m < 3) : Sector.sectorOf 0 (m : Int) = ((0 + m : Nat) : Int) := by
  have h1 := Sector.yes 0 (m : Int) (by decide) (by omega) (by show (m : Int) < 3; omega)
  have h2 : Sector.S 0 = 0 := by decide
  rw [h2] at h1
  have h3 : Sector.sectorOf 0 (m : Int) = (m : Int) + 0 := h1
  rw [h3]; omega
theorem kind0 (m : Nat) (h : m < 3) : kindOf (0 + m) = 0 := by unfold kindOf; rw [if_pos (by omega)]

theorem sec1 (m : Nat) (h : m < 3) : Sector.sectorOf 1 (m : Int) = ((3 + m : Nat) : Int) := by
  have h1 := Sector.yes 1 (m : Int) (by decide) (by omega) (by show (m : Int) < 3; omega)
  have h2 : Sector.S 1 = 3 := by decide
  rw [h2] at h1
  have h3 : Sector.sectorOf 1 (m : Int) = (m : Int) + 3 := h1
  rw [h3]; omega
theorem kind1 (m : Nat) (h : m < 3) : kindOf (3 + m) = 1 := by unfold kindOf; rw [if_neg (by omega)]; rw [if_pos (by omega)]

theorem sec2 (m : Nat) (h : m < 3) : Sector.sectorOf 2 (m : Int) = ((6 + m : Nat) : Int) := by
  have h1 := Sector.yes 2 (m : Int) (by decide) (by omega) (by show (m : Int) < 3; omega)
  have h2 : Sector.S 2 = 6 := by decide
  rw [h2] at h1
  have h3 : Sector.sectorOf 2 (m : Int) = (m : Int) + 6 := h1
  rw [h3]; omega
theorem kind2 (m : Nat) (h : m < 3) : kindOf (6 + m) = 2 := by unfold kindOf; rw [if_neg (by omega)]; rw [if_neg (by omega)]; rw [if_pos (by omega)]

theorem sec3 (m : Nat) (h : m < 4) : Sector.sectorOf 3 (m : Int) = ((9 + m : Nat) : Int) := by
  have h1 := Sector.yes 3 (m : Int) (by decide) (by omega) (by show (m : Int) < 4; omega)
  have h2 : Sector.S 3 = 9 := by decide
  rw [h2] at h1
  have h3 : Sector.sectorOf 3 (m : Int) = (m : Int) + 9 := h1
  rw [h3]; omega
theorem kind3 (m : Nat) (h : m < 4) : kindOf (9 + m) = 3 := by unfold kindOf; rw [if_neg (by omega)]; rw [if_neg (by omega)]; rw [if_neg (by omega)]; rw [if_pos (by omega)]

theorem sec4 (m : Nat) (h : m < 3) : Sector.sectorOf 4 (m : Int) = ((13 + m : Nat) : Int) := by
  have h1 := Sector.yes 4 (m : Int) (by decide) (by omega) (by show (m : Int) < 3; omega)
  have h2 : Sector.S 4 = 13 := by decide
  rw [h2] at h1
  have h3 : Sector.sectorOf 4 (m : Int) = (m : Int) + 13 := h1
  rw [h3]; omega
theorem kind4 (m : Nat) (h : m < 3) : kindOf (13 + m) = 4 := by unfold kindOf; rw [if_neg (by omega)]; rw [if_neg (by omega)]; rw [if_neg (by omega)]; rw [if_neg (by omega)]; rw [if_pos (by omega)]

theorem sec5 (m : Nat) (h : m < 18) : Sector.sectorOf 5 (m : Int) = ((16 + m : Nat) : Int) := by
  have h1 := Sector.yes 5 (m : Int) (by decide) (by omega) (by show (m : Int) < 18; omega)
  have h2 : Sector.S 5 = 16 := by decide
  rw [h2] at h1
  have h3 : Sector.sectorOf 5 (m : Int) = (m : Int) + 16 := h1
  rw [h3]; omega
theorem kind5 (m : Nat) (h : m < 18) : kindOf (16 + m) = 5 := by unfold kindOf; rw [if_neg (by omega)]; rw [if_neg (by omega)]; rw [if_neg (by omega)]; rw [if_neg (by omega)]; rw [if_neg (by omega)]

set_option maxRecDepth 100000 in
set_option maxHeartbeats 1000000 in
theorem isSectorOf (R : ByteArray → Int × Nat) (hR : Reads R) (hT : ∀ s : ByteArray, s.size ≤ maxLen → Tx s (R s)) (k : Nat) (hk : k < 6) (s : ByteArray) (hs : s.size ≤ 1048576) (w : World) (u : TypeId) (pv : Value) (hL : Lacks w u pv) (T : Sums w) :
    Calls Tryz.prog 84 #[.int .i64 (k : Int), .string s] w fun e w' => e = .returned (.bool (secOk R k s)) ∧ Below w.heap.size w w' := by
  have HR := hid hR
  have HTx := hid hT
  have HL := hid hL
  have HT := hid T
  have hc : k = 0 ∨ k = 1 ∨ k = 2 ∨ k = 3 ∨ k = 4 ∨ k = 5 := by omega
  clear hR hT hL T hk
  rcases hc with rfl | rfl | rfl | rfl | rfl | rfl
  · go_enter Tryz.func84, Tryz.ntmps84
    go_wp2_with fail
    refine (iHost R HR.out HTx.out s hs w u pv HL.out HT.out).mono ?_
    rintro e w1 ⟨b, x, y, rfl, b1⟩
    have HB := hid b1
    clear b1
    generalize hq : secOk R 0 s = q
    have HQ := hid hq
    clear hq
    go_wp2
    go_ret
    exact ⟨by rw [HQ.out]; rfl, HB.out⟩
  · go_enter Tryz.func84, Tryz.ntmps84
    go_wp2_with fail
    refine (iJournal R HR.out HTx.out s hs w u pv HL.out HT.out).mono ?_
    rintro e w1 ⟨J, a, cap, rfl, b1⟩
    have HB := hid b1
    clear b1
    generalize hq : secOk R 1 s = q
    have HQ := hid hq
    clear hq
    go_wp2
    go_ret
    exact ⟨by rw [HQ.out]; rfl, HB.out⟩
  · go_enter Tryz.func84, Tryz.ntmps84
    go_wp2_with fail
    refine (iFrees R HR.out HTx.out s hs w u pv HL.out HT.out).mono ?_
    rintro e w1 ⟨v, rfl, b1⟩
    have HB := hid b1
    clear b1
    generalize hq : secOk R 2 s = q
    have HQ := hid hq
    clear hq
    go_wp2
    go_ret
    exact ⟨by rw [HQ.out]; rfl, HB.out⟩
  · go_enter Tryz.func84, Tryz.ntmps84
    go_wp2_with fail
    refine (iVol R HR.out HTx.out s hs w u pv HL.out HT.out).mono ?_
    rintro e w1 ⟨h, p, on, a, m, cap, rfl, b1⟩
    have HB := hid b1
    clear b1
    generalize hq : secOk R 3 s = q
    have HQ := hid hq
    clear hq
    go_wp2
    go_ret
    exact ⟨by rw [HQ.out]; rfl, HB.out⟩
  · go_enter Tryz.func84, Tryz.ntmps84
    go_wp2_with fail
    refine (iGroup R HR.out HTx.out s hs w u pv HL.out HT.out).mono ?_
    rintro e w1 ⟨h, p, a, m, cap, rfl, b1⟩
    have HB := hid b1
    clear b1
    generalize hq : secOk R 4 s = q
    have HQ := hid hq
    clear hq
    go_wp2
    go_ret
    exact ⟨by rw [HQ.out]; rfl, HB.out⟩
  · have HQ : Hid (secOk R 5 s = decide ((s.size : Int) ≤ 16)) := rfl
    go_enter Tryz.func84, Tryz.ntmps84
    go_wp2
    go_ret
    exact ⟨by rw [HQ.out]; rfl, Below.refl _ _⟩

end Go.Proofs.YtjlkighikfgaeaaGreatDoor.Pk

namespace Go.Proofs.YtjlkighikfgaeaaGreatDoor.Pk
open Go.RowKit Go.Proofs.YtjlkighikfgaeaaGreatDoor.Mem Go.Proofs.YtjlkighikfgaeaaGreatDoor.Sec Go.Proofs.YtjlkighikfgaeaaGreatDoor.Rd
set_option linter.unusedVariables false

theorem lit3 : ((3 : Nat) : Int) = 3 := rfl
theorem lit4 : ((4 : Nat) : Int) = 4 := rfl

theorem getD_size {l : List ByteArray} {n : Nat} (h : ∀ s ∈ l, s.size ≤ n) (i : Nat) : (l.getD i ByteArray.empty).size ≤ n := by
  rw [List.getD]
  cases hi : l[i]? with
  | none => exact Nat.zero_le _
  | some s => exact h s (List.mem_of_getElem? hi)

/-- Every cell of a slice of thirty-four texts, in every world in which nothing that was there has turned. -/
theorem cells34 {w : World} {b o : Nat} {l : List ByteArray} (S : Strs w (some ⟨b, o, none⟩) l) (h : l.length = 34) (w' : World) (k : Below w.heap.size w w') (i : Nat) (hi : i < 34) : w'.cell? ⟨b, o + i, none⟩ = some (.string (l.getD i ByteArray.empty)) := by
  obtain ⟨b', o', e, hc⟩ := (Sl.below S k) i (by omega)
  cases e
  exact hc

set_option maxRecDepth 100000 in
set_option maxHeartbeats 4000000 in
theorem sPoolOk (R : ByteArray → Int × Nat) (hR : Reads R) (w : World) (a : Option Addr) (cap : Nat) (l : List ByteArray) (S : Strs w a l) (hl : l.length ≤ 1048576) (hz : ∀ s ∈ l, s.size ≤ 1048576) :
    Calls Tryz.prog 11 #[.slice a l.length cap] w fun e w' => e = .returned (.bool (poolOk R l)) ∧ Below w.heap.size w w' := by
  have HR := hid hR
  have HZ := hid (getD_size hz)
  have N1 := hid (@pool_no1 R l)
  have N2 := hid (@pool_no2 R l)
  have NY := hid (@pool_yes R l)
  have HS := hid S
  clear hR hz S
  generalize poolOk R l = q at *
  by_cases h34 : l.length = 34
  rotate_left
  · have hb : ((l.length : Int) != 34) = true := by simp; omega
    have HF := hid (N1.out h34)
    clear N1 N2 NY
    go_enter Tryz.func11, Tryz.ntmps11
    go_wp2
    go_ret
    exact ⟨by rw [HF.out]; rfl, Below.refl _ _⟩
  obtain ⟨b, o, rfl, _⟩ := HS.out 0 (by omega)
  have HCell := hid (cells34 HS.out h34)
  have H34 := hid h34
  have hlen : (l.length : Int) = 34 := by omega
  rw [h34]
  clear h34 N1 HS hl hlen
  go_enter Tryz.func11, Tryz.ntmps11
  go_wp2
  go_loopw [3] (fun i wr => ∃ m : Nat, m ≤ 3 ∧ i = .int .i64 (m : Int) ∧ Hid (∀ j, j < m → secOk R (kindOf (0 + j)) (l.getD (0 + j) ByteArray.empty) = true ∧ secOk R (kindOf (3 + j)) (l.getD (3 + j) ByteArray.empty) = true ∧ secOk R (kindOf (6 + j)) (l.getD (6 + j) ByteArray.empty) = true) ∧ Hid (Below w.heap.size w wr)) (fun i _ => 3 - (intOf i).toNat)
  case atStart => exact ⟨0, Nat.zero_le _, rfl, fun j hj => by omega, Below.refl _ _⟩
  case round =>
    obtain ⟨m, hmm, rfl, HI, HB⟩ := hrel
    by_cases hlt : m < 3
    · have hm0 : m < 3 := hlt
      have hm1 : m < 3 := hlt
      have hm2 : m < 3 := hlt
      go_wp2_with fail
      refine (Sector.spec_sector 0 (m : Int) wr).mono ?_
      rintro e wsa ⟨rfl, bs⟩
      have HBsa := hid (HB.out.trans (bs.mono HB.out.size))
      clear bs
      rw [sec0 m hm0]
      obtain ⟨pa, hpa⟩ : ∃ p : Nat, p = 0 + m := ⟨_, rfl⟩
      have HPa := hid hpa
      have hla : (pa : Int) < 34 := by omega
      have hca := HCell.out wsa HBsa.out pa (by omega)
      have hza := HZ.out pa
      have HOa : Hid (kindOf pa = 0) := by rw [Hid, hpa]; exact kind0 m hm0
      rw [← hpa]
      clear hpa
      obtain ⟨sa, hsa⟩ : ∃ s, s = l.getD pa ByteArray.empty := ⟨_, rfl⟩
      have HSta := hid hsa
      rw [← hsa] at hca hza
      clear hsa
      go_wp2_with fail
      refine (sHost R HR.out sa hza wsa).mono ?_
      rintro e wa ⟨x0, x1, x2, rfl, b2⟩
      have HBa := hid (HBsa.out.trans (b2.mono HBsa.out.size))
      have HQa : Hid (secOk R (kindOf pa) (l.getD pa ByteArray.empty) = secOk R 0 sa) := by rw [Hid, HOa.out, HSta.out]
      clear b2 hca hza
      generalize secOk R 0 sa = qa at *
      obtain ⟨wba, hwba, eba, _, BB⟩ := one_new wa [.int .i64 x0, .int .i64 x1, .int .i64 x2] 78
      have HBba := hid (HBa.out.trans (BB.mono HBa.out.size))
      clear BB
      go_wp2_with fail
      refine (Sector.spec_sector 1 (m : Int) wba).mono ?_
      rintro e wsb ⟨rfl, bs⟩
      have HBsb := hid (HBba.out.trans (bs.mono HBba.out.size))
      clear bs
      rw [sec1 m hm1]
      obtain ⟨pb, hpb⟩ : ∃ p : Nat, p = 3 + m := ⟨_, rfl⟩
      have HPb := hid hpb
      have hlb : (pb : Int) < 34 := by omega
      have hcb := HCell.out wsb HBsb.out pb (by omega)
      have hzb := HZ.out pb
      have HOb : Hid (kindOf pb = 1) := by rw [Hid, hpb]; exact kind1 m hm1
      rw [← hpb]
      clear hpb
      obtain ⟨sb, hsb⟩ : ∃ s, s = l.getD pb ByteArray.empty := ⟨_, rfl⟩
      have HStb := hid hsb
      rw [← hsb] at hcb hzb
      clear hsb
      go_wp2_with fail
      refine (sJournal R HR.out sb hzb wsb).mono ?_
      rintro e wb ⟨J, ja, jc, rfl, b2⟩
      have HBb := hid (HBsb.out.trans (b2.mono HBsb.out.size))
      have HQb : Hid (secOk R (kindOf pb) (l.getD pb ByteArray.empty) = secOk R 1 sb) := by rw [Hid, HOb.out, HStb.out]
      clear b2 hcb hzb
      generalize secOk R 1 sb = qb at *
      obtain ⟨wbb, hwbb, ebb, _, BB⟩ := one_new wb [.int .i64 J.txn, .bool J.done, .int .i64 J.kind, .int .i64 J.vol, .int .i64 J.to, .int .i64 J.at_, .string J.text, .slice ja J.outs.length jc] 69
      have HBbb := hid (HBb.out.trans (BB.mono HBb.out.size))
      clear BB
      go_wp2_with fail
      refine (Sector.spec_sector 2 (m : Int) wbb).mono ?_
      rintro e wsc ⟨rfl, bs⟩
      have HBsc := hid (HBbb.out.trans (bs.mono HBbb.out.size))
      clear bs
      rw [sec2 m hm2]
      obtain ⟨pc, hpc⟩ : ∃ p : Nat, p = 6 + m := ⟨_, rfl⟩
      have HPc := hid hpc
      have hlc : (pc : Int) < 34 := by omega
      have hcc := HCell.out wsc HBsc.out pc (by omega)
      have hzc := HZ.out pc
      have HOc : Hid (kindOf pc = 2) := by rw [Hid, hpc]; exact kind2 m hm2
      rw [← hpc]
      clear hpc
      obtain ⟨sc, hsc⟩ : ∃ s, s = l.getD pc ByteArray.empty := ⟨_, rfl⟩
      have HStc := hid hsc
      rw [← hsc] at hcc hzc
      clear hsc
      go_wp2_with fail
      refine (sFrees R HR.out sc hzc wsc).mono ?_
      rintro e wc ⟨fv, rfl, b2⟩
      have HBc := hid (HBsc.out.trans (b2.mono HBsc.out.size))
      have HQc : Hid (secOk R (kindOf pc) (l.getD pc ByteArray.empty) = secOk R 2 sc) := by rw [Hid, HOc.out, HStc.out]
      clear b2 hcc hzc
      generalize secOk R 2 sc = qc at *

      cases qa with
      | false =>
        have HF := hid (N2.out pa (by omega) (HQa.out.trans rfl))
        clear N2 NY
        go_wp2
        go_ret
        exact ⟨by rw [HF.out]; rfl, HBc.out⟩
      | true =>
        cases qb with
        | false =>
          have HF := hid (N2.out pb (by omega) (HQb.out.trans rfl))
          clear N2 NY
          go_wp2
          go_ret
          exact ⟨by rw [HF.out]; rfl, HBc.out⟩
        | true =>
          cases qc with
          | false =>
            have HF := hid (N2.out pc (by omega) (HQc.out.trans rfl))
            clear N2 NY
            go_wp2
            go_ret
            exact ⟨by rw [HF.out]; rfl, HBc.out⟩
          | true =>
            have HI2 : Hid (∀ j, j < m + 1 → secOk R (kindOf (0 + j)) (l.getD (0 + j) ByteArray.empty) = true ∧ secOk R (kindOf (3 + j)) (l.getD (3 + j) ByteArray.empty) = true ∧ secOk R (kindOf (6 + j)) (l.getD (6 + j) ByteArray.empty) = true) := fun j hj => by
              by_cases h : j = m
              · subst h
                refine ⟨?_, ?_, ?_⟩
                · rw [← HPa.out]; exact HQa.out
                · rw [← HPb.out]; exact HQb.out
                · rw [← HPc.out]; exact HQc.out
              · exact HI.out j (by omega)
            go_wp2
            exact ⟨⟨m + 1, by omega, by go_num, HI2, HBc⟩, by simp [intOf]; omega⟩
    · obtain rfl : m = 3 := by omega
      obtain ⟨wo1, hwo⟩ : ∃ wo, wo = wr := ⟨_, rfl⟩
      subst hwo
      have HI1 := HI
      have HBo1 := HB
      clear HI HB hlt hmm
      simp only [lit3]
      go_wp2
      go_loopw [10] (fun i wr => ∃ m : Nat, m ≤ 4 ∧ i = .int .i64 (m : Int) ∧ Hid (∀ j, j < m → secOk R (kindOf (9 + j)) (l.getD (9 + j) ByteArray.empty) = true) ∧ Hid (Below w.heap.size w wr)) (fun i _ => 4 - (intOf i).toNat)
      case atStart => exact ⟨0, Nat.zero_le _, rfl, fun j hj => by omega, HBo1⟩
      case round =>
        obtain ⟨m, hmm, rfl, HI, HB⟩ := hrel
        by_cases hlt : m < 4
        · have hm3 : m < 4 := hlt
          go_wp2_with fail
          refine (Sector.spec_sector 3 (m : Int) wr).mono ?_
          rintro e wsa ⟨rfl, bs⟩
          have HBsa := hid (HB.out.trans (bs.mono HB.out.size))
          clear bs
          rw [sec3 m hm3]
          obtain ⟨pa, hpa⟩ : ∃ p : Nat, p = 9 + m := ⟨_, rfl⟩
          have HPa := hid hpa
          have hla : (pa : Int) < 34 := by omega
          have hca := HCell.out wsa HBsa.out pa (by omega)
          have hza := HZ.out pa
          have HOa : Hid (kindOf pa = 3) := by rw [Hid, hpa]; exact kind3 m hm3
          rw [← hpa]
          clear hpa
          obtain ⟨sa, hsa⟩ : ∃ s, s = l.getD pa ByteArray.empty := ⟨_, rfl⟩
          have HSta := hid hsa
          rw [← hsa] at hca hza
          clear hsa
          go_wp2_with fail
          refine (sVol R HR.out sa hza wsa).mono ?_
          rintro e wa ⟨h0, h1, on, va, vm, vc, rfl, b2⟩
          have HBa := hid (HBsa.out.trans (b2.mono HBsa.out.size))
          have HQa : Hid (secOk R (kindOf pa) (l.getD pa ByteArray.empty) = secOk R 3 sa) := by rw [Hid, HOa.out, HSta.out]
          clear b2 hca hza
          generalize secOk R 3 sa = qa at *
          obtain ⟨wba, hwba, eba, _, BB⟩ := one_new wa [.int .i64 h0, .int .i64 h1, .bool on, .slice va vm vc] 84
          have HBba := hid (HBa.out.trans (BB.mono HBa.out.size))
          clear BB

          cases qa with
          | false =>
            have HF := hid (N2.out pa (by omega) (HQa.out.trans rfl))
            clear N2 NY
            go_wp2
            go_ret
            exact ⟨by rw [HF.out]; rfl, HBba.out⟩
          | true =>
            have HI2 : Hid (∀ j, j < m + 1 → secOk R (kindOf (9 + j)) (l.getD (9 + j) ByteArray.empty) = true) := fun j hj => by
              by_cases h : j = m
              · subst h; rw [← HPa.out]; exact HQa.out
              · exact HI.out j (by omega)
            go_wp2
            exact ⟨⟨m + 1, by omega, by go_num, HI2, HBba⟩, by simp [intOf]; omega⟩
        · obtain rfl : m = 4 := by omega
          obtain ⟨wo2, hwo⟩ : ∃ wo, wo = wr := ⟨_, rfl⟩
          subst hwo
          have HI2 := HI
          have HBo2 := HB
          clear HI HB hlt hmm
          simp only [lit4]
          go_wp2
          go_loopw [13] (fun i wr => ∃ m : Nat, m ≤ 3 ∧ i = .int .i64 (m : Int) ∧ Hid (∀ j, j < m → secOk R (kindOf (13 + j)) (l.getD (13 + j) ByteArray.empty) = true) ∧ Hid (Below w.heap.size w wr)) (fun i _ => 3 - (intOf i).toNat)
          case atStart => exact ⟨0, Nat.zero_le _, rfl, fun j hj => by omega, HBo2⟩
          case round =>
            obtain ⟨m, hmm, rfl, HI, HB⟩ := hrel
            by_cases hlt : m < 3
            · have hm4 : m < 3 := hlt
              go_wp2_with fail
              refine (Sector.spec_sector 4 (m : Int) wr).mono ?_
              rintro e wsa ⟨rfl, bs⟩
              have HBsa := hid (HB.out.trans (bs.mono HB.out.size))
              clear bs
              rw [sec4 m hm4]
              obtain ⟨pa, hpa⟩ : ∃ p : Nat, p = 13 + m := ⟨_, rfl⟩
              have HPa := hid hpa
              have hla : (pa : Int) < 34 := by omega
              have hca := HCell.out wsa HBsa.out pa (by omega)
              have hza := HZ.out pa
              have HOa : Hid (kindOf pa = 4) := by rw [Hid, hpa]; exact kind4 m hm4
              rw [← hpa]
              clear hpa
              obtain ⟨sa, hsa⟩ : ∃ s, s = l.getD pa ByteArray.empty := ⟨_, rfl⟩
              have HSta := hid hsa
              rw [← hsa] at hca hza
              clear hsa
              go_wp2_with fail
              refine (sGroup R HR.out sa hza wsa).mono ?_
              rintro e wa ⟨h0, h1, va, vm, vc, rfl, b2⟩
              have HBa := hid (HBsa.out.trans (b2.mono HBsa.out.size))
              have HQa : Hid (secOk R (kindOf pa) (l.getD pa ByteArray.empty) = secOk R 4 sa) := by rw [Hid, HOa.out, HSta.out]
              clear b2 hca hza
              generalize secOk R 4 sa = qa at *
              obtain ⟨wba, hwba, eba, _, BB⟩ := one_new wa [.int .i64 h0, .int .i64 h1, .slice va vm vc] 88
              have HBba := hid (HBa.out.trans (BB.mono HBa.out.size))
              clear BB

              cases qa with
              | false =>
                have HF := hid (N2.out pa (by omega) (HQa.out.trans rfl))
                clear N2 NY
                go_wp2
                go_ret
                exact ⟨by rw [HF.out]; rfl, HBba.out⟩
              | true =>
                have HI2 : Hid (∀ j, j < m + 1 → secOk R (kindOf (13 + j)) (l.getD (13 + j) ByteArray.empty) = true) := fun j hj => by
                  by_cases h : j = m
                  · subst h; rw [← HPa.out]; exact HQa.out
                  · exact HI.out j (by omega)
                go_wp2
                exact ⟨⟨m + 1, by omega, by go_num, HI2, HBba⟩, by simp [intOf]; omega⟩
            · obtain rfl : m = 3 := by omega
              obtain ⟨wo3, hwo⟩ : ∃ wo, wo = wr := ⟨_, rfl⟩
              subst hwo
              have HI3 := HI
              have HBo3 := HB
              clear HI HB hlt hmm
              simp only [lit3]
              go_wp2
              go_loopw [16] (fun i wr => ∃ m : Nat, m ≤ 18 ∧ i = .int .i64 (m : Int) ∧ Hid (∀ j, j < m → secOk R (kindOf (16 + j)) (l.getD (16 + j) ByteArray.empty) = true) ∧ Hid (Below w.heap.size w wr)) (fun i _ => 18 - (intOf i).toNat)
              case atStart => exact ⟨0, Nat.zero_le _, rfl, fun j hj => by omega, HBo3⟩
              case round =>
                obtain ⟨m, hmm, rfl, HI, HB⟩ := hrel
                by_cases hlt : m < 18
                · have hm5 : m < 18 := hlt
                  go_wp2_with fail
                  refine (Sector.spec_sector 5 (m : Int) wr).mono ?_
                  rintro e wsa ⟨rfl, bs⟩
                  have HBsa := hid (HB.out.trans (bs.mono HB.out.size))
                  clear bs
                  rw [sec5 m hm5]
                  obtain ⟨pa, hpa⟩ : ∃ p : Nat, p = 16 + m := ⟨_, rfl⟩
                  have HPa := hid hpa
                  have hla : (pa : Int) < 34 := by omega
                  have hca := HCell.out wsa HBsa.out pa (by omega)
                  have hza := HZ.out pa
                  have HOa : Hid (kindOf pa = 5) := by rw [Hid, hpa]; exact kind5 m hm5
                  rw [← hpa]
                  clear hpa
                  obtain ⟨sa, hsa⟩ : ∃ s, s = l.getD pa ByteArray.empty := ⟨_, rfl⟩
                  have HSta := hid hsa
                  rw [← hsa] at hca hza
                  clear hsa

                  have HQa : Hid (secOk R (kindOf pa) (l.getD pa ByteArray.empty) = decide ((sa.size : Int) ≤ 16)) := by rw [Hid, HOa.out, HSta.out]; rfl
                  by_cases h16 : (sa.size : Int) ≤ 16
                  · have HI2 : Hid (∀ j, j < m + 1 → secOk R (kindOf (16 + j)) (l.getD (16 + j) ByteArray.empty) = true) := fun j hj => by
                      by_cases h : j = m
                      · subst h; rw [← HPa.out, HQa.out, decide_eq_true h16]
                      · exact HI.out j (by omega)
                    go_wp2
                    exact ⟨⟨m + 1, by omega, by go_num, HI2, HBsa⟩, by simp [intOf]; omega⟩
                  · have HF := hid (N2.out pa (by omega) (by rw [HQa.out, decide_eq_false h16]))
                    clear N2 NY
                    go_wp2
                    go_ret
                    exact ⟨by rw [HF.out]; rfl, HBsa.out⟩
                · obtain rfl : m = 18 := by omega
                  have HF := hid (NY.out H34.out (fun i hi => by
                    by_cases c0 : i < 3
                    · have := (HI1.out i c0).1; rwa [Nat.zero_add] at this
                    by_cases c1 : i < 6
                    · have := (HI1.out (i - 3) (by omega)).2.1; rwa [show 3 + (i - 3) = i by omega] at this
                    by_cases c2 : i < 9
                    · have := (HI1.out (i - 6) (by omega)).2.2; rwa [show 6 + (i - 6) = i by omega] at this
                    by_cases c3 : i < 13
                    · have := HI2.out (i - 9) (by omega); rwa [show 9 + (i - 9) = i by omega] at this
                    by_cases c4 : i < 16
                    · have := HI3.out (i - 13) (by omega); rwa [show 13 + (i - 13) = i by omega] at this
                    · have := HI.out (i - 16) (by omega); rwa [show 16 + (i - 16) = i by omega] at this))
                  clear N2 NY
                  go_wp2
                  go_ret
                  exact ⟨by rw [HF.out]; rfl, HB.out⟩

end Go.Proofs.YtjlkighikfgaeaaGreatDoor.Pk

namespace Go.Proofs.YtjlkighikfgaeaaGreatDoor.Re
open Go.RowKit Go.Proofs.YtjlkighikfgaeaaGreatDoor.Mem Go.Proofs.YtjlkighikfgaeaaGreatDoor.Sec Go.Proofs.YtjlkighikfgaeaaGreatDoor.Rd Go.Proofs.YtjlkighikfgaeaaGreatDoor.Pk
set_option linter.unusedVariables false

/-- A journal that is done. -/
def JD (t : Int) : Jn := ⟨t, true, 0, 0, 0, 0, ⟨#[]⟩, []⟩

/-- The sectors with some written, in order. -/
def outs (l : List ByteArray) (o : List Ou) : List ByteArray := o.foldl (fun l x => l.set x.sec.toNat x.text) l

def redone (J : Jn) (h : Nat) (l : List ByteArray) : List ByteArray := (outs l J.outs).set (3 + h) (JD J.txn).show

def redo1 (R : ByteArray → Int × Nat) (h : Nat) (l : List ByteArray) : List ByteArray × Bool :=
  match readJn R (l.getD (3 + h) ByteArray.empty) with
  | some J => if J.done then (l, false) else (redone J h l, true)
  | none => (l, false)

def redo (R : ByteArray → Int × Nat) (l : List ByteArray) (h : Int) : List ByteArray × Bool :=
  if poolOk R l then (if 0 ≤ h ∧ h < 3 then redo1 R h.toNat l else (l, false)) else ([], false)

def step (R : ByteArray → Int × Nat) (h : Nat) (l : List ByteArray) : List ByteArray := if poolOk R l then (redo1 R h l).1 else l

def steps (R : ByteArray → Int × Nat) (l : List ByteArray) : Nat → List ByteArray
  | 0 => l
  | k + 1 => step R k (steps R l k)

def settle (R : ByteArray → Int × Nat) (l : List ByteArray) : List ByteArray := if poolOk R l then steps R l 3 else []

theorem outs_length (o : List Ou) : ∀ l, (outs l o).length = l.length := by
  induction o with
  | nil => intro l; rfl
  | cons x o ih => intro l; show (outs (l.set x.sec.toNat x.text) o).length = _; rw [ih, List.length_set]

theorem outs_take (l : List ByteArray) (o : List Ou) (k : Nat) (h : k < o.length) : outs l (o.take (k + 1)) = (outs l (o.take k)).set (o.getD k Ou.none).sec.toNat (o.getD k Ou.none).text := by
  unfold outs
  rw [List.take_add_one, List.foldl_append]
  simp [List.getD, h]

theorem outs_size {n : Nat} (o : List Ou) (ho : ∀ x ∈ o, x.text.size ≤ n) : ∀ l : List ByteArray, (∀ s ∈ l, s.size ≤ n) → ∀ s ∈ outs l o, s.size ≤ n := by
  induction o with
  | nil => intro l h; exact h
  | cons x o ih =>
    intro l h
    refine ih (fun y hy => ho y (List.mem_cons_of_mem _ hy)) _ (fun s hs => ?_)
    rcases List.mem_or_eq_of_mem_set hs with hs | rfl
    · exact h s hs
    · exact ho x (List.mem_cons_self ..)

theorem readJn_is {R : ByteArray → Int × Nat} {s : ByteArray} {J : Jn} (h : readJn R s = some J) : J.show = s := by
  unfold readJn at h
  split at h
  · split at h
    · rename_i e
      simp only [Option.some.injEq] at h
      subst h
      exact e
    · cases h
  · cases h

theorem readJn_ok {R : ByteArray → Int × Nat} (hR : Reads R) {s : ByteArray} {J : Jn} (hs : s.size ≤ 1048576) (h : readJn R s = some J) : J.ok = true := by
  cases e : J.ok with
  | true => rfl
  | false =>
    have h1 := readJn_is h
    unfold Jn.show at h1
    rw [e] at h1
    have h2 : s.size = 0 := by rw [← h1]; rfl
    rw [readJn_short R hR s (by omega) hs] at h
    cases h

theorem open_outs {J : Jn} (h : J.ok = true) (hd : J.done = false) : (∀ i, i < J.outs.length → outAt J.outs i) ∧ J.outs.length ≤ 8 ∧ 0 ≤ J.txn ∧ J.txn ≤ 1000000 := by
  rw [jok_not hd, Bool.and_eq_true, Bool.and_eq_true, Bool.and_eq_true] at h
  obtain ⟨h0, _, h1, h2⟩ := h
  have h0 := of_decide_eq_true h0
  exact ⟨(outsOk_iff _).1 h2, (of_decide_eq_true h1).2, by omega, h0.2⟩

theorem outs_small {o : List Ou} (h : ∀ i, i < o.length → outAt o i) : ∀ x ∈ o, x.text.size ≤ 60 := by
  intro x hx
  obtain ⟨i, hi, rfl⟩ := List.mem_iff_getElem.1 hx
  have := (h i hi).2.2
  simp [List.getD, hi] at this
  omega

theorem JD_size (t : Int) : ((JD t).show).size ≤ 1048576 := by
  have h := head_size (JD t) (by show (0 : Nat) ≤ 16; omega)
  unfold Jn.show
  split
  · have h2 : (outsS (JD t).outs).size = 0 := rfl
    unfold summed
    rw [ByteArray.size_append, Fix.fxS_size, ByteArray.size_append, h2]
    omega
  · exact Nat.zero_le _

theorem JD_small (t : Int) : (JD t).Small := ⟨by show (0 : Nat) ≤ _; omega, by show (0 : Nat) ≤ _; omega, by intro x hx; cases hx⟩

theorem redone_length (J : Jn) (h : Nat) (l : List ByteArray) : (redone J h l).length = l.length := by unfold redone; rw [List.length_set, outs_length]

theorem redone_size {J : Jn} (h : Nat) {l : List ByteArray} (hj : J.ok = true) (hd : J.done = false) (hl : ∀ s ∈ l, s.size ≤ 1048576) : ∀ s ∈ redone J h l, s.size ≤ 1048576 := by
  intro s hs
  unfold redone at hs
  rcases List.mem_or_eq_of_mem_set hs with hs | rfl
  · exact outs_size J.outs (fun x hx => by have := outs_small (open_outs hj hd).1 x hx; omega) l hl s hs
  · exact JD_size _

theorem redo1_length (R : ByteArray → Int × Nat) (h : Nat) (l : List ByteArray) : (redo1 R h l).1.length = l.length := by
  unfold redo1
  split
  · split
    · rfl
    · exact redone_length _ _ _
  · rfl

theorem redo1_size {R : ByteArray → Int × Nat} (hR : Reads R) (h : Nat) {l : List ByteArray} (hl : ∀ s ∈ l, s.size ≤ 1048576) : ∀ s ∈ (redo1 R h l).1, s.size ≤ 1048576 := by
  unfold redo1
  split
  · rename_i J e
    split
    · exact hl
    · rename_i hd
      exact redone_size h (readJn_ok hR (getD_size hl _) e) (by simpa using hd) hl
  · exact hl

theorem step_size {R : ByteArray → Int × Nat} (hR : Reads R) (h : Nat) {l : List ByteArray} (hl : ∀ s ∈ l, s.size ≤ 1048576) : ∀ s ∈ step R h l, s.size ≤ 1048576 := by
  unfold step; split
  · exact redo1_size hR h hl
  · exact hl

theorem step_length (R : ByteArray → Int × Nat) (h : Nat) (l : List ByteArray) : (step R h l).length = l.length := by
  unfold step; split
  · exact redo1_length R h l
  · rfl

theorem steps_size {R : ByteArray → Int × Nat} (hR : Reads R) {l : List ByteArray} (hl : ∀ s ∈ l, s.size ≤ 1048576) (k : Nat) : ∀ s ∈ steps R l k, s.size ≤ 1048576 := by
  induction k with
  | zero => exact hl
  | succ k ih => exact step_size hR k ih

theorem steps_length (R : ByteArray → Int × Nat) (l : List ByteArray) (k : Nat) : (steps R l k).length = l.length := by
  induction k with
  | zero => rfl
  | succ k ih => exact (step_length R k _).trans ih

theorem step_no {R : ByteArray → Int × Nat} {l : List ByteArray} (h : poolOk R l = false) (k : Nat) : step R k l = l := by unfold step; rw [h]; rfl
theorem step_yes {R : ByteArray → Int × Nat} {l : List ByteArray} (h : poolOk R l = true) (k : Nat) : step R k l = (redo1 R k l).1 := by unfold step; rw [h]; rfl

theorem steps_stay {R : ByteArray → Int × Nat} {l : List ByteArray} {k : Nat} (h : poolOk R (steps R l k) = false) (j : Nat) : steps R l (k + j) = steps R l k := by
  induction j with
  | zero => rfl
  | succ j ih =>
    show step R (k + j) (steps R l (k + j)) = _
    rw [ih, step_no h]

theorem steps_rest {R : ByteArray → Int × Nat} {l : List ByteArray} {k : Nat} (h : poolOk R (steps R l k) = false) (hk : k ≤ 3) : steps R l 3 = steps R l k := by
  have := steps_stay h (3 - k)
  rwa [show k + (3 - k) = 3 by omega] at this

theorem pool_len {R : ByteArray → Int × Nat} {l : List ByteArray} (h : poolOk R l = true) : l.length = 34 := by
  unfold poolOk at h
  rw [Bool.and_eq_true] at h
  exact of_decide_eq_true h.1

theorem pool_jn {R : ByteArray → Int × Nat} {l : List ByteArray} (h : poolOk R l = true) (k : Nat) (hk : k < 3) : ∃ J, readJn R (l.getD (3 + k) ByteArray.empty) = some J := by
  unfold poolOk at h
  rw [Bool.and_eq_true, List.all_eq_true] at h
  have := h.2 (3 + k) (List.mem_range.2 (by omega))
  rw [kind1 k hk] at this
  exact Option.isSome_iff_exists.1 this

theorem redo1_done {R : ByteArray → Int × Nat} {h : Nat} {l : List ByteArray} {J : Jn} (e : readJn R (l.getD (3 + h) ByteArray.empty) = some J) (hd : J.done = true) : redo1 R h l = (l, false) := by
  unfold redo1; rw [e]; simp only [hd, if_true]
theorem redo1_open {R : ByteArray → Int × Nat} {h : Nat} {l : List ByteArray} {J : Jn} (e : readJn R (l.getD (3 + h) ByteArray.empty) = some J) (hd : J.done = false) : redo1 R h l = (redone J h l, true) := by
  unfold redo1; rw [e]; simp only [hd]; rfl

theorem redo_no {R : ByteArray → Int × Nat} {l : List ByteArray} (hp : poolOk R l = false) (h : Int) : redo R l h = ([], false) := by unfold redo; rw [hp]; rfl
theorem redo_none {R : ByteArray → Int × Nat} {l : List ByteArray} (hp : poolOk R l = true) {h : Int} (hh : ¬ (0 ≤ h ∧ h < 3)) : redo R l h = (l, false) := by unfold redo; rw [hp, if_neg hh]; rfl
theorem redo_is {R : ByteArray → Int × Nat} {l : List ByteArray} (hp : poolOk R l = true) (h : Nat) (hh : h < 3) : redo R l (h : Int) = redo1 R h l := by
  unfold redo
  rw [hp, if_pos (show (0 : Int) ≤ (h : Int) ∧ (h : Int) < 3 by omega), Int.toNat_natCast]; rfl

theorem redo_length (R : ByteArray → Int × Nat) (l : List ByteArray) (h : Int) : (redo R l h).1.length ≤ 34 := by
  unfold redo
  split
  · rename_i e
    have := pool_len e
    split
    · rw [redo1_length]; omega
    · show l.length ≤ 34; omega
  · exact Nat.zero_le _

theorem settle_length (R : ByteArray → Int × Nat) (l : List ByteArray) : (settle R l).length ≤ 34 := by
  unfold settle
  split
  · rename_i e
    have := pool_len e
    rw [steps_length]; omega
  · exact Nat.zero_le _

/-- A text is stored. -/
theorem strsW_set {w : World} {B b off : Nat} {l : List ByteArray} (h : StrsW w B (some ⟨b, off, none⟩) l) (i : Nat) (hi : i < l.length) (s : ByteArray) :
    StrsW (w.setCell ⟨b, off + i, none⟩ (.string s)) B (some ⟨b, off, none⟩) (l.set i s) := by
  unfold StrsW at h ⊢
  rw [List.length_set]
  refine (h.set i hi (.string s)).congr (fun j hj => ?_)
  show (if j = i then Value.string s else .string (l.getD j ByteArray.empty)) = _
  by_cases e : j = i
  · subst e
    rw [if_pos rfl]
    simp [List.getD, hi]
  · rw [if_neg e]
    simp [List.getD, show ¬ i = j by omega]

end Go.Proofs.YtjlkighikfgaeaaGreatDoor.Re

namespace Go.Proofs.YtjlkighikfgaeaaGreatDoor.Re
open Go.RowKit Go.Proofs.YtjlkighikfgaeaaGreatDoor.Mem Go.Proofs.YtjlkighikfgaeaaGreatDoor.Sec Go.Proofs.YtjlkighikfgaeaaGreatDoor.Rd Go.Proofs.YtjlkighikfgaeaaGreatDoor.Pk
set_option linter.unusedVariables false

theorem infoS : (Tryz.prog.info? 9).map (fun i => (i.zero, i.size, i.bytes)) = some (some (.string ByteArray.empty), 1, 16) := by kernel_rfl

theorem news_sl {w : World} {ad : Addr} {l : List ByteArray} (S : Strs w (some ad) l) : Sl w (some ad) (l.length * 1) (fun i => (l.map Value.string).getD i undef) := by
  unfold Strs at S
  rw [Nat.mul_one]
  exact S.congr (fun i hi => by simp [List.getD, hi])

theorem news_one (l : List ByteArray) : ∀ u ∈ l.map Value.string, u.oneCell' = true := by
  intro u hu
  obtain ⟨s, _, rfl⟩ := List.mem_map.1 hu
  rfl

theorem row_strs {w : World} {B : Nat} {v : Value} {l : List ByteArray} {n : Nat} (h : RowO w B 9 1 v n ([] ++ l.map .string)) : ∃ a cap, v = .slice a l.length cap ∧ StrsW w B a l := by
  have hn := h.len
  simp at hn
  obtain ⟨a, cap, e, hw⟩ := RowO.wr h
  subst hn
  refine ⟨a, cap, e, ?_⟩
  unfold StrsW
  rw [Nat.mul_one] at hw
  exact hw.congr (fun i hi => by simp [List.getD, hi])

/-- Every cell of sectors of one's own. -/
theorem cellsW {w : World} {B b o : Nat} {l : List ByteArray} (S : StrsW w B (some ⟨b, o, none⟩) l) (i : Nat) (hi : i < l.length) : w.cell? ⟨b, o + i, none⟩ = some (.string (l.getD i ByteArray.empty)) ∧ w.frozen? ⟨b, o + i, none⟩ = false := by
  obtain ⟨b', o', e, _, hc, hf⟩ := S i hi
  cases e
  exact ⟨hc, hf⟩

theorem kdrew {S : Nat → Prop} {w w' : World} (h : Kept S w w') : Kept S w w'.drew := ⟨h.os, h.tape, h.output, h.size, h.block⟩

/-- The journal's own block and its list, while sectors are written. -/
structure Way (w wr : World) (B b off G : Nat) (J : Jn) (ad : Option Addr) (cp : Nat) (l : List ByteArray) : Prop where
  secs : StrsW wr B (some ⟨b, off, none⟩) l
  box : Row wr G (J.cells ad cp)
  outs : Ous wr ad J.outs
  kept : Kept (fun k => k = b) w wr

set_option maxRecDepth 100000 in
set_option maxHeartbeats 4000000 in
theorem l6Redo (R : ByteArray → Int × Nat) (hR : Reads R) (w : World) (B b off cap : Nat) (l : List ByteArray) (S : StrsW w B (some ⟨b, off, none⟩) l) (hp : poolOk R l = true) (hz : ∀ s ∈ l, s.size ≤ 1048576) (h : Nat) (hh : h < 3) :
    Calls Tryz.prog 43 #[.slice (some ⟨b, off, none⟩) 34 cap, .int .i64 (h : Int)] w fun e w' => e = .returned (.tuple #[.slice (some ⟨b, off, none⟩) 34 cap, .bool (redo1 R h l).2]) ∧ StrsW w' B (some ⟨b, off, none⟩) (redo1 R h l).1 ∧ Kept (fun k => k = b) w w' := by
  have hl := pool_len hp
  obtain ⟨J, hJ⟩ := pool_jn hp h hh
  have hok := readJn_ok hR (getD_size hz _) hJ
  have HR := hid hR
  have HS := hid S
  have HZ := hid (getD_size hz (3 + h))
  have HD := hid (@redo1_done R h l J hJ)
  have HO := hid (@redo1_open R h l J hJ)
  have HJ := hid hJ
  have HOk := hid hok
  have HL := hid hl
  have hbl : b < w.heap.size := (Wr.sl S).lt ⟨by omega, off, rfl⟩
  clear S hp hz hR hJ hok
  go_enter Tryz.func43, Tryz.ntmps43
  go_wp2_with fail
  refine (Sector.spec_sector 1 (h : Int) w).mono ?_
  rintro e w1 ⟨rfl, b1⟩
  rw [sec1 h hh]
  obtain ⟨p, hpp⟩ : ∃ p : Nat, p = 3 + h := ⟨_, rfl⟩
  have HP := hid hpp
  have hp34 : (p : Int) < 34 := by omega
  have HS1 : Hid (StrsW w1 B (some ⟨b, off, none⟩) l) := HS.out.below b1
  have HK1 : Hid (Kept (fun k => k = b) w w1) := Kept.of_below b1
  have hc := (cellsW HS1.out p (by omega)).1
  rw [← hpp] at HZ HJ
  rw [← hpp]
  clear hpp b1 HS
  obtain ⟨s, hs⟩ : ∃ s, s = l.getD p ByteArray.empty := ⟨_, rfl⟩
  rw [← hs] at hc HZ HJ
  clear hs
  go_wp2_with fail
  refine (sReadJournal R HR.out s HZ.out w1).mono ?_
  rintro e w2 ⟨J', ad, cp, ok, hi, rfl, hO, b2⟩
  have hJJ : J' = J ∧ J.outs.length ≤ 8 := by
    rcases hi with ⟨h1, h2, h3⟩ | ⟨h1, _⟩
    · rw [HJ.out] at h1
      cases h1
      exact ⟨rfl, h2⟩
    · rw [HJ.out] at h1; cases h1
  obtain ⟨rfl, ho8⟩ := hJJ
  obtain ⟨ad', cp', ea, hW⟩ := Or2.w hO
  cases ea
  have HF : Hid (∀ k, foot ad (J'.outs.length * 2) k → w1.heap.size ≤ k) := fun k hk => Wr.foot_ge hW hk
  have HOs : Hid (Ous w2 ad J'.outs) := Wr.sl hW
  have HS2 : Hid (StrsW w2 B (some ⟨b, off, none⟩) l) := HS1.out.below b2
  have HK2 : Hid (Kept (fun k => k = b) w w2) := (HK1.out.trans (Kept.of_below (S := fun k => k = b) b2)).mono (fun k _ x => by rcases x with x | x <;> exact x)
  have h12 := b2.size
  have h01 := HK1.out.size
  clear hi hO hW b2 HS1 HK1 hc HJ HZ
  obtain ⟨txn, dn, k, v, tt, at_, tx, o⟩ := J'
  simp only [] at HD HO ho8 HF HOs
  have HV : Hid (jnV ⟨txn, dn, k, v, tt, at_, tx, o⟩ ad cp = .agg #[.int .i64 txn, .bool dn, .int .i64 k, .int .i64 v, .int .i64 tt, .int .i64 at_, .string tx, .slice ad o.length cp]) := rfl
  rw [HV.out]
  obtain ⟨w3, hw3, ez3, A3, B3⟩ := one_new w2 [.int .i64 txn, .bool dn, .int .i64 k, .int .i64 v, .int .i64 tt, .int .i64 at_, .string tx, .slice ad o.length cp] 69
  have HS3 : Hid (StrsW w3 B (some ⟨b, off, none⟩) l) := HS2.out.below B3
  have HK3 : Hid (Kept (fun k => k = b) w w3) := (HK2.out.trans (Kept.of_below (S := fun k => k = b) B3)).mono (fun k _ x => by rcases x with x | x <;> exact x)
  have HO3 : Hid (Ous w3 ad o) := Sl.below HOs.out B3
  have HA3 := hid A3
  have a1 := A3.c 1 rfl
  clear A3 B3 HS2 HK2 HOs
  cases dn with
  | true =>
    have HE := hid (HD.out rfl)
    clear HD HO
    go_wp2
    go_ret2
    rw [HE.out]
    exact ⟨rfl, HS3.out, HK3.out⟩
  | false =>
    have HE := hid (HO.out rfl)
    have HAt := hid (open_outs HOk.out rfl).1
    have HRd : Hid (redone ⟨txn, false, k, v, tt, at_, tx, o⟩ h l = (outs l o).set (3 + h) (JD txn).show) := rfl
    simp only [] at HAt
    clear HD HO HOk
    have hG : w2.heap.size ≠ b := by omega
    go_wp2
    go_loopw [8] (fun i wr => ∃ m : Nat, m ≤ o.length ∧ i = .int .i64 (m : Int) ∧ Hid (StrsW wr B (some ⟨b, off, none⟩) (outs l (o.take m))) ∧ Hid (Kept (fun k => k = b) w3 wr)) (fun i _ => o.length - (intOf i).toNat)
    case atStart => exact ⟨0, Nat.zero_le _, rfl, HS3, Kept.refl _ _⟩
    case round =>
      obtain ⟨m, hm, rfl, HW, HKw⟩ := hrel
      have HOw : Hid (Ous wr ad o) := Sl.move HO3.out HKw.out (fun k hk x => by have := HF.out k hk; omega)
      have HAw := hid (HA3.out.kept HKw.out hG)
      have hw3r := HKw.out.size
      by_cases hlt : m < o.length
      · obtain ⟨bo, oo, rfl, c0, c1⟩ := Ous.at_ HOw.out m hlt
        have hat := HAt.out m hlt
        have HTk := hid (outs_take l o m hlt)
        have HLen : Hid ((outs l (o.take m)).length = 34) := (outs_length _ _).trans hl
        have hbo : bo ≠ b := by have := HF.out bo ⟨by omega, oo, rfl⟩; omega
        have a7 := HAw.out.c 7 rfl
        unfold outAt at hat
        generalize o.getD m Ou.none = x at c0 c1 hat HTk
        obtain ⟨xs, xt⟩ := x
        simp only [] at c0 c1 hat HTk
        have hx0 := hat.1.1
        have hx1 := hat.1.2
        clear hat
        obtain ⟨q, rfl⟩ : ∃ q : Nat, xs = (q : Int) := ⟨xs.toNat, by omega⟩
        have hq34 : (q : Int) < 34 := by omega
        rw [Int.toNat_natCast] at HTk
        obtain ⟨d0, d1⟩ := cellsW HW.out q (by have := HLen.out; omega)
        generalize (outs l (o.take m)).getD q ByteArray.empty = old at d0
        have HSet := hid (strsW_set HW.out q (by have := HLen.out; omega) xt)
        have HKs : Hid (Kept (fun k => k = b) w3 (wr.setCell ⟨b, off + q, none⟩ (.string xt))) := (HKw.out.trans (kept_set wr b (off + q) (.string xt))).mono (fun k _ x => by rcases x with x | x <;> exact x)
        go_wp2
        go_region
        all_goals (try go_wp2)
        all_goals exact ⟨⟨m + 1, by omega, by go_num, by rw [HTk.out]; exact HSet, kdrew HKs.out⟩, by simp [intOf]; omega⟩
      · obtain rfl : m = o.length := by omega
        have a7 := HAw.out.c 7 rfl
        have a0 := HAw.out.c 0 rfl
        have HLen : Hid ((outs l o).length = 34) := (outs_length _ _).trans hl
        rw [List.take_length] at HW
        have HSec : Hid (∀ w, Calls Tryz.prog 45 #[.int .i64 1, .int .i64 (h : Int)] w fun e w' => e = .returned (.int .i64 (p : Int)) ∧ Below w.heap.size w w') := fun w => by
          have hx := Sector.spec_sector 1 (h : Int) w
          rw [sec1 h hh, ← HP.out] at hx
          exact hx
        have HShow : Hid (∀ w, Calls Tryz.prog 82 #[.agg #[.int .i64 txn, .bool true, .int .i64 0, .int .i64 0, .int .i64 0, .int .i64 0, .string ⟨#[]⟩, .slice none 0 0]] w fun e w' => e = .returned (.string (JD txn).show) ∧ Below w.heap.size w w') := fun w => sShowJournal w (JD txn) none 0 (fun i hi => by cases hi) (JD_small txn)
        rw [← HP.out] at HRd
        generalize (JD txn).show = mk at HRd HShow
        have HPt : Hid (∀ w', Below wr.heap.size wr w' → w'.cell? ⟨w2.heap.size, 0, none⟩ = some (.int .i64 txn) ∧ (∃ old : ByteArray, w'.cell? ⟨b, off + p, none⟩ = some (.string old)) ∧ w'.frozen? ⟨b, off + p, none⟩ = false) := fun w' bw => by
          have hh3 := cellsW (Wr.below HW.out bw) p (by have := HLen.out; omega)
          exact ⟨(HAw.out.below bw HAw.out.lt).c 0 rfl, ⟨_, hh3.1⟩, hh3.2⟩
        have HEnd : Hid (∀ w', Below wr.heap.size wr w' → StrsW (w'.setCell ⟨b, off + p, none⟩ (.string mk)) B (some ⟨b, off, none⟩) ((outs l o).set p mk) ∧ Kept (fun k => k = b) w (w'.setCell ⟨b, off + p, none⟩ (.string mk))) := fun w' bw =>
          ⟨strsW_set (Wr.below HW.out bw) p (by have := HLen.out; omega) mk, ((((HK3.out.trans HKw.out).trans (Kept.of_below (S := fun k => k = b) bw)).trans (kept_set _ _ _ _)).mono (fun k _ x => by rcases x with ((x | x) | x) | x <;> exact x))⟩
        go_wp2
        go_region_with (first
          | (go_at_call 45; refine (HSec.out _).mono ?_; rintro e wx ⟨rfl, bx⟩; first | (have hch2 := hch.trans (bx.mono hch.size); obtain ⟨e0, ⟨old, e1⟩, e2⟩ := HPt.out _ hch2) | (have hch := undrew bx; obtain ⟨e0, ⟨old, e1⟩, e2⟩ := HPt.out _ hch))
          | (go_at_call 82; refine (HShow.out _).mono ?_; rintro e wx ⟨rfl, bx⟩; first | (have hch2 := hch.trans (bx.mono hch.size); obtain ⟨e0, ⟨old, e1⟩, e2⟩ := HPt.out _ hch2) | (have hch := undrew bx; obtain ⟨e0, ⟨old, e1⟩, e2⟩ := HPt.out _ hch)))
        all_goals (have HX := hid (HEnd.out _ hch2); clear hch hch2 bx)
        all_goals (try go_wp2)
        all_goals go_ret2
        all_goals (rw [HE.out, HRd.out]; exact ⟨rfl, HX.out.1, HX.out.2⟩)

end Go.Proofs.YtjlkighikfgaeaaGreatDoor.Re

namespace Go.Proofs.YtjlkighikfgaeaaGreatDoor.Re
open Go.RowKit Go.Proofs.YtjlkighikfgaeaaGreatDoor.Mem Go.Proofs.YtjlkighikfgaeaaGreatDoor.Sec Go.Proofs.YtjlkighikfgaeaaGreatDoor.Rd Go.Proofs.YtjlkighikfgaeaaGreatDoor.Pk
set_option linter.unusedVariables false

set_option maxRecDepth 100000 in
set_option maxHeartbeats 2000000 in
theorem sRedo (R : ByteArray → Int × Nat) (hR : Reads R) (w : World) (a : Option Addr) (cap : Nat) (l : List ByteArray) (S : Strs w a l) (hl : l.length ≤ 1048576) (hz : ∀ s ∈ l, s.size ≤ 1048576) (h : Int) :
    Calls Tryz.prog 10 #[.slice a l.length cap, .int .i64 h] w fun e w' => ∃ a' c', e = .returned (.tuple #[.slice a' (redo R l h).1.length c', .bool (redo R l h).2]) ∧ StrsW w' w.heap.size a' (redo R l h).1 ∧ Below w.heap.size w w' := by
  have HR := hid hR
  have HS := hid S
  have HZ := hid hz
  clear hR S hz
  go_enter Tryz.func10, Tryz.ntmps10
  go_wp2_with fail
  refine (sPoolOk R HR.out w a cap l HS.out hl HZ.out).mono ?_
  rintro e w1 ⟨rfl, b1⟩
  have HB1 := hid b1
  have HS1 : Hid (Strs w1 a l) := Sl.below HS.out b1
  clear b1 HS
  cases hp : poolOk R l with
  | false =>
    have HE := hid (redo_no hp h)
    have HBf := hid (HB1.out.alloc HB1.out.size (.cells #[] 9))
    clear hp
    go_wp2
    go_ret2
    rw [HE.out]
    exact ⟨_, _, rfl, fun i hi => (by cases hi), HBf.out⟩
  | true =>
    have hlen := pool_len hp
    have HP := hid hp
    clear hp hl
    rw [hlen]
    obtain ⟨b, o, rfl, _⟩ := HS1.out 0 (by omega)
    obtain ⟨w2, hw2⟩ : ∃ w2, w1.alloc (.cells #[] 9) = w2 := ⟨_, rfl⟩
    have b2 : Below w1.heap.size w1 w2 := by rw [← hw2]; exact (Below.refl _ _).alloc (Nat.le_refl _) _
    have HB2 := hid (HB1.out.trans (b2.mono HB1.out.size))
    have HS2 : Hid (Strs w2 (some ⟨b, o, none⟩) l) := Sl.below HS1.out b2
    clear b2
    go_wp2_with (at_builtin; refine wpList_app 24 9 (.string ByteArray.empty) 1 16 Tryz.underlying24 infoS rfl (by decide) (by decide) w2 rfl (.tmp 13) (.tmp 14) rfl w.heap.size _ 0 [] rfl (Or.inl ⟨_, rfl, rfl, rfl⟩) ⟨b, o, none⟩ 34 cap (l.map .string) rfl (by simp [hlen]) (hlen ▸ news_sl HS2.out) (news_one l) (by decide) HB2.out.size ?_; intro v1 w3 r1 kk _; have HB3 := hid (HB2.out.trans (kk.below HB2.out.size (fun b _ x => by cases x))); obtain ⟨a1, c1, rfl, hW⟩ := row_strs r1; have HW := hid hW; obtain ⟨b1, o1, rfl, _⟩ := hW 0 (by omega); clear hW r1 kk; rw [hlen])
    by_cases hh : 0 ≤ h ∧ h < 3
    · obtain ⟨n, rfl⟩ : ∃ n : Nat, h = (n : Int) := ⟨h.toNat, by omega⟩
      have hn : n < 3 := by omega
      have HE := hid (redo_is HP.out n hn)
      refine (l3Host (n : Int) w3).mono ?_
      rintro e w4 ⟨rfl, hw4⟩
      obtain rfl := hw4.symm
      rw [decide_eq_true (show (0 : Int) ≤ (n : Int) ∧ (n : Int) < 3 by omega)]
      go_wp2_with fail
      refine (l6Redo R HR.out w3 w.heap.size b1 o1 c1 l HW.out HP.out HZ.out n hn).mono ?_
      rintro e w5 ⟨rfl, hW5, k5⟩
      have HB5 : Hid (Below w.heap.size w w5) := HB3.out.trans (k5.below HB3.out.size (fun k hk x => by have := Wr.foot_ge HW.out (b := b1) ⟨by omega, o1, rfl⟩; omega))
      have HW5 := hid hW5
      clear hW5 k5
      generalize hq : (redo1 R n l).2 = q
      have HQ := hid hq
      clear hq
      go_wp2
      go_ret2
      rw [HE.out, redo1_length, hlen, HQ.out]
      exact ⟨_, _, rfl, HW5.out, HB5.out⟩
    · have HE := hid (redo_none HP.out hh)
      refine (l3Host h w3).mono ?_
      rintro e w4 ⟨rfl, hw4⟩
      obtain rfl := hw4.symm
      rw [decide_eq_false hh]
      go_wp2
      go_ret2
      rw [HE.out]
      exact ⟨_, c1, by rw [hlen]; rfl, HW.out, HB3.out⟩

set_option maxRecDepth 100000 in
set_option maxHeartbeats 2000000 in
theorem sSettle (R : ByteArray → Int × Nat) (hR : Reads R) (w : World) (a : Option Addr) (cap : Nat) (l : List ByteArray) (S : Strs w a l) (hl : l.length ≤ 1048576) (hz : ∀ s ∈ l, s.size ≤ 1048576) :
    Calls Tryz.prog 30 #[.slice a l.length cap] w fun e w' => ∃ a' c', e = .returned (.slice a' (settle R l).length c') ∧ StrsW w' w.heap.size a' (settle R l) ∧ Below w.heap.size w w' := by
  have HR := hid hR
  have HS := hid S
  have HZ := hid hz
  clear hR S hz
  go_enter Tryz.func30, Tryz.ntmps30
  go_wp2_with fail
  refine (sPoolOk R HR.out w a cap l HS.out hl HZ.out).mono ?_
  rintro e w1 ⟨rfl, b1⟩
  have HB1 := hid b1
  have HS1 : Hid (Strs w1 a l) := Sl.below HS.out b1
  clear b1 HS
  cases hp : poolOk R l with
  | false =>
    have HE : Hid (settle R l = []) := by rw [Hid, settle, hp]; rfl
    have HBf := hid (HB1.out.alloc HB1.out.size (.cells #[] 9))
    clear hp
    go_wp2
    go_ret
    rw [HE.out]
    exact ⟨_, _, rfl, fun i hi => (by cases hi), HBf.out⟩
  | true =>
    have hlen := pool_len hp
    have HE : Hid (settle R l = steps R l 3) := by rw [Hid, settle, hp]; rfl
    have HP := hid hp
    have HSz := hid (steps_size HR.out HZ.out)
    have HSl : Hid (∀ k, (steps R l k).length = 34) := fun k => (steps_length R l k).trans hlen
    clear hp hl
    rw [hlen]
    obtain ⟨b, o, rfl, _⟩ := HS1.out 0 (by omega)
    obtain ⟨w2, hw2⟩ : ∃ w2, w1.alloc (.cells #[] 9) = w2 := ⟨_, rfl⟩
    have b2 : Below w1.heap.size w1 w2 := by rw [← hw2]; exact (Below.refl _ _).alloc (Nat.le_refl _) _
    have HB2 := hid (HB1.out.trans (b2.mono HB1.out.size))
    have HS2 : Hid (Strs w2 (some ⟨b, o, none⟩) l) := Sl.below HS1.out b2
    clear b2
    go_wp2_with (at_builtin; refine wpList_app 24 9 (.string ByteArray.empty) 1 16 Tryz.underlying24 infoS rfl (by decide) (by decide) w2 rfl (.tmp 9) (.tmp 10) rfl w.heap.size _ 0 [] rfl (Or.inl ⟨_, rfl, rfl, rfl⟩) ⟨b, o, none⟩ 34 cap (l.map .string) rfl (by simp [hlen]) (hlen ▸ news_sl HS2.out) (news_one l) (by decide) HB2.out.size ?_; intro v1 w3 r1 kk _; have HB3 := hid (HB2.out.trans (kk.below HB2.out.size (fun b _ x => by cases x))); obtain ⟨a1, c1, rfl, hW⟩ := row_strs r1; have HW := hid hW; obtain ⟨b1, o1, rfl, _⟩ := hW 0 (by omega); clear hW r1 kk; rw [hlen])
    have hbB : w.heap.size ≤ b1 := Wr.foot_ge HW.out ⟨by omega, o1, rfl⟩
    go_loopw [3, 4] (fun t i wr => ∃ m : Nat, m ≤ 3 ∧ i = .int .i64 (m : Int) ∧ t = .slice (some ⟨b1, o1, none⟩) 34 c1 ∧ Hid (StrsW wr w.heap.size (some ⟨b1, o1, none⟩) (steps R l m)) ∧ Hid (Below w.heap.size w wr)) (fun _ i _ => 3 - (intOf i).toNat)
    case atStart => exact ⟨0, Nat.zero_le _, rfl, rfl, HW, HB3⟩
    case round =>
      obtain ⟨m, hm, rfl, rfl, HWm, HBm⟩ := hrel
      by_cases hlt : m < 3
      · have HPo : Hid (Calls Tryz.prog 11 #[.slice (some ⟨b1, o1, none⟩) 34 c1] wr fun e w' => e = .returned (.bool (poolOk R (steps R l m))) ∧ Below wr.heap.size wr w') := by
          have hx := sPoolOk R HR.out wr (some ⟨b1, o1, none⟩) c1 (steps R l m) (Wr.sl HWm.out) (by rw [HSl.out]; decide) (HSz.out m)
          rw [HSl.out] at hx
          exact hx
        go_wp2_with fail
        refine HPo.out.mono ?_
        rintro e w4 ⟨rfl, b4⟩
        have HW4 : Hid (StrsW w4 w.heap.size (some ⟨b1, o1, none⟩) (steps R l m)) := HWm.out.below b4
        have HB4 := hid (HBm.out.trans (b4.mono HBm.out.size))
        clear b4
        cases hp : poolOk R (steps R l m) with
        | false =>
          have HX := hid (steps_rest hp hm)
          clear hp
          go_wp2
          go_ret
          rw [HE.out, HX.out, HSl.out]
          exact ⟨_, c1, rfl, HW4.out, HB4.out⟩
        | true =>
          have HX := hid (step_yes hp m)
          have HL6 := hid (l6Redo R HR.out w4 w.heap.size b1 o1 c1 (steps R l m) HW4.out hp (HSz.out m) m hlt)
          clear hp
          go_wp2_with fail
          refine HL6.out.mono ?_
          rintro e w5 ⟨rfl, hW5, k5⟩
          have HW5 : Hid (StrsW w5 w.heap.size (some ⟨b1, o1, none⟩) (steps R l (m + 1))) := by show StrsW _ _ _ (step R m (steps R l m)); rw [HX.out]; exact hW5
          have HB5 : Hid (Below w.heap.size w w5) := HB4.out.trans (k5.below HB4.out.size (fun k hk x => by omega))
          clear hW5 k5
          go_wp2
          exact ⟨⟨m + 1, by omega, by go_num, rfl, HW5, HB5⟩, by simp [intOf]; omega⟩
      · obtain rfl : m = 3 := by omega
        go_wp2
        go_ret
        rw [HE.out, HSl.out]
        exact ⟨_, c1, rfl, HWm.out, HBm.out⟩

end Go.Proofs.YtjlkighikfgaeaaGreatDoor.Re

namespace Go.Proofs.YtjlkighikfgaeaaGreatDoor.Pk
open Go.RowKit Go.Proofs.YtjlkighikfgaeaaGreatDoor.Mem Go.Proofs.YtjlkighikfgaeaaGreatDoor.Sec Go.Proofs.YtjlkighikfgaeaaGreatDoor.Rd
set_option linter.unusedVariables false

theorem kinds_below {w w' : World} (T : Sector.Kinds w) (hg : 0 < w.heap.size) (b : Below w.heap.size w w') : Sector.Kinds w' := fun k hk => by
  rw [b.cell (p := ⟨0, k, none⟩) hg]; exact T k hk

def off : Nat → Nat
  | 0 => 0
  | 1 => 3
  | 2 => 6
  | 3 => 9
  | 4 => 13
  | 5 => 16
  | _ => 34

theorem idx0 (w : World) : (Instr.index 121 (.agg #[.int .i64 3, .int .i64 3, .int .i64 3, .int .i64 4, .int .i64 3, .int .i64 18]) (.int .i64 0)).run Tryz.prog w = .ok (.int .i64 3) w := by kernel_rfl
theorem idx1 (w : World) : (Instr.index 121 (.agg #[.int .i64 3, .int .i64 3, .int .i64 3, .int .i64 4, .int .i64 3, .int .i64 18]) (.int .i64 1)).run Tryz.prog w = .ok (.int .i64 3) w := by kernel_rfl
theorem idx2 (w : World) : (Instr.index 121 (.agg #[.int .i64 3, .int .i64 3, .int .i64 3, .int .i64 4, .int .i64 3, .int .i64 18]) (.int .i64 2)).run Tryz.prog w = .ok (.int .i64 3) w := by kernel_rfl
theorem idx3 (w : World) : (Instr.index 121 (.agg #[.int .i64 3, .int .i64 3, .int .i64 3, .int .i64 4, .int .i64 3, .int .i64 18]) (.int .i64 3)).run Tryz.prog w = .ok (.int .i64 4) w := by kernel_rfl
theorem idx4 (w : World) : (Instr.index 121 (.agg #[.int .i64 3, .int .i64 3, .int .i64 3, .int .i64 4, .int .i64 3, .int .i64 18]) (.int .i64 4)).run Tryz.prog w = .ok (.int .i64 3) w := by kernel_rfl
theorem idx5 (w : World) : (Instr.index 121 (.agg #[.int .i64 3, .int .i64 3, .int .i64 3, .int .i64 4, .int .i64 3, .int .i64 18]) (.int .i64 5)).run Tryz.prog w = .ok (.int .i64 18) w := by kernel_rfl
theorem il0 : ((0 : Nat) : Int) = 0 := rfl
theorem il1 : ((1 : Nat) : Int) = 1 := rfl
theorem il2 : ((2 : Nat) : Int) = 2 := rfl
theorem il3 : ((3 : Nat) : Int) = 3 := rfl
theorem il4 : ((4 : Nat) : Int) = 4 := rfl
theorem il5 : ((5 : Nat) : Int) = 5 := rfl

set_option maxRecDepth 100000 in
set_option maxHeartbeats 4000000 in
theorem iPoolOk (R : ByteArray → Int × Nat) (hR : Reads R) (hT : ∀ s : ByteArray, s.size ≤ maxLen → Tx s (R s)) (w : World) (a : Option Addr) (cap : Nat) (l : List ByteArray) (S : Strs w a l) (hl : l.length ≤ 1048576) (hz : ∀ s ∈ l, s.size ≤ 1048576) (u : TypeId) (pv : Value) (hL : Lacks w u pv) (T : Sums w) (K : Sector.Kinds w) (hg : 0 < w.heap.size) :
    Calls Tryz.prog 35 #[.slice a l.length cap] w fun e w' => e = .returned (.bool (poolOk R l)) ∧ Below w.heap.size w w' := by
  have HR := hid hR
  have HTx := hid hT
  have HL := hid hL
  have HT := hid T
  have HK := hid K
  have HG := hid hg
  have HZ := hid (getD_size hz)
  have N1 := hid (@pool_no1 R l)
  have N2 := hid (@pool_no2 R l)
  have NY := hid (@pool_yes R l)
  have HS := hid S
  have g0 : w.cell? ⟨0, 0, none⟩ = some (.int .i64 3) := K 0 (by decide)
  have g1 : w.cell? ⟨0, 1, none⟩ = some (.int .i64 3) := K 1 (by decide)
  have g2 : w.cell? ⟨0, 2, none⟩ = some (.int .i64 3) := K 2 (by decide)
  have g3 : w.cell? ⟨0, 3, none⟩ = some (.int .i64 4) := K 3 (by decide)
  have g4 : w.cell? ⟨0, 4, none⟩ = some (.int .i64 3) := K 4 (by decide)
  have g5 : w.cell? ⟨0, 5, none⟩ = some (.int .i64 18) := K 5 (by decide)
  clear hR hz S hT hL T K hg
  generalize poolOk R l = q at *
  by_cases h34 : l.length = 34
  rotate_left
  · have hb : ((l.length : Int) != 34) = true := by simp; omega
    have HF := hid (N1.out h34)
    clear N1 N2 NY
    go_enter Tryz.func35, Tryz.ntmps35
    go_wp2
    go_ret
    exact ⟨by rw [HF.out]; rfl, Below.refl _ _⟩
  obtain ⟨b, o, rfl, _⟩ := HS.out 0 (by omega)
  have HCell := hid (cells34 HS.out h34)
  have H34 := hid h34
  rw [h34]
  clear h34 N1 HS hl
  go_enter Tryz.func35, Tryz.ntmps35
  go_wp2
  clear g0 g1 g2 g3 g4 g5
  go_loopw [10] (fun i wr => ∃ k : Nat, k ≤ 6 ∧ i = .int .i64 (k : Int) ∧ Hid (∀ j, j < off k → secOk R (kindOf (j)) (l.getD (j) ByteArray.empty) = true) ∧ Hid (Below w.heap.size w wr)) (fun i _ => 6 - (intOf i).toNat)
  case atStart => exact ⟨0, Nat.zero_le _, rfl, fun j hj => absurd hj (Nat.not_lt_zero _), Below.refl _ _⟩
  case round =>
    obtain ⟨k, hk, rfl, HI, HBr⟩ := hrel
    by_cases hlt : k < 6
    · obtain ⟨wo, hwo⟩ : ∃ wo, wo = wr := ⟨_, rfl⟩
      subst hwo
      have hc : k = 0 ∨ k = 1 ∨ k = 2 ∨ k = 3 ∨ k = 4 ∨ k = 5 := by omega
      clear hlt hk
      rcases hc with rfl | rfl | rfl | rfl | rfl | rfl
      · simp only [il0]
        have hix := idx0
        go_wp2
        clear hix
        go_loopw [15] (fun i wr => ∃ m : Nat, m ≤ 3 ∧ i = .int .i64 (m : Int) ∧ Hid (∀ j, j < 0 + m → secOk R (kindOf (j)) (l.getD (j) ByteArray.empty) = true) ∧ Hid (Below w.heap.size w wr)) (fun i _ => 3 - (intOf i).toNat)
        case atStart => exact ⟨0, Nat.zero_le _, rfl, HI, HBr⟩
        case round =>
          obtain ⟨m, hm, rfl, HI', HB'⟩ := hrel
          by_cases hlt : m < 3
          · have HKd := hid (kind0 m hlt)
            go_wp2_with fail
            refine (Sector.impl_sector 0 (m : Int) wr (kinds_below HK.out HG.out HB'.out)).mono ?_
            rintro e w1 ⟨rfl, hw1⟩
            obtain rfl := hw1.symm
            rw [sec0 m hlt]
            obtain ⟨p, hp⟩ : ∃ p : Nat, p = 0 + m := ⟨_, rfl⟩
            have HP := hid hp
            have hl : (p : Int) < 34 := by omega
            have hc := HCell.out wr HB'.out p (by omega)
            have hz := HZ.out p
            rw [← hp] at HKd HI' ⊢
            obtain ⟨sa, hsa⟩ : ∃ s, s = l.getD p ByteArray.empty := ⟨_, rfl⟩
            have HSa := hid hsa
            rw [← hsa] at hc hz
            clear hp hsa
            go_wp2_with fail
            refine (isSectorOf R HR.out HTx.out 0 (by decide) sa hz wr u pv (HL.out.kept (Kept.of_below (S := fun _ => False) HB'.out) (fun x => x)) (HT.out.below HB'.out)).mono ?_
            rintro e w2 ⟨rfl, b2⟩
            have HB2 := hid (HB'.out.trans (b2.mono HB'.out.size))
            have HQ : Hid (secOk R (kindOf p) (l.getD p ByteArray.empty) = secOk R 0 sa) := by rw [Hid, HKd.out, HSa.out]
            clear b2 hc hz
            generalize secOk R 0 sa = z at *
            cases z with
            | false =>
              have HF := hid (N2.out p (by omega) HQ.out)
              clear N2 NY
              go_wp2
              go_ret
              exact ⟨by rw [HF.out]; rfl, HB2.out⟩
            | true =>
              have HI2 : Hid (∀ j, j < 0 + (m + 1) → secOk R (kindOf (j)) (l.getD (j) ByteArray.empty) = true) := fun j hj => by
                have hpm := HP.out
                by_cases h : j = p
                · subst h; exact HQ.out
                · exact HI'.out j (by omega)
              go_wp2
              exact ⟨⟨m + 1, by omega, by go_num, HI2, HB2⟩, by simp [intOf]; omega⟩
          · obtain rfl : m = 3 := by omega
            go_wp2
            exact ⟨⟨0 + 1, by decide, by go_num, HI', HB'⟩, by simp [intOf]⟩
      · simp only [il1]
        have hix := idx1
        go_wp2
        clear hix
        go_loopw [15] (fun i wr => ∃ m : Nat, m ≤ 3 ∧ i = .int .i64 (m : Int) ∧ Hid (∀ j, j < 3 + m → secOk R (kindOf (j)) (l.getD (j) ByteArray.empty) = true) ∧ Hid (Below w.heap.size w wr)) (fun i _ => 3 - (intOf i).toNat)
        case atStart => exact ⟨0, Nat.zero_le _, rfl, HI, HBr⟩
        case round =>
          obtain ⟨m, hm, rfl, HI', HB'⟩ := hrel
          by_cases hlt : m < 3
          · have HKd := hid (kind1 m hlt)
            go_wp2_with fail
            refine (Sector.impl_sector 1 (m : Int) wr (kinds_below HK.out HG.out HB'.out)).mono ?_
            rintro e w1 ⟨rfl, hw1⟩
            obtain rfl := hw1.symm
            rw [sec1 m hlt]
            obtain ⟨p, hp⟩ : ∃ p : Nat, p = 3 + m := ⟨_, rfl⟩
            have HP := hid hp
            have hl : (p : Int) < 34 := by omega
            have hc := HCell.out wr HB'.out p (by omega)
            have hz := HZ.out p
            rw [← hp] at HKd HI' ⊢
            obtain ⟨sa, hsa⟩ : ∃ s, s = l.getD p ByteArray.empty := ⟨_, rfl⟩
            have HSa := hid hsa
            rw [← hsa] at hc hz
            clear hp hsa
            go_wp2_with fail
            refine (isSectorOf R HR.out HTx.out 1 (by decide) sa hz wr u pv (HL.out.kept (Kept.of_below (S := fun _ => False) HB'.out) (fun x => x)) (HT.out.below HB'.out)).mono ?_
            rintro e w2 ⟨rfl, b2⟩
            have HB2 := hid (HB'.out.trans (b2.mono HB'.out.size))
            have HQ : Hid (secOk R (kindOf p) (l.getD p ByteArray.empty) = secOk R 1 sa) := by rw [Hid, HKd.out, HSa.out]
            clear b2 hc hz
            generalize secOk R 1 sa = z at *
            cases z with
            | false =>
              have HF := hid (N2.out p (by omega) HQ.out)
              clear N2 NY
              go_wp2
              go_ret
              exact ⟨by rw [HF.out]; rfl, HB2.out⟩
            | true =>
              have HI2 : Hid (∀ j, j < 3 + (m + 1) → secOk R (kindOf (j)) (l.getD (j) ByteArray.empty) = true) := fun j hj => by
                have hpm := HP.out
                by_cases h : j = p
                · subst h; exact HQ.out
                · exact HI'.out j (by omega)
              go_wp2
              exact ⟨⟨m + 1, by omega, by go_num, HI2, HB2⟩, by simp [intOf]; omega⟩
          · obtain rfl : m = 3 := by omega
            go_wp2
            exact ⟨⟨1 + 1, by decide, by go_num, HI', HB'⟩, by simp [intOf]⟩
      · simp only [il2]
        have hix := idx2
        go_wp2
        clear hix
        go_loopw [15] (fun i wr => ∃ m : Nat, m ≤ 3 ∧ i = .int .i64 (m : Int) ∧ Hid (∀ j, j < 6 + m → secOk R (kindOf (j)) (l.getD (j) ByteArray.empty) = true) ∧ Hid (Below w.heap.size w wr)) (fun i _ => 3 - (intOf i).toNat)
        case atStart => exact ⟨0, Nat.zero_le _, rfl, HI, HBr⟩
        case round =>
          obtain ⟨m, hm, rfl, HI', HB'⟩ := hrel
          by_cases hlt : m < 3
          · have HKd := hid (kind2 m hlt)
            go_wp2_with fail
            refine (Sector.impl_sector 2 (m : Int) wr (kinds_below HK.out HG.out HB'.out)).mono ?_
            rintro e w1 ⟨rfl, hw1⟩
            obtain rfl := hw1.symm
            rw [sec2 m hlt]
            obtain ⟨p, hp⟩ : ∃ p : Nat, p = 6 + m := ⟨_, rfl⟩
            have HP := hid hp
            have hl : (p : Int) < 34 := by omega
            have hc := HCell.out wr HB'.out p (by omega)
            have hz := HZ.out p
            rw [← hp] at HKd HI' ⊢
            obtain ⟨sa, hsa⟩ : ∃ s, s = l.getD p ByteArray.empty := ⟨_, rfl⟩
            have HSa := hid hsa
            rw [← hsa] at hc hz
            clear hp hsa
            go_wp2_with fail
            refine (isSectorOf R HR.out HTx.out 2 (by decide) sa hz wr u pv (HL.out.kept (Kept.of_below (S := fun _ => False) HB'.out) (fun x => x)) (HT.out.below HB'.out)).mono ?_
            rintro e w2 ⟨rfl, b2⟩
            have HB2 := hid (HB'.out.trans (b2.mono HB'.out.size))
            have HQ : Hid (secOk R (kindOf p) (l.getD p ByteArray.empty) = secOk R 2 sa) := by rw [Hid, HKd.out, HSa.out]
            clear b2 hc hz
            generalize secOk R 2 sa = z at *
            cases z with
            | false =>
              have HF := hid (N2.out p (by omega) HQ.out)
              clear N2 NY
              go_wp2
              go_ret
              exact ⟨by rw [HF.out]; rfl, HB2.out⟩
            | true =>
              have HI2 : Hid (∀ j, j < 6 + (m + 1) → secOk R (kindOf (j)) (l.getD (j) ByteArray.empty) = true) := fun j hj => by
                have hpm := HP.out
                by_cases h : j = p
                · subst h; exact HQ.out
                · exact HI'.out j (by omega)
              go_wp2
              exact ⟨⟨m + 1, by omega, by go_num, HI2, HB2⟩, by simp [intOf]; omega⟩
          · obtain rfl : m = 3 := by omega
            go_wp2
            exact ⟨⟨2 + 1, by decide, by go_num, HI', HB'⟩, by simp [intOf]⟩
      · simp only [il3]
        have hix := idx3
        go_wp2
        clear hix
        go_loopw [15] (fun i wr => ∃ m : Nat, m ≤ 4 ∧ i = .int .i64 (m : Int) ∧ Hid (∀ j, j < 9 + m → secOk R (kindOf (j)) (l.getD (j) ByteArray.empty) = true) ∧ Hid (Below w.heap.size w wr)) (fun i _ => 4 - (intOf i).toNat)
        case atStart => exact ⟨0, Nat.zero_le _, rfl, HI, HBr⟩
        case round =>
          obtain ⟨m, hm, rfl, HI', HB'⟩ := hrel
          by_cases hlt : m < 4
          · have HKd := hid (kind3 m hlt)
            go_wp2_with fail
            refine (Sector.impl_sector 3 (m : Int) wr (kinds_below HK.out HG.out HB'.out)).mono ?_
            rintro e w1 ⟨rfl, hw1⟩
            obtain rfl := hw1.symm
            rw [sec3 m hlt]
            obtain ⟨p, hp⟩ : ∃ p : Nat, p = 9 + m := ⟨_, rfl⟩
            have HP := hid hp
            have hl : (p : Int) < 34 := by omega
            have hc := HCell.out wr HB'.out p (by omega)
            have hz := HZ.out p
            rw [← hp] at HKd HI' ⊢
            obtain ⟨sa, hsa⟩ : ∃ s, s = l.getD p ByteArray.empty := ⟨_, rfl⟩
            have HSa := hid hsa
            rw [← hsa] at hc hz
            clear hp hsa
            go_wp2_with fail
            refine (isSectorOf R HR.out HTx.out 3 (by decide) sa hz wr u pv (HL.out.kept (Kept.of_below (S := fun _ => False) HB'.out) (fun x => x)) (HT.out.below HB'.out)).mono ?_
            rintro e w2 ⟨rfl, b2⟩
            have HB2 := hid (HB'.out.trans (b2.mono HB'.out.size))
            have HQ : Hid (secOk R (kindOf p) (l.getD p ByteArray.empty) = secOk R 3 sa) := by rw [Hid, HKd.out, HSa.out]
            clear b2 hc hz
            generalize secOk R 3 sa = z at *
            cases z with
            | false =>
              have HF := hid (N2.out p (by omega) HQ.out)
              clear N2 NY
              go_wp2
              go_ret
              exact ⟨by rw [HF.out]; rfl, HB2.out⟩
            | true =>
              have HI2 : Hid (∀ j, j < 9 + (m + 1) → secOk R (kindOf (j)) (l.getD (j) ByteArray.empty) = true) := fun j hj => by
                have hpm := HP.out
                by_cases h : j = p
                · subst h; exact HQ.out
                · exact HI'.out j (by omega)
              go_wp2
              exact ⟨⟨m + 1, by omega, by go_num, HI2, HB2⟩, by simp [intOf]; omega⟩
          · obtain rfl : m = 4 := by omega
            go_wp2
            exact ⟨⟨3 + 1, by decide, by go_num, HI', HB'⟩, by simp [intOf]⟩
      · simp only [il4]
        have hix := idx4
        go_wp2
        clear hix
        go_loopw [15] (fun i wr => ∃ m : Nat, m ≤ 3 ∧ i = .int .i64 (m : Int) ∧ Hid (∀ j, j < 13 + m → secOk R (kindOf (j)) (l.getD (j) ByteArray.empty) = true) ∧ Hid (Below w.heap.size w wr)) (fun i _ => 3 - (intOf i).toNat)
        case atStart => exact ⟨0, Nat.zero_le _, rfl, HI, HBr⟩
        case round =>
          obtain ⟨m, hm, rfl, HI', HB'⟩ := hrel
          by_cases hlt : m < 3
          · have HKd := hid (kind4 m hlt)
            go_wp2_with fail
            refine (Sector.impl_sector 4 (m : Int) wr (kinds_below HK.out HG.out HB'.out)).mono ?_
            rintro e w1 ⟨rfl, hw1⟩
            obtain rfl := hw1.symm
            rw [sec4 m hlt]
            obtain ⟨p, hp⟩ : ∃ p : Nat, p = 13 + m := ⟨_, rfl⟩
            have HP := hid hp
            have hl : (p : Int) < 34 := by omega
            have hc := HCell.out wr HB'.out p (by omega)
            have hz := HZ.out p
            rw [← hp] at HKd HI' ⊢
            obtain ⟨sa, hsa⟩ : ∃ s, s = l.getD p ByteArray.empty := ⟨_, rfl⟩
            have HSa := hid hsa
            rw [← hsa] at hc hz
            clear hp hsa
            go_wp2_with fail
            refine (isSectorOf R HR.out HTx.out 4 (by decide) sa hz wr u pv (HL.out.kept (Kept.of_below (S := fun _ => False) HB'.out) (fun x => x)) (HT.out.below HB'.out)).mono ?_
            rintro e w2 ⟨rfl, b2⟩
            have HB2 := hid (HB'.out.trans (b2.mono HB'.out.size))
            have HQ : Hid (secOk R (kindOf p) (l.getD p ByteArray.empty) = secOk R 4 sa) := by rw [Hid, HKd.out, HSa.out]
            clear b2 hc hz
            generalize secOk R 4 sa = z at *
            cases z with
            | false =>
              have HF := hid (N2.out p (by omega) HQ.out)
              clear N2 NY
              go_wp2
              go_ret
              exact ⟨by rw [HF.out]; rfl, HB2.out⟩
            | true =>
              have HI2 : Hid (∀ j, j < 13 + (m + 1) → secOk R (kindOf (j)) (l.getD (j) ByteArray.empty) = true) := fun j hj => by
                have hpm := HP.out
                by_cases h : j = p
                · subst h; exact HQ.out
                · exact HI'.out j (by omega)
              go_wp2
              exact ⟨⟨m + 1, by omega, by go_num, HI2, HB2⟩, by simp [intOf]; omega⟩
          · obtain rfl : m = 3 := by omega
            go_wp2
            exact ⟨⟨4 + 1, by decide, by go_num, HI', HB'⟩, by simp [intOf]⟩
      · simp only [il5]
        have hix := idx5
        go_wp2
        clear hix
        go_loopw [15] (fun i wr => ∃ m : Nat, m ≤ 18 ∧ i = .int .i64 (m : Int) ∧ Hid (∀ j, j < 16 + m → secOk R (kindOf (j)) (l.getD (j) ByteArray.empty) = true) ∧ Hid (Below w.heap.size w wr)) (fun i _ => 18 - (intOf i).toNat)
        case atStart => exact ⟨0, Nat.zero_le _, rfl, HI, HBr⟩
        case round =>
          obtain ⟨m, hm, rfl, HI', HB'⟩ := hrel
          by_cases hlt : m < 18
          · have HKd := hid (kind5 m hlt)
            go_wp2_with fail
            refine (Sector.impl_sector 5 (m : Int) wr (kinds_below HK.out HG.out HB'.out)).mono ?_
            rintro e w1 ⟨rfl, hw1⟩
            obtain rfl := hw1.symm
            rw [sec5 m hlt]
            obtain ⟨p, hp⟩ : ∃ p : Nat, p = 16 + m := ⟨_, rfl⟩
            have HP := hid hp
            have hl : (p : Int) < 34 := by omega
            have hc := HCell.out wr HB'.out p (by omega)
            have hz := HZ.out p
            rw [← hp] at HKd HI' ⊢
            obtain ⟨sa, hsa⟩ : ∃ s, s = l.getD p ByteArray.empty := ⟨_, rfl⟩
            have HSa := hid hsa
            rw [← hsa] at hc hz
            clear hp hsa
            go_wp2_with fail
            refine (isSectorOf R HR.out HTx.out 5 (by decide) sa hz wr u pv (HL.out.kept (Kept.of_below (S := fun _ => False) HB'.out) (fun x => x)) (HT.out.below HB'.out)).mono ?_
            rintro e w2 ⟨rfl, b2⟩
            have HB2 := hid (HB'.out.trans (b2.mono HB'.out.size))
            have HQ : Hid (secOk R (kindOf p) (l.getD p ByteArray.empty) = secOk R 5 sa) := by rw [Hid, HKd.out, HSa.out]
            clear b2 hc hz
            generalize secOk R 5 sa = z at *
            cases z with
            | false =>
              have HF := hid (N2.out p (by omega) HQ.out)
              clear N2 NY
              go_wp2
              go_ret
              exact ⟨by rw [HF.out]; rfl, HB2.out⟩
            | true =>
              have HI2 : Hid (∀ j, j < 16 + (m + 1) → secOk R (kindOf (j)) (l.getD (j) ByteArray.empty) = true) := fun j hj => by
                have hpm := HP.out
                by_cases h : j = p
                · subst h; exact HQ.out
                · exact HI'.out j (by omega)
              go_wp2
              exact ⟨⟨m + 1, by omega, by go_num, HI2, HB2⟩, by simp [intOf]; omega⟩
          · obtain rfl : m = 18 := by omega
            go_wp2
            exact ⟨⟨5 + 1, by decide, by go_num, HI', HB'⟩, by simp [intOf]⟩
    · obtain rfl : k = 6 := by omega
      have HF := hid (NY.out H34.out (fun i hi => HI.out i hi))
      clear N2 NY
      go_wp2
      go_ret
      exact ⟨by rw [HF.out]; rfl, HBr.out⟩

end Go.Proofs.YtjlkighikfgaeaaGreatDoor.Pk
