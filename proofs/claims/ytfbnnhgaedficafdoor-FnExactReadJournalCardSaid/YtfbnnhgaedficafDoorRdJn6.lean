/-
  The walk of spec.ReadJournal. No condition but texts of at most 2^20 bytes.
-/
import Derived.Test.YtfbnnhgaedficafDoorRdJn5
import Derived.Deep.RegionLaw
namespace Go.Proofs.YtfbnnhgaedficafDoor.Rd
open Go.RowKit Go.Proofs.YtfbnnhgaedficafDoor.Mem Go.Proofs.YtfbnnhgaedficafDoor.Sec
set_option linter.unusedVariables false

/-- 'append' on an owned row, as one step of a region that draws its order. -/
theorem step_app_jn {P : Program} (t e : TypeId) (z : Value) (k bytes : Nat) (ht : P.underlying t = some (.slice e)) (hinfo : (P.info? e).map (fun i => (i.zero, i.size, i.bytes)) = some (some z, k, bytes)) (hzs : z.cells.size = k) (hk : 0 < k) (hby : bytes ≤ 1048576)
    {ops : Array Oper} {o : Oper} {a : Act} {w : World} {K : Act → World → Prop} {Q : Exit → Act → World → Prop} {E : Prop} (hgd : o.guard = none) (s x : Operand)
    (ho : o.op = .call { callee := .builtin .append, args := #[s, x], argTypes := #[t, t] })
    (B : Nat) (v : Value) (n : Nat) (xs : List Value) (hs : a.eval s = v) (h : RowO w B e k v n xs) (ad : Addr) (m c : Nat) (news : List Value) (hx : a.eval x = .slice (some ad) m c) (hl : news.length = m * k) (hS : Sl w (some ad) (m * k) (fun i => news.getD i undef)) (h1 : ∀ u ∈ news, u.oneCell' = true)
    (hm : n + m ≤ 1048576) (hB : B ≤ w.heap.size)
    (hK : ∀ v' w', RowO w' B e k v' (n + m) (xs ++ news) → Kept (fun b => rb v = some b) w w' → K (a.put o.dst v') w') :
    if Region.wanted o (yielded ops a.tmps) = true then Oper.wp P o a w K Q else E := by
  have hw : Region.wanted o (yielded ops a.tmps) = true := by simp [Region.wanted, hgd]
  rw [if_pos hw]
  obtain ⟨v', w', hr, h2, h3, h4⟩ := run_app (P := P) w B t o.type e z k bytes ht hinfo hzs hk v n xs h ad m c news hl hS h1 hm hby hB
  unfold Oper.wp execOp
  simp only [ho, resolve, invoke, builtin, Sem.run_bind, Sem.run_pure, Result.andThen_ok, List.map_toArray, List.map_cons, List.map_nil, hs, hx, hr]
  exact hK v' w' h2 h3

/-- A journal under way: its box at G, its list of its own behind it. -/
structure JnWay (w1 wr : World) (G : Nat) (x : Int) (dn : Bool) (k v t a : Int) (tx : ByteArray) (p : Option Addr) (d : Nat) (l : List Ou) : Prop where
  box : Row wr G [.int .i64 x, .bool dn, .int .i64 k, .int .i64 v, .int .i64 t, .int .i64 a, .string tx, .slice p l.length d]
  row : Or2 wr (G + 1) (.slice p l.length d) l
  bel : Below G w1 wr
  sz : G + 1 ≤ wr.heap.size

theorem JnWay.move {w1 wr : World} {G : Nat} {x : Int} {dn : Bool} {k v t a : Int} {tx : ByteArray} {p : Option Addr} {d : Nat} {l : List Ou} {w2 : World} (h : JnWay w1 wr G x dn k v t a tx p d l) (b : Below wr.heap.size wr w2) : JnWay w1 w2 G x dn k v t a tx p d l :=
  ⟨h.box.below b h.box.lt, RowO.below h.row b, h.bel.trans (b.mono (by have := h.sz; omega)), Nat.le_trans h.sz b.size⟩

theorem JnWay.rowA {w1 wr : World} {G : Nat} {x : Int} {dn : Bool} {k v t a : Int} {tx : ByteArray} {p : Option Addr} {d : Nat} {l : List Ou} (h : JnWay w1 wr G x dn k v t a tx p d l) (y : Int) (s : ByteArray) :
    RowO ((wr.drew).alloc (.cells #[.int .i64 y, .string s] 65)) (G + 1) 65 2 (.slice p l.length d) l.length (oc l) :=
  RowO.below h.row ⟨rfl, rfl, rfl, by simp, fun k hk => heap_alloc_old wr.drew _ hk⟩

theorem JnWay.szA {w1 wr : World} {G : Nat} {x : Int} {dn : Bool} {k v t a : Int} {tx : ByteArray} {p : Option Addr} {d : Nat} {l : List Ou} (h : JnWay w1 wr G x dn k v t a tx p d l) (y : Int) (s : ByteArray) : G + 1 ≤ ((wr.drew).alloc (.cells #[.int .i64 y, .string s] 65)).heap.size := by
  have := h.sz
  simp
  omega

theorem JnWay.after {w1 wr : World} {G : Nat} {x : Int} {dn : Bool} {k v t a : Int} {tx : ByteArray} {p : Option Addr} {d : Nat} {l : List Ou} {w' : World} {y : Int} {s : ByteArray} (h : JnWay w1 wr G x dn k v t a tx p d l)
    (kk : Kept (fun b => rb (.slice p l.length d) = some b) ((wr.drew).alloc (.cells #[.int .i64 y, .string s] 65)) w') : Row w' G [.int .i64 x, .bool dn, .int .i64 k, .int .i64 v, .int .i64 t, .int .i64 a, .string tx, .slice p l.length d] := by
  have hal : Below wr.heap.size wr ((wr.drew).alloc (.cells #[.int .i64 y, .string s] 65)) := ⟨rfl, rfl, rfl, by simp, fun k hk => heap_alloc_old wr.drew _ hk⟩
  have hnb : ¬ rb (.slice p l.length d) = some G := fun e => by have := (RowO.lt h.row e).1; omega
  exact (h.box.below hal h.box.lt).kept kk hnb

theorem JnWay.step {w1 wr : World} {G : Nat} {x : Int} {dn : Bool} {k v t a : Int} {tx : ByteArray} {p : Option Addr} {d : Nat} {l : List Ou} {w' : World} {p' : Option Addr} {d' : Nat} {y : Int} {s : ByteArray} (h : JnWay w1 wr G x dn k v t a tx p d l)
    (r : RowO w' (G + 1) 65 2 (.slice p' (l.length + 1) d') (l.length + 1) (oc l ++ [.int .i64 y, .string s])) (kk : Kept (fun b => rb (.slice p l.length d) = some b) ((wr.drew).alloc (.cells #[.int .i64 y, .string s] 65)) w') :
    JnWay w1 (w'.setCell ⟨G, 7, none⟩ (.slice p' (l.length + 1) d')) G x dn k v t a tx p' d' (l ++ [⟨y, s⟩]) := by
  have hal : Below wr.heap.size wr ((wr.drew).alloc (.cells #[.int .i64 y, .string s] 65)) := ⟨rfl, rfl, rfl, by simp, fun k hk => heap_alloc_old wr.drew _ hk⟩
  have b1 := (h.after kk).set 7 (.slice p' (l.length + 1) d')
  have hl : (l ++ [(⟨y, s⟩ : Ou)]).length = l.length + 1 := by simp
  refine ⟨?_, ?_, ?_, ?_⟩
  · rw [hl]; exact b1
  · have r2 : RowO (w'.setCell ⟨G, 7, none⟩ (.slice p' (l.length + 1) d')) (G + 1) 65 2 (.slice p' (l.length + 1) d') (l.length + 1) (oc l ++ [.int .i64 y, .string s]) :=
      RowO.kept r (kept_set w' G 7 _) (fun b hb e => by subst e; have := (RowO.lt r hb).1; omega)
    unfold Or2
    rw [hl, ← oc_app]
    exact r2
  · have k0 : Below G wr w' := by
      have k1 : Below G wr ((wr.drew).alloc (.cells #[.int .i64 y, .string s] 65)) := hal.mono (by have := h.sz; omega)
      exact k1.trans (kk.below (by have := h.sz; have := hal.size; omega) (fun b hb e => by have := (RowO.lt h.row e).1; omega))
    exact below_set (h.bel.trans k0) G 7 _ (Nat.le_refl _)
  · have := h.sz
    have := hal.size
    have := kk.size
    simp
    omega

theorem jn_start (w1 : World) (x : Int) (dn : Bool) (k v t a : Int) (tx : ByteArray) : JnWay w1 ((w1.alloc (.cells #[.int .i64 x, .bool dn, .int .i64 k, .int .i64 v, .int .i64 t, .int .i64 a, .string tx, .slice none 0 0] 41)).drew) w1.heap.size x dn k v t a tx none 0 [] := by
  have b : Below w1.heap.size w1 (w1.alloc (.cells #[.int .i64 x, .bool dn, .int .i64 k, .int .i64 v, .int .i64 t, .int .i64 a, .string tx, .slice none 0 0] 41)).drew := ((Below.refl _ _).alloc (Nat.le_refl _) _).drew
  obtain ⟨ty, e⟩ := Row.new w1 [.int .i64 x, .bool dn, .int .i64 k, .int .i64 v, .int .i64 t, .int .i64 a, .string tx, .slice none 0 0] 41
  exact ⟨⟨ty, e⟩, Or.inl ⟨none, rfl, rfl, rfl⟩, b, by show _ ≤ (w1.alloc _).heap.size; simp⟩

theorem upd {w : World} {p : Addr} {v : Value} {o : Obj} (h : w.cell? p = some v) : (w.alloc o).drew.cell? p = some v := (((Below.refl _ w).alloc (Nat.le_refl _) o).cell (World.block_lt_of_cell? w _ h)).trans h

theorem pieceAt_end {R : ByteArray → Int × Nat} (hR : Reads R) {s : ByteArray} (hs : s.size ≤ 1048576) {i : Nat} {t : ByteArray} {z : Nat} (h : pieceAt R s i = some (t, z)) : z ≤ 1048576 := by
  unfold pieceAt at h
  split at h
  · cases h
  · rename_i hq
    split at h
    · cases h
    · rename_i hlt
      simp only [Option.some.injEq, Prod.mk.injEq] at h
      obtain ⟨_, rfl⟩ := h
      have h1 := (hR (rest s i) (by rw [rest_size]; unfold maxLen; omega))
      have h2 := h1.le
      have h3 := h1.x0
      rw [rest_size] at h2 hlt
      omega

set_option maxRecDepth 100000 in
set_option maxHeartbeats 4000000 in
theorem sReadJournal (R : ByteArray → Int × Nat) (hR : Reads R) (s : ByteArray) (hs : s.size ≤ 1048576) (w : World) :
    Calls Tryd.prog 21 #[.string s] w fun e w' => JnOut R s w w' e := by
  have HR := hid hR
  clear hR
  go_enter Tryd.func21, Tryd.ntmps21
  go_wp2_with fail
  obtain ⟨wc, hwc, ec, A0, K0⟩ := one_new w [.int .i64 0, .bool false, .int .i64 0, .int .i64 0, .int .i64 0, .int .i64 0, .string ⟨#[]⟩, .slice none 0 0] 41
  simp only [hwc]
  clear hwc
  have HA := hid A0
  have HK := hid K0
  clear A0 K0
  refine (l4Vars R HR.out s hs 5 6 (by decide) (by decide) wc).mono ?_
  rintro e w1 ⟨hg, b1⟩
  have HA1 := hid (HA.out.below b1 HA.out.lt)
  have HB1 := hid (HK.out.trans (b1.mono HK.out.size))
  clear b1 HA HK
  cases hn : nums R s 5 6 with
  | none =>
    rw [hn] at hg
    obtain ⟨vv, rfl⟩ := hg
    have HNo : Hid (readJn R s = none) := readJn_no (jnAt_no1 hn)
    clear hn
    go_wp2_with fail
    refine (l4TakeNeg s w1).mono ?_
    rintro e w2 ⟨hg2, b2⟩
    obtain rfl : e = _ := hg2
    have HA2 := hid (HA1.out.below b2 HA1.out.lt)
    have HB2 := hid (HB1.out.trans (b2.mono HB1.out.size))
    clear b2
    go_wp2_with fail
    refine (l4VarsNeg s w2).mono ?_
    rintro e w3 ⟨v3, rfl, b3⟩
    have HA3 := hid (HA2.out.below b3 HA2.out.lt)
    have HB3 := hid (HB2.out.trans (b3.mono HB2.out.size))
    clear b3
    have a0 := HA3.out.c 0 rfl
    have a1 := HA3.out.c 1 rfl
    have a2 := HA3.out.c 2 rfl
    have a3 := HA3.out.c 3 rfl
    have a4 := HA3.out.c 4 rfl
    have a5 := HA3.out.c 5 rfl
    have a6 := HA3.out.c 6 rfl
    have a7 := HA3.out.c 7 rfl
    have f0 := HA3.out.f 0
    have f1 := HA3.out.f 1
    have f2 := HA3.out.f 2
    have f3 := HA3.out.f 3
    have f4 := HA3.out.f 4
    have f5 := HA3.out.f 5
    have f6 := HA3.out.f 6
    have f7 := HA3.out.f 7
    have HRA := hid (row_set8 HA3.out (.int .i64 0) (.bool false) (.int .i64 0) (.int .i64 0) (.int .i64 0) (.int .i64 0) (.string ⟨#[]⟩) (.slice none 0 0))
    have HBf := hid (HB3.out.trans ((kept_set8 w3 w.heap.size (.int .i64 0) (.bool false) (.int .i64 0) (.int .i64 0) (.int .i64 0) (.int .i64 0) (.string ⟨#[]⟩) (.slice none 0 0)).below HB3.out.size (fun b hb x => by omega)))
    go_wp2
    refine bodyPost_ret (jresults_one rfl _ _ w.heap.size _ _ rfl rfl (load_row HRA.out Tryd.underlying41 rfl (by kernel_rfl))) rfl ?_
    exact ⟨JZ, none, 0, false, Or.inr ⟨HNo.out, rfl, rfl⟩, rfl, jnone_row _ _ _, HBf.out⟩
  | some pr =>
    obtain ⟨l0, z⟩ := pr
    rw [hn] at hg
    obtain ⟨vv, rfl, hI⟩ := hg
    have hl0 := nums_len hn
    have hzs : z ≤ 1048576 := by
      by_cases h5 : 5 ≤ s.size
      · exact Nat.le_trans (nums_le HR.out (by unfold maxLen; omega) h5 hn) hs
      · exfalso
        have := nums_short R HR.out s (by omega) hs 5
        rw [this] at hn; cases hn
    obtain ⟨gL, offL, capL, rfl, _, hgLl, hcL⟩ := ir_cells hI (by omega)
    match l0, hl0 with
    | [x, f, k, v, t, a], hl0 =>
    have HCL := hid hcL
    have HN := hid hn
    have hz0 : (0 : Int) ≤ (z : Int) := by omega
    clear hn hI hl0 hcL
    go_wp2_with fail
    refine (l4Take R HR.out s hs z hzs w1).mono ?_
    rintro e w2 ⟨hg2, b2⟩
    have HA2 := hid (HA1.out.below b2 HA1.out.lt)
    have HB2 := hid (HB1.out.trans (b2.mono HB1.out.size))
    have HCL2 : Hid (∀ i y, [x, f, k, v, t, a][i]? = some y → w2.cell? ⟨gL, offL + i, none⟩ = some (.int .i64 y)) := fun i y hy => (b2.cell hgLl).trans (HCL.out i y hy)
    have hgL2 : gL < w2.heap.size := Nat.lt_of_lt_of_le hgLl b2.size
    clear b2 HCL hgLl
    cases hp : pieceAt R s z with
    | none =>
      rw [hp] at hg2
      obtain rfl : e = _ := hg2
      have HNo : Hid (readJn R s = none) := readJn_no (jnAt_no2 HN.out hp)
      clear hp
      go_wp2_with fail
      refine (l4VarsNeg s w2).mono ?_
      rintro e w3 ⟨v3, rfl, b3⟩
      have HA3 := hid (HA2.out.below b3 HA2.out.lt)
      have HB3 := hid (HB2.out.trans (b3.mono HB2.out.size))
      clear b3
      have a0 := HA3.out.c 0 rfl
      have a1 := HA3.out.c 1 rfl
      have a2 := HA3.out.c 2 rfl
      have a3 := HA3.out.c 3 rfl
      have a4 := HA3.out.c 4 rfl
      have a5 := HA3.out.c 5 rfl
      have a6 := HA3.out.c 6 rfl
      have a7 := HA3.out.c 7 rfl
      have f0 := HA3.out.f 0
      have f1 := HA3.out.f 1
      have f2 := HA3.out.f 2
      have f3 := HA3.out.f 3
      have f4 := HA3.out.f 4
      have f5 := HA3.out.f 5
      have f6 := HA3.out.f 6
      have f7 := HA3.out.f 7
      have HRA := hid (row_set8 HA3.out (.int .i64 0) (.bool false) (.int .i64 0) (.int .i64 0) (.int .i64 0) (.int .i64 0) (.string ⟨#[]⟩) (.slice none 0 0))
      have HBf := hid (HB3.out.trans ((kept_set8 w3 w.heap.size (.int .i64 0) (.bool false) (.int .i64 0) (.int .i64 0) (.int .i64 0) (.int .i64 0) (.string ⟨#[]⟩) (.slice none 0 0)).below HB3.out.size (fun b hb x => by omega)))
      go_wp2
      refine bodyPost_ret (jresults_one rfl _ _ w.heap.size _ _ rfl rfl (load_row HRA.out Tryd.underlying41 rfl (by kernel_rfl))) rfl ?_
      exact ⟨JZ, none, 0, false, Or.inr ⟨HNo.out, rfl, rfl⟩, rfl, jnone_row _ _ _, HBf.out⟩
    | some pq =>
      obtain ⟨tx, z1⟩ := pq
      rw [hp] at hg2
      obtain rfl : e = _ := hg2
      have HPc := hid hp
      have hz1s : z1 ≤ 1048576 := pieceAt_end HR.out hs hp
      clear hp
      go_wp2_with fail
      refine (l4Vars R HR.out s hs z1 1 hz1s (by decide) w2).mono ?_
      rintro e w3 ⟨hg3, b3⟩
      have HA3 := hid (HA2.out.below b3 HA2.out.lt)
      have HB3 := hid (HB2.out.trans (b3.mono HB2.out.size))
      have HCL3 : Hid (∀ i y, [x, f, k, v, t, a][i]? = some y → w3.cell? ⟨gL, offL + i, none⟩ = some (.int .i64 y)) := fun i y hy => (b3.cell hgL2).trans (HCL2.out i y hy)
      have hgL3 : gL < w3.heap.size := Nat.lt_of_lt_of_le hgL2 b3.size
      clear b3 HCL2 hgL2 HA1 HB1 HA2 HB2
      by_cases hq : (R (rest s z1)).2 = 0
      · have hn1 : nums R s z1 1 = none := by rw [nums_one, if_pos hq]
        rw [hn1] at hg3
        obtain ⟨v3, rfl⟩ := hg3
        have HNo : Hid (readJn R s = none) := readJn_no (jnAt_no3 HN.out HPc.out (by unfold outsAll; rw [if_pos (Or.inl hq)]))
        clear hn1 hq
        have a0 := HA3.out.c 0 rfl
        have a1 := HA3.out.c 1 rfl
        have a2 := HA3.out.c 2 rfl
        have a3 := HA3.out.c 3 rfl
        have a4 := HA3.out.c 4 rfl
        have a5 := HA3.out.c 5 rfl
        have a6 := HA3.out.c 6 rfl
        have a7 := HA3.out.c 7 rfl
        have f0 := HA3.out.f 0
        have f1 := HA3.out.f 1
        have f2 := HA3.out.f 2
        have f3 := HA3.out.f 3
        have f4 := HA3.out.f 4
        have f5 := HA3.out.f 5
        have f6 := HA3.out.f 6
        have f7 := HA3.out.f 7
        have HRA := hid (row_set8 HA3.out (.int .i64 0) (.bool false) (.int .i64 0) (.int .i64 0) (.int .i64 0) (.int .i64 0) (.string ⟨#[]⟩) (.slice none 0 0))
        have HBf := hid (HB3.out.trans ((kept_set8 w3 w.heap.size (.int .i64 0) (.bool false) (.int .i64 0) (.int .i64 0) (.int .i64 0) (.int .i64 0) (.string ⟨#[]⟩) (.slice none 0 0)).below HB3.out.size (fun b hb x => by omega)))
        go_wp2
        refine bodyPost_ret (jresults_one rfl _ _ w.heap.size _ _ rfl rfl (load_row HRA.out Tryd.underlying41 rfl (by kernel_rfl))) rfl ?_
        exact ⟨JZ, none, 0, false, Or.inr ⟨HNo.out, rfl, rfl⟩, rfl, jnone_row _ _ _, HBf.out⟩
      have hn1 : nums R s z1 1 = some ([(R (rest s z1)).1], z1 + (R (rest s z1)).2) := by rw [nums_one, if_neg hq]
      rw [hn1] at hg3
      obtain ⟨v3, rfl, hI3⟩ := hg3
      have hRV1 := HR.out (rest s z1) (by rw [rest_size]; unfold maxLen; omega)
      obtain ⟨n, hnn⟩ : ∃ n : Nat, (R (rest s z1)).1 = (n : Int) := Int.eq_ofNat_of_zero_le hRV1.x0
      have hn49 : (n : Int) ≤ 562949953421311 := by rw [← hnn]; exact hRV1.x1
      obtain ⟨gN, offN, capN, rfl, _, hgNl, hcN⟩ := ir_cells hI3 (by simp)
      have cN := hcN 0 _ rfl
      rw [Nat.add_zero] at cN
      have HOA : Hid (outsAll R s z1 = if 8 < (n : Int) then none else outsAt R s (z1 + (R (rest s z1)).2) n) := by
        unfold Hid outsAll
        rw [hnn, Int.toNat_natCast]
        by_cases h8 : 8 < (n : Int)
        · rw [if_pos (Or.inr h8), if_pos h8]
        · rw [if_neg (by omega), if_neg h8]
      have hz2s : z1 + (R (rest s z1)).2 ≤ 1048576 := by have := hRV1.le; rw [rest_size] at this; omega
      rw [hnn] at cN
      clear hn1 hq hRV1 hI3 hcN hnn
      generalize z1 + (R (rest s z1)).2 = z2 at *
      have hz20 : (0 : Int) ≤ (z2 : Int) := by omega
      by_cases h8 : 8 < (n : Int)
      · have HNo : Hid (readJn R s = none) := readJn_no (jnAt_no3 HN.out HPc.out (by rw [HOA.out, if_pos h8]))
        clear HOA
        have a0 := HA3.out.c 0 rfl
        have a1 := HA3.out.c 1 rfl
        have a2 := HA3.out.c 2 rfl
        have a3 := HA3.out.c 3 rfl
        have a4 := HA3.out.c 4 rfl
        have a5 := HA3.out.c 5 rfl
        have a6 := HA3.out.c 6 rfl
        have a7 := HA3.out.c 7 rfl
        have f0 := HA3.out.f 0
        have f1 := HA3.out.f 1
        have f2 := HA3.out.f 2
        have f3 := HA3.out.f 3
        have f4 := HA3.out.f 4
        have f5 := HA3.out.f 5
        have f6 := HA3.out.f 6
        have f7 := HA3.out.f 7
        have HRA := hid (row_set8 HA3.out (.int .i64 0) (.bool false) (.int .i64 0) (.int .i64 0) (.int .i64 0) (.int .i64 0) (.string ⟨#[]⟩) (.slice none 0 0))
        have HBf := hid (HB3.out.trans ((kept_set8 w3 w.heap.size (.int .i64 0) (.bool false) (.int .i64 0) (.int .i64 0) (.int .i64 0) (.int .i64 0) (.string ⟨#[]⟩) (.slice none 0 0)).below HB3.out.size (fun b hb x => by omega)))
        go_wp2
        refine bodyPost_ret (jresults_one rfl _ _ w.heap.size _ _ rfl rfl (load_row HRA.out Tryd.underlying41 rfl (by kernel_rfl))) rfl ?_
        exact ⟨JZ, none, 0, false, Or.inr ⟨HNo.out, rfl, rfl⟩, rfl, jnone_row _ _ _, HBf.out⟩
      have HOA2 : Hid (outsAll R s z1 = outsAt R s z2 n) := by rw [Hid, HOA.out, if_neg h8]
      obtain ⟨dn, hdn⟩ : ∃ dn, (f == 1) = dn := ⟨_, rfl⟩
      have HDn : Hid (decide (f = 1) = dn) := by rw [Hid, ← hdn]; rfl
      clear HOA
      have c0 := HCL3.out 0 x rfl
      have c1 := HCL3.out 1 f rfl
      have c2 := HCL3.out 2 k rfl
      have c3 := HCL3.out 3 v rfl
      have c4 := HCL3.out 4 t rfl
      have c5 := HCL3.out 5 a rfl
      rw [Nat.add_zero] at c0
      have HE : Hid (w3.drew.cell? ⟨gL, offL, none⟩ = some (.int .i64 x) ∧ w3.drew.cell? ⟨gL, offL + 1, none⟩ = some (.int .i64 f) ∧ w3.drew.cell? ⟨gL, offL + 2, none⟩ = some (.int .i64 k) ∧ w3.drew.cell? ⟨gL, offL + 3, none⟩ = some (.int .i64 v) ∧ w3.drew.cell? ⟨gL, offL + 4, none⟩ = some (.int .i64 t) ∧ w3.drew.cell? ⟨gL, offL + 5, none⟩ = some (.int .i64 a)) := ⟨c0, c1, c2, c3, c4, c5⟩
      go_wp2
      go_region_held_law (fun w' => w'.cell? ⟨gL, offL, none⟩ = some (.int .i64 x) ∧ w'.cell? ⟨gL, offL + 1, none⟩ = some (.int .i64 f) ∧ w'.cell? ⟨gL, offL + 2, none⟩ = some (.int .i64 k) ∧ w'.cell? ⟨gL, offL + 3, none⟩ = some (.int .i64 v) ∧ w'.cell? ⟨gL, offL + 4, none⟩ = some (.int .i64 t) ∧ w'.cell? ⟨gL, offL + 5, none⟩ = some (.int .i64 a))
        (first | with_reducible exact HE.out | with_reducible exact ⟨upd c0, upd c1, upd c2, upd c3, upd c4, upd c5⟩ | go_keep)
        (fail)
      obtain ⟨wq, hwq⟩ : ∃ wq, (w3.alloc (.cells #[.int .i64 x, .bool dn, .int .i64 k, .int .i64 v, .int .i64 t, .int .i64 a, .string tx, .slice none 0 0] 41)).drew = wq := ⟨_, rfl⟩
      have HV : Hid (JnWay w3 wq w3.heap.size x dn k v t a tx none 0 []) := by
        rw [← hwq]
        exact jn_start w3 x dn k v t a tx
      simp only [hwq]
      clear hwq c0 c1 c2 c3 c4 c5 HE HCL3 hdn h8
      have hwb : w.heap.size < w3.heap.size := HA3.out.lt
      go_wp2
      go_loopw [5, 9] (fun at_ i wr => ∃ (j zz : Nat) (p : Option Addr) (d : Nat) (l : List Ou), j ≤ n ∧ i = .int .i64 (j : Int) ∧ at_ = .int .i64 (zz : Int) ∧ zz ≤ 1048576 ∧ Hid (outsAt R s z2 j = some (l, zz)) ∧ Hid (JnWay w3 wr w3.heap.size x dn k v t a tx p d l)) (fun _ i _ => n - (intOf i).toNat)
      case atStart => exact ⟨0, z2, none, 0, [], Nat.zero_le _, rfl, rfl, hz2s, rfl, HV⟩
      case round =>
        obtain ⟨j, zz, p, d, l, hj, rfl, rfl, hzz, HOs, HW⟩ := hrel
        clear HV
        have hsr : w3.heap.size < wr.heap.size := HW.out.sz
        have HAr := hid (HA3.out.below HW.out.bel hwb)
        have HBr := hid (HB3.out.trans (HW.out.bel.mono (by omega)))
        have cNr : wr.cell? ⟨gN, offN, none⟩ = some (.int .i64 (n : Int)) := (HW.out.bel.cell hgNl).trans cN
        by_cases hlt : j < n
        · have HST := hid (outsAt_step HOs.out)
          have HOn : Hid (outsAt R s z2 (j + 1) = none → readJn R s = none) := fun hz => by
            refine readJn_no (jnAt_no3 HN.out HPc.out ?_)
            rw [HOA2.out]
            have := outsAt_none hz (n - (j + 1))
            rwa [show j + 1 + (n - (j + 1)) = n by omega] at this
          go_wp2_with fail
          refine (l4Vars R HR.out s hs zz 1 hzz (by decide) wr).mono ?_
          rintro e w4 ⟨hg4, b4⟩
          have HW4 := hid (HW.out.move b4)
          have HA4 := hid (HAr.out.below b4 HAr.out.lt)
          have HB4 := hid (HBr.out.trans (b4.mono HBr.out.size))
          have hs4 := b4.size
          clear b4 cNr
          by_cases hq : (R (rest s zz)).2 = 0
          · have hn1 : nums R s zz 1 = none := by rw [nums_one, if_pos hq]
            rw [hn1] at hg4
            obtain ⟨v4, rfl⟩ := hg4
            have HNo := hid (HOn.out (by rw [HST.out, if_pos hq]))
            clear hn1 hq
            go_wp2_with fail
            refine (l4TakeNeg s w4).mono ?_
            rintro e w5 ⟨hg5, b5⟩
            obtain rfl : e = _ := hg5
            have HA5 := hid (HA4.out.below b5 HA4.out.lt)
            have HB5 := hid (HB4.out.trans (b5.mono HB4.out.size))
            clear b5
            have a0 := HA5.out.c 0 rfl
            have a1 := HA5.out.c 1 rfl
            have a2 := HA5.out.c 2 rfl
            have a3 := HA5.out.c 3 rfl
            have a4 := HA5.out.c 4 rfl
            have a5 := HA5.out.c 5 rfl
            have a6 := HA5.out.c 6 rfl
            have a7 := HA5.out.c 7 rfl
            have f0 := HA5.out.f 0
            have f1 := HA5.out.f 1
            have f2 := HA5.out.f 2
            have f3 := HA5.out.f 3
            have f4 := HA5.out.f 4
            have f5 := HA5.out.f 5
            have f6 := HA5.out.f 6
            have f7 := HA5.out.f 7
            have HRA := hid (row_set8 HA5.out (.int .i64 0) (.bool false) (.int .i64 0) (.int .i64 0) (.int .i64 0) (.int .i64 0) (.string ⟨#[]⟩) (.slice none 0 0))
            have HBf := hid (HB5.out.trans ((kept_set8 w5 w.heap.size (.int .i64 0) (.bool false) (.int .i64 0) (.int .i64 0) (.int .i64 0) (.int .i64 0) (.string ⟨#[]⟩) (.slice none 0 0)).below HB5.out.size (fun b hb x => by omega)))
            go_wp2
            refine bodyPost_ret (jresults_one rfl _ _ w.heap.size _ _ rfl rfl (load_row HRA.out Tryd.underlying41 rfl (by kernel_rfl))) rfl ?_
            exact ⟨JZ, none, 0, false, Or.inr ⟨HNo.out, rfl, rfl⟩, rfl, jnone_row _ _ _, HBf.out⟩
          have hn1 : nums R s zz 1 = some ([(R (rest s zz)).1], zz + (R (rest s zz)).2) := by rw [nums_one, if_neg hq]
          rw [hn1] at hg4
          obtain ⟨v4, rfl, hI4⟩ := hg4
          have hRV1 := HR.out (rest s zz) (by rw [rest_size]; unfold maxLen; omega)
          have hz3s : zz + (R (rest s zz)).2 ≤ 1048576 := by have := hRV1.le; rw [rest_size] at this; omega
          have HST2 : Hid (outsAt R s z2 (j + 1) = (pieceAt R s (zz + (R (rest s zz)).2)).map fun q => (l ++ [⟨(R (rest s zz)).1, q.1⟩], q.2)) := by rw [Hid, HST.out, if_neg hq]
          obtain ⟨gK, offK, capK, rfl, _, hgKl, hcK⟩ := ir_cells hI4 (by simp)
          have cK := hcK 0 _ rfl
          rw [Nat.add_zero] at cK
          clear hn1 hq hRV1 hI4 hcK HST
          generalize (R (rest s zz)).1 = y at *
          generalize zz + (R (rest s zz)).2 = z3 at *
          have hz30 : (0 : Int) ≤ (z3 : Int) := by omega
          go_wp2_with fail
          refine (l4Take R HR.out s hs z3 hz3s w4).mono ?_
          rintro e w5 ⟨hg5, b5⟩
          have HW5 := hid (HW4.out.move b5)
          have HA5 := hid (HA4.out.below b5 HA4.out.lt)
          have HB5 := hid (HB4.out.trans (b5.mono HB4.out.size))
          have cK5 : w5.cell? ⟨gK, offK, none⟩ = some (.int .i64 y) := (b5.cell hgKl).trans cK
          have hgK5 : gK < w5.heap.size := Nat.lt_of_lt_of_le hgKl b5.size
          clear b5 cK hgKl HW4 HA4 HB4 HW
          cases hp : pieceAt R s z3 with
          | none =>
            rw [hp] at hg5
            obtain rfl : e = _ := hg5
            have HNo := hid (HOn.out (by rw [HST2.out, hp]; rfl))
            clear hp
            have a0 := HA5.out.c 0 rfl
            have a1 := HA5.out.c 1 rfl
            have a2 := HA5.out.c 2 rfl
            have a3 := HA5.out.c 3 rfl
            have a4 := HA5.out.c 4 rfl
            have a5 := HA5.out.c 5 rfl
            have a6 := HA5.out.c 6 rfl
            have a7 := HA5.out.c 7 rfl
            have f0 := HA5.out.f 0
            have f1 := HA5.out.f 1
            have f2 := HA5.out.f 2
            have f3 := HA5.out.f 3
            have f4 := HA5.out.f 4
            have f5 := HA5.out.f 5
            have f6 := HA5.out.f 6
            have f7 := HA5.out.f 7
            have HRA := hid (row_set8 HA5.out (.int .i64 0) (.bool false) (.int .i64 0) (.int .i64 0) (.int .i64 0) (.int .i64 0) (.string ⟨#[]⟩) (.slice none 0 0))
            have HBf := hid (HB5.out.trans ((kept_set8 w5 w.heap.size (.int .i64 0) (.bool false) (.int .i64 0) (.int .i64 0) (.int .i64 0) (.int .i64 0) (.string ⟨#[]⟩) (.slice none 0 0)).below HB5.out.size (fun b hb x => by omega)))
            go_wp2
            refine bodyPost_ret (jresults_one rfl _ _ w.heap.size _ _ rfl rfl (load_row HRA.out Tryd.underlying41 rfl (by kernel_rfl))) rfl ?_
            exact ⟨JZ, none, 0, false, Or.inr ⟨HNo.out, rfl, rfl⟩, rfl, jnone_row _ _ _, HBf.out⟩
          | some pq =>
            obtain ⟨tt, z4⟩ := pq
            rw [hp] at hg5
            obtain rfl : e = _ := hg5
            have HOs2 : Hid (outsAt R s z2 (j + 1) = some (l ++ [⟨y, tt⟩], z4)) := by rw [Hid, HST2.out, hp]; rfl
            have hz4s : z4 ≤ 1048576 := pieceAt_end HR.out hs hp
            have hz40 : (0 : Int) ≤ (z4 : Int) := by omega
            have hlL : l.length + 1 ≤ 1048576 := by have := (outsAt_len HOs.out).1; omega
            have q7 := HW5.out.box.c 7 rfl
            have hG5 : w3.heap.size < w5.heap.size := HW5.out.sz
            clear hp HST2 HOn
            go_wp2
            go_region_law ((refine step_app_jn 39 65 (.agg #[.int .i64 0, .string ByteArray.empty]) 2 24 Tryd.underlying39 infoOut rfl (by decide) (by decide) (by rfl) (.tmp 84) (.tmp 90) (by rfl) (w3.heap.size + 1) (.slice p l.length d) l.length (oc l) (by rfl) (HW5.out.rowA y tt) ⟨w5.heap.size, 0, none⟩ 1 1 [.int .i64 y, .string tt] (by rfl) rfl (one_out w5.drew y tt) (by intro u hu; simp at hu; rcases hu with rfl | rfl <;> rfl) hlL (HW5.out.szA y tt) ?_; intro v' w' r kk; obtain ⟨p', d', e', _⟩ := r.wr; subst e'; have hb' := HW5.out.after kk; have g7 := hb'.c 7 rfl; have gf := hb'.f 7; have HS := hid (HW5.out.step r kk); clear hb'))
            all_goals (go_wp2; exact ⟨⟨j + 1, z4, p', d', l ++ [⟨y, tt⟩], by omega, by go_num, rfl, hz4s, HOs2, HS⟩, by simp [intOf]; omega⟩)
        · obtain rfl : j = n := by omega
          have HJ : Hid (jnAt R s = some ([x, f, k, v, t, a], tx, l)) := jnAt_yes HN.out HPc.out (HOA2.out.trans HOs.out)
          have hsm := jnAt_small HJ.out
          have ho8 := hsm.2.1
          have HSm : Hid (Jn.Small ⟨x, dn, k, v, t, a, tx, l⟩) := ⟨Nat.le_trans hsm.1 hs, by show l.length ≤ _; omega, fun y hy => Nat.le_trans (hsm.2.2 y hy) hs⟩
          have HRd : Hid (readJn R s = if Jn.show ⟨x, dn, k, v, t, a, tx, l⟩ = s then some ⟨x, dn, k, v, t, a, tx, l⟩ else none) := by rw [Hid, readJn_yes HJ.out, HDn.out]
          have HSr : Hid (Ous wr p l) := by
            obtain ⟨a', cap', ea, hW⟩ := Or2.w HW.out.row
            cases ea
            exact Wr.sl hW
          have HZ := hid HW.out.box
          have HO := hid HW.out.row
          clear hsm HJ HOs
          have q0 := HZ.out.c 0 rfl
          have q1 := HZ.out.c 1 rfl
          have q2 := HZ.out.c 2 rfl
          have q3 := HZ.out.c 3 rfl
          have q4 := HZ.out.c 4 rfl
          have q5 := HZ.out.c 5 rfl
          have q6 := HZ.out.c 6 rfl
          have q7 := HZ.out.c 7 rfl
          go_wp2_with fail
          refine (sShowJournal wr ⟨x, dn, k, v, t, a, tx, l⟩ p d HSr.out HSm.out).mono ?_
          rintro e w5 ⟨rfl, b5⟩
          have HA5 := hid (HAr.out.below b5 HAr.out.lt)
          have HZ5 := hid (HZ.out.below b5 HZ.out.lt)
          have HO5 := hid (RowO.below HO.out b5)
          have HB5 := hid (HBr.out.trans (b5.mono HBr.out.size))
          clear b5 HAr HZ HO HBr HSr HSm HW q0 q1 q2 q3 q4 q5 q6 q7 cNr
          have q0 := HZ5.out.c 0 rfl
          have q1 := HZ5.out.c 1 rfl
          have q2 := HZ5.out.c 2 rfl
          have q3 := HZ5.out.c 3 rfl
          have q4 := HZ5.out.c 4 rfl
          have q5 := HZ5.out.c 5 rfl
          have q6 := HZ5.out.c 6 rfl
          have q7 := HZ5.out.c 7 rfl
          by_cases hsh : Jn.show ⟨x, dn, k, v, t, a, tx, l⟩ = s
          · have HN2 : Hid (readJn R s = some ⟨x, dn, k, v, t, a, tx, l⟩) := by rw [Hid, HRd.out, if_pos hsh]
            have hne := Own.eqS_yes hsh
            generalize Jn.show ⟨x, dn, k, v, t, a, tx, l⟩ = sh at *
            have a0 := HA5.out.c 0 rfl
            have a1 := HA5.out.c 1 rfl
            have a2 := HA5.out.c 2 rfl
            have a3 := HA5.out.c 3 rfl
            have a4 := HA5.out.c 4 rfl
            have a5 := HA5.out.c 5 rfl
            have a6 := HA5.out.c 6 rfl
            have a7 := HA5.out.c 7 rfl
            have f0 := HA5.out.f 0
            have f1 := HA5.out.f 1
            have f2 := HA5.out.f 2
            have f3 := HA5.out.f 3
            have f4 := HA5.out.f 4
            have f5 := HA5.out.f 5
            have f6 := HA5.out.f 6
            have f7 := HA5.out.f 7
            have HRA := hid (row_set8 HA5.out (.int .i64 x) (.bool dn) (.int .i64 k) (.int .i64 v) (.int .i64 t) (.int .i64 a) (.string tx) (.slice p l.length d))
            have HKK := hid (kept_set8 w5 w.heap.size (.int .i64 x) (.bool dn) (.int .i64 k) (.int .i64 v) (.int .i64 t) (.int .i64 a) (.string tx) (.slice p l.length d))
            have HBf := hid (HB5.out.trans (HKK.out.below HB5.out.size (fun b hb x => by omega)))
            have HIf := hid (RowO.mono (B' := w.heap.size) (RowO.kept HO5.out HKK.out (fun b hb x => by have := (RowO.lt HO5.out hb).1; omega)) (by omega))
            clear HKK HO5 HB5 HA5 HZ5 HRd
            go_wp2
            refine bodyPost_ret (jresults_one rfl _ _ w.heap.size _ _ rfl rfl (load_row HRA.out Tryd.underlying41 rfl (by kernel_rfl))) rfl ?_
            exact ⟨⟨x, dn, k, v, t, a, tx, l⟩, p, d, true, Or.inl ⟨HN2.out, ho8, rfl⟩, rfl, HIf.out, HBf.out⟩
          · have HNo : Hid (readJn R s = none) := by rw [Hid, HRd.out, if_neg hsh]
            have hne := Own.eqS_no hsh
            generalize Jn.show ⟨x, dn, k, v, t, a, tx, l⟩ = sh at *
            clear HO5 HRd
            have a0 := HA5.out.c 0 rfl
            have a1 := HA5.out.c 1 rfl
            have a2 := HA5.out.c 2 rfl
            have a3 := HA5.out.c 3 rfl
            have a4 := HA5.out.c 4 rfl
            have a5 := HA5.out.c 5 rfl
            have a6 := HA5.out.c 6 rfl
            have a7 := HA5.out.c 7 rfl
            have f0 := HA5.out.f 0
            have f1 := HA5.out.f 1
            have f2 := HA5.out.f 2
            have f3 := HA5.out.f 3
            have f4 := HA5.out.f 4
            have f5 := HA5.out.f 5
            have f6 := HA5.out.f 6
            have f7 := HA5.out.f 7
            have HRA := hid (row_set8 HA5.out (.int .i64 0) (.bool false) (.int .i64 0) (.int .i64 0) (.int .i64 0) (.int .i64 0) (.string ⟨#[]⟩) (.slice none 0 0))
            have HBf := hid (HB5.out.trans ((kept_set8 w5 w.heap.size (.int .i64 0) (.bool false) (.int .i64 0) (.int .i64 0) (.int .i64 0) (.int .i64 0) (.string ⟨#[]⟩) (.slice none 0 0)).below HB5.out.size (fun b hb x => by omega)))
            go_wp2
            refine bodyPost_ret (jresults_one rfl _ _ w.heap.size _ _ rfl rfl (load_row HRA.out Tryd.underlying41 rfl (by kernel_rfl))) rfl ?_
            exact ⟨JZ, none, 0, false, Or.inr ⟨HNo.out, rfl, rfl⟩, rfl, jnone_row _ _ _, HBf.out⟩

end Go.Proofs.YtfbnnhgaedficafDoor.Rd
