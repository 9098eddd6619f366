/-
  The walks of spec.l7None, spec.NewPool and impl.NewPool. No condition.
-/
import Derived.Test.YtbnpnhcegoanmaaPpPo
import Derived.Deep.RegionLaw
import Derived.Deep.RegionWith
namespace Go.Proofs.Ytbnpnhcegoanmaa.Pl
open Go.RowKit Go.Proofs.Ytbnpnhcegoanmaa.Mem
set_option linter.unusedVariables false

/-- A volume without anything. -/
def noneD : Bool × List Bool × List ByteArray := (false, [false, false, false, false], [⟨#[]⟩, ⟨#[]⟩, ⟨#[]⟩, ⟨#[]⟩])

theorem make4B (w : World) : (Instr.makeSlice 64 (.int .i64 4) (.int .i64 4)).run Try.prog w = .ok (.slice (some ⟨w.heap.size, 0, none⟩) 4 4) (w.alloc (.cells #[.bool false, .bool false, .bool false, .bool false] 4)) := by
  have h := make_rows (P := Try.prog) 64 4 (.bool false) 1 1 Try.underlying64 infoBl .i64 .i64 4 (by decide) (by decide) w
  have e : madeCells (Value.bool false).cells (4 * 1) = #[.bool false, .bool false, .bool false, .bool false] := by kernel_rfl
  rw [e] at h
  exact h
theorem make4S (w : World) : (Instr.makeSlice 65 (.int .i64 4) (.int .i64 4)).run Try.prog w = .ok (.slice (some ⟨w.heap.size, 0, none⟩) 4 4) (w.alloc (.cells #[.string ⟨#[]⟩, .string ⟨#[]⟩, .string ⟨#[]⟩, .string ⟨#[]⟩] 9)) := by
  have h := make_rows (P := Try.prog) 65 9 (.string ByteArray.empty) 1 16 Try.underlying65 info9 .i64 .i64 4 (by decide) (by decide) w
  have e : madeCells (Value.string ByteArray.empty).cells (4 * 1) = #[.string ⟨#[]⟩, .string ⟨#[]⟩, .string ⟨#[]⟩, .string ⟨#[]⟩] := by kernel_rfl
  rw [e] at h
  exact h

theorem three_x (w : World) (xs ys zs : List Value) (t u v : TypeId) :
    Row (((w.alloc (.cells xs.toArray t)).alloc (.cells ys.toArray u)).alloc (.cells zs.toArray v)) w.heap.size xs ∧ Row (((w.alloc (.cells xs.toArray t)).alloc (.cells ys.toArray u)).alloc (.cells zs.toArray v)) (w.heap.size + 1) ys ∧
      Row (((w.alloc (.cells xs.toArray t)).alloc (.cells ys.toArray u)).alloc (.cells zs.toArray v)) (w.heap.size + 1 + 1) zs ∧ Below w.heap.size w (((w.alloc (.cells xs.toArray t)).alloc (.cells ys.toArray u)).alloc (.cells zs.toArray v)) := by
  have e0 : (w.alloc (.cells xs.toArray t)).heap.size = w.heap.size + 1 := by simp
  have e1 : ((w.alloc (.cells xs.toArray t)).alloc (.cells ys.toArray u)).heap.size = w.heap.size + 1 + 1 := by simp
  have r1 := Row.new (w.alloc (.cells xs.toArray t)) ys u
  have r2 := Row.new ((w.alloc (.cells xs.toArray t)).alloc (.cells ys.toArray u)) zs v
  rw [e0] at r1
  rw [e1] at r2
  exact ⟨((Row.new w xs t).alloc _).alloc _, r1.alloc _, r2, (((Below.refl _ _).alloc (Nat.le_refl _) _).alloc (by omega) _).alloc (by omega) _⟩

theorem row_bls {w : World} {B g : Nat} {l : List Bool} (h : Row w g (l.map .bool)) (hB : B ≤ g) : BlsW w B (some ⟨g, 0, none⟩) l := fun i hi =>
  ⟨g, 0, rfl, hB, by rw [Nat.zero_add]; exact h.c i (by simp [List.getD, hi]), h.f _⟩
theorem row_strs {w : World} {B g : Nat} {l : List ByteArray} (h : Row w g (l.map .string)) (hB : B ≤ g) : StrsW w B (some ⟨g, 0, none⟩) l := fun i hi =>
  ⟨g, 0, rfl, hB, by rw [Nat.zero_add]; exact h.c i (by simp [List.getD, hi]), h.f _⟩

set_option maxRecDepth 100000 in
set_option maxHeartbeats 1000000 in
theorem l7None (w : World) : Calls Try.prog 46 #[] w fun r w' => ∃ x : Pv, r = .returned x.val ∧ x.data = noneD ∧ Two w.heap.size x w' ∧ Below w.heap.size w w' := by
  have h1 := make4B
  have h2 := make4S
  go_enter Try.func46, Try.ntmps46
  go_wp2
  go_region
  · obtain ⟨t1, t2, t3, t4⟩ := three_x w [.bool false, .slice (some ⟨w.heap.size + 1, 0, none⟩) 4 4, .slice (some ⟨w.heap.size + 1 + 1, 0, none⟩) 4 4] [.bool false, .bool false, .bool false, .bool false] [.string ⟨#[]⟩, .string ⟨#[]⟩, .string ⟨#[]⟩, .string ⟨#[]⟩] 67 4 9
    have T1 := hid t1
    have T2 := hid t2
    have T3 := hid t3
    have T4 := hid t4
    clear t1 t2 t3 t4 h1 h2
    go_wp2
    refine bodyPost_ret (results_row rfl _ _ w.heap.size [.bool false, .slice (some ⟨w.heap.size + 1, 0, none⟩) 4 4, .slice (some ⟨w.heap.size + 1 + 1, 0, none⟩) 4 4] _ rfl T1.out Try.underlying67 rfl (by kernel_rfl)) rfl ?_
    exact ⟨⟨false, some ⟨w.heap.size + 1, 0, none⟩, 4, [false, false, false, false], some ⟨w.heap.size + 1 + 1, 0, none⟩, 4, [⟨#[]⟩, ⟨#[]⟩, ⟨#[]⟩, ⟨#[]⟩]⟩, rfl, rfl, ⟨row_bls (l := [false, false, false, false]) T2.out (by omega), row_strs (l := [⟨#[]⟩, ⟨#[]⟩, ⟨#[]⟩, ⟨#[]⟩]) T3.out (by omega), fun b e1 e2 => by have := foot_new e1; have := foot_new e2; omega⟩, T4.out.drew⟩
  · obtain ⟨t1, t2, t3, t4⟩ := three_x w [.bool false, .slice (some ⟨w.heap.size + 1 + 1, 0, none⟩) 4 4, .slice (some ⟨w.heap.size + 1, 0, none⟩) 4 4] [.string ⟨#[]⟩, .string ⟨#[]⟩, .string ⟨#[]⟩, .string ⟨#[]⟩] [.bool false, .bool false, .bool false, .bool false] 67 9 4
    have T1 := hid t1
    have T2 := hid t2
    have T3 := hid t3
    have T4 := hid t4
    clear t1 t2 t3 t4 h1 h2
    go_wp2
    refine bodyPost_ret (results_row rfl _ _ w.heap.size [.bool false, .slice (some ⟨w.heap.size + 1 + 1, 0, none⟩) 4 4, .slice (some ⟨w.heap.size + 1, 0, none⟩) 4 4] _ rfl T1.out Try.underlying67 rfl (by kernel_rfl)) rfl ?_
    exact ⟨⟨false, some ⟨w.heap.size + 1 + 1, 0, none⟩, 4, [false, false, false, false], some ⟨w.heap.size + 1, 0, none⟩, 4, [⟨#[]⟩, ⟨#[]⟩, ⟨#[]⟩, ⟨#[]⟩]⟩, rfl, rfl, ⟨row_bls (l := [false, false, false, false]) T3.out (by omega), row_strs (l := [⟨#[]⟩, ⟨#[]⟩, ⟨#[]⟩, ⟨#[]⟩]) T2.out (by omega), fun b e1 e2 => by have := foot_new e1; have := foot_new e2; omega⟩, T4.out.drew⟩

/-- 'append' on an owned row, as one step of a region that draws its order. -/
theorem step_app {P : Program} (t e : TypeId) (z : Value) (k bytes : Nat) (ht : P.underlying t = some (.slice e)) (hinfo : (P.info? e).map (fun i => (i.zero, i.size, i.bytes)) = some (some z, k, bytes)) (hzs : z.cells.size = k) (hk : 0 < k) (hby : bytes ≤ 1048576)
    {ops : Array Oper} {o : Oper} {a : Act} {w : World} {K : Act → World → Prop} {Q : Exit → Act → World → Prop} {E : Prop} (hgd : o.guard = none) (s x : Operand)
    (ho : o.op = .call { callee := .builtin .append, args := #[s, x], argTypes := #[t, t] })
    (B : Nat) (v : Value) (n : Nat) (xs : List Value) (hs : a.eval s = v) (h : RowO w B e k v n xs) (ad : Addr) (m c : Nat) (news : List Value) (hx : a.eval x = .slice (some ad) m c) (hl : news.length = m * k) (hS : Sl w (some ad) (m * k) (fun i => news.getD i undef)) (h1 : ∀ u ∈ news, u.oneCell' = true)
    (hm : n + m ≤ 1048576) (hB : B ≤ w.heap.size)
    (hK : ∀ v' w', RowO w' B e k v' (n + m) (xs ++ news) → Kept (fun b => rb v = some b) w w' → (rb v' = none ∨ rb v' = rb v ∨ (rb v' = some w.heap.size ∧ w.heap.size < w'.heap.size)) → K (a.put o.dst v') w') :
    if Region.wanted o (yielded ops a.tmps) = true then Oper.wp P o a w K Q else E := by
  have hw : Region.wanted o (yielded ops a.tmps) = true := by simp [Region.wanted, hgd]
  rw [if_pos hw]
  obtain ⟨v', w', hr, h2, h3, h4⟩ := run_app (P := P) w B t o.type e z k bytes ht hinfo hzs hk v n xs h ad m c news hl hS h1 hm hby hB
  unfold Oper.wp execOp
  simp only [ho, resolve, invoke, builtin, Sem.run_bind, Sem.run_pure, Result.andThen_ok, List.map_toArray, List.map_cons, List.map_nil, hs, hx, hr]
  exact hK v' w' h2 h3 h4

theorem enters_none (a : Act) (o : Oper) (w : World) (ho : o.op = .call { callee := .value (.func 46), args := #[], argTypes := #[] }) :
    (execOp a.eval o).run Try.prog w = .ok (.enter 46 #[]) w := by
  unfold execOp
  simp [ho, go_sem, resolve, invoke]

/-- A new volume, as one step of a region that draws its order. -/
theorem step_none {ops : Array Oper} {o : Oper} {a : Act} {w : World} {K : Act → World → Prop} {Q : Exit → Act → World → Prop} {E : Prop} (hgd : o.guard = none)
    (ho : o.op = .call { callee := .value (.func 46), args := #[], argTypes := #[] })
    (hK : ∀ (x : Pv) w', x.data = noneD → Two w.heap.size x w' → Below w.heap.size w w' → K (a.put o.dst (.agg #[.bool x.on, .slice x.ha x.hs.length x.hc, .slice x.ta x.ts.length x.tc])) w') :
    if Region.wanted o (yielded ops a.tmps) = true then Oper.wp Try.prog o a w K Q else E := by
  have hw : Region.wanted o (yielded ops a.tmps) = true := by simp [Region.wanted, hgd]
  rw [if_pos hw]
  unfold Oper.wp
  rw [enters_none a o w ho, Oper.upon_enter]
  refine (l7None w).mono ?_
  rintro e w' ⟨x, rfl, hd, h2, hb⟩
  exact hK x w' hd h2 hb

/-- The list in its box. -/
structure Bxd (w0 : World) (M : List Pv) (v : Value) (w : World) : Prop where
  out : Row w (w0.heap.size + 1) [v]
  res : Row w w0.heap.size [.slice none 0 0]
  grw : Grw (w0.heap.size + 2) M v w
  bel : Below w0.heap.size w0 w
theorem Bxd.below {w0 : World} {M : List Pv} {v : Value} {w w' : World} (h : Bxd w0 M v w) (k : Below w.heap.size w w') : Bxd w0 M v w' :=
  ⟨h.out.below k h.out.lt, h.res.below k h.res.lt, h.grw.below k, h.bel.trans (k.mono h.bel.size)⟩
theorem Bxd.more {w0 : World} {M : List Pv} {v v' : Value} {w w2 w3 : World} {x : Pv} {E : Nat} (h : Bxd w0 M v w) (hE : w.heap.size ≤ E) (hb : Below w.heap.size w w2) (h2 : Two E x w2)
    (r : RowO w3 (w0.heap.size + 2) 67 3 v' (M.length + 1) (pcs M ++ x.cells)) (k : Kept (fun b => rb v = some b) w2 w3) (t : rb v' = none ∨ rb v' = rb v ∨ (rb v' = some w2.heap.size ∧ w2.heap.size < w3.heap.size)) :
    Row w3 (w0.heap.size + 1) [v] ∧ Bxd w0 (M ++ [x]) v' (w3.setCell ⟨w0.heap.size + 1, 0, none⟩ v') := by
  have hfar : ∀ b, b < w0.heap.size + 2 → ¬ rb v = some b := (fun b hb e => by have := (RowO.lt h.grw.row e).1; omega)
  have h2' := h.below hb
  have o3 := h2'.out.kept k (hfar _ (by omega))
  have r3 := h2'.res.kept k (hfar _ (by omega))
  have b3 := h2'.bel.trans (k.below h2'.bel.size (fun b hb => hfar b (by omega)))
  have g3 := h.grw.more hE hb h2 r k t
  exact ⟨o3, o3.set 0 v', r3.other (p := ⟨w0.heap.size + 1, 0, none⟩) (by show w0.heap.size ≠ w0.heap.size + 1; omega) _, g3.kept (kept_set w3 (w0.heap.size + 1) 0 _) (fun b hb => by omega), below_set b3 (w0.heap.size + 1) 0 _ (by omega)⟩

set_option maxRecDepth 100000 in
set_option maxHeartbeats 2000000 in
theorem sNewPool (w : World) : Calls Try.prog 33 #[] w fun r w' => ∃ a cap M, r = .returned (plV a (M : List Pv).length cap) ∧ PvsW w' w.heap.size a M ∧ M.map Pv.data = List.replicate 4 noneD ∧ Below w.heap.size w w' := by
  obtain ⟨wa, hwa, ez, A0, C0, B0⟩ := two_new w [.slice none 0 0] [.slice none 0 0] 26 26
  have HX : Hid (Bxd w [] (.slice none 0 0) wa) := ⟨C0, A0, grw_none _ _ _ (by omega), B0⟩
  have HWa := hid hwa
  clear A0 B0 C0 ez hwa
  go_enter Try.func33, Try.ntmps33
  go_wp2
  have hwa := HWa.out
  try simp only [hwa]
  clear hwa HWa
  go_loopw [2] (fun i wr => ∃ (k : Nat) (M : List Pv) (v : Value), k ≤ 4 ∧ i = .int .i64 (k : Int) ∧ Hid (M.length = k) ∧ Hid (M.map Pv.data = List.replicate k noneD) ∧ Hid (Bxd w M v wr)) (fun i _ => 4 - (intOf i).toNat)
  case atStart => exact ⟨0, [], .slice none 0 0, Nat.zero_le _, rfl, rfl, rfl, HX⟩
  case round =>
    obtain ⟨k, M, v, hk, rfl, HN, HD, HB⟩ := hrel
    clear HX
    by_cases hlt : k < 4
    · have o0 := HB.out.out.c 0 rfl
      have hml : M.length + 1 ≤ 1048576 := by have := HN.out; omega
      go_wp2
      go_region_law (first
        | (refine step_none rfl rfl ?_; intro x w1 hxd hx2 b1; have HB1 := hid (HB.out.below (w' := w1) (undrew b1)); have o1 := HB1.out.out.c 0 rfl; have o2 := fun o => ((HB1.out.below ((Below.refl _ w1).alloc (Nat.le_refl _) o)).out.c 0 rfl))
        | (refine step_app 24 67 Pv.none.val 3 56 Try.underlying24 infoPvI rfl (by decide) (by decide) rfl (.tmp 9) (.tmp 11) rfl (w.heap.size + 2) _ M.length (pcs M) rfl (HB1.out.grw.alloc _).row ⟨w1.heap.size, 0, none⟩ 1 1 x.cells rfl rfl (sl_cells w1 x.cells 67 3 rfl) (pcells_one x) hml (HB1.out.grw.alloc _).ge ?_; intro v3 w3 r3 kk3 tri3; have HM := hid (HB.out.more (Nat.le_refl _) (Below.alloc (undrew b1) (by have := (undrew b1).size; exact this) _) (hx2.below ((Below.refl _ _).alloc (Nat.le_refl _) _)) r3 kk3 tri3); obtain ⟨pc, cc, ec, _⟩ := r3.wr; subst ec; have z0 := HM.out.1.c 0 rfl; have zf := HM.out.1.f 0; clear r3 kk3 tri3))
      all_goals (go_wp2; exact ⟨⟨k + 1, M ++ [x], _, by omega, by go_num, by rw [Hid, List.length_append, HN.out]; rfl, by rw [Hid, List.map_append, HD.out, List.replicate_succ']; show _ ++ [x.data] = _; rw [hxd], HM.out.2⟩, by simp [intOf]; omega⟩)
    · obtain rfl : k = 4 := by omega
      have o0 := HB.out.out.c 0 rfl
      have e0 := HB.out.res.c 0 rfl
      have ef := HB.out.res.f 0
      obtain ⟨a', cap', rfl, hP⟩ := HB.out.grw.whole
      have HP := hid hP
      clear hP
      go_wp2
      refine bodyPost_ret (results_row rfl _ _ w.heap.size [.slice a' M.length cap'] _ rfl (HB.out.res.set 0 _) Try.underlying26 rfl (by kernel_rfl)) rfl ?_
      exact ⟨a', cap', M, rfl, (HP.out.kept (kept_set wr w.heap.size 0 _) (fun b hb => by omega)).mono (by omega), HD.out, below_set HB.out.bel w.heap.size 0 _ (Nat.le_refl _)⟩

def ptrV (g : Nat) : Value := .pointer (some ⟨g, 0, none⟩)
theorem infoPtr : (Try.prog.info? 68).map (fun i => (i.zero, i.size, i.bytes)) = some (some (.pointer none), 1, 8) := by kernel_rfl

/-- The program's volumes so far: a list of pointers, each to a block of its own. -/
structure Vgr (C : Nat) (G : List Nat) (D : List Iv) (v : Value) (w : World) : Prop where
  len : G.length = D.length
  row : RowO w C 68 1 v G.length (G.map ptrV)
  each : ∀ i, i < G.length → Row w (G.getD i 0) (ivR (D.getD i Iv.none).1 (D.getD i Iv.none).2.1 (D.getD i Iv.none).2.2)
  far : ∀ g ∈ G, C ≤ g ∧ ¬ rb v = some g
  nd : G.Nodup
  ge : C ≤ w.heap.size

theorem vgr_none (C : Nat) (b : Option Addr) (w : World) (h : C ≤ w.heap.size) : Vgr C [] [] (.slice b 0 0) w :=
  ⟨rfl, Or.inl ⟨b, rfl, rfl, rfl⟩, fun i hi => by simp at hi, fun g hg => by simp at hg, List.nodup_nil, h⟩
theorem Vgr.below {C : Nat} {G : List Nat} {D : List Iv} {v : Value} {w w' : World} (h : Vgr C G D v w) (k : Below w.heap.size w w') : Vgr C G D v w' :=
  ⟨h.len, RowO.below h.row k, fun i hi => (h.each i hi).below k (h.each i hi).lt, h.far, h.nd, Nat.le_trans h.ge k.size⟩
theorem Vgr.lt {C : Nat} {G : List Nat} {D : List Iv} {v : Value} {w : World} (h : Vgr C G D v w) {g : Nat} (hg : g ∈ G) : g < w.heap.size := by
  obtain ⟨i, hi, rfl⟩ := List.getElem_of_mem hg
  have := (h.each i hi).lt
  rwa [List.getD, List.getElem?_eq_getElem hi] at this

/-- One more volume, in a block that is new. -/
theorem Vgr.more {C g : Nat} {G : List Nat} {D : List Iv} {d : Iv} {v v' : Value} {w0 w w1 : World} (h0 : Vgr C G D v w0) (hb : Below w0.heap.size w0 w) (hg : w0.heap.size ≤ g) (R : Row w g (ivR d.1 d.2.1 d.2.2))
    (r : RowO w1 C 68 1 v' (G.length + 1) (G.map ptrV ++ [ptrV g])) (k : Kept (fun b => rb v = some b) w w1) (t : rb v' = none ∨ rb v' = rb v ∨ (rb v' = some w.heap.size ∧ w.heap.size < w1.heap.size)) : Vgr C (G ++ [g]) (D ++ [d]) v' w1 := by
  have h := h0.below hb
  have hv : ∀ b, rb v = some b → b < w0.heap.size := fun b e => (RowO.lt h0.row e).2
  have hgl := R.lt
  refine ⟨by simp [h.len], by simpa using r, fun i hi => ?_, fun g' hg' => ?_, ?_, Nat.le_trans h.ge k.size⟩
  · by_cases hi' : i < G.length
    · have e1 : (G ++ [g]).getD i 0 = G.getD i 0 := by simp [List.getD, List.getElem?_append_left hi']
      have e2 : (D ++ [d]).getD i Iv.none = D.getD i Iv.none := by simp [List.getD, List.getElem?_append_left (h.len ▸ hi')]
      rw [e1, e2]
      have hm : G.getD i 0 ∈ G := by simp [List.getD, hi']
      exact (h.each i hi').kept k (h.far _ hm).2
    · obtain rfl : i = G.length := by simp at hi; omega
      have e1 : (G ++ [g]).getD G.length 0 = g := by simp [List.getD]
      have e2 : (D ++ [d]).getD G.length Iv.none = d := by rw [h.len]; simp [List.getD]
      rw [e1, e2]
      exact R.kept k (fun e => by have := hv _ e; omega)
  · have hc := h0.ge
    rcases List.mem_append.1 hg' with hg' | hg'
    · refine ⟨(h.far g' hg').1, fun e => ?_⟩
      rcases t with t | t | ⟨t, _⟩
      · rw [t] at e; cases e
      · rw [t] at e; exact (h.far g' hg').2 e
      · rw [t] at e; cases e; have := h.lt hg'; omega
    · obtain rfl : g' = g := by simpa using hg'
      refine ⟨by omega, fun e => ?_⟩
      rcases t with t | t | ⟨t, _⟩
      · rw [t] at e; cases e
      · rw [t] at e; have := hv _ e; omega
      · rw [t] at e; cases e; omega
  · refine List.nodup_append.2 ⟨h.nd, by simp, fun a ha b hb => ?_⟩
    obtain rfl : b = g := by simpa using hb
    have := h0.lt ha
    omega

theorem Vgr.ivs {C : Nat} {G : List Nat} {D : List Iv} {v : Value} {w : World} (h : Vgr C G D v w) : ∃ a cap, v = .slice a G.length cap ∧ Ivs w a G D := by
  obtain ⟨a, cap, rfl, hw⟩ := h.row.wr
  refine ⟨a, cap, rfl, h.len, ?_, h.each⟩
  simp only [Nat.mul_one] at hw
  exact hw.sl.congr (fun i hi => by simp [List.getD, hi, ptrV])

theorem ivData_none : ivData Iv.none = noneD := rfl

set_option maxRecDepth 100000 in
set_option maxHeartbeats 2000000 in
theorem iNewPool (w : World) : Calls Try.prog 21 #[] w fun r w' => ∃ a cap M, r = .returned (plV a (M : List Pv).length cap) ∧ PvsW w' w.heap.size a M ∧ M.map Pv.data = List.replicate 4 noneD ∧ Below w.heap.size w w' := by
  obtain ⟨wa, hwa, ez, A0, B0⟩ := one_new w [.slice none 0 0] 26
  have HA := hid A0
  have HB := hid B0
  have HZ := hid ez
  clear A0 B0 ez
  go_enter Try.func21, Try.ntmps21
  go_wp2
  try simp only [hwa]
  clear hwa
  go_loopw [1, 2] (fun v i wr => ∃ (k : Nat) (G : List Nat), k ≤ 4 ∧ i = .int .i64 (k : Int) ∧ Hid (G.length = k) ∧ Hid (Vgr wa.heap.size G (List.replicate k Iv.none) v wr) ∧ Hid (Below wa.heap.size wa wr)) (fun _ i _ => 4 - (intOf i).toNat)
  case atStart => exact ⟨0, [], Nat.zero_le _, rfl, rfl, vgr_none _ _ _ (Nat.le_refl _), Below.refl _ _⟩
  case round =>
    obtain ⟨k, G, hk, rfl, HN, HV, HW⟩ := hrel
    by_cases hlt : k < 4
    · have hgl : G.length + 1 ≤ 1048576 := by have := HN.out; omega
      obtain ⟨wb, hwb, eb, A1, B1⟩ := one_new wr [.bool false, .bool false, .string ⟨#[]⟩, .bool false, .string ⟨#[]⟩, .bool false, .string ⟨#[]⟩, .bool false, .string ⟨#[]⟩] 74
      have HA1 : Hid (Row wb wr.heap.size (ivR Iv.none.1 Iv.none.2.1 Iv.none.2.2)) := A1
      have HB1 := hid B1
      have HVb := hid (HV.out.below B1)
      clear A1 B1 eb
      go_wp2_with (at_builtin; refine wpList_app 48 68 (.pointer none) 1 8 Try.underlying48 infoPtr rfl (by decide) (by decide) _ rfl (.tmp 4) (.tmp 7) rfl wa.heap.size _ G.length (G.map ptrV) rfl (HVb.out.below ((Below.refl _ wb).alloc (Nat.le_refl _) _)).row ⟨wb.heap.size, 0, none⟩ 1 1 [.pointer (some ⟨wr.heap.size, 0, none⟩)] rfl rfl (sl_cells wb [.pointer (some ⟨wr.heap.size, 0, none⟩)] 68 1 rfl) (by intro u hu; simp at hu; subst hu; rfl) hgl (HVb.out.below ((Below.refl _ wb).alloc (Nat.le_refl _) _)).ge ?_; intro v3 w3 r3 kk3 tri3; have HM := hid (HV.out.more (HB1.out.alloc HB1.out.size _) (Nat.le_refl _) (HA1.out.alloc _) r3 kk3 tri3); have HWb := hid ((HW.out.trans (HB1.out.mono HW.out.size)).alloc (HW.out.trans (HB1.out.mono HW.out.size)).size (.cells #[.pointer (some ⟨wr.heap.size, 0, none⟩)] 68)); have HW3 := hid (HWb.out.trans (kk3.below HWb.out.size (fun b hb e => by have := (RowO.lt HV.out.row e).1; omega))); obtain ⟨pc, cc, ec, _⟩ := r3.wr; subst ec; clear r3 kk3 tri3)
      exact ⟨⟨k + 1, G ++ [wr.heap.size], by omega, by go_num, by rw [Hid, List.length_append, HN.out]; rfl, by rw [List.replicate_succ']; exact HM, HW3⟩, by simp [intOf]; omega⟩
    · obtain rfl : k = 4 := by omega
      obtain ⟨a1, cap1, rfl, hI⟩ := HV.out.ivs
      have HI := hid hI
      have hg4 : G.length ≤ 1048575 := by have := HN.out; omega
      clear hI
      go_wp2_with fail
      refine (poolOf wr a1 cap1 G _ HI.out hg4).mono ?_
      rintro e w4 ⟨a', cap', M, rfl, hP, hD, b4⟩
      unfold plV
      have HP := hid hP
      have HDt : Hid (M.map Pv.data = List.replicate 4 noneD) := by rw [Hid, hD]; rfl
      have RA := (HA.out.below HW.out HA.out.lt).below b4 (HA.out.below HW.out HA.out.lt).lt
      have e0 := RA.c 0 rfl
      have ef := RA.f 0
      have HR := hid (RA.set 0 (.slice a' M.length cap'))
      have HB4 := hid ((HB.out.trans (HW.out.mono HB.out.size)).trans (b4.mono (HB.out.trans (HW.out.mono HB.out.size)).size))
      have hwl : w.heap.size < wr.heap.size := (HA.out.below HW.out HA.out.lt).lt
      clear hP hD RA b4
      go_wp2
      refine bodyPost_ret (results_row rfl _ _ w.heap.size [.slice a' M.length cap'] _ rfl HR.out Try.underlying26 rfl (by kernel_rfl)) rfl ?_
      exact ⟨a', cap', M, rfl, (HP.out.kept (kept_set w4 w.heap.size 0 _) (fun b hb => by omega)).mono (by omega), HDt.out, below_set HB4.out w.heap.size 0 _ (Nat.le_refl _)⟩

end Go.Proofs.Ytbnpnhcegoanmaa.Pl
