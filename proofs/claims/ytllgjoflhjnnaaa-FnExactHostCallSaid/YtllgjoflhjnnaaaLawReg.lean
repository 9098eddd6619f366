/-
  Two regions that each exact law has, at any program: an argument laid anew and put into a box; what stands in the box compared with the argument laid anew. One step an operation, however long the structs are. No condition.
-/
import Derived.Test.YtllgjoflhjnnaaaRowCopy
import Derived.OrdersHeld
namespace Go.Proofs.Ytllgjoflhjnnaaa.Pl
open Go.RowKit Go.Proofs.Ytllgjoflhjnnaaa.Mem
set_option linter.unusedVariables false

theorem enters {P : Program} (a : Act) (o : Oper) (w : World) (xs : Array Operand) (ts : Array TypeId) (f : FuncId) (ho : o.op = .call { callee := .value (.func f), args := xs, argTypes := ts }) (vs : Array Value) (hv : xs.map a.eval = vs) (hc : ∀ vs w, (callFunc f vs).run P w = .ok (.enter f vs) w) :
    (execOp a.eval o).run P w = .ok (.enter f vs) w := by
  unfold execOp
  simp [ho, hv, go_sem, resolve, invoke, hc]

theorem run_not {P : Program} {ρ : Operand → Value} {o : Oper} {w : World} (ty : TypeId) (x : Operand) (p : o.op = .unOp .not ty x) (e : ρ x = .bool true) : (execOp ρ o).run P w = .ok (.value (.bool false)) w := by
  unfold execOp
  simp [p, e, go_sem]

theorem wpList_call {P : Program} {ops : Array Oper} {rest : List Oper} {op : Oper} {a : Act} {w : World} {Q : Exit → Act → World → Prop} (hgd : op.guard = none) (f : FuncId) (xs : Array Operand) (ts : Array TypeId)
    (ho : op.op = .call { callee := .value (.func f), args := xs, argTypes := ts }) (vs : Array Value) (hv : xs.map a.eval = vs) (hc : ∀ vs w, (callFunc f vs).run P w = .ok (.enter f vs) w)
    (h : Calls P f vs w fun e w' => ∃ v, e = .returned v ∧ wpList P ops Q rest (a.put op.dst v) w') : wpList P ops Q (op :: rest) a w :=
  wpList_plain hgd fun K hK => by
    unfold Oper.wp
    rw [enters a op w xs ts f ho vs hv hc, Oper.upon_enter]
    refine h.mono ?_
    rintro e w' ⟨v, rfl, hw⟩
    exact hK _ _ hw

/-- What stands in a box, held against the argument laid anew. -/
theorem region_eq {P : Program} {ops : Array Oper} {id : Nat} {a : Act} {w : World} {Q : Exit → Act → World → Prop} (hm : P.follows .mixedOrders = true) (h5 : ops.size = 5)
    {o0 o1 o2 o3 o4 : Oper} (i0 : ops[0]? = some o0) (i1 : ops[1]? = some o1) (i2 : ops[2]? = some o2) (i3 : ops[3]? = some o3) (i4 : ops[4]? = some o4)
    (g0 : o0.guard = none) (g1 : o1.guard = none) (g2 : o2.guard = none) (g3 : o3.guard = none) (g4 : o4.guard = none)
    (hs : Region.noSelect ops = true)
    (f0 : Region.free .any ops (Array.replicate 5 false) 0 = true) (r0 : (Region.ready .any ops (Array.replicate 5 false)).contains 0 = true)
    (f1 : Region.free .any ops ((Array.replicate 5 false).setIfInBounds 0 true) 1 = true) (r1 : (Region.ready .any ops ((Array.replicate 5 false).setIfInBounds 0 true)).contains 1 = true)
    (r2 : Region.ready .any ops (((Array.replicate 5 false).setIfInBounds 0 true).setIfInBounds 1 true) = [2])
    (r3 : Region.ready .any ops ((((Array.replicate 5 false).setIfInBounds 0 true).setIfInBounds 1 true).setIfInBounds 2 true) = [3])
    (r4 : Region.ready .any ops (((((Array.replicate 5 false).setIfInBounds 0 true).setIfInBounds 1 true).setIfInBounds 2 true).setIfInBounds 3 true) = [4])
    (r5 : Region.ready .any ops ((((((Array.replicate 5 false).setIfInBounds 0 true).setIfInBounds 1 true).setIfInBounds 2 true).setIfInBounds 3 true).setIfInBounds 4 true) = [])
    (q0 : ∀ (v : Value) c (a : Act) w, Q (.panic c) (a.put o0.dst v) w → Q (.panic c) a w) (q1 : ∀ (v : Value) c (a : Act) w, Q (.panic c) (a.put o1.dst v) w → Q (.panic c) a w)
    (ty0 : TypeId) (x0 : Operand) (p0 : o0.op = .load ty0 x0) (b0 : Nat) (cs0 : List Value) (d0 : TypeDesc) (e0 : a.eval x0 = .pointer (some ⟨b0, 0, none⟩)) (R0 : Row w b0 cs0)
    (u0 : P.underlying ty0 = some d0) (k0 : d0.isRow = true) (n0 : (P.info? ty0).map (·.size) = some cs0.length)
    (ty1 : TypeId) (x1 : Operand) (p1 : o1.op = .load ty1 x1) (b1 : Nat) (cs1 : List Value) (d1 : TypeDesc) (e1 : (a.put o0.dst (.agg cs0.toArray)).eval x1 = .pointer (some ⟨b1, 0, none⟩)) (R1 : Row w b1 cs1)
    (u1 : P.underlying ty1 = some d1) (k1 : d1.isRow = true) (n1 : (P.info? ty1).map (·.size) = some cs1.length)
    (c2 : FuncId) (y2 : Operand) (ts2 : Array TypeId) (p2 : o2.op = .call { callee := .value (.func c2), args := #[y2], argTypes := ts2 }) (m2 : ∀ vs w, (callFunc c2 vs).run P w = .ok (.enter c2 vs) w)
    (e2 : ((a.put o0.dst (.agg cs0.toArray)).put o1.dst (.agg cs1.toArray)).eval y2 = .agg cs1.toArray)
    (c3 : FuncId) (y3 z3 : Operand) (ts3 : Array TypeId) (p3 : o3.op = .call { callee := .value (.func c3), args := #[y3, z3], argTypes := ts3 }) (m3 : ∀ vs w, (callFunc c3 vs).run P w = .ok (.enter c3 vs) w)
    (e3 : ∀ V, (((a.put o0.dst (.agg cs0.toArray)).put o1.dst (.agg cs1.toArray)).put o2.dst V).eval y3 = .agg cs0.toArray) (e3' : ∀ V, (((a.put o0.dst (.agg cs0.toArray)).put o1.dst (.agg cs1.toArray)).put o2.dst V).eval z3 = V)
    (ty4 : TypeId) (x4 : Operand) (p4 : o4.op = .unOp .not ty4 x4) (e4 : ∀ V, ((((a.put o0.dst (.agg cs0.toArray)).put o1.dst (.agg cs1.toArray)).put o2.dst V).put o3.dst (.bool true)).eval x4 = .bool true)
    (R : Value → World → Prop)
    (C2 : ∀ w', Below w.heap.size w w' → Calls P c2 #[.agg cs1.toArray] w' fun e w'' => ∃ V, e = .returned V ∧ R V w'' ∧ Below w'.heap.size w' w'')
    (C3 : ∀ V w', Below w.heap.size w w' → R V w' → Calls P c3 #[.agg cs0.toArray, V] w' fun e w'' => e = .returned (.bool true) ∧ Below w'.heap.size w' w'')
    (h : ∀ V w', Below w.heap.size w w' → Q .normal (((((a.put o0.dst (.agg cs0.toArray)).put o1.dst (.agg cs1.toArray)).put o2.dst V).put o3.dst (.bool true)).put o4.dst (.bool false)) w') :
    (Code.region id ops true).wp P Q a w := by
  refine wp_region_held (S := fun w' => Below w.heap.size w w') hm ?_
  rw [h5]
  have S0 : Below w.heap.size w { w with drawn := w.drawn + 1 } := (Below.refl _ w).drew
  refine wpAnyH_take i0 hs f0 r0 (q0 _) (yieldsIf_load_mid (by simp [Region.wanted, g0]) ty0 x0 p0 b0 0 e0 cs0 d0 (fun w' hw' => fun j v hv => by rw [Nat.zero_add]; exact (R0.below hw' R0.lt).c j hv) u0 k0 n0) S0 ?_
  refine wpAnyH_take i1 hs f1 r1 (q1 _) (yieldsIf_load_mid (by simp [Region.wanted, g1]) ty1 x1 p1 b1 0 e1 cs1 d1 (fun w' hw' => fun j v hv => by rw [Nat.zero_add]; exact (R1.below hw' R1.lt).c j hv) u1 k1 n1) S0 ?_
  refine wpAnyH_all r2 (by simp) ?_
  intro i hi
  obtain rfl : i = 2 := by simpa using hi
  refine wpOp_step i2 (fun K hK => ?_)
  rw [if_pos (by simp [Region.wanted, g2])]
  unfold Oper.wp
  rw [enters _ o2 _ #[y2] ts2 c2 p2 #[.agg cs1.toArray] (by simp only [List.map_toArray, List.map_cons, List.map_nil, e2]) m2, Oper.upon_enter]
  refine (C2 _ S0).mono ?_
  rintro e w2 ⟨V, rfl, hR, B2⟩
  have S2 : Below w.heap.size w w2 := S0.trans (B2.mono S0.size)
  refine hK _ _ ⟨S2, ?_⟩
  refine wpAnyH_all r3 (by simp) ?_
  intro i hi
  obtain rfl : i = 3 := by simpa using hi
  refine wpOp_step i3 (fun K hK => ?_)
  rw [if_pos (by simp [Region.wanted, g3])]
  unfold Oper.wp
  rw [enters _ o3 _ #[y3, z3] ts3 c3 p3 #[.agg cs0.toArray, V] (by simp only [List.map_toArray, List.map_cons, List.map_nil, e3 V, e3' V]) m3, Oper.upon_enter]
  refine (C3 V w2 S2 hR).mono ?_
  rintro e w3 ⟨rfl, B3⟩
  have S3 : Below w.heap.size w w3 := S2.trans (B3.mono S2.size)
  refine hK _ _ ⟨S3, ?_⟩
  refine wpAnyH_all r4 (by simp) ?_
  intro i hi
  obtain rfl : i = 4 := by simpa using hi
  refine wpOp_step i4 (fun K hK => ?_)
  rw [if_pos (by simp [Region.wanted, g4])]
  unfold Oper.wp
  rw [run_not ty4 x4 p4 (e4 V), Oper.upon_value]
  exact hK _ _ ⟨S3, wpAnyH_done r5 (h V w3 S3) _⟩

theorem listed_all (vs : List Value) : ∀ (xs : List Value) (i : Nat), xs.length = i + vs.length → listed xs i vs = xs.take i ++ vs := by
  induction vs with
  | nil => intro xs i h; simp only [listed, List.append_nil]; rw [List.take_of_length_le]; simp at h; omega
  | cons v vs ih =>
    intro xs i h
    have h2 : i < xs.length := by simp at h; omega
    have h3 : (xs.set i v).take (i + 1) = xs.take i ++ [v] := by
      rw [List.take_add_one, List.take_set, List.set_eq_of_length_le (by simp; omega)]
      simp [h2]
    rw [listed, ih (xs.set i v) (i + 1) (by simp at h ⊢; omega), h3, List.append_assoc]
    rfl

/-- An argument laid anew and put into a box. -/
theorem region_box {P : Program} {ops : Array Oper} {id : Nat} {a : Act} {w : World} {Q : Exit → Act → World → Prop}
    {o0 o1 o2 o3 : Oper} (hl : ops.toList = [o0, o1, o2, o3]) (g0 : o0.guard = none) (g1 : o1.guard = none) (g2 : o2.guard = none) (g3 : o3.guard = none)
    (ty0 : TypeId) (x0 : Operand) (p0 : o0.op = .load ty0 x0) (b0 : Nat) (cs0 : List Value) (d0 : TypeDesc) (e0 : a.eval x0 = .pointer (some ⟨b0, 0, none⟩)) (R0 : Row w b0 cs0)
    (u0 : P.underlying ty0 = some d0) (k0 : d0.isRow = true) (n0 : (P.info? ty0).map (·.size) = some cs0.length)
    (c1 : FuncId) (y1 : Operand) (ts1 : Array TypeId) (p1 : o1.op = .call { callee := .value (.func c1), args := #[y1], argTypes := ts1 }) (m1 : ∀ vs w, (callFunc c1 vs).run P w = .ok (.enter c1 vs) w)
    (e1 : (a.put o0.dst (.agg cs0.toArray)).eval y1 = .agg cs0.toArray)
    (zs : List Value) (ty2 : TypeId) (al : ∀ (ρ : Operand → Value) w, (execOp ρ o2).run P w = .ok (.value (.pointer (some ⟨w.heap.size, 0, none⟩))) (w.alloc (.cells zs.toArray ty2)))
    (ty3 : TypeId) (x3 y3 : Operand) (p3 : o3.op = .store ty3 x3 y3) (i3 : (P.info? ty3).map (·.size) = some zs.length)
    (e3 : ∀ V X, (((a.put o0.dst (.agg cs0.toArray)).put o1.dst V).put o2.dst X).eval x3 = X) (e4 : ∀ V X, (((a.put o0.dst (.agg cs0.toArray)).put o1.dst V).put o2.dst X).eval y3 = V)
    (R : List Value → World → Prop)
    (C1 : Calls P c1 #[.agg cs0.toArray] w fun e w' => ∃ cs, e = .returned (.agg (List.toArray cs)) ∧ cs.length = zs.length ∧ cs.all (·.oneCell') = true ∧ R cs w' ∧ Below w.heap.size w w')
    (h : ∀ cs w1 wz, R cs w1 → Below w.heap.size w w1 → Row wz w1.heap.size cs → Below w1.heap.size w1 wz → Q .normal ((((a.put o0.dst (.agg cs0.toArray)).put o1.dst (.agg cs.toArray)).put o2.dst (.pointer (some ⟨w1.heap.size, 0, none⟩))).put o3.dst undef) wz) :
    (Code.region id ops false).wp P Q a w := by
  refine wp_region_list ?_
  rw [hl]
  refine wpList_load_row g0 ty0 x0 p0 b0 e0 cs0 d0 R0 u0 k0 n0 ?_
  refine wpList_call g1 c1 #[y1] ts1 p1 #[.agg cs0.toArray] (by simp only [List.map_toArray, List.map_cons, List.map_nil, e1]) m1 (C1.mono ?_)
  rintro e w1 ⟨cs, rfl, hlen, h1, hR, B1⟩
  refine ⟨_, rfl, ?_⟩
  refine wpList_plain g2 (fun K hK => ?_)
  unfold Oper.wp
  rw [al, Oper.upon_value]
  refine hK _ _ ?_
  have hr := Row.new w1 zs ty2
  refine wpList_store_row g3 ty3 x3 y3 p3 w1.heap.size (e3 _ _) zs cs (e4 _ _) hr hlen (by rw [i3, hlen]) h1 ?_
  refine wpList_nil ?_
  have hrow := puts_row hr 0 cs
  rw [listed_all cs zs 0 (by omega)] at hrow
  exact h cs w1 _ hR B1 hrow (puts_below ((Below.refl _ w1).alloc (Nat.le_refl _) _) (Nat.le_refl _) 0 cs)

end Go.Proofs.Ytllgjoflhjnnaaa.Pl
