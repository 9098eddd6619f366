/-
  The regions of an exact law in which a function of two answers is called, and its first answer put into a box: at any program, whatever the order that is drawn. No condition.
-/
import Derived.Test.YtllgjoflhjnnaaaLawReg
namespace Go.Proofs.Ytllgjoflhjnnaaa.Pl
open Go.RowKit Go.Proofs.Ytllgjoflhjnnaaa.Mem
set_option linter.unusedVariables false

def arr (n : Nat) (S : List Nat) : Array Bool := ((List.range n).map (fun i => S.contains i)).toArray
/-- Number i may come up and may be taken first. -/
def frT (n : Nat) (ops : Array Oper) (S : List Nat) (i : Nat) : Bool := Region.free .any ops (arr n S) i && (Region.ready .any ops (arr n S)).contains i
def rdT (n : Nat) (ops : Array Oper) (S : List Nat) (l : List Nat) : Bool := Region.ready .any ops (arr n S) == l

/-- The shape: load, call, load, call, call, move, extract, extract, alloc, store, assign. -/
def shapeA (ops : Array Oper) : Bool :=
  (ops.size == 11 && Region.noSelect ops) && ((frT 11 ops [] 0 && frT 11 ops [0] 2)
  && ((rdT 11 ops [0, 2] [1, 8] && (rdT 11 ops [0, 1, 2] [3, 8] && rdT 11 ops [0, 1, 2, 3] [4, 8]))
  && ((rdT 11 ops [0, 2, 8] [1] && (rdT 11 ops [0, 1, 2, 8] [3] && rdT 11 ops [0, 1, 2, 3, 8] [4]))
  && ((frT 11 ops [0, 1, 2, 3, 4] 5 && (frT 11 ops [0, 1, 2, 3, 4, 5] 6 && (frT 11 ops [0, 1, 2, 3, 4, 5, 6] 7 && rdT 11 ops [0, 1, 2, 3, 4, 5, 6, 7] [8])))
  && ((frT 11 ops [0, 1, 2, 3, 4, 8] 5 && (frT 11 ops [0, 1, 2, 3, 4, 5, 8] 6 && (frT 11 ops [0, 1, 2, 3, 4, 5, 6, 8] 7 && rdT 11 ops [0, 1, 2, 3, 4, 5, 6, 7, 8] [9])))
  && (rdT 11 ops [0, 1, 2, 3, 4, 5, 6, 7, 8, 9] [10] && rdT 11 ops [0, 1, 2, 3, 4, 5, 6, 7, 8, 9, 10] []))))))

/-- The same without the first call: load, load, call, call, move, extract, extract, alloc, store, assign. -/
def shapeB (ops : Array Oper) : Bool :=
  (ops.size == 10 && Region.noSelect ops) && ((frT 10 ops [] 0 && frT 10 ops [0] 1)
  && ((rdT 10 ops [0, 1] [2, 7] && rdT 10 ops [0, 1, 2] [3, 7])
  && ((rdT 10 ops [0, 1, 7] [2] && rdT 10 ops [0, 1, 2, 7] [3])
  && ((frT 10 ops [0, 1, 2, 3] 4 && (frT 10 ops [0, 1, 2, 3, 4] 5 && (frT 10 ops [0, 1, 2, 3, 4, 5] 6 && rdT 10 ops [0, 1, 2, 3, 4, 5, 6] [7])))
  && ((frT 10 ops [0, 1, 2, 3, 7] 4 && (frT 10 ops [0, 1, 2, 3, 4, 7] 5 && (frT 10 ops [0, 1, 2, 3, 4, 5, 7] 6 && rdT 10 ops [0, 1, 2, 3, 4, 5, 6, 7] [8])))
  && (rdT 10 ops [0, 1, 2, 3, 4, 5, 6, 7, 8] [9] && rdT 10 ops [0, 1, 2, 3, 4, 5, 6, 7, 8, 9] []))))))

theorem put_comm (a : Act) {d1 d2 : Option Tmp} (h : d1 ≠ d2) (u v : Value) : (a.put d1 u).put d2 v = (a.put d2 v).put d1 u := by
  cases d1 with
  | none => rfl
  | some s =>
    cases d2 with
    | none => rfl
    | some t =>
      have hst : s ≠ t := fun e => h (by rw [e])
      simp only [Act.put]
      rw [Array.setIfInBounds_comm _ _ hst]
def offT (d : Option Tmp) (y : Operand) : Bool := match d, y with
  | some t, .tmp s => s != t
  | _, _ => true
theorem eval_off (a : Act) {d : Option Tmp} {y : Operand} (h : offT d y = true) (v : Value) : (a.put d v).eval y = a.eval y := by
  cases d with
  | none => rfl
  | some t =>
    cases y with
    | tmp s =>
      have hst : s ≠ t := by simpa [offT] using h
      simp only [Act.put, Act.eval]
      rw [Array.getD_eq_getD_getElem?, Array.getD_eq_getD_getElem?, Array.getElem?_setIfInBounds_ne hst.symm]
    | _ => rfl

theorem run_move {P : Program} {ρ : Operand → Value} {o : Oper} {w : World} (x : Operand) (p : o.op = .move x) {v : Value} (e : ρ x = v) : (execOp ρ o).run P w = .ok (.value v) w := by
  unfold execOp
  simp [p, e, go_sem]
theorem run_assign {P : Program} {ρ : Operand → Value} {o : Oper} {w : World} (x : Operand) (p : o.op = .assign x) {v : Value} (e : ρ x = v) : (execOp ρ o).run P w = .ok (.value v) w := by
  unfold execOp
  simp [p, e, go_sem]
theorem run_ext {P : Program} {ρ : Operand → Value} {o : Oper} {w : World} (x : Operand) (i : Nat) (p : o.op = .extract x i) {vs : Array Value} {v : Value} (e : ρ x = .tuple vs) (hv : vs[i]? = some v) : (execOp ρ o).run P w = .ok (.value v) w := by
  unfold execOp
  simp [p, e, hv, go_sem]

theorem arr_set (n : Nat) (S T : List Nat) (i : Nat) (h : ((arr n S).setIfInBounds i true == arr n T) = true) : (arr n S).setIfInBounds i true = arr n T := by simpa using h

/-- load, call, load, call, call of two answers, the first one into a box. -/
theorem region_three {P : Program} {ops : Array Oper} {id : Nat} {a : Act} {w : World} {Q : Exit → Act → World → Prop} (hm : P.follows .mixedOrders = true) (hsh : shapeA ops = true)
    {o0 o1 o2 o3 o4 o5 o6 o7 o8 o9 o10 : Oper} (i0 : ops[0]? = some o0) (i1 : ops[1]? = some o1) (i2 : ops[2]? = some o2) (i3 : ops[3]? = some o3) (i4 : ops[4]? = some o4) (i5 : ops[5]? = some o5) (i6 : ops[6]? = some o6) (i7 : ops[7]? = some o7) (i8 : ops[8]? = some o8) (i9 : ops[9]? = some o9) (i10 : ops[10]? = some o10)
    (hg : o0.guard = none ∧ o1.guard = none ∧ o2.guard = none ∧ o3.guard = none ∧ o4.guard = none ∧ o5.guard = none ∧ o6.guard = none ∧ o7.guard = none ∧ o8.guard = none ∧ o9.guard = none ∧ o10.guard = none)
    (q : ∀ (d : Option Tmp) (v : Value) c (a : Act) w, Q (.panic c) (a.put d v) w → Q (.panic c) a w)
    (hd : o1.dst ≠ o8.dst ∧ o3.dst ≠ o8.dst ∧ o4.dst ≠ o8.dst ∧ o5.dst ≠ o8.dst ∧ o6.dst ≠ o8.dst ∧ o7.dst ≠ o8.dst)
    (tyA : TypeId) (xA : Operand) (pA : o0.op = .load tyA xA) (bA : Nat) (csA : List Value) (dA : TypeDesc) (eA : a.eval xA = .pointer (some ⟨bA, 0, none⟩)) (RA : Row w bA csA) (uA : P.underlying tyA = some dA) (kA : dA.isRow = true) (nA : (P.info? tyA).map (·.size) = some csA.length)
    (tyB : TypeId) (xB : Operand) (pB : o2.op = .load tyB xB) (bB : Nat) (csB : List Value) (dB : TypeDesc) (eB : (a.put o0.dst (.agg csA.toArray)).eval xB = .pointer (some ⟨bB, 0, none⟩)) (RB : Row w bB csB) (uB : P.underlying tyB = some dB) (kB : dB.isRow = true) (nB : (P.info? tyB).map (·.size) = some csB.length)
    (cA : FuncId) (yA : Operand) (tsA : Array TypeId) (p1 : o1.op = .call { callee := .value (.func cA), args := #[yA], argTypes := tsA }) (mA : ∀ vs w, (callFunc cA vs).run P w = .ok (.enter cA vs) w) (eyA : ((a.put o0.dst (.agg csA.toArray)).put o2.dst (.agg csB.toArray)).eval yA = .agg csA.toArray) (fyA : offT o8.dst yA = true)
    (cB : FuncId) (yB : Operand) (tsB : Array TypeId) (p3 : o3.op = .call { callee := .value (.func cB), args := #[yB], argTypes := tsB }) (mB : ∀ vs w, (callFunc cB vs).run P w = .ok (.enter cB vs) w) (eyB : ∀ VA, (((a.put o0.dst (.agg csA.toArray)).put o2.dst (.agg csB.toArray)).put o1.dst VA).eval yB = .agg csB.toArray) (fyB : offT o8.dst yB = true)
    (cF : FuncId) (yF zF : Operand) (tsF : Array TypeId) (p4 : o4.op = .call { callee := .value (.func cF), args := #[yF, zF], argTypes := tsF }) (mF : ∀ vs w, (callFunc cF vs).run P w = .ok (.enter cF vs) w) (eyF : ∀ VA VB, ((((a.put o0.dst (.agg csA.toArray)).put o2.dst (.agg csB.toArray)).put o1.dst VA).put o3.dst VB).eval yF = VA) (ezF : ∀ VA VB, ((((a.put o0.dst (.agg csA.toArray)).put o2.dst (.agg csB.toArray)).put o1.dst VA).put o3.dst VB).eval zF = VB) (fF : offT o8.dst yF = true ∧ offT o8.dst zF = true)
    (x5 : Operand) (p5 : o5.op = .move x5) (e5 : ∀ VA VB T, (((((a.put o0.dst (.agg csA.toArray)).put o2.dst (.agg csB.toArray)).put o1.dst VA).put o3.dst VB).put o4.dst T).eval x5 = T)
    (x6 : Operand) (p6 : o6.op = .extract x6 0) (e6 : ∀ VA VB T, ((((((a.put o0.dst (.agg csA.toArray)).put o2.dst (.agg csB.toArray)).put o1.dst VA).put o3.dst VB).put o4.dst T).put o5.dst T).eval x6 = T)
    (x7 : Operand) (p7 : o7.op = .extract x7 1) (e7 : ∀ VA VB T V1, (((((((a.put o0.dst (.agg csA.toArray)).put o2.dst (.agg csB.toArray)).put o1.dst VA).put o3.dst VB).put o4.dst T).put o5.dst T).put o6.dst V1).eval x7 = T) (f57 : offT o8.dst x5 = true ∧ offT o8.dst x6 = true ∧ offT o8.dst x7 = true)
    (zs : List Value) (ty8 : TypeId) (al : ∀ (ρ : Operand → Value) w, (execOp ρ o8).run P w = .ok (.value (.pointer (some ⟨w.heap.size, 0, none⟩))) (w.alloc (.cells zs.toArray ty8)))
    (ty9 : TypeId) (x9 y9 : Operand) (p9 : o9.op = .store ty9 x9 y9) (n9 : (P.info? ty9).map (·.size) = some zs.length) (e9 : ∀ VA VB T V1 V2 X, (((((((((a.put o0.dst (.agg csA.toArray)).put o2.dst (.agg csB.toArray)).put o1.dst VA).put o3.dst VB).put o4.dst T).put o5.dst T).put o6.dst V1).put o7.dst V2).put o8.dst X).eval x9 = X) (e9' : ∀ VA VB T V1 V2 X, (((((((((a.put o0.dst (.agg csA.toArray)).put o2.dst (.agg csB.toArray)).put o1.dst VA).put o3.dst VB).put o4.dst T).put o5.dst T).put o6.dst V1).put o7.dst V2).put o8.dst X).eval y9 = V1)
    (x10 : Operand) (p10 : o10.op = .assign x10) (e10 : ∀ VA VB T V1 V2 X, ((((((((((a.put o0.dst (.agg csA.toArray)).put o2.dst (.agg csB.toArray)).put o1.dst VA).put o3.dst VB).put o4.dst T).put o5.dst T).put o6.dst V1).put o7.dst V2).put o8.dst X).put o9.dst undef).eval x10 = V2)
    (SA SB : Value → World → Prop) (sA : ∀ V w' w'', SA V w' → Below w'.heap.size w' w'' → SA V w'') (sB : ∀ V w' w'', SB V w' → Below w'.heap.size w' w'' → SB V w'')
    (CA : ∀ w', Below w.heap.size w w' → Calls P cA #[.agg csA.toArray] w' fun e w'' => ∃ V, e = .returned V ∧ SA V w'' ∧ Below w'.heap.size w' w'')
    (CB : ∀ w', Below w.heap.size w w' → Calls P cB #[.agg csB.toArray] w' fun e w'' => ∃ V, e = .returned V ∧ SB V w'' ∧ Below w'.heap.size w' w'')
    (V2 : Value) (RF : Nat → List Value → World → Prop) (Ft : List Value → Nat → Prop)
    (CF : ∀ VA VB w', Below w.heap.size w w' → SA VA w' → SB VB w' → Calls P cF #[VA, VB] w' fun e w'' => ∃ cs, e = .returned (.tuple #[.agg (List.toArray cs), V2]) ∧ cs.length = zs.length ∧ cs.all (·.oneCell') = true ∧ RF w'.heap.size cs w'' ∧ Below w'.heap.size w' w'')
    (hF : ∀ B cs w', RF B cs w' → ∀ b, Ft cs b → B ≤ b ∧ b < w'.heap.size)
    (hK : ∀ B cs w' w'' (S : Nat → Prop), RF B cs w' → Kept S w' w'' → (∀ b, Ft cs b → ¬ S b) → RF B cs w'')
    (h : ∀ VA VB cs g B wr, w.heap.size ≤ B → w.heap.size ≤ g → Below w.heap.size w wr → Row wr g cs → RF B cs wr → (∀ b, Ft cs b → b ≠ g) → Q .normal (((((((((((a.put o0.dst (.agg csA.toArray)).put o2.dst (.agg csB.toArray)).put o1.dst VA).put o3.dst VB).put o4.dst (.tuple #[.agg (List.toArray cs), V2])).put o5.dst (.tuple #[.agg (List.toArray cs), V2])).put o6.dst (.agg (List.toArray cs))).put o7.dst V2).put o8.dst (.pointer (some ⟨g, 0, none⟩))).put o9.dst undef).put o10.dst V2) wr) :
    (Code.region id ops true).wp P Q a w := by
  obtain ⟨g0, g1, g2, g3, g4, g5, g6, g7, g8, g9, g10⟩ := hg
  obtain ⟨d1, d3, d4, d5, d6, d7⟩ := hd
  simp only [shapeA, frT, rdT, Bool.and_eq_true, beq_iff_eq] at hsh
  obtain ⟨⟨h11, hns⟩, ⟨fr0, fr2⟩, ⟨ra, rb, rc⟩, ⟨rd, re, rf⟩, ⟨f5a, f6a, f7a, r8⟩, ⟨f5b, f6b, f7b, r9⟩, r10, r11⟩ := hsh
  -- behind the box: the store and the last one
  have hst : ∀ VA VB cs g B wr, cs.length = zs.length → cs.all (·.oneCell') = true → w.heap.size ≤ B → w.heap.size ≤ g → Below w.heap.size w wr → Row wr g zs → RF B cs wr → (∀ b, Ft cs b → b ≠ g) → wpAnyH P .any ops Q (fun w' => Below w.heap.size w w') 2 (arr 11 [0, 1, 2, 3, 4, 5, 6, 7, 8]) (((((((((a.put o0.dst (.agg csA.toArray)).put o2.dst (.agg csB.toArray)).put o1.dst VA).put o3.dst VB).put o4.dst (.tuple #[.agg (List.toArray cs), V2])).put o5.dst (.tuple #[.agg (List.toArray cs), V2])).put o6.dst (.agg (List.toArray cs))).put o7.dst V2).put o8.dst (.pointer (some ⟨g, 0, none⟩))) wr := by
    intro VA VB cs g B wr hl h1 hB hge hb hr hRF hsep
    refine wpAnyH_all r9 (by simp) ?_
    intro i hi
    obtain rfl : i = 9 := by simpa using hi
    refine wpOp_step i9 (fun K hKK => ?_)
    rw [if_pos (by simp [Region.wanted, g9])]
    refine wp_store_mid ty9 x9 y9 p9 g 0 cs.toArray (e9 _ _ _ _ _ _) (e9' _ _ _ _ _ _) (fun j hj => ?_) (by rw [n9]; simp [hl]) (all_oneCell_toArray (fun v hv => List.all_eq_true.1 h1 v hv)) ?_
    · have hj' : j < zs.length := by rw [← hl]; simpa using hj
      rw [Nat.zero_add]
      exact ⟨by rw [hr.c j (List.getElem?_eq_getElem hj')]; rfl, hr.f j⟩
    rw [List.toList_toArray, ← puts_setCells]
    have hrow := puts_row hr 0 cs
    rw [listed_all cs zs 0 (by omega)] at hrow
    have hb' := puts_below hb hge 0 cs
    have hRF' := hK B cs wr _ (fun b => b = g) hRF (puts_kept wr g 0 cs) (fun b hb e => hsep b hb e)
    refine hKK _ _ ⟨hb', ?_⟩
    rw [arr_set 11 [0, 1, 2, 3, 4, 5, 6, 7, 8] [0, 1, 2, 3, 4, 5, 6, 7, 8, 9] 9 (by decide)]
    refine wpAnyH_all r10 (by simp) ?_
    intro i hi
    obtain rfl : i = 10 := by simpa using hi
    refine wpOp_step i10 (fun K hKK => ?_)
    rw [if_pos (by simp [Region.wanted, g10])]
    unfold Oper.wp
    rw [run_assign x10 p10 (e10 _ _ _ _ _ _), Oper.upon_value]
    refine hKK _ _ ⟨hb', ?_⟩
    rw [arr_set 11 [0, 1, 2, 3, 4, 5, 6, 7, 8, 9] [0, 1, 2, 3, 4, 5, 6, 7, 8, 9, 10] 10 (by decide)]
    exact wpAnyH_done r11 (h VA VB cs g B _ hB hge hb' hrow hRF' hsep) _
  -- behind the function, the box not yet made
  have hp0 : ∀ VA VB cs B wr, cs.length = zs.length → cs.all (·.oneCell') = true → w.heap.size ≤ B → Below w.heap.size w wr → RF B cs wr → wpAnyH P .any ops Q (fun w' => Below w.heap.size w w') 6 (arr 11 [0, 1, 2, 3, 4]) (((((a.put o0.dst (.agg csA.toArray)).put o2.dst (.agg csB.toArray)).put o1.dst VA).put o3.dst VB).put o4.dst (.tuple #[.agg (List.toArray cs), V2])) wr := by
    intro VA VB cs B wr hl h1 hB hb hRF
    refine wpAnyH_take i5 hns f5a.1 f5a.2 (fun _ _ _ => q _ _ _ _ _) (.inl ⟨by simp [Region.wanted, g5], fun _ _ => run_move x5 p5 (e5 _ _ _)⟩) hb ?_
    rw [arr_set 11 [0, 1, 2, 3, 4] [0, 1, 2, 3, 4, 5] 5 (by decide)]
    refine wpAnyH_take i6 hns f6a.1 f6a.2 (fun _ _ _ => q _ _ _ _ _) (.inl ⟨by simp [Region.wanted, g6], fun _ _ => run_ext x6 0 p6 (e6 _ _ _) rfl⟩) hb ?_
    rw [arr_set 11 [0, 1, 2, 3, 4, 5] [0, 1, 2, 3, 4, 5, 6] 6 (by decide)]
    refine wpAnyH_take i7 hns f7a.1 f7a.2 (fun _ _ _ => q _ _ _ _ _) (.inl ⟨by simp [Region.wanted, g7], fun _ _ => run_ext x7 1 p7 (e7 _ _ _ _) rfl⟩) hb ?_
    rw [arr_set 11 [0, 1, 2, 3, 4, 5, 6] [0, 1, 2, 3, 4, 5, 6, 7] 7 (by decide)]
    refine wpAnyH_all r8 (by simp) ?_
    intro i hi
    obtain rfl : i = 8 := by simpa using hi
    refine wpOp_step i8 (fun K hKK => ?_)
    rw [if_pos (by simp [Region.wanted, g8])]
    unfold Oper.wp
    rw [al, Oper.upon_value]
    have hb' := hb.alloc hb.size (.cells zs.toArray ty8)
    refine hKK _ _ ⟨hb', ?_⟩
    rw [arr_set 11 [0, 1, 2, 3, 4, 5, 6, 7] [0, 1, 2, 3, 4, 5, 6, 7, 8] 8 (by decide)]
    exact hst VA VB cs _ B _ hl h1 hB hb.size hb' (Row.new wr zs ty8) (hK B cs wr _ (fun _ => False) hRF (Kept.of_below ((Below.refl _ wr).alloc (Nat.le_refl _) _)) (fun _ _ hf => hf)) (fun b hb2 e => by have := (hF B cs wr hRF b hb2).2; omega)
  -- behind the function, the box made before
  have hp1 : ∀ VA VB cs g B wr, cs.length = zs.length → cs.all (·.oneCell') = true → w.heap.size ≤ B → w.heap.size ≤ g → g < B → Below w.heap.size w wr → Row wr g zs → RF B cs wr → wpAnyH P .any ops Q (fun w' => Below w.heap.size w w') 5 (arr 11 [0, 1, 2, 3, 4, 8]) ((((((a.put o0.dst (.agg csA.toArray)).put o2.dst (.agg csB.toArray)).put o1.dst VA).put o3.dst VB).put o4.dst (.tuple #[.agg (List.toArray cs), V2])).put o8.dst (.pointer (some ⟨g, 0, none⟩))) wr := by
    intro VA VB cs g B wr hl h1 hB hge hgB hb hr hRF
    refine wpAnyH_take i5 hns f5b.1 f5b.2 (fun _ _ _ => q _ _ _ _ _) (.inl ⟨by simp [Region.wanted, g5], fun _ _ => run_move x5 p5 ((eval_off _ f57.1 _).trans (e5 _ _ _))⟩) hb ?_
    rw [arr_set 11 [0, 1, 2, 3, 4, 8] [0, 1, 2, 3, 4, 5, 8] 5 (by decide), put_comm _ (Ne.symm d5)]
    refine wpAnyH_take i6 hns f6b.1 f6b.2 (fun _ _ _ => q _ _ _ _ _) (.inl ⟨by simp [Region.wanted, g6], fun _ _ => run_ext x6 0 p6 ((eval_off _ f57.2.1 _).trans (e6 _ _ _)) rfl⟩) hb ?_
    rw [arr_set 11 [0, 1, 2, 3, 4, 5, 8] [0, 1, 2, 3, 4, 5, 6, 8] 6 (by decide), put_comm _ (Ne.symm d6)]
    refine wpAnyH_take i7 hns f7b.1 f7b.2 (fun _ _ _ => q _ _ _ _ _) (.inl ⟨by simp [Region.wanted, g7], fun _ _ => run_ext x7 1 p7 ((eval_off _ f57.2.2 _).trans (e7 _ _ _ _)) rfl⟩) hb ?_
    rw [arr_set 11 [0, 1, 2, 3, 4, 5, 6, 8] [0, 1, 2, 3, 4, 5, 6, 7, 8] 7 (by decide), put_comm _ (Ne.symm d7)]
    exact hst VA VB cs g B wr hl h1 hB hge hb hr hRF (fun b hb2 e => by have := (hF B cs wr hRF b hb2).1; omega)
  -- the function
  have hF1 : ∀ VA VB g wr, w.heap.size ≤ g → Below w.heap.size w wr → Row wr g zs → SA VA wr → SB VB wr → wpAnyH P .any ops Q (fun w' => Below w.heap.size w w') 6 (arr 11 [0, 1, 2, 3, 8]) (((((a.put o0.dst (.agg csA.toArray)).put o2.dst (.agg csB.toArray)).put o1.dst VA).put o3.dst VB).put o8.dst (.pointer (some ⟨g, 0, none⟩))) wr := by
    intro VA VB g wr hge hb hr hA hB
    refine wpAnyH_all rf (by simp) ?_
    intro i hi
    obtain rfl : i = 4 := by simpa using hi
    refine wpOp_step i4 (fun K hKK => ?_)
    rw [if_pos (by simp [Region.wanted, g4])]
    unfold Oper.wp
    rw [enters _ o4 _ #[yF, zF] tsF cF p4 #[VA, VB] (by simp only [List.map_toArray, List.map_cons, List.map_nil, eval_off _ fF.1, eval_off _ fF.2, eyF, ezF]) mF, Oper.upon_enter]
    refine (CF VA VB wr hb hA hB).mono ?_
    rintro e w5 ⟨cs, rfl, hl, h1, hRF, b5⟩
    refine hKK _ _ ⟨hb.trans (b5.mono hb.size), ?_⟩
    rw [arr_set 11 [0, 1, 2, 3, 8] [0, 1, 2, 3, 4, 8] 4 (by decide), put_comm _ (Ne.symm d4)]
    exact hp1 VA VB cs g _ w5 hl h1 hb.size hge hr.lt (hb.trans (b5.mono hb.size)) (hr.below b5 hr.lt) hRF
  have hF0 : ∀ VA VB wr, Below w.heap.size w wr → SA VA wr → SB VB wr → wpAnyH P .any ops Q (fun w' => Below w.heap.size w w') 7 (arr 11 [0, 1, 2, 3]) ((((a.put o0.dst (.agg csA.toArray)).put o2.dst (.agg csB.toArray)).put o1.dst VA).put o3.dst VB) wr := by
    intro VA VB wr hb hA hB
    refine wpAnyH_all rc (by simp) ?_
    intro i hi
    rcases (by simpa using hi : i = 4 ∨ i = 8) with rfl | rfl
    · refine wpOp_step i4 (fun K hKK => ?_)
      rw [if_pos (by simp [Region.wanted, g4])]
      unfold Oper.wp
      rw [enters _ o4 _ #[yF, zF] tsF cF p4 #[VA, VB] (by simp only [List.map_toArray, List.map_cons, List.map_nil, eyF, ezF]) mF, Oper.upon_enter]
      refine (CF VA VB wr hb hA hB).mono ?_
      rintro e w5 ⟨cs, rfl, hl, h1, hRF, b5⟩
      refine hKK _ _ ⟨hb.trans (b5.mono hb.size), ?_⟩
      rw [arr_set 11 [0, 1, 2, 3] [0, 1, 2, 3, 4] 4 (by decide)]
      exact hp0 VA VB cs _ w5 hl h1 hb.size (hb.trans (b5.mono hb.size)) hRF
    · refine wpOp_step i8 (fun K hKK => ?_)
      rw [if_pos (by simp [Region.wanted, g8])]
      unfold Oper.wp
      rw [al, Oper.upon_value]
      have ba : Below wr.heap.size wr (wr.alloc (.cells zs.toArray ty8)) := (Below.refl _ wr).alloc (Nat.le_refl _) _
      refine hKK _ _ ⟨hb.trans (ba.mono hb.size), ?_⟩
      rw [arr_set 11 [0, 1, 2, 3] [0, 1, 2, 3, 8] 8 (by decide)]
      exact hF1 VA VB _ _ hb.size (hb.trans (ba.mono hb.size)) (Row.new wr zs ty8) (sA _ _ _ hA ba) (sB _ _ _ hB ba)
  -- the second argument
  have hB1 : ∀ VA g wr, w.heap.size ≤ g → Below w.heap.size w wr → Row wr g zs → SA VA wr → wpAnyH P .any ops Q (fun w' => Below w.heap.size w w') 7 (arr 11 [0, 1, 2, 8]) ((((a.put o0.dst (.agg csA.toArray)).put o2.dst (.agg csB.toArray)).put o1.dst VA).put o8.dst (.pointer (some ⟨g, 0, none⟩))) wr := by
    intro VA g wr hge hb hr hA
    refine wpAnyH_all re (by simp) ?_
    intro i hi
    obtain rfl : i = 3 := by simpa using hi
    refine wpOp_step i3 (fun K hKK => ?_)
    rw [if_pos (by simp [Region.wanted, g3])]
    unfold Oper.wp
    rw [enters _ o3 _ #[yB] tsB cB p3 #[.agg csB.toArray] (by simp only [List.map_toArray, List.map_cons, List.map_nil, eval_off _ fyB, eyB]) mB, Oper.upon_enter]
    refine (CB wr hb).mono ?_
    rintro e w5 ⟨VB, rfl, hS, b5⟩
    refine hKK _ _ ⟨hb.trans (b5.mono hb.size), ?_⟩
    rw [arr_set 11 [0, 1, 2, 8] [0, 1, 2, 3, 8] 3 (by decide), put_comm _ (Ne.symm d3)]
    exact hF1 VA VB g w5 hge (hb.trans (b5.mono hb.size)) (hr.below b5 hr.lt) (sA _ _ _ hA b5) hS
  have hB0 : ∀ VA wr, Below w.heap.size w wr → SA VA wr → wpAnyH P .any ops Q (fun w' => Below w.heap.size w w') 8 (arr 11 [0, 1, 2]) (((a.put o0.dst (.agg csA.toArray)).put o2.dst (.agg csB.toArray)).put o1.dst VA) wr := by
    intro VA wr hb hA
    refine wpAnyH_all rb (by simp) ?_
    intro i hi
    rcases (by simpa using hi : i = 3 ∨ i = 8) with rfl | rfl
    · refine wpOp_step i3 (fun K hKK => ?_)
      rw [if_pos (by simp [Region.wanted, g3])]
      unfold Oper.wp
      rw [enters _ o3 _ #[yB] tsB cB p3 #[.agg csB.toArray] (by simp only [List.map_toArray, List.map_cons, List.map_nil, eyB]) mB, Oper.upon_enter]
      refine (CB wr hb).mono ?_
      rintro e w5 ⟨VB, rfl, hS, b5⟩
      refine hKK _ _ ⟨hb.trans (b5.mono hb.size), ?_⟩
      rw [arr_set 11 [0, 1, 2] [0, 1, 2, 3] 3 (by decide)]
      exact hF0 VA VB w5 (hb.trans (b5.mono hb.size)) (sA _ _ _ hA b5) hS
    · refine wpOp_step i8 (fun K hKK => ?_)
      rw [if_pos (by simp [Region.wanted, g8])]
      unfold Oper.wp
      rw [al, Oper.upon_value]
      have ba : Below wr.heap.size wr (wr.alloc (.cells zs.toArray ty8)) := (Below.refl _ wr).alloc (Nat.le_refl _) _
      refine hKK _ _ ⟨hb.trans (ba.mono hb.size), ?_⟩
      rw [arr_set 11 [0, 1, 2] [0, 1, 2, 8] 8 (by decide)]
      exact hB1 VA _ _ hb.size (hb.trans (ba.mono hb.size)) (Row.new wr zs ty8) (sA _ _ _ hA ba)
  -- the first argument
  have hA1 : ∀ g wr, w.heap.size ≤ g → Below w.heap.size w wr → Row wr g zs → wpAnyH P .any ops Q (fun w' => Below w.heap.size w w') 8 (arr 11 [0, 2, 8]) (((a.put o0.dst (.agg csA.toArray)).put o2.dst (.agg csB.toArray)).put o8.dst (.pointer (some ⟨g, 0, none⟩))) wr := by
    intro g wr hge hb hr
    refine wpAnyH_all rd (by simp) ?_
    intro i hi
    obtain rfl : i = 1 := by simpa using hi
    refine wpOp_step i1 (fun K hKK => ?_)
    rw [if_pos (by simp [Region.wanted, g1])]
    unfold Oper.wp
    rw [enters _ o1 _ #[yA] tsA cA p1 #[.agg csA.toArray] (by simp only [List.map_toArray, List.map_cons, List.map_nil, eval_off _ fyA, eyA]) mA, Oper.upon_enter]
    refine (CA wr hb).mono ?_
    rintro e w5 ⟨VA, rfl, hS, b5⟩
    refine hKK _ _ ⟨hb.trans (b5.mono hb.size), ?_⟩
    rw [arr_set 11 [0, 2, 8] [0, 1, 2, 8] 1 (by decide), put_comm _ (Ne.symm d1)]
    exact hB1 VA g w5 hge (hb.trans (b5.mono hb.size)) (hr.below b5 hr.lt) hS
  refine wp_region_held (S := fun w' => Below w.heap.size w w') hm ?_
  rw [h11, show Array.replicate 11 false = arr 11 [] from by decide]
  have S0 : Below w.heap.size w { w with drawn := w.drawn + 1 } := (Below.refl _ w).drew
  refine wpAnyH_take i0 hns fr0.1 fr0.2 (fun _ _ _ => q _ _ _ _ _) (yieldsIf_load_mid (by simp [Region.wanted, g0]) tyA xA pA bA 0 eA csA dA (fun w' hw' => fun j v hv => by rw [Nat.zero_add]; exact (RA.below hw' RA.lt).c j hv) uA kA nA) S0 ?_
  rw [arr_set 11 [] [0] 0 (by decide)]
  refine wpAnyH_take i2 hns fr2.1 fr2.2 (fun _ _ _ => q _ _ _ _ _) (yieldsIf_load_mid (by simp [Region.wanted, g2]) tyB xB pB bB 0 eB csB dB (fun w' hw' => fun j v hv => by rw [Nat.zero_add]; exact (RB.below hw' RB.lt).c j hv) uB kB nB) S0 ?_
  rw [arr_set 11 [0] [0, 2] 2 (by decide)]
  refine wpAnyH_all ra (by simp) ?_
  intro i hi
  rcases (by simpa using hi : i = 1 ∨ i = 8) with rfl | rfl
  · refine wpOp_step i1 (fun K hKK => ?_)
    rw [if_pos (by simp [Region.wanted, g1])]
    unfold Oper.wp
    rw [enters _ o1 _ #[yA] tsA cA p1 #[.agg csA.toArray] (by simp only [List.map_toArray, List.map_cons, List.map_nil, eyA]) mA, Oper.upon_enter]
    refine (CA _ S0).mono ?_
    rintro e w5 ⟨VA, rfl, hS, b5⟩
    refine hKK _ _ ⟨S0.trans (b5.mono S0.size), ?_⟩
    rw [arr_set 11 [0, 2] [0, 1, 2] 1 (by decide)]
    exact hB0 VA w5 (S0.trans (b5.mono S0.size)) hS
  · refine wpOp_step i8 (fun K hKK => ?_)
    rw [if_pos (by simp [Region.wanted, g8])]
    unfold Oper.wp
    rw [al, Oper.upon_value]
    have ba := (Below.refl _ ({ w with drawn := w.drawn + 1 } : World)).alloc (Nat.le_refl _) (.cells zs.toArray ty8)
    refine hKK _ _ ⟨S0.trans (ba.mono S0.size), ?_⟩
    rw [arr_set 11 [0, 2] [0, 2, 8] 8 (by decide)]
    exact hA1 _ _ S0.size (S0.trans (ba.mono S0.size)) (Row.new _ zs ty8)

/-- load, load, call, call of two answers, the first one into a box. -/
theorem region_two {P : Program} {ops : Array Oper} {id : Nat} {a : Act} {w : World} {Q : Exit → Act → World → Prop} (hm : P.follows .mixedOrders = true) (hsh : shapeB ops = true)
    {o0 o2 o3 o4 o5 o6 o7 o8 o9 o10 : Oper} (i0 : ops[0]? = some o0) (i2 : ops[1]? = some o2) (i3 : ops[2]? = some o3) (i4 : ops[3]? = some o4) (i5 : ops[4]? = some o5) (i6 : ops[5]? = some o6) (i7 : ops[6]? = some o7) (i8 : ops[7]? = some o8) (i9 : ops[8]? = some o9) (i10 : ops[9]? = some o10)
    (hg : o0.guard = none ∧ o2.guard = none ∧ o3.guard = none ∧ o4.guard = none ∧ o5.guard = none ∧ o6.guard = none ∧ o7.guard = none ∧ o8.guard = none ∧ o9.guard = none ∧ o10.guard = none)
    (q : ∀ (d : Option Tmp) (v : Value) c (a : Act) w, Q (.panic c) (a.put d v) w → Q (.panic c) a w)
    (hd : o3.dst ≠ o8.dst ∧ o4.dst ≠ o8.dst ∧ o5.dst ≠ o8.dst ∧ o6.dst ≠ o8.dst ∧ o7.dst ≠ o8.dst)
    (tyA : TypeId) (xA : Operand) (pA : o0.op = .load tyA xA) (bA : Nat) (csA : List Value) (dA : TypeDesc) (eA : a.eval xA = .pointer (some ⟨bA, 0, none⟩)) (RA : Row w bA csA) (uA : P.underlying tyA = some dA) (kA : dA.isRow = true) (nA : (P.info? tyA).map (·.size) = some csA.length)
    (tyB : TypeId) (xB : Operand) (pB : o2.op = .load tyB xB) (bB : Nat) (csB : List Value) (dB : TypeDesc) (eB : (a.put o0.dst (.agg csA.toArray)).eval xB = .pointer (some ⟨bB, 0, none⟩)) (RB : Row w bB csB) (uB : P.underlying tyB = some dB) (kB : dB.isRow = true) (nB : (P.info? tyB).map (·.size) = some csB.length)
    (cB : FuncId) (yB : Operand) (tsB : Array TypeId) (p3 : o3.op = .call { callee := .value (.func cB), args := #[yB], argTypes := tsB }) (mB : ∀ vs w, (callFunc cB vs).run P w = .ok (.enter cB vs) w) (eyB : ((a.put o0.dst (.agg csA.toArray)).put o2.dst (.agg csB.toArray)).eval yB = .agg csB.toArray) (fyB : offT o8.dst yB = true)
    (cF : FuncId) (yF zF : Operand) (tsF : Array TypeId) (p4 : o4.op = .call { callee := .value (.func cF), args := #[yF, zF], argTypes := tsF }) (mF : ∀ vs w, (callFunc cF vs).run P w = .ok (.enter cF vs) w) (eyF : ∀ VB, (((a.put o0.dst (.agg csA.toArray)).put o2.dst (.agg csB.toArray)).put o3.dst VB).eval yF = .agg csA.toArray) (ezF : ∀ VB, (((a.put o0.dst (.agg csA.toArray)).put o2.dst (.agg csB.toArray)).put o3.dst VB).eval zF = VB) (fF : offT o8.dst yF = true ∧ offT o8.dst zF = true)
    (x5 : Operand) (p5 : o5.op = .move x5) (e5 : ∀ VB T, ((((a.put o0.dst (.agg csA.toArray)).put o2.dst (.agg csB.toArray)).put o3.dst VB).put o4.dst T).eval x5 = T)
    (x6 : Operand) (p6 : o6.op = .extract x6 0) (e6 : ∀ VB T, (((((a.put o0.dst (.agg csA.toArray)).put o2.dst (.agg csB.toArray)).put o3.dst VB).put o4.dst T).put o5.dst T).eval x6 = T)
    (x7 : Operand) (p7 : o7.op = .extract x7 1) (e7 : ∀ VB T V1, ((((((a.put o0.dst (.agg csA.toArray)).put o2.dst (.agg csB.toArray)).put o3.dst VB).put o4.dst T).put o5.dst T).put o6.dst V1).eval x7 = T) (f57 : offT o8.dst x5 = true ∧ offT o8.dst x6 = true ∧ offT o8.dst x7 = true)
    (zs : List Value) (ty8 : TypeId) (al : ∀ (ρ : Operand → Value) w, (execOp ρ o8).run P w = .ok (.value (.pointer (some ⟨w.heap.size, 0, none⟩))) (w.alloc (.cells zs.toArray ty8)))
    (ty9 : TypeId) (x9 y9 : Operand) (p9 : o9.op = .store ty9 x9 y9) (n9 : (P.info? ty9).map (·.size) = some zs.length) (e9 : ∀ VB T V1 V2 X, ((((((((a.put o0.dst (.agg csA.toArray)).put o2.dst (.agg csB.toArray)).put o3.dst VB).put o4.dst T).put o5.dst T).put o6.dst V1).put o7.dst V2).put o8.dst X).eval x9 = X) (e9' : ∀ VB T V1 V2 X, ((((((((a.put o0.dst (.agg csA.toArray)).put o2.dst (.agg csB.toArray)).put o3.dst VB).put o4.dst T).put o5.dst T).put o6.dst V1).put o7.dst V2).put o8.dst X).eval y9 = V1)
    (x10 : Operand) (p10 : o10.op = .assign x10) (e10 : ∀ VB T V1 V2 X, (((((((((a.put o0.dst (.agg csA.toArray)).put o2.dst (.agg csB.toArray)).put o3.dst VB).put o4.dst T).put o5.dst T).put o6.dst V1).put o7.dst V2).put o8.dst X).put o9.dst undef).eval x10 = V2)
    (SB : Value → World → Prop) (sB : ∀ V w' w'', SB V w' → Below w'.heap.size w' w'' → SB V w'')
    (CB : ∀ w', Below w.heap.size w w' → Calls P cB #[.agg csB.toArray] w' fun e w'' => ∃ V, e = .returned V ∧ SB V w'' ∧ Below w'.heap.size w' w'')
    (V2 : Value) (RF : Nat → List Value → World → Prop) (Ft : List Value → Nat → Prop)
    (CF : ∀ VB w', Below w.heap.size w w' → SB VB w' → Calls P cF #[.agg csA.toArray, VB] w' fun e w'' => ∃ cs, e = .returned (.tuple #[.agg (List.toArray cs), V2]) ∧ cs.length = zs.length ∧ cs.all (·.oneCell') = true ∧ RF w'.heap.size cs w'' ∧ Below w'.heap.size w' w'')
    (hF : ∀ B cs w', RF B cs w' → ∀ b, Ft cs b → B ≤ b ∧ b < w'.heap.size)
    (hK : ∀ B cs w' w'' (S : Nat → Prop), RF B cs w' → Kept S w' w'' → (∀ b, Ft cs b → ¬ S b) → RF B cs w'')
    (h : ∀ VB cs g B wr, w.heap.size ≤ B → w.heap.size ≤ g → Below w.heap.size w wr → Row wr g cs → RF B cs wr → (∀ b, Ft cs b → b ≠ g) → Q .normal ((((((((((a.put o0.dst (.agg csA.toArray)).put o2.dst (.agg csB.toArray)).put o3.dst VB).put o4.dst (.tuple #[.agg (List.toArray cs), V2])).put o5.dst (.tuple #[.agg (List.toArray cs), V2])).put o6.dst (.agg (List.toArray cs))).put o7.dst V2).put o8.dst (.pointer (some ⟨g, 0, none⟩))).put o9.dst undef).put o10.dst V2) wr) :
    (Code.region id ops true).wp P Q a w := by
  obtain ⟨g0, g2, g3, g4, g5, g6, g7, g8, g9, g10⟩ := hg
  obtain ⟨d3, d4, d5, d6, d7⟩ := hd
  simp only [shapeB, frT, rdT, Bool.and_eq_true, beq_iff_eq] at hsh
  obtain ⟨⟨h11, hns⟩, ⟨fr0, fr2⟩, ⟨rb, rc⟩, ⟨re, rf⟩, ⟨f5a, f6a, f7a, r8⟩, ⟨f5b, f6b, f7b, r9⟩, r10, r11⟩ := hsh
  -- behind the box: the store and the last one
  have hst : ∀ VB cs g B wr, cs.length = zs.length → cs.all (·.oneCell') = true → w.heap.size ≤ B → w.heap.size ≤ g → Below w.heap.size w wr → Row wr g zs → RF B cs wr → (∀ b, Ft cs b → b ≠ g) → wpAnyH P .any ops Q (fun w' => Below w.heap.size w w') 2 (arr 10 [0, 1, 2, 3, 4, 5, 6, 7]) ((((((((a.put o0.dst (.agg csA.toArray)).put o2.dst (.agg csB.toArray)).put o3.dst VB).put o4.dst (.tuple #[.agg (List.toArray cs), V2])).put o5.dst (.tuple #[.agg (List.toArray cs), V2])).put o6.dst (.agg (List.toArray cs))).put o7.dst V2).put o8.dst (.pointer (some ⟨g, 0, none⟩))) wr := by
    intro VB cs g B wr hl h1 hB hge hb hr hRF hsep
    refine wpAnyH_all r9 (by simp) ?_
    intro i hi
    obtain rfl : i = 8 := by simpa using hi
    refine wpOp_step i9 (fun K hKK => ?_)
    rw [if_pos (by simp [Region.wanted, g9])]
    refine wp_store_mid ty9 x9 y9 p9 g 0 cs.toArray (e9 _ _ _ _ _) (e9' _ _ _ _ _) (fun j hj => ?_) (by rw [n9]; simp [hl]) (all_oneCell_toArray (fun v hv => List.all_eq_true.1 h1 v hv)) ?_
    · have hj' : j < zs.length := by rw [← hl]; simpa using hj
      rw [Nat.zero_add]
      exact ⟨by rw [hr.c j (List.getElem?_eq_getElem hj')]; rfl, hr.f j⟩
    rw [List.toList_toArray, ← puts_setCells]
    have hrow := puts_row hr 0 cs
    rw [listed_all cs zs 0 (by omega)] at hrow
    have hb' := puts_below hb hge 0 cs
    have hRF' := hK B cs wr _ (fun b => b = g) hRF (puts_kept wr g 0 cs) (fun b hb e => hsep b hb e)
    refine hKK _ _ ⟨hb', ?_⟩
    rw [arr_set 10 [0, 1, 2, 3, 4, 5, 6, 7] [0, 1, 2, 3, 4, 5, 6, 7, 8] 8 (by decide)]
    refine wpAnyH_all r10 (by simp) ?_
    intro i hi
    obtain rfl : i = 9 := by simpa using hi
    refine wpOp_step i10 (fun K hKK => ?_)
    rw [if_pos (by simp [Region.wanted, g10])]
    unfold Oper.wp
    rw [run_assign x10 p10 (e10 _ _ _ _ _), Oper.upon_value]
    refine hKK _ _ ⟨hb', ?_⟩
    rw [arr_set 10 [0, 1, 2, 3, 4, 5, 6, 7, 8] [0, 1, 2, 3, 4, 5, 6, 7, 8, 9] 9 (by decide)]
    exact wpAnyH_done r11 (h VB cs g B _ hB hge hb' hrow hRF' hsep) _
  -- behind the function, the box not yet made
  have hp0 : ∀ VB cs B wr, cs.length = zs.length → cs.all (·.oneCell') = true → w.heap.size ≤ B → Below w.heap.size w wr → RF B cs wr → wpAnyH P .any ops Q (fun w' => Below w.heap.size w w') 6 (arr 10 [0, 1, 2, 3]) ((((a.put o0.dst (.agg csA.toArray)).put o2.dst (.agg csB.toArray)).put o3.dst VB).put o4.dst (.tuple #[.agg (List.toArray cs), V2])) wr := by
    intro VB cs B wr hl h1 hB hb hRF
    refine wpAnyH_take i5 hns f5a.1 f5a.2 (fun _ _ _ => q _ _ _ _ _) (.inl ⟨by simp [Region.wanted, g5], fun _ _ => run_move x5 p5 (e5 _ _)⟩) hb ?_
    rw [arr_set 10 [0, 1, 2, 3] [0, 1, 2, 3, 4] 4 (by decide)]
    refine wpAnyH_take i6 hns f6a.1 f6a.2 (fun _ _ _ => q _ _ _ _ _) (.inl ⟨by simp [Region.wanted, g6], fun _ _ => run_ext x6 0 p6 (e6 _ _) rfl⟩) hb ?_
    rw [arr_set 10 [0, 1, 2, 3, 4] [0, 1, 2, 3, 4, 5] 5 (by decide)]
    refine wpAnyH_take i7 hns f7a.1 f7a.2 (fun _ _ _ => q _ _ _ _ _) (.inl ⟨by simp [Region.wanted, g7], fun _ _ => run_ext x7 1 p7 (e7 _ _ _) rfl⟩) hb ?_
    rw [arr_set 10 [0, 1, 2, 3, 4, 5] [0, 1, 2, 3, 4, 5, 6] 6 (by decide)]
    refine wpAnyH_all r8 (by simp) ?_
    intro i hi
    obtain rfl : i = 7 := by simpa using hi
    refine wpOp_step i8 (fun K hKK => ?_)
    rw [if_pos (by simp [Region.wanted, g8])]
    unfold Oper.wp
    rw [al, Oper.upon_value]
    have hb' := hb.alloc hb.size (.cells zs.toArray ty8)
    refine hKK _ _ ⟨hb', ?_⟩
    rw [arr_set 10 [0, 1, 2, 3, 4, 5, 6] [0, 1, 2, 3, 4, 5, 6, 7] 7 (by decide)]
    exact hst VB cs _ B _ hl h1 hB hb.size hb' (Row.new wr zs ty8) (hK B cs wr _ (fun _ => False) hRF (Kept.of_below ((Below.refl _ wr).alloc (Nat.le_refl _) _)) (fun _ _ hf => hf)) (fun b hb2 e => by have := (hF B cs wr hRF b hb2).2; omega)
  -- behind the function, the box made before
  have hp1 : ∀ VB cs g B wr, cs.length = zs.length → cs.all (·.oneCell') = true → w.heap.size ≤ B → w.heap.size ≤ g → g < B → Below w.heap.size w wr → Row wr g zs → RF B cs wr → wpAnyH P .any ops Q (fun w' => Below w.heap.size w w') 5 (arr 10 [0, 1, 2, 3, 7]) (((((a.put o0.dst (.agg csA.toArray)).put o2.dst (.agg csB.toArray)).put o3.dst VB).put o4.dst (.tuple #[.agg (List.toArray cs), V2])).put o8.dst (.pointer (some ⟨g, 0, none⟩))) wr := by
    intro VB cs g B wr hl h1 hB hge hgB hb hr hRF
    refine wpAnyH_take i5 hns f5b.1 f5b.2 (fun _ _ _ => q _ _ _ _ _) (.inl ⟨by simp [Region.wanted, g5], fun _ _ => run_move x5 p5 ((eval_off _ f57.1 _).trans (e5 _ _))⟩) hb ?_
    rw [arr_set 10 [0, 1, 2, 3, 7] [0, 1, 2, 3, 4, 7] 4 (by decide), put_comm _ (Ne.symm d5)]
    refine wpAnyH_take i6 hns f6b.1 f6b.2 (fun _ _ _ => q _ _ _ _ _) (.inl ⟨by simp [Region.wanted, g6], fun _ _ => run_ext x6 0 p6 ((eval_off _ f57.2.1 _).trans (e6 _ _)) rfl⟩) hb ?_
    rw [arr_set 10 [0, 1, 2, 3, 4, 7] [0, 1, 2, 3, 4, 5, 7] 5 (by decide), put_comm _ (Ne.symm d6)]
    refine wpAnyH_take i7 hns f7b.1 f7b.2 (fun _ _ _ => q _ _ _ _ _) (.inl ⟨by simp [Region.wanted, g7], fun _ _ => run_ext x7 1 p7 ((eval_off _ f57.2.2 _).trans (e7 _ _ _)) rfl⟩) hb ?_
    rw [arr_set 10 [0, 1, 2, 3, 4, 5, 7] [0, 1, 2, 3, 4, 5, 6, 7] 6 (by decide), put_comm _ (Ne.symm d7)]
    exact hst VB cs g B wr hl h1 hB hge hb hr hRF (fun b hb2 e => by have := (hF B cs wr hRF b hb2).1; omega)
  -- the function
  have hF1 : ∀ VB g wr, w.heap.size ≤ g → Below w.heap.size w wr → Row wr g zs → SB VB wr → wpAnyH P .any ops Q (fun w' => Below w.heap.size w w') 6 (arr 10 [0, 1, 2, 7]) ((((a.put o0.dst (.agg csA.toArray)).put o2.dst (.agg csB.toArray)).put o3.dst VB).put o8.dst (.pointer (some ⟨g, 0, none⟩))) wr := by
    intro VB g wr hge hb hr hB
    refine wpAnyH_all rf (by simp) ?_
    intro i hi
    obtain rfl : i = 3 := by simpa using hi
    refine wpOp_step i4 (fun K hKK => ?_)
    rw [if_pos (by simp [Region.wanted, g4])]
    unfold Oper.wp
    rw [enters _ o4 _ #[yF, zF] tsF cF p4 #[.agg csA.toArray, VB] (by simp only [List.map_toArray, List.map_cons, List.map_nil, eval_off _ fF.1, eval_off _ fF.2, eyF, ezF]) mF, Oper.upon_enter]
    refine (CF VB wr hb hB).mono ?_
    rintro e w5 ⟨cs, rfl, hl, h1, hRF, b5⟩
    refine hKK _ _ ⟨hb.trans (b5.mono hb.size), ?_⟩
    rw [arr_set 10 [0, 1, 2, 7] [0, 1, 2, 3, 7] 3 (by decide), put_comm _ (Ne.symm d4)]
    exact hp1 VB cs g _ w5 hl h1 hb.size hge hr.lt (hb.trans (b5.mono hb.size)) (hr.below b5 hr.lt) hRF
  have hF0 : ∀ VB wr, Below w.heap.size w wr → SB VB wr → wpAnyH P .any ops Q (fun w' => Below w.heap.size w w') 7 (arr 10 [0, 1, 2]) (((a.put o0.dst (.agg csA.toArray)).put o2.dst (.agg csB.toArray)).put o3.dst VB) wr := by
    intro VB wr hb hB
    refine wpAnyH_all rc (by simp) ?_
    intro i hi
    rcases (by simpa using hi : i = 3 ∨ i = 7) with rfl | rfl
    · refine wpOp_step i4 (fun K hKK => ?_)
      rw [if_pos (by simp [Region.wanted, g4])]
      unfold Oper.wp
      rw [enters _ o4 _ #[yF, zF] tsF cF p4 #[.agg csA.toArray, VB] (by simp only [List.map_toArray, List.map_cons, List.map_nil, eyF, ezF]) mF, Oper.upon_enter]
      refine (CF VB wr hb hB).mono ?_
      rintro e w5 ⟨cs, rfl, hl, h1, hRF, b5⟩
      refine hKK _ _ ⟨hb.trans (b5.mono hb.size), ?_⟩
      rw [arr_set 10 [0, 1, 2] [0, 1, 2, 3] 3 (by decide)]
      exact hp0 VB cs _ w5 hl h1 hb.size (hb.trans (b5.mono hb.size)) hRF
    · refine wpOp_step i8 (fun K hKK => ?_)
      rw [if_pos (by simp [Region.wanted, g8])]
      unfold Oper.wp
      rw [al, Oper.upon_value]
      have ba : Below wr.heap.size wr (wr.alloc (.cells zs.toArray ty8)) := (Below.refl _ wr).alloc (Nat.le_refl _) _
      refine hKK _ _ ⟨hb.trans (ba.mono hb.size), ?_⟩
      rw [arr_set 10 [0, 1, 2] [0, 1, 2, 7] 7 (by decide)]
      exact hF1 VB _ _ hb.size (hb.trans (ba.mono hb.size)) (Row.new wr zs ty8) (sB _ _ _ hB ba)
  -- the second argument
  have hB1 : ∀ g wr, w.heap.size ≤ g → Below w.heap.size w wr → Row wr g zs → wpAnyH P .any ops Q (fun w' => Below w.heap.size w w') 7 (arr 10 [0, 1, 7]) (((a.put o0.dst (.agg csA.toArray)).put o2.dst (.agg csB.toArray)).put o8.dst (.pointer (some ⟨g, 0, none⟩))) wr := by
    intro g wr hge hb hr
    refine wpAnyH_all re (by simp) ?_
    intro i hi
    obtain rfl : i = 2 := by simpa using hi
    refine wpOp_step i3 (fun K hKK => ?_)
    rw [if_pos (by simp [Region.wanted, g3])]
    unfold Oper.wp
    rw [enters _ o3 _ #[yB] tsB cB p3 #[.agg csB.toArray] (by simp only [List.map_toArray, List.map_cons, List.map_nil, eval_off _ fyB, eyB]) mB, Oper.upon_enter]
    refine (CB wr hb).mono ?_
    rintro e w5 ⟨VB, rfl, hS, b5⟩
    refine hKK _ _ ⟨hb.trans (b5.mono hb.size), ?_⟩
    rw [arr_set 10 [0, 1, 7] [0, 1, 2, 7] 2 (by decide), put_comm _ (Ne.symm d3)]
    exact hF1 VB g w5 hge (hb.trans (b5.mono hb.size)) (hr.below b5 hr.lt) hS
  have hB0 : ∀ wr, Below w.heap.size w wr → wpAnyH P .any ops Q (fun w' => Below w.heap.size w w') 8 (arr 10 [0, 1]) ((a.put o0.dst (.agg csA.toArray)).put o2.dst (.agg csB.toArray)) wr := by
    intro wr hb
    refine wpAnyH_all rb (by simp) ?_
    intro i hi
    rcases (by simpa using hi : i = 2 ∨ i = 7) with rfl | rfl
    · refine wpOp_step i3 (fun K hKK => ?_)
      rw [if_pos (by simp [Region.wanted, g3])]
      unfold Oper.wp
      rw [enters _ o3 _ #[yB] tsB cB p3 #[.agg csB.toArray] (by simp only [List.map_toArray, List.map_cons, List.map_nil, eyB]) mB, Oper.upon_enter]
      refine (CB wr hb).mono ?_
      rintro e w5 ⟨VB, rfl, hS, b5⟩
      refine hKK _ _ ⟨hb.trans (b5.mono hb.size), ?_⟩
      rw [arr_set 10 [0, 1] [0, 1, 2] 2 (by decide)]
      exact hF0 VB w5 (hb.trans (b5.mono hb.size)) hS
    · refine wpOp_step i8 (fun K hKK => ?_)
      rw [if_pos (by simp [Region.wanted, g8])]
      unfold Oper.wp
      rw [al, Oper.upon_value]
      have ba : Below wr.heap.size wr (wr.alloc (.cells zs.toArray ty8)) := (Below.refl _ wr).alloc (Nat.le_refl _) _
      refine hKK _ _ ⟨hb.trans (ba.mono hb.size), ?_⟩
      rw [arr_set 10 [0, 1] [0, 1, 7] 7 (by decide)]
      exact hB1 _ _ hb.size (hb.trans (ba.mono hb.size)) (Row.new wr zs ty8)
  refine wp_region_held (S := fun w' => Below w.heap.size w w') hm ?_
  rw [h11, show Array.replicate 10 false = arr 10 [] from by decide]
  have S0 : Below w.heap.size w { w with drawn := w.drawn + 1 } := (Below.refl _ w).drew
  refine wpAnyH_take i0 hns fr0.1 fr0.2 (fun _ _ _ => q _ _ _ _ _) (yieldsIf_load_mid (by simp [Region.wanted, g0]) tyA xA pA bA 0 eA csA dA (fun w' hw' => fun j v hv => by rw [Nat.zero_add]; exact (RA.below hw' RA.lt).c j hv) uA kA nA) S0 ?_
  rw [arr_set 10 [] [0] 0 (by decide)]
  refine wpAnyH_take i2 hns fr2.1 fr2.2 (fun _ _ _ => q _ _ _ _ _) (yieldsIf_load_mid (by simp [Region.wanted, g2]) tyB xB pB bB 0 eB csB dB (fun w' hw' => fun j v hv => by rw [Nat.zero_add]; exact (RB.below hw' RB.lt).c j hv) uB kB nB) S0 ?_
  rw [arr_set 10 [0] [0, 1] 1 (by decide)]
  exact hB0 _ S0

end Go.Proofs.Ytllgjoflhjnnaaa.Pl
