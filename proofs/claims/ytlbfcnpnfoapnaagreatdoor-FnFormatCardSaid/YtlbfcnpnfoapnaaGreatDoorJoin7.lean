/-
  The regions of an exact law in which a function of two answers is called, and its first answer put into a box: at any program, whatever the order that is drawn. No condition.
  A region that draws its order and calls one function: its arguments loaded and laid anew, its answers put into boxes: whatever the order. At any program. No condition.
  A region that draws its order and ends a function: what is read, built and called, and put into the results' own boxes: whatever the order. At any program. No condition.
  What the end of a function wants: boxes laid, results of three parts, what stands in a box that was stored into. At any program. No condition.
  A region that draws its order, with guards, that reads, reckons and calls, and stores into nothing that was there: each operation's value is fixed ahead, or is told of by what it hangs on. At any program. No condition.
-/
import Derived.Test.YtlbfcnpnfoapnaaGreatDoorJoin6
import Derived.Laws.ResultCell
namespace Go.Proofs.YtlbfcnpnfoapnaaGreatDoor.Pl
open Go.RowKit Go.Proofs.YtlbfcnpnfoapnaaGreatDoor.Mem
set_option linter.unusedVariables false

def arr (n : Nat) (S : List Nat) : Array Bool := ((List.range n).map (fun i => S.contains i)).toArray
/-- Number i may come up and may be taken first. -/
def frT (n : Nat) (ops : Array Oper) (S : List Nat) (i : Nat) : Bool := Region.free .any ops (arr n S) i && (Region.ready .any ops (arr n S)).contains i
def rdT (n : Nat) (ops : Array Oper) (S : List Nat) (l : List Nat) : Bool := Region.ready .any ops (arr n S) == l

/-- The shape: load, call, load, call, call, move, extract, extract, alloc, store, assign. -/
def shapeA (ops : Array Oper) : Bool :=
  (ops.size == 11 && Region.noSelect ops) && ((frT 11 ops [] 0 && frT 11 ops [0] 2)
  && ((rdT 11 ops [0, 2] [1, 8] && (rdT 11 ops [0, 1, 2] [3, 8] && rdT 11 ops [0, 1, 2, 3] [4, 8]))
  && ((rdT 11 ops [0, 2, 8] [1] && (rdT 11 ops [0, 1, 2, 8] [3] && rdT 11 ops [0, 1, 2, 3, 8] [4]))
  && ((frT 11 ops [0, 1, 2, 3, 4] 5 && (frT 11 ops [0, 1, 2, 3, 4, 5] 6 && (frT 11 ops [0, 1, 2, 3, 4, 5, 6] 7 && rdT 11 ops [0, 1, 2, 3, 4, 5, 6, 7] [8])))
  && ((frT 11 ops [0, 1, 2, 3, 4, 8] 5 && (frT 11 ops [0, 1, 2, 3, 4, 5, 8] 6 && (frT 11 ops [0, 1, 2, 3, 4, 5, 6, 8] 7 && rdT 11 ops [0, 1, 2, 3, 4, 5, 6, 7, 8] [9])))
  && (rdT 11 ops [0, 1, 2, 3, 4, 5, 6, 7, 8, 9] [10] && rdT 11 ops [0, 1, 2, 3, 4, 5, 6, 7, 8, 9, 10] []))))))

/-- The same without the first call: load, load, call, call, move, extract, extract, alloc, store, assign. -/
def shapeB (ops : Array Oper) : Bool :=
  (ops.size == 10 && Region.noSelect ops) && ((frT 10 ops [] 0 && frT 10 ops [0] 1)
  && ((rdT 10 ops [0, 1] [2, 7] && rdT 10 ops [0, 1, 2] [3, 7])
  && ((rdT 10 ops [0, 1, 7] [2] && rdT 10 ops [0, 1, 2, 7] [3])
  && ((frT 10 ops [0, 1, 2, 3] 4 && (frT 10 ops [0, 1, 2, 3, 4] 5 && (frT 10 ops [0, 1, 2, 3, 4, 5] 6 && rdT 10 ops [0, 1, 2, 3, 4, 5, 6] [7])))
  && ((frT 10 ops [0, 1, 2, 3, 7] 4 && (frT 10 ops [0, 1, 2, 3, 4, 7] 5 && (frT 10 ops [0, 1, 2, 3, 4, 5, 7] 6 && rdT 10 ops [0, 1, 2, 3, 4, 5, 6, 7] [8])))
  && (rdT 10 ops [0, 1, 2, 3, 4, 5, 6, 7, 8] [9] && rdT 10 ops [0, 1, 2, 3, 4, 5, 6, 7, 8, 9] []))))))

theorem put_comm (a : Act) {d1 d2 : Option Tmp} (h : d1 ≠ d2) (u v : Value) : (a.put d1 u).put d2 v = (a.put d2 v).put d1 u := by
  cases d1 with
  | none => rfl
  | some s =>
    cases d2 with
    | none => rfl
    | some t =>
      have hst : s ≠ t := fun e => h (by rw [e])
      simp only [Act.put]
      rw [Array.setIfInBounds_comm _ _ hst]
def offT (d : Option Tmp) (y : Operand) : Bool := match d, y with
  | some t, .tmp s => s != t
  | _, _ => true
theorem eval_off (a : Act) {d : Option Tmp} {y : Operand} (h : offT d y = true) (v : Value) : (a.put d v).eval y = a.eval y := by
  cases d with
  | none => rfl
  | some t =>
    cases y with
    | tmp s =>
      have hst : s ≠ t := by simpa [offT] using h
      simp only [Act.put, Act.eval]
      rw [Array.getD_eq_getD_getElem?, Array.getD_eq_getD_getElem?, Array.getElem?_setIfInBounds_ne hst.symm]
    | _ => rfl

theorem run_move {P : Program} {ρ : Operand → Value} {o : Oper} {w : World} (x : Operand) (p : o.op = .move x) {v : Value} (e : ρ x = v) : (execOp ρ o).run P w = .ok (.value v) w := by
  unfold execOp
  simp [p, e, go_sem]
theorem run_assign {P : Program} {ρ : Operand → Value} {o : Oper} {w : World} (x : Operand) (p : o.op = .assign x) {v : Value} (e : ρ x = v) : (execOp ρ o).run P w = .ok (.value v) w := by
  unfold execOp
  simp [p, e, go_sem]
theorem run_ext {P : Program} {ρ : Operand → Value} {o : Oper} {w : World} (x : Operand) (i : Nat) (p : o.op = .extract x i) {vs : Array Value} {v : Value} (e : ρ x = .tuple vs) (hv : vs[i]? = some v) : (execOp ρ o).run P w = .ok (.value v) w := by
  unfold execOp
  simp [p, e, hv, go_sem]

theorem arr_set (n : Nat) (S T : List Nat) (i : Nat) (h : ((arr n S).setIfInBounds i true == arr n T) = true) : (arr n S).setIfInBounds i true = arr n T := by simpa using h

/-- load, call, load, call, call of two answers, the first one into a box. -/
theorem region_three {P : Program} {ops : Array Oper} {id : Nat} {a : Act} {w : World} {Q : Exit → Act → World → Prop} (hm : P.follows .mixedOrders = true) (hsh : shapeA ops = true)
    {o0 o1 o2 o3 o4 o5 o6 o7 o8 o9 o10 : Oper} (i0 : ops[0]? = some o0) (i1 : ops[1]? = some o1) (i2 : ops[2]? = some o2) (i3 : ops[3]? = some o3) (i4 : ops[4]? = some o4) (i5 : ops[5]? = some o5) (i6 : ops[6]? = some o6) (i7 : ops[7]? = some o7) (i8 : ops[8]? = some o8) (i9 : ops[9]? = some o9) (i10 : ops[10]? = some o10)
    (hg : o0.guard = none ∧ o1.guard = none ∧ o2.guard = none ∧ o3.guard = none ∧ o4.guard = none ∧ o5.guard = none ∧ o6.guard = none ∧ o7.guard = none ∧ o8.guard = none ∧ o9.guard = none ∧ o10.guard = none)
    (q : ∀ (d : Option Tmp) (v : Value) c (a : Act) w, Q (.panic c) (a.put d v) w → Q (.panic c) a w)
    (hd : o1.dst ≠ o8.dst ∧ o3.dst ≠ o8.dst ∧ o4.dst ≠ o8.dst ∧ o5.dst ≠ o8.dst ∧ o6.dst ≠ o8.dst ∧ o7.dst ≠ o8.dst)
    (tyA : TypeId) (xA : Operand) (pA : o0.op = .load tyA xA) (bA : Nat) (csA : List Value) (dA : TypeDesc) (eA : a.eval xA = .pointer (some ⟨bA, 0, none⟩)) (RA : Row w bA csA) (uA : P.underlying tyA = some dA) (kA : dA.isRow = true) (nA : (P.info? tyA).map (·.size) = some csA.length)
    (tyB : TypeId) (xB : Operand) (pB : o2.op = .load tyB xB) (bB : Nat) (csB : List Value) (dB : TypeDesc) (eB : (a.put o0.dst (.agg csA.toArray)).eval xB = .pointer (some ⟨bB, 0, none⟩)) (RB : Row w bB csB) (uB : P.underlying tyB = some dB) (kB : dB.isRow = true) (nB : (P.info? tyB).map (·.size) = some csB.length)
    (cA : FuncId) (yA : Operand) (tsA : Array TypeId) (p1 : o1.op = .call { callee := .value (.func cA), args := #[yA], argTypes := tsA }) (mA : ∀ vs w, (callFunc cA vs).run P w = .ok (.enter cA vs) w) (eyA : ((a.put o0.dst (.agg csA.toArray)).put o2.dst (.agg csB.toArray)).eval yA = .agg csA.toArray) (fyA : offT o8.dst yA = true)
    (cB : FuncId) (yB : Operand) (tsB : Array TypeId) (p3 : o3.op = .call { callee := .value (.func cB), args := #[yB], argTypes := tsB }) (mB : ∀ vs w, (callFunc cB vs).run P w = .ok (.enter cB vs) w) (eyB : ∀ VA, (((a.put o0.dst (.agg csA.toArray)).put o2.dst (.agg csB.toArray)).put o1.dst VA).eval yB = .agg csB.toArray) (fyB : offT o8.dst yB = true)
    (cF : FuncId) (yF zF : Operand) (tsF : Array TypeId) (p4 : o4.op = .call { callee := .value (.func cF), args := #[yF, zF], argTypes := tsF }) (mF : ∀ vs w, (callFunc cF vs).run P w = .ok (.enter cF vs) w) (eyF : ∀ VA VB, ((((a.put o0.dst (.agg csA.toArray)).put o2.dst (.agg csB.toArray)).put o1.dst VA).put o3.dst VB).eval yF = VA) (ezF : ∀ VA VB, ((((a.put o0.dst (.agg csA.toArray)).put o2.dst (.agg csB.toArray)).put o1.dst VA).put o3.dst VB).eval zF = VB) (fF : offT o8.dst yF = true ∧ offT o8.dst zF = true)
    (x5 : Operand) (p5 : o5.op = .move x5) (e5 : ∀ VA VB T, (((((a.put o0.dst (.agg csA.toArray)).put o2.dst (.agg csB.toArray)).put o1.dst VA).put o3.dst VB).put o4.dst T).eval x5 = T)
    (x6 : Operand) (p6 : o6.op = .extract x6 0) (e6 : ∀ VA VB T, ((((((a.put o0.dst (.agg csA.toArray)).put o2.dst (.agg csB.toArray)).put o1.dst VA).put o3.dst VB).put o4.dst T).put o5.dst T).eval x6 = T)
    (x7 : Operand) (p7 : o7.op = .extract x7 1) (e7 : ∀ VA VB T V1, (((((((a.put o0.dst (.agg csA.toArray)).put o2.dst (.agg csB.toArray)).put o1.dst VA).put o3.dst VB).put o4.dst T).put o5.dst T).put o6.dst V1).eval x7 = T) (f57 : offT o8.dst x5 = true ∧ offT o8.dst x6 = true ∧ offT o8.dst x7 = true)
    (zs : List Value) (ty8 : TypeId) (al : ∀ (ρ : Operand → Value) w, (execOp ρ o8).run P w = .ok (.value (.pointer (some ⟨w.heap.size, 0, none⟩))) (w.alloc (.cells zs.toArray ty8)))
    (ty9 : TypeId) (x9 y9 : Operand) (p9 : o9.op = .store ty9 x9 y9) (n9 : (P.info? ty9).map (·.size) = some zs.length) (e9 : ∀ VA VB T V1 V2 X, (((((((((a.put o0.dst (.agg csA.toArray)).put o2.dst (.agg csB.toArray)).put o1.dst VA).put o3.dst VB).put o4.dst T).put o5.dst T).put o6.dst V1).put o7.dst V2).put o8.dst X).eval x9 = X) (e9' : ∀ VA VB T V1 V2 X, (((((((((a.put o0.dst (.agg csA.toArray)).put o2.dst (.agg csB.toArray)).put o1.dst VA).put o3.dst VB).put o4.dst T).put o5.dst T).put o6.dst V1).put o7.dst V2).put o8.dst X).eval y9 = V1)
    (x10 : Operand) (p10 : o10.op = .assign x10) (e10 : ∀ VA VB T V1 V2 X, ((((((((((a.put o0.dst (.agg csA.toArray)).put o2.dst (.agg csB.toArray)).put o1.dst VA).put o3.dst VB).put o4.dst T).put o5.dst T).put o6.dst V1).put o7.dst V2).put o8.dst X).put o9.dst undef).eval x10 = V2)
    (SA SB : Value → World → Prop) (sA : ∀ V w' w'', SA V w' → Below w'.heap.size w' w'' → SA V w'') (sB : ∀ V w' w'', SB V w' → Below w'.heap.size w' w'' → SB V w'')
    (CA : ∀ w', Below w.heap.size w w' → Calls P cA #[.agg csA.toArray] w' fun e w'' => ∃ V, e = .returned V ∧ SA V w'' ∧ Below w'.heap.size w' w'')
    (CB : ∀ w', Below w.heap.size w w' → Calls P cB #[.agg csB.toArray] w' fun e w'' => ∃ V, e = .returned V ∧ SB V w'' ∧ Below w'.heap.size w' w'')
    (V2 : Value) (RF : Nat → List Value → World → Prop) (Ft : List Value → Nat → Prop)
    (CF : ∀ VA VB w', Below w.heap.size w w' → SA VA w' → SB VB w' → Calls P cF #[VA, VB] w' fun e w'' => ∃ cs, e = .returned (.tuple #[.agg (List.toArray cs), V2]) ∧ cs.length = zs.length ∧ cs.all (·.oneCell') = true ∧ RF w'.heap.size cs w'' ∧ Below w'.heap.size w' w'')
    (hF : ∀ B cs w', RF B cs w' → ∀ b, Ft cs b → B ≤ b ∧ b < w'.heap.size)
    (hK : ∀ B cs w' w'' (S : Nat → Prop), RF B cs w' → Kept S w' w'' → (∀ b, Ft cs b → ¬ S b) → RF B cs w'')
    (h : ∀ VA VB cs g B wr, w.heap.size ≤ B → w.heap.size ≤ g → Below w.heap.size w wr → Row wr g cs → RF B cs wr → (∀ b, Ft cs b → b ≠ g) → Q .normal (((((((((((a.put o0.dst (.agg csA.toArray)).put o2.dst (.agg csB.toArray)).put o1.dst VA).put o3.dst VB).put o4.dst (.tuple #[.agg (List.toArray cs), V2])).put o5.dst (.tuple #[.agg (List.toArray cs), V2])).put o6.dst (.agg (List.toArray cs))).put o7.dst V2).put o8.dst (.pointer (some ⟨g, 0, none⟩))).put o9.dst undef).put o10.dst V2) wr) :
    (Code.region id ops true).wp P Q a w := by
  obtain ⟨g0, g1, g2, g3, g4, g5, g6, g7, g8, g9, g10⟩ := hg
  obtain ⟨d1, d3, d4, d5, d6, d7⟩ := hd
  simp only [shapeA, frT, rdT, Bool.and_eq_true, beq_iff_eq] at hsh
  obtain ⟨⟨h11, hns⟩, ⟨fr0, fr2⟩, ⟨ra, rb, rc⟩, ⟨rd, re, rf⟩, ⟨f5a, f6a, f7a, r8⟩, ⟨f5b, f6b, f7b, r9⟩, r10, r11⟩ := hsh
  -- behind the box: the store and the last one
  have hst : ∀ VA VB cs g B wr, cs.length = zs.length → cs.all (·.oneCell') = true → w.heap.size ≤ B → w.heap.size ≤ g → Below w.heap.size w wr → Row wr g zs → RF B cs wr → (∀ b, Ft cs b → b ≠ g) → wpAnyH P .any ops Q (fun w' => Below w.heap.size w w') 2 (arr 11 [0, 1, 2, 3, 4, 5, 6, 7, 8]) (((((((((a.put o0.dst (.agg csA.toArray)).put o2.dst (.agg csB.toArray)).put o1.dst VA).put o3.dst VB).put o4.dst (.tuple #[.agg (List.toArray cs), V2])).put o5.dst (.tuple #[.agg (List.toArray cs), V2])).put o6.dst (.agg (List.toArray cs))).put o7.dst V2).put o8.dst (.pointer (some ⟨g, 0, none⟩))) wr := by
    intro VA VB cs g B wr hl h1 hB hge hb hr hRF hsep
    refine wpAnyH_all r9 (by simp) ?_
    intro i hi
    obtain rfl : i = 9 := by simpa using hi
    refine wpOp_step i9 (fun K hKK => ?_)
    rw [if_pos (by simp [Region.wanted, g9])]
    refine wp_store_mid ty9 x9 y9 p9 g 0 cs.toArray (e9 _ _ _ _ _ _) (e9' _ _ _ _ _ _) (fun j hj => ?_) (by rw [n9]; simp [hl]) (all_oneCell_toArray (fun v hv => List.all_eq_true.1 h1 v hv)) ?_
    · have hj' : j < zs.length := by rw [← hl]; simpa using hj
      rw [Nat.zero_add]
      exact ⟨by rw [hr.c j (List.getElem?_eq_getElem hj')]; rfl, hr.f j⟩
    rw [List.toList_toArray, ← puts_setCells]
    have hrow := puts_row hr 0 cs
    rw [listed_all cs zs 0 (by omega)] at hrow
    have hb' := puts_below hb hge 0 cs
    have hRF' := hK B cs wr _ (fun b => b = g) hRF (puts_kept wr g 0 cs) (fun b hb e => hsep b hb e)
    refine hKK _ _ ⟨hb', ?_⟩
    rw [arr_set 11 [0, 1, 2, 3, 4, 5, 6, 7, 8] [0, 1, 2, 3, 4, 5, 6, 7, 8, 9] 9 (by decide)]
    refine wpAnyH_all r10 (by simp) ?_
    intro i hi
    obtain rfl : i = 10 := by simpa using hi
    refine wpOp_step i10 (fun K hKK => ?_)
    rw [if_pos (by simp [Region.wanted, g10])]
    unfold Oper.wp
    rw [run_assign x10 p10 (e10 _ _ _ _ _ _), Oper.upon_value]
    refine hKK _ _ ⟨hb', ?_⟩
    rw [arr_set 11 [0, 1, 2, 3, 4, 5, 6, 7, 8, 9] [0, 1, 2, 3, 4, 5, 6, 7, 8, 9, 10] 10 (by decide)]
    exact wpAnyH_done r11 (h VA VB cs g B _ hB hge hb' hrow hRF' hsep) _
  -- behind the function, the box not yet made
  have hp0 : ∀ VA VB cs B wr, cs.length = zs.length → cs.all (·.oneCell') = true → w.heap.size ≤ B → Below w.heap.size w wr → RF B cs wr → wpAnyH P .any ops Q (fun w' => Below w.heap.size w w') 6 (arr 11 [0, 1, 2, 3, 4]) (((((a.put o0.dst (.agg csA.toArray)).put o2.dst (.agg csB.toArray)).put o1.dst VA).put o3.dst VB).put o4.dst (.tuple #[.agg (List.toArray cs), V2])) wr := by
    intro VA VB cs B wr hl h1 hB hb hRF
    refine wpAnyH_take i5 hns f5a.1 f5a.2 (fun _ _ _ => q _ _ _ _ _) (.inl ⟨by simp [Region.wanted, g5], fun _ _ => run_move x5 p5 (e5 _ _ _)⟩) hb ?_
    rw [arr_set 11 [0, 1, 2, 3, 4] [0, 1, 2, 3, 4, 5] 5 (by decide)]
    refine wpAnyH_take i6 hns f6a.1 f6a.2 (fun _ _ _ => q _ _ _ _ _) (.inl ⟨by simp [Region.wanted, g6], fun _ _ => run_ext x6 0 p6 (e6 _ _ _) rfl⟩) hb ?_
    rw [arr_set 11 [0, 1, 2, 3, 4, 5] [0, 1, 2, 3, 4, 5, 6] 6 (by decide)]
    refine wpAnyH_take i7 hns f7a.1 f7a.2 (fun _ _ _ => q _ _ _ _ _) (.inl ⟨by simp [Region.wanted, g7], fun _ _ => run_ext x7 1 p7 (e7 _ _ _ _) rfl⟩) hb ?_
    rw [arr_set 11 [0, 1, 2, 3, 4, 5, 6] [0, 1, 2, 3, 4, 5, 6, 7] 7 (by decide)]
    refine wpAnyH_all r8 (by simp) ?_
    intro i hi
    obtain rfl : i = 8 := by simpa using hi
    refine wpOp_step i8 (fun K hKK => ?_)
    rw [if_pos (by simp [Region.wanted, g8])]
    unfold Oper.wp
    rw [al, Oper.upon_value]
    have hb' := hb.alloc hb.size (.cells zs.toArray ty8)
    refine hKK _ _ ⟨hb', ?_⟩
    rw [arr_set 11 [0, 1, 2, 3, 4, 5, 6, 7] [0, 1, 2, 3, 4, 5, 6, 7, 8] 8 (by decide)]
    exact hst VA VB cs _ B _ hl h1 hB hb.size hb' (Row.new wr zs ty8) (hK B cs wr _ (fun _ => False) hRF (Kept.of_below ((Below.refl _ wr).alloc (Nat.le_refl _) _)) (fun _ _ hf => hf)) (fun b hb2 e => by have := (hF B cs wr hRF b hb2).2; omega)
  -- behind the function, the box made before
  have hp1 : ∀ VA VB cs g B wr, cs.length = zs.length → cs.all (·.oneCell') = true → w.heap.size ≤ B → w.heap.size ≤ g → g < B → Below w.heap.size w wr → Row wr g zs → RF B cs wr → wpAnyH P .any ops Q (fun w' => Below w.heap.size w w') 5 (arr 11 [0, 1, 2, 3, 4, 8]) ((((((a.put o0.dst (.agg csA.toArray)).put o2.dst (.agg csB.toArray)).put o1.dst VA).put o3.dst VB).put o4.dst (.tuple #[.agg (List.toArray cs), V2])).put o8.dst (.pointer (some ⟨g, 0, none⟩))) wr := by
    intro VA VB cs g B wr hl h1 hB hge hgB hb hr hRF
    refine wpAnyH_take i5 hns f5b.1 f5b.2 (fun _ _ _ => q _ _ _ _ _) (.inl ⟨by simp [Region.wanted, g5], fun _ _ => run_move x5 p5 ((eval_off _ f57.1 _).trans (e5 _ _ _))⟩) hb ?_
    rw [arr_set 11 [0, 1, 2, 3, 4, 8] [0, 1, 2, 3, 4, 5, 8] 5 (by decide), put_comm _ (Ne.symm d5)]
    refine wpAnyH_take i6 hns f6b.1 f6b.2 (fun _ _ _ => q _ _ _ _ _) (.inl ⟨by simp [Region.wanted, g6], fun _ _ => run_ext x6 0 p6 ((eval_off _ f57.2.1 _).trans (e6 _ _ _)) rfl⟩) hb ?_
    rw [arr_set 11 [0, 1, 2, 3, 4, 5, 8] [0, 1, 2, 3, 4, 5, 6, 8] 6 (by decide), put_comm _ (Ne.symm d6)]
    refine wpAnyH_take i7 hns f7b.1 f7b.2 (fun _ _ _ => q _ _ _ _ _) (.inl ⟨by simp [Region.wanted, g7], fun _ _ => run_ext x7 1 p7 ((eval_off _ f57.2.2 _).trans (e7 _ _ _ _)) rfl⟩) hb ?_
    rw [arr_set 11 [0, 1, 2, 3, 4, 5, 6, 8] [0, 1, 2, 3, 4, 5, 6, 7, 8] 7 (by decide), put_comm _ (Ne.symm d7)]
    exact hst VA VB cs g B wr hl h1 hB hge hb hr hRF (fun b hb2 e => by have := (hF B cs wr hRF b hb2).1; omega)
  -- the function
  have hF1 : ∀ VA VB g wr, w.heap.size ≤ g → Below w.heap.size w wr → Row wr g zs → SA VA wr → SB VB wr → wpAnyH P .any ops Q (fun w' => Below w.heap.size w w') 6 (arr 11 [0, 1, 2, 3, 8]) (((((a.put o0.dst (.agg csA.toArray)).put o2.dst (.agg csB.toArray)).put o1.dst VA).put o3.dst VB).put o8.dst (.pointer (some ⟨g, 0, none⟩))) wr := by
    intro VA VB g wr hge hb hr hA hB
    refine wpAnyH_all rf (by simp) ?_
    intro i hi
    obtain rfl : i = 4 := by simpa using hi
    refine wpOp_step i4 (fun K hKK => ?_)
    rw [if_pos (by simp [Region.wanted, g4])]
    unfold Oper.wp
    rw [enters _ o4 _ #[yF, zF] tsF cF p4 #[VA, VB] (by simp only [List.map_toArray, List.map_cons, List.map_nil, eval_off _ fF.1, eval_off _ fF.2, eyF, ezF]) mF, Oper.upon_enter]
    refine (CF VA VB wr hb hA hB).mono ?_
    rintro e w5 ⟨cs, rfl, hl, h1, hRF, b5⟩
    refine hKK _ _ ⟨hb.trans (b5.mono hb.size), ?_⟩
    rw [arr_set 11 [0, 1, 2, 3, 8] [0, 1, 2, 3, 4, 8] 4 (by decide), put_comm _ (Ne.symm d4)]
    exact hp1 VA VB cs g _ w5 hl h1 hb.size hge hr.lt (hb.trans (b5.mono hb.size)) (hr.below b5 hr.lt) hRF
  have hF0 : ∀ VA VB wr, Below w.heap.size w wr → SA VA wr → SB VB wr → wpAnyH P .any ops Q (fun w' => Below w.heap.size w w') 7 (arr 11 [0, 1, 2, 3]) ((((a.put o0.dst (.agg csA.toArray)).put o2.dst (.agg csB.toArray)).put o1.dst VA).put o3.dst VB) wr := by
    intro VA VB wr hb hA hB
    refine wpAnyH_all rc (by simp) ?_
    intro i hi
    rcases (by simpa using hi : i = 4 ∨ i = 8) with rfl | rfl
    · refine wpOp_step i4 (fun K hKK => ?_)
      rw [if_pos (by simp [Region.wanted, g4])]
      unfold Oper.wp
      rw [enters _ o4 _ #[yF, zF] tsF cF p4 #[VA, VB] (by simp only [List.map_toArray, List.map_cons, List.map_nil, eyF, ezF]) mF, Oper.upon_enter]
      refine (CF VA VB wr hb hA hB).mono ?_
      rintro e w5 ⟨cs, rfl, hl, h1, hRF, b5⟩
      refine hKK _ _ ⟨hb.trans (b5.mono hb.size), ?_⟩
      rw [arr_set 11 [0, 1, 2, 3] [0, 1, 2, 3, 4] 4 (by decide)]
      exact hp0 VA VB cs _ w5 hl h1 hb.size (hb.trans (b5.mono hb.size)) hRF
    · refine wpOp_step i8 (fun K hKK => ?_)
      rw [if_pos (by simp [Region.wanted, g8])]
      unfold Oper.wp
      rw [al, Oper.upon_value]
      have ba : Below wr.heap.size wr (wr.alloc (.cells zs.toArray ty8)) := (Below.refl _ wr).alloc (Nat.le_refl _) _
      refine hKK _ _ ⟨hb.trans (ba.mono hb.size), ?_⟩
      rw [arr_set 11 [0, 1, 2, 3] [0, 1, 2, 3, 8] 8 (by decide)]
      exact hF1 VA VB _ _ hb.size (hb.trans (ba.mono hb.size)) (Row.new wr zs ty8) (sA _ _ _ hA ba) (sB _ _ _ hB ba)
  -- the second argument
  have hB1 : ∀ VA g wr, w.heap.size ≤ g → Below w.heap.size w wr → Row wr g zs → SA VA wr → wpAnyH P .any ops Q (fun w' => Below w.heap.size w w') 7 (arr 11 [0, 1, 2, 8]) ((((a.put o0.dst (.agg csA.toArray)).put o2.dst (.agg csB.toArray)).put o1.dst VA).put o8.dst (.pointer (some ⟨g, 0, none⟩))) wr := by
    intro VA g wr hge hb hr hA
    refine wpAnyH_all re (by simp) ?_
    intro i hi
    obtain rfl : i = 3 := by simpa using hi
    refine wpOp_step i3 (fun K hKK => ?_)
    rw [if_pos (by simp [Region.wanted, g3])]
    unfold Oper.wp
    rw [enters _ o3 _ #[yB] tsB cB p3 #[.agg csB.toArray] (by simp only [List.map_toArray, List.map_cons, List.map_nil, eval_off _ fyB, eyB]) mB, Oper.upon_enter]
    refine (CB wr hb).mono ?_
    rintro e w5 ⟨VB, rfl, hS, b5⟩
    refine hKK _ _ ⟨hb.trans (b5.mono hb.size), ?_⟩
    rw [arr_set 11 [0, 1, 2, 8] [0, 1, 2, 3, 8] 3 (by decide), put_comm _ (Ne.symm d3)]
    exact hF1 VA VB g w5 hge (hb.trans (b5.mono hb.size)) (hr.below b5 hr.lt) (sA _ _ _ hA b5) hS
  have hB0 : ∀ VA wr, Below w.heap.size w wr → SA VA wr → wpAnyH P .any ops Q (fun w' => Below w.heap.size w w') 8 (arr 11 [0, 1, 2]) (((a.put o0.dst (.agg csA.toArray)).put o2.dst (.agg csB.toArray)).put o1.dst VA) wr := by
    intro VA wr hb hA
    refine wpAnyH_all rb (by simp) ?_
    intro i hi
    rcases (by simpa using hi : i = 3 ∨ i = 8) with rfl | rfl
    · refine wpOp_step i3 (fun K hKK => ?_)
      rw [if_pos (by simp [Region.wanted, g3])]
      unfold Oper.wp
      rw [enters _ o3 _ #[yB] tsB cB p3 #[.agg csB.toArray] (by simp only [List.map_toArray, List.map_cons, List.map_nil, eyB]) mB, Oper.upon_enter]
      refine (CB wr hb).mono ?_
      rintro e w5 ⟨VB, rfl, hS, b5⟩
      refine hKK _ _ ⟨hb.trans (b5.mono hb.size), ?_⟩
      rw [arr_set 11 [0, 1, 2] [0, 1, 2, 3] 3 (by decide)]
      exact hF0 VA VB w5 (hb.trans (b5.mono hb.size)) (sA _ _ _ hA b5) hS
    · refine wpOp_step i8 (fun K hKK => ?_)
      rw [if_pos (by simp [Region.wanted, g8])]
      unfold Oper.wp
      rw [al, Oper.upon_value]
      have ba : Below wr.heap.size wr (wr.alloc (.cells zs.toArray ty8)) := (Below.refl _ wr).alloc (Nat.le_refl _) _
      refine hKK _ _ ⟨hb.trans (ba.mono hb.size), ?_⟩
      rw [arr_set 11 [0, 1, 2] [0, 1, 2, 8] 8 (by decide)]
      exact hB1 VA _ _ hb.size (hb.trans (ba.mono hb.size)) (Row.new wr zs ty8) (sA _ _ _ hA ba)
  -- the first argument
  have hA1 : ∀ g wr, w.heap.size ≤ g → Below w.heap.size w wr → Row wr g zs → wpAnyH P .any ops Q (fun w' => Below w.heap.size w w') 8 (arr 11 [0, 2, 8]) (((a.put o0.dst (.agg csA.toArray)).put o2.dst (.agg csB.toArray)).put o8.dst (.pointer (some ⟨g, 0, none⟩))) wr := by
    intro g wr hge hb hr
    refine wpAnyH_all rd (by simp) ?_
    intro i hi
    obtain rfl : i = 1 := by simpa using hi
    refine wpOp_step i1 (fun K hKK => ?_)
    rw [if_pos (by simp [Region.wanted, g1])]
    unfold Oper.wp
    rw [enters _ o1 _ #[yA] tsA cA p1 #[.agg csA.toArray] (by simp only [List.map_toArray, List.map_cons, List.map_nil, eval_off _ fyA, eyA]) mA, Oper.upon_enter]
    refine (CA wr hb).mono ?_
    rintro e w5 ⟨VA, rfl, hS, b5⟩
    refine hKK _ _ ⟨hb.trans (b5.mono hb.size), ?_⟩
    rw [arr_set 11 [0, 2, 8] [0, 1, 2, 8] 1 (by decide), put_comm _ (Ne.symm d1)]
    exact hB1 VA g w5 hge (hb.trans (b5.mono hb.size)) (hr.below b5 hr.lt) hS
  refine wp_region_held (S := fun w' => Below w.heap.size w w') hm ?_
  rw [h11, show Array.replicate 11 false = arr 11 [] from by decide]
  have S0 : Below w.heap.size w { w with drawn := w.drawn + 1 } := (Below.refl _ w).drew
  refine wpAnyH_take i0 hns fr0.1 fr0.2 (fun _ _ _ => q _ _ _ _ _) (yieldsIf_load_mid (by simp [Region.wanted, g0]) tyA xA pA bA 0 eA csA dA (fun w' hw' => fun j v hv => by rw [Nat.zero_add]; exact (RA.below hw' RA.lt).c j hv) uA kA nA) S0 ?_
  rw [arr_set 11 [] [0] 0 (by decide)]
  refine wpAnyH_take i2 hns fr2.1 fr2.2 (fun _ _ _ => q _ _ _ _ _) (yieldsIf_load_mid (by simp [Region.wanted, g2]) tyB xB pB bB 0 eB csB dB (fun w' hw' => fun j v hv => by rw [Nat.zero_add]; exact (RB.below hw' RB.lt).c j hv) uB kB nB) S0 ?_
  rw [arr_set 11 [0] [0, 2] 2 (by decide)]
  refine wpAnyH_all ra (by simp) ?_
  intro i hi
  rcases (by simpa using hi : i = 1 ∨ i = 8) with rfl | rfl
  · refine wpOp_step i1 (fun K hKK => ?_)
    rw [if_pos (by simp [Region.wanted, g1])]
    unfold Oper.wp
    rw [enters _ o1 _ #[yA] tsA cA p1 #[.agg csA.toArray] (by simp only [List.map_toArray, List.map_cons, List.map_nil, eyA]) mA, Oper.upon_enter]
    refine (CA _ S0).mono ?_
    rintro e w5 ⟨VA, rfl, hS, b5⟩
    refine hKK _ _ ⟨S0.trans (b5.mono S0.size), ?_⟩
    rw [arr_set 11 [0, 2] [0, 1, 2] 1 (by decide)]
    exact hB0 VA w5 (S0.trans (b5.mono S0.size)) hS
  · refine wpOp_step i8 (fun K hKK => ?_)
    rw [if_pos (by simp [Region.wanted, g8])]
    unfold Oper.wp
    rw [al, Oper.upon_value]
    have ba := (Below.refl _ ({ w with drawn := w.drawn + 1 } : World)).alloc (Nat.le_refl _) (.cells zs.toArray ty8)
    refine hKK _ _ ⟨S0.trans (ba.mono S0.size), ?_⟩
    rw [arr_set 11 [0, 2] [0, 2, 8] 8 (by decide)]
    exact hA1 _ _ S0.size (S0.trans (ba.mono S0.size)) (Row.new _ zs ty8)

/-- load, load, call, call of two answers, the first one into a box. -/
theorem region_two {P : Program} {ops : Array Oper} {id : Nat} {a : Act} {w : World} {Q : Exit → Act → World → Prop} (hm : P.follows .mixedOrders = true) (hsh : shapeB ops = true)
    {o0 o2 o3 o4 o5 o6 o7 o8 o9 o10 : Oper} (i0 : ops[0]? = some o0) (i2 : ops[1]? = some o2) (i3 : ops[2]? = some o3) (i4 : ops[3]? = some o4) (i5 : ops[4]? = some o5) (i6 : ops[5]? = some o6) (i7 : ops[6]? = some o7) (i8 : ops[7]? = some o8) (i9 : ops[8]? = some o9) (i10 : ops[9]? = some o10)
    (hg : o0.guard = none ∧ o2.guard = none ∧ o3.guard = none ∧ o4.guard = none ∧ o5.guard = none ∧ o6.guard = none ∧ o7.guard = none ∧ o8.guard = none ∧ o9.guard = none ∧ o10.guard = none)
    (q : ∀ (d : Option Tmp) (v : Value) c (a : Act) w, Q (.panic c) (a.put d v) w → Q (.panic c) a w)
    (hd : o3.dst ≠ o8.dst ∧ o4.dst ≠ o8.dst ∧ o5.dst ≠ o8.dst ∧ o6.dst ≠ o8.dst ∧ o7.dst ≠ o8.dst)
    (tyA : TypeId) (xA : Operand) (pA : o0.op = .load tyA xA) (bA : Nat) (csA : List Value) (dA : TypeDesc) (eA : a.eval xA = .pointer (some ⟨bA, 0, none⟩)) (RA : Row w bA csA) (uA : P.underlying tyA = some dA) (kA : dA.isRow = true) (nA : (P.info? tyA).map (·.size) = some csA.length)
    (tyB : TypeId) (xB : Operand) (pB : o2.op = .load tyB xB) (bB : Nat) (csB : List Value) (dB : TypeDesc) (eB : (a.put o0.dst (.agg csA.toArray)).eval xB = .pointer (some ⟨bB, 0, none⟩)) (RB : Row w bB csB) (uB : P.underlying tyB = some dB) (kB : dB.isRow = true) (nB : (P.info? tyB).map (·.size) = some csB.length)
    (cB : FuncId) (yB : Operand) (tsB : Array TypeId) (p3 : o3.op = .call { callee := .value (.func cB), args := #[yB], argTypes := tsB }) (mB : ∀ vs w, (callFunc cB vs).run P w = .ok (.enter cB vs) w) (eyB : ((a.put o0.dst (.agg csA.toArray)).put o2.dst (.agg csB.toArray)).eval yB = .agg csB.toArray) (fyB : offT o8.dst yB = true)
    (cF : FuncId) (yF zF : Operand) (tsF : Array TypeId) (p4 : o4.op = .call { callee := .value (.func cF), args := #[yF, zF], argTypes := tsF }) (mF : ∀ vs w, (callFunc cF vs).run P w = .ok (.enter cF vs) w) (eyF : ∀ VB, (((a.put o0.dst (.agg csA.toArray)).put o2.dst (.agg csB.toArray)).put o3.dst VB).eval yF = .agg csA.toArray) (ezF : ∀ VB, (((a.put o0.dst (.agg csA.toArray)).put o2.dst (.agg csB.toArray)).put o3.dst VB).eval zF = VB) (fF : offT o8.dst yF = true ∧ offT o8.dst zF = true)
    (x5 : Operand) (p5 : o5.op = .move x5) (e5 : ∀ VB T, ((((a.put o0.dst (.agg csA.toArray)).put o2.dst (.agg csB.toArray)).put o3.dst VB).put o4.dst T).eval x5 = T)
    (x6 : Operand) (p6 : o6.op = .extract x6 0) (e6 : ∀ VB T, (((((a.put o0.dst (.agg csA.toArray)).put o2.dst (.agg csB.toArray)).put o3.dst VB).put o4.dst T).put o5.dst T).eval x6 = T)
    (x7 : Operand) (p7 : o7.op = .extract x7 1) (e7 : ∀ VB T V1, ((((((a.put o0.dst (.agg csA.toArray)).put o2.dst (.agg csB.toArray)).put o3.dst VB).put o4.dst T).put o5.dst T).put o6.dst V1).eval x7 = T) (f57 : offT o8.dst x5 = true ∧ offT o8.dst x6 = true ∧ offT o8.dst x7 = true)
    (zs : List Value) (ty8 : TypeId) (al : ∀ (ρ : Operand → Value) w, (execOp ρ o8).run P w = .ok (.value (.pointer (some ⟨w.heap.size, 0, none⟩))) (w.alloc (.cells zs.toArray ty8)))
    (ty9 : TypeId) (x9 y9 : Operand) (p9 : o9.op = .store ty9 x9 y9) (n9 : (P.info? ty9).map (·.size) = some zs.length) (e9 : ∀ VB T V1 V2 X, ((((((((a.put o0.dst (.agg csA.toArray)).put o2.dst (.agg csB.toArray)).put o3.dst VB).put o4.dst T).put o5.dst T).put o6.dst V1).put o7.dst V2).put o8.dst X).eval x9 = X) (e9' : ∀ VB T V1 V2 X, ((((((((a.put o0.dst (.agg csA.toArray)).put o2.dst (.agg csB.toArray)).put o3.dst VB).put o4.dst T).put o5.dst T).put o6.dst V1).put o7.dst V2).put o8.dst X).eval y9 = V1)
    (x10 : Operand) (p10 : o10.op = .assign x10) (e10 : ∀ VB T V1 V2 X, (((((((((a.put o0.dst (.agg csA.toArray)).put o2.dst (.agg csB.toArray)).put o3.dst VB).put o4.dst T).put o5.dst T).put o6.dst V1).put o7.dst V2).put o8.dst X).put o9.dst undef).eval x10 = V2)
    (SB : Value → World → Prop) (sB : ∀ V w' w'', SB V w' → Below w'.heap.size w' w'' → SB V w'')
    (CB : ∀ w', Below w.heap.size w w' → Calls P cB #[.agg csB.toArray] w' fun e w'' => ∃ V, e = .returned V ∧ SB V w'' ∧ Below w'.heap.size w' w'')
    (V2 : Value) (RF : Nat → List Value → World → Prop) (Ft : List Value → Nat → Prop)
    (CF : ∀ VB w', Below w.heap.size w w' → SB VB w' → Calls P cF #[.agg csA.toArray, VB] w' fun e w'' => ∃ cs, e = .returned (.tuple #[.agg (List.toArray cs), V2]) ∧ cs.length = zs.length ∧ cs.all (·.oneCell') = true ∧ RF w'.heap.size cs w'' ∧ Below w'.heap.size w' w'')
    (hF : ∀ B cs w', RF B cs w' → ∀ b, Ft cs b → B ≤ b ∧ b < w'.heap.size)
    (hK : ∀ B cs w' w'' (S : Nat → Prop), RF B cs w' → Kept S w' w'' → (∀ b, Ft cs b → ¬ S b) → RF B cs w'')
    (h : ∀ VB cs g B wr, w.heap.size ≤ B → w.heap.size ≤ g → Below w.heap.size w wr → Row wr g cs → RF B cs wr → (∀ b, Ft cs b → b ≠ g) → Q .normal ((((((((((a.put o0.dst (.agg csA.toArray)).put o2.dst (.agg csB.toArray)).put o3.dst VB).put o4.dst (.tuple #[.agg (List.toArray cs), V2])).put o5.dst (.tuple #[.agg (List.toArray cs), V2])).put o6.dst (.agg (List.toArray cs))).put o7.dst V2).put o8.dst (.pointer (some ⟨g, 0, none⟩))).put o9.dst undef).put o10.dst V2) wr) :
    (Code.region id ops true).wp P Q a w := by
  obtain ⟨g0, g2, g3, g4, g5, g6, g7, g8, g9, g10⟩ := hg
  obtain ⟨d3, d4, d5, d6, d7⟩ := hd
  simp only [shapeB, frT, rdT, Bool.and_eq_true, beq_iff_eq] at hsh
  obtain ⟨⟨h11, hns⟩, ⟨fr0, fr2⟩, ⟨rb, rc⟩, ⟨re, rf⟩, ⟨f5a, f6a, f7a, r8⟩, ⟨f5b, f6b, f7b, r9⟩, r10, r11⟩ := hsh
  -- behind the box: the store and the last one
  have hst : ∀ VB cs g B wr, cs.length = zs.length → cs.all (·.oneCell') = true → w.heap.size ≤ B → w.heap.size ≤ g → Below w.heap.size w wr → Row wr g zs → RF B cs wr → (∀ b, Ft cs b → b ≠ g) → wpAnyH P .any ops Q (fun w' => Below w.heap.size w w') 2 (arr 10 [0, 1, 2, 3, 4, 5, 6, 7]) ((((((((a.put o0.dst (.agg csA.toArray)).put o2.dst (.agg csB.toArray)).put o3.dst VB).put o4.dst (.tuple #[.agg (List.toArray cs), V2])).put o5.dst (.tuple #[.agg (List.toArray cs), V2])).put o6.dst (.agg (List.toArray cs))).put o7.dst V2).put o8.dst (.pointer (some ⟨g, 0, none⟩))) wr := by
    intro VB cs g B wr hl h1 hB hge hb hr hRF hsep
    refine wpAnyH_all r9 (by simp) ?_
    intro i hi
    obtain rfl : i = 8 := by simpa using hi
    refine wpOp_step i9 (fun K hKK => ?_)
    rw [if_pos (by simp [Region.wanted, g9])]
    refine wp_store_mid ty9 x9 y9 p9 g 0 cs.toArray (e9 _ _ _ _ _) (e9' _ _ _ _ _) (fun j hj => ?_) (by rw [n9]; simp [hl]) (all_oneCell_toArray (fun v hv => List.all_eq_true.1 h1 v hv)) ?_
    · have hj' : j < zs.length := by rw [← hl]; simpa using hj
      rw [Nat.zero_add]
      exact ⟨by rw [hr.c j (List.getElem?_eq_getElem hj')]; rfl, hr.f j⟩
    rw [List.toList_toArray, ← puts_setCells]
    have hrow := puts_row hr 0 cs
    rw [listed_all cs zs 0 (by omega)] at hrow
    have hb' := puts_below hb hge 0 cs
    have hRF' := hK B cs wr _ (fun b => b = g) hRF (puts_kept wr g 0 cs) (fun b hb e => hsep b hb e)
    refine hKK _ _ ⟨hb', ?_⟩
    rw [arr_set 10 [0, 1, 2, 3, 4, 5, 6, 7] [0, 1, 2, 3, 4, 5, 6, 7, 8] 8 (by decide)]
    refine wpAnyH_all r10 (by simp) ?_
    intro i hi
    obtain rfl : i = 9 := by simpa using hi
    refine wpOp_step i10 (fun K hKK => ?_)
    rw [if_pos (by simp [Region.wanted, g10])]
    unfold Oper.wp
    rw [run_assign x10 p10 (e10 _ _ _ _ _), Oper.upon_value]
    refine hKK _ _ ⟨hb', ?_⟩
    rw [arr_set 10 [0, 1, 2, 3, 4, 5, 6, 7, 8] [0, 1, 2, 3, 4, 5, 6, 7, 8, 9] 9 (by decide)]
    exact wpAnyH_done r11 (h VB cs g B _ hB hge hb' hrow hRF' hsep) _
  -- behind the function, the box not yet made
  have hp0 : ∀ VB cs B wr, cs.length = zs.length → cs.all (·.oneCell') = true → w.heap.size ≤ B → Below w.heap.size w wr → RF B cs wr → wpAnyH P .any ops Q (fun w' => Below w.heap.size w w') 6 (arr 10 [0, 1, 2, 3]) ((((a.put o0.dst (.agg csA.toArray)).put o2.dst (.agg csB.toArray)).put o3.dst VB).put o4.dst (.tuple #[.agg (List.toArray cs), V2])) wr := by
    intro VB cs B wr hl h1 hB hb hRF
    refine wpAnyH_take i5 hns f5a.1 f5a.2 (fun _ _ _ => q _ _ _ _ _) (.inl ⟨by simp [Region.wanted, g5], fun _ _ => run_move x5 p5 (e5 _ _)⟩) hb ?_
    rw [arr_set 10 [0, 1, 2, 3] [0, 1, 2, 3, 4] 4 (by decide)]
    refine wpAnyH_take i6 hns f6a.1 f6a.2 (fun _ _ _ => q _ _ _ _ _) (.inl ⟨by simp [Region.wanted, g6], fun _ _ => run_ext x6 0 p6 (e6 _ _) rfl⟩) hb ?_
    rw [arr_set 10 [0, 1, 2, 3, 4] [0, 1, 2, 3, 4, 5] 5 (by decide)]
    refine wpAnyH_take i7 hns f7a.1 f7a.2 (fun _ _ _ => q _ _ _ _ _) (.inl ⟨by simp [Region.wanted, g7], fun _ _ => run_ext x7 1 p7 (e7 _ _ _) rfl⟩) hb ?_
    rw [arr_set 10 [0, 1, 2, 3, 4, 5] [0, 1, 2, 3, 4, 5, 6] 6 (by decide)]
    refine wpAnyH_all r8 (by simp) ?_
    intro i hi
    obtain rfl : i = 7 := by simpa using hi
    refine wpOp_step i8 (fun K hKK => ?_)
    rw [if_pos (by simp [Region.wanted, g8])]
    unfold Oper.wp
    rw [al, Oper.upon_value]
    have hb' := hb.alloc hb.size (.cells zs.toArray ty8)
    refine hKK _ _ ⟨hb', ?_⟩
    rw [arr_set 10 [0, 1, 2, 3, 4, 5, 6] [0, 1, 2, 3, 4, 5, 6, 7] 7 (by decide)]
    exact hst VB cs _ B _ hl h1 hB hb.size hb' (Row.new wr zs ty8) (hK B cs wr _ (fun _ => False) hRF (Kept.of_below ((Below.refl _ wr).alloc (Nat.le_refl _) _)) (fun _ _ hf => hf)) (fun b hb2 e => by have := (hF B cs wr hRF b hb2).2; omega)
  -- behind the function, the box made before
  have hp1 : ∀ VB cs g B wr, cs.length = zs.length → cs.all (·.oneCell') = true → w.heap.size ≤ B → w.heap.size ≤ g → g < B → Below w.heap.size w wr → Row wr g zs → RF B cs wr → wpAnyH P .any ops Q (fun w' => Below w.heap.size w w') 5 (arr 10 [0, 1, 2, 3, 7]) (((((a.put o0.dst (.agg csA.toArray)).put o2.dst (.agg csB.toArray)).put o3.dst VB).put o4.dst (.tuple #[.agg (List.toArray cs), V2])).put o8.dst (.pointer (some ⟨g, 0, none⟩))) wr := by
    intro VB cs g B wr hl h1 hB hge hgB hb hr hRF
    refine wpAnyH_take i5 hns f5b.1 f5b.2 (fun _ _ _ => q _ _ _ _ _) (.inl ⟨by simp [Region.wanted, g5], fun _ _ => run_move x5 p5 ((eval_off _ f57.1 _).trans (e5 _ _))⟩) hb ?_
    rw [arr_set 10 [0, 1, 2, 3, 7] [0, 1, 2, 3, 4, 7] 4 (by decide), put_comm _ (Ne.symm d5)]
    refine wpAnyH_take i6 hns f6b.1 f6b.2 (fun _ _ _ => q _ _ _ _ _) (.inl ⟨by simp [Region.wanted, g6], fun _ _ => run_ext x6 0 p6 ((eval_off _ f57.2.1 _).trans (e6 _ _)) rfl⟩) hb ?_
    rw [arr_set 10 [0, 1, 2, 3, 4, 7] [0, 1, 2, 3, 4, 5, 7] 5 (by decide), put_comm _ (Ne.symm d6)]
    refine wpAnyH_take i7 hns f7b.1 f7b.2 (fun _ _ _ => q _ _ _ _ _) (.inl ⟨by simp [Region.wanted, g7], fun _ _ => run_ext x7 1 p7 ((eval_off _ f57.2.2 _).trans (e7 _ _ _)) rfl⟩) hb ?_
    rw [arr_set 10 [0, 1, 2, 3, 4, 5, 7] [0, 1, 2, 3, 4, 5, 6, 7] 6 (by decide), put_comm _ (Ne.symm d7)]
    exact hst VB cs g B wr hl h1 hB hge hb hr hRF (fun b hb2 e => by have := (hF B cs wr hRF b hb2).1; omega)
  -- the function
  have hF1 : ∀ VB g wr, w.heap.size ≤ g → Below w.heap.size w wr → Row wr g zs → SB VB wr → wpAnyH P .any ops Q (fun w' => Below w.heap.size w w') 6 (arr 10 [0, 1, 2, 7]) ((((a.put o0.dst (.agg csA.toArray)).put o2.dst (.agg csB.toArray)).put o3.dst VB).put o8.dst (.pointer (some ⟨g, 0, none⟩))) wr := by
    intro VB g wr hge hb hr hB
    refine wpAnyH_all rf (by simp) ?_
    intro i hi
    obtain rfl : i = 3 := by simpa using hi
    refine wpOp_step i4 (fun K hKK => ?_)
    rw [if_pos (by simp [Region.wanted, g4])]
    unfold Oper.wp
    rw [enters _ o4 _ #[yF, zF] tsF cF p4 #[.agg csA.toArray, VB] (by simp only [List.map_toArray, List.map_cons, List.map_nil, eval_off _ fF.1, eval_off _ fF.2, eyF, ezF]) mF, Oper.upon_enter]
    refine (CF VB wr hb hB).mono ?_
    rintro e w5 ⟨cs, rfl, hl, h1, hRF, b5⟩
    refine hKK _ _ ⟨hb.trans (b5.mono hb.size), ?_⟩
    rw [arr_set 10 [0, 1, 2, 7] [0, 1, 2, 3, 7] 3 (by decide), put_comm _ (Ne.symm d4)]
    exact hp1 VB cs g _ w5 hl h1 hb.size hge hr.lt (hb.trans (b5.mono hb.size)) (hr.below b5 hr.lt) hRF
  have hF0 : ∀ VB wr, Below w.heap.size w wr → SB VB wr → wpAnyH P .any ops Q (fun w' => Below w.heap.size w w') 7 (arr 10 [0, 1, 2]) (((a.put o0.dst (.agg csA.toArray)).put o2.dst (.agg csB.toArray)).put o3.dst VB) wr := by
    intro VB wr hb hB
    refine wpAnyH_all rc (by simp) ?_
    intro i hi
    rcases (by simpa using hi : i = 3 ∨ i = 7) with rfl | rfl
    · refine wpOp_step i4 (fun K hKK => ?_)
      rw [if_pos (by simp [Region.wanted, g4])]
      unfold Oper.wp
      rw [enters _ o4 _ #[yF, zF] tsF cF p4 #[.agg csA.toArray, VB] (by simp only [List.map_toArray, List.map_cons, List.map_nil, eyF, ezF]) mF, Oper.upon_enter]
      refine (CF VB wr hb hB).mono ?_
      rintro e w5 ⟨cs, rfl, hl, h1, hRF, b5⟩
      refine hKK _ _ ⟨hb.trans (b5.mono hb.size), ?_⟩
      rw [arr_set 10 [0, 1, 2] [0, 1, 2, 3] 3 (by decide)]
      exact hp0 VB cs _ w5 hl h1 hb.size (hb.trans (b5.mono hb.size)) hRF
    · refine wpOp_step i8 (fun K hKK => ?_)
      rw [if_pos (by simp [Region.wanted, g8])]
      unfold Oper.wp
      rw [al, Oper.upon_value]
      have ba : Below wr.heap.size wr (wr.alloc (.cells zs.toArray ty8)) := (Below.refl _ wr).alloc (Nat.le_refl _) _
      refine hKK _ _ ⟨hb.trans (ba.mono hb.size), ?_⟩
      rw [arr_set 10 [0, 1, 2] [0, 1, 2, 7] 7 (by decide)]
      exact hF1 VB _ _ hb.size (hb.trans (ba.mono hb.size)) (Row.new wr zs ty8) (sB _ _ _ hB ba)
  -- the second argument
  have hB1 : ∀ g wr, w.heap.size ≤ g → Below w.heap.size w wr → Row wr g zs → wpAnyH P .any ops Q (fun w' => Below w.heap.size w w') 7 (arr 10 [0, 1, 7]) (((a.put o0.dst (.agg csA.toArray)).put o2.dst (.agg csB.toArray)).put o8.dst (.pointer (some ⟨g, 0, none⟩))) wr := by
    intro g wr hge hb hr
    refine wpAnyH_all re (by simp) ?_
    intro i hi
    obtain rfl : i = 2 := by simpa using hi
    refine wpOp_step i3 (fun K hKK => ?_)
    rw [if_pos (by simp [Region.wanted, g3])]
    unfold Oper.wp
    rw [enters _ o3 _ #[yB] tsB cB p3 #[.agg csB.toArray] (by simp only [List.map_toArray, List.map_cons, List.map_nil, eval_off _ fyB, eyB]) mB, Oper.upon_enter]
    refine (CB wr hb).mono ?_
    rintro e w5 ⟨VB, rfl, hS, b5⟩
    refine hKK _ _ ⟨hb.trans (b5.mono hb.size), ?_⟩
    rw [arr_set 10 [0, 1, 7] [0, 1, 2, 7] 2 (by decide), put_comm _ (Ne.symm d3)]
    exact hF1 VB g w5 hge (hb.trans (b5.mono hb.size)) (hr.below b5 hr.lt) hS
  have hB0 : ∀ wr, Below w.heap.size w wr → wpAnyH P .any ops Q (fun w' => Below w.heap.size w w') 8 (arr 10 [0, 1]) ((a.put o0.dst (.agg csA.toArray)).put o2.dst (.agg csB.toArray)) wr := by
    intro wr hb
    refine wpAnyH_all rb (by simp) ?_
    intro i hi
    rcases (by simpa using hi : i = 2 ∨ i = 7) with rfl | rfl
    · refine wpOp_step i3 (fun K hKK => ?_)
      rw [if_pos (by simp [Region.wanted, g3])]
      unfold Oper.wp
      rw [enters _ o3 _ #[yB] tsB cB p3 #[.agg csB.toArray] (by simp only [List.map_toArray, List.map_cons, List.map_nil, eyB]) mB, Oper.upon_enter]
      refine (CB wr hb).mono ?_
      rintro e w5 ⟨VB, rfl, hS, b5⟩
      refine hKK _ _ ⟨hb.trans (b5.mono hb.size), ?_⟩
      rw [arr_set 10 [0, 1] [0, 1, 2] 2 (by decide)]
      exact hF0 VB w5 (hb.trans (b5.mono hb.size)) hS
    · refine wpOp_step i8 (fun K hKK => ?_)
      rw [if_pos (by simp [Region.wanted, g8])]
      unfold Oper.wp
      rw [al, Oper.upon_value]
      have ba : Below wr.heap.size wr (wr.alloc (.cells zs.toArray ty8)) := (Below.refl _ wr).alloc (Nat.le_refl _) _
      refine hKK _ _ ⟨hb.trans (ba.mono hb.size), ?_⟩
      rw [arr_set 10 [0, 1] [0, 1, 7] 7 (by decide)]
      exact hB1 _ _ hb.size (hb.trans (ba.mono hb.size)) (Row.new wr zs ty8)
  refine wp_region_held (S := fun w' => Below w.heap.size w w') hm ?_
  rw [h11, show Array.replicate 10 false = arr 10 [] from by decide]
  have S0 : Below w.heap.size w { w with drawn := w.drawn + 1 } := (Below.refl _ w).drew
  refine wpAnyH_take i0 hns fr0.1 fr0.2 (fun _ _ _ => q _ _ _ _ _) (yieldsIf_load_mid (by simp [Region.wanted, g0]) tyA xA pA bA 0 eA csA dA (fun w' hw' => fun j v hv => by rw [Nat.zero_add]; exact (RA.below hw' RA.lt).c j hv) uA kA nA) S0 ?_
  rw [arr_set 10 [] [0] 0 (by decide)]
  refine wpAnyH_take i2 hns fr2.1 fr2.2 (fun _ _ _ => q _ _ _ _ _) (yieldsIf_load_mid (by simp [Region.wanted, g2]) tyB xB pB bB 0 eB csB dB (fun w' hw' => fun j v hv => by rw [Nat.zero_add]; exact (RB.below hw' RB.lt).c j hv) uB kB nB) S0 ?_
  rw [arr_set 10 [0] [0, 1] 1 (by decide)]
  exact hB0 _ S0

end Go.Proofs.YtlbfcnpnfoapnaaGreatDoor.Pl

namespace Go.Proofs.YtlbfcnpnfoapnaaGreatDoor.Rg
open Go.RowKit Go.Proofs.YtlbfcnpnfoapnaaGreatDoor.Mem Go.Proofs.YtlbfcnpnfoapnaaGreatDoor.Pl
set_option linter.unusedVariables false

/-- What an operation is there for: 0 a load, 1 an argument laid anew, 2 the call, 3 its answer moved, 4 a part of it, 5 a box, 6 a part put into a box, 7 a part assigned, 8 a value that the world ahead of the region fixes. -/
structure Role where
  k : Nat
  i : Nat
  j : Nat
  cs : List Value

abbrev ro (k i j : Nat) : Role := ⟨k, i, j, []⟩

section
variable (P : Program) (ops : Array Oper) (a0 : Act) (w0 : World) (rs : List Role) (f : Nat) (S : Nat → (Nat → Value) → World → Prop) (FS : Nat → (Nat → Value) → Nat → Prop) (RF : Value → World → Prop) (Ft : Value → Nat → Prop)

/-- What holds of an operation that has come up. -/
def Has (L : Nat → Bool) (v : Nat → Value) (w : World) (i : Nat) (r : Role) : Prop :=
  ((r.k = 0 → v i = .agg r.cs.toArray) ∧ (r.k = 8 → v i = r.cs.headD undef)) ∧
  (r.k = 1 → L f = false → S i v w ∧ (∀ b, FS i v b → b < w.heap.size ∧ w0.heap.size ≤ b) ∧ ∀ k rk, rs[k]? = some rk → rk.k = 5 → L k = true → ∀ b, FS i v b → v k ≠ .pointer (some ⟨b, 0, none⟩)) ∧
  (r.k = 2 → RF (v i) w ∧ (∀ b, Ft (v i) b → b < w.heap.size ∧ w0.heap.size ≤ b) ∧ ∀ k rk, rs[k]? = some rk → rk.k = 5 → L k = true → ∀ b, Ft (v i) b → v k ≠ .pointer (some ⟨b, 0, none⟩)) ∧
  (r.k = 3 → v i = v f) ∧
  (r.k = 4 → ∃ a, v f = .tuple a ∧ a[r.j]? = some (v i)) ∧
  (r.k = 5 → ∃ g, v i = .pointer (some ⟨g, 0, none⟩) ∧ w0.heap.size ≤ g ∧ g < w.heap.size ∧ (L r.j = false → Row w g r.cs) ∧ ∀ k rk, rs[k]? = some rk → rk.k = 5 → k ≠ i → L k = true → v k ≠ v i) ∧
  (r.k = 6 → ∃ g cs, v r.i = .pointer (some ⟨g, 0, none⟩) ∧ v r.j = .agg (List.toArray cs) ∧ Row w g cs) ∧
  (r.k = 7 → v i = v r.i)

/-- What is asked of an operation. -/
def Asks (need : List Nat) (av : (Nat → Value) → Array Value) (i : Nat) (r : Role) : Prop :=
  ∃ o, ops[i]? = some o ∧ o.guard = none ∧
  match r.k with
  | 0 => ∃ ty x b d, o.op = .load ty x ∧ a0.eval x = .pointer (some ⟨b, 0, none⟩) ∧ offAll ops x = true ∧ Row w0 b r.cs ∧ P.underlying ty = some d ∧ d.isRow = true ∧ (P.info? ty).map (·.size) = some r.cs.length
  | 1 => ∃ c t ts, o.op = .call { callee := .value (.func c), args := #[.tmp t], argTypes := ts } ∧ dstOf ops r.i = some t ∧ reach ops ops.size i r.i = true ∧ (∃ r', rs[r.i]? = some r' ∧ r'.k = 0 ∧ r'.cs = r.cs) ∧
      (∀ vs w, (callFunc c vs).run P w = .ok (.enter c vs) w) ∧ reach ops ops.size f i = true ∧ (∀ v w' w'', S i v w' → Below w'.heap.size w' w'' → S i v w'') ∧ (∀ v v', (∀ j, j = i ∨ reach ops ops.size i j = true → v j = v' j) → (∀ w', S i v w' → S i v' w') ∧ ∀ b, FS i v' b → FS i v b) ∧
      ∀ v w', Below w0.heap.size w0 w' → (∀ j rj, reach ops ops.size i j = true → rs[j]? = some rj → ((rj.k = 0 → v j = .agg rj.cs.toArray) ∧ (rj.k = 8 → v j = rj.cs.headD undef)) ∧ (rj.k = 1 → S j v w')) → Calls P c #[.agg r.cs.toArray] w' fun e w'' => ∃ V, e = .returned V ∧ S i (updv v i V) w'' ∧ (∀ b, FS i (updv v i V) b → w'.heap.size ≤ b ∧ b < w''.heap.size) ∧ Below w'.heap.size w' w''
  | 2 => i = f ∧ ∃ c ys ts, o.op = .call { callee := .value (.func c), args := ys, argTypes := ts } ∧ (∀ vs w, (callFunc c vs).run P w = .ok (.enter c vs) w) ∧
      (∀ L v a, At ops a0 L v a → (∀ j, j ∈ need → L j = true) → ys.map a.eval = av v) ∧ (∀ j, j ∈ need → reach ops ops.size i j = true) ∧
      (∀ V w' w'' (T : Nat → Prop), RF V w' → Kept T w' w'' → (∀ b, Ft V b → ¬ T b) → RF V w'') ∧
      ∀ v w', Below w0.heap.size w0 w' → (∀ j rj, j ∈ need → rs[j]? = some rj → ((rj.k = 0 → v j = .agg rj.cs.toArray) ∧ (rj.k = 8 → v j = rj.cs.headD undef)) ∧ (rj.k = 1 → S j v w')) →
        Calls P c (av v) w' fun e w'' => ∃ V, e = .returned V ∧ RF V w'' ∧ (∀ b, Ft V b → (w'.heap.size ≤ b ∧ b < w''.heap.size) ∨ ∃ j rj, j ∈ need ∧ rs[j]? = some rj ∧ rj.k = 1 ∧ FS j v b) ∧ Kept (fun b => ∃ j rj, j ∈ need ∧ rs[j]? = some rj ∧ rj.k = 1 ∧ FS j v b) w' w''
  | 3 => ∃ t, o.op = .move (.tmp t) ∧ dstOf ops f = some t ∧ reach ops ops.size i f = true ∧ ∃ rf, rs[f]? = some rf ∧ rf.k = 2
  | 4 => ∃ t, o.op = .extract (.tmp t) r.j ∧ dstOf ops r.i = some t ∧ reach ops ops.size i r.i = true ∧ reach ops ops.size i f = true ∧ (∃ rf, rs[f]? = some rf ∧ rf.k = 2) ∧ (r.i = f ∨ ∃ r', rs[r.i]? = some r' ∧ r'.k = 3) ∧ ∀ V w, RF V w → ∃ a x, V = .tuple a ∧ a[r.j]? = some x
  | 5 => (∃ ty, ∀ (ρ : Operand → Value) w, (execOp ρ o).run P w = .ok (.value (.pointer (some ⟨w.heap.size, 0, none⟩))) (w.alloc (.cells r.cs.toArray ty))) ∧ ∃ r', rs[r.j]? = some r' ∧ r'.k = 6 ∧ r'.i = i
  | 6 => ∃ ty tx y, o.op = .store ty (.tmp tx) (.tmp y) ∧ dstOf ops r.i = some tx ∧ dstOf ops r.j = some y ∧ reach ops ops.size i r.i = true ∧ reach ops ops.size i r.j = true ∧ (r.j = f ∨ reach ops ops.size i f = true) ∧ (∃ rf, rs[f]? = some rf ∧ rf.k = 2) ∧
      ∃ rb, rs[r.i]? = some rb ∧ rb.k = 5 ∧ rb.j = i ∧ (P.info? ty).map (·.size) = some rb.cs.length ∧ ∃ rj, rs[r.j]? = some rj ∧
        ((rj.k = 4 ∧ ∀ V w a x, RF V w → V = .tuple a → a[rj.j]? = some x → ∃ cs, x = .agg (List.toArray cs) ∧ cs.length = rb.cs.length ∧ cs.all (·.oneCell') = true) ∨ (r.j = f ∧ ∀ V w, RF V w → ∃ cs, V = .agg (List.toArray cs) ∧ cs.length = rb.cs.length ∧ cs.all (·.oneCell') = true))
  | 7 => ∃ t, o.op = .assign (.tmp t) ∧ dstOf ops r.i = some t ∧ reach ops ops.size i r.i = true
  | 8 => ∀ L v a w, At ops a0 L v a → Below w0.heap.size w0 w → (∀ j, reach ops ops.size i j = true → L j = true) → (∀ j rj, reach ops ops.size i j = true → rs[j]? = some rj → rj.k = 8 → v j = rj.cs.headD undef) → (execOp a.eval o).run P w = .ok (.value (r.cs.headD undef)) w
  | _ => False

/-- The same, of each. -/
def AsksAll (need : List Nat) (av : (Nat → Value) → Array Value) : Nat → List Role → Prop
  | _, [] => True
  | i, r :: l => Asks P ops a0 w0 rs f S FS RF Ft need av i r ∧ AsksAll need av (i + 1) l

theorem AsksAll.at {P : Program} {ops : Array Oper} {a0 : Act} {w0 : World} {rs : List Role} {f : Nat} {S : Nat → (Nat → Value) → World → Prop} {FS : Nat → (Nat → Value) → Nat → Prop} {RF : Value → World → Prop} {Ft : Value → Nat → Prop} {need : List Nat} {av : (Nat → Value) → Array Value} :
    ∀ (l : List Role) (k : Nat), AsksAll P ops a0 w0 rs f S FS RF Ft need av k l → ∀ j r, l[j]? = some r → Asks P ops a0 w0 rs f S FS RF Ft need av (k + j) r
  | [], _, _, j, r, h => by simp at h
  | x :: l, k, h, 0, r, e => by
    simp only [List.getElem?_cons_zero, Option.some.injEq] at e
    subst e
    exact h.1
  | x :: l, k, h, j + 1, r, e => by
    have := AsksAll.at l (k + 1) h.2 j r (by simpa using e)
    rwa [show k + 1 + j = k + (j + 1) by omega] at this
end

section
variable {P : Program} {ops : Array Oper} {a0 : Act} {w0 : World} {rs : List Role} {f : Nat} {S : Nat → (Nat → Value) → World → Prop} {FS : Nat → (Nat → Value) → Nat → Prop} {RF : Value → World → Prop} {Ft : Value → Nat → Prop}

theorem upd_same (L : Nat → Bool) (i : Nat) : upd L i i = true := by simp [upd]
theorem upd_ne (L : Nat → Bool) {i j : Nat} (h : j ≠ i) : upd L i j = L j := by simp [upd, h]
theorem updv_same (v : Nat → Value) (i : Nat) (u : Value) : updv v i u i = u := by simp [updv]
theorem updv_ne (v : Nat → Value) {i j : Nat} (u : Value) (h : j ≠ i) : updv v i u j = v j := by simp [updv, h]

/-- What another operation has stays, where no cell of its own is stored into and what it looks at has come up. -/
theorem Has.stay {L : Nat → Bool} {v : Nat → Value} {w w' : World} {i k : Nat} {r : Role} {u : Value} {T : Nat → Prop} (h : Has w0 rs f S FS RF Ft L v w k r)
    (hki : k ≠ i) (hk : Kept T w w') (hf3 : r.k = 3 → f ≠ i) (hf4 : r.k = 4 → f ≠ i) (h6i : r.k = 6 → r.i ≠ i) (h6j : r.k = 6 → r.j ≠ i) (h7i : r.k = 7 → r.i ≠ i)
    (hRF : r.k = 2 → ∀ V w' w'' (T : Nat → Prop), RF V w' → Kept T w' w'' → (∀ b, Ft V b → ¬ T b) → RF V w'')
    (hS : r.k = 1 → L f = false → f ≠ i → S k v w → S k (updv v i u) w') (hFS : r.k = 1 → ∀ b, FS k (updv v i u) b → FS k v b) (h1 : r.k = 1 → L f = false → ∀ ri, rs[i]? = some ri → ri.k = 5 → ∀ b, FS k v b → u ≠ .pointer (some ⟨b, 0, none⟩))
    (hT2 : r.k = 2 → ∀ b, Ft (v k) b → ¬ T b)
    (h2 : r.k = 2 → ∀ ri, rs[i]? = some ri → ri.k = 5 → ∀ b, Ft (v k) b → u ≠ .pointer (some ⟨b, 0, none⟩))
    (h5 : r.k = 5 → ∀ ri, rs[i]? = some ri → ri.k = 5 → u ≠ v k)
    (hT5 : r.k = 5 → ∀ g, v k = .pointer (some ⟨g, 0, none⟩) → r.j ≠ i → ¬ T g)
    (hT6 : r.k = 6 → ∀ g, v r.i = .pointer (some ⟨g, 0, none⟩) → ¬ T g) : Has w0 rs f S FS RF Ft (upd L i) (updv v i u) w' k r := by
  obtain ⟨q0, q1, q2, q3, q4, q5, q6, q7⟩ := h
  refine ⟨⟨fun e => ?_, fun e => ?_⟩, fun e => ?_, fun e => ?_, fun e => ?_, fun e => ?_, fun e => ?_, fun e => ?_, fun e => ?_⟩
  · rw [updv_ne v u hki]; exact q0.1 e
  · rw [updv_ne v u hki]; exact q0.2 e
  · intro hl
    by_cases hfi : f = i
    · rw [hfi, upd_same] at hl; cases hl
    · rw [upd_ne L hfi] at hl
      obtain ⟨a1, a2, a3⟩ := q1 e hl
      refine ⟨hS e hl hfi a1, fun b hb => ⟨Nat.lt_of_lt_of_le (a2 b (hFS e b hb)).1 hk.size, (a2 b (hFS e b hb)).2⟩, fun m rm hm hm5 hL b hb => ?_⟩
      by_cases hmi : m = i
      · subst hmi
        rw [updv_same]
        exact h1 e hl rm hm hm5 b (hFS e b hb)
      · rw [upd_ne L hmi] at hL
        rw [updv_ne v u hmi]
        exact a3 m rm hm hm5 hL b (hFS e b hb)
  · rw [updv_ne v u hki]
    obtain ⟨a1, a2, a3⟩ := q2 e
    refine ⟨hRF e _ _ _ _ a1 hk (hT2 e), fun b hb => ⟨Nat.lt_of_lt_of_le (a2 b hb).1 hk.size, (a2 b hb).2⟩, fun m rm hm hm5 hL b hb => ?_⟩
    by_cases hmi : m = i
    · subst hmi
      rw [updv_same]
      exact h2 e rm hm hm5 b hb
    · rw [upd_ne L hmi] at hL
      rw [updv_ne v u hmi]
      exact a3 m rm hm hm5 hL b hb
  · rw [updv_ne v u hki, updv_ne v u (hf3 e)]; exact q3 e
  · rw [updv_ne v u hki, updv_ne v u (hf4 e)]; exact q4 e
  · obtain ⟨g, a1, a2, a3, a4, a5⟩ := q5 e
    refine ⟨g, by rw [updv_ne v u hki]; exact a1, a2, Nat.lt_of_lt_of_le a3 hk.size, fun hl => ?_, fun m rm hm hm5 hmk hL => ?_⟩
    · by_cases hji : r.j = i
      · rw [hji, upd_same] at hl; cases hl
      · rw [upd_ne L hji] at hl
        exact (a4 hl).kept hk (hT5 e g a1 hji)
    · rw [updv_ne v u hki]
      by_cases hmi : m = i
      · subst hmi
        rw [updv_same]
        exact h5 e rm hm hm5
      · rw [upd_ne L hmi] at hL
        rw [updv_ne v u hmi]
        exact a5 m rm hm hm5 hmk hL
  · obtain ⟨g, cs, a1, a2, a3⟩ := q6 e
    exact ⟨g, cs, by rw [updv_ne v u (h6i e)]; exact a1, by rw [updv_ne v u (h6j e)]; exact a2, a3.kept hk (hT6 e g a1)⟩
  · rw [updv_ne v u hki, updv_ne v u (h7i e)]; exact q7 e

variable {need : List Nat} {av : (Nat → Value) → Array Value}

theorem keepAll (hA : ∀ i r, rs[i]? = some r → Asks P ops a0 w0 rs f S FS RF Ft need av i r) {L : Nat → Bool} {v : Nat → Value} {w w' : World} {T : Nat → Prop} {u : Value}
    (hC : ∀ j oj, ops[j]? = some oj → L j = true → waits oj L = true) {i : Nat} {r : Role} {o : Oper} (hri : rs[i]? = some r) (ho : ops[i]? = some o) (hw : waits o L = true) (hLi : L i = false)
    (hI : ∀ k rk, rs[k]? = some rk → L k = true → Has w0 rs f S FS RF Ft L v w k rk) (hk : Kept T w w') (hS : L f = false → f ≠ i → Below w.heap.size w w')
    (hu : r.k = 5 → u = .pointer (some ⟨w.heap.size, 0, none⟩))
    (hT2 : ∀ k rk, rs[k]? = some rk → rk.k = 2 → L k = true → ∀ b, Ft (v k) b → ¬ T b)
    (hT5 : ∀ k rk, rs[k]? = some rk → rk.k = 5 → L k = true → rk.j ≠ i → ∀ g, v k = .pointer (some ⟨g, 0, none⟩) → ¬ T g)
    (hT6 : ∀ k rk, rs[k]? = some rk → rk.k = 6 → L k = true → k ≠ i → ∀ g, v rk.i = .pointer (some ⟨g, 0, none⟩) → ¬ T g)
    (hnew : Has w0 rs f S FS RF Ft (upd L i) (updv v i u) w' i r) : ∀ k rk, rs[k]? = some rk → upd L i k = true → Has w0 rs f S FS RF Ft (upd L i) (updv v i u) w' k rk := by
  intro k rk hrk hLk
  by_cases hki : k = i
  · subst hki
    rw [hri] at hrk
    cases hrk
    exact hnew
  rw [upd_ne L hki] at hLk
  have hH := hI k rk hrk hLk
  have hq := hA k rk hrk
  -- what k waits for has come up
  have lst : ∀ j, (∀ ok, ops[k]? = some ok → reach ops ops.size k j = true) → j ≠ i := fun j hj e => by
    obtain ⟨ok, hok, _⟩ := hq
    have := reach_listed hC ops.size k j ok hok (hC k ok hok hLk) (hj ok hok)
    rw [e, hLi] at this
    cases this
  have same : ∀ j, j = k ∨ reach ops ops.size k j = true → v j = updv v i u j := fun j hj => by
    have hji : j ≠ i := by
      rcases hj with hj | hj
      · rw [hj]; exact hki
      · exact lst j (fun _ _ => hj)
    rw [updv_ne v u hji]
  refine hH.stay hki hk ?_ ?_ ?_ ?_ ?_ ?_ ?_ ?_ ?_ ?_ ?_ ?_ ?_ ?_
  · intro e
    obtain ⟨ok, hok, _, hm⟩ := hq
    rw [e] at hm
    obtain ⟨t, _, _, hr, _⟩ := hm
    exact lst f (fun _ _ => hr)
  · intro e
    obtain ⟨ok, hok, _, hm⟩ := hq
    rw [e] at hm
    obtain ⟨t, _, _, _, hr, _⟩ := hm
    exact lst f (fun _ _ => hr)
  · intro e
    obtain ⟨ok, hok, _, hm⟩ := hq
    rw [e] at hm
    obtain ⟨ty, tx, y, _, _, _, hr, _⟩ := hm
    exact lst rk.i (fun _ _ => hr)
  · intro e
    obtain ⟨ok, hok, _, hm⟩ := hq
    rw [e] at hm
    obtain ⟨ty, tx, y, _, _, _, _, hr, _⟩ := hm
    exact lst rk.j (fun _ _ => hr)
  · intro e
    obtain ⟨ok, hok, _, hm⟩ := hq
    rw [e] at hm
    obtain ⟨t, _, _, hr⟩ := hm
    exact lst rk.i (fun _ _ => hr)
  · intro e
    obtain ⟨ok, hok, _, hm⟩ := hq
    rw [e] at hm
    obtain ⟨_, c, ys, ts, _, _, _, _, hst, _⟩ := hm
    exact hst
  · intro e hl hfi h
    obtain ⟨ok, hok, _, hm⟩ := hq
    rw [e] at hm
    obtain ⟨c, t, ts, _, _, _, _, _, _, hst, hcg, _⟩ := hm
    exact (hcg v _ same).1 _ (hst _ _ _ h (hS hl hfi))
  · intro e b hb
    obtain ⟨ok, hok, _, hm⟩ := hq
    rw [e] at hm
    obtain ⟨c, t, ts, _, _, _, _, _, _, hst, hcg, _⟩ := hm
    exact (hcg v _ same).2 b hb
  · intro e hl ri hri2 e5 b hb hu2
    rw [hri] at hri2
    cases hri2
    rw [hu e5] at hu2
    have := ((hH.2.1 e hl).2.1 b hb).1
    cases hu2
    omega
  · exact fun e b hb => hT2 k rk hrk e hLk b hb
  · intro e ri hri2 e5 b hb hu2
    rw [hri] at hri2
    cases hri2
    rw [hu e5] at hu2
    have := ((hH.2.2.1 e).2.1 b hb).1
    cases hu2
    omega
  · intro e ri hri2 e5 hu2
    rw [hri] at hri2
    cases hri2
    obtain ⟨g, a1, a2, a3, _⟩ := hH.2.2.2.2.2.1 e
    rw [hu e5, a1] at hu2
    cases hu2
    omega
  · exact fun e g hv hji => hT5 k rk hrk e hLk hji g hv
  · exact fun e g hv => hT6 k rk hrk e hLk hki g hv

theorem has0 {L : Nat → Bool} {v : Nat → Value} {w : World} {i : Nat} {r : Role} (e : r.k = 0) (h : v i = .agg r.cs.toArray) : Has w0 rs f S FS RF Ft L v w i r :=
  ⟨⟨fun _ => h, fun q => by omega⟩, fun q => by omega, fun q => by omega, fun q => by omega, fun q => by omega, fun q => by omega, fun q => by omega, fun q => by omega⟩
theorem has1 {L : Nat → Bool} {v : Nat → Value} {w : World} {i : Nat} {r : Role} (e : r.k = 1) (h : L f = false → S i v w ∧ (∀ b, FS i v b → b < w.heap.size ∧ w0.heap.size ≤ b) ∧ ∀ k rk, rs[k]? = some rk → rk.k = 5 → L k = true → ∀ b, FS i v b → v k ≠ .pointer (some ⟨b, 0, none⟩)) : Has w0 rs f S FS RF Ft L v w i r :=
  ⟨⟨fun q => by omega, fun q => by omega⟩, fun _ => h, fun q => by omega, fun q => by omega, fun q => by omega, fun q => by omega, fun q => by omega, fun q => by omega⟩
theorem has2 {L : Nat → Bool} {v : Nat → Value} {w : World} {i : Nat} {r : Role} (e : r.k = 2) (h : RF (v i) w ∧ (∀ b, Ft (v i) b → b < w.heap.size ∧ w0.heap.size ≤ b) ∧ ∀ k rk, rs[k]? = some rk → rk.k = 5 → L k = true → ∀ b, Ft (v i) b → v k ≠ .pointer (some ⟨b, 0, none⟩)) : Has w0 rs f S FS RF Ft L v w i r :=
  ⟨⟨fun q => by omega, fun q => by omega⟩, fun q => by omega, fun _ => h, fun q => by omega, fun q => by omega, fun q => by omega, fun q => by omega, fun q => by omega⟩
theorem has3 {L : Nat → Bool} {v : Nat → Value} {w : World} {i : Nat} {r : Role} (e : r.k = 3) (h : v i = v f) : Has w0 rs f S FS RF Ft L v w i r :=
  ⟨⟨fun q => by omega, fun q => by omega⟩, fun q => by omega, fun q => by omega, fun _ => h, fun q => by omega, fun q => by omega, fun q => by omega, fun q => by omega⟩
theorem has4 {L : Nat → Bool} {v : Nat → Value} {w : World} {i : Nat} {r : Role} (e : r.k = 4) (h : ∃ a, v f = .tuple a ∧ a[r.j]? = some (v i)) : Has w0 rs f S FS RF Ft L v w i r :=
  ⟨⟨fun q => by omega, fun q => by omega⟩, fun q => by omega, fun q => by omega, fun q => by omega, fun _ => h, fun q => by omega, fun q => by omega, fun q => by omega⟩
theorem has5 {L : Nat → Bool} {v : Nat → Value} {w : World} {i : Nat} {r : Role} (e : r.k = 5) (h : ∃ g, v i = .pointer (some ⟨g, 0, none⟩) ∧ w0.heap.size ≤ g ∧ g < w.heap.size ∧ (L r.j = false → Row w g r.cs) ∧ ∀ k rk, rs[k]? = some rk → rk.k = 5 → k ≠ i → L k = true → v k ≠ v i) : Has w0 rs f S FS RF Ft L v w i r :=
  ⟨⟨fun q => by omega, fun q => by omega⟩, fun q => by omega, fun q => by omega, fun q => by omega, fun q => by omega, fun _ => h, fun q => by omega, fun q => by omega⟩
theorem has6 {L : Nat → Bool} {v : Nat → Value} {w : World} {i : Nat} {r : Role} (e : r.k = 6) (h : ∃ g cs, v r.i = .pointer (some ⟨g, 0, none⟩) ∧ v r.j = .agg (List.toArray cs) ∧ Row w g cs) : Has w0 rs f S FS RF Ft L v w i r :=
  ⟨⟨fun q => by omega, fun q => by omega⟩, fun q => by omega, fun q => by omega, fun q => by omega, fun q => by omega, fun q => by omega, fun _ => h, fun q => by omega⟩
theorem has8 {L : Nat → Bool} {v : Nat → Value} {w : World} {i : Nat} {r : Role} (e : r.k = 8) (h : v i = r.cs.headD undef) : Has w0 rs f S FS RF Ft L v w i r :=
  ⟨⟨fun q => by omega, fun _ => h⟩, fun q => by omega, fun q => by omega, fun q => by omega, fun q => by omega, fun q => by omega, fun q => by omega, fun q => by omega⟩
theorem has7 {L : Nat → Bool} {v : Nat → Value} {w : World} {i : Nat} {r : Role} (e : r.k = 7) (h : v i = v r.i) : Has w0 rs f S FS RF Ft L v w i r :=
  ⟨⟨fun q => by omega, fun q => by omega⟩, fun q => by omega, fun q => by omega, fun q => by omega, fun q => by omega, fun q => by omega, fun q => by omega, fun _ => h⟩

theorem rg_both {Q : Exit → Act → World → Prop} {id : Nat} {w : World} (dr : Bool) (hm : P.follows .mixedOrders = true) (hf : fits ops a0.tmps.size = true)
    (ds : List (Option Tmp)) (hds : (List.range ops.size).map (dstOf ops) = ds)
    (I : (Nat → Bool) → (Nat → Value) → World → Prop) (h0 : I (fun _ => false) (fun _ => undef) w.drew) (h1 : I (fun _ => false) (fun _ => undef) w)
    (hstep : ∀ i o, ops[i]? = some o → ∀ (L : Nat → Bool) (v : Nat → Value) (a : Act) (w : World), At ops a0 L v a → I L v w → (∀ j oj, ops[j]? = some oj → L j = true → waits oj L = true) → L i = false → waits o L = true →
      wpOp P ops Q i (fun a' w' => ∃ u, a' = a.put o.dst u ∧ I (upd L i) (updv v i u) w') a w)
    (hend : ∀ L v w, (∀ i, i < ops.size → L i = true) → I L v w → Q .normal (putsAll a0 ds v 0) w) : (Code.region id ops dr).wp P Q a0 w := by
  cases dr with
  | true => exact wp_region_rg hm hf ds hds I h0 hstep hend
  | false => exact wp_region_rg_plain hf ds hds I h1 hstep hend

/-- THE LAW: whatever the order, at the end each operation has what its role says. -/
theorem region_ans {Q : Exit → Act → World → Prop} {id : Nat} (dr : Bool) (hm : P.follows .mixedOrders = true) (hf : fits ops a0.tmps.size = true) (hn : ops.size = rs.length) (need : List Nat) (av : (Nat → Value) → Array Value)
    (hAll : AsksAll P ops a0 w0 rs f S FS RF Ft need av 0 rs) (ds : List (Option Tmp)) (hds : (List.range ops.size).map (dstOf ops) = ds)
    (hend : ∀ L v w, (∀ i, i < rs.length → L i = true) → Below w0.heap.size w0 w → (∀ i r, rs[i]? = some r → Has w0 rs f S FS RF Ft L v w i r) → Q .normal (putsAll a0 ds v 0) w) : (Code.region id ops dr).wp P Q a0 w0 := by
  have hA : ∀ i r, rs[i]? = some r → Asks P ops a0 w0 rs f S FS RF Ft need av i r := fun i r h => by
    have := AsksAll.at rs 0 hAll i r h
    rwa [Nat.zero_add] at this
  refine rg_both dr hm hf ds hds (fun L v w => Below w0.heap.size w0 w ∧ ∀ k rk, rs[k]? = some rk → L k = true → Has w0 rs f S FS RF Ft L v w k rk) ⟨(Below.refl _ w0).drew, fun k rk _ h => (by cases h)⟩ ⟨Below.refl _ w0, fun k rk _ h => (by cases h)⟩ ?_ ?_
  · rintro i o ho L v a w hAt ⟨hB, hI⟩ hC hLi hw
    have hlt : i < ops.size := (Array.getElem?_eq_some_iff.1 ho).1
    obtain ⟨r, hri⟩ : ∃ r, rs[i]? = some r := ⟨_, List.getElem?_eq_getElem (by omega)⟩
    have hqi := hA i r hri
    have lsi : ∀ j, reach ops ops.size i j = true → L j = true := fun j hj => reach_listed hC ops.size i j o ho hw hj
    have whl : ∀ (u : Value) (w' : World), Below w.heap.size w w' → (r.k = 5 → u = .pointer (some ⟨w.heap.size, 0, none⟩)) → Has w0 rs f S FS RF Ft (upd L i) (updv v i u) w' i r →
        ∃ u', a.put o.dst u = a.put o.dst u' ∧ (Below w0.heap.size w0 w' ∧ ∀ k rk, rs[k]? = some rk → upd L i k = true → Has w0 rs f S FS RF Ft (upd L i) (updv v i u') w' k rk) := fun u w' hb hu hh =>
      ⟨u, rfl, hB.trans (hb.mono hB.size), keepAll (T := fun _ => False) hA hC hri ho hw hLi hI (Kept.of_below hb) (fun _ _ => hb) hu (fun _ _ _ _ _ _ _ h => h) (fun _ _ _ _ _ _ _ _ h => h) (fun _ _ _ _ _ _ _ _ h => h) hh⟩
    obtain ⟨o', ho', hg, hm'⟩ := hqi
    rw [ho] at ho'
    cases ho'
    obtain ⟨k, ri, rj, rcs⟩ := r
    match k, hm', hri, whl with
    | 0, hm', hri, whl =>
      obtain ⟨ty, x, b, d, hop, hx, hoff, hrow, hu, hd, hsz⟩ := hm'
      refine wpOp_plain ho hg fun K hK => ?_
      refine wp_load_mid ty x hop b 0 ((hAt.eval_off hoff).trans hx) rcs d (fun j u hu => by rw [Nat.zero_add]; exact (hrow.below hB hrow.lt).c j hu) hu hd hsz (hK _ _ ?_)
      exact whl _ _ (Below.refl _ _) (fun e => by cases e) (has0 rfl (updv_same v i _))
    | 1, hm', hri, whl =>
      obtain ⟨c, t, ts, hop, hd, hr, ⟨r', hr1, hr2, hr3⟩, hc, hfr, hst, hcg, hcon⟩ := hm'
      have hLf : L f = false := by
        cases hb : L f with
        | false => rfl
        | true =>
          cases hof : ops[f]? with
          | none => unfold reach at hfr; cases hsz : ops.size with
            | zero => rw [hsz] at hfr; cases hfr
            | succ n => rw [hsz] at hfr; simp only [hof] at hfr; cases hfr
          | some of =>
            have := reach_listed hC ops.size f i of hof (hC f of hof hb) hfr
            rw [hLi] at this
            cases this
      have hv : v ri = .agg rcs.toArray := by
        have := (hI ri r' hr1 (lsi ri hr)).1.1 hr2
        rw [hr3] at this
        exact this
      refine wpOp_call ho hg (enters a o w #[.tmp t] ts c hop #[.agg rcs.toArray] (by simp only [List.map_toArray, List.map_cons, List.map_nil]; rw [hAt.eval_got ri (lsi ri hr) hd, hv]) hc) ?_
      refine (hcon v w hB (fun j rj hj hrj => ⟨(hI j rj hrj (lsi j hj)).1, fun e => ((hI j rj hrj (lsi j hj)).2.1 e hLf).1⟩)).mono ?_
      rintro e w' ⟨V, rfl, hS, hF, hb⟩
      refine ⟨V, rfl, whl V w' hb (fun e => by cases e) (has1 rfl (fun _ => ⟨hS, fun b hb2 => ⟨(hF b hb2).2, Nat.le_trans hB.size (hF b hb2).1⟩, fun m rm hrm hm5 hLm b hb2 => ?_⟩))⟩
      have hmi : m ≠ i := fun e => by rw [e, hri] at hrm; cases hrm; cases hm5
      rw [upd_ne L hmi] at hLm
      rw [updv_ne v V hmi]
      obtain ⟨g, a1, a2, a3, _⟩ := (hI m rm hrm hLm).2.2.2.2.2.1 hm5
      rw [a1]
      intro e
      cases e
      have := (hF _ hb2).1
      omega
    | 2, hm', hri, whl =>
      obtain ⟨hif, c, ys, ts, hop, hc, hav, hneed, hstab, hcon⟩ := hm'
      have hLf : L f = false := by rw [← hif]; exact hLi
      refine wpOp_call ho hg (enters a o w ys ts c hop (av v) (hav L v a hAt (fun j hj => lsi j (hneed j hj))) hc) ?_
      refine (hcon v w hB (fun j rj hj hrj => ⟨(hI j rj hrj (lsi j (hneed j hj))).1, fun e => ((hI j rj hrj (lsi j (hneed j hj))).2.1 e hLf).1⟩)).mono ?_
      rintro e w' ⟨V, rfl, hRF, hFt, hk⟩
      have hTf : ∀ b, (∃ j rj, j ∈ need ∧ rs[j]? = some rj ∧ rj.k = 1 ∧ FS j v b) → (b < w.heap.size ∧ w0.heap.size ≤ b) ∧ ∀ m rm, rs[m]? = some rm → rm.k = 5 → L m = true → v m ≠ .pointer (some ⟨b, 0, none⟩) := by
        rintro b ⟨j, rj, hj, hrj, e1, hFb⟩
        obtain ⟨_, a2, a3⟩ := (hI j rj hrj (lsi j (hneed j hj))).2.1 e1 hLf
        exact ⟨a2 b hFb, fun m rm hm hm5 hLm => a3 m rm hm hm5 hLm b hFb⟩
      refine ⟨V, rfl, V, rfl, hB.trans (hk.below hB.size (fun b hb ht => by have := (hTf b ht).1.2; omega)), keepAll hA hC hri ho hw hLi hI hk (fun _ h => absurd hif.symm h) (fun e => by cases e) (fun m rm hrm hm2 hLm b _ => ?_) (fun m rm hrm hm5 hLm _ g hg ht => (hTf g ht).2 m rm hrm hm5 hLm hg) (fun m rm hrm hm6 hLm _ g _ => ?_) (has2 rfl ?_)⟩
      · exfalso
        obtain ⟨om, hom, _, hmm⟩ := hA m rm hrm
        rw [hm2] at hmm
        rw [hmm.1, hLf] at hLm
        cases hLm
      · exfalso
        obtain ⟨om, hom, _, hmm⟩ := hA m rm hrm
        rw [hm6] at hmm
        obtain ⟨ty, tx, y, _, _, _, _, hr2, hr3, _⟩ := hmm
        have hx : L f = true := by
          rcases hr3 with e | e
          · rw [← e]; exact reach_listed hC ops.size m rm.j om hom (hC m om hom hLm) hr2
          · exact reach_listed hC ops.size m f om hom (hC m om hom hLm) e
        rw [hLf] at hx
        cases hx
      rw [updv_same]
      refine ⟨hRF, fun b hb2 => ?_, fun m rm hrm hm5 hLm b hb2 => ?_⟩
      · rcases hFt b hb2 with h | h
        · exact ⟨h.2, Nat.le_trans hB.size h.1⟩
        · exact ⟨Nat.lt_of_lt_of_le (hTf b h).1.1 hk.size, (hTf b h).1.2⟩
      have hmi : m ≠ i := fun e => by rw [e, hri] at hrm; cases hrm; cases hm5
      rw [upd_ne L hmi] at hLm
      rw [updv_ne v V hmi]
      rcases hFt b hb2 with h | h
      · obtain ⟨g, a1, a2, a3, _⟩ := (hI m rm hrm hLm).2.2.2.2.2.1 hm5
        rw [a1]
        intro e
        cases e
        have := h.1
        omega
      · exact (hTf b h).2 m rm hrm hm5 hLm
    | 3, hm', hri, whl =>
      obtain ⟨t, hop, hd, hr, rf, hrf, hrf2⟩ := hm'
      have hfi : f ≠ i := fun e => by have := lsi f hr; rw [e, hLi] at this; cases this
      refine wpOp_value ho hg (run_move (.tmp t) hop (hAt.eval_got f (lsi f hr) hd)) ?_
      exact whl _ _ (Below.refl _ _) (fun e => by cases e) (has3 rfl (by rw [updv_same, updv_ne v _ hfi]))
    | 4, hm', hri, whl =>
      obtain ⟨t, hop, hd, hr, hrf0, ⟨rf, hrf, hrf2⟩, hsrc, hform⟩ := hm'
      have hfi : f ≠ i := fun e => by have := lsi f hrf0; rw [e, hLi] at this; cases this
      obtain ⟨aa, x, e1, e2⟩ := hform _ _ ((hI f rf hrf (lsi f hrf0)).2.2.1 hrf2).1
      have hv : v ri = v f := by
        rcases hsrc with e | ⟨r', hr1, hr2⟩
        · rw [show ri = f from e]
        · exact (hI ri r' hr1 (lsi ri hr)).2.2.2.1 hr2
      refine wpOp_value ho hg (run_ext (.tmp t) rj hop ((hAt.eval_got ri (lsi ri hr) hd).trans (hv.trans e1)) e2) ?_
      refine whl _ _ (Below.refl _ _) (fun e => by cases e) (has4 rfl ⟨aa, ?_, ?_⟩)
      · rw [updv_ne v _ hfi]; exact e1
      · rw [updv_same]; exact e2
    | 5, hm', hri, whl =>
      obtain ⟨⟨ty, hal⟩, hsto⟩ := hm'
      refine wpOp_value ho hg (hal a.eval w) ?_
      have hb : Below w.heap.size w (w.alloc (.cells rcs.toArray ty)) := (Below.refl _ w).alloc (Nat.le_refl _) _
      refine whl _ _ hb (fun _ => rfl) (has5 rfl ⟨w.heap.size, updv_same v i _, hB.size, lt_alloc w _, fun _ => Row.new w rcs ty, fun m rm hrm hm5 hmi hLm => ?_⟩)
      rw [upd_ne L hmi] at hLm
      rw [updv_same, updv_ne v _ hmi]
      obtain ⟨g, a1, a2, a3, _⟩ := (hI m rm hrm hLm).2.2.2.2.2.1 hm5
      rw [a1]
      intro e
      cases e
      omega
    | 6, hm', hri, whl =>
      obtain ⟨ty, tx, y, hop, hd1, hd2, hr1, hr2, hr3, ⟨rf, hrf, hrf2⟩, rb, hrb, hb5, hbj, hsz, rj', hrj, hwhich⟩ := hm'
      have hLf : L f = true := by
        rcases hr3 with e | e
        · rw [← e]; exact lsi rj hr2
        · exact lsi f e
      obtain ⟨g, b1, b2, b3, b4, b5⟩ := (hI ri rb hrb (lsi ri hr1)).2.2.2.2.2.1 hb5
      have hrow : Row w g rb.cs := b4 (by rw [show rb.j = i from hbj]; exact hLi)
      have hRF := ((hI f rf hrf hLf).2.2.1 hrf2).1
      obtain ⟨cs, hcs, hl, h1⟩ : ∃ cs, v rj = .agg (List.toArray cs) ∧ cs.length = rb.cs.length ∧ cs.all (·.oneCell') = true := by
        rcases hwhich with ⟨e4, hw4⟩ | ⟨ef, hwf⟩
        · obtain ⟨aa, c1, c2⟩ := (hI rj rj' hrj (lsi rj hr2)).2.2.2.2.1 e4
          exact hw4 _ _ aa _ hRF c1 c2
        · rw [show rj = f from ef]
          exact hwf _ _ hRF
      have hne1 : ri ≠ i := fun e => by have := lsi ri hr1; rw [e, hLi] at this; cases this
      have hne2 : rj ≠ i := fun e => by have := lsi rj hr2; rw [e, hLi] at this; cases this
      refine wpOp_plain ho hg fun K hK => ?_
      refine wp_store_mid ty (.tmp tx) (.tmp y) hop g 0 cs.toArray ((hAt.eval_got ri (lsi ri hr1) hd1).trans b1) ((hAt.eval_got rj (lsi rj hr2) hd2).trans hcs) (fun j hj => ?_) (by rw [hsz]; simp [hl]) (all_oneCell_toArray (fun u hu => List.all_eq_true.1 h1 u hu)) ?_
      · have hj' : j < rb.cs.length := by rw [← hl]; simpa using hj
        rw [Nat.zero_add]
        exact ⟨by rw [hrow.c j (List.getElem?_eq_getElem hj')]; rfl, hrow.f j⟩
      rw [List.toList_toArray, ← puts_setCells]
      have hrow' := puts_row hrow 0 cs
      rw [listed_all cs rb.cs 0 (by omega)] at hrow'
      refine hK _ _ ⟨undef, rfl, puts_below hB b2 0 cs, keepAll (T := fun b => b = g) hA hC hri ho hw hLi hI (puts_kept w g 0 cs) (fun h _ => by rw [hLf] at h; cases h) (fun e => by cases e) (fun m rm hrm hm2 hLm b hb e => ?_) (fun m rm hrm hm5 hLm hmj g' hv e => ?_) (fun m rm hrm hm6 hLm hmi g' hv e => ?_) (has6 rfl ⟨g, cs, ?_, ?_, hrow'⟩)⟩
      · subst e
        exact ((hI m rm hrm hLm).2.2.1 hm2).2.2 ri rb hrb hb5 (lsi ri hr1) _ hb b1
      · subst e
        have hne : m ≠ ri := fun e2 => by
          rw [e2, hrb] at hrm
          cases hrm
          exact hmj hbj
        exact b5 m rm hrm hm5 hne hLm (hv.trans b1.symm)
      · subst e
        obtain ⟨ok, hok, _, hm2⟩ := hA m rm hrm
        rw [hm6] at hm2
        obtain ⟨ty2, tx2, y2, _, _, _, hs1, hs2, hs3, _, rb2, hrb2, hc5, hcj, _⟩ := hm2
        have hne : rm.i ≠ ri := fun e2 => by
          rw [e2, hrb] at hrb2
          cases hrb2
          exact hmi (hcj.symm.trans hbj)
        exact b5 rm.i rb2 hrb2 hc5 hne (reach_listed hC ops.size m rm.i ok hok (hC m ok hok hLm) hs1) (hv.trans b1.symm)
      · rw [updv_ne v _ hne1]; exact b1
      · rw [updv_ne v _ hne2]; exact hcs
    | 7, hm', hri, whl =>
      obtain ⟨t, hop, hd, hr⟩ := hm'
      have hne : ri ≠ i := fun e => by have := lsi ri hr; rw [e, hLi] at this; cases this
      refine wpOp_value ho hg (run_assign (.tmp t) hop (hAt.eval_got ri (lsi ri hr) hd)) ?_
      exact whl _ _ (Below.refl _ _) (fun e => by cases e) (has7 rfl (by rw [updv_same, updv_ne v _ hne]))
    | 8, hm', hri, whl =>
      refine wpOp_value ho hg (hm' L v a w hAt hB lsi (fun j rj hj hrj h8 => (hI j rj hrj (lsi j hj)).1.2 h8)) ?_
      exact whl _ _ (Below.refl _ _) (fun e => by cases e) (has8 rfl (updv_same v i _))
    | k + 9, hm', hri, whl => exact hm'.elim
  · rintro L v w hL ⟨hB, hI⟩
    exact hend L v w (fun i hi => hL i (by omega)) hB (fun i r hr => hI i r hr (hL i (by have := (List.getElem?_eq_some_iff.1 hr).1; omega)))

end

end Go.Proofs.YtlbfcnpnfoapnaaGreatDoor.Rg

namespace Go.Proofs.YtlbfcnpnfoapnaaGreatDoor.Rg
open Go.RowKit Go.Proofs.YtlbfcnpnfoapnaaGreatDoor.Mem Go.Proofs.YtlbfcnpnfoapnaaGreatDoor.Pl
set_option linter.unusedVariables false

section
variable (P : Program) (ops : Array Oper) (a0 : Act) (w0 : World) (rs : List Role) (S : Nat → (Nat → Value) → World → Prop)

/-- The blocks that the region stores into. Roles: 0 a value that the world ahead of the region fixes (cs = [it]), 1 a call, or a value that hangs on one's answer, 2 a store of number j's value into block i (cs = what lies there). -/
def Into (b : Nat) : Prop := ∃ (i : Nat) (r : Role), rs[i]? = some r ∧ r.k = 2 ∧ r.i = b

def Got (L : Nat → Bool) (v : Nat → Value) (w : World) (i : Nat) (r : Role) : Prop :=
  (r.k = 0 → v i = r.cs.headD undef) ∧ (r.k = 1 → S i v w) ∧ (r.k = 2 → ∃ cs, v r.j = .agg (List.toArray cs) ∧ Row w r.i cs)

/-- What an operation may count on. -/
structure Known (i : Nat) (L : Nat → Bool) (v : Nat → Value) (a : Act) (w : World) : Prop where
  slots : At ops a0 L v a
  kept : Kept (Into rs) w0 w
  up : ∀ j, reach ops ops.size i j = true → L j = true
  fix : ∀ j rj, reach ops ops.size i j = true → rs[j]? = some rj → rj.k = 0 → v j = rj.cs.headD undef
  said : ∀ j rj, reach ops ops.size i j = true → rs[j]? = some rj → rj.k = 1 → S j v w

def AsksR (i : Nat) (r : Role) : Prop :=
  ∃ o, ops[i]? = some o ∧ o.guard = none ∧
  match r.k with
  | 0 => ∀ L v a w, Known ops a0 w0 rs S i L v a w → (execOp a.eval o).run P w = .ok (.value (r.cs.headD undef)) w
  | 1 => (∀ v w w', S i v w → Kept (fun b => b < w0.heap.size) w w' → S i v w') ∧ (∀ v v', (∀ j, j = i ∨ reach ops ops.size i j = true → v j = v' j) → ∀ w', S i v w' → S i v' w') ∧
      ((∃ (c : FuncId) (ys : Array Operand) (ts : Array TypeId) (av : (Nat → Value) → Array Value), o.op = .call { callee := .value (.func c), args := ys, argTypes := ts } ∧ (∀ vs w, (callFunc c vs).run P w = .ok (.enter c vs) w) ∧
        (∀ L v a w, Known ops a0 w0 rs S i L v a w → ys.map a.eval = av v) ∧
        ∀ v w, Kept (Into rs) w0 w → (∀ j rj, reach ops ops.size i j = true → rs[j]? = some rj → (rj.k = 0 → v j = rj.cs.headD undef) ∧ (rj.k = 1 → S j v w)) → Calls P c (av v) w fun e w' => ∃ V, e = .returned V ∧ S i (updv v i V) w' ∧ Below w.heap.size w w') ∨
      ∀ L v a w, Known ops a0 w0 rs S i L v a w → ∃ x, (execOp a.eval o).run P w = .ok (.value x) w ∧ S i (updv v i x) w)
  | 2 => ∃ ty x y, o.op = .store ty x (.tmp y) ∧ a0.eval x = .pointer (some ⟨r.i, 0, none⟩) ∧ offAll ops x = true ∧ Row w0 r.i r.cs ∧ (P.info? ty).map (·.size) = some r.cs.length ∧
      dstOf ops r.j = some y ∧ reach ops ops.size i r.j = true ∧ (∀ m rm, rs[m]? = some rm → rm.k = 2 → m ≠ i → rm.i ≠ r.i) ∧
      ∃ rj, rs[r.j]? = some rj ∧ ((rj.k = 0 ∧ ∃ cs, rj.cs.headD undef = .agg (List.toArray cs) ∧ cs.length = r.cs.length ∧ cs.all (·.oneCell') = true) ∨
        (rj.k = 1 ∧ ∀ v w, S r.j v w → ∃ cs, v r.j = .agg (List.toArray cs) ∧ cs.length = r.cs.length ∧ cs.all (·.oneCell') = true))
  | _ => False

def AsksRAll : Nat → List Role → Prop
  | _, [] => True
  | i, r :: l => AsksR P ops a0 w0 rs S i r ∧ AsksRAll (i + 1) l

theorem AsksRAll.at {P : Program} {ops : Array Oper} {a0 : Act} {w0 : World} {rs : List Role} {S : Nat → (Nat → Value) → World → Prop} :
    ∀ (l : List Role) (k : Nat), AsksRAll P ops a0 w0 rs S k l → ∀ j r, l[j]? = some r → AsksR P ops a0 w0 rs S (k + j) r
  | [], _, _, j, r, h => by simp at h
  | x :: l, k, h, 0, r, e => by
    simp only [List.getElem?_cons_zero, Option.some.injEq] at e
    subst e
    exact h.1
  | x :: l, k, h, j + 1, r, e => by
    have := AsksRAll.at l (k + 1) h.2 j r (by simpa using e)
    rwa [show k + 1 + j = k + (j + 1) by omega] at this
end

section
variable {P : Program} {ops : Array Oper} {a0 : Act} {w0 : World} {rs : List Role} {S : Nat → (Nat → Value) → World → Prop}

theorem Known.got {i : Nat} {L : Nat → Bool} {v : Nat → Value} {a : Act} {w : World} (h : Known ops a0 w0 rs S i L v a w) (j : Nat) {t : Tmp} {rj : Role} (hr : reach ops ops.size i j = true) (hd : dstOf ops j = some t) (hrj : rs[j]? = some rj) (h0 : rj.k = 0) :
    a.eval (.tmp t) = rj.cs.headD undef := (h.slots.eval_got j (h.up j hr) hd).trans (h.fix j rj hr hrj h0)
theorem Known.off {i : Nat} {L : Nat → Bool} {v : Nat → Value} {a : Act} {w : World} (h : Known ops a0 w0 rs S i L v a w) {x : Operand} (hx : offAll ops x = true) : a.eval x = a0.eval x := h.slots.eval_off hx

theorem got0 {L : Nat → Bool} {v : Nat → Value} {w : World} {i : Nat} {r : Role} (e : r.k = 0) (h : v i = r.cs.headD undef) : Got S L v w i r := ⟨fun _ => h, fun q => by omega, fun q => by omega⟩
theorem got1 {L : Nat → Bool} {v : Nat → Value} {w : World} {i : Nat} {r : Role} (e : r.k = 1) (h : S i v w) : Got S L v w i r := ⟨fun q => by omega, fun _ => h, fun q => by omega⟩
theorem got2 {L : Nat → Bool} {v : Nat → Value} {w : World} {i : Nat} {r : Role} (e : r.k = 2) (h : ∃ cs, v r.j = .agg (List.toArray cs) ∧ Row w r.i cs) : Got S L v w i r := ⟨fun q => by omega, fun q => by omega, fun _ => h⟩

/-- THE LAW: whatever the order, at the end each operation has what its role says. -/
theorem region_ret {Q : Exit → Act → World → Prop} {id : Nat} (dr : Bool) (hm : P.follows .mixedOrders = true) (hf : fits ops a0.tmps.size = true) (hn : ops.size = rs.length)
    (hAll : AsksRAll P ops a0 w0 rs S 0 rs) (ds : List (Option Tmp)) (hds : (List.range ops.size).map (dstOf ops) = ds)
    (hend : ∀ L v w, (∀ i, i < rs.length → L i = true) → Kept (Into rs) w0 w → (∀ i r, rs[i]? = some r → Got S L v w i r) → Q .normal (putsAll a0 ds v 0) w) : (Code.region id ops dr).wp P Q a0 w0 := by
  have hA : ∀ i r, rs[i]? = some r → AsksR P ops a0 w0 rs S i r := fun i r h => by
    have := AsksRAll.at rs 0 hAll i r h
    rwa [Nat.zero_add] at this
  have hInto : ∀ b, Into rs b → b < w0.heap.size := fun b hb => by
    obtain ⟨i, r, hr, hk, rfl⟩ := hb
    obtain ⟨o, _, _, hm'⟩ := hA i r hr
    rw [hk] at hm'
    obtain ⟨ty, x, y, _, _, _, hrow, _⟩ := hm'
    exact hrow.lt
  refine rg_both dr hm hf ds hds (fun L v w => Kept (Into rs) w0 w ∧ (∀ k rk, rs[k]? = some rk → L k = true → Got S L v w k rk) ∧ ∀ k rk, rs[k]? = some rk → rk.k = 2 → L k = false → Row w rk.i rk.cs) ?_ ?_ ?_ ?_
  · refine ⟨Kept.of_below (Below.refl _ w0).drew, fun k rk _ h => (by cases h), fun k rk hr hk _ => ?_⟩
    obtain ⟨o, _, _, hm'⟩ := hA k rk hr
    rw [hk] at hm'
    obtain ⟨ty, x, y, _, _, _, hrow, _⟩ := hm'
    exact hrow.below ((Below.refl _ w0).drew) hrow.lt
  · refine ⟨Kept.refl _ _, fun k rk _ h => (by cases h), fun k rk hr hk _ => ?_⟩
    obtain ⟨o, _, _, hm'⟩ := hA k rk hr
    rw [hk] at hm'
    obtain ⟨ty, x, y, _, _, _, hrow, _⟩ := hm'
    exact hrow
  · rintro i o ho L v a w hAt ⟨hB, hI, hZ⟩ hC hLi hw
    have hlt : i < ops.size := (Array.getElem?_eq_some_iff.1 ho).1
    obtain ⟨r, hri⟩ : ∃ r, rs[i]? = some r := ⟨_, List.getElem?_eq_getElem (by omega)⟩
    have hqi := hA i r hri
    have lsi : ∀ j, reach ops ops.size i j = true → L j = true := fun j hj => reach_listed hC ops.size i j o ho hw hj
    have kn : Known ops a0 w0 rs S i L v a w := ⟨hAt, hB, lsi, fun j rj hj hrj h0 => (hI j rj hrj (lsi j hj)).1 h0, fun j rj hj hrj h0 => (hI j rj hrj (lsi j hj)).2.1 h0⟩
    -- the others stay
    have whl : ∀ (u : Value) (w' : World) (T : Nat → Prop), Kept T w w' → (∀ b, T b → r.k = 2 ∧ b = r.i) → Got S (upd L i) (updv v i u) w' i r →
        ∃ u', a.put o.dst u = a.put o.dst u' ∧ (Kept (Into rs) w0 w' ∧ (∀ k rk, rs[k]? = some rk → upd L i k = true → Got S (upd L i) (updv v i u') w' k rk) ∧ ∀ k rk, rs[k]? = some rk → rk.k = 2 → upd L i k = false → Row w' rk.i rk.cs) := by
      intro u w' T hk hT hnew
      have hapart : ∀ k rk, rs[k]? = some rk → rk.k = 2 → k ≠ i → ¬ T rk.i := fun k rk hrk hk2 hki hTb => by
        obtain ⟨e2, eb⟩ := hT _ hTb
        obtain ⟨o', ho', hg, hm'⟩ := hA i r hri
        rw [e2] at hm'
        obtain ⟨ty, x, y, _, _, _, _, _, _, _, hne, _⟩ := hm'
        exact hne k rk hrk hk2 hki eb
      refine ⟨u, rfl, ?_, fun k rk hrk hLk => ?_, fun k rk hrk hk2 hLk => ?_⟩
      · refine (hB.trans hk).mono (fun b _ h => ?_)
        rcases h with h | h
        · exact h
        · obtain ⟨e2, eb⟩ := hT b h
          exact ⟨i, r, hri, e2, eb.symm⟩
      · by_cases hki : k = i
        · subst hki
          rw [hri] at hrk
          cases hrk
          exact hnew
        rw [upd_ne L hki] at hLk
        obtain ⟨q0, q1, q2⟩ := hI k rk hrk hLk
        refine ⟨fun e => ?_, fun e => ?_, fun e => ?_⟩
        · rw [updv_ne v u hki]; exact q0 e
        · obtain ⟨o', ho', hg, hm'⟩ := hA k rk hrk
          rw [e] at hm'
          obtain ⟨hst, hcg, _⟩ := hm'
          refine hcg v _ (fun j hj => ?_) _ (hst _ _ _ (q1 e) (hk.mono (fun b _ hb => ?_)))
          · have hji : j ≠ i := by
              rcases hj with hj | hj
              · rw [hj]; exact hki
              · intro e2
                have := reach_listed hC ops.size k j o' ho' (hC k o' ho' hLk) hj
                rw [e2, hLi] at this
                cases this
            rw [updv_ne v u hji]
          obtain ⟨e2, eb⟩ := hT b hb
          exact hInto b ⟨i, r, hri, e2, eb.symm⟩
        · obtain ⟨cs, c1, c2⟩ := q2 e
          obtain ⟨o', ho', hg, hm'⟩ := hA k rk hrk
          rw [e] at hm'
          obtain ⟨ty, x, y, _, _, _, _, _, _, hr, _, _⟩ := hm'
          have hne : rk.j ≠ i := fun e2 => by
            have := reach_listed hC ops.size k rk.j o' ho' (hC k o' ho' hLk) hr
            rw [e2, hLi] at this
            cases this
          exact ⟨cs, by rw [updv_ne v u hne]; exact c1, c2.kept hk (hapart k rk hrk e hki)⟩
      · have hki : k ≠ i := fun e => by rw [e, upd_same] at hLk; cases hLk
        rw [upd_ne L hki] at hLk
        exact (hZ k rk hrk hk2 hLk).kept hk (hapart k rk hrk hk2 hki)
    obtain ⟨o', ho', hg, hm'⟩ := hqi
    rw [ho] at ho'
    cases ho'
    obtain ⟨k, ri, rj, rcs⟩ := r
    match k, hm', hri, whl with
    | 0, hm', hri, whl =>
      exact wpOp_value ho hg (hm' L v a w kn) (whl _ _ (fun _ => False) (Kept.refl _ _) (fun _ h => h.elim) (got0 rfl (updv_same v i _)))
    | 1, hm', hri, whl =>
      obtain ⟨hst, hcg, ⟨c, ys, ts, av, hop, hc, hav, hcon⟩ | hval⟩ := hm'
      · refine wpOp_call ho hg (enters a o w ys ts c hop (av v) (hav L v a w kn) hc) ?_
        refine (hcon v w hB (fun j rj hj hrj => ⟨fun e => (hI j rj hrj (lsi j hj)).1 e, fun e => (hI j rj hrj (lsi j hj)).2.1 e⟩)).mono ?_
        rintro e w' ⟨V, rfl, hS, hb⟩
        exact ⟨V, rfl, whl V w' (fun _ => False) (Kept.of_below hb) (fun _ h => h.elim) (got1 rfl hS)⟩
      · obtain ⟨x, hx, hS⟩ := hval L v a w kn
        exact wpOp_value ho hg hx (whl x _ (fun _ => False) (Kept.refl _ _) (fun _ h => h.elim) (got1 rfl hS))
    | 2, hm', hri, whl =>
      obtain ⟨ty, x, y, hop, hx, hoff, _, hsz, hd, hr, hne, rj', hrj, hwhich⟩ := hm'
      have hrow : Row w ri rcs := hZ i _ hri rfl hLi
      obtain ⟨cs, hcs, hl, h1⟩ : ∃ cs, v rj = .agg (List.toArray cs) ∧ cs.length = rcs.length ∧ cs.all (·.oneCell') = true := by
        rcases hwhich with ⟨e0, cs, c1, c2, c3⟩ | ⟨e1, hw1⟩
        · exact ⟨cs, ((hI rj rj' hrj (lsi rj hr)).1 e0).trans c1, c2, c3⟩
        · exact hw1 _ _ ((hI rj rj' hrj (lsi rj hr)).2.1 e1)
      have hne2 : rj ≠ i := fun e => by have := lsi rj hr; rw [e, hLi] at this; cases this
      refine wpOp_plain ho hg fun K hK => ?_
      refine wp_store_mid ty x (.tmp y) hop ri 0 cs.toArray ((hAt.eval_off hoff).trans hx) ((hAt.eval_got rj (lsi rj hr) hd).trans hcs) (fun j hj => ?_) (by rw [hsz]; simp [hl]) (all_oneCell_toArray (fun u hu => List.all_eq_true.1 h1 u hu)) ?_
      · have hj' : j < rcs.length := by rw [← hl]; simpa using hj
        rw [Nat.zero_add]
        exact ⟨by rw [hrow.c j (List.getElem?_eq_getElem hj')]; rfl, hrow.f j⟩
      rw [List.toList_toArray, ← puts_setCells]
      have hrow' := puts_row hrow 0 cs
      rw [listed_all cs rcs 0 (by omega)] at hrow'
      refine hK _ _ (whl undef _ (fun b => b = ri) (puts_kept w ri 0 cs) (fun b hb => ⟨rfl, hb⟩) (got2 rfl ⟨cs, ?_, hrow'⟩))
      rw [updv_ne v _ hne2]; exact hcs
    | k + 3, hm', hri, whl => exact hm'.elim
  · rintro L v w hL ⟨hB, hI, _⟩
    exact hend L v w (fun i hi => hL i (by omega)) hB (fun i r hr => hI i r hr (hL i (by have := (List.getElem?_eq_some_iff.1 hr).1; omega)))

end

end Go.Proofs.YtlbfcnpnfoapnaaGreatDoor.Rg

namespace Go.Proofs.YtlbfcnpnfoapnaaGreatDoor.Rg
open Go.RowKit Go.Proofs.YtlbfcnpnfoapnaaGreatDoor.Mem Go.Proofs.YtlbfcnpnfoapnaaGreatDoor.Pl
set_option linter.unusedVariables false

theorem four_y (w : World) (xs ys zs us : List Value) (t u v x : TypeId) :
    ∃ wc, (((w.alloc (.cells xs.toArray t)).alloc (.cells ys.toArray u)).alloc (.cells zs.toArray v)).alloc (.cells us.toArray x) = wc ∧ wc.heap.size = w.heap.size + 1 + 1 + 1 + 1 ∧
      Row wc w.heap.size xs ∧ Row wc (w.heap.size + 1) ys ∧ Row wc (w.heap.size + 1 + 1) zs ∧ Row wc (w.heap.size + 1 + 1 + 1) us ∧ Below w.heap.size w wc := by
  obtain ⟨wb, hb, e, r0, r1, r2, b⟩ : ∃ wb, ((w.alloc (.cells xs.toArray t)).alloc (.cells ys.toArray u)).alloc (.cells zs.toArray v) = wb ∧ wb.heap.size = w.heap.size + 1 + 1 + 1 ∧ Row wb w.heap.size xs ∧ Row wb (w.heap.size + 1) ys ∧ Row wb (w.heap.size + 1 + 1) zs ∧ Below w.heap.size w wb := by
    have e0 : (w.alloc (.cells xs.toArray t)).heap.size = w.heap.size + 1 := by simp
    have e1 : ((w.alloc (.cells xs.toArray t)).alloc (.cells ys.toArray u)).heap.size = w.heap.size + 1 + 1 := by simp
    have r1 := Row.new (w.alloc (.cells xs.toArray t)) ys u
    have r2 := Row.new ((w.alloc (.cells xs.toArray t)).alloc (.cells ys.toArray u)) zs v
    rw [e0] at r1
    rw [e1] at r2
    exact ⟨_, rfl, by simp, ((Row.new w xs t).alloc _).alloc _, r1.alloc _, r2, (((Below.refl _ _).alloc (Nat.le_refl _) _).alloc (by omega) _).alloc (by omega) _⟩
  rw [hb]
  have r3 := Row.new wb us x
  rw [e] at r3
  exact ⟨_, rfl, by simp [e], r0.alloc _, r1.alloc _, r2.alloc _, r3, b.alloc (by omega) _⟩

theorem results_cct {P : Program} {fn : Func} {p q u : Tmp} {ty tz : TypeId} (h : fn.results = #[.cell p ty, .cell q tz, .tmp u]) (tmps : Array Value) (w : World) (g k : Nat) (xs ys : List Value) (d e : TypeDesc)
    (hp : tmps.getD p undef = .pointer (some ⟨g, 0, none⟩)) (hr : Row w g xs) (hu : P.underlying ty = some d) (hd : (match d with | .struct _ | .array _ _ => true | _ => false) = true) (hi : (P.info? ty).map (·.size) = some xs.length)
    (hq : tmps.getD q undef = .pointer (some ⟨k, 0, none⟩)) (hs : Row w k ys) (hv : P.underlying tz = some e) (he : (match e with | .struct _ | .array _ _ => true | _ => false) = true) (hj : (P.info? tz).map (·.size) = some ys.length) :
    (results fn tmps).run P w = .ok (.tuple #[.agg xs.toArray, .agg ys.toArray, tmps.getD u undef]) w := by
  obtain ⟨t, hb⟩ := hr
  obtain ⟨t', hb'⟩ := hs
  have hl := run_loadVar_row (P := P) w g t ty xs.toArray (0, 0) d hb hu hd (by simpa using hi)
  have hl' := run_loadVar_row (P := P) w k t' tz ys.toArray (0, 0) e hb' hv he (by simpa using hj)
  rw [Array.getD_eq_getD_getElem?] at hp hq
  simp only [results, h]
  simp [Sem.run_bind, Result.andThen, hp, hq, asAddr, hl, hl']

theorem agg_inj {a b : List Value} (h : Value.agg a.toArray = .agg b.toArray) : a = b := by
  injection h with h1
  exact List.toArray_inj h1

theorem into_of {rs : List Role} {b : Nat} {l : List Nat} (h : Into rs b) (e : (rs.filterMap fun r => if r.k = 2 then some r.i else none) = l) : b ∈ l := by
  obtain ⟨i, r, hr, hk, rfl⟩ := h
  rw [← e]
  exact List.mem_filterMap.2 ⟨r, List.mem_of_getElem? hr, by rw [if_pos hk]⟩

theorem run_load_row {P : Program} {ρ : Operand → Value} {o : Oper} {w : World} (ty : TypeId) (x : Operand) (p : o.op = .load ty x) (b : Nat) (e : ρ x = .pointer (some ⟨b, 0, none⟩)) (cs : List Value) (d : TypeDesc) (hr : Row w b cs)
    (hu : P.underlying ty = some d) (hd : d.isRow = true) (hi : (P.info? ty).map (·.size) = some cs.length) : (execOp ρ o).run P w = .ok (.value (.agg cs.toArray)) w := by
  unfold execOp
  simp only [p, e, Instr.loadAt, Instr.sureAddr, Sem.run_bind, Sem.run_pure, Result.andThen_ok, run_loadVar_mid w b 0 ty cs d (fun j v hv => by rw [Nat.zero_add]; exact hr.c j hv) hu hd hi]

/-- What lies in a box behind the store of a fixed row. -/
theorem stored {S : Nat → (Nat → Value) → World → Prop} {rs : List Role} {L : Nat → Bool} {v : Nat → Value} {w : World} (hG : ∀ i r, rs[i]? = some r → Got S L v w i r) (k j b : Nat) {zs cs : List Value} {rj : Role} (h : rs[k]? = some ⟨2, b, j, zs⟩) (hj : rs[j]? = some rj) (h0 : rj.k = 0) (e : rj.cs.headD undef = .agg cs.toArray) : Row w b cs := by
  obtain ⟨ds, c1, c2⟩ := (hG k _ h).2.2 rfl
  have := ((hG j _ hj).1 h0).trans e
  have h1 : v j = .agg ds.toArray := c1
  rw [this] at h1
  rw [agg_inj h1]
  exact c2

/-- The stores of a region: their numbers and the blocks that they go into. -/
def storesOf (rs : List Role) : List (Nat × Nat) := rs.zipIdx.filterMap fun x => if x.1.k = 2 then some (x.2, x.1.i) else none

theorem in_stores {rs : List Role} {m : Nat} {r : Role} (h : rs[m]? = some r) (hk : r.k = 2) : (m, r.i) ∈ storesOf rs := by
  unfold storesOf
  refine List.mem_filterMap.2 ⟨(r, m), ?_, by simp [hk]⟩
  rw [List.mem_zipIdx_iff_getElem?]
  simpa using h

section
variable {P : Program} {ops : Array Oper} {a0 : Act} {w0 : World} {rs : List Role} {S : Nat → (Nat → Value) → World → Prop}

theorem rNil (i : Nat) : AsksRAll P ops a0 w0 rs S i [] := trivial
theorem rCons {i : Nat} {r : Role} {l : List Role} (h : AsksR P ops a0 w0 rs S i r) (t : AsksRAll P ops a0 w0 rs S (i + 1) l) : AsksRAll P ops a0 w0 rs S i (r :: l) := ⟨h, t⟩

/-- A fixed value. -/
theorem rFix {i a b : Nat} {x : Value} {o : Oper} (ho : ops[i]? = some o) (hg : o.guard = none) (h : ∀ L v a w, Known ops a0 w0 rs S i L v a w → (execOp a.eval o).run P w = .ok (.value x) w) : AsksR P ops a0 w0 rs S i ⟨0, a, b, [x]⟩ :=
  ⟨o, ho, hg, h⟩

/-- A struct that is loaded whole, out of a block that is not stored into. -/
theorem rLoad {i a' b' b : Nat} {cs : List Value} {o : Oper} (ho : ops[i]? = some o) (hg : o.guard = none) (ty : TypeId) (x : Operand) (p : o.op = .load ty x) (hx : a0.eval x = .pointer (some ⟨b, 0, none⟩)) (hoff : offAll ops x = true) (d : TypeDesc) (hr : Row w0 b cs) (hb : ¬ Into rs b)
    (hu : P.underlying ty = some d) (hd : d.isRow = true) (hi : (P.info? ty).map (·.size) = some cs.length) : AsksR P ops a0 w0 rs S i ⟨0, a', b', [.agg cs.toArray]⟩ :=
  rFix ho hg fun L v a w K => run_load_row ty x p b ((K.off hoff).trans hx) cs d (hr.kept K.kept hb) hu hd hi

/-- A call. -/
theorem rCall {i a' b' : Nat} {xs : List Value} {o : Oper} (ho : ops[i]? = some o) (hg : o.guard = none) (c : FuncId) (ys : Array Operand) (ts : Array TypeId) (av : (Nat → Value) → Array Value) (p : o.op = .call { callee := .value (.func c), args := ys, argTypes := ts }) (hc : ∀ vs w, (callFunc c vs).run P w = .ok (.enter c vs) w)
    (hav : ∀ L v a w, Known ops a0 w0 rs S i L v a w → ys.map a.eval = av v) (hst : ∀ v w w', S i v w → Kept (fun b => b < w0.heap.size) w w' → S i v w')
    (hcg : ∀ v v', (∀ j, j = i ∨ reach ops ops.size i j = true → v j = v' j) → ∀ w', S i v w' → S i v' w')
    (hcon : ∀ v w, Kept (Into rs) w0 w → (∀ j rj, reach ops ops.size i j = true → rs[j]? = some rj → (rj.k = 0 → v j = rj.cs.headD undef) ∧ (rj.k = 1 → S j v w)) → Calls P c (av v) w fun e w' => ∃ V, e = .returned V ∧ S i (updv v i V) w' ∧ Below w.heap.size w w') : AsksR P ops a0 w0 rs S i ⟨1, a', b', xs⟩ :=
  ⟨o, ho, hg, hst, hcg, .inl ⟨c, ys, ts, av, p, hc, hav, hcon⟩⟩

/-- A value that hangs on what a call has answered. -/
theorem rVal {i a' b' : Nat} {xs : List Value} {o : Oper} (ho : ops[i]? = some o) (hg : o.guard = none) (hst : ∀ v w w', S i v w → Kept (fun b => b < w0.heap.size) w w' → S i v w')
    (hcg : ∀ v v', (∀ j, j = i ∨ reach ops ops.size i j = true → v j = v' j) → ∀ w', S i v w' → S i v' w')
    (h : ∀ L v a w, Known ops a0 w0 rs S i L v a w → ∃ x, (execOp a.eval o).run P w = .ok (.value x) w ∧ S i (updv v i x) w) : AsksR P ops a0 w0 rs S i ⟨1, a', b', xs⟩ :=
  ⟨o, ho, hg, hst, hcg, .inr h⟩

/-- A store of a fixed struct. -/
theorem rStore {i j b : Nat} {zs cs : List Value} {o : Oper} (ho : ops[i]? = some o) (hg : o.guard = none) (ty : TypeId) (x : Operand) (y : Tmp) (p : o.op = .store ty x (.tmp y)) (hx : a0.eval x = .pointer (some ⟨b, 0, none⟩)) (hoff : offAll ops x = true) (hr : Row w0 b zs) (hi : (P.info? ty).map (·.size) = some zs.length)
    (hd : dstOf ops j = some y) (hre : reach ops ops.size i j = true) (hap : ∀ m b', (m, b') ∈ storesOf rs → m ≠ i → b' ≠ b) {rj : Role} (hj : rs[j]? = some rj) (h0 : rj.k = 0) (hv : rj.cs.headD undef = .agg cs.toArray) (hl : cs.length = zs.length) (h1 : cs.all (·.oneCell') = true) : AsksR P ops a0 w0 rs S i ⟨2, b, j, zs⟩ :=
  ⟨o, ho, hg, ty, x, y, p, hx, hoff, hr, hi, hd, hre, fun m rm hm hk hne => hap m rm.i (in_stores hm hk) hne, rj, hj, .inl ⟨h0, cs, hv, hl, h1⟩⟩

/-- A store of what a call has answered. -/
theorem rStoreC {i j b : Nat} {zs : List Value} {o : Oper} (ho : ops[i]? = some o) (hg : o.guard = none) (ty : TypeId) (x : Operand) (y : Tmp) (p : o.op = .store ty x (.tmp y)) (hx : a0.eval x = .pointer (some ⟨b, 0, none⟩)) (hoff : offAll ops x = true) (hr : Row w0 b zs) (hi : (P.info? ty).map (·.size) = some zs.length)
    (hd : dstOf ops j = some y) (hre : reach ops ops.size i j = true) (hap : ∀ m b', (m, b') ∈ storesOf rs → m ≠ i → b' ≠ b) {rj : Role} (hj : rs[j]? = some rj) (h0 : rj.k = 1) (hv : ∀ v w, S j v w → ∃ cs, v j = .agg (List.toArray cs) ∧ cs.length = zs.length ∧ cs.all (·.oneCell') = true) : AsksR P ops a0 w0 rs S i ⟨2, b, j, zs⟩ :=
  ⟨o, ho, hg, ty, x, y, p, hx, hoff, hr, hi, hd, hre, fun m rm hm hk hne => hap m rm.i (in_stores hm hk) hne, rj, hj, .inr ⟨h0, hv⟩⟩
end

end Go.Proofs.YtlbfcnpnfoapnaaGreatDoor.Rg

namespace Go.Proofs.YtlbfcnpnfoapnaaGreatDoor.Rg
open Go.RowKit Go.Proofs.YtlbfcnpnfoapnaaGreatDoor.Mem Go.Proofs.YtlbfcnpnfoapnaaGreatDoor.Pl
set_option linter.unusedVariables false

/-- What an operation waits for, nearest. -/
def near (ops : Array Oper) (i j : Nat) : Bool := match ops[i]? with
  | some o => o.after.toList.any fun e => Region.binds .any e && e.on == j
  | none => false

theorem near_up {ops : Array Oper} {i j : Nat} {o : Oper} {L : Nat → Bool} (ho : ops[i]? = some o) (hw : waits o L = true) (h : near ops i j = true) : L j = true := by
  unfold near at h
  rw [ho] at h
  obtain ⟨e, he', hb⟩ := List.any_eq_true.1 h
  have he := Array.mem_toList_iff.1 he'
  rw [Bool.and_eq_true] at hb
  unfold waits at hw
  have h1 := Array.all_eq_true_iff_forall_mem.1 hw e he
  rw [hb.1] at h1
  have h2 : e.on = j := by simpa using hb.2
  rw [← h2]
  simpa using h1

/-- A value against a guard. -/
def isB : Value → Bool → Bool
  | .bool c, b => c == b
  | _, _ => false

section
variable (P : Program) (ops : Array Oper) (a0 : Act) (w0 : World) (val : Nat → Value) (sp : Nat → Option (Value → World → Prop))

/-- What is said of an operation's value. -/
def GG (i : Nat) (v : Nat → Value) (w : World) : Prop := match sp i with
  | none => v i = val i
  | some p => p (v i) w

structure KnG (i : Nat) (L : Nat → Bool) (v : Nat → Value) (a : Act) (w : World) : Prop where
  slots : At ops a0 L v a
  bel : Below w0.heap.size w0 w
  up : ∀ j, near ops i j = true → L j = true
  said : ∀ j, near ops i j = true → GG val sp j v w

/-- Is an operation carried out. -/
def WIs (c : Bool) (i : Nat) (o : Oper) : Prop := (o.guard = none ∧ c = true) ∨ ∃ j b t, o.guard = some (j, b) ∧ near ops i j = true ∧ dstOf ops j = some t ∧ sp j = none ∧ isB (val j) b = c

def StepG (Q : Exit → Act → World → Prop) (i : Nat) : Prop := ∀ o, ops[i]? = some o → ∀ L v a w, KnG ops a0 w0 val sp i L v a w → wpOp P ops Q i (fun a' w' => ∃ u, a' = a.put o.dst u ∧ Below w.heap.size w w' ∧ GG val sp i (updv v i u) w') a w
end

section
variable {P : Program} {ops : Array Oper} {a0 : Act} {w0 : World} {val : Nat → Value} {sp : Nat → Option (Value → World → Prop)} {Q : Exit → Act → World → Prop}

theorem KnG.at_val {i : Nat} {L : Nat → Bool} {v : Nat → Value} {a : Act} {w : World} (K : KnG ops a0 w0 val sp i L v a w) (j : Nat) {t : Tmp} (hn : near ops i j = true) (hd : dstOf ops j = some t) (hs : sp j = none) : a.eval (.tmp t) = val j := by
  have h := K.said j hn
  unfold GG at h
  rw [hs] at h
  exact (K.slots.eval_got j (K.up j hn) hd).trans h
theorem KnG.off {i : Nat} {L : Nat → Bool} {v : Nat → Value} {a : Act} {w : World} (K : KnG ops a0 w0 val sp i L v a w) {x : Operand} (hx : offAll ops x = true) : a.eval x = a0.eval x := K.slots.eval_off hx

theorem wanted_is {c : Bool} {i : Nat} {o : Oper} {L : Nat → Bool} {v : Nat → Value} {a : Act} {w : World} (h : WIs ops val sp c i o) (K : KnG ops a0 w0 val sp i L v a w) : Region.wanted o (yielded ops a.tmps) = c := by
  rcases h with ⟨hg, rfl⟩ | ⟨j, b, t, hg, hn, hd, hs, hb⟩
  · simp [Region.wanted, hg]
  · have hv : v j = val j := by
      have h := K.said j hn
      unfold GG at h
      rwa [hs] at h
    have hgot := K.slots.got j t (K.up j hn) hd
    have hy : yielded ops a.tmps j = (match v j with | .bool c => some c | _ => none) := by
      unfold yielded
      have e : ((ops[j]?).bind (·.dst)) = some t := hd
      rw [e]
      simp only [Option.bind_some]
      rw [hgot]
      cases v j <;> rfl
    unfold Region.wanted
    rw [hg]
    show (yielded ops a.tmps j == some b) = c
    rw [hy, hv, ← hb]
    cases val j <;> rfl

theorem gVal {i : Nat} {o : Oper} (ho : ops[i]? = some o) (hw : WIs ops val sp true i o) (hs : sp i = none) (h : ∀ L v a w, KnG ops a0 w0 val sp i L v a w → (execOp a.eval o).run P w = .ok (.value (val i)) w) : StepG P ops a0 w0 val sp Q i := by
  intro o' ho' L v a w K
  rw [ho] at ho'
  cases ho'
  refine wpOp_step ho (fun K' hK => ?_)
  rw [if_pos (wanted_is hw K)]
  unfold Oper.wp
  rw [h L v a w K, Oper.upon_value]
  exact hK _ _ ⟨_, rfl, Below.refl _ _, by unfold GG; rw [hs]; exact updv_same v i _⟩

theorem gSkip {i : Nat} {o : Oper} (ho : ops[i]? = some o) (hw : WIs ops val sp false i o) (hs : sp i = none) (hv : val i = undef) : StepG P ops a0 w0 val sp Q i := by
  intro o' ho' L v a w K
  rw [ho] at ho'
  cases ho'
  refine wpOp_step ho (fun K' hK => ?_)
  rw [if_neg (by rw [wanted_is hw K]; decide)]
  exact hK _ _ ⟨_, rfl, Below.refl _ _, by unfold GG; rw [hs, hv]; exact updv_same v i _⟩

theorem gCall {i : Nat} {o : Oper} (ho : ops[i]? = some o) (hw : WIs ops val sp true i o) (c : FuncId) (ys : Array Operand) (ts : Array TypeId) (av : (Nat → Value) → Array Value) (p : o.op = .call { callee := .value (.func c), args := ys, argTypes := ts }) (hc : ∀ vs w, (callFunc c vs).run P w = .ok (.enter c vs) w)
    (hav : ∀ L v a w, KnG ops a0 w0 val sp i L v a w → ys.map a.eval = av v)
    (hcon : ∀ v w, Below w0.heap.size w0 w → (∀ j, near ops i j = true → GG val sp j v w) → Calls P c (av v) w fun e w' => ∃ V, e = .returned V ∧ Below w.heap.size w w' ∧ (match sp i with | none => V = val i | some p => p V w')) : StepG P ops a0 w0 val sp Q i := by
  intro o' ho' L v a w K
  rw [ho] at ho'
  cases ho'
  refine wpOp_step ho (fun K' hK => ?_)
  rw [if_pos (wanted_is hw K)]
  unfold Oper.wp
  rw [enters a o w ys ts c p (av v) (hav L v a w K) hc, Oper.upon_enter]
  refine (hcon v w K.bel K.said).mono ?_
  rintro e w' ⟨V, rfl, hb, hp⟩
  refine hK _ _ ⟨_, rfl, hb, ?_⟩
  unfold GG
  cases hs : sp i with
  | none => rw [hs] at hp; exact (updv_same v i _).trans hp
  | some q => rw [hs] at hp; show q (updv v i V i) w'; rw [updv_same]; exact hp

def AllG (P : Program) (ops : Array Oper) (a0 : Act) (w0 : World) (val : Nat → Value) (sp : Nat → Option (Value → World → Prop)) (Q : Exit → Act → World → Prop) : Nat → Nat → Prop
  | _, 0 => True
  | k, n + 1 => StepG P ops a0 w0 val sp Q k ∧ AllG P ops a0 w0 val sp Q (k + 1) n

theorem AllG.at : ∀ (n k : Nat), AllG P ops a0 w0 val sp Q k n → ∀ i, k ≤ i → i < k + n → StepG P ops a0 w0 val sp Q i
  | 0, k, _, i, h1, h2 => by omega
  | n + 1, k, h, i, h1, h2 => by
    by_cases e : i = k
    · subst e; exact h.1
    · exact AllG.at n (k + 1) h.2 i (by omega) (by omega)

/-- THE LAW. -/
theorem region_grow {id : Nat} (dr : Bool) (hm : P.follows .mixedOrders = true) (hf : fits ops a0.tmps.size = true) (ds : List (Option Tmp)) (hds : (List.range ops.size).map (dstOf ops) = ds)
    (hst : ∀ i p, sp i = some p → ∀ x w w', p x w → Below w.heap.size w w' → p x w')
    (hall : AllG P ops a0 w0 val sp Q 0 ops.size)
    (hend : ∀ v w, Below w0.heap.size w0 w → (∀ i, i < ops.size → GG val sp i v w) → Q .normal (putsAll a0 ds v 0) w) : (Code.region id ops dr).wp P Q a0 w0 := by
  have hop : ∀ i, i < ops.size → StepG P ops a0 w0 val sp Q i := fun i hi => AllG.at ops.size 0 hall i (Nat.zero_le _) (by omega)
  refine rg_both dr hm hf ds hds (fun L v w => Below w0.heap.size w0 w ∧ ∀ k, k < ops.size → L k = true → GG val sp k v w) ⟨(Below.refl _ _).drew, fun k _ h => (by cases h)⟩ ⟨Below.refl _ _, fun k _ h => (by cases h)⟩ ?_ ?_
  · rintro i o ho L v a w hAt ⟨hB, hI⟩ hC hLi hw
    have hlt : i < ops.size := (Array.getElem?_eq_some_iff.1 ho).1
    have hup : ∀ j, near ops i j = true → L j = true := fun j hj => near_up ho hw hj
    have hsz : ∀ j, near ops i j = true → j < ops.size := fun j hj => by
      unfold near at hj
      rw [ho] at hj
      obtain ⟨e, he', hb⟩ := List.any_eq_true.1 hj
      have he := Array.mem_toList_iff.1 he'
      rw [Bool.and_eq_true] at hb
      have := fits_after hf ho he hb.1
      have h2 : e.on = j := by simpa using hb.2
      omega
    refine wpOp_mono ?_ (hop i hlt o ho L v a w ⟨hAt, hB, hup, fun j hj => hI j (hsz j hj) (hup j hj)⟩)
    rintro a' w' ⟨u, rfl, hb, hG⟩
    refine ⟨u, rfl, hB.trans (hb.mono hB.size), fun k hk hLk => ?_⟩
    by_cases hki : k = i
    · subst hki; exact hG
    · rw [upd_ne L hki] at hLk
      have h := hI k hk hLk
      unfold GG at h ⊢
      cases hs : sp k with
      | none => rw [hs] at h; show updv v i u k = val k; rw [updv_ne v u hki]; exact h
      | some q => rw [hs] at h; show q (updv v i u k) w'; rw [updv_ne v u hki]; exact hst k q hs _ _ _ h hb
  · rintro L v w hL ⟨hB, hI⟩
    exact hend v w hB (fun i hi => hI i hi (hL i hi))

end

end Go.Proofs.YtlbfcnpnfoapnaaGreatDoor.Rg
