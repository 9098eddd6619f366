/-
  impl.NewWorld answers as spec.NewWorld does: the law answers true and changes nothing that was there. Condition: the listed tables of sixteen sums and of the kinds' sizes hold what the program's text lays, and the card ties them to that text.
-/
import Derived.Test.YtaopkchkhdbfnaaGreatDoorCards
import Derived.Test.YtaopkchkhdbfnaaGreatDoorTie
import Derived.ProofKit
import Derived.OpenShut
import Derived.ShutString
import Derived.Deep.DeepHandedRow
import Derived.Lib.LaidTab
import Derived.WalkSmall
import Derived.Deep.Modes
import Derived.Carry
import Derived.Test.YtaopkchkhdbfnaaGreatDoorJoin4
namespace Go.Proofs.YtaopkchkhdbfnaaGreatDoor.fnExactNewWorld
open Go.ChangeShapes Go.WideShapes Go.ChangeAt Go.RowKit
open Go.ChangeMaps (open_string shut_string)
set_option linter.unusedVariables false

theorem own : ownKnob Tryz.prog.godebug = none := by kernel_rfl
theorem laidOut : laidOutB Tryz.prog = true := by kernel_rfl
theorem gTab0 : Tryz.prog.globalNamed "loop.example/g00761/impl.halfSums" = some 2 := by kernel_rfl
theorem gTabType0 : (Tryz.prog.globals[2]?).map (·.type) = some 299 := by kernel_rfl
theorem cellsTab0 : Tryz.prog.cellsOf 299 = 16 := by kernel_rfl
theorem cellsE0 : Tryz.prog.cellsOf 266 = 1 := by kernel_rfl

def list0 : List Int := [0, 274646895, 549293790, 820201905, 1098587580, 1361435347, 1640403810, 1905808397, 2197175160, 2460548119, 2722870694, 2987750089, 3280807620, 3553878443, 3811616794, 4084100981]

theorem list_at0 : ∀ k, k < 16 → list0.getD k 0 = (CrcNum.halves 4 k : Int) := by decide +kernel

theorem table0 {W : World} (h : laidMetH Tryz.prog Rows.fnExactNewWorldRow.laid W) : Lib.TabIs Tryz.prog W "loop.example/g00761/impl.halfSums" .u32 list0 := by
  obtain ⟨ps, hv, _, _⟩ := h
  obtain ⟨g', t', cs, fuel, p, q, hg', ht', hvar, hd, _, _⟩ := hv
  obtain rfl := Option.some.inj (gTab0.symm.trans hg')
  obtain rfl := Option.some.inj (gTabType0.symm.trans ht')
  unfold Lib.TabIs
  rw [hvar, ← Lib.cells_of_tab Tryz.underlying299 Tryz.underlying266 cellsE0 cellsTab0 hd]

theorem tab0 {W : World} (h : Lib.TabIs Tryz.prog W "loop.example/g00761/impl.halfSums" .u32 list0) : Crc.Tab W := fun k hk => by
  rw [Lib.TabIs.cell h gTab0 k hk, list_at0 k hk]

theorem gTab1 : Tryz.prog.globalNamed "loop.example/g00761/impl.kindSizes" = some 0 := by kernel_rfl
theorem gTabType1 : (Tryz.prog.globals[0]?).map (·.type) = some 164 := by kernel_rfl
theorem cellsTab1 : Tryz.prog.cellsOf 164 = 6 := by kernel_rfl
theorem cellsE1 : Tryz.prog.cellsOf 3 = 1 := by kernel_rfl

def list1 : List Int := [3, 3, 3, 4, 3, 18]

theorem list_at1 : ∀ k, k < 6 → list1.getD k 0 = Sector.many.getD k 0 := by decide +kernel

theorem table1 {W : World} (h : laidMetH Tryz.prog Rows.fnExactNewWorldRow.laid W) : Lib.TabIs Tryz.prog W "loop.example/g00761/impl.kindSizes" .i64 list1 := by
  obtain ⟨ps, hv, _, _⟩ := h
  obtain ⟨_, _, _, _, _, q0, _, _, _, _, hv0, _⟩ := hv
  obtain ⟨g', t', cs, fuel, p, q, hg', ht', hvar, hd, _, _⟩ := hv0
  obtain rfl := Option.some.inj (gTab1.symm.trans hg')
  obtain rfl := Option.some.inj (gTabType1.symm.trans ht')
  unfold Lib.TabIs
  rw [hvar, ← Lib.cells_of_tab Tryz.underlying164 Tryz.underlying3 cellsE1 cellsTab1 hd]

theorem tab1 {W : World} (h : Lib.TabIs Tryz.prog W "loop.example/g00761/impl.kindSizes" .i64 list1) : Sector.Kinds W := fun k hk => by
  rw [Lib.TabIs.cell h gTab1 k hk, list_at1 k hk]

theorem tab_lt {P : Program} {w : World} {n : String} {g : Nat} {cs : Array Value} (hg : P.globalNamed n = some g) (hv : w.var? P n = some cs) : g < w.heap.size := by
  unfold World.var? at hv
  simp only [hg, Option.bind_some] at hv
  rcases Nat.lt_or_ge g w.heap.size with h | h
  · exact h
  · rw [Array.getElem?_eq_none h] at hv; simp at hv

set_option maxRecDepth 100000 in
/-- What the walk gives, for every argument and every world that holds the tables. -/
theorem contract (H : Type) (enc : TypeId × Value → H) (W : World) (base : Nat) (args : Array Value) (ds gs : List (DataW H)) (before : List MemPlace)
    (hval : ∀ (j : Nat) t v, Tryz.f4.params[j]? = some t → args[j]? = some v → Value.okWide Tryz.prog W .any base t v)
    (hW : DataW.Whole enc Tryz.prog Tryz.f4.params.toList Rows.fnExactNewWorldSpec.vars false W args.toList ds gs before) (hL : laidMetH Tryz.prog Rows.fnExactNewWorldRow.laid W) :
    Calls Tryz.prog 4 args W fun e W' => ∃ v, e = .returned v ∧ Rows.fnExactNewWorldSpec.post enc Tryz.prog Tryz.f4 false true false false W args v W' := by
  have hW' := hW
  have hlt := fun p hp => hW.lt p hp
  obtain ⟨p, q, hA0, hV, rfl, hfz, hnd⟩ := hW
  have hA : DataW.TrodAll enc Tryz.prog W 0 (fun _ => true) true Tryz.f4.params.toList args.toList ds p := hA0
  rw [Tryz.params4] at hA hval
  obtain ⟨hargs, rfl, rfl⟩ := trodAll_nil hA
  obtain rfl : args = #[] := by cases args; simp_all
  obtain ⟨g0, t0, cs0, f0, dK, pK, g1, t1, cs1, f1, dT, pT, rfl, hg0, ht0, hv0, hd0, hg1, ht1, hv1, hd1, rfl⟩ := trodVars_two hV
  clear hA0
  have T0 := table0 hL
  have T1 := table1 hL
  refine (Pl.lawNewWorld W ⟨tab0 T0, tab_lt gTab0 T0⟩ (tab1 T1) (tab_lt gTab1 T1)).mono fun e W' ⟨he, bel⟩ => ?_
  subst he
  have hsame0 : ∀ x ∈ pK, W.sameAt W' x := fun x hx => bel.same (hlt x (by simp [hx]))
  have hsame1 : ∀ x ∈ pT, W.sameAt W' x := fun x hx => bel.same (hlt x (by simp [hx]))
  obtain rfl := Option.some.inj (gTab1.symm.trans hg0)
  obtain rfl := Option.some.inj (gTabType1.symm.trans ht0)
  obtain rfl := Option.some.inj (gTab0.symm.trans hg1)
  obtain rfl := Option.some.inj (gTabType0.symm.trans ht1)
  exact ⟨_, rfl, _, _, _, [], [], _, hW', trodAll_cons_mk (shut_bool Tryz.underlying4 _) trodAll_mk0, trodAll_mk0,
    ⟨_, _, _, _, _, _, hg0, ht0, var?_below bel hg0 (tab_lt hg0 hv0) hv0, trod_any (by kernel_rfl) (by kernel_rfl) (of_decide_eq_true (by kernel_rfl)) (by kernel_rfl) (by kernel_rfl) hd0 hsame0, trodVars_mk1 hg1 ht1 (var?_below bel hg1 (tab_lt hg1 hv1) hv1) (trod_any (by kernel_rfl) (by kernel_rfl) (of_decide_eq_true (by kernel_rfl)) (by kernel_rfl) (by kernel_rfl) hd1 hsame1), rfl⟩, bel.frame _, fun h => by cases h⟩

/-- One block's cells laid anew. -/
def relaid (cs : Array Value) : Obj → Obj
  | .cells _ t frozen => .cells cs t frozen
  | o => o

/-- The heap with the tables laid. -/
def laidHeap (h : Array Obj) : Array Obj := ((h.modify 2 (relaid (list0.map (Value.int .u32)).toArray)).modify 0 (relaid (list1.map (Value.int .i64)).toArray))

theorem laid_met (os : Os) : laidMet Tryz.prog Rows.fnExactNewWorldRow.laid (({ World.holding Tryz.prog os ⟨#[], #[], []⟩ with heap := laidHeap (World.holding Tryz.prog os ⟨#[], #[], []⟩).heap } : World).forCall (fun _ _ => 0) ⟨#[], #[], []⟩).memory :=
  laidMet_of_run' 8 (by kernel_rfl) (by kernel_rfl)
theorem reads (os : Os) {H : Type} (enc : TypeId × Value → H) : ∃ places, DataW.whole enc Tryz.prog (({ World.holding Tryz.prog os ⟨#[], #[], []⟩ with heap := laidHeap (World.holding Tryz.prog os ⟨#[], #[], []⟩).heap } : World).forCall (fun _ _ => 0) ⟨#[], #[], []⟩).memory Tryz.f4.params.toList Rows.fnExactNewWorldSpec.vars false (#[] : Array Value).toList 8 = some ([], [Rows.laid_loop_example_g00761_impl_kindSizes, Rows.laid_loop_example_g00761_impl_halfSums], places) :=
  ⟨MemPlace.row ⟨0, 0, none⟩ 6 ++ MemPlace.row ⟨2, 0, none⟩ 16, by kernel_rfl⟩

set_option maxRecDepth 100000 in
theorem lifted (os : Os) (started : os.Started) (H : Type) (enc : TypeId × Value → H) (F : Stop.Interp) :
    ReturnsInHanded {} Tryz.checked os 4 .any ((OpenSpec.ofChange Rows.fnExactNewWorldSpec).preRow enc Tryz.prog Tryz.f4 Rows.fnExactNewWorldRow.domain false Rows.fnExactNewWorldRow.laid) (((OpenSpec.ofChange Rows.fnExactNewWorldSpec).at F).post enc Tryz.prog Tryz.f4 false true false false) := by
  obtain ⟨places, hx⟩ := reads os enc
  refine returnsInHanded_of_row (C := Tryz.checked) (s := OpenSpec.ofChange Rows.fnExactNewWorldSpec) own started (by kernel_rfl) Tryz.func4
    (witness_row_at (enc := enc) (C := Tryz.checked) false ({ World.holding Tryz.prog os ⟨#[], #[], []⟩ with heap := laidHeap (World.holding Tryz.prog os ⟨#[], #[], []⟩).heap } : World) #[] rfl (by kernel_rfl) (by kernel_rfl) (by kernel_rfl)
      (OpenSpec.preRow_of_cond 8 hx (by kernel_rfl) (fun k hk => by cases hk) (by kernel_rfl) (laid_met os))) ?_
  intro W base args ds gs before hval hW _ _ _ hL _ _
  exact contract H enc W base args ds gs before hval hW hL

theorem said : Rows.FnExactNewWorldSaid :=
  OpenClaim.holds_of_cond 4 Tryz.f4 rfl rfl rfl rfl rfl rfl rfl ⟨rfl, rfl, rfl, rfl, rfl⟩ rfl rfl rfl rfl rfl (by kernel_rfl) Tryz.func4 (by kernel_rfl)
    (of_decide_eq_true (by kernel_rfl)) (by unfold Func.isWrapper; first | (rw [if_pos (by decide +kernel)]; kernel_rfl) | (rw [if_neg (by decide +kernel)]; exact ⟨rfl, rfl⟩))
    (fun os started H enc _ F => by rw [OpenClaim.pre_eq_preRow]; exact lifted os started H enc F)

/-- No parameter wants a stand-in; the program's own looks are off. -/
theorem plain (f : FuncId) (fn : Func) (hf : Tryz.pinned.checked.prog.funcNamed "loop.example/g00761/laws.FnExactNewWorld" = some f) (hfn : Tryz.pinned.checked.prog.funcs[f]? = some fn) :
    false = Tryz.pinned.checked.prog.looks [] ∧ ∀ (j : Nat) t, fn.params[j]? = some t → Tryz.pinned.checked.prog.wantsStandIn t = false := by
  obtain rfl : f = 4 := Option.some.inj ((show Tryz.prog.funcNamed "loop.example/g00761/laws.FnExactNewWorld" = some 4 by kernel_rfl).symm.trans hf) |>.symm
  obtain rfl : fn = Tryz.f4 := (Option.some.inj (Tryz.func4.symm.trans hfn)).symm
  refine ⟨by kernel_rfl, fun j t ht => ?_⟩
  rw [Tryz.params4] at ht
  simp at ht

/-- The given card. -/
theorem card : Rows.FnExactNewWorldCardSaid :=
  Claim7.holds_tied_plain_at .later [] _ _ _ _ said (fun _ h => by cases h) (by kernel_rfl) (fun _ h => by cases h) fnExactNewWorld_row_tie rfl ⟨rfl, rfl⟩ (by kernel_rfl) rfl plain (by kernel_rfl)
#print axioms card
end Go.Proofs.YtaopkchkhdbfnaaGreatDoor.fnExactNewWorld
