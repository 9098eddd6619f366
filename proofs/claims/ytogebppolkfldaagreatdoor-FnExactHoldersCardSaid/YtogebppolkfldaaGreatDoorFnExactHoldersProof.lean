/-
  At every World and every two numbers impl.Holders answers as spec.Holders does: the law answers true and changes nothing that was there. Condition: the listed tables of sixteen sums and of the kinds' sizes and the listed error hold what the program's text lays, and the card ties them to that text.
-/
import Derived.Test.YtogebppolkfldaaGreatDoorCards
import Derived.Test.YtogebppolkfldaaGreatDoorTie
import Derived.ProofKit
import Derived.OpenShut
import Derived.ShutString
import Derived.Deep.DeepHandedRow
import Derived.Lib.LaidTab
import Derived.WalkSmall
import Derived.Deep.Modes
import Derived.Carry
import Derived.RowKitTokens
import Derived.Stop.ErrReads
import Derived.Test.YtogebppolkfldaaGreatDoorJoin6
import Derived.Test.YtogebppolkfldaaGreatDoorJoin3
namespace Go.Proofs.YtogebppolkfldaaGreatDoor.fnExactHolders
open Go.ChangeShapes Go.WideShapes Go.ChangeAt Go.RowKit
open Go.ChangeMaps (open_string shut_string)
set_option linter.unusedVariables false

theorem own : ownKnob Tryz.prog.godebug = none := by kernel_rfl
theorem laidOut : laidOutB Tryz.prog = true := by kernel_rfl
theorem gTab : Tryz.prog.globalNamed "loop.example/g00761/impl.halfSums" = some 2 := by kernel_rfl
theorem gTabType : (Tryz.prog.globals[2]?).map (·.type) = some 232 := by kernel_rfl
theorem cellsTab : Tryz.prog.cellsOf 232 = 16 := by kernel_rfl
theorem cellsU32 : Tryz.prog.cellsOf 224 = 1 := by kernel_rfl
theorem gErr : Tryz.prog.globalNamed "loop.example/g00761/impl.errPartLacks" = some 1 := by kernel_rfl
theorem gErrType : (Tryz.prog.globals[1]?).map (·.type) = some 210 := by kernel_rfl
theorem cellsES : Tryz.prog.cellsOf 247 = 1 := by kernel_rfl
theorem cellsStr : Tryz.prog.cellsOf 9 = 1 := by kernel_rfl
theorem star : "*" ++ "errors.errorString" = "*errors.errorString" := by decide

/-- One type bears the name. -/
theorem rowES (u : TypeId) (h : Tryz.prog.typeName? 3 u = some "*errors.errorString") : u = 233 :=
  typeName_ptr_named (nm := "errors.errorString") (by rw [star]; kernel_rfl) (by kernel_rfl) (by decide) u (by rw [star]; exact h)

theorem gKs : Tryz.prog.globalNamed "loop.example/g00761/impl.kindSizes" = some 0 := by kernel_rfl
theorem gKsType : (Tryz.prog.globals[0]?).map (·.type) = some 164 := by kernel_rfl
theorem cellsKs : Tryz.prog.cellsOf 164 = 6 := by kernel_rfl
theorem cellsInt : Tryz.prog.cellsOf 3 = 1 := by kernel_rfl

def sizes : List Int := [3, 3, 3, 4, 3, 18]

theorem sizes_at : ∀ k, k < 6 → sizes.getD k 0 = Sector.many.getD k 0 := by decide +kernel

def sums : List Int := [0, 274646895, 549293790, 820201905, 1098587580, 1361435347, 1640403810, 1905808397, 2197175160, 2460548119, 2722870694, 2987750089, 3280807620, 3553878443, 3811616794, 4084100981]

theorem sums_at : ∀ k, k < 16 → sums.getD k 0 = (CrcNum.halves 4 k : Int) := by decide +kernel

theorem table {W : World} (h : laidMetH Tryz.prog Rows.fnExactHoldersRow.laid W) : Lib.TabIs Tryz.prog W "loop.example/g00761/impl.halfSums" .u32 sums :=
  Lib.tabIs_of_head gTab gTabType Tryz.underlying232 Tryz.underlying224 cellsU32 cellsTab h

theorem table2 {W : World} (h : laidMetH Tryz.prog Rows.fnExactHoldersRow.laid W) : Lib.TabIs Tryz.prog W "loop.example/g00761/impl.kindSizes" .i64 sizes := by
  obtain ⟨ps, hv, _, _⟩ := h
  obtain ⟨_, _, _, _, _, q0, _, _, _, _, hv0, _⟩ := hv
  obtain ⟨g', t', cs, fuel, p, q, hg', ht', hvar, hd, _, _⟩ := hv0
  obtain rfl := Option.some.inj (gKs.symm.trans hg')
  obtain rfl := Option.some.inj (gKsType.symm.trans ht')
  unfold Lib.TabIs
  rw [hvar, ← Lib.cells_of_tab Tryz.underlying164 Tryz.underlying3 cellsInt cellsKs hd]

theorem tab2 {W : World} (h : Lib.TabIs Tryz.prog W "loop.example/g00761/impl.kindSizes" .i64 sizes) : Sector.Kinds W := fun k hk => by
  rw [Lib.TabIs.cell h gKs k hk, sizes_at k hk]

theorem tab {W : World} (h : Lib.TabIs Tryz.prog W "loop.example/g00761/impl.halfSums" .u32 sums) : Crc.Tab W := fun k hk => by
  rw [Lib.TabIs.cell h gTab k hk, sums_at k hk]

theorem tab_lt {P : Program} {w : World} {n : String} {g : Nat} {cs : Array Value} (hg : P.globalNamed n = some g) (hv : w.var? P n = some cs) : g < w.heap.size := by
  unfold World.var? at hv
  simp only [hg, Option.bind_some] at hv
  rcases Nat.lt_or_ge g w.heap.size with h | h
  · exact h
  · rw [Array.getElem?_eq_none h] at hv; simp at hv

set_option maxRecDepth 100000 in
/-- What the list gives of the error. -/
theorem lacks {W : World} (h : laidMet Tryz.prog Rows.fnExactHoldersRow.laid W) : ∃ u pv, Rd.Lacks W u pv := by
  obtain ⟨ps, ⟨g0, t0, cs0, f0, p0, q0, hg0, ht0, hv0, hd0, ⟨g9, t9, cs9, f9, p9, q9, hg9, ht9, hv9, hd9, ⟨g1, t1, cs1, f1, p1, q1, hg1, ht1, hv1, hd1, hq1, e1⟩, e9⟩, e0⟩, hnd, hrows⟩ := h
  obtain rfl := Option.some.inj (gErr.symm.trans hg1)
  obtain rfl := Option.some.inj (gErrType.symm.trans ht1)
  have hq1' : q1 = [] := hq1
  subst hq1'
  subst e1
  subst e9
  subst e0
  obtain ⟨l1⟩ := cs1
  have ok1 : ∀ u v, l1 = [.iface u v] → Value.okWide Tryz.prog W .any 0 u v := fun u v e => by
    subst e
    exact (hrows 1 0 (by simp [MemPlace.row])).2 u v (by simpa using World.var?_cell hg1 hv1 0)
  obtain ⟨a1, s1, rfl, _⟩ := errorString_of_trod Tryz.underlying210 rowES Tryz.underlying233 Tryz.underlying247 rfl rfl Tryz.underlying9 cellsES cellsStr hd1 ok1
  exact ⟨_, _, by unfold Rd.Lacks; simpa using World.var?_cell hg1 hv1 0⟩

set_option maxRecDepth 100000 in
/-- What the walk gives, for every argument and every world that holds the table and the error. -/
theorem contract (H : Type) (enc : TypeId × Value → H) (W : World) (base : Nat) (args : Array Value) (ds gs : List (DataW H)) (before : List MemPlace)
    (hval : ∀ (j : Nat) t v, Tryz.f3.params[j]? = some t → args[j]? = some v → Value.okWide Tryz.prog W .any base t v)
    (hW : DataW.Whole enc Tryz.prog Tryz.f3.params.toList Rows.fnExactHoldersSpec.vars false W args.toList ds gs before) (hL : laidMetH Tryz.prog Rows.fnExactHoldersRow.laid W) :
    Calls Tryz.prog 3 args W fun e W' => ∃ v, e = .returned v ∧ Rows.fnExactHoldersSpec.post enc Tryz.prog Tryz.f3 false true false false W args v W' := by
  have hW' := hW
  have hlt := fun p hp => hW.lt p hp
  obtain ⟨p, q, hA0, hV, rfl, hfz, hnd⟩ := hW
  have hA : DataW.TrodAll enc Tryz.prog W 0 (fun _ => true) true Tryz.f3.params.toList args.toList ds p := hA0
  rw [Tryz.params3] at hA hval
  obtain ⟨v0, vs0, d0, ds0, p0, q0, hargs, rfl, rfl, h0, r0⟩ := trodAll_cons hA
  obtain ⟨v1, vs1, d1, ds1, p1, q1, hargs1, rfl, rfl, h1, r1⟩ := trodAll_cons r0
  obtain ⟨v2, vs2, d2, ds2, p2, q2, hargs2, rfl, rfl, h2, r2⟩ := trodAll_cons r1
  obtain ⟨rfl, rfl, rfl⟩ := trodAll_nil r2
  obtain rfl : args = #[v0, v1, v2] := by cases args; simp_all
  obtain ⟨gsh, gst, hgs⟩ : ∃ d ds, gs = d :: ds := by
    cases gs with
    | nil => simp [Rows.fnExactHoldersSpec, DataW.TrodVars] at hV
    | cons d ds => exact ⟨d, ds, rfl⟩
  subst hgs
  obtain ⟨gk, tk, csk, fk, pK, qK, hgk, htk, hvk, hdk, hV2, eK⟩ := hV
  obtain ⟨g0, t0, cs0, f0, dE, pE, g1, t1, cs1, f1, dT, pT, rfl, hg0, ht0, hv0, hd0, hg1, ht1, hv1, hd1, rfl⟩ := trodVars_two hV2
  subst eK
  have lt0 : ∀ x ∈ p0, x.block < W.heap.size := by obtain ⟨m, hm⟩ := h0; exact DataW.trod_lt m _ _ _ hm
  obtain ⟨X, hX, hH⟩ := Pl.world_in (hval 0 31 v0 rfl rfl) h0
  obtain ⟨n1, rfl, rfl, rfl, wn1⟩ := open_int Tryz.underlying3 (hval 1 3 v1 rfl rfl) h1
  obtain ⟨n2, rfl, rfl, rfl, wn2⟩ := open_int Tryz.underlying3 (hval 2 3 v2 rfl rfl) h2
  clear hA0
  obtain rfl := Option.some.inj (gKs.symm.trans hgk)
  obtain rfl := Option.some.inj (gKsType.symm.trans htk)
  obtain rfl := Option.some.inj (gErr.symm.trans hg0)
  obtain rfl := Option.some.inj (gErrType.symm.trans ht0)
  obtain rfl := Option.some.inj (gTab.symm.trans hg1)
  obtain rfl := Option.some.inj (gTabType.symm.trans ht1)
  obtain ⟨x, rfl, ix, rfl, rfl, _⟩ := token_of hg0 Tryz.underlying210 hv0 hd0
  have T := table hL
  have T2 := table2 hL
  obtain ⟨u, pv, hlk⟩ := lacks hL
  refine (Pl.lawHolders W v0 X n1 n2 hX hH ⟨⟨u, pv, hlk⟩, ⟨tab T, tab_lt gTab T⟩, tab2 T2, tab_lt gKs T2⟩).mono fun e W' ⟨he, bel⟩ => ?_
  subst he
  have hsame : ∀ x ∈ pT, W.sameAt W' x := fun x hx => bel.same (hlt x (by simp [hx]))
  have hsameK : ∀ x ∈ pK, W.sameAt W' x := fun x hx => bel.same (hlt x (by simp [hx]))
  exact ⟨_, rfl, _, _, _, [], _, _, hW', trodAll_cons_mk (shut_bool Tryz.underlying4 _) trodAll_mk0, trodAll_cons_mk (Below.trod laidOut (by kernel_rfl) (of_decide_eq_true (by kernel_rfl)) h0 bel lt0) (trodAll_cons_mk (shut_int Tryz.underlying3 wn1) (trodAll_cons_mk (shut_int Tryz.underlying3 wn2) trodAll_mk0)),
    ⟨_, _, _, _, _, _, hgk, htk, var?_below bel hgk (tab_lt hgk hvk) hvk, trod_any (by kernel_rfl) (by kernel_rfl) (of_decide_eq_true (by kernel_rfl)) (by kernel_rfl) (by kernel_rfl) hdk hsameK,
      ⟨_, _, _, 1, [], _, hg0, ht0, var?_below bel hg0 (tab_lt hg0 hv0) hv0, trod_held Tryz.underlying210 ix 0, trodVars_mk1 hg1 ht1 (var?_below bel hg1 (tab_lt hg1 hv1) hv1) (trod_any (by kernel_rfl) (by kernel_rfl) (of_decide_eq_true (by kernel_rfl)) (by kernel_rfl) (by kernel_rfl) hd1 hsame), rfl⟩, rfl⟩, bel.frame _, fun h => by cases h⟩

/-- One block's cells laid anew. -/
def relaid (cs : Array Value) : Obj → Obj
  | .cells _ t frozen => .cells cs t frozen
  | o => o

/-- The error's text. -/
abbrev lacksS : ByteArray := { data := #[97, 32, 112, 97, 114, 116, 32, 108, 97, 99, 107, 115] }

/-- The heap with the table and the error laid; the error's text in block k. -/
def laidHeap (k : Nat) (h : Array Obj) : Array Obj := ((h.modify 2 (relaid (sums.map (Value.int .u32)).toArray)).modify 0 (relaid (sizes.map (Value.int .i64)).toArray)).modify 1 (relaid #[.iface 233 (.pointer (some ⟨k, 0, none⟩))])

theorem laid_met (os : Os) : laidMet Tryz.prog Rows.fnExactHoldersRow.laid (({ World.holding Tryz.prog os ⟨#[.cells #[.string lacksS] 247], #[], []⟩ with heap := laidHeap (World.holding Tryz.prog os ⟨#[], #[], []⟩).heap.size (World.holding Tryz.prog os ⟨#[.cells #[.string lacksS] 247], #[], []⟩).heap } : World).forCall (fun _ _ => 0) ⟨#[], #[.agg #[.slice none 0 0, .slice none 0 0, .slice none 0 0, .slice none 0 0, .slice none 0 0, .slice none 0 0, .slice none 0 0], .int .i64 0, .int .i64 0], []⟩).memory :=
  laidMet_of_run' 8 (by kernel_rfl) (by kernel_rfl)
theorem reads (os : Os) {H : Type} (enc : TypeId × Value → H) : ∃ places, DataW.whole enc Tryz.prog (({ World.holding Tryz.prog os ⟨#[.cells #[.string lacksS] 247], #[], []⟩ with heap := laidHeap (World.holding Tryz.prog os ⟨#[], #[], []⟩).heap.size (World.holding Tryz.prog os ⟨#[.cells #[.string lacksS] 247], #[], []⟩).heap } : World).forCall (fun _ _ => 0) ⟨#[], #[.agg #[.slice none 0 0, .slice none 0 0, .slice none 0 0, .slice none 0 0, .slice none 0 0, .slice none 0 0, .slice none 0 0], .int .i64 0, .int .i64 0], []⟩).memory Tryz.f3.params.toList Rows.fnExactHoldersSpec.vars false (#[.agg #[.slice none 0 0, .slice none 0 0, .slice none 0 0, .slice none 0 0, .slice none 0 0, .slice none 0 0, .slice none 0 0], .int .i64 0, .int .i64 0] : Array Value).toList 8 = some ([.agg [.agg [.nil, .nil, .nil], .nil, .nil, .nil, .nil], .lit (.int .i64 0), .lit (.int .i64 0)], [Rows.laid_loop_example_g00761_impl_kindSizes, .held (enc (233, .pointer (some ⟨(World.holding Tryz.prog os ⟨#[], #[], []⟩).heap.size, 0, none⟩))), Rows.laid_loop_example_g00761_impl_halfSums], places) :=
  ⟨MemPlace.row ⟨0, 0, none⟩ 6 ++ (MemPlace.row ⟨1, 0, none⟩ 1 ++ MemPlace.row ⟨2, 0, none⟩ 16), by kernel_rfl⟩

set_option maxRecDepth 100000 in
theorem lifted (os : Os) (started : os.Started) (H : Type) (enc : TypeId × Value → H) (F : Stop.Interp) :
    ReturnsInHanded {} Tryz.checked os 3 .any ((OpenSpec.ofChange Rows.fnExactHoldersSpec).preRow enc Tryz.prog Tryz.f3 Rows.fnExactHoldersRow.domain false Rows.fnExactHoldersRow.laid) (((OpenSpec.ofChange Rows.fnExactHoldersSpec).at F).post enc Tryz.prog Tryz.f3 false true false false) := by
  obtain ⟨places, hx⟩ := reads os enc
  refine returnsInHanded_of_row (C := Tryz.checked) (s := OpenSpec.ofChange Rows.fnExactHoldersSpec) own started (by kernel_rfl) Tryz.func3
    (witness_row_at (enc := enc) (C := Tryz.checked) false ({ World.holding Tryz.prog os ⟨#[.cells #[.string lacksS] 247], #[], []⟩ with heap := laidHeap (World.holding Tryz.prog os ⟨#[], #[], []⟩).heap.size (World.holding Tryz.prog os ⟨#[.cells #[.string lacksS] 247], #[], []⟩).heap } : World) #[.agg #[.slice none 0 0, .slice none 0 0, .slice none 0 0, .slice none 0 0, .slice none 0 0, .slice none 0 0, .slice none 0 0], .int .i64 0, .int .i64 0] rfl (by kernel_rfl) (by kernel_rfl) (by kernel_rfl)
      (OpenSpec.preRow_of_cond 8 hx (by kernel_rfl) (fun k hk => by cases hk) (by kernel_rfl) (laid_met os))) ?_
  intro W base args ds gs before hval hW _ _ _ hL _ _
  exact contract H enc W base args ds gs before hval hW hL

theorem said : Rows.FnExactHoldersSaid :=
  OpenClaim.holds_of_cond 3 Tryz.f3 rfl rfl rfl rfl rfl rfl rfl ⟨rfl, rfl, rfl, rfl, rfl⟩ rfl rfl rfl rfl rfl (by kernel_rfl) Tryz.func3 (by kernel_rfl)
    (of_decide_eq_true (by kernel_rfl)) (by unfold Func.isWrapper; first | (rw [if_pos (by decide +kernel)]; kernel_rfl) | (rw [if_neg (by decide +kernel)]; exact ⟨rfl, rfl⟩))
    (fun os started H enc _ F => by rw [OpenClaim.pre_eq_preRow]; exact lifted os started H enc F)

/-- No parameter wants a stand-in; the program's own looks are off. -/
theorem plain (f : FuncId) (fn : Func) (hf : Tryz.pinned.checked.prog.funcNamed "loop.example/g00761/laws.FnExactHolders" = some f) (hfn : Tryz.pinned.checked.prog.funcs[f]? = some fn) :
    false = Tryz.pinned.checked.prog.looks [] ∧ ∀ (j : Nat) t, fn.params[j]? = some t → Tryz.pinned.checked.prog.wantsStandIn t = false := by
  obtain rfl : f = 3 := Option.some.inj ((show Tryz.prog.funcNamed "loop.example/g00761/laws.FnExactHolders" = some 3 by kernel_rfl).symm.trans hf) |>.symm
  obtain rfl : fn = Tryz.f3 := (Option.some.inj (Tryz.func3.symm.trans hfn)).symm
  refine ⟨by kernel_rfl, fun j t ht => ?_⟩
  rw [Tryz.params3] at ht
  have hm : t = 31 ∨ t = 3 := by simpa using Array.mem_of_getElem? ht
  rcases hm with rfl | rfl
  · exact (show Tryz.prog.wantsStandIn 31 = false by kernel_rfl)
  · exact (show Tryz.prog.wantsStandIn 3 = false by kernel_rfl)

/-- The given card. -/
theorem card : Rows.FnExactHoldersCardSaid :=
  Claim7.holds_tied_plain_at .later [] _ _ _ _ said (fun _ h => by cases h) (by kernel_rfl) (fun _ h => by cases h) fnExactHolders_row_tie rfl ⟨rfl, rfl⟩ (by kernel_rfl) rfl plain (by kernel_rfl)
#print axioms card
end Go.Proofs.YtogebppolkfldaaGreatDoor.fnExactHolders


