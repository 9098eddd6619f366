/-
  NARROWER THAN 'FOR EVERY INPUT', by the rows' own cells (each row's printed sentence says how): FnRedo: ifaces, laid · FnExactMakePlan: laid · FnExactRedo: ifaces, laid · FnExactSettle: ifaces, laid.
  DERIVED. THE GIVEN ROWS OF THIS SEAT. 4 by the template 'for every input the law returns true; each argument reads behind the call as it read before'; 0 by the template 'total and deterministic' (their statements: YtjlkighikfgaeaaGreatDoorTotals.lean).
  GIVEN WITH THE SEED: the statements are not yours to turn. If you find one false, say at which input.
  Laid BY PROGRAM, IN A SANDBOX (cutbox-rows.mjs): the forced cells as the released guide's own fill.sh prints them over the translation dd04359e819af5a7… (all of the seat's roots in one cut). By AI agents, Wed Nov 11 2026. No macro, syntax, notation, axiom, sorry.
-/
import Derived.Test.YtjlkighikfgaeaaGreatDoorChecked
import GoSem.Claim
import GoSem.ClaimJoined
import GoSem.ClaimMapViews
import Derived.JoinedTies
import Derived.KernelRfl
namespace Go.Proofs.YtjlkighikfgaeaaGreatDoor
/- THE CELL 'sum', in the pinned program and in every row, IS THE sha256 OF THE DUMP (.gsa) THAT YtjlkighikfgaeaaGreatDoorProg.lean LOADS. Nothing in Lean hashes anything: it is a label: what it is worth is what the hold of that sum in a sandbox is worth. -/
noncomputable def Tryz.pinned : Pinned := { name := "ytjlkighikfgaeaagreatdoor", sum := "dd04359e819af5a75e6fee47cfff0d9ba6a1752a3978b56314aea4386d8b8e43", checked := Tryz.checked }
namespace Rows
def none {H : Type} : Left H := { results := [], args := [] }

/- WHAT THE LISTED PACKAGE-LEVEL VARIABLES READ AS WHEN THE CALL BEGINS. Each datum BY PROGRAM (the guide's laid-datum.mjs) off the statement by which the dump's own 'gosem.cut.vars' lays the variable. In a bare row this is a premise. The card (YtjlkighikfgaeaaGreatDoorCards.lean) ties it to the program's text. -/
def laid_loop_example_g00761_impl_halfSums {H : Type} : DataW H := .agg [.lit (.int .u32 0), .lit (.int .u32 274646895), .lit (.int .u32 549293790), .lit (.int .u32 820201905), .lit (.int .u32 1098587580), .lit (.int .u32 1361435347), .lit (.int .u32 1640403810), .lit (.int .u32 1905808397), .lit (.int .u32 2197175160), .lit (.int .u32 2460548119), .lit (.int .u32 2722870694), .lit (.int .u32 2987750089), .lit (.int .u32 3280807620), .lit (.int .u32 3553878443), .lit (.int .u32 3811616794), .lit (.int .u32 4084100981)]
def laid_loop_example_g00761_impl_kindSizes {H : Type} : DataW H := .agg [.lit (.int .i64 3), .lit (.int .i64 3), .lit (.int .i64 3), .lit (.int .i64 4), .lit (.int .i64 3), .lit (.int .i64 18)]
def laid_loop_example_g00761_impl_errPartLacks {H : Type} : DataW H := .iface "*errors.errorString" (.ptr (.agg [.lit (.string [97, 32, 112, 97, 114, 116, 32, 108, 97, 99, 107, 115])]))

/-- 'laws.FnRedo': WHATEVER THE INPUT: true; the input reads as it did. -/
def fnRedoSpec : ChangeSpec := { name := "fnRedo", vars := ["loop.example/g00761/impl.kindSizes", "loop.example/g00761/impl.errPartLacks", "loop.example/g00761/impl.halfSums"], fn := fun _ => fun
  | [d, g1, g2, g3] => { results := [.lit (.bool true)], args := [d], vars := [g1, g2, g3] }
  | _ => none }
def fnRedoRow : OpenClaim := { program := "ytjlkighikfgaeaagreatdoor", sum := "dd04359e819af5a75e6fee47cfff0d9ba6a1752a3978b56314aea4386d8b8e43", func := "loop.example/g00761/laws.FnRedo", spec := "fnRedo", inPlace := ["internal/abi.NoEscape"], unfollowed := true, recurses := true, named := ["loop.example/g00761/impl.kindSizes", "loop.example/g00761/impl.errPartLacks", "loop.example/g00761/impl.halfSums"], ifaces := true, apart := false, laid := [("loop.example/g00761/impl.halfSums", laid_loop_example_g00761_impl_halfSums), ("loop.example/g00761/impl.kindSizes", laid_loop_example_g00761_impl_kindSizes), ("loop.example/g00761/impl.errPartLacks", laid_loop_example_g00761_impl_errPartLacks)] }
def FnRedoSaid : Prop := fnRedoRow.holds Tryz.pinned (OpenSpec.ofChange fnRedoSpec)

/-- ITS FALSE NEIGHBOUR: 'it returns false'. Refute it at one input. -/
def fnRedoWrong : ChangeSpec := { name := "fnRedo", vars := ["loop.example/g00761/impl.kindSizes", "loop.example/g00761/impl.errPartLacks", "loop.example/g00761/impl.halfSums"], fn := fun _ => fun
  | [d, g1, g2, g3] => { results := [.lit (.bool false)], args := [d], vars := [g1, g2, g3] }
  | _ => none }
def FnRedoWrongFalsely : Prop := fnRedoRow.holds Tryz.pinned (OpenSpec.ofChange fnRedoWrong)

/-- 'laws.FnExactMakePlan': WHATEVER THE INPUT: true; the input reads as it did. -/
def fnExactMakePlanSpec : ChangeSpec := { name := "fnExactMakePlan", vars := ["loop.example/g00761/impl.kindSizes", "loop.example/g00761/impl.halfSums"], fn := fun _ => fun
  | [d1, d2, g1, g2] => { results := [.lit (.bool true)], args := [d1, d2], vars := [g1, g2] }
  | _ => none }
def fnExactMakePlanRow : OpenClaim := { program := "ytjlkighikfgaeaagreatdoor", sum := "dd04359e819af5a75e6fee47cfff0d9ba6a1752a3978b56314aea4386d8b8e43", func := "loop.example/g00761/laws.FnExactMakePlan", spec := "fnExactMakePlan", inPlace := ["internal/abi.NoEscape"], named := ["loop.example/g00761/impl.kindSizes", "loop.example/g00761/impl.halfSums"], apart := false, laid := [("loop.example/g00761/impl.halfSums", laid_loop_example_g00761_impl_halfSums), ("loop.example/g00761/impl.kindSizes", laid_loop_example_g00761_impl_kindSizes)] }
def FnExactMakePlanSaid : Prop := fnExactMakePlanRow.holds Tryz.pinned (OpenSpec.ofChange fnExactMakePlanSpec)

/-- ITS FALSE NEIGHBOUR: 'it returns false'. Refute it at one input. -/
def fnExactMakePlanWrong : ChangeSpec := { name := "fnExactMakePlan", vars := ["loop.example/g00761/impl.kindSizes", "loop.example/g00761/impl.halfSums"], fn := fun _ => fun
  | [d1, d2, g1, g2] => { results := [.lit (.bool false)], args := [d1, d2], vars := [g1, g2] }
  | _ => none }
def FnExactMakePlanWrongFalsely : Prop := fnExactMakePlanRow.holds Tryz.pinned (OpenSpec.ofChange fnExactMakePlanWrong)

/-- 'laws.FnExactRedo': WHATEVER THE INPUT: true; the input reads as it did. -/
def fnExactRedoSpec : ChangeSpec := { name := "fnExactRedo", vars := ["loop.example/g00761/impl.kindSizes", "loop.example/g00761/impl.errPartLacks", "loop.example/g00761/impl.halfSums"], fn := fun _ => fun
  | [d1, d2, g1, g2, g3] => { results := [.lit (.bool true)], args := [d1, d2], vars := [g1, g2, g3] }
  | _ => none }
def fnExactRedoRow : OpenClaim := { program := "ytjlkighikfgaeaagreatdoor", sum := "dd04359e819af5a75e6fee47cfff0d9ba6a1752a3978b56314aea4386d8b8e43", func := "loop.example/g00761/laws.FnExactRedo", spec := "fnExactRedo", inPlace := ["internal/abi.NoEscape"], unfollowed := true, recurses := true, named := ["loop.example/g00761/impl.kindSizes", "loop.example/g00761/impl.errPartLacks", "loop.example/g00761/impl.halfSums"], ifaces := true, apart := false, laid := [("loop.example/g00761/impl.halfSums", laid_loop_example_g00761_impl_halfSums), ("loop.example/g00761/impl.kindSizes", laid_loop_example_g00761_impl_kindSizes), ("loop.example/g00761/impl.errPartLacks", laid_loop_example_g00761_impl_errPartLacks)] }
def FnExactRedoSaid : Prop := fnExactRedoRow.holds Tryz.pinned (OpenSpec.ofChange fnExactRedoSpec)

/-- ITS FALSE NEIGHBOUR: 'it returns false'. Refute it at one input. -/
def fnExactRedoWrong : ChangeSpec := { name := "fnExactRedo", vars := ["loop.example/g00761/impl.kindSizes", "loop.example/g00761/impl.errPartLacks", "loop.example/g00761/impl.halfSums"], fn := fun _ => fun
  | [d1, d2, g1, g2, g3] => { results := [.lit (.bool false)], args := [d1, d2], vars := [g1, g2, g3] }
  | _ => none }
def FnExactRedoWrongFalsely : Prop := fnExactRedoRow.holds Tryz.pinned (OpenSpec.ofChange fnExactRedoWrong)

/-- 'laws.FnExactSettle': WHATEVER THE INPUT: true; the input reads as it did. -/
def fnExactSettleSpec : ChangeSpec := { name := "fnExactSettle", vars := ["loop.example/g00761/impl.kindSizes", "loop.example/g00761/impl.errPartLacks", "loop.example/g00761/impl.halfSums"], fn := fun _ => fun
  | [d, g1, g2, g3] => { results := [.lit (.bool true)], args := [d], vars := [g1, g2, g3] }
  | _ => none }
def fnExactSettleRow : OpenClaim := { program := "ytjlkighikfgaeaagreatdoor", sum := "dd04359e819af5a75e6fee47cfff0d9ba6a1752a3978b56314aea4386d8b8e43", func := "loop.example/g00761/laws.FnExactSettle", spec := "fnExactSettle", inPlace := ["internal/abi.NoEscape"], unfollowed := true, recurses := true, named := ["loop.example/g00761/impl.kindSizes", "loop.example/g00761/impl.errPartLacks", "loop.example/g00761/impl.halfSums"], ifaces := true, apart := false, laid := [("loop.example/g00761/impl.halfSums", laid_loop_example_g00761_impl_halfSums), ("loop.example/g00761/impl.kindSizes", laid_loop_example_g00761_impl_kindSizes), ("loop.example/g00761/impl.errPartLacks", laid_loop_example_g00761_impl_errPartLacks)] }
def FnExactSettleSaid : Prop := fnExactSettleRow.holds Tryz.pinned (OpenSpec.ofChange fnExactSettleSpec)

/-- ITS FALSE NEIGHBOUR: 'it returns false'. Refute it at one input. -/
def fnExactSettleWrong : ChangeSpec := { name := "fnExactSettle", vars := ["loop.example/g00761/impl.kindSizes", "loop.example/g00761/impl.errPartLacks", "loop.example/g00761/impl.halfSums"], fn := fun _ => fun
  | [d, g1, g2, g3] => { results := [.lit (.bool false)], args := [d], vars := [g1, g2, g3] }
  | _ => none }
def FnExactSettleWrongFalsely : Prop := fnExactSettleRow.holds Tryz.pinned (OpenSpec.ofChange fnExactSettleWrong)

/- THE SECOND FORM. 'bulk': how many values and letters a reading holds, each counted each time it is reached (what is shared counts as often as it is met; a slice's spare places count too). A statement '..UptoSaid' is the law's where the arguments, and the package variables that the reading takes, are together of bulk at most 1048576: NARROWER than '..Said'. Prove '..Said' where nothing that the law and all that it calls make is longer than what came in: it says more and counts as full. Else prove '..UptoSaid'. A law counts once. -/
mutual
def uptoBulk {H : Type} : DataW H → Nat
  | .lit (.string bytes) => bytes.length + 1
  | .lit _ => 1
  | .nil => 1
  | .ptr d => uptoBulk d + 1
  | .slice elems spare => uptoBulkAll elems + uptoBulkAll spare + 1
  | .agg parts => uptoBulkAll parts + 1
  | .iface _ d => uptoBulk d + 1
  | .map entries => uptoBulkEntries entries + 1
  | .held _ => 1
def uptoBulkAll {H : Type} : List (DataW H) → Nat
  | [] => 0
  | d :: r => uptoBulk d + uptoBulkAll r
def uptoBulkEntries {H : Type} : List (Lit × DataW H) → Nat
  | [] => 0
  | x :: r => uptoBulkEntry x + uptoBulkEntries r
def uptoBulkEntry {H : Type} : Lit × DataW H → Nat
  | (.string bytes, d) => bytes.length + uptoBulk d + 1
  | (_, d) => uptoBulk d + 1
 end
def uptoSmall : (H : Type) → List (DataW H) → Bool := fun _ ds => decide (uptoBulkAll ds ≤ 1048576)
def OpenSpec.upto (s : _root_.Go.ChangeSpec) : _root_.Go.OpenSpec := { _root_.Go.OpenSpec.ofChange s with cond := some uptoSmall }

/-- 'laws.FnRedo', WHERE WHAT IT READS IS OF BULK AT MOST 1048576: true; the input reads as it did. -/
def fnRedoUptoRow : OpenClaim := { program := "ytjlkighikfgaeaagreatdoor", sum := "dd04359e819af5a75e6fee47cfff0d9ba6a1752a3978b56314aea4386d8b8e43", func := "loop.example/g00761/laws.FnRedo", spec := "fnRedo", inPlace := ["internal/abi.NoEscape"], unfollowed := true, recurses := true, named := ["loop.example/g00761/impl.kindSizes", "loop.example/g00761/impl.errPartLacks", "loop.example/g00761/impl.halfSums"], ifaces := true, apart := false, laid := [("loop.example/g00761/impl.halfSums", laid_loop_example_g00761_impl_halfSums), ("loop.example/g00761/impl.kindSizes", laid_loop_example_g00761_impl_kindSizes), ("loop.example/g00761/impl.errPartLacks", laid_loop_example_g00761_impl_errPartLacks)], narrowed := true }
def FnRedoUptoSaid : Prop := fnRedoUptoRow.holds Tryz.pinned (OpenSpec.upto fnRedoSpec)

/-- 'laws.FnExactMakePlan', WHERE WHAT IT READS IS OF BULK AT MOST 1048576: true; the input reads as it did. -/
def fnExactMakePlanUptoRow : OpenClaim := { program := "ytjlkighikfgaeaagreatdoor", sum := "dd04359e819af5a75e6fee47cfff0d9ba6a1752a3978b56314aea4386d8b8e43", func := "loop.example/g00761/laws.FnExactMakePlan", spec := "fnExactMakePlan", inPlace := ["internal/abi.NoEscape"], named := ["loop.example/g00761/impl.kindSizes", "loop.example/g00761/impl.halfSums"], apart := false, laid := [("loop.example/g00761/impl.halfSums", laid_loop_example_g00761_impl_halfSums), ("loop.example/g00761/impl.kindSizes", laid_loop_example_g00761_impl_kindSizes)], narrowed := true }
def FnExactMakePlanUptoSaid : Prop := fnExactMakePlanUptoRow.holds Tryz.pinned (OpenSpec.upto fnExactMakePlanSpec)

/-- 'laws.FnExactRedo', WHERE WHAT IT READS IS OF BULK AT MOST 1048576: true; the input reads as it did. -/
def fnExactRedoUptoRow : OpenClaim := { program := "ytjlkighikfgaeaagreatdoor", sum := "dd04359e819af5a75e6fee47cfff0d9ba6a1752a3978b56314aea4386d8b8e43", func := "loop.example/g00761/laws.FnExactRedo", spec := "fnExactRedo", inPlace := ["internal/abi.NoEscape"], unfollowed := true, recurses := true, named := ["loop.example/g00761/impl.kindSizes", "loop.example/g00761/impl.errPartLacks", "loop.example/g00761/impl.halfSums"], ifaces := true, apart := false, laid := [("loop.example/g00761/impl.halfSums", laid_loop_example_g00761_impl_halfSums), ("loop.example/g00761/impl.kindSizes", laid_loop_example_g00761_impl_kindSizes), ("loop.example/g00761/impl.errPartLacks", laid_loop_example_g00761_impl_errPartLacks)], narrowed := true }
def FnExactRedoUptoSaid : Prop := fnExactRedoUptoRow.holds Tryz.pinned (OpenSpec.upto fnExactRedoSpec)

/-- 'laws.FnExactSettle', WHERE WHAT IT READS IS OF BULK AT MOST 1048576: true; the input reads as it did. -/
def fnExactSettleUptoRow : OpenClaim := { program := "ytjlkighikfgaeaagreatdoor", sum := "dd04359e819af5a75e6fee47cfff0d9ba6a1752a3978b56314aea4386d8b8e43", func := "loop.example/g00761/laws.FnExactSettle", spec := "fnExactSettle", inPlace := ["internal/abi.NoEscape"], unfollowed := true, recurses := true, named := ["loop.example/g00761/impl.kindSizes", "loop.example/g00761/impl.errPartLacks", "loop.example/g00761/impl.halfSums"], ifaces := true, apart := false, laid := [("loop.example/g00761/impl.halfSums", laid_loop_example_g00761_impl_halfSums), ("loop.example/g00761/impl.kindSizes", laid_loop_example_g00761_impl_kindSizes), ("loop.example/g00761/impl.errPartLacks", laid_loop_example_g00761_impl_errPartLacks)], narrowed := true }
def FnExactSettleUptoSaid : Prop := fnExactSettleUptoRow.holds Tryz.pinned (OpenSpec.upto fnExactSettleSpec)

end Rows
end Go.Proofs.YtjlkighikfgaeaaGreatDoor
