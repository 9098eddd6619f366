/-
  NARROWER THAN 'FOR EVERY INPUT', by the rows' own cells (each row's printed sentence says how): FnExactReadVol: ifaces, laid · FnExactShowGroup: laid · FnExactReadGroup: ifaces, laid · FnExactShowHost: laid · FnExactReadHost: ifaces, laid · FnExactShowFrees: laid.
  DERIVED. THE GIVEN ROWS OF THIS SEAT. 6 by the template 'for every input the law returns true; each argument reads behind the call as it read before'; 0 by the template 'total and deterministic' (their statements: YtaefafcecnpdaalDoorTotals.lean).
  GIVEN WITH THE SEED: the statements are not yours to turn. If you find one false, say at which input.
  Laid BY PROGRAM, IN A SANDBOX (cutbox-rows.mjs): the forced cells as the released guide's own fill.sh prints them over the translation 171576aa85e6d860… (all of the seat's roots in one cut). By AI agents, Wed Nov 11 2026. No macro, syntax, notation, axiom, sorry.
-/
import Derived.Test.YtaefafcecnpdaalDoorChecked
import GoSem.Claim
import GoSem.ClaimJoined
import GoSem.ClaimMapViews
import Derived.JoinedTies
import Derived.KernelRfl
namespace Go.Proofs.YtaefafcecnpdaalDoor
/- THE CELL 'sum', in the pinned program and in every row, IS THE sha256 OF THE DUMP (.gsa) THAT YtaefafcecnpdaalDoorProg.lean LOADS. Nothing in Lean hashes anything: it is a label: what it is worth is what the hold of that sum in a sandbox is worth. -/
noncomputable def Tryd.pinned : Pinned := { name := "ytaefafcecnpdaaldoor", sum := "171576aa85e6d8608cb9d16f79040d42a276a5017d04130f3269f7fcec253208", checked := Tryd.checked }
namespace Rows
def none {H : Type} : Left H := { results := [], args := [] }

/- WHAT THE LISTED PACKAGE-LEVEL VARIABLES READ AS WHEN THE CALL BEGINS. Each datum BY PROGRAM (the guide's laid-datum.mjs) off the statement by which the dump's own 'gosem.cut.vars' lays the variable. In a bare row this is a premise. The card (YtaefafcecnpdaalDoorCards.lean) ties it to the program's text. -/
def laid_loop_example_g00761_impl_halfSums {H : Type} : DataW H := .agg [.lit (.int .u32 0), .lit (.int .u32 274646895), .lit (.int .u32 549293790), .lit (.int .u32 820201905), .lit (.int .u32 1098587580), .lit (.int .u32 1361435347), .lit (.int .u32 1640403810), .lit (.int .u32 1905808397), .lit (.int .u32 2197175160), .lit (.int .u32 2460548119), .lit (.int .u32 2722870694), .lit (.int .u32 2987750089), .lit (.int .u32 3280807620), .lit (.int .u32 3553878443), .lit (.int .u32 3811616794), .lit (.int .u32 4084100981)]
def laid_loop_example_g00761_impl_errPartLacks {H : Type} : DataW H := .iface "*errors.errorString" (.ptr (.agg [.lit (.string [97, 32, 112, 97, 114, 116, 32, 108, 97, 99, 107, 115])]))

/-- 'laws.FnExactReadVol': WHATEVER THE INPUT: true; the input reads as it did. -/
def fnExactReadVolSpec : ChangeSpec := { name := "fnExactReadVol", vars := ["loop.example/g00761/impl.errPartLacks", "loop.example/g00761/impl.halfSums"], fn := fun _ => fun
  | [d, g1, g2] => { results := [.lit (.bool true)], args := [d], vars := [g1, g2] }
  | _ => none }
def fnExactReadVolRow : OpenClaim := { program := "ytaefafcecnpdaaldoor", sum := "171576aa85e6d8608cb9d16f79040d42a276a5017d04130f3269f7fcec253208", func := "loop.example/g00761/laws.FnExactReadVol", spec := "fnExactReadVol", inPlace := ["internal/abi.NoEscape"], unfollowed := true, recurses := true, named := ["loop.example/g00761/impl.errPartLacks", "loop.example/g00761/impl.halfSums"], ifaces := true, apart := false, laid := [("loop.example/g00761/impl.halfSums", laid_loop_example_g00761_impl_halfSums), ("loop.example/g00761/impl.errPartLacks", laid_loop_example_g00761_impl_errPartLacks)] }
def FnExactReadVolSaid : Prop := fnExactReadVolRow.holds Tryd.pinned (OpenSpec.ofChange fnExactReadVolSpec)

/-- ITS FALSE NEIGHBOUR: 'it returns false'. Refute it at one input. -/
def fnExactReadVolWrong : ChangeSpec := { name := "fnExactReadVol", vars := ["loop.example/g00761/impl.errPartLacks", "loop.example/g00761/impl.halfSums"], fn := fun _ => fun
  | [d, g1, g2] => { results := [.lit (.bool false)], args := [d], vars := [g1, g2] }
  | _ => none }
def FnExactReadVolWrongFalsely : Prop := fnExactReadVolRow.holds Tryd.pinned (OpenSpec.ofChange fnExactReadVolWrong)

/-- 'laws.FnExactShowGroup': WHATEVER THE INPUT: true; the input reads as it did. -/
def fnExactShowGroupSpec : ChangeSpec := { name := "fnExactShowGroup", vars := ["loop.example/g00761/impl.halfSums"], fn := fun _ => fun
  | [d, g1] => { results := [.lit (.bool true)], args := [d], vars := [g1] }
  | _ => none }
def fnExactShowGroupRow : OpenClaim := { program := "ytaefafcecnpdaaldoor", sum := "171576aa85e6d8608cb9d16f79040d42a276a5017d04130f3269f7fcec253208", func := "loop.example/g00761/laws.FnExactShowGroup", spec := "fnExactShowGroup", inPlace := ["internal/abi.NoEscape"], named := ["loop.example/g00761/impl.halfSums"], apart := false, laid := [("loop.example/g00761/impl.halfSums", laid_loop_example_g00761_impl_halfSums)] }
def FnExactShowGroupSaid : Prop := fnExactShowGroupRow.holds Tryd.pinned (OpenSpec.ofChange fnExactShowGroupSpec)

/-- ITS FALSE NEIGHBOUR: 'it returns false'. Refute it at one input. -/
def fnExactShowGroupWrong : ChangeSpec := { name := "fnExactShowGroup", vars := ["loop.example/g00761/impl.halfSums"], fn := fun _ => fun
  | [d, g1] => { results := [.lit (.bool false)], args := [d], vars := [g1] }
  | _ => none }
def FnExactShowGroupWrongFalsely : Prop := fnExactShowGroupRow.holds Tryd.pinned (OpenSpec.ofChange fnExactShowGroupWrong)

/-- 'laws.FnExactReadGroup': WHATEVER THE INPUT: true; the input reads as it did. -/
def fnExactReadGroupSpec : ChangeSpec := { name := "fnExactReadGroup", vars := ["loop.example/g00761/impl.errPartLacks", "loop.example/g00761/impl.halfSums"], fn := fun _ => fun
  | [d, g1, g2] => { results := [.lit (.bool true)], args := [d], vars := [g1, g2] }
  | _ => none }
def fnExactReadGroupRow : OpenClaim := { program := "ytaefafcecnpdaaldoor", sum := "171576aa85e6d8608cb9d16f79040d42a276a5017d04130f3269f7fcec253208", func := "loop.example/g00761/laws.FnExactReadGroup", spec := "fnExactReadGroup", inPlace := ["internal/abi.NoEscape"], unfollowed := true, recurses := true, named := ["loop.example/g00761/impl.errPartLacks", "loop.example/g00761/impl.halfSums"], ifaces := true, apart := false, laid := [("loop.example/g00761/impl.halfSums", laid_loop_example_g00761_impl_halfSums), ("loop.example/g00761/impl.errPartLacks", laid_loop_example_g00761_impl_errPartLacks)] }
def FnExactReadGroupSaid : Prop := fnExactReadGroupRow.holds Tryd.pinned (OpenSpec.ofChange fnExactReadGroupSpec)

/-- ITS FALSE NEIGHBOUR: 'it returns false'. Refute it at one input. -/
def fnExactReadGroupWrong : ChangeSpec := { name := "fnExactReadGroup", vars := ["loop.example/g00761/impl.errPartLacks", "loop.example/g00761/impl.halfSums"], fn := fun _ => fun
  | [d, g1, g2] => { results := [.lit (.bool false)], args := [d], vars := [g1, g2] }
  | _ => none }
def FnExactReadGroupWrongFalsely : Prop := fnExactReadGroupRow.holds Tryd.pinned (OpenSpec.ofChange fnExactReadGroupWrong)

/-- 'laws.FnExactShowHost': WHATEVER THE INPUT: true; the input reads as it did. -/
def fnExactShowHostSpec : ChangeSpec := { name := "fnExactShowHost", vars := ["loop.example/g00761/impl.halfSums"], fn := fun _ => fun
  | [d, g1] => { results := [.lit (.bool true)], args := [d], vars := [g1] }
  | _ => none }
def fnExactShowHostRow : OpenClaim := { program := "ytaefafcecnpdaaldoor", sum := "171576aa85e6d8608cb9d16f79040d42a276a5017d04130f3269f7fcec253208", func := "loop.example/g00761/laws.FnExactShowHost", spec := "fnExactShowHost", named := ["loop.example/g00761/impl.halfSums"], apart := false, laid := [("loop.example/g00761/impl.halfSums", laid_loop_example_g00761_impl_halfSums)] }
def FnExactShowHostSaid : Prop := fnExactShowHostRow.holds Tryd.pinned (OpenSpec.ofChange fnExactShowHostSpec)

/-- ITS FALSE NEIGHBOUR: 'it returns false'. Refute it at one input. -/
def fnExactShowHostWrong : ChangeSpec := { name := "fnExactShowHost", vars := ["loop.example/g00761/impl.halfSums"], fn := fun _ => fun
  | [d, g1] => { results := [.lit (.bool false)], args := [d], vars := [g1] }
  | _ => none }
def FnExactShowHostWrongFalsely : Prop := fnExactShowHostRow.holds Tryd.pinned (OpenSpec.ofChange fnExactShowHostWrong)

/-- 'laws.FnExactReadHost': WHATEVER THE INPUT: true; the input reads as it did. -/
def fnExactReadHostSpec : ChangeSpec := { name := "fnExactReadHost", vars := ["loop.example/g00761/impl.errPartLacks", "loop.example/g00761/impl.halfSums"], fn := fun _ => fun
  | [d, g1, g2] => { results := [.lit (.bool true)], args := [d], vars := [g1, g2] }
  | _ => none }
def fnExactReadHostRow : OpenClaim := { program := "ytaefafcecnpdaaldoor", sum := "171576aa85e6d8608cb9d16f79040d42a276a5017d04130f3269f7fcec253208", func := "loop.example/g00761/laws.FnExactReadHost", spec := "fnExactReadHost", unfollowed := true, recurses := true, named := ["loop.example/g00761/impl.errPartLacks", "loop.example/g00761/impl.halfSums"], ifaces := true, apart := false, laid := [("loop.example/g00761/impl.halfSums", laid_loop_example_g00761_impl_halfSums), ("loop.example/g00761/impl.errPartLacks", laid_loop_example_g00761_impl_errPartLacks)] }
def FnExactReadHostSaid : Prop := fnExactReadHostRow.holds Tryd.pinned (OpenSpec.ofChange fnExactReadHostSpec)

/-- ITS FALSE NEIGHBOUR: 'it returns false'. Refute it at one input. -/
def fnExactReadHostWrong : ChangeSpec := { name := "fnExactReadHost", vars := ["loop.example/g00761/impl.errPartLacks", "loop.example/g00761/impl.halfSums"], fn := fun _ => fun
  | [d, g1, g2] => { results := [.lit (.bool false)], args := [d], vars := [g1, g2] }
  | _ => none }
def FnExactReadHostWrongFalsely : Prop := fnExactReadHostRow.holds Tryd.pinned (OpenSpec.ofChange fnExactReadHostWrong)

/-- 'laws.FnExactShowFrees': WHATEVER THE INPUT: true; the input reads as it did. -/
def fnExactShowFreesSpec : ChangeSpec := { name := "fnExactShowFrees", vars := ["loop.example/g00761/impl.halfSums"], fn := fun _ => fun
  | [d, g1] => { results := [.lit (.bool true)], args := [d], vars := [g1] }
  | _ => none }
def fnExactShowFreesRow : OpenClaim := { program := "ytaefafcecnpdaaldoor", sum := "171576aa85e6d8608cb9d16f79040d42a276a5017d04130f3269f7fcec253208", func := "loop.example/g00761/laws.FnExactShowFrees", spec := "fnExactShowFrees", inPlace := ["internal/abi.NoEscape"], named := ["loop.example/g00761/impl.halfSums"], apart := false, laid := [("loop.example/g00761/impl.halfSums", laid_loop_example_g00761_impl_halfSums)] }
def FnExactShowFreesSaid : Prop := fnExactShowFreesRow.holds Tryd.pinned (OpenSpec.ofChange fnExactShowFreesSpec)

/-- ITS FALSE NEIGHBOUR: 'it returns false'. Refute it at one input. -/
def fnExactShowFreesWrong : ChangeSpec := { name := "fnExactShowFrees", vars := ["loop.example/g00761/impl.halfSums"], fn := fun _ => fun
  | [d, g1] => { results := [.lit (.bool false)], args := [d], vars := [g1] }
  | _ => none }
def FnExactShowFreesWrongFalsely : Prop := fnExactShowFreesRow.holds Tryd.pinned (OpenSpec.ofChange fnExactShowFreesWrong)

/- THE SECOND FORM. 'bulk': how many values and letters a reading holds, each counted each time it is reached (what is shared counts as often as it is met; a slice's spare places count too). A statement '..UptoSaid' is the law's where the arguments, and the package variables that the reading takes, are together of bulk at most 1048576: NARROWER than '..Said'. Prove '..Said' where nothing that the law and all that it calls make is longer than what came in: it says more and counts as full. Else prove '..UptoSaid'. A law counts once. -/
mutual
def uptoBulk {H : Type} : DataW H → Nat
  | .lit (.string bytes) => bytes.length + 1
  | .lit _ => 1
  | .nil => 1
  | .ptr d => uptoBulk d + 1
  | .slice elems spare => uptoBulkAll elems + uptoBulkAll spare + 1
  | .agg parts => uptoBulkAll parts + 1
  | .iface _ d => uptoBulk d + 1
  | .map entries => uptoBulkEntries entries + 1
  | .held _ => 1
def uptoBulkAll {H : Type} : List (DataW H) → Nat
  | [] => 0
  | d :: r => uptoBulk d + uptoBulkAll r
def uptoBulkEntries {H : Type} : List (Lit × DataW H) → Nat
  | [] => 0
  | x :: r => uptoBulkEntry x + uptoBulkEntries r
def uptoBulkEntry {H : Type} : Lit × DataW H → Nat
  | (.string bytes, d) => bytes.length + uptoBulk d + 1
  | (_, d) => uptoBulk d + 1
 end
def uptoSmall : (H : Type) → List (DataW H) → Bool := fun _ ds => decide (uptoBulkAll ds ≤ 1048576)
def OpenSpec.upto (s : _root_.Go.ChangeSpec) : _root_.Go.OpenSpec := { _root_.Go.OpenSpec.ofChange s with cond := some uptoSmall }

/-- 'laws.FnExactReadVol', WHERE WHAT IT READS IS OF BULK AT MOST 1048576: true; the input reads as it did. -/
def fnExactReadVolUptoRow : OpenClaim := { program := "ytaefafcecnpdaaldoor", sum := "171576aa85e6d8608cb9d16f79040d42a276a5017d04130f3269f7fcec253208", func := "loop.example/g00761/laws.FnExactReadVol", spec := "fnExactReadVol", inPlace := ["internal/abi.NoEscape"], unfollowed := true, recurses := true, named := ["loop.example/g00761/impl.errPartLacks", "loop.example/g00761/impl.halfSums"], ifaces := true, apart := false, laid := [("loop.example/g00761/impl.halfSums", laid_loop_example_g00761_impl_halfSums), ("loop.example/g00761/impl.errPartLacks", laid_loop_example_g00761_impl_errPartLacks)], narrowed := true }
def FnExactReadVolUptoSaid : Prop := fnExactReadVolUptoRow.holds Tryd.pinned (OpenSpec.upto fnExactReadVolSpec)

/-- 'laws.FnExactShowGroup', WHERE WHAT IT READS IS OF BULK AT MOST 1048576: true; the input reads as it did. -/
def fnExactShowGroupUptoRow : OpenClaim := { program := "ytaefafcecnpdaaldoor", sum := "171576aa85e6d8608cb9d16f79040d42a276a5017d04130f3269f7fcec253208", func := "loop.example/g00761/laws.FnExactShowGroup", spec := "fnExactShowGroup", inPlace := ["internal/abi.NoEscape"], named := ["loop.example/g00761/impl.halfSums"], apart := false, laid := [("loop.example/g00761/impl.halfSums", laid_loop_example_g00761_impl_halfSums)], narrowed := true }
def FnExactShowGroupUptoSaid : Prop := fnExactShowGroupUptoRow.holds Tryd.pinned (OpenSpec.upto fnExactShowGroupSpec)

/-- 'laws.FnExactReadGroup', WHERE WHAT IT READS IS OF BULK AT MOST 1048576: true; the input reads as it did. -/
def fnExactReadGroupUptoRow : OpenClaim := { program := "ytaefafcecnpdaaldoor", sum := "171576aa85e6d8608cb9d16f79040d42a276a5017d04130f3269f7fcec253208", func := "loop.example/g00761/laws.FnExactReadGroup", spec := "fnExactReadGroup", inPlace := ["internal/abi.NoEscape"], unfollowed := true, recurses := true, named := ["loop.example/g00761/impl.errPartLacks", "loop.example/g00761/impl.halfSums"], ifaces := true, apart := false, laid := [("loop.example/g00761/impl.halfSums", laid_loop_example_g00761_impl_halfSums), ("loop.example/g00761/impl.errPartLacks", laid_loop_example_g00761_impl_errPartLacks)], narrowed := true }
def FnExactReadGroupUptoSaid : Prop := fnExactReadGroupUptoRow.holds Tryd.pinned (OpenSpec.upto fnExactReadGroupSpec)

/-- 'laws.FnExactShowHost', WHERE WHAT IT READS IS OF BULK AT MOST 1048576: true; the input reads as it did. -/
def fnExactShowHostUptoRow : OpenClaim := { program := "ytaefafcecnpdaaldoor", sum := "171576aa85e6d8608cb9d16f79040d42a276a5017d04130f3269f7fcec253208", func := "loop.example/g00761/laws.FnExactShowHost", spec := "fnExactShowHost", named := ["loop.example/g00761/impl.halfSums"], apart := false, laid := [("loop.example/g00761/impl.halfSums", laid_loop_example_g00761_impl_halfSums)], narrowed := true }
def FnExactShowHostUptoSaid : Prop := fnExactShowHostUptoRow.holds Tryd.pinned (OpenSpec.upto fnExactShowHostSpec)

/-- 'laws.FnExactReadHost', WHERE WHAT IT READS IS OF BULK AT MOST 1048576: true; the input reads as it did. -/
def fnExactReadHostUptoRow : OpenClaim := { program := "ytaefafcecnpdaaldoor", sum := "171576aa85e6d8608cb9d16f79040d42a276a5017d04130f3269f7fcec253208", func := "loop.example/g00761/laws.FnExactReadHost", spec := "fnExactReadHost", unfollowed := true, recurses := true, named := ["loop.example/g00761/impl.errPartLacks", "loop.example/g00761/impl.halfSums"], ifaces := true, apart := false, laid := [("loop.example/g00761/impl.halfSums", laid_loop_example_g00761_impl_halfSums), ("loop.example/g00761/impl.errPartLacks", laid_loop_example_g00761_impl_errPartLacks)], narrowed := true }
def FnExactReadHostUptoSaid : Prop := fnExactReadHostUptoRow.holds Tryd.pinned (OpenSpec.upto fnExactReadHostSpec)

/-- 'laws.FnExactShowFrees', WHERE WHAT IT READS IS OF BULK AT MOST 1048576: true; the input reads as it did. -/
def fnExactShowFreesUptoRow : OpenClaim := { program := "ytaefafcecnpdaaldoor", sum := "171576aa85e6d8608cb9d16f79040d42a276a5017d04130f3269f7fcec253208", func := "loop.example/g00761/laws.FnExactShowFrees", spec := "fnExactShowFrees", inPlace := ["internal/abi.NoEscape"], named := ["loop.example/g00761/impl.halfSums"], apart := false, laid := [("loop.example/g00761/impl.halfSums", laid_loop_example_g00761_impl_halfSums)], narrowed := true }
def FnExactShowFreesUptoSaid : Prop := fnExactShowFreesUptoRow.holds Tryd.pinned (OpenSpec.upto fnExactShowFreesSpec)

end Rows
end Go.Proofs.YtaefafcecnpdaalDoor
