/-
  NARROWER THAN 'FOR EVERY INPUT', by the rows' own cells (each row's printed sentence says how): FnExactWorldOk: ifaces, laid · FnExactNewWorld: laid · FnExactSettled: ifaces, laid · FnExactHolders: ifaces, laid · FnExactExplain: ifaces, laid.
  DERIVED. THE GIVEN ROWS OF THIS SEAT. 5 by the template 'for every input the law returns true; each argument reads behind the call as it read before'; 0 by the template 'total and deterministic' (their statements: YtaopkchkhdbfnaaGreatDoorTotals.lean).
  GIVEN WITH THE SEED: the statements are not yours to turn. If you find one false, say at which input.
  Laid BY PROGRAM, IN A SANDBOX (cutbox-rows.mjs): the forced cells as the released guide's own fill.sh prints them over the translation 111dc669c5bde762… (all of the seat's roots in one cut). By AI agents, Wed Nov 11 2026. No macro, syntax, notation, axiom, sorry.
-/
import Derived.Test.YtaopkchkhdbfnaaGreatDoorChecked
import GoSem.Claim
import GoSem.ClaimJoined
import GoSem.ClaimMapViews
import Derived.JoinedTies
import Derived.KernelRfl
namespace Go.Proofs.YtaopkchkhdbfnaaGreatDoor
/- THE CELL 'sum', in the pinned program and in every row, IS THE sha256 OF THE DUMP (.gsa) THAT YtaopkchkhdbfnaaGreatDoorProg.lean LOADS. Nothing in Lean hashes anything: it is a label: what it is worth is what the hold of that sum in a sandbox is worth. -/
noncomputable def Tryz.pinned : Pinned := { name := "ytaopkchkhdbfnaagreatdoor", sum := "111dc669c5bde762445cfb7f9cefe6aa2def4482cb03dbcc5a8efd9b640e918a", checked := Tryz.checked }
namespace Rows
def none {H : Type} : Left H := { results := [], args := [] }

/- WHAT THE LISTED PACKAGE-LEVEL VARIABLES READ AS WHEN THE CALL BEGINS. Each datum BY PROGRAM (the guide's laid-datum.mjs) off the statement by which the dump's own 'gosem.cut.vars' lays the variable. In a bare row this is a premise. The card (YtaopkchkhdbfnaaGreatDoorCards.lean) ties it to the program's text. -/
def laid_loop_example_g00761_impl_halfSums {H : Type} : DataW H := .agg [.lit (.int .u32 0), .lit (.int .u32 274646895), .lit (.int .u32 549293790), .lit (.int .u32 820201905), .lit (.int .u32 1098587580), .lit (.int .u32 1361435347), .lit (.int .u32 1640403810), .lit (.int .u32 1905808397), .lit (.int .u32 2197175160), .lit (.int .u32 2460548119), .lit (.int .u32 2722870694), .lit (.int .u32 2987750089), .lit (.int .u32 3280807620), .lit (.int .u32 3553878443), .lit (.int .u32 3811616794), .lit (.int .u32 4084100981)]
def laid_loop_example_g00761_impl_kindSizes {H : Type} : DataW H := .agg [.lit (.int .i64 3), .lit (.int .i64 3), .lit (.int .i64 3), .lit (.int .i64 4), .lit (.int .i64 3), .lit (.int .i64 18)]
def laid_loop_example_g00761_impl_errPartLacks {H : Type} : DataW H := .iface "*errors.errorString" (.ptr (.agg [.lit (.string [97, 32, 112, 97, 114, 116, 32, 108, 97, 99, 107, 115])]))

/-- 'laws.FnExactWorldOk': WHATEVER THE INPUT: true; the input reads as it did. -/
def fnExactWorldOkSpec : ChangeSpec := { name := "fnExactWorldOk", vars := ["loop.example/g00761/impl.kindSizes", "loop.example/g00761/impl.errPartLacks", "loop.example/g00761/impl.halfSums"], fn := fun _ => fun
  | [d, g1, g2, g3] => { results := [.lit (.bool true)], args := [d], vars := [g1, g2, g3] }
  | _ => none }
def fnExactWorldOkRow : OpenClaim := { program := "ytaopkchkhdbfnaagreatdoor", sum := "111dc669c5bde762445cfb7f9cefe6aa2def4482cb03dbcc5a8efd9b640e918a", func := "loop.example/g00761/laws.FnExactWorldOk", spec := "fnExactWorldOk", inPlace := ["internal/abi.NoEscape"], unfollowed := true, recurses := true, named := ["loop.example/g00761/impl.kindSizes", "loop.example/g00761/impl.errPartLacks", "loop.example/g00761/impl.halfSums"], ifaces := true, apart := false, laid := [("loop.example/g00761/impl.halfSums", laid_loop_example_g00761_impl_halfSums), ("loop.example/g00761/impl.kindSizes", laid_loop_example_g00761_impl_kindSizes), ("loop.example/g00761/impl.errPartLacks", laid_loop_example_g00761_impl_errPartLacks)] }
def FnExactWorldOkSaid : Prop := fnExactWorldOkRow.holds Tryz.pinned (OpenSpec.ofChange fnExactWorldOkSpec)

/-- ITS FALSE NEIGHBOUR: 'it returns false'. Refute it at one input. -/
def fnExactWorldOkWrong : ChangeSpec := { name := "fnExactWorldOk", vars := ["loop.example/g00761/impl.kindSizes", "loop.example/g00761/impl.errPartLacks", "loop.example/g00761/impl.halfSums"], fn := fun _ => fun
  | [d, g1, g2, g3] => { results := [.lit (.bool false)], args := [d], vars := [g1, g2, g3] }
  | _ => none }
def FnExactWorldOkWrongFalsely : Prop := fnExactWorldOkRow.holds Tryz.pinned (OpenSpec.ofChange fnExactWorldOkWrong)

/-- 'laws.FnExactNewWorld': WHATEVER THE INPUT: true; the input reads as it did. -/
def fnExactNewWorldSpec : ChangeSpec := { name := "fnExactNewWorld", vars := ["loop.example/g00761/impl.kindSizes", "loop.example/g00761/impl.halfSums"], fn := fun _ => fun
  | [g1, g2] => { results := [.lit (.bool true)], args := [], vars := [g1, g2] }
  | _ => none }
def fnExactNewWorldRow : OpenClaim := { program := "ytaopkchkhdbfnaagreatdoor", sum := "111dc669c5bde762445cfb7f9cefe6aa2def4482cb03dbcc5a8efd9b640e918a", func := "loop.example/g00761/laws.FnExactNewWorld", spec := "fnExactNewWorld", inPlace := ["internal/abi.NoEscape"], named := ["loop.example/g00761/impl.kindSizes", "loop.example/g00761/impl.halfSums"], apart := false, laid := [("loop.example/g00761/impl.halfSums", laid_loop_example_g00761_impl_halfSums), ("loop.example/g00761/impl.kindSizes", laid_loop_example_g00761_impl_kindSizes)] }
def FnExactNewWorldSaid : Prop := fnExactNewWorldRow.holds Tryz.pinned (OpenSpec.ofChange fnExactNewWorldSpec)

/-- ITS FALSE NEIGHBOUR: 'it returns false'. Refute it at one input. -/
def fnExactNewWorldWrong : ChangeSpec := { name := "fnExactNewWorld", vars := ["loop.example/g00761/impl.kindSizes", "loop.example/g00761/impl.halfSums"], fn := fun _ => fun
  | [g1, g2] => { results := [.lit (.bool false)], args := [], vars := [g1, g2] }
  | _ => none }
def FnExactNewWorldWrongFalsely : Prop := fnExactNewWorldRow.holds Tryz.pinned (OpenSpec.ofChange fnExactNewWorldWrong)

/-- 'laws.FnExactSettled': WHATEVER THE INPUT: true; the input reads as it did. -/
def fnExactSettledSpec : ChangeSpec := { name := "fnExactSettled", vars := ["loop.example/g00761/impl.kindSizes", "loop.example/g00761/impl.errPartLacks", "loop.example/g00761/impl.halfSums"], fn := fun _ => fun
  | [d, g1, g2, g3] => { results := [.lit (.bool true)], args := [d], vars := [g1, g2, g3] }
  | _ => none }
def fnExactSettledRow : OpenClaim := { program := "ytaopkchkhdbfnaagreatdoor", sum := "111dc669c5bde762445cfb7f9cefe6aa2def4482cb03dbcc5a8efd9b640e918a", func := "loop.example/g00761/laws.FnExactSettled", spec := "fnExactSettled", inPlace := ["internal/abi.NoEscape"], unfollowed := true, recurses := true, named := ["loop.example/g00761/impl.kindSizes", "loop.example/g00761/impl.errPartLacks", "loop.example/g00761/impl.halfSums"], ifaces := true, apart := false, laid := [("loop.example/g00761/impl.halfSums", laid_loop_example_g00761_impl_halfSums), ("loop.example/g00761/impl.kindSizes", laid_loop_example_g00761_impl_kindSizes), ("loop.example/g00761/impl.errPartLacks", laid_loop_example_g00761_impl_errPartLacks)] }
def FnExactSettledSaid : Prop := fnExactSettledRow.holds Tryz.pinned (OpenSpec.ofChange fnExactSettledSpec)

/-- ITS FALSE NEIGHBOUR: 'it returns false'. Refute it at one input. -/
def fnExactSettledWrong : ChangeSpec := { name := "fnExactSettled", vars := ["loop.example/g00761/impl.kindSizes", "loop.example/g00761/impl.errPartLacks", "loop.example/g00761/impl.halfSums"], fn := fun _ => fun
  | [d, g1, g2, g3] => { results := [.lit (.bool false)], args := [d], vars := [g1, g2, g3] }
  | _ => none }
def FnExactSettledWrongFalsely : Prop := fnExactSettledRow.holds Tryz.pinned (OpenSpec.ofChange fnExactSettledWrong)

/-- 'laws.FnExactHolders': WHATEVER THE INPUT: true; the input reads as it did. -/
def fnExactHoldersSpec : ChangeSpec := { name := "fnExactHolders", vars := ["loop.example/g00761/impl.kindSizes", "loop.example/g00761/impl.errPartLacks", "loop.example/g00761/impl.halfSums"], fn := fun _ => fun
  | [d1, d2, d3, g1, g2, g3] => { results := [.lit (.bool true)], args := [d1, d2, d3], vars := [g1, g2, g3] }
  | _ => none }
def fnExactHoldersRow : OpenClaim := { program := "ytaopkchkhdbfnaagreatdoor", sum := "111dc669c5bde762445cfb7f9cefe6aa2def4482cb03dbcc5a8efd9b640e918a", func := "loop.example/g00761/laws.FnExactHolders", spec := "fnExactHolders", inPlace := ["internal/abi.NoEscape"], unfollowed := true, recurses := true, named := ["loop.example/g00761/impl.kindSizes", "loop.example/g00761/impl.errPartLacks", "loop.example/g00761/impl.halfSums"], ifaces := true, apart := false, laid := [("loop.example/g00761/impl.halfSums", laid_loop_example_g00761_impl_halfSums), ("loop.example/g00761/impl.kindSizes", laid_loop_example_g00761_impl_kindSizes), ("loop.example/g00761/impl.errPartLacks", laid_loop_example_g00761_impl_errPartLacks)] }
def FnExactHoldersSaid : Prop := fnExactHoldersRow.holds Tryz.pinned (OpenSpec.ofChange fnExactHoldersSpec)

/-- ITS FALSE NEIGHBOUR: 'it returns false'. Refute it at one input. -/
def fnExactHoldersWrong : ChangeSpec := { name := "fnExactHolders", vars := ["loop.example/g00761/impl.kindSizes", "loop.example/g00761/impl.errPartLacks", "loop.example/g00761/impl.halfSums"], fn := fun _ => fun
  | [d1, d2, d3, g1, g2, g3] => { results := [.lit (.bool false)], args := [d1, d2, d3], vars := [g1, g2, g3] }
  | _ => none }
def FnExactHoldersWrongFalsely : Prop := fnExactHoldersRow.holds Tryz.pinned (OpenSpec.ofChange fnExactHoldersWrong)

/-- 'laws.FnExactExplain': WHATEVER THE INPUT: true; the input reads as it did. -/
def fnExactExplainSpec : ChangeSpec := { name := "fnExactExplain", vars := ["loop.example/g00761/impl.kindSizes", "loop.example/g00761/impl.errPartLacks", "loop.example/g00761/impl.halfSums"], fn := fun _ => fun
  | [d, g1, g2, g3] => { results := [.lit (.bool true)], args := [d], vars := [g1, g2, g3] }
  | _ => none }
def fnExactExplainRow : OpenClaim := { program := "ytaopkchkhdbfnaagreatdoor", sum := "111dc669c5bde762445cfb7f9cefe6aa2def4482cb03dbcc5a8efd9b640e918a", func := "loop.example/g00761/laws.FnExactExplain", spec := "fnExactExplain", inPlace := ["internal/abi.NoEscape"], unfollowed := true, recurses := true, named := ["loop.example/g00761/impl.kindSizes", "loop.example/g00761/impl.errPartLacks", "loop.example/g00761/impl.halfSums"], ifaces := true, apart := false, laid := [("loop.example/g00761/impl.halfSums", laid_loop_example_g00761_impl_halfSums), ("loop.example/g00761/impl.kindSizes", laid_loop_example_g00761_impl_kindSizes), ("loop.example/g00761/impl.errPartLacks", laid_loop_example_g00761_impl_errPartLacks)] }
def FnExactExplainSaid : Prop := fnExactExplainRow.holds Tryz.pinned (OpenSpec.ofChange fnExactExplainSpec)

/-- ITS FALSE NEIGHBOUR: 'it returns false'. Refute it at one input. -/
def fnExactExplainWrong : ChangeSpec := { name := "fnExactExplain", vars := ["loop.example/g00761/impl.kindSizes", "loop.example/g00761/impl.errPartLacks", "loop.example/g00761/impl.halfSums"], fn := fun _ => fun
  | [d, g1, g2, g3] => { results := [.lit (.bool false)], args := [d], vars := [g1, g2, g3] }
  | _ => none }
def FnExactExplainWrongFalsely : Prop := fnExactExplainRow.holds Tryz.pinned (OpenSpec.ofChange fnExactExplainWrong)

/- THE SECOND FORM. 'bulk': how many values and letters a reading holds, each counted each time it is reached (what is shared counts as often as it is met; a slice's spare places count too). A statement '..UptoSaid' is the law's where the arguments, and the package variables that the reading takes, are together of bulk at most 1048576: NARROWER than '..Said'. Prove '..Said' where nothing that the law and all that it calls make is longer than what came in: it says more and counts as full. Else prove '..UptoSaid'. A law counts once. -/
mutual
def uptoBulk {H : Type} : DataW H → Nat
  | .lit (.string bytes) => bytes.length + 1
  | .lit _ => 1
  | .nil => 1
  | .ptr d => uptoBulk d + 1
  | .slice elems spare => uptoBulkAll elems + uptoBulkAll spare + 1
  | .agg parts => uptoBulkAll parts + 1
  | .iface _ d => uptoBulk d + 1
  | .map entries => uptoBulkEntries entries + 1
  | .held _ => 1
def uptoBulkAll {H : Type} : List (DataW H) → Nat
  | [] => 0
  | d :: r => uptoBulk d + uptoBulkAll r
def uptoBulkEntries {H : Type} : List (Lit × DataW H) → Nat
  | [] => 0
  | x :: r => uptoBulkEntry x + uptoBulkEntries r
def uptoBulkEntry {H : Type} : Lit × DataW H → Nat
  | (.string bytes, d) => bytes.length + uptoBulk d + 1
  | (_, d) => uptoBulk d + 1
 end
def uptoSmall : (H : Type) → List (DataW H) → Bool := fun _ ds => decide (uptoBulkAll ds ≤ 1048576)
def OpenSpec.upto (s : _root_.Go.ChangeSpec) : _root_.Go.OpenSpec := { _root_.Go.OpenSpec.ofChange s with cond := some uptoSmall }

/-- 'laws.FnExactWorldOk', WHERE WHAT IT READS IS OF BULK AT MOST 1048576: true; the input reads as it did. -/
def fnExactWorldOkUptoRow : OpenClaim := { program := "ytaopkchkhdbfnaagreatdoor", sum := "111dc669c5bde762445cfb7f9cefe6aa2def4482cb03dbcc5a8efd9b640e918a", func := "loop.example/g00761/laws.FnExactWorldOk", spec := "fnExactWorldOk", inPlace := ["internal/abi.NoEscape"], unfollowed := true, recurses := true, named := ["loop.example/g00761/impl.kindSizes", "loop.example/g00761/impl.errPartLacks", "loop.example/g00761/impl.halfSums"], ifaces := true, apart := false, laid := [("loop.example/g00761/impl.halfSums", laid_loop_example_g00761_impl_halfSums), ("loop.example/g00761/impl.kindSizes", laid_loop_example_g00761_impl_kindSizes), ("loop.example/g00761/impl.errPartLacks", laid_loop_example_g00761_impl_errPartLacks)], narrowed := true }
def FnExactWorldOkUptoSaid : Prop := fnExactWorldOkUptoRow.holds Tryz.pinned (OpenSpec.upto fnExactWorldOkSpec)

/-- 'laws.FnExactNewWorld', WHERE WHAT IT READS IS OF BULK AT MOST 1048576: true; the input reads as it did. -/
def fnExactNewWorldUptoRow : OpenClaim := { program := "ytaopkchkhdbfnaagreatdoor", sum := "111dc669c5bde762445cfb7f9cefe6aa2def4482cb03dbcc5a8efd9b640e918a", func := "loop.example/g00761/laws.FnExactNewWorld", spec := "fnExactNewWorld", inPlace := ["internal/abi.NoEscape"], named := ["loop.example/g00761/impl.kindSizes", "loop.example/g00761/impl.halfSums"], apart := false, laid := [("loop.example/g00761/impl.halfSums", laid_loop_example_g00761_impl_halfSums), ("loop.example/g00761/impl.kindSizes", laid_loop_example_g00761_impl_kindSizes)], narrowed := true }
def FnExactNewWorldUptoSaid : Prop := fnExactNewWorldUptoRow.holds Tryz.pinned (OpenSpec.upto fnExactNewWorldSpec)

/-- 'laws.FnExactSettled', WHERE WHAT IT READS IS OF BULK AT MOST 1048576: true; the input reads as it did. -/
def fnExactSettledUptoRow : OpenClaim := { program := "ytaopkchkhdbfnaagreatdoor", sum := "111dc669c5bde762445cfb7f9cefe6aa2def4482cb03dbcc5a8efd9b640e918a", func := "loop.example/g00761/laws.FnExactSettled", spec := "fnExactSettled", inPlace := ["internal/abi.NoEscape"], unfollowed := true, recurses := true, named := ["loop.example/g00761/impl.kindSizes", "loop.example/g00761/impl.errPartLacks", "loop.example/g00761/impl.halfSums"], ifaces := true, apart := false, laid := [("loop.example/g00761/impl.halfSums", laid_loop_example_g00761_impl_halfSums), ("loop.example/g00761/impl.kindSizes", laid_loop_example_g00761_impl_kindSizes), ("loop.example/g00761/impl.errPartLacks", laid_loop_example_g00761_impl_errPartLacks)], narrowed := true }
def FnExactSettledUptoSaid : Prop := fnExactSettledUptoRow.holds Tryz.pinned (OpenSpec.upto fnExactSettledSpec)

/-- 'laws.FnExactHolders', WHERE WHAT IT READS IS OF BULK AT MOST 1048576: true; the input reads as it did. -/
def fnExactHoldersUptoRow : OpenClaim := { program := "ytaopkchkhdbfnaagreatdoor", sum := "111dc669c5bde762445cfb7f9cefe6aa2def4482cb03dbcc5a8efd9b640e918a", func := "loop.example/g00761/laws.FnExactHolders", spec := "fnExactHolders", inPlace := ["internal/abi.NoEscape"], unfollowed := true, recurses := true, named := ["loop.example/g00761/impl.kindSizes", "loop.example/g00761/impl.errPartLacks", "loop.example/g00761/impl.halfSums"], ifaces := true, apart := false, laid := [("loop.example/g00761/impl.halfSums", laid_loop_example_g00761_impl_halfSums), ("loop.example/g00761/impl.kindSizes", laid_loop_example_g00761_impl_kindSizes), ("loop.example/g00761/impl.errPartLacks", laid_loop_example_g00761_impl_errPartLacks)], narrowed := true }
def FnExactHoldersUptoSaid : Prop := fnExactHoldersUptoRow.holds Tryz.pinned (OpenSpec.upto fnExactHoldersSpec)

/-- 'laws.FnExactExplain', WHERE WHAT IT READS IS OF BULK AT MOST 1048576: true; the input reads as it did. -/
def fnExactExplainUptoRow : OpenClaim := { program := "ytaopkchkhdbfnaagreatdoor", sum := "111dc669c5bde762445cfb7f9cefe6aa2def4482cb03dbcc5a8efd9b640e918a", func := "loop.example/g00761/laws.FnExactExplain", spec := "fnExactExplain", inPlace := ["internal/abi.NoEscape"], unfollowed := true, recurses := true, named := ["loop.example/g00761/impl.kindSizes", "loop.example/g00761/impl.errPartLacks", "loop.example/g00761/impl.halfSums"], ifaces := true, apart := false, laid := [("loop.example/g00761/impl.halfSums", laid_loop_example_g00761_impl_halfSums), ("loop.example/g00761/impl.kindSizes", laid_loop_example_g00761_impl_kindSizes), ("loop.example/g00761/impl.errPartLacks", laid_loop_example_g00761_impl_errPartLacks)], narrowed := true }
def FnExactExplainUptoSaid : Prop := fnExactExplainUptoRow.holds Tryz.pinned (OpenSpec.upto fnExactExplainSpec)

end Rows
end Go.Proofs.YtaopkchkhdbfnaaGreatDoor
