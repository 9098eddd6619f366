/-
  No cell of these rows narrows 'for every input' (looked for: loops, veiled, ifaces, maps, wideKeys, modest, calm, conditions, laid).
  DERIVED. THE GIVEN ROWS OF THIS SEAT. 5 by the template 'for every input the law returns true; each argument reads behind the call as it read before'; 0 by the template 'total and deterministic' (their statements: YtppjohfafnbdlakTotals.lean).
  GIVEN WITH THE SEED: the statements are not yours to turn. If you find one false, say at which input.
  Laid BY PROGRAM, IN A SANDBOX (cutbox-rows.mjs): the forced cells as the released guide's own fill.sh prints them over the translation 9011a6833b4cfc22… (all of the seat's roots in one cut). By AI agents, Wed Nov 11 2026. No macro, syntax, notation, axiom, sorry.
-/
import Derived.Test.YtppjohfafnbdlakChecked
import GoSem.Claim
import GoSem.ClaimJoined
import GoSem.ClaimMapViews
import Derived.JoinedTies
import Derived.KernelRfl
namespace Go.Proofs.Ytppjohfafnbdlak
/- THE CELL 'sum', in the pinned program and in every row, IS THE sha256 OF THE DUMP (.gsa) THAT YtppjohfafnbdlakProg.lean LOADS. Nothing in Lean hashes anything: it is a label: what it is worth is what the hold of that sum in a sandbox is worth. -/
noncomputable def Try.pinned : Pinned := { name := "ytppjohfafnbdlak", sum := "9011a6833b4cfc2214e7c8ef7793faa296d54d916a5fc922c20d5d92d68323e7", checked := Try.checked }
namespace Rows
def none {H : Type} : Left H := { results := [], args := [] }

/-- 'laws.FnExactSwap': WHATEVER THE INPUT: true; the input reads as it did. -/
def fnExactSwapSpec : ChangeSpec := { name := "fnExactSwap", fn := fun _ => fun
  | [d1, d2, d3, d4, d5, d6] => { results := [.lit (.bool true)], args := [d1, d2, d3, d4, d5, d6] }
  | _ => none }
def fnExactSwapRow : OpenClaim := { program := "ytppjohfafnbdlak", sum := "9011a6833b4cfc2214e7c8ef7793faa296d54d916a5fc922c20d5d92d68323e7", func := "loop.example/g00761/laws.FnExactSwap", spec := "fnExactSwap", plainKeys := false, apart := false }
def FnExactSwapSaid : Prop := fnExactSwapRow.holds Try.pinned (OpenSpec.ofChange fnExactSwapSpec)

/-- ITS FALSE NEIGHBOUR: 'it returns false'. Refute it at one input. -/
def fnExactSwapWrong : ChangeSpec := { name := "fnExactSwap", fn := fun _ => fun
  | [d1, d2, d3, d4, d5, d6] => { results := [.lit (.bool false)], args := [d1, d2, d3, d4, d5, d6] }
  | _ => none }
def FnExactSwapWrongFalsely : Prop := fnExactSwapRow.holds Try.pinned (OpenSpec.ofChange fnExactSwapWrong)

/-- 'laws.FnExactLand': WHATEVER THE INPUT: true; the input reads as it did. -/
def fnExactLandSpec : ChangeSpec := { name := "fnExactLand", fn := fun _ => fun
  | [d1, d2] => { results := [.lit (.bool true)], args := [d1, d2] }
  | _ => none }
def fnExactLandRow : OpenClaim := { program := "ytppjohfafnbdlak", sum := "9011a6833b4cfc2214e7c8ef7793faa296d54d916a5fc922c20d5d92d68323e7", func := "loop.example/g00761/laws.FnExactLand", spec := "fnExactLand", recurses := true, plainKeys := false, apart := false }
def FnExactLandSaid : Prop := fnExactLandRow.holds Try.pinned (OpenSpec.ofChange fnExactLandSpec)

/-- ITS FALSE NEIGHBOUR: 'it returns false'. Refute it at one input. -/
def fnExactLandWrong : ChangeSpec := { name := "fnExactLand", fn := fun _ => fun
  | [d1, d2] => { results := [.lit (.bool false)], args := [d1, d2] }
  | _ => none }
def FnExactLandWrongFalsely : Prop := fnExactLandRow.holds Try.pinned (OpenSpec.ofChange fnExactLandWrong)

/-- 'laws.FnExactLose': WHATEVER THE INPUT: true; the input reads as it did. -/
def fnExactLoseSpec : ChangeSpec := { name := "fnExactLose", fn := fun _ => fun
  | [d1, d2] => { results := [.lit (.bool true)], args := [d1, d2] }
  | _ => none }
def fnExactLoseRow : OpenClaim := { program := "ytppjohfafnbdlak", sum := "9011a6833b4cfc2214e7c8ef7793faa296d54d916a5fc922c20d5d92d68323e7", func := "loop.example/g00761/laws.FnExactLose", spec := "fnExactLose", recurses := true, plainKeys := false, apart := false }
def FnExactLoseSaid : Prop := fnExactLoseRow.holds Try.pinned (OpenSpec.ofChange fnExactLoseSpec)

/-- ITS FALSE NEIGHBOUR: 'it returns false'. Refute it at one input. -/
def fnExactLoseWrong : ChangeSpec := { name := "fnExactLose", fn := fun _ => fun
  | [d1, d2] => { results := [.lit (.bool false)], args := [d1, d2] }
  | _ => none }
def FnExactLoseWrongFalsely : Prop := fnExactLoseRow.holds Try.pinned (OpenSpec.ofChange fnExactLoseWrong)

/-- 'laws.FnExactFence': WHATEVER THE INPUT: true; the input reads as it did. -/
def fnExactFenceSpec : ChangeSpec := { name := "fnExactFence", fn := fun _ => fun
  | [d1, d2] => { results := [.lit (.bool true)], args := [d1, d2] }
  | _ => none }
def fnExactFenceRow : OpenClaim := { program := "ytppjohfafnbdlak", sum := "9011a6833b4cfc2214e7c8ef7793faa296d54d916a5fc922c20d5d92d68323e7", func := "loop.example/g00761/laws.FnExactFence", spec := "fnExactFence", recurses := true, plainKeys := false, apart := false }
def FnExactFenceSaid : Prop := fnExactFenceRow.holds Try.pinned (OpenSpec.ofChange fnExactFenceSpec)

/-- ITS FALSE NEIGHBOUR: 'it returns false'. Refute it at one input. -/
def fnExactFenceWrong : ChangeSpec := { name := "fnExactFence", fn := fun _ => fun
  | [d1, d2] => { results := [.lit (.bool false)], args := [d1, d2] }
  | _ => none }
def FnExactFenceWrongFalsely : Prop := fnExactFenceRow.holds Try.pinned (OpenSpec.ofChange fnExactFenceWrong)

/-- 'laws.FnExactShowVol': WHATEVER THE INPUT: true; the input reads as it did. -/
def fnExactShowVolSpec : ChangeSpec := { name := "fnExactShowVol", fn := fun _ => fun
  | [d] => { results := [.lit (.bool true)], args := [d] }
  | _ => none }
def fnExactShowVolRow : OpenClaim := { program := "ytppjohfafnbdlak", sum := "9011a6833b4cfc2214e7c8ef7793faa296d54d916a5fc922c20d5d92d68323e7", func := "loop.example/g00761/laws.FnExactShowVol", spec := "fnExactShowVol", plainKeys := false, apart := false }
def FnExactShowVolSaid : Prop := fnExactShowVolRow.holds Try.pinned (OpenSpec.ofChange fnExactShowVolSpec)

/-- ITS FALSE NEIGHBOUR: 'it returns false'. Refute it at one input. -/
def fnExactShowVolWrong : ChangeSpec := { name := "fnExactShowVol", fn := fun _ => fun
  | [d] => { results := [.lit (.bool false)], args := [d] }
  | _ => none }
def FnExactShowVolWrongFalsely : Prop := fnExactShowVolRow.holds Try.pinned (OpenSpec.ofChange fnExactShowVolWrong)

/- THE SECOND FORM. 'bulk': how many values and letters a reading holds, each counted each time it is reached (what is shared counts as often as it is met; a slice's spare places count too). A statement '..UptoSaid' is the law's where the arguments, and the package variables that the reading takes, are together of bulk at most 1048576: NARROWER than '..Said'. Prove '..Said' where nothing that the law and all that it calls make is longer than what came in: it says more and counts as full. Else prove '..UptoSaid'. A law counts once. -/
mutual
def uptoBulk {H : Type} : DataW H → Nat
  | .lit (.string bytes) => bytes.length + 1
  | .lit _ => 1
  | .nil => 1
  | .ptr d => uptoBulk d + 1
  | .slice elems spare => uptoBulkAll elems + uptoBulkAll spare + 1
  | .agg parts => uptoBulkAll parts + 1
  | .iface _ d => uptoBulk d + 1
  | .map entries => uptoBulkEntries entries + 1
  | .held _ => 1
def uptoBulkAll {H : Type} : List (DataW H) → Nat
  | [] => 0
  | d :: r => uptoBulk d + uptoBulkAll r
def uptoBulkEntries {H : Type} : List (Lit × DataW H) → Nat
  | [] => 0
  | x :: r => uptoBulkEntry x + uptoBulkEntries r
def uptoBulkEntry {H : Type} : Lit × DataW H → Nat
  | (.string bytes, d) => bytes.length + uptoBulk d + 1
  | (_, d) => uptoBulk d + 1
 end
def uptoSmall : (H : Type) → List (DataW H) → Bool := fun _ ds => decide (uptoBulkAll ds ≤ 1048576)
def OpenSpec.upto (s : _root_.Go.ChangeSpec) : _root_.Go.OpenSpec := { _root_.Go.OpenSpec.ofChange s with cond := some uptoSmall }

/-- 'laws.FnExactSwap', WHERE WHAT IT READS IS OF BULK AT MOST 1048576: true; the input reads as it did. -/
def fnExactSwapUptoRow : OpenClaim := { program := "ytppjohfafnbdlak", sum := "9011a6833b4cfc2214e7c8ef7793faa296d54d916a5fc922c20d5d92d68323e7", func := "loop.example/g00761/laws.FnExactSwap", spec := "fnExactSwap", plainKeys := false, apart := false, narrowed := true }
def FnExactSwapUptoSaid : Prop := fnExactSwapUptoRow.holds Try.pinned (OpenSpec.upto fnExactSwapSpec)

/-- 'laws.FnExactLand', WHERE WHAT IT READS IS OF BULK AT MOST 1048576: true; the input reads as it did. -/
def fnExactLandUptoRow : OpenClaim := { program := "ytppjohfafnbdlak", sum := "9011a6833b4cfc2214e7c8ef7793faa296d54d916a5fc922c20d5d92d68323e7", func := "loop.example/g00761/laws.FnExactLand", spec := "fnExactLand", recurses := true, plainKeys := false, apart := false, narrowed := true }
def FnExactLandUptoSaid : Prop := fnExactLandUptoRow.holds Try.pinned (OpenSpec.upto fnExactLandSpec)

/-- 'laws.FnExactLose', WHERE WHAT IT READS IS OF BULK AT MOST 1048576: true; the input reads as it did. -/
def fnExactLoseUptoRow : OpenClaim := { program := "ytppjohfafnbdlak", sum := "9011a6833b4cfc2214e7c8ef7793faa296d54d916a5fc922c20d5d92d68323e7", func := "loop.example/g00761/laws.FnExactLose", spec := "fnExactLose", recurses := true, plainKeys := false, apart := false, narrowed := true }
def FnExactLoseUptoSaid : Prop := fnExactLoseUptoRow.holds Try.pinned (OpenSpec.upto fnExactLoseSpec)

/-- 'laws.FnExactFence', WHERE WHAT IT READS IS OF BULK AT MOST 1048576: true; the input reads as it did. -/
def fnExactFenceUptoRow : OpenClaim := { program := "ytppjohfafnbdlak", sum := "9011a6833b4cfc2214e7c8ef7793faa296d54d916a5fc922c20d5d92d68323e7", func := "loop.example/g00761/laws.FnExactFence", spec := "fnExactFence", recurses := true, plainKeys := false, apart := false, narrowed := true }
def FnExactFenceUptoSaid : Prop := fnExactFenceUptoRow.holds Try.pinned (OpenSpec.upto fnExactFenceSpec)

/-- 'laws.FnExactShowVol', WHERE WHAT IT READS IS OF BULK AT MOST 1048576: true; the input reads as it did. -/
def fnExactShowVolUptoRow : OpenClaim := { program := "ytppjohfafnbdlak", sum := "9011a6833b4cfc2214e7c8ef7793faa296d54d916a5fc922c20d5d92d68323e7", func := "loop.example/g00761/laws.FnExactShowVol", spec := "fnExactShowVol", plainKeys := false, apart := false, narrowed := true }
def FnExactShowVolUptoSaid : Prop := fnExactShowVolUptoRow.holds Try.pinned (OpenSpec.upto fnExactShowVolSpec)

end Rows
end Go.Proofs.Ytppjohfafnbdlak
