/-
  No cell of these rows narrows 'for every input' (looked for: loops, veiled, ifaces, maps, wideKeys, modest, calm, conditions, laid).
  DERIVED. THE GIVEN ROWS OF THIS SEAT. 4 by the template 'for every input the law returns true; each argument reads behind the call as it read before'; 0 by the template 'total and deterministic' (their statements: YtieohdfhbfeoaaaTotals.lean).
  GIVEN WITH THE SEED: the statements are not yours to turn. If you find one false, say at which input.
  Laid BY PROGRAM, IN A SANDBOX (cutbox-rows.mjs): the forced cells as the released guide's own fill.sh prints them over the translation 6e0ab3b34ffe002c… (all of the seat's roots in one cut). By AI agents, Wed Nov 11 2026. No macro, syntax, notation, axiom, sorry.
-/
import Derived.Test.YtieohdfhbfeoaaaChecked
import GoSem.Claim
import GoSem.ClaimJoined
import GoSem.ClaimMapViews
import Derived.JoinedTies
import Derived.KernelRfl
namespace Go.Proofs.Ytieohdfhbfeoaaa
/- THE CELL 'sum', in the pinned program and in every row, IS THE sha256 OF THE DUMP (.gsa) THAT YtieohdfhbfeoaaaProg.lean LOADS. Nothing in Lean hashes anything: it is a label: what it is worth is what the hold of that sum in a sandbox is worth. -/
noncomputable def Try.pinned : Pinned := { name := "ytieohdfhbfeoaaa", sum := "6e0ab3b34ffe002c0b8ef6f3ee0c11f80560045b7e7e1e7ae75d4da4a8f5e424", checked := Try.checked }
namespace Rows
def none {H : Type} : Left H := { results := [], args := [] }

/-- 'laws.FnExactNewPool': WHATEVER THE INPUT: true; the input reads as it did. -/
def fnExactNewPoolSpec : ChangeSpec := { name := "fnExactNewPool", fn := fun _ => fun
  | [] => { results := [.lit (.bool true)], args := [] }
  | _ => none }
def fnExactNewPoolRow : OpenClaim := { program := "ytieohdfhbfeoaaa", sum := "6e0ab3b34ffe002c0b8ef6f3ee0c11f80560045b7e7e1e7ae75d4da4a8f5e424", func := "loop.example/g00761/laws.FnExactNewPool", spec := "fnExactNewPool", apart := false }
def FnExactNewPoolSaid : Prop := fnExactNewPoolRow.holds Try.pinned (OpenSpec.ofChange fnExactNewPoolSpec)

/-- ITS FALSE NEIGHBOUR: 'it returns false'. Refute it at one input. -/
def fnExactNewPoolWrong : ChangeSpec := { name := "fnExactNewPool", fn := fun _ => fun
  | [] => { results := [.lit (.bool false)], args := [] }
  | _ => none }
def FnExactNewPoolWrongFalsely : Prop := fnExactNewPoolRow.holds Try.pinned (OpenSpec.ofChange fnExactNewPoolWrong)

/-- 'laws.FnExactModelOk': WHATEVER THE INPUT: true; the input reads as it did. -/
def fnExactModelOkSpec : ChangeSpec := { name := "fnExactModelOk", fn := fun _ => fun
  | [d] => { results := [.lit (.bool true)], args := [d] }
  | _ => none }
def fnExactModelOkRow : OpenClaim := { program := "ytieohdfhbfeoaaa", sum := "6e0ab3b34ffe002c0b8ef6f3ee0c11f80560045b7e7e1e7ae75d4da4a8f5e424", func := "loop.example/g00761/laws.FnExactModelOk", spec := "fnExactModelOk", apart := false }
def FnExactModelOkSaid : Prop := fnExactModelOkRow.holds Try.pinned (OpenSpec.ofChange fnExactModelOkSpec)

/-- ITS FALSE NEIGHBOUR: 'it returns false'. Refute it at one input. -/
def fnExactModelOkWrong : ChangeSpec := { name := "fnExactModelOk", fn := fun _ => fun
  | [d] => { results := [.lit (.bool false)], args := [d] }
  | _ => none }
def FnExactModelOkWrongFalsely : Prop := fnExactModelOkRow.holds Try.pinned (OpenSpec.ofChange fnExactModelOkWrong)

/-- 'laws.FnExactPoolDo': WHATEVER THE INPUT: true; the input reads as it did. -/
def fnExactPoolDoSpec : ChangeSpec := { name := "fnExactPoolDo", fn := fun _ => fun
  | [d1, d2] => { results := [.lit (.bool true)], args := [d1, d2] }
  | _ => none }
def fnExactPoolDoRow : OpenClaim := { program := "ytieohdfhbfeoaaa", sum := "6e0ab3b34ffe002c0b8ef6f3ee0c11f80560045b7e7e1e7ae75d4da4a8f5e424", func := "loop.example/g00761/laws.FnExactPoolDo", spec := "fnExactPoolDo", apart := false }
def FnExactPoolDoSaid : Prop := fnExactPoolDoRow.holds Try.pinned (OpenSpec.ofChange fnExactPoolDoSpec)

/-- ITS FALSE NEIGHBOUR: 'it returns false'. Refute it at one input. -/
def fnExactPoolDoWrong : ChangeSpec := { name := "fnExactPoolDo", fn := fun _ => fun
  | [d1, d2] => { results := [.lit (.bool false)], args := [d1, d2] }
  | _ => none }
def FnExactPoolDoWrongFalsely : Prop := fnExactPoolDoRow.holds Try.pinned (OpenSpec.ofChange fnExactPoolDoWrong)

/-- 'laws.FnExactReadOf': WHATEVER THE INPUT: true; the input reads as it did. -/
def fnExactReadOfSpec : ChangeSpec := { name := "fnExactReadOf", fn := fun _ => fun
  | [d1, d2, d3] => { results := [.lit (.bool true)], args := [d1, d2, d3] }
  | _ => none }
def fnExactReadOfRow : OpenClaim := { program := "ytieohdfhbfeoaaa", sum := "6e0ab3b34ffe002c0b8ef6f3ee0c11f80560045b7e7e1e7ae75d4da4a8f5e424", func := "loop.example/g00761/laws.FnExactReadOf", spec := "fnExactReadOf", apart := false }
def FnExactReadOfSaid : Prop := fnExactReadOfRow.holds Try.pinned (OpenSpec.ofChange fnExactReadOfSpec)

/-- ITS FALSE NEIGHBOUR: 'it returns false'. Refute it at one input. -/
def fnExactReadOfWrong : ChangeSpec := { name := "fnExactReadOf", fn := fun _ => fun
  | [d1, d2, d3] => { results := [.lit (.bool false)], args := [d1, d2, d3] }
  | _ => none }
def FnExactReadOfWrongFalsely : Prop := fnExactReadOfRow.holds Try.pinned (OpenSpec.ofChange fnExactReadOfWrong)

/- THE SECOND FORM. 'bulk': how many values and letters a reading holds, each counted each time it is reached (what is shared counts as often as it is met; a slice's spare places count too). A statement '..UptoSaid' is the law's where the arguments, and the package variables that the reading takes, are together of bulk at most 1048576: NARROWER than '..Said'. Prove '..Said' where nothing that the law and all that it calls make is longer than what came in: it says more and counts as full. Else prove '..UptoSaid'. A law counts once. -/
mutual
def uptoBulk {H : Type} : DataW H → Nat
  | .lit (.string bytes) => bytes.length + 1
  | .lit _ => 1
  | .nil => 1
  | .ptr d => uptoBulk d + 1
  | .slice elems spare => uptoBulkAll elems + uptoBulkAll spare + 1
  | .agg parts => uptoBulkAll parts + 1
  | .iface _ d => uptoBulk d + 1
  | .map entries => uptoBulkEntries entries + 1
  | .held _ => 1
def uptoBulkAll {H : Type} : List (DataW H) → Nat
  | [] => 0
  | d :: r => uptoBulk d + uptoBulkAll r
def uptoBulkEntries {H : Type} : List (Lit × DataW H) → Nat
  | [] => 0
  | x :: r => uptoBulkEntry x + uptoBulkEntries r
def uptoBulkEntry {H : Type} : Lit × DataW H → Nat
  | (.string bytes, d) => bytes.length + uptoBulk d + 1
  | (_, d) => uptoBulk d + 1
 end
def uptoSmall : (H : Type) → List (DataW H) → Bool := fun _ ds => decide (uptoBulkAll ds ≤ 1048576)
def OpenSpec.upto (s : _root_.Go.ChangeSpec) : _root_.Go.OpenSpec := { _root_.Go.OpenSpec.ofChange s with cond := some uptoSmall }

/-- 'laws.FnExactNewPool', WHERE WHAT IT READS IS OF BULK AT MOST 1048576: true; the input reads as it did. -/
def fnExactNewPoolUptoRow : OpenClaim := { program := "ytieohdfhbfeoaaa", sum := "6e0ab3b34ffe002c0b8ef6f3ee0c11f80560045b7e7e1e7ae75d4da4a8f5e424", func := "loop.example/g00761/laws.FnExactNewPool", spec := "fnExactNewPool", apart := false, narrowed := true }
def FnExactNewPoolUptoSaid : Prop := fnExactNewPoolUptoRow.holds Try.pinned (OpenSpec.upto fnExactNewPoolSpec)

/-- 'laws.FnExactModelOk', WHERE WHAT IT READS IS OF BULK AT MOST 1048576: true; the input reads as it did. -/
def fnExactModelOkUptoRow : OpenClaim := { program := "ytieohdfhbfeoaaa", sum := "6e0ab3b34ffe002c0b8ef6f3ee0c11f80560045b7e7e1e7ae75d4da4a8f5e424", func := "loop.example/g00761/laws.FnExactModelOk", spec := "fnExactModelOk", apart := false, narrowed := true }
def FnExactModelOkUptoSaid : Prop := fnExactModelOkUptoRow.holds Try.pinned (OpenSpec.upto fnExactModelOkSpec)

/-- 'laws.FnExactPoolDo', WHERE WHAT IT READS IS OF BULK AT MOST 1048576: true; the input reads as it did. -/
def fnExactPoolDoUptoRow : OpenClaim := { program := "ytieohdfhbfeoaaa", sum := "6e0ab3b34ffe002c0b8ef6f3ee0c11f80560045b7e7e1e7ae75d4da4a8f5e424", func := "loop.example/g00761/laws.FnExactPoolDo", spec := "fnExactPoolDo", apart := false, narrowed := true }
def FnExactPoolDoUptoSaid : Prop := fnExactPoolDoUptoRow.holds Try.pinned (OpenSpec.upto fnExactPoolDoSpec)

/-- 'laws.FnExactReadOf', WHERE WHAT IT READS IS OF BULK AT MOST 1048576: true; the input reads as it did. -/
def fnExactReadOfUptoRow : OpenClaim := { program := "ytieohdfhbfeoaaa", sum := "6e0ab3b34ffe002c0b8ef6f3ee0c11f80560045b7e7e1e7ae75d4da4a8f5e424", func := "loop.example/g00761/laws.FnExactReadOf", spec := "fnExactReadOf", apart := false, narrowed := true }
def FnExactReadOfUptoSaid : Prop := fnExactReadOfUptoRow.holds Try.pinned (OpenSpec.upto fnExactReadOfSpec)

end Rows
end Go.Proofs.Ytieohdfhbfeoaaa
