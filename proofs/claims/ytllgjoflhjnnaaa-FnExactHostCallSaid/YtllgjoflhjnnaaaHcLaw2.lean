/-
  laws.FnExactHostCall answers true, and nothing that was there is changed. No condition.
-/
import Derived.Test.YtllgjoflhjnnaaaHcLaw
import Derived.Test.YtllgjoflhjnnaaaHoCall2
namespace Go.Proofs.Ytllgjoflhjnnaaa.Pl
open Go.RowKit Go.Proofs.Ytllgjoflhjnnaaa.Mem Go.Proofs.Ytllgjoflhjnnaaa.Sec
set_option linter.unusedVariables false

theorem lawHC (w : World) (H : Ho) (p : Option Addr) (c : Nat) (K V T A : Int) (X : ByteArray) (S : Ous w p H.l) (hh : H.Upto maxLen) (hX : X.size ≤ maxLen) :
    Calls Try.prog 4 #[hoV H p c, opV K V T A X] w fun e w' => e = .returned (.bool true) ∧ Below w.heap.size w w' :=
  lawHostCall (fun w H p c K V T A X S hu hX => sHostCall w H p c K V T A X S hu hX) w H p c K V T A X S hh hX

end Go.Proofs.Ytllgjoflhjnnaaa.Pl
