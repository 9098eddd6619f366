/-
  Plain: what stays while a function works on a disk of its own. No condition.
-/
import Derived.Test.YtbnmcbbpbiofgaaDkFlush
namespace Go.Proofs.Ytbnmcbbpbiofgaa.Mem
open Go.RowKit
set_option linter.unusedVariables false

theorem kept_new {S : Nat → Prop} {w x : World} (h : Kept S w x) {g : Nat} (hg : w.heap.size ≤ g) (i : Nat) (v : Value) : Kept S w (x.setCell ⟨g, i, none⟩ v) :=
  (h.trans (kept_set x g i v)).mono (fun b hb e => by rcases e with e | e; exact e; omega)
theorem kept_in {S : Nat → Prop} {w x : World} (h : Kept S w x) {g : Nat} (hg : S g) (i : Nat) (v : Value) : Kept S w (x.setCell ⟨g, i, none⟩ v) :=
  (h.trans (kept_set x g i v)).mono (fun b hb e => by rcases e with e | e; exact e; rw [e]; exact hg)
theorem kept_below {S : Nat → Prop} {w x y : World} (h : Kept S w x) (b : Below x.heap.size x y) : Kept S w y :=
  (h.trans (Kept.of_below (S := fun _ => False) b)).mono (fun b hb e => by rcases e with e | e; exact e; exact e.elim)
theorem kept_drew {S : Nat → Prop} {w x : World} (h : Kept S w x) : Kept S w x.drew := kept_below h (Below.refl _ x).drew
theorem kept_more {S T : Nat → Prop} {w x y : World} (h : Kept S w x) (k : Kept T x y) (hT : ∀ b, b < w.heap.size → T b → S b) : Kept S w y :=
  (h.trans k).mono (fun b hb e => by rcases e with e | e; exact e; exact hT b hb e)
theorem kept_end {S : Nat → Prop} {w x : World} (h : Kept S w x) {g : Nat} (hg : w.heap.size ≤ g) (a b c : Value) : Kept S w (((x.setCell ⟨g, 0, none⟩ a).setCell ⟨g, 1, none⟩ b).setCell ⟨g, 2, none⟩ c) :=
  kept_new (kept_new (kept_new h hg 0 a) hg 1 b) hg 2 c

end Go.Proofs.Ytbnmcbbpbiofgaa.Mem
