/-
  Plain facts on the cursor over a draw's bytes: what one byte of it is, and what it is in memory. No condition.
-/
import Derived.WalkKit
import Derived.Laws.BytesArg
import Derived.Laws.BitsAllLaws
import Derived.Deep.QuietTactic
import Derived.BigQuiet
import Derived.WalkLawsBesides
namespace Go.Proofs.Ytbnmcbbpbiofgaa.Draw
open Go.RowKit

/-- The next mixing number. -/
def hB (h : Int) : Int := wrap64 (wrap64 (h * 6364136223846793005) + 1442695040888963407)
/-- The byte that it gives. -/
def xB (h : Int) : Int := bits .and .i64 (bits .xor .i64 (h / 8589934592) (h / 35184372088832)) 255
/-- The byte with one of the code. -/
def nbx (zs : List Int) (i : Nat) (h : Int) : Int := if i < zs.length then bits .and .i64 (wrap64 (xB (hB h) + wrap64 (zs[i]?.getD 0))) 255 else xB (hB h)
def nbi (zs : List Int) (i : Nat) : Nat := if i < zs.length then i + 1 else i

/-- The cursor stands at block cb over the code whose bytes are zs. -/
structure Env (w : World) (cb : Nat) (a : Option Addr) (len cap : Nat) (zs : List Int) (i : Nat) (h : Int) : Prop where
  blk : w.heap[cb]? = some (.cells #[.slice a len cap, .int .i64 (i : Int), .int .i64 h] 59 (0, 0))
  hi : i ≤ len
  hl : zs.length = len
  hb : len ≤ 1048576
  z : ∀ n ∈ zs, 0 ≤ n ∧ n ≤ 255
  code : ∀ j, j < len → ∃ b off, a = some ⟨b, off, none⟩ ∧ b ≠ cb ∧ w.cell? ⟨b, off + j, none⟩ = some (.int .u8 (zs.getD j 0))

theorem and_mask (n : Int) : bits .and .i64 n 255 = n % 256 := by
  have hm : (BitVec.ofInt 64 255).toNat = 2 ^ 8 - 1 := by decide
  have key : (BitVec.ofInt 64 n &&& BitVec.ofInt 64 255).toNat = (n % ((2 ^ 64 : Nat) : Int)).toNat % 2 ^ 8 := by
    rw [BitVec.toNat_and, BitVec.toNat_ofInt, hm, Nat.and_two_pow_sub_one_eq_mod]
  show IntKind.i64.wrap ((BitVec.ofInt 64 n &&& BitVec.ofInt 64 255).toNat : Nat) = n % 256
  rw [key, IntKind.wrap_i64]
  omega

theorem and255 (y : Int) : 0 ≤ bits .and .i64 y 255 ∧ bits .and .i64 y 255 ≤ 255 := by
  rw [and_mask]; omega

theorem xB_bd (h : Int) : 0 ≤ xB h ∧ xB h ≤ 255 := and255 _

theorem nbx_bd (zs : List Int) (i : Nat) (h : Int) : 0 ≤ nbx zs i h ∧ nbx zs i h ≤ 255 := by
  unfold nbx; split
  · exact and255 _
  · exact xB_bd _

theorem z_bd {zs : List Int} (h : ∀ n ∈ zs, 0 ≤ n ∧ n ≤ 255) (i : Nat) : 0 ≤ zs.getD i 0 ∧ zs.getD i 0 ≤ 255 := by
  rw [List.getD]
  by_cases hi : i < zs.length
  · rw [List.getElem?_eq_getElem hi]; exact h _ (List.getElem_mem hi)
  · rw [List.getElem?_eq_none (by omega)]; simp

theorem grown_trans {w w1 w2 : World} {r : Option Nat} (h : w.grownBy w1 r) (k : w1.grownBy w2 r) : w.grownBy w2 r :=
  ⟨k.os.trans h.os, k.tape.trans h.tape, k.output.trans h.output, Nat.le_trans h.size k.size, fun i hi hr => (k.block i (Nat.lt_of_lt_of_le hi h.size) hr).trans (h.block i hi hr)⟩

theorem Env.c0 {w : World} {cb : Nat} {a : Option Addr} {len cap : Nat} {zs : List Int} {i : Nat} {h : Int} (E : Env w cb a len cap zs i h) : w.cell? ⟨cb, 0, none⟩ = some (.slice a len cap) := by
  rw [cell_of_row w cb 0 _ _ (0, 0) E.blk]; rfl
theorem Env.c1 {w : World} {cb : Nat} {a : Option Addr} {len cap : Nat} {zs : List Int} {i : Nat} {h : Int} (E : Env w cb a len cap zs i h) : w.cell? ⟨cb, 1, none⟩ = some (.int .i64 (i : Int)) := by
  rw [cell_of_row w cb 1 _ _ (0, 0) E.blk]; rfl
theorem Env.c2 {w : World} {cb : Nat} {a : Option Addr} {len cap : Nat} {zs : List Int} {i : Nat} {h : Int} (E : Env w cb a len cap zs i h) : w.cell? ⟨cb, 2, none⟩ = some (.int .i64 h) := by
  rw [cell_of_row w cb 2 _ _ (0, 0) E.blk]; rfl
theorem Env.f {w : World} {cb : Nat} {a : Option Addr} {len cap : Nat} {zs : List Int} {i : Nat} {h : Int} (E : Env w cb a len cap zs i h) (j : Nat) : w.frozen? ⟨cb, j, none⟩ = false :=
  frozen_of_row w cb j _ _ E.blk

theorem grown_set (w : World) (cb j : Nat) (u : Value) : w.grownBy (w.setCell ⟨cb, j, none⟩ u) (some cb) :=
  ⟨rfl, rfl, rfl, by simp, fun k _ hk => heap_setCell_other w ⟨cb, j, none⟩ k u (fun e => hk (by simp [e]))⟩

theorem grown_drewN (w : World) (n : Nat) (r : Option Nat) : w.grownBy (w.drewN n) r := ⟨rfl, rfl, rfl, Nat.le_refl _, fun _ _ _ => rfl⟩

/-- The code's bytes are where they were. -/
theorem Env.move {w w' : World} {cb : Nat} {a : Option Addr} {len cap : Nat} {zs : List Int} {i i' : Nat} {h h' : Int} (E : Env w cb a len cap zs i h) (hg : w.grownBy w' (some cb)) (hi' : i' ≤ len)
    (hb : w'.heap[cb]? = some (.cells #[.slice a len cap, .int .i64 (i' : Int), .int .i64 h'] 59 (0, 0))) : Env w' cb a len cap zs i' h' := by
  refine ⟨hb, hi', E.hl, E.hb, E.z, fun j hj => ?_⟩
  obtain ⟨b, off, e, hne, hc⟩ := E.code j hj
  exact ⟨b, off, e, hne, hg.cell hc (by simpa using hne)⟩

/-- Behind a byte that takes one of the code. -/
theorem Env.in_ {w : World} {cb : Nat} {a : Option Addr} {len cap : Nat} {zs : List Int} {i : Nat} {h : Int} (E : Env w cb a len cap zs i h) (hlt : i < len) (h' : Int) (n1 : Nat) :
    Env (((w.setCell ⟨cb, 2, none⟩ (.int .i64 h')).drewN n1).setCell ⟨cb, 1, none⟩ (.int .i64 ((i : Int) + 1))) cb a len cap zs (i + 1) h' ∧
    w.grownBy (((w.setCell ⟨cb, 2, none⟩ (.int .i64 h')).drewN n1).setCell ⟨cb, 1, none⟩ (.int .i64 ((i : Int) + 1))) (some cb) := by
  have g : w.grownBy (((w.setCell ⟨cb, 2, none⟩ (.int .i64 h')).drewN n1).setCell ⟨cb, 1, none⟩ (.int .i64 ((i : Int) + 1))) (some cb) :=
    grown_trans (grown_trans (grown_set w cb 2 _) (grown_drewN _ n1 _)) (grown_set _ cb 1 _)
  refine ⟨E.move g (by omega) ?_, g⟩
  have b1 := heap_setCell_same w cb 2 _ _ (.int .i64 h') E.blk
  have b2 := heap_setCell_same ((w.setCell ⟨cb, 2, none⟩ (.int .i64 h')).drewN n1) cb 1 _ _ (.int .i64 ((i : Int) + 1)) b1
  simpa using b2

/-- Behind a byte that takes none. -/
theorem Env.out_ {w : World} {cb : Nat} {a : Option Addr} {len cap : Nat} {zs : List Int} {i : Nat} {h : Int} (E : Env w cb a len cap zs i h) (h' : Int) (n1 n2 : Nat) :
    Env (((w.setCell ⟨cb, 2, none⟩ (.int .i64 h')).drewN n1).drewN n2) cb a len cap zs i h' ∧ w.grownBy (((w.setCell ⟨cb, 2, none⟩ (.int .i64 h')).drewN n1).drewN n2) (some cb) := by
  have g : w.grownBy (((w.setCell ⟨cb, 2, none⟩ (.int .i64 h')).drewN n1).drewN n2) (some cb) := grown_trans (grown_trans (grown_set w cb 2 _) (grown_drewN _ n1 _)) (grown_drewN _ n2 _)
  refine ⟨E.move g E.hi ?_, g⟩
  have b1 := heap_setCell_same w cb 2 _ _ (.int .i64 h') E.blk
  simpa using b1

end Go.Proofs.Ytbnmcbbpbiofgaa.Draw
