/-
  Plain facts on the cursor over a draw's bytes: what one byte of it is, and what it is in memory. No condition.
  The walk of spec.l1Byte. No condition.
  The walks of spec.l1Below and spec.l1Once: what they draw is settled by the code's bytes and the cursor alone, and lies below the bound. No condition but a bound that is small.
  The walk of spec.l1Text: the text that it draws is settled by the code's bytes and the cursor alone. No condition but a bound that is small.
  The walks of spec.l1New, spec.l1PickInt and spec.l1Num: the cursor that is made, and the number that is drawn, are settled by the code's bytes alone. No condition but a code of at most 1048576 bytes.
  What the law of a new disk draws, and how it holds pools against each other: the walks of spec.DrawSectorOf, laws.big, laws.at, laws.sameTexts, laws.samePool. No condition.
  The walk of laws.FnExactSectorOf: at every kind and number the law answers true, and nothing that was there is changed. Condition: the table of the kinds' sizes holds what the program's text lays.
  The walks of impl.freshSector and impl.Format: a new disk's sectors. Condition: the tables of sixteen sums and of the kinds' sizes stand in their variables.
  The walk of impl.Format: a new disk's sectors. Condition: the tables of sixteen sums and of the kinds' sizes stand in their variables.
  A region that draws its order, walked once: one condition on what has come up, what it has left, and the world; each operation keeps it; so whatever order is drawn, it holds at the end. At any program. No condition.
  A struct of many cells that is loaded whole and stored whole in a plain region: one step each, however long it is. No condition.
  Two regions that each exact law has, at any program: an argument laid anew and put into a box; what stands in the box compared with the argument laid anew. One step an operation, however long the structs are. No condition.
-/
import Derived.WalkKit
import Derived.Laws.BytesArg
import Derived.Laws.BitsAllLaws
import Derived.Deep.QuietTactic
import Derived.BigQuiet
import Derived.WalkLawsBesides
import Derived.Test.YtlbfcnpnfoapnaaGreatDoorRows
import Derived.WalkSpells
import Derived.Outline
import Derived.Test.YtlbfcnpnfoapnaaGreatDoorOwn
import Derived.Test.YtlbfcnpnfoapnaaGreatDoorJoin1
import Derived.Test.YtlbfcnpnfoapnaaGreatDoorSectorWalks
import Derived.Test.YtlbfcnpnfoapnaaGreatDoorJoin5
import Derived.Deep.RegionHeldLaw
import Derived.WalkSmall
import Derived.RegionTactic
import Derived.Deep.MidRow
import Derived.OrdersHeld
namespace Go.Proofs.YtlbfcnpnfoapnaaGreatDoor.Draw
open Go.RowKit

/-- The next mixing number. -/
def hB (h : Int) : Int := wrap64 (wrap64 (h * 6364136223846793005) + 1442695040888963407)
/-- The byte that it gives. -/
def xB (h : Int) : Int := bits .and .i64 (bits .xor .i64 (h / 8589934592) (h / 35184372088832)) 255
/-- The byte with one of the code. -/
def nbx (zs : List Int) (i : Nat) (h : Int) : Int := if i < zs.length then bits .and .i64 (wrap64 (xB (hB h) + wrap64 (zs[i]?.getD 0))) 255 else xB (hB h)
def nbi (zs : List Int) (i : Nat) : Nat := if i < zs.length then i + 1 else i

/-- The cursor stands at block cb over the code whose bytes are zs. -/
structure Env (w : World) (cb : Nat) (a : Option Addr) (len cap : Nat) (zs : List Int) (i : Nat) (h : Int) : Prop where
  blk : w.heap[cb]? = some (.cells #[.slice a len cap, .int .i64 (i : Int), .int .i64 h] 110 (0, 0))
  hi : i ≤ len
  hl : zs.length = len
  hb : len ≤ 1048576
  z : ∀ n ∈ zs, 0 ≤ n ∧ n ≤ 255
  code : ∀ j, j < len → ∃ b off, a = some ⟨b, off, none⟩ ∧ b ≠ cb ∧ w.cell? ⟨b, off + j, none⟩ = some (.int .u8 (zs.getD j 0))

theorem and_mask (n : Int) : bits .and .i64 n 255 = n % 256 := by
  have hm : (BitVec.ofInt 64 255).toNat = 2 ^ 8 - 1 := by decide
  have key : (BitVec.ofInt 64 n &&& BitVec.ofInt 64 255).toNat = (n % ((2 ^ 64 : Nat) : Int)).toNat % 2 ^ 8 := by
    rw [BitVec.toNat_and, BitVec.toNat_ofInt, hm, Nat.and_two_pow_sub_one_eq_mod]
  show IntKind.i64.wrap ((BitVec.ofInt 64 n &&& BitVec.ofInt 64 255).toNat : Nat) = n % 256
  rw [key, IntKind.wrap_i64]
  omega

theorem and255 (y : Int) : 0 ≤ bits .and .i64 y 255 ∧ bits .and .i64 y 255 ≤ 255 := by
  rw [and_mask]; omega

theorem xB_bd (h : Int) : 0 ≤ xB h ∧ xB h ≤ 255 := and255 _

theorem nbx_bd (zs : List Int) (i : Nat) (h : Int) : 0 ≤ nbx zs i h ∧ nbx zs i h ≤ 255 := by
  unfold nbx; split
  · exact and255 _
  · exact xB_bd _

theorem z_bd {zs : List Int} (h : ∀ n ∈ zs, 0 ≤ n ∧ n ≤ 255) (i : Nat) : 0 ≤ zs.getD i 0 ∧ zs.getD i 0 ≤ 255 := by
  rw [List.getD]
  by_cases hi : i < zs.length
  · rw [List.getElem?_eq_getElem hi]; exact h _ (List.getElem_mem hi)
  · rw [List.getElem?_eq_none (by omega)]; simp

theorem grown_trans {w w1 w2 : World} {r : Option Nat} (h : w.grownBy w1 r) (k : w1.grownBy w2 r) : w.grownBy w2 r :=
  ⟨k.os.trans h.os, k.tape.trans h.tape, k.output.trans h.output, Nat.le_trans h.size k.size, fun i hi hr => (k.block i (Nat.lt_of_lt_of_le hi h.size) hr).trans (h.block i hi hr)⟩

theorem Env.c0 {w : World} {cb : Nat} {a : Option Addr} {len cap : Nat} {zs : List Int} {i : Nat} {h : Int} (E : Env w cb a len cap zs i h) : w.cell? ⟨cb, 0, none⟩ = some (.slice a len cap) := by
  rw [cell_of_row w cb 0 _ _ (0, 0) E.blk]; rfl
theorem Env.c1 {w : World} {cb : Nat} {a : Option Addr} {len cap : Nat} {zs : List Int} {i : Nat} {h : Int} (E : Env w cb a len cap zs i h) : w.cell? ⟨cb, 1, none⟩ = some (.int .i64 (i : Int)) := by
  rw [cell_of_row w cb 1 _ _ (0, 0) E.blk]; rfl
theorem Env.c2 {w : World} {cb : Nat} {a : Option Addr} {len cap : Nat} {zs : List Int} {i : Nat} {h : Int} (E : Env w cb a len cap zs i h) : w.cell? ⟨cb, 2, none⟩ = some (.int .i64 h) := by
  rw [cell_of_row w cb 2 _ _ (0, 0) E.blk]; rfl
theorem Env.f {w : World} {cb : Nat} {a : Option Addr} {len cap : Nat} {zs : List Int} {i : Nat} {h : Int} (E : Env w cb a len cap zs i h) (j : Nat) : w.frozen? ⟨cb, j, none⟩ = false :=
  frozen_of_row w cb j _ _ E.blk

theorem grown_set (w : World) (cb j : Nat) (u : Value) : w.grownBy (w.setCell ⟨cb, j, none⟩ u) (some cb) :=
  ⟨rfl, rfl, rfl, by simp, fun k _ hk => heap_setCell_other w ⟨cb, j, none⟩ k u (fun e => hk (by simp [e]))⟩

theorem grown_drewN (w : World) (n : Nat) (r : Option Nat) : w.grownBy (w.drewN n) r := ⟨rfl, rfl, rfl, Nat.le_refl _, fun _ _ _ => rfl⟩

/-- The code's bytes are where they were. -/
theorem Env.move {w w' : World} {cb : Nat} {a : Option Addr} {len cap : Nat} {zs : List Int} {i i' : Nat} {h h' : Int} (E : Env w cb a len cap zs i h) (hg : w.grownBy w' (some cb)) (hi' : i' ≤ len)
    (hb : w'.heap[cb]? = some (.cells #[.slice a len cap, .int .i64 (i' : Int), .int .i64 h'] 110 (0, 0))) : Env w' cb a len cap zs i' h' := by
  refine ⟨hb, hi', E.hl, E.hb, E.z, fun j hj => ?_⟩
  obtain ⟨b, off, e, hne, hc⟩ := E.code j hj
  exact ⟨b, off, e, hne, hg.cell hc (by simpa using hne)⟩

/-- Behind a byte that takes one of the code. -/
theorem Env.in_ {w : World} {cb : Nat} {a : Option Addr} {len cap : Nat} {zs : List Int} {i : Nat} {h : Int} (E : Env w cb a len cap zs i h) (hlt : i < len) (h' : Int) (n1 : Nat) :
    Env (((w.setCell ⟨cb, 2, none⟩ (.int .i64 h')).drewN n1).setCell ⟨cb, 1, none⟩ (.int .i64 ((i : Int) + 1))) cb a len cap zs (i + 1) h' ∧
    w.grownBy (((w.setCell ⟨cb, 2, none⟩ (.int .i64 h')).drewN n1).setCell ⟨cb, 1, none⟩ (.int .i64 ((i : Int) + 1))) (some cb) := by
  have g : w.grownBy (((w.setCell ⟨cb, 2, none⟩ (.int .i64 h')).drewN n1).setCell ⟨cb, 1, none⟩ (.int .i64 ((i : Int) + 1))) (some cb) :=
    grown_trans (grown_trans (grown_set w cb 2 _) (grown_drewN _ n1 _)) (grown_set _ cb 1 _)
  refine ⟨E.move g (by omega) ?_, g⟩
  have b1 := heap_setCell_same w cb 2 _ _ (.int .i64 h') E.blk
  have b2 := heap_setCell_same ((w.setCell ⟨cb, 2, none⟩ (.int .i64 h')).drewN n1) cb 1 _ _ (.int .i64 ((i : Int) + 1)) b1
  simpa using b2

/-- Behind a byte that takes none. -/
theorem Env.out_ {w : World} {cb : Nat} {a : Option Addr} {len cap : Nat} {zs : List Int} {i : Nat} {h : Int} (E : Env w cb a len cap zs i h) (h' : Int) (n1 n2 : Nat) :
    Env (((w.setCell ⟨cb, 2, none⟩ (.int .i64 h')).drewN n1).drewN n2) cb a len cap zs i h' ∧ w.grownBy (((w.setCell ⟨cb, 2, none⟩ (.int .i64 h')).drewN n1).drewN n2) (some cb) := by
  have g : w.grownBy (((w.setCell ⟨cb, 2, none⟩ (.int .i64 h')).drewN n1).drewN n2) (some cb) := grown_trans (grown_trans (grown_set w cb 2 _) (grown_drewN _ n1 _)) (grown_drewN _ n2 _)
  refine ⟨E.move g E.hi ?_, g⟩
  have b1 := heap_setCell_same w cb 2 _ _ (.int .i64 h') E.blk
  simpa using b1

end Go.Proofs.YtlbfcnpnfoapnaaGreatDoor.Draw

namespace Go.Proofs.YtlbfcnpnfoapnaaGreatDoor.Draw
open Go.RowKit
set_option linter.unusedVariables false

set_option maxRecDepth 100000 in
set_option maxHeartbeats 2000000 in
theorem byte_in (w : World) (cb : Nat) (a : Option Addr) (len cap : Nat) (zs : List Int) (i : Nat) (h : Int) (E : Env w cb a len cap zs i h) (hlt : i < len) :
    Calls Tryz.prog 76 #[.pointer (some ⟨cb, 0, none⟩)] w fun e w' => e = .returned (.int .i64 (nbx zs i h)) ∧ Env w' cb a len cap zs (i + 1) (hB h) ∧ w.grownBy w' (some cb) := by
  have c0 := E.c0
  have c1 := E.c1
  have c2 := E.c2
  have f1 := E.f 1
  have f2 := E.f 2
  obtain ⟨b, off, rfl, hne, hcell⟩ := E.code i hlt
  have hb := E.hb
  have hz := z_bd E.z i
  have HE : Hid _ := E
  clear E
  have hx := and255 (bits .xor .i64 (wrap64 (wrap64 (h * 6364136223846793005) + 1442695040888963407) / 8589934592) (wrap64 (wrap64 (h * 6364136223846793005) + 1442695040888963407) / 35184372088832))
  go_enter Tryz.func76, Tryz.ntmps76
  go_wp2
  go_quiet (fail)
  go_wp2
  go_quiet (fail)
  go_wp2
  go_quiet (fail)
  go_wp2
  go_ret
  refine ⟨?_, (HE.out.in_ hlt (hB h) _).1, (HE.out.in_ hlt (hB h) _).2⟩
  unfold nbx
  rw [if_pos (by rw [HE.out.hl]; exact hlt)]
  rfl

set_option maxRecDepth 100000 in
set_option maxHeartbeats 2000000 in
theorem byte_out (w : World) (cb : Nat) (a : Option Addr) (len cap : Nat) (zs : List Int) (i : Nat) (h : Int) (E : Env w cb a len cap zs i h) (hlt : ¬ i < len) :
    Calls Tryz.prog 76 #[.pointer (some ⟨cb, 0, none⟩)] w fun e w' => e = .returned (.int .i64 (nbx zs i h)) ∧ Env w' cb a len cap zs i (hB h) ∧ w.grownBy w' (some cb) := by
  have c0 := E.c0
  have c1 := E.c1
  have c2 := E.c2
  have f1 := E.f 1
  have f2 := E.f 2
  have hb := E.hb
  have hle : (len : Int) ≤ (i : Int) := by omega
  have HE : Hid _ := E
  clear E
  go_enter Tryz.func76, Tryz.ntmps76
  go_wp2
  go_quiet (fail)
  go_wp2
  go_quiet (fail)
  go_wp2
  go_ret
  refine ⟨?_, (HE.out.out_ (hB h) _ _).1, (HE.out.out_ (hB h) _ _).2⟩
  unfold nbx
  rw [if_neg (by rw [HE.out.hl]; exact hlt)]
  rfl

/-- One byte, in both ways. -/
theorem byte_any (w : World) (cb : Nat) (a : Option Addr) (len cap : Nat) (zs : List Int) (i : Nat) (h : Int) (E : Env w cb a len cap zs i h) :
    Calls Tryz.prog 76 #[.pointer (some ⟨cb, 0, none⟩)] w fun e w' => e = .returned (.int .i64 (nbx zs i h)) ∧ Env w' cb a len cap zs (nbi zs i) (hB h) ∧ w.grownBy w' (some cb) := by
  unfold nbi
  by_cases hlt : i < len
  · rw [if_pos (by rw [E.hl]; exact hlt)]; exact byte_in w cb a len cap zs i h E hlt
  · rw [if_neg (by rw [E.hl]; exact hlt)]; exact byte_out w cb a len cap zs i h E hlt

end Go.Proofs.YtlbfcnpnfoapnaaGreatDoor.Draw

namespace Go.Proofs.YtlbfcnpnfoapnaaGreatDoor.Draw
open Go.RowKit
set_option linter.unusedVariables false

/-- A call that draws a number: one answer, whatever the world, and the cursor behind it. -/
def Draws (f : FuncId) (more : List Value) (zs : List Int) (i : Nat) (h : Int) (r : Value) (i' : Nat) (h' : Int) : Prop :=
  ∀ (w : World) (cb : Nat) (a : Option Addr) (len cap : Nat), Env w cb a len cap zs i h →
    Calls Tryz.prog f (.pointer (some ⟨cb, 0, none⟩) :: more).toArray w fun e w' => e = .returned r ∧ Env w' cb a len cap zs i' h' ∧ w.grownBy w' (some cb)

theorem byte_draws (zs : List Int) (i : Nat) (h : Int) : Draws 76 [] zs i h (.int .i64 (nbx zs i h)) (nbi zs i) (hB h) :=
  fun w cb a len cap E => byte_any w cb a len cap zs i h E

set_option maxRecDepth 100000 in
set_option maxHeartbeats 1000000 in
theorem below_small (zs : List Int) (n : Int) (h0 : 0 < n) (h1 : n ≤ 256) (i : Nat) (h : Int) :
    Draws 51 [.int .i64 n] zs i h (.int .i64 (nbx zs i h % n)) (nbi zs i) (hB h) := by
  intro w cb a len cap E
  have hx := nbx_bd zs i h
  have HB : Hid _ := byte_any w cb a len cap zs i h E
  clear E
  show Calls Tryz.prog 51 #[.pointer (some ⟨cb, 0, none⟩), .int .i64 n] w _
  generalize nbx zs i h = x at *
  go_enter Tryz.func51, Tryz.ntmps51
  go_wp2_with fail
  refine Calls.mono HB.out ?_
  rintro e w1 ⟨rfl, hE, hg⟩
  have HE : Hid _ := hE
  clear hE
  go_wp2
  go_ret
  exact ⟨rfl, HE.out, hg⟩

set_option maxRecDepth 100000 in
set_option maxHeartbeats 2000000 in
theorem below_great (zs : List Int) (n : Int) (h0 : 256 < n) (h1 : n ≤ 1000000000) (i : Nat) (h : Int) :
    ∃ (x : Int) (i' : Nat) (h' : Int), 0 ≤ x ∧ x < n ∧ Draws 51 [.int .i64 n] zs i h (.int .i64 x) i' h' := by
  refine ⟨(nbx zs i h * 16777216 + nbx zs (nbi zs i) (hB h) * 65536 + nbx zs (nbi zs (nbi zs i)) (hB (hB h)) * 256 + nbx zs (nbi zs (nbi zs (nbi zs i))) (hB (hB (hB h)))) % n, nbi zs (nbi zs (nbi zs (nbi zs i))), hB (hB (hB (hB h))), Int.emod_nonneg _ (by omega), Int.emod_lt_of_pos _ (by omega), ?_⟩
  intro w cb a len cap E
  have hx1 := nbx_bd zs i h
  have hx2 := nbx_bd zs (nbi zs i) (hB h)
  have hx3 := nbx_bd zs (nbi zs (nbi zs i)) (hB (hB h))
  have hx4 := nbx_bd zs (nbi zs (nbi zs (nbi zs i))) (hB (hB (hB h)))
  show Calls Tryz.prog 51 #[.pointer (some ⟨cb, 0, none⟩), .int .i64 n] w _
  have HB1 : Hid (∀ w, Env w cb a len cap zs i h → _) := fun w E => byte_any w cb a len cap zs i h E
  have HB2 : Hid (∀ w, Env w cb a len cap zs (nbi zs i) (hB h) → _) := fun w E => byte_any w cb a len cap zs (nbi zs i) (hB h) E
  have HB3 : Hid (∀ w, Env w cb a len cap zs (nbi zs (nbi zs i)) (hB (hB h)) → _) := fun w E => byte_any w cb a len cap zs (nbi zs (nbi zs i)) (hB (hB h)) E
  have HB4 : Hid (∀ w, Env w cb a len cap zs (nbi zs (nbi zs (nbi zs i))) (hB (hB (hB h))) → _) := fun w E => byte_any w cb a len cap zs (nbi zs (nbi zs (nbi zs i))) (hB (hB (hB h))) E
  have HE : Hid _ := E
  clear E
  generalize nbx zs i h = x1 at *
  generalize nbx zs (nbi zs i) (hB h) = x2 at *
  generalize nbx zs (nbi zs (nbi zs i)) (hB (hB h)) = x3 at *
  generalize nbx zs (nbi zs (nbi zs (nbi zs i))) (hB (hB (hB h))) = x4 at *
  go_enter Tryz.func51, Tryz.ntmps51
  go_wp2_with fail
  refine Calls.mono (HB1.out _ HE.out) ?_
  rintro e w1 ⟨rfl, hE1, hg1⟩
  have HE1 : Hid _ := hE1
  have HG1 : Hid _ := hg1
  clear hE1 hg1
  go_wp2_with fail
  refine Calls.mono (HB2.out _ HE1.out) ?_
  rintro e w2 ⟨rfl, hE2, hg2⟩
  have HE2 : Hid _ := hE2
  have HG2 : Hid _ := grown_trans HG1.out hg2
  clear hE2 hg2
  go_wp2_with fail
  refine Calls.mono (HB3.out _ HE2.out) ?_
  rintro e w3 ⟨rfl, hE3, hg3⟩
  have HE3 : Hid _ := hE3
  have HG3 : Hid _ := grown_trans HG2.out hg3
  clear hE3 hg3
  go_wp2_with fail
  refine Calls.mono (HB4.out _ HE3.out) ?_
  rintro e w4 ⟨rfl, hE4, hg4⟩
  have HE4 : Hid _ := hE4
  have HG4 : Hid _ := grown_trans HG3.out hg4
  clear hE4 hg4
  go_wp2
  go_ret
  exact ⟨rfl, HE4.out, HG4.out⟩

/-- One answer, below n. -/
theorem below_draws (zs : List Int) (n : Int) (h0 : 0 < n) (h1 : n ≤ 1000000000) (i : Nat) (h : Int) :
    ∃ (x : Int) (i' : Nat) (h' : Int), 0 ≤ x ∧ x < n ∧ Draws 51 [.int .i64 n] zs i h (.int .i64 x) i' h' := by
  by_cases hn : n ≤ 256
  · have hx := nbx_bd zs i h
    exact ⟨nbx zs i h % n, nbi zs i, hB h, Int.emod_nonneg _ (by omega), Int.emod_lt_of_pos _ h0, below_small zs n h0 hn i h⟩
  · exact below_great zs n (by omega) h1 i h

end Go.Proofs.YtlbfcnpnfoapnaaGreatDoor.Draw

namespace Go.Proofs.YtlbfcnpnfoapnaaGreatDoor.Draw
open Go.RowKit
set_option linter.unusedVariables false

theorem info5 : (Tryz.prog.info? 5).map (fun i => (i.zero, i.size, i.bytes)) = some (some (.int .u8 0), 1, 1) := by kernel_rfl

theorem Env.lt {w : World} {cb : Nat} {a : Option Addr} {len cap : Nat} {zs : List Int} {i : Nat} {h : Int} (E : Env w cb a len cap zs i h) : cb < w.heap.size := by
  rcases Nat.lt_or_ge cb w.heap.size with hh | hh
  · exact hh
  · have := E.blk
    rw [Array.getElem?_eq_none hh] at this; cases this

/-- Nothing below B has turned, and the cursor and the code lie there. -/
theorem Env.below {w0 w w' : World} {cb : Nat} {a : Option Addr} {len cap : Nat} {zs : List Int} {i0 i : Nat} {h0 h : Int} (E0 : Env w0 cb a len cap zs i0 h0) (E : Env w cb a len cap zs i h) (hb : Below w0.heap.size w w') : Env w' cb a len cap zs i h := by
  refine ⟨?_, E.hi, E.hl, E.hb, E.z, fun j hj => ?_⟩
  · rw [hb.block cb E0.lt]; exact E.blk
  · obtain ⟨b, off, e, hne, hc⟩ := E.code j hj
    obtain ⟨b', off', e', _, hc'⟩ := E0.code j hj
    rw [e] at e'
    cases e'
    have hlt : b < w0.heap.size := World.block_lt_of_cell? w0 ⟨b, off + j, none⟩ hc'
    exact ⟨b, off, e, hne, by rw [hb.cell (p := ⟨b, off + j, none⟩) hlt]; exact hc⟩

theorem grown_below {w wr w' : World} {r : Option Nat} (h : w.grownBy wr r) (hb : Below w.heap.size wr w') : w.grownBy w' r :=
  ⟨hb.os.trans h.os, hb.tape.trans h.tape, hb.output.trans h.output, Nat.le_trans h.size hb.size, fun k hk hr => (hb.block k hk).trans (h.block k hk hr)⟩

/-- A byte in the style that was drawn. -/
def adj (st b : Int) : Int := if st = 1 then b % 2 else if st = 2 then 97 + b % 4 else b
theorem adj_bd (st b : Int) (h : 0 ≤ b ∧ b ≤ 255) : 0 ≤ adj st b ∧ adj st b ≤ 255 := by unfold adj; split; · omega
                                                                                        · split <;> omega

/-- The bytes of k rounds, and the cursor behind them. -/
def txL (zs : List Int) (st : Int) : Nat → Nat → Int → List Int
  | 0, _, _ => []
  | k + 1, i, h => adj st (nbx zs i h) :: txL zs st k (nbi zs i) (hB h)
def finI (zs : List Int) : Nat → Nat → Nat
  | 0, i => i
  | k + 1, i => finI zs k (nbi zs i)
def finH : Nat → Int → Int
  | 0, h => h
  | k + 1, h => finH k (hB h)

theorem txL_length (zs : List Int) (st : Int) : ∀ k i h, (txL zs st k i h).length = k
  | 0, _, _ => rfl
  | k + 1, i, h => by simp [txL, txL_length zs st k]

/-- Behind some rounds: l is made, m rounds are left. -/
def TInv (zs : List Int) (st : Int) (n i0 : Nat) (h0 : Int) (l : List Int) (m i : Nat) (h : Int) : Prop :=
  l.length + m = n ∧ l ++ txL zs st m i h = txL zs st n i0 h0 ∧ finI zs m i = finI zs n i0 ∧ finH m h = finH n h0

theorem TInv.start (zs : List Int) (st : Int) (n i0 : Nat) (h0 : Int) : TInv zs st n i0 h0 [] n i0 h0 := ⟨by simp, by simp, rfl, rfl⟩
theorem TInv.more {zs : List Int} {st : Int} {n i0 : Nat} {h0 : Int} {l : List Int} {m i : Nat} {h : Int} (T : TInv zs st n i0 h0 l (m + 1) i h) : TInv zs st n i0 h0 (l ++ [adj st (nbx zs i h)]) m (nbi zs i) (hB h) := by
  obtain ⟨t1, t2, t3, t4⟩ := T
  refine ⟨by simp; omega, ?_, t3, t4⟩
  rw [List.append_assoc]; exact t2
theorem TInv.done {zs : List Int} {st : Int} {n i0 : Nat} {h0 : Int} {l : List Int} {i : Nat} {h : Int} (T : TInv zs st n i0 h0 l 0 i h) : l = txL zs st n i0 h0 ∧ i = finI zs n i0 ∧ h = finH n h0 := by
  obtain ⟨_, t2, t3, t4⟩ := T
  simp only [txL, List.append_nil] at t2
  exact ⟨t2, t3, t4⟩

end Go.Proofs.YtlbfcnpnfoapnaaGreatDoor.Draw

namespace Go.Proofs.YtlbfcnpnfoapnaaGreatDoor.Draw
open Go.RowKit
set_option linter.unusedVariables false

/-- The mixing number behind k bytes. -/
def hN (zs : List Int) (n : Nat) : Nat → Int
  | 0 => 10101 + (n : Int)
  | k + 1 => bits .and .i64 (wrap64 (wrap64 (wrap64 (hN zs n k * 131) + wrap64 (zs[k]?.getD 0)) + 7)) 1073741823

/-- The code, as it came. -/
structure Code (w : World) (a : Option Addr) (len cap : Nat) (zs : List Int) : Prop where
  hl : zs.length = len
  hb : len ≤ 1048576
  z : ∀ n ∈ zs, 0 ≤ n ∧ n ≤ 255
  code : ∀ j, j < len → ∃ b off, a = some ⟨b, off, none⟩ ∧ w.cell? ⟨b, off + j, none⟩ = some (.int .u8 (zs.getD j 0))

theorem Code.below {w w' : World} {a : Option Addr} {len cap : Nat} {zs : List Int} (C : Code w a len cap zs) (hb : Below w.heap.size w w') : Code w' a len cap zs := by
  refine ⟨C.hl, C.hb, C.z, fun j hj => ?_⟩
  obtain ⟨b, off, e, hc⟩ := C.code j hj
  exact ⟨b, off, e, by rw [hb.cell (p := ⟨b, off + j, none⟩) (World.block_lt_of_cell? w ⟨b, off + j, none⟩ hc)]; exact hc⟩

theorem new_env (w : World) (a : Option Addr) (len cap : Nat) (zs : List Int) (C : Code w a len cap zs) (h : Int) :
    Env (w.alloc (.cells #[.slice a len cap, .int .i64 0, .int .i64 h] 110)) w.heap.size a len cap zs 0 h := by
  have hb : Below w.heap.size w (w.alloc (.cells #[.slice a len cap, .int .i64 0, .int .i64 h] 110)) := (Below.refl _ _).alloc (Nat.le_refl _) _
  refine ⟨heap_alloc_new w _, Nat.zero_le _, C.hl, C.hb, C.z, fun j hj => ?_⟩
  obtain ⟨b, off, e, hc⟩ := C.code j hj
  have hlt : b < w.heap.size := World.block_lt_of_cell? w ⟨b, off + j, none⟩ hc
  exact ⟨b, off, e, by omega, by rw [hb.cell (p := ⟨b, off + j, none⟩) hlt]; exact hc⟩

set_option maxRecDepth 100000 in
set_option maxHeartbeats 2000000 in
theorem new_any (w : World) (a : Option Addr) (len cap : Nat) (zs : List Int) (C : Code w a len cap zs) :
    Calls Tryz.prog 50 #[.slice a len cap] w fun e w' => e = .returned (.pointer (some ⟨w.heap.size, 0, none⟩)) ∧ Env w' w.heap.size a len cap zs 0 (hN zs len (min len 4000)) ∧ Below w.heap.size w w' := by
  have hb := C.hb
  have HC := Own.hid C
  clear C
  go_enter Tryz.func50, Tryz.ntmps50
  go_wp2
  go_loop [3, 4] (fun x i => ∃ k : Nat, k ≤ len ∧ k ≤ 4000 ∧ i = .int .i64 (k : Int) ∧ x = .int .i64 (hN zs len k)) (fun _ i => len - (intOf i).toNat)
  case atStart => exact ⟨0, Nat.zero_le _, Nat.zero_le _, rfl, rfl⟩
  case round =>
    obtain ⟨k, hk, hk4, rfl, rfl⟩ := hrel
    by_cases hlt : k < len ∧ k < 4000
    · obtain ⟨hl1, hl2⟩ := hlt
      obtain ⟨b, off, rfl, hc⟩ := HC.out.code k hl1
      have HS := Own.hid (show hN zs len (k + 1) = bits .and .i64 (wrap64 (wrap64 (wrap64 (hN zs len k * 131) + wrap64 (zs[k]?.getD 0)) + 7)) 1073741823 from rfl)
      generalize hN zs len k = x at *
      go_wp2
      go_round
      case rel => exact ⟨k + 1, by omega, by omega, by go_num, by rw [HS.out]⟩
      case measure => simp [intOf]; omega
    · have Hk := Own.hid (show k = min len 4000 by omega)
      have HE := Own.hid (new_env w a len cap zs HC.out (hN zs len k))
      by_cases hl1 : (k : Int) < (len : Int)
      · have hl2 : ¬ (k : Int) < 4000 := by omega
        clear hlt
        go_wp2
        go_ret
        exact ⟨rfl, by rw [← Hk.out]; exact HE.out, (Below.refl _ _).alloc (Nat.le_refl _) _⟩
      · clear hlt
        go_wp2
        go_ret
        exact ⟨rfl, by rw [← Hk.out]; exact HE.out, (Below.refl _ _).alloc (Nat.le_refl _) _⟩

theorem info3 : (Tryz.prog.info? 3).map (fun i => (i.zero, i.size, i.bytes)) = some (some (.int .i64 0), 1, 8) := by kernel_rfl

/-- The numbers at limits that l1Num picks from. -/
def limits : List Int := [-1, 0, 127, 128, 255, 256, 16383, 16384, 65535, 65536, 562949953421311, 562949953421312, 999999999, 1000000000, -999999999, 9223372036854775807, -9223372036854775808]

theorem limits_bd (k : Nat) : -9223372036854775808 ≤ limits.getD k 0 ∧ limits.getD k 0 ≤ 9223372036854775807 := by
  by_cases h : k < 17
  · have : ∀ j : Fin 17, -9223372036854775808 ≤ limits.getD j.val 0 ∧ limits.getD j.val 0 ≤ 9223372036854775807 := by decide
    exact this ⟨k, h⟩
  · rw [List.getD, List.getElem?_eq_none (by show 17 ≤ k; omega)]; decide

theorem Env.alloc {w : World} {cb : Nat} {a : Option Addr} {len cap : Nat} {zs : List Int} {i : Nat} {h : Int} (E : Env w cb a len cap zs i h) (o : Obj) : Env (w.alloc o) cb a len cap zs i h :=
  E.below E ((Below.refl _ _).alloc (Nat.le_refl _) _)

/-- The block of the seventeen numbers. -/
theorem limit_cells (w : World) : ∀ j, j < 17 → (w.alloc (.cells #[.int .i64 (-1), .int .i64 0, .int .i64 127, .int .i64 128, .int .i64 255, .int .i64 256, .int .i64 16383, .int .i64 16384, .int .i64 65535, .int .i64 65536, .int .i64 562949953421311, .int .i64 562949953421312, .int .i64 999999999, .int .i64 1000000000, .int .i64 (-999999999), .int .i64 9223372036854775807, .int .i64 (-9223372036854775808)] 3)).cell? ⟨w.heap.size, j, none⟩ = some (.int .i64 (limits.getD j 0)) := by
  intro j hj
  rw [cell_of_row _ w.heap.size j _ _ (0, 0) (heap_alloc_new w _)]
  have : j = 0 ∨ j = 1 ∨ j = 2 ∨ j = 3 ∨ j = 4 ∨ j = 5 ∨ j = 6 ∨ j = 7 ∨ j = 8 ∨ j = 9 ∨ j = 10 ∨ j = 11 ∨ j = 12 ∨ j = 13 ∨ j = 14 ∨ j = 15 ∨ j = 16 := by omega
  rcases this with rfl | rfl | rfl | rfl | rfl | rfl | rfl | rfl | rfl | rfl | rfl | rfl | rfl | rfl | rfl | rfl | rfl <;> rfl

end Go.Proofs.YtlbfcnpnfoapnaaGreatDoor.Draw

namespace Go.Proofs.YtlbfcnpnfoapnaaGreatDoor.Ff
open Go.RowKit Go.Proofs.YtlbfcnpnfoapnaaGreatDoor.Mem Go.Proofs.YtlbfcnpnfoapnaaGreatDoor.Pl
set_option linter.unusedVariables false

theorem below_own {w w1 w2 : World} (hb : Below w.heap.size w w1) (hg : w1.grownBy w2 (some w.heap.size)) : Below w.heap.size w w2 :=
  hb.grown hg hb.size (fun k e => by cases e; exact Nat.le_refl _)

set_option maxRecDepth 100000 in
set_option maxHeartbeats 1000000 in
theorem drawSector (w : World) (a : Option Addr) (len cap : Nat) (zs : List Int) (C : Draw.Code w a len cap zs) :
    Calls Tryz.prog 24 #[.slice a len cap] w fun e w' => ∃ k i : Int, (-1 ≤ k ∧ k ≤ 6) ∧ (-1 ≤ i ∧ i ≤ 19) ∧ e = .returned (.tuple #[.int .i64 k, .int .i64 i]) ∧ Below w.heap.size w w' := by
  have HC := hid C
  clear C
  go_enter Tryz.func24, Tryz.ntmps24
  go_wp2_with fail
  refine (Draw.new_any w a len cap zs HC.out).mono ?_
  rintro e w1 ⟨rfl, hE, hb⟩
  have HE := hid hE
  have HB := hid hb
  clear hE hb
  obtain ⟨x, i1, h1, hx0, hx1, d1⟩ := Draw.below_draws zs 8 (by omega) (by omega) 0 (Draw.hN zs len (min len 4000))
  obtain ⟨y, i2, h2, hy0, hy1, d2⟩ := Draw.below_draws zs 21 (by omega) (by omega) i1 h1
  have HD1 := hid d1
  have HD2 := hid d2
  clear d1 d2
  go_wp2_with fail
  refine (HD1.out w1 w.heap.size a len cap HE.out).mono ?_
  rintro e w2 ⟨rfl, hE, hg⟩
  have HE2 := hid hE
  have HB2 := hid (below_own HB.out hg)
  clear hE hg
  go_wp2_with fail
  refine (HD2.out w2 w.heap.size a len cap HE2.out).mono ?_
  rintro e w3 ⟨rfl, hE, hg⟩
  have HB3 := hid (below_own HB2.out hg)
  clear hE hg
  go_wp2
  go_ret2
  exact ⟨x - 1, y - 1, by omega, by omega, rfl, HB3.out⟩

set_option maxRecDepth 100000 in
set_option maxHeartbeats 1000000 in
theorem bigF (w : World) (a : Option Addr) (len cap : Nat) (hl : len ≤ maxLen) :
    Calls Tryz.prog 23 #[.slice a len cap] w fun e w' => e = .returned (.bool (decide (1048576 < (len : Int)))) ∧ w' = w := by
  have hl' : (len : Int) ≤ 9223372036854775807 := by unfold maxLen at hl; omega
  by_cases g : 1048576 < (len : Int)
  · rw [decide_eq_true g]
    go_enter Tryz.func23, Tryz.ntmps23
    go_wp2
    go_ret
    exact ⟨rfl, rfl⟩
  · rw [decide_eq_false g]
    go_enter Tryz.func23, Tryz.ntmps23
    go_wp2
    go_ret
    exact ⟨rfl, rfl⟩

/-- What a law takes of its code at a place. -/
def atV (zs : List Int) (len i : Nat) : Nat := if i < len then (zs.getD i 0).toNat else (i * 37 + len * 11) % 256

set_option maxRecDepth 100000 in
set_option maxHeartbeats 1000000 in
theorem atF (w : World) (a : Option Addr) (len cap : Nat) (zs : List Int) (C : Draw.Code w a len cap zs) (i : Nat) (hi : i ≤ 1000) :
    Calls Tryz.prog 26 #[.slice a len cap, .int .i64 (i : Int)] w fun e w' => e = .returned (.int .i64 (atV zs len i : Int)) ∧ w' = w := by
  have hl := C.hb
  by_cases hlt : i < len
  · obtain ⟨b, off, rfl, hc⟩ := C.code i hlt
    have hz := C.z (zs.getD i 0) (by have := C.hl; simp [List.getD, show i < zs.length by omega])
    have HV : Hid (atV zs len i = (zs.getD i 0).toNat) := by rw [Hid, atV, if_pos hlt]
    generalize atV zs len i = q at *
    generalize zs.getD i 0 = y at hc hz HV
    obtain ⟨x, rfl⟩ : ∃ x : Nat, y = (x : Int) := ⟨y.toNat, by omega⟩
    have hw8 : IntKind.i64.wrap (x : Int) = (x : Int) := by rw [IntKind.wrap_i64]; omega
    have hlt' : (i : Int) < (len : Int) := by omega
    have hx : x ≤ 255 := by omega
    clear C
    go_enter Tryz.func26, Tryz.ntmps26
    go_wp2
    go_ret
    exact ⟨by rw [HV.out]; rfl, rfl⟩
  · have h1 : IntKind.i64.wrap ((i : Int) * 37) = (i : Int) * 37 := by rw [IntKind.wrap_i64]; omega
    have h2 : IntKind.i64.wrap ((len : Int) * 11) = (len : Int) * 11 := by rw [IntKind.wrap_i64]; omega
    have h3 : IntKind.i64.wrap ((i : Int) * 37 + (len : Int) * 11) = (i : Int) * 37 + (len : Int) * 11 := by rw [IntKind.wrap_i64]; omega
    have HV : Hid (atV zs len i = (i * 37 + len * 11) % 256) := by rw [Hid, atV, if_neg hlt]
    generalize atV zs len i = q at *
    obtain ⟨x, hx⟩ : ∃ x : Nat, x = (i * 37 + len * 11) % 256 := ⟨_, rfl⟩
    have h4 : Int.tmod ((i : Int) * 37 + (len : Int) * 11) 256 = (x : Int) := by rw [Int.tmod_eq_emod_of_nonneg (by omega)]; omega
    have h5 : IntKind.i64.wrap (x : Int) = (x : Int) := by rw [IntKind.wrap_i64]; omega
    have hlt' : ¬ (i : Int) < (len : Int) := by omega
    have HX : Hid (q = x) := by rw [Hid, HV.out, hx]
    clear C hx HV
    go_enter Tryz.func26, Tryz.ntmps26
    go_wp2
    go_ret
    exact ⟨by rw [HX.out]; rfl, rfl⟩

set_option maxRecDepth 100000 in
set_option maxHeartbeats 1000000 in
theorem sameTexts (w : World) (a b : Option Addr) (ca cb : Nat) (l : List ByteArray) (S : Strs w a l) (T : Strs w b l) (hl : l.length ≤ 1000) :
    Calls Tryz.prog 56 #[.slice a l.length ca, .slice b l.length cb] w fun e w' => e = .returned (.bool true) ∧ Below w.heap.size w w' := by
  have HS := hid S
  have HT := hid T
  clear S T
  go_enter Tryz.func56, Tryz.ntmps56
  go_wp2
  go_loopw [5] (fun i wr => ∃ k : Nat, k ≤ l.length ∧ i = .int .i64 (k : Int) ∧ Hid (Below w.heap.size w wr)) (fun i _ => l.length - (intOf i).toNat)
  case atStart => exact ⟨0, Nat.zero_le _, rfl, Below.refl _ _⟩
  case round =>
    obtain ⟨k, hk, rfl, HB⟩ := hrel
    by_cases hlt : k < l.length
    · obtain ⟨b1, o1, rfl, c1⟩ := (Sl.below HS.out HB.out) k hlt
      obtain ⟨b2, o2, rfl, c2⟩ := (Sl.below HT.out HB.out) k hlt
      replace c1 : wr.cell? ⟨b1, o1 + k, none⟩ = some (.string (l.getD k ByteArray.empty)) := c1
      replace c2 : wr.cell? ⟨b2, o2 + k, none⟩ = some (.string (l.getD k ByteArray.empty)) := c2
      generalize l.getD k ByteArray.empty = x at *
      go_wp2
      go_quiet (fail)
      go_wp2
      exact ⟨⟨k + 1, by omega, by go_num, below_drewN HB.out _⟩, by simp [intOf]; omega⟩
    · obtain rfl : k = l.length := by omega
      go_wp2
      go_ret
      exact ⟨rfl, HB.out⟩

set_option maxRecDepth 100000 in
set_option maxHeartbeats 4000000 in
theorem samePool (w : World) (a b : Option Addr) (ca cb : Nat) (L M : List Pv) (S : Pvs w a L) (T : Pvs w b M) (hd : L.map Pv.data = M.map Pv.data) (hl : L.length ≤ 1000) (he : ∀ x ∈ L, x.hs.length ≤ 1000 ∧ x.ts.length ≤ 1000) :
    Calls Tryz.prog 30 #[plV a L.length ca, plV b M.length cb] w fun e w' => e = .returned (.bool true) ∧ Below w.heap.size w w' := by
  unfold plV
  have hlm : L.length = M.length := by have := congrArg List.length hd; simpa using this
  rw [← hlm]
  have HS := hid S
  have HT := hid T
  have HE : Hid (∀ k, k < L.length → (L.getD k Pv.none).data = (M.getD k Pv.none).data ∧ (L.getD k Pv.none).hs.length ≤ 1000 ∧ (L.getD k Pv.none).ts.length ≤ 1000) := fun k hk => by
    have h1 : (L.map Pv.data)[k]? = (M.map Pv.data)[k]? := by rw [hd]
    have hk2 : k < M.length := by omega
    simp only [List.getElem?_map, List.getElem?_eq_getElem hk, List.getElem?_eq_getElem hk2, Option.map_some, Option.some.injEq] at h1
    simp only [List.getD, List.getElem?_eq_getElem hk, List.getElem?_eq_getElem hk2, Option.getD_some]
    exact ⟨h1, he _ (List.getElem_mem hk)⟩
  have HL := hid hlm
  clear S T hd he hlm
  obtain ⟨wa, hwa, ez, A0, C0, B0⟩ := two_new w [.slice a L.length ca] [.slice b L.length cb] 33 33
  have HA := hid A0
  have HC := hid C0
  have HB0 := hid B0
  have k0 := A0.c 0 rfl
  have j0 := C0.c 0 rfl
  clear A0 B0 C0 ez
  go_enter Tryz.func30, Tryz.ntmps30
  go_wp2_with fail
  try simp only [hwa]
  clear hwa
  go_wp2
  clear k0 j0
  go_loopw [5] (fun i wr => ∃ k : Nat, k ≤ L.length ∧ i = .int .i64 (k : Int) ∧ Hid (Below wa.heap.size wa wr)) (fun i _ => L.length - (intOf i).toNat)
  case atStart => exact ⟨0, Nat.zero_le _, rfl, Below.refl _ _⟩
  case round =>
    obtain ⟨k, hk, rfl, HB⟩ := hrel
    have HBw := hid (HB0.out.trans (HB.out.mono HB0.out.size))
    have k0 := (HA.out.below HB.out HA.out.lt).c 0 rfl
    have j0 := (HC.out.below HB.out HC.out.lt).c 0 rfl
    by_cases hlt : k < L.length
    · obtain ⟨b1, o1, rfl, c0, c1, c2, i1, i2⟩ := Pvs.at_ (HS.out.below HBw.out) k hlt
      obtain ⟨b2, o2, rfl, d0, d1, d2, m1, m2⟩ := Pvs.at_ (HT.out.below HBw.out) k (by have := HL.out; omega)
      obtain ⟨hx, hm⟩ := HE.out k hlt
      generalize L.getD k Pv.none = x at c0 c1 c2 i1 i2 hx hm
      generalize M.getD k Pv.none = y at d0 d1 d2 m1 m2 hx
      obtain ⟨on, ha, hc, hs, ta, tc, ts⟩ := x
      obtain ⟨on', ha', hc', hs', ta', tc', ts'⟩ := y
      simp only [Pv.data, Prod.mk.injEq] at hx
      obtain ⟨rfl, rfl, rfl⟩ := hx
      simp only [] at c0 c1 c2 i1 i2 hm d0 d1 d2 m1 m2
      obtain ⟨wb, hwb, eb, A1, B1⟩ := one_new wr [.bool on, .slice ha hs.length hc, .slice ta ts.length tc] 65
      obtain ⟨wc, hwc, ec, A2, B2⟩ := one_new wb [.bool on, .slice ha' hs.length hc', .slice ta' ts.length tc'] 65
      have HA1 := hid (A1.below B2 A1.lt)
      have HA2 := hid A2
      have HBc := hid (HB.out.trans ((B1.trans (B2.mono B1.size)).mono HB.out.size))
      have hbc := B1.trans (B2.mono B1.size)
      have HI1 : Hid (Bls wc ha hs) := Sl.below i1 hbc
      have HI2 : Hid (Strs wc ta ts) := Sl.below i2 hbc
      have HM1 : Hid (Bls wc ha' hs) := Sl.below m1 hbc
      have HM2 : Hid (Strs wc ta' ts) := Sl.below m2 hbc
      have j0b := ((HC.out.below HB.out HC.out.lt).below B1 (HC.out.below HB.out HC.out.lt).lt).c 0 rfl
      have d0b := (World.block_lt_of_cell? _ _ d0)
      have e0 := (B1.cell d0b).trans d0
      have e1 := (B1.cell (p := ⟨b2, o2 + k * 3 + 1, none⟩) d0b).trans d1
      have e2 := (B1.cell (p := ⟨b2, o2 + k * 3 + 2, none⟩) d0b).trans d2
      have f0 := HA1.out.c 0 rfl
      have f1 := HA1.out.c 1 rfl
      have f2 := HA1.out.c 2 rfl
      have g0 := HA2.out.c 0 rfl
      have g1 := HA2.out.c 1 rfl
      have g2 := HA2.out.c 2 rfl
      clear A1 B1 A2 B2 hbc i1 i2 m1 m2 eb ec d0 d1 d2 d0b
      have hson : (on != on) = false := by cases on <;> rfl
      go_wp2_with fail
      try simp only [hwb]
      try simp only [hwc]
      clear hwb hwc
      refine (sameTexts wc ta ta' tc tc' ts HI2.out HM2.out hm.2).mono ?_
      rintro e w5 ⟨rfl, b5⟩
      have HB5 := hid (HBc.out.trans (b5.mono HBc.out.size))
      have HA15 := hid (HA1.out.below b5 HA1.out.lt)
      have HA25 := hid (HA2.out.below b5 HA2.out.lt)
      have HI15 : Hid (Bls w5 ha hs) := Sl.below HI1.out b5
      have HM15 : Hid (Bls w5 ha' hs) := Sl.below HM1.out b5
      have hh := hm.1
      clear b5 f0 f1 f2 g0 g1 g2 c0 c1 c2 e0 e1 e2 k0 j0 j0b HA1 HA2 HI1 HM1 HI2 HM2 hm
      go_wp2
      obtain ⟨x1, hx1⟩ : ∃ x1, wr.heap.size = x1 := ⟨_, rfl⟩
      obtain ⟨x2, hx2⟩ : ∃ x2, wb.heap.size = x2 := ⟨_, rfl⟩
      rw [hx1] at HA15
      rw [hx2] at HA25
      try rw [hx1]
      try rw [hx2]
      clear hx1 hx2
      go_loopw [8] (fun i wr => ∃ j : Nat, j ≤ hs.length ∧ i = .int .i64 (j : Int) ∧ Hid (Below w5.heap.size w5 wr)) (fun i _ => hs.length - (intOf i).toNat)
      case atStart => exact ⟨0, Nat.zero_le _, rfl, Below.refl _ _⟩
      case round =>
        obtain ⟨j, hj, rfl, HBj⟩ := hrel
        have f1 := (HA15.out.below HBj.out HA15.out.lt).c 1 rfl
        have g1 := (HA25.out.below HBj.out HA25.out.lt).c 1 rfl
        by_cases hlj : j < hs.length
        · obtain ⟨p1, q1, rfl, z1⟩ := (Sl.below HI15.out HBj.out) j hlj
          obtain ⟨p2, q2, rfl, z2⟩ := (Sl.below HM15.out HBj.out) j hlj
          replace z1 : _ = some (Value.bool (hs.getD j false)) := z1
          replace z2 : _ = some (Value.bool (hs.getD j false)) := z2
          generalize hs.getD j false = x at *
          have hxx : (x != x) = false := by cases x <;> rfl
          go_wp2
          go_quiet (fail)
          go_wp2
          exact ⟨⟨j + 1, by omega, by go_num, below_drewN HBj.out _⟩, by simp [intOf]; omega⟩
        · obtain rfl : j = hs.length := by omega
          have HBf := hid (HB5.out.trans (HBj.out.mono HB5.out.size))
          go_wp2
          exact ⟨⟨k + 1, by omega, by go_num, HBf⟩, by simp [intOf]; omega⟩
    · obtain rfl : k = L.length := by omega
      go_wp2
      go_ret
      exact ⟨rfl, HBw.out⟩

end Go.Proofs.YtlbfcnpnfoapnaaGreatDoor.Ff

namespace Go.Proofs.YtlbfcnpnfoapnaaGreatDoor.Sector
open Go.RowKit Go.Proofs.YtlbfcnpnfoapnaaGreatDoor.Mem
set_option linter.unusedVariables false

theorem Kinds.below {w w' : World} (T : Kinds w) (hg : 0 < w.heap.size) (b : Below w.heap.size w w') : Kinds w' := fun k hk => by
  rw [b.cell (p := ⟨0, k, none⟩) hg]; exact T k hk

end Go.Proofs.YtlbfcnpnfoapnaaGreatDoor.Sector

namespace Go.Proofs.YtlbfcnpnfoapnaaGreatDoor.Fm
open Go.RowKit Go.Proofs.YtlbfcnpnfoapnaaGreatDoor.Mem Go.Proofs.YtlbfcnpnfoapnaaGreatDoor.Sec
set_option linter.unusedVariables false

theorem ismall0 : J0.Small := ⟨by decide, by decide, by intro x hx; simp [J0] at hx⟩
theorem iouts0 (w : World) : Ous w none J0.outs := fun i hi => by simp [J0] at hi

theorem iints6b (w w1 : World) (b : Below (w.alloc (.cells #[.int .i64 0, .int .i64 0, .int .i64 0, .int .i64 0, .int .i64 0, .int .i64 0] 3)).heap.size (w.alloc (.cells #[.int .i64 0, .int .i64 0, .int .i64 0, .int .i64 0, .int .i64 0, .int .i64 0] 3)) w1) : Ints w1 (some ⟨w.heap.size, 0, none⟩) [0, 0, 0, 0, 0, 0] := Sl.below (ints6 w) b

theorem iShow6 (w : World) (a : Option Addr) (S : Ints w a [0, 0, 0, 0, 0, 0]) (T : Sums w) : Calls Tryz.prog 82 #[.agg #[.int .i64 (-1), .int .i64 0, .slice a 6 6]] w fun r w' => r = .returned (.string (showGroup (-1) 0 [0, 0, 0, 0, 0, 0])) ∧ Below w.heap.size w w' :=
  iShowGroup w (-1) 0 a 6 [0, 0, 0, 0, 0, 0] S (by decide) T

theorem bel_a {w wa : World} (o : Obj) (ba : Below w.drew.heap.size w.drew wa) : Below w.heap.size w (wa.alloc o) := by
  have h : Below w.heap.size w wa := undrew ba
  exact h.alloc h.size o
theorem bel_b {w wa : World} {o : Obj} (ba : Below (w.alloc o).drew.heap.size (w.alloc o).drew wa) : Below w.heap.size w wa := by
  have hb : Below (w.alloc o).heap.size (w.alloc o) wa := undrew ba
  have h : Below w.heap.size w (w.alloc o) := (Below.refl _ w).alloc (Nat.le_refl _) o
  exact h.trans (hb.mono h.size)

theorem beq_no {a b : Int} (h : ¬ a = b) : (a == b) = false := by simpa using h

set_option maxRecDepth 100000 in
set_option maxHeartbeats 1000000 in
theorem freshSector (k : Nat) (hk : k < 6) (w : World) (T : Sums w) : Calls Tryz.prog 52 #[.int .i64 (k : Int)] w fun r w' => r = .returned (.string (fresh k)) ∧ Below w.heap.size w w' := by
  have HT := hid T
  clear T
  have hc : k = 0 ∨ k = 1 ∨ k = 2 ∨ k = 3 ∨ k = 4 ∨ k = 5 := by omega
  clear hk
  rcases hc with rfl | rfl | rfl | rfl | rfl | rfl
  · go_enter Tryz.func52, Tryz.ntmps52
    go_wp2_with fail
    refine (nobody w).mono ?_
    rintro e wa ⟨rfl, ba⟩
    have HB := hid ba
    clear ba
    unfold lsV
    go_wp2_with fail
    refine (iShowHost 0 (-1) 0 wa (HT.out.below HB.out)).mono ?_
    rintro e wn ⟨rfl, bn⟩
    have HBn := hid (HB.out.trans (bn.mono HB.out.size))
    clear bn
    go_wp2
    go_ret
    exact ⟨rfl, HBn.out⟩
  · go_enter Tryz.func52, Tryz.ntmps52
    go_wp2_with fail
    refine (iShowJournal w J0 none 0 (iouts0 _) ismall0 HT.out).mono ?_
    rintro e wn ⟨rfl, bn⟩
    have HBn := hid bn
    clear bn
    go_wp2
    go_ret
    exact ⟨rfl, HBn.out⟩
  · go_enter Tryz.func52, Tryz.ntmps52
    go_wp2_with fail
    refine (iShowFrees w none 0 [] (fun i hi => by simp at hi) (by decide) HT.out).mono ?_
    rintro e wn ⟨rfl, bn⟩
    have HBn := hid bn
    clear bn
    go_wp2
    go_ret
    exact ⟨rfl, HBn.out⟩
  · go_enter Tryz.func52, Tryz.ntmps52
    go_wp2_with fail
    refine (nobody w).mono ?_
    rintro e wa ⟨rfl, ba⟩
    have HB := hid ba
    clear ba
    unfold lsV
    go_wp2_with fail
    refine (noBlocks wa).mono ?_
    rintro e wb ⟨pa, pc, rfl, hI, bb⟩
    have HB2 := hid (HB.out.trans (bb.mono HB.out.size))
    have HI := hid (Wr.sl hI)
    clear bb hI
    go_wp2_with fail
    refine (iShowVol wb (-1) 0 false pa pc [-1, -1, -1, -1] HI.out (by decide) (HT.out.below HB2.out)).mono ?_
    rintro e wn ⟨rfl, bn⟩
    have HBn := hid (HB2.out.trans (bn.mono HB2.out.size))
    clear bn HI
    go_wp2
    go_ret
    exact ⟨rfl, HBn.out⟩
  · have hmk := make6
    go_enter Tryz.func52, Tryz.ntmps52
    go_wp2
    go_region_held_law (fun _ => True) (trivial)
      (first
        | (go_at_call 78; refine (nobody _).mono ?_; rintro e wa ⟨rfl, ba⟩; unfold lsV)
        | (go_at_call 82; first
            | (have hI := ints6 wa; have hB := bel_a (w := w) (.cells #[.int .i64 0, .int .i64 0, .int .i64 0, .int .i64 0, .int .i64 0, .int .i64 0] 3) ba; have hT := HT.out.below hB; (with_reducible refine (iShow6 _ _ hI hT).mono ?_); rintro e wn ⟨rfl, bn⟩; have HBn := hid (hB.trans (bn.mono hB.size)))
            | (have hI := iints6b w wa (undrew ba); have hB := bel_b (w := w) ba; have hT := HT.out.below hB; (with_reducible refine (iShow6 _ _ hI hT).mono ?_); rintro e wn ⟨rfl, bn⟩; have HBn := hid (hB.trans (bn.mono hB.size)))))
    all_goals (go_wp2; go_ret; exact ⟨rfl, HBn.out⟩)
  · go_enter Tryz.func52, Tryz.ntmps52
    go_wp2
    go_ret
    exact ⟨rfl, Below.refl _ _⟩

end Go.Proofs.YtlbfcnpnfoapnaaGreatDoor.Fm

namespace Go.Proofs.YtlbfcnpnfoapnaaGreatDoor.Fm
open Go.RowKit Go.Proofs.YtlbfcnpnfoapnaaGreatDoor.Mem Go.Proofs.YtlbfcnpnfoapnaaGreatDoor.Sec
set_option linter.unusedVariables false

/-- The new row behind p places. -/
def part (p j : Nat) : Value := if j < p then .string (fmt.getD j ⟨#[]⟩) else .string ⟨#[]⟩

theorem part_succ (p : Nat) (x : ByteArray) (h : fmt.getD p ⟨#[]⟩ = x) (j : Nat) : (if j = p then .string x else part p j) = part (p + 1) j := by
  unfold part
  by_cases h1 : j = p
  · subst h1; rw [if_pos rfl, if_pos (by omega), h]
  · by_cases h2 : j < p
    · rw [if_neg h1, if_pos h2, if_pos (by omega)]
    · rw [if_neg h1, if_neg h2, if_neg (by omega)]

/-- Where each kind begins. -/
def off : Nat → Nat
  | 0 => 0
  | 1 => 3
  | 2 => 6
  | 3 => 9
  | 4 => 13
  | 5 => 16
  | _ => 34

theorem infoS : (Tryz.prog.info? 9).map (fun i => (i.zero, i.size, i.bytes)) = some (some (.string ⟨#[]⟩), 1, 16) := by kernel_rfl

theorem make34 (w : World) : (Instr.makeSlice 22 (.int .i64 34) (.int .i64 34)).run Tryz.prog w = .ok (.slice (some ⟨w.heap.size, 0, none⟩) 34 34) (w.alloc (.cells (madeCells #[.string ⟨#[]⟩] 34) 9)) :=
  make_rows (P := Tryz.prog) 22 9 (.string ⟨#[]⟩) 1 16 Tryz.underlying22 infoS .i64 .i64 34 (by decide) (by decide) w

theorem kinds_below {w w' : World} (T : Sector.Kinds w) (hg : 0 < w.heap.size) (b : Below w.heap.size w w') : Sector.Kinds w' := fun k hk => by
  rw [b.cell (p := ⟨0, k, none⟩) hg]; exact T k hk

theorem idx0 (w : World) : (Instr.index 75 (.agg #[.int .i64 3, .int .i64 3, .int .i64 3, .int .i64 4, .int .i64 3, .int .i64 18]) (.int .i64 0)).run Tryz.prog w = .ok (.int .i64 3) w := by kernel_rfl
theorem idx1 (w : World) : (Instr.index 75 (.agg #[.int .i64 3, .int .i64 3, .int .i64 3, .int .i64 4, .int .i64 3, .int .i64 18]) (.int .i64 1)).run Tryz.prog w = .ok (.int .i64 3) w := by kernel_rfl
theorem idx2 (w : World) : (Instr.index 75 (.agg #[.int .i64 3, .int .i64 3, .int .i64 3, .int .i64 4, .int .i64 3, .int .i64 18]) (.int .i64 2)).run Tryz.prog w = .ok (.int .i64 3) w := by kernel_rfl
theorem idx3 (w : World) : (Instr.index 75 (.agg #[.int .i64 3, .int .i64 3, .int .i64 3, .int .i64 4, .int .i64 3, .int .i64 18]) (.int .i64 3)).run Tryz.prog w = .ok (.int .i64 4) w := by kernel_rfl
theorem idx4 (w : World) : (Instr.index 75 (.agg #[.int .i64 3, .int .i64 3, .int .i64 3, .int .i64 4, .int .i64 3, .int .i64 18]) (.int .i64 4)).run Tryz.prog w = .ok (.int .i64 3) w := by kernel_rfl
theorem idx5 (w : World) : (Instr.index 75 (.agg #[.int .i64 3, .int .i64 3, .int .i64 3, .int .i64 4, .int .i64 3, .int .i64 18]) (.int .i64 5)).run Tryz.prog w = .ok (.int .i64 18) w := by kernel_rfl

theorem lit0 : ((0 : Nat) : Int) = 0 := rfl
theorem lit1 : ((1 : Nat) : Int) = 1 := rfl
theorem lit2 : ((2 : Nat) : Int) = 2 := rfl
theorem lit3 : ((3 : Nat) : Int) = 3 := rfl
theorem lit4 : ((4 : Nat) : Int) = 4 := rfl
theorem lit5 : ((5 : Nat) : Int) = 5 := rfl

set_option maxRecDepth 100000 in
set_option maxHeartbeats 4000000 in
theorem iFormat (w : World) (T : Sums w) (K : Sector.Kinds w) (hg : 0 < w.heap.size) :
    Calls Tryz.prog 27 #[] w fun r w' => ∃ g, r = .returned (.slice (some ⟨g, 0, none⟩) 34 34) ∧ w.heap.size ≤ g ∧ StrsW w' w.heap.size (some ⟨g, 0, none⟩) fmt ∧ Below w.heap.size w w' := by
  have HT := hid T
  have HK := hid K
  have HG := hid hg
  have hmk := make34
  obtain ⟨wm, hwm, em, Bm⟩ : ∃ wm, w.alloc (.cells (madeCells #[.string ⟨#[]⟩] 34) 9) = wm ∧ wm.heap.size = w.heap.size + 1 ∧ Below w.heap.size w wm := ⟨_, rfl, by simp, (Below.refl _ _).alloc (Nat.le_refl _) _⟩
  have HW : Hid (Wr wm w.heap.size (some ⟨w.heap.size, 0, none⟩) 34 (part 0)) := by
    rw [← hwm]
    exact (wr_made w (.string ⟨#[]⟩) 34 9).congr (fun j _ => by unfold part; rw [if_neg (by omega)])
  have HBm := hid Bm
  have HKm := hid (kinds_below K hg Bm)
  clear T K hg Bm
  have g0 : wm.cell? ⟨0, 0, none⟩ = some (.int .i64 3) := HKm.out 0 (by decide)
  have g1 : wm.cell? ⟨0, 1, none⟩ = some (.int .i64 3) := HKm.out 1 (by decide)
  have g2 : wm.cell? ⟨0, 2, none⟩ = some (.int .i64 3) := HKm.out 2 (by decide)
  have g3 : wm.cell? ⟨0, 3, none⟩ = some (.int .i64 4) := HKm.out 3 (by decide)
  have g4 : wm.cell? ⟨0, 4, none⟩ = some (.int .i64 3) := HKm.out 4 (by decide)
  have g5 : wm.cell? ⟨0, 5, none⟩ = some (.int .i64 18) := HKm.out 5 (by decide)
  go_enter Tryz.func27, Tryz.ntmps27
  go_wp2
  clear hmk hwm g0 g1 g2 g3 g4 g5
  go_loopw [7] (fun i wr => ∃ k : Nat, k ≤ 6 ∧ i = .int .i64 (k : Int) ∧ Hid (Wr wr w.heap.size (some ⟨w.heap.size, 0, none⟩) 34 (part (off k))) ∧ Hid (Below w.heap.size w wr)) (fun i _ => 6 - (intOf i).toNat)
  case atStart => exact ⟨0, Nat.zero_le _, rfl, HW, HBm⟩
  case round =>
    obtain ⟨k, hk, rfl, HWr, HBr⟩ := hrel
    clear HW
    by_cases hlt : k < 6
    · obtain ⟨wo, hwo⟩ : ∃ wo, wo = wr := ⟨_, rfl⟩
      subst hwo
      have hc : k = 0 ∨ k = 1 ∨ k = 2 ∨ k = 3 ∨ k = 4 ∨ k = 5 := by omega
      clear hlt hk
      rcases hc with rfl | rfl | rfl | rfl | rfl | rfl
      · simp only [lit0]
        have hix := idx0
        go_wp2
        clear hix
        go_loopw [12] (fun i wr => ∃ m : Nat, m ≤ 3 ∧ i = .int .i64 (m : Int) ∧ Hid (Wr wr w.heap.size (some ⟨w.heap.size, 0, none⟩) 34 (part (0 + m))) ∧ Hid (Below w.heap.size w wr)) (fun i _ => 3 - (intOf i).toNat)
        case atStart => exact ⟨0, Nat.zero_le _, rfl, HWr, HBr⟩
        case round =>
          obtain ⟨m, hm, rfl, HW', HB'⟩ := hrel
          by_cases hlt : m < 3
          · have HS : Hid (Sector.sectorOf 0 (m : Int) = ((0 + m : Nat) : Int)) := by
              have h1 := Sector.yes 0 (m : Int) (by decide) (by omega) (by show (m : Int) < 3; omega)
              have h2 : Sector.S 0 = 0 := by decide
              rw [h2] at h1
              have h3 : Sector.sectorOf 0 (m : Int) = (m : Int) + 0 := h1
              rw [Hid, h3]; omega
            have HX : Hid (fmt.getD (0 + m) ⟨#[]⟩ = fresh 0) := by
              have hc : m = 0 ∨ m = 1 ∨ m = 2 := by omega
              rcases hc with rfl | rfl | rfl <;> rfl
            obtain ⟨p, hp⟩ : ∃ p, p = 0 + m := ⟨_, rfl⟩
            have hp34 : p < 34 := by omega
            have HP := hid hp
            rw [← hp] at HW' HS HX
            clear hp
            go_wp2_with fail
            refine (Sector.impl_sector 0 (m : Int) wr (kinds_below HK.out HG.out HB'.out)).mono ?_
            rintro e w1 ⟨rfl, hw1⟩
            obtain rfl := hw1.symm
            rw [HS.out]
            go_wp2_with fail
            refine (freshSector 0 (by decide) wr (HT.out.below HB'.out)).mono ?_
            rintro e w2 ⟨rfl, b2⟩
            have HW2 := hid (HW'.out.below b2)
            have HB2 := hid (HB'.out.trans (b2.mono HB'.out.size))
            clear b2
            obtain ⟨b, off', e, _, hc, hf⟩ := HW2.out p hp34
            cases e
            rw [Nat.zero_add] at hc hf
            have HN := hid (HW2.out.set p hp34 (.string (fresh 0)))
            go_wp2
            refine ⟨⟨m + 1, by omega, by go_num, ?_, below_set HB2.out w.heap.size p _ (Nat.le_refl _)⟩, by simp [intOf]; omega⟩
            have h0 := HN.out
            rw [Nat.zero_add] at h0
            rw [show 0 + (m + 1) = p + 1 by have := HP.out; omega]
            exact h0.congr (fun j _ => part_succ p (fresh 0) HX.out j)
          · obtain rfl : m = 3 := by omega
            go_wp2
            exact ⟨⟨0 + 1, by decide, by go_num, HW', HB'⟩, by simp [intOf]⟩
      · simp only [lit1]
        have hix := idx1
        go_wp2
        clear hix
        go_loopw [12] (fun i wr => ∃ m : Nat, m ≤ 3 ∧ i = .int .i64 (m : Int) ∧ Hid (Wr wr w.heap.size (some ⟨w.heap.size, 0, none⟩) 34 (part (3 + m))) ∧ Hid (Below w.heap.size w wr)) (fun i _ => 3 - (intOf i).toNat)
        case atStart => exact ⟨0, Nat.zero_le _, rfl, HWr, HBr⟩
        case round =>
          obtain ⟨m, hm, rfl, HW', HB'⟩ := hrel
          by_cases hlt : m < 3
          · have HS : Hid (Sector.sectorOf 1 (m : Int) = ((3 + m : Nat) : Int)) := by
              have h1 := Sector.yes 1 (m : Int) (by decide) (by omega) (by show (m : Int) < 3; omega)
              have h2 : Sector.S 1 = 3 := by decide
              rw [h2] at h1
              have h3 : Sector.sectorOf 1 (m : Int) = (m : Int) + 3 := h1
              rw [Hid, h3]; omega
            have HX : Hid (fmt.getD (3 + m) ⟨#[]⟩ = fresh 1) := by
              have hc : m = 0 ∨ m = 1 ∨ m = 2 := by omega
              rcases hc with rfl | rfl | rfl <;> rfl
            obtain ⟨p, hp⟩ : ∃ p, p = 3 + m := ⟨_, rfl⟩
            have hp34 : p < 34 := by omega
            have HP := hid hp
            rw [← hp] at HW' HS HX
            clear hp
            go_wp2_with fail
            refine (Sector.impl_sector 1 (m : Int) wr (kinds_below HK.out HG.out HB'.out)).mono ?_
            rintro e w1 ⟨rfl, hw1⟩
            obtain rfl := hw1.symm
            rw [HS.out]
            go_wp2_with fail
            refine (freshSector 1 (by decide) wr (HT.out.below HB'.out)).mono ?_
            rintro e w2 ⟨rfl, b2⟩
            have HW2 := hid (HW'.out.below b2)
            have HB2 := hid (HB'.out.trans (b2.mono HB'.out.size))
            clear b2
            obtain ⟨b, off', e, _, hc, hf⟩ := HW2.out p hp34
            cases e
            rw [Nat.zero_add] at hc hf
            have HN := hid (HW2.out.set p hp34 (.string (fresh 1)))
            go_wp2
            refine ⟨⟨m + 1, by omega, by go_num, ?_, below_set HB2.out w.heap.size p _ (Nat.le_refl _)⟩, by simp [intOf]; omega⟩
            have h0 := HN.out
            rw [Nat.zero_add] at h0
            rw [show 3 + (m + 1) = p + 1 by have := HP.out; omega]
            exact h0.congr (fun j _ => part_succ p (fresh 1) HX.out j)
          · obtain rfl : m = 3 := by omega
            go_wp2
            exact ⟨⟨1 + 1, by decide, by go_num, HW', HB'⟩, by simp [intOf]⟩
      · simp only [lit2]
        have hix := idx2
        go_wp2
        clear hix
        go_loopw [12] (fun i wr => ∃ m : Nat, m ≤ 3 ∧ i = .int .i64 (m : Int) ∧ Hid (Wr wr w.heap.size (some ⟨w.heap.size, 0, none⟩) 34 (part (6 + m))) ∧ Hid (Below w.heap.size w wr)) (fun i _ => 3 - (intOf i).toNat)
        case atStart => exact ⟨0, Nat.zero_le _, rfl, HWr, HBr⟩
        case round =>
          obtain ⟨m, hm, rfl, HW', HB'⟩ := hrel
          by_cases hlt : m < 3
          · have HS : Hid (Sector.sectorOf 2 (m : Int) = ((6 + m : Nat) : Int)) := by
              have h1 := Sector.yes 2 (m : Int) (by decide) (by omega) (by show (m : Int) < 3; omega)
              have h2 : Sector.S 2 = 6 := by decide
              rw [h2] at h1
              have h3 : Sector.sectorOf 2 (m : Int) = (m : Int) + 6 := h1
              rw [Hid, h3]; omega
            have HX : Hid (fmt.getD (6 + m) ⟨#[]⟩ = fresh 2) := by
              have hc : m = 0 ∨ m = 1 ∨ m = 2 := by omega
              rcases hc with rfl | rfl | rfl <;> rfl
            obtain ⟨p, hp⟩ : ∃ p, p = 6 + m := ⟨_, rfl⟩
            have hp34 : p < 34 := by omega
            have HP := hid hp
            rw [← hp] at HW' HS HX
            clear hp
            go_wp2_with fail
            refine (Sector.impl_sector 2 (m : Int) wr (kinds_below HK.out HG.out HB'.out)).mono ?_
            rintro e w1 ⟨rfl, hw1⟩
            obtain rfl := hw1.symm
            rw [HS.out]
            go_wp2_with fail
            refine (freshSector 2 (by decide) wr (HT.out.below HB'.out)).mono ?_
            rintro e w2 ⟨rfl, b2⟩
            have HW2 := hid (HW'.out.below b2)
            have HB2 := hid (HB'.out.trans (b2.mono HB'.out.size))
            clear b2
            obtain ⟨b, off', e, _, hc, hf⟩ := HW2.out p hp34
            cases e
            rw [Nat.zero_add] at hc hf
            have HN := hid (HW2.out.set p hp34 (.string (fresh 2)))
            go_wp2
            refine ⟨⟨m + 1, by omega, by go_num, ?_, below_set HB2.out w.heap.size p _ (Nat.le_refl _)⟩, by simp [intOf]; omega⟩
            have h0 := HN.out
            rw [Nat.zero_add] at h0
            rw [show 6 + (m + 1) = p + 1 by have := HP.out; omega]
            exact h0.congr (fun j _ => part_succ p (fresh 2) HX.out j)
          · obtain rfl : m = 3 := by omega
            go_wp2
            exact ⟨⟨2 + 1, by decide, by go_num, HW', HB'⟩, by simp [intOf]⟩
      · simp only [lit3]
        have hix := idx3
        go_wp2
        clear hix
        go_loopw [12] (fun i wr => ∃ m : Nat, m ≤ 4 ∧ i = .int .i64 (m : Int) ∧ Hid (Wr wr w.heap.size (some ⟨w.heap.size, 0, none⟩) 34 (part (9 + m))) ∧ Hid (Below w.heap.size w wr)) (fun i _ => 4 - (intOf i).toNat)
        case atStart => exact ⟨0, Nat.zero_le _, rfl, HWr, HBr⟩
        case round =>
          obtain ⟨m, hm, rfl, HW', HB'⟩ := hrel
          by_cases hlt : m < 4
          · have HS : Hid (Sector.sectorOf 3 (m : Int) = ((9 + m : Nat) : Int)) := by
              have h1 := Sector.yes 3 (m : Int) (by decide) (by omega) (by show (m : Int) < 4; omega)
              have h2 : Sector.S 3 = 9 := by decide
              rw [h2] at h1
              have h3 : Sector.sectorOf 3 (m : Int) = (m : Int) + 9 := h1
              rw [Hid, h3]; omega
            have HX : Hid (fmt.getD (9 + m) ⟨#[]⟩ = fresh 3) := by
              have hc : m = 0 ∨ m = 1 ∨ m = 2 ∨ m = 3 := by omega
              rcases hc with rfl | rfl | rfl | rfl <;> rfl
            obtain ⟨p, hp⟩ : ∃ p, p = 9 + m := ⟨_, rfl⟩
            have hp34 : p < 34 := by omega
            have HP := hid hp
            rw [← hp] at HW' HS HX
            clear hp
            go_wp2_with fail
            refine (Sector.impl_sector 3 (m : Int) wr (kinds_below HK.out HG.out HB'.out)).mono ?_
            rintro e w1 ⟨rfl, hw1⟩
            obtain rfl := hw1.symm
            rw [HS.out]
            go_wp2_with fail
            refine (freshSector 3 (by decide) wr (HT.out.below HB'.out)).mono ?_
            rintro e w2 ⟨rfl, b2⟩
            have HW2 := hid (HW'.out.below b2)
            have HB2 := hid (HB'.out.trans (b2.mono HB'.out.size))
            clear b2
            obtain ⟨b, off', e, _, hc, hf⟩ := HW2.out p hp34
            cases e
            rw [Nat.zero_add] at hc hf
            have HN := hid (HW2.out.set p hp34 (.string (fresh 3)))
            go_wp2
            refine ⟨⟨m + 1, by omega, by go_num, ?_, below_set HB2.out w.heap.size p _ (Nat.le_refl _)⟩, by simp [intOf]; omega⟩
            have h0 := HN.out
            rw [Nat.zero_add] at h0
            rw [show 9 + (m + 1) = p + 1 by have := HP.out; omega]
            exact h0.congr (fun j _ => part_succ p (fresh 3) HX.out j)
          · obtain rfl : m = 4 := by omega
            go_wp2
            exact ⟨⟨3 + 1, by decide, by go_num, HW', HB'⟩, by simp [intOf]⟩
      · simp only [lit4]
        have hix := idx4
        go_wp2
        clear hix
        go_loopw [12] (fun i wr => ∃ m : Nat, m ≤ 3 ∧ i = .int .i64 (m : Int) ∧ Hid (Wr wr w.heap.size (some ⟨w.heap.size, 0, none⟩) 34 (part (13 + m))) ∧ Hid (Below w.heap.size w wr)) (fun i _ => 3 - (intOf i).toNat)
        case atStart => exact ⟨0, Nat.zero_le _, rfl, HWr, HBr⟩
        case round =>
          obtain ⟨m, hm, rfl, HW', HB'⟩ := hrel
          by_cases hlt : m < 3
          · have HS : Hid (Sector.sectorOf 4 (m : Int) = ((13 + m : Nat) : Int)) := by
              have h1 := Sector.yes 4 (m : Int) (by decide) (by omega) (by show (m : Int) < 3; omega)
              have h2 : Sector.S 4 = 13 := by decide
              rw [h2] at h1
              have h3 : Sector.sectorOf 4 (m : Int) = (m : Int) + 13 := h1
              rw [Hid, h3]; omega
            have HX : Hid (fmt.getD (13 + m) ⟨#[]⟩ = fresh 4) := by
              have hc : m = 0 ∨ m = 1 ∨ m = 2 := by omega
              rcases hc with rfl | rfl | rfl <;> rfl
            obtain ⟨p, hp⟩ : ∃ p, p = 13 + m := ⟨_, rfl⟩
            have hp34 : p < 34 := by omega
            have HP := hid hp
            rw [← hp] at HW' HS HX
            clear hp
            go_wp2_with fail
            refine (Sector.impl_sector 4 (m : Int) wr (kinds_below HK.out HG.out HB'.out)).mono ?_
            rintro e w1 ⟨rfl, hw1⟩
            obtain rfl := hw1.symm
            rw [HS.out]
            go_wp2_with fail
            refine (freshSector 4 (by decide) wr (HT.out.below HB'.out)).mono ?_
            rintro e w2 ⟨rfl, b2⟩
            have HW2 := hid (HW'.out.below b2)
            have HB2 := hid (HB'.out.trans (b2.mono HB'.out.size))
            clear b2
            obtain ⟨b, off', e, _, hc, hf⟩ := HW2.out p hp34
            cases e
            rw [Nat.zero_add] at hc hf
            have HN := hid (HW2.out.set p hp34 (.string (fresh 4)))
            go_wp2
            refine ⟨⟨m + 1, by omega, by go_num, ?_, below_set HB2.out w.heap.size p _ (Nat.le_refl _)⟩, by simp [intOf]; omega⟩
            have h0 := HN.out
            rw [Nat.zero_add] at h0
            rw [show 13 + (m + 1) = p + 1 by have := HP.out; omega]
            exact h0.congr (fun j _ => part_succ p (fresh 4) HX.out j)
          · obtain rfl : m = 3 := by omega
            go_wp2
            exact ⟨⟨4 + 1, by decide, by go_num, HW', HB'⟩, by simp [intOf]⟩
      · simp only [lit5]
        have hix := idx5
        go_wp2
        clear hix
        go_loopw [12] (fun i wr => ∃ m : Nat, m ≤ 18 ∧ i = .int .i64 (m : Int) ∧ Hid (Wr wr w.heap.size (some ⟨w.heap.size, 0, none⟩) 34 (part (16 + m))) ∧ Hid (Below w.heap.size w wr)) (fun i _ => 18 - (intOf i).toNat)
        case atStart => exact ⟨0, Nat.zero_le _, rfl, HWr, HBr⟩
        case round =>
          obtain ⟨m, hm, rfl, HW', HB'⟩ := hrel
          by_cases hlt : m < 18
          · have HS : Hid (Sector.sectorOf 5 (m : Int) = ((16 + m : Nat) : Int)) := by
              have h1 := Sector.yes 5 (m : Int) (by decide) (by omega) (by show (m : Int) < 18; omega)
              have h2 : Sector.S 5 = 16 := by decide
              rw [h2] at h1
              have h3 : Sector.sectorOf 5 (m : Int) = (m : Int) + 16 := h1
              rw [Hid, h3]; omega
            have HX : Hid (fmt.getD (16 + m) ⟨#[]⟩ = fresh 5) := by
              have hc : m = 0 ∨ m = 1 ∨ m = 2 ∨ m = 3 ∨ m = 4 ∨ m = 5 ∨ m = 6 ∨ m = 7 ∨ m = 8 ∨ m = 9 ∨ m = 10 ∨ m = 11 ∨ m = 12 ∨ m = 13 ∨ m = 14 ∨ m = 15 ∨ m = 16 ∨ m = 17 := by omega
              rcases hc with rfl | rfl | rfl | rfl | rfl | rfl | rfl | rfl | rfl | rfl | rfl | rfl | rfl | rfl | rfl | rfl | rfl | rfl <;> rfl
            obtain ⟨p, hp⟩ : ∃ p, p = 16 + m := ⟨_, rfl⟩
            have hp34 : p < 34 := by omega
            have HP := hid hp
            rw [← hp] at HW' HS HX
            clear hp
            go_wp2_with fail
            refine (Sector.impl_sector 5 (m : Int) wr (kinds_below HK.out HG.out HB'.out)).mono ?_
            rintro e w1 ⟨rfl, hw1⟩
            obtain rfl := hw1.symm
            rw [HS.out]
            go_wp2_with fail
            refine (freshSector 5 (by decide) wr (HT.out.below HB'.out)).mono ?_
            rintro e w2 ⟨rfl, b2⟩
            have HW2 := hid (HW'.out.below b2)
            have HB2 := hid (HB'.out.trans (b2.mono HB'.out.size))
            clear b2
            obtain ⟨b, off', e, _, hc, hf⟩ := HW2.out p hp34
            cases e
            rw [Nat.zero_add] at hc hf
            have HN := hid (HW2.out.set p hp34 (.string (fresh 5)))
            go_wp2
            refine ⟨⟨m + 1, by omega, by go_num, ?_, below_set HB2.out w.heap.size p _ (Nat.le_refl _)⟩, by simp [intOf]; omega⟩
            have h0 := HN.out
            rw [Nat.zero_add] at h0
            rw [show 16 + (m + 1) = p + 1 by have := HP.out; omega]
            exact h0.congr (fun j _ => part_succ p (fresh 5) HX.out j)
          · obtain rfl : m = 18 := by omega
            go_wp2
            exact ⟨⟨5 + 1, by decide, by go_num, HW', HB'⟩, by simp [intOf]⟩
    · obtain rfl : k = 6 := by omega
      go_wp2
      go_ret
      refine ⟨w.heap.size, rfl, Nat.le_refl _, ?_, HBr.out⟩
      unfold StrsW
      rw [fmt_length]
      exact HWr.out.congr (fun i hi => by unfold part; rw [if_pos (show i < off 6 from hi)]; rfl)

end Go.Proofs.YtlbfcnpnfoapnaaGreatDoor.Fm

namespace Go.Proofs.YtlbfcnpnfoapnaaGreatDoor.Rg
open Go.RowKit
set_option linter.unusedVariables false

def dstOf (ops : Array Oper) (i : Nat) : Option Tmp := (ops[i]?).bind (·.dst)

/-- The region's form: its results lie apart within n slots, and each operation waits for elder ones alone. -/
def fits (ops : Array Oper) (n : Nat) : Bool :=
  (List.range ops.size).all fun i =>
    (match dstOf ops i with
      | some d => decide (d < n) && (List.range ops.size).all fun j => j == i || dstOf ops j != some d
      | none => true) &&
    (match ops[i]? with
      | some o => o.after.all fun e => !Region.binds .any e || decide (e.on < i)
      | none => true)

/-- The slots behind the operations that have come up. -/
structure At (ops : Array Oper) (a0 : Act) (L : Nat → Bool) (v : Nat → Value) (a : Act) : Prop where
  size : a.tmps.size = a0.tmps.size
  defers : a.defers = a0.defers
  got : ∀ i d, L i = true → dstOf ops i = some d → a.tmps[d]? = some (v i)
  off : ∀ t, (∀ i, L i = true → dstOf ops i ≠ some t) → a.tmps[t]? = a0.tmps[t]?

def upd (L : Nat → Bool) (i : Nat) : Nat → Bool := fun j => if j = i then true else L j
def updv (v : Nat → Value) (i : Nat) (u : Value) : Nat → Value := fun j => if j = i then u else v j

theorem fits_lt {ops : Array Oper} {n i : Nat} {d : Tmp} (h : fits ops n = true) (hi : dstOf ops i = some d) : d < n := by
  have hlt : i < ops.size := by
    rcases Nat.lt_or_ge i ops.size with h1 | h1
    · exact h1
    · simp [dstOf, Array.getElem?_eq_none h1] at hi
  unfold fits at h
  rw [List.all_eq_true] at h
  have h1 := h i (List.mem_range.2 hlt)
  rw [hi] at h1
  simp only [Bool.and_eq_true, decide_eq_true_eq] at h1
  exact h1.1.1

theorem dstOf_lt {ops : Array Oper} {i : Nat} {d : Tmp} (hi : dstOf ops i = some d) : i < ops.size := by
  rcases Nat.lt_or_ge i ops.size with h1 | h1
  · exact h1
  · simp [dstOf, Array.getElem?_eq_none h1] at hi

theorem fits_inj {ops : Array Oper} {n i j : Nat} {d : Tmp} (h : fits ops n = true) (hi : dstOf ops i = some d) (hj : dstOf ops j = some d) : j = i := by
  unfold fits at h
  rw [List.all_eq_true] at h
  have h1 := h i (List.mem_range.2 (dstOf_lt hi))
  rw [hi] at h1
  simp only [Bool.and_eq_true, decide_eq_true_eq, List.all_eq_true] at h1
  have h2 := h1.1.2 j (List.mem_range.2 (dstOf_lt hj))
  rw [hj] at h2
  simpa using h2

theorem fits_after {ops : Array Oper} {n i : Nat} {o : Oper} (h : fits ops n = true) (hi : ops[i]? = some o) {e : Edge} (he : e ∈ o.after) (hb : Region.binds .any e = true) : e.on < i := by
  have hlt : i < ops.size := by
    rcases Nat.lt_or_ge i ops.size with h1 | h1
    · exact h1
    · simp [Array.getElem?_eq_none h1] at hi
  unfold fits at h
  rw [List.all_eq_true] at h
  have h1 := h i (List.mem_range.2 hlt)
  rw [hi] at h1
  simp only [Bool.and_eq_true] at h1
  have h2 := Array.all_eq_true_iff_forall_mem.1 h1.2 e he
  rw [hb] at h2
  simpa using h2

theorem At.step {ops : Array Oper} {n : Nat} {a0 a : Act} {L : Nat → Bool} {v : Nat → Value} (h : At ops a0 L v a) (hf : fits ops a0.tmps.size = true) {i : Nat} {o : Oper} (hi : ops[i]? = some o) (hL : L i = false) (u : Value) :
    At ops a0 (upd L i) (updv v i u) (a.put o.dst u) := by
  have hd : dstOf ops i = o.dst := by simp [dstOf, hi]
  cases hdd : o.dst with
  | none =>
    rw [hdd] at hd
    refine ⟨h.size, h.defers, fun j d hj e => ?_, fun t ht => ?_⟩
    · by_cases hji : j = i
      · rw [hji, hd] at e; cases e
      · simp only [upd, updv, if_neg hji] at hj ⊢
        exact h.got j d hj e
    · exact h.off t (fun j hj => ht j (by simp only [upd]; split <;> simp_all))
  | some s =>
    rw [hdd] at hd
    have hs : s < a.tmps.size := by rw [h.size]; exact fits_lt hf hd
    refine ⟨by simpa [Act.put] using h.size, h.defers, fun j d hj e => ?_, fun t ht => ?_⟩
    · by_cases hji : j = i
      · subst hji
        rw [hd] at e
        cases e
        show (a.tmps.setIfInBounds s u)[s]? = some (if j = j then u else v j)
        rw [Array.getElem?_setIfInBounds_self_of_lt hs, if_pos rfl]
      · simp only [upd, if_neg hji] at hj
        have hds : s ≠ d := fun e2 => hji (fits_inj hf hd (e2 ▸ e))
        simp only [Act.put, updv, if_neg hji]
        rw [Array.getElem?_setIfInBounds_ne hds]
        exact h.got j d hj e
    · have hts : s ≠ t := fun e => ht i (by simp [upd]) (e ▸ hd)
      simp only [Act.put]
      rw [Array.getElem?_setIfInBounds_ne hts]
      exact h.off t (fun j hj => ht j (by simp only [upd]; split <;> simp_all))

/-- The slots where all have come up. -/
def putsAll (a0 : Act) : List (Option Tmp) → (Nat → Value) → Nat → Act
  | [], _, _ => a0
  | d :: ds, v, k => putsAll (a0.put d (v k)) ds v (k + 1)

theorem At.eval_got {ops : Array Oper} {a0 a : Act} {L : Nat → Bool} {v : Nat → Value} (h : At ops a0 L v a) (j : Nat) {t : Tmp} (hj : L j = true) (hd : dstOf ops j = some t) : a.eval (.tmp t) = v j := by
  show a.tmps.getD t undef = v j
  rw [Array.getD_eq_getD_getElem?, h.got j t hj hd]
  rfl

def offAll (ops : Array Oper) (x : Operand) : Bool := match x with
  | .tmp t => (List.range ops.size).all fun j => dstOf ops j != some t
  | _ => true

theorem At.eval_off {ops : Array Oper} {a0 a : Act} {L : Nat → Bool} {v : Nat → Value} (h : At ops a0 L v a) {x : Operand} (hx : offAll ops x = true) : a.eval x = a0.eval x := by
  cases x with
  | tmp t =>
    show a.tmps.getD t undef = a0.tmps.getD t undef
    rw [Array.getD_eq_getD_getElem?, Array.getD_eq_getD_getElem?, h.off t (fun j _ e => ?_)]
    unfold offAll at hx
    simp only [List.all_eq_true] at hx
    have := hx j (List.mem_range.2 (dstOf_lt e))
    rw [e] at this
    simp at this
  | _ => rfl

theorem At.yielded {ops : Array Oper} {a0 a : Act} {L : Nat → Bool} {v : Nat → Value} (h : At ops a0 L v a) (j : Nat) {t : Tmp} (hj : L j = true) (hd : dstOf ops j = some t) {b : Bool} (hv : v j = .bool b) : yielded ops a.tmps j = some b := by
  have e : ((ops[j]?).bind (·.dst)) = some t := hd
  unfold Go.yielded
  rw [e]
  simp only [Option.bind_some]
  rw [h.got j t hj hd, hv]

theorem putsAll_size : ∀ (ds : List (Option Tmp)) (a0 : Act) (v : Nat → Value) (k : Nat), (putsAll a0 ds v k).tmps.size = a0.tmps.size ∧ (putsAll a0 ds v k).defers = a0.defers
  | [], a0, v, k => ⟨rfl, rfl⟩
  | d :: ds, a0, v, k => by
    have h := putsAll_size ds (a0.put d (v k)) v (k + 1)
    unfold putsAll
    rw [h.1, h.2]
    cases d <;> simp [Act.put]

theorem putsAll_off : ∀ (ds : List (Option Tmp)) (a0 : Act) (v : Nat → Value) (k t : Nat), some t ∉ ds → (putsAll a0 ds v k).tmps[t]? = a0.tmps[t]?
  | [], a0, v, k, t, _ => rfl
  | d :: ds, a0, v, k, t, h => by
    unfold putsAll
    rw [putsAll_off ds _ v (k + 1) t (fun e => h (List.mem_cons_of_mem _ e))]
    cases d with
    | none => rfl
    | some s =>
      have : s ≠ t := fun e => h (e ▸ List.mem_cons_self)
      simp only [Act.put]
      rw [Array.getElem?_setIfInBounds_ne this]

theorem putsAll_got : ∀ (ds : List (Option Tmp)) (a0 : Act) (v : Nat → Value) (k t j : Nat), ds[j]? = some (some t) → (∀ i, ds[i]? = some (some t) → i = j) → t < a0.tmps.size → (putsAll a0 ds v k).tmps[t]? = some (v (k + j))
  | [], a0, v, k, t, j, h, _, _ => by simp at h
  | d :: ds, a0, v, k, t, 0, h, hu, ht => by
    simp only [List.getElem?_cons_zero, Option.some.injEq] at h
    subst h
    unfold putsAll
    rw [putsAll_off ds _ v (k + 1) t (fun e => by
      obtain ⟨i, hi⟩ := List.mem_iff_getElem?.1 e
      have := hu (i + 1) (by simpa using hi)
      omega)]
    simp only [Act.put, Nat.add_zero]
    rw [Array.getElem?_setIfInBounds_self_of_lt ht]
  | d :: ds, a0, v, k, t, j + 1, h, hu, ht => by
    unfold putsAll
    have := putsAll_got ds (a0.put d (v k)) v (k + 1) t j (by simpa using h) (fun i hi => by have := hu (i + 1) (by simpa using hi); omega) (by cases d <;> simpa [Act.put] using ht)
    rw [this, show k + 1 + j = k + (j + 1) by omega]

theorem At.all {ops : Array Oper} {a0 a : Act} {L : Nat → Bool} {v : Nat → Value} (h : At ops a0 L v a) (hf : fits ops a0.tmps.size = true) (hL : ∀ i, i < ops.size → L i = true) (ds : List (Option Tmp)) (hds : (List.range ops.size).map (dstOf ops) = ds) :
    a = putsAll a0 ds v 0 := by
  have hds' : ∀ i, ds[i]? = some (dstOf ops i) ∨ (ds[i]? = none ∧ dstOf ops i = none) := fun i => by
    rw [← hds]
    rcases Nat.lt_or_ge i ops.size with h1 | h1
    · left; simp [h1]
    · right; exact ⟨by simp [h1], by simp [dstOf, Array.getElem?_eq_none h1]⟩
  obtain ⟨s1, s2⟩ := putsAll_size ds a0 v 0
  have ht : a.tmps = (putsAll a0 ds v 0).tmps := by
    refine Array.ext_getElem? (fun t => ?_)
    rcases Nat.lt_or_ge t a0.tmps.size with htl | htl
    · by_cases hx : ∃ j, dstOf ops j = some t
      · obtain ⟨j, hj⟩ := hx
        have e1 : ds[j]? = some (some t) := by
          rcases hds' j with h1 | ⟨_, h1⟩
          · rw [h1, hj]
          · rw [hj] at h1; cases h1
        rw [putsAll_got ds a0 v 0 t j e1 (fun i hi => by
          rcases hds' i with h1 | ⟨h1, _⟩
          · rw [h1] at hi
            exact fits_inj hf hj (Option.some.inj hi)
          · rw [h1] at hi; cases hi) htl, Nat.zero_add]
        exact h.got j t (hL j (dstOf_lt hj)) hj
      · rw [putsAll_off ds a0 v 0 t (fun e => by
          obtain ⟨i, hi⟩ := List.mem_iff_getElem?.1 e
          rcases hds' i with h1 | ⟨h1, _⟩
          · rw [h1] at hi; exact hx ⟨i, Option.some.inj hi⟩
          · rw [h1] at hi; cases hi)]
        exact h.off t (fun i _ e => hx ⟨i, e⟩)
    · rw [Array.getElem?_eq_none (by rw [h.size]; exact htl), Array.getElem?_eq_none (by rw [s1]; exact htl)]
  have : a.defers = (putsAll a0 ds v 0).defers := by rw [s2]; exact h.defers
  cases a
  cases hp : putsAll a0 ds v 0
  rw [hp] at ht this
  simp only at ht this
  rw [ht, this]

/-- What an operation waits for has come up. -/
def waits (o : Oper) (L : Nat → Bool) : Bool := o.after.all fun e => !Region.binds .any e || L e.on

section
variable {P : Program} {ops : Array Oper} {Q : Exit → Act → World → Prop}

theorem rg_any (a0 : Act) (hf : fits ops a0.tmps.size = true) (I : (Nat → Bool) → (Nat → Value) → World → Prop)
    (hstep : ∀ i o, ops[i]? = some o → ∀ L v a w, At ops a0 L v a → I L v w → (∀ j oj, ops[j]? = some oj → L j = true → waits oj L = true) → L i = false → waits o L = true → wpOp P ops Q i (fun a' w' => ∃ u, a' = a.put o.dst u ∧ I (upd L i) (updv v i u) w') a w)
    (hend : ∀ L v a w, (∀ i, i < ops.size → L i = true) → At ops a0 L v a → I L v w → Q .normal a w) :
    ∀ (fuel : Nat) (listed : Array Bool) (v : Nat → Value) (a : Act) (w : World) (l : List Nat), listed.size = ops.size → l.length = fuel → l.Nodup → (∀ i, i ∈ l ↔ i < ops.size ∧ listed.getD i false = false) →
      At ops a0 (fun i => listed.getD i false) v a → I (fun i => listed.getD i false) v w → (∀ j oj, ops[j]? = some oj → listed.getD j false = true → waits oj (fun i => listed.getD i false) = true) → wpAny P .any ops Q fuel listed a w := by
  have hdone : ∀ (listed : Array Bool) (v : Nat → Value) (a : Act) (w : World), listed.size = ops.size → (∀ i, i < ops.size → listed.getD i false = true) → At ops a0 (fun i => listed.getD i false) v a → I (fun i => listed.getD i false) v w → Q .normal a w :=
    fun listed v a w hsz hall hA hJ => hend _ v a w hall hA hJ
  intro fuel
  induction fuel with
  | zero =>
    intro listed v a w l hsz hl hnd hm hA hJ hC
    have hl0 : l = [] := List.length_eq_zero_iff.1 hl
    subst hl0
    have hall : ∀ i, i < ops.size → listed.getD i false = true := fun i hi => by
      cases hb : listed.getD i false with
      | true => rfl
      | false => exact absurd ((hm i).2 ⟨hi, hb⟩) (by simp)
    refine ⟨?_, hdone listed v a w hsz hall hA hJ⟩
    refine List.eq_nil_iff_forall_not_mem.2 (fun i hi => ?_)
    obtain ⟨h1, o, ho, _⟩ := mem_ready.1 hi
    have hlt : i < ops.size := (Array.getElem?_eq_some_iff.1 ho).1
    have h2 := hall i hlt
    rw [Array.getD_eq_getD_getElem?, Array.getElem?_eq_getElem (by omega)] at h1 h2
    simp at h1 h2
    rw [h1] at h2
    cases h2
  | succ fuel ih =>
    intro listed v a w l hsz hl hnd hm hA hJ hC
    refine ⟨fun hr => ?_, fun i hi => ?_⟩
    · -- none may come up: all have
      have hall : ∀ n i, i < n → i < ops.size → listed.getD i false = true := by
        intro n
        induction n with
        | zero => intro i h; omega
        | succ n ihn =>
          intro i hin hi
          by_cases hlt : i < n
          · exact ihn i hlt hi
          · obtain rfl : i = n := by omega
            cases hb : listed.getD i false with
            | true => rfl
            | false =>
              have : i ∈ Region.ready .any ops listed := by
                refine mem_ready.2 ⟨?_, ops[i], Array.getElem?_eq_getElem hi, fun e he hb2 => ?_⟩
                · rw [Array.getD_eq_getD_getElem?, Array.getElem?_eq_getElem (by omega)] at hb ⊢
                  simpa using hb
                · have hlt2 := fits_after hf (Array.getElem?_eq_getElem hi) he hb2
                  exact ihn e.on hlt2 (by omega)
              rw [hr] at this
              cases this
      exact hdone listed v a w hsz (fun i hi => hall (i + 1) i (by omega) hi) hA hJ
    · obtain ⟨h1, o, ho, hwt⟩ := mem_ready.1 hi
      have hlt : i < ops.size := (Array.getElem?_eq_some_iff.1 ho).1
      have hb : listed.getD i false = false := by
        rw [Array.getD_eq_getD_getElem?, Array.getElem?_eq_getElem (by omega)] at h1 ⊢
        simpa using h1
      have hw : waits o (fun j => listed.getD j false) = true := by
        unfold waits
        refine Array.all_eq_true_iff_forall_mem.2 (fun e he => ?_)
        cases hbb : Region.binds .any e with
        | false => rfl
        | true => simpa using hwt e he hbb
      refine wpOp_mono ?_ (hstep i o ho _ v a w hA hJ hC hb hw)
      rintro a' w' ⟨u, rfl, hJ'⟩
      have hset : ∀ j, (listed.setIfInBounds i true).getD j false = upd (fun j => listed.getD j false) i j := fun j => by
        unfold upd
        by_cases hji : j = i
        · subst hji
          rw [if_pos rfl, Array.getD_eq_getD_getElem?, Array.getElem?_setIfInBounds_self_of_lt (by omega)]
          rfl
        · rw [if_neg hji]
          show (listed.setIfInBounds i true).getD j false = listed.getD j false
          rw [Array.getD_eq_getD_getElem?, Array.getD_eq_getD_getElem?, Array.getElem?_setIfInBounds_ne (Ne.symm hji)]
      have hA' := At.step (n := 0) hA hf ho hb u
      refine ih (listed.setIfInBounds i true) (updv v i u) _ w' (l.erase i) (by simpa using hsz) ?_ (hnd.erase i) ?_ ?_ ?_ ?_
      · rw [List.length_erase_of_mem ((hm i).2 ⟨hlt, hb⟩), hl]; rfl
      · intro j
        rw [hnd.mem_erase_iff, hm j]
        constructor
        · rintro ⟨hne, hj, hjb⟩
          exact ⟨hj, by rw [hset j]; unfold upd; rw [if_neg hne]; exact hjb⟩
        · rintro ⟨hj, hjb⟩
          rw [hset j] at hjb
          unfold upd at hjb
          by_cases hji : j = i
          · rw [if_pos hji] at hjb; cases hjb
          · rw [if_neg hji] at hjb
            exact ⟨hji, hj, hjb⟩
      · rw [show (fun j => (listed.setIfInBounds i true).getD j false) = upd (fun j => listed.getD j false) i from funext hset]
        exact hA'
      · rw [show (fun j => (listed.setIfInBounds i true).getD j false) = upd (fun j => listed.getD j false) i from funext hset]
        exact hJ'
      · intro j oj hoj hj
        rw [hset j] at hj
        have hup : ∀ e, listed.getD e false = true → (listed.setIfInBounds i true).getD e false = true := fun e he => by
          rw [hset e]
          unfold upd
          split
          · rfl
          · exact he
        have hwj : waits oj (fun i => listed.getD i false) = true := by
          unfold upd at hj
          by_cases hji : j = i
          · subst hji
            rw [ho] at hoj
            cases hoj
            exact hw
          · rw [if_neg hji] at hj
            exact hC j oj hoj hj
        unfold waits at hwj ⊢
        rw [Array.all_eq_true_iff_forall_mem] at hwj ⊢
        intro e he
        have h9 := hwj e he
        simp only [Bool.or_eq_true] at h9 ⊢
        exact h9.imp id (hup e.on)

/-- THE LAW. 'a0' is the state ahead of the region, 'ds' are its results' slots. -/
theorem wp_region_rg {id : Nat} {a0 : Act} {w : World} (hm : P.follows .mixedOrders = true) (hf : fits ops a0.tmps.size = true)
    (ds : List (Option Tmp)) (hds : (List.range ops.size).map (dstOf ops) = ds)
    (I : (Nat → Bool) → (Nat → Value) → World → Prop) (h0 : I (fun _ => false) (fun _ => undef) w.drew)
    (hstep : ∀ i o, ops[i]? = some o → ∀ (L : Nat → Bool) (v : Nat → Value) (a : Act) (w : World), At ops a0 L v a → I L v w → (∀ j oj, ops[j]? = some oj → L j = true → waits oj L = true) → L i = false → waits o L = true →
      wpOp P ops Q i (fun a' w' => ∃ u, a' = a.put o.dst u ∧ I (upd L i) (updv v i u) w') a w)
    (hend : ∀ L v w, (∀ i, i < ops.size → L i = true) → I L v w → Q .normal (putsAll a0 ds v 0) w) : (Code.region id ops true).wp P Q a0 w := by
  refine wp_region_any hm ?_
  have hr : (fun i => (Array.replicate ops.size false).getD i false) = fun _ => false := by
    funext i
    rw [Array.getD_eq_getD_getElem?]
    rcases Nat.lt_or_ge i ops.size with h1 | h1
    · simp [h1]
    · rw [Array.getElem?_eq_none (by simpa using h1)]; rfl
  refine rg_any a0 hf I hstep ?_ ops.size (Array.replicate ops.size false) (fun _ => undef) a0 _ (List.range ops.size) (by simp) (by simp) List.nodup_range ?_ ?_ ?_ ?_
  · intro L v a w hL hA hI
    rw [hA.all hf hL ds hds]
    exact hend L v w hL hI
  · intro i
    rw [congrFun hr i]
    simp
  · rw [hr]
    exact ⟨rfl, rfl, fun i d hi => (by cases hi), fun t _ => rfl⟩
  · rw [hr]
    exact h0
  · intro j oj hoj hj2
    rw [congrFun hr j] at hj2
    cases hj2

/-- The same in a region that keeps its order. -/
theorem wp_region_rg_plain {id : Nat} {a0 : Act} {w : World} (hf : fits ops a0.tmps.size = true)
    (ds : List (Option Tmp)) (hds : (List.range ops.size).map (dstOf ops) = ds)
    (I : (Nat → Bool) → (Nat → Value) → World → Prop) (h0 : I (fun _ => false) (fun _ => undef) w)
    (hstep : ∀ i o, ops[i]? = some o → ∀ (L : Nat → Bool) (v : Nat → Value) (a : Act) (w : World), At ops a0 L v a → I L v w → (∀ j oj, ops[j]? = some oj → L j = true → waits oj L = true) → L i = false → waits o L = true →
      wpOp P ops Q i (fun a' w' => ∃ u, a' = a.put o.dst u ∧ I (upd L i) (updv v i u) w') a w)
    (hend : ∀ L v w, (∀ i, i < ops.size → L i = true) → I L v w → Q .normal (putsAll a0 ds v 0) w) : (Code.region id ops false).wp P Q a0 w := by
  refine wp_region ?_
  have main : ∀ (m i : Nat) (v : Nat → Value) (a : Act) (w : World), i + m = ops.size → At ops a0 (fun j => decide (j < i)) v a → I (fun j => decide (j < i)) v w → wpOps P ops Q (List.range' i m) a w := by
    intro m
    induction m with
    | zero =>
      intro i v a w hi hA hI
      have hL : ∀ j, j < ops.size → decide (j < i) = true := fun j hj => decide_eq_true (by omega)
      show Q .normal a w
      rw [hA.all hf hL ds hds]
      exact hend _ v w hL hI
    | succ m ih =>
      intro i v a w hi hA hI
      have hlt : i < ops.size := by omega
      have ho : ops[i]? = some ops[i] := Array.getElem?_eq_getElem hlt
      rw [List.range'_succ, wpOps_cons]
      have hup : upd (fun j => decide (j < i)) i = fun j => decide (j < i + 1) := by
        funext j
        unfold upd
        by_cases hji : j = i
        · rw [if_pos hji]; exact (decide_eq_true (by omega)).symm
        · rw [if_neg hji]
          by_cases hjl : j < i
          · exact (decide_eq_true hjl).trans (decide_eq_true (by omega)).symm
          · exact (decide_eq_false hjl).trans (decide_eq_false (by omega)).symm
      have hw : ∀ j oj, ops[j]? = some oj → j ≤ i → waits oj (fun j => decide (j < i)) = true := fun j oj hoj hji => by
        unfold waits
        refine Array.all_eq_true_iff_forall_mem.2 (fun e he => ?_)
        cases hb : Region.binds .any e with
        | false => rfl
        | true =>
          have := fits_after hf hoj he hb
          simp only [Bool.not_true, Bool.false_or]
          exact decide_eq_true (by omega)
      have hni : (fun j => decide (j < i)) i = false := decide_eq_false (by omega)
      refine wpOp_mono ?_ (hstep i ops[i] ho _ v a w hA hI (fun j oj hoj hj => hw j oj hoj (Nat.le_of_lt (of_decide_eq_true hj))) hni (hw i _ ho (Nat.le_refl _)))
      rintro a' w' ⟨u, rfl, hI'⟩
      have hA' := At.step (n := 0) hA hf ho hni u
      rw [hup] at hA' hI'
      exact ih (i + 1) _ _ w' (by omega) hA' hI'
  have h := main ops.size 0 (fun _ => undef) a0 w (by omega) ⟨rfl, rfl, fun i d hi => (by cases hi), fun t _ => rfl⟩ h0
  rw [List.range_eq_range']
  exact h

/-- What comes up only behind another one, near or far. -/
def reach (ops : Array Oper) : Nat → Nat → Nat → Bool
  | 0, _, _ => false
  | f + 1, i, j => match ops[i]? with
    | some o => o.after.toList.any fun e => Region.binds .any e && (e.on == j || reach ops f e.on j)
    | none => false

theorem reach_listed {L : Nat → Bool} (hC : ∀ j oj, ops[j]? = some oj → L j = true → waits oj L = true) : ∀ (f i j : Nat) (o : Oper), ops[i]? = some o → waits o L = true → reach ops f i j = true → L j = true
  | 0, i, j, o, _, _, h => by cases h
  | f + 1, i, j, o, ho, hw, h => by
    unfold reach at h
    rw [ho] at h
    rw [List.any_eq_true] at h
    obtain ⟨e, he, hb⟩ := h
    simp only [Bool.and_eq_true, Bool.or_eq_true, beq_iff_eq] at hb
    unfold waits at hw
    have h1 := Array.all_eq_true_iff_forall_mem.1 hw e (Array.mem_toList_iff.1 he)
    rw [hb.1] at h1
    have hLe : L e.on = true := by simpa using h1
    rcases hb.2 with h2 | h2
    · rw [← h2]; exact hLe
    · cases hoe : ops[e.on]? with
      | none =>
        cases f with
        | zero => cases h2
        | succ f => unfold reach at h2; rw [hoe] at h2; cases h2
      | some oe => exact reach_listed hC f e.on j oe hoe (hC e.on oe hoe hLe) h2

theorem wpOp_plain {i : Nat} {o : Oper} {K : Act → World → Prop} {a : Act} {w : World} (ho : ops[i]? = some o) (hg : o.guard = none) (h : ∀ K' : Act → World → Prop, (∀ a w, K a w → K' a w) → Oper.wp P o a w K' Q) : wpOp P ops Q i K a w :=
  wpOp_step ho fun K' hK => by
    rw [if_pos (by simp [Region.wanted, hg])]
    exact h K' hK

theorem wpOp_value {i : Nat} {o : Oper} {K : Act → World → Prop} {a : Act} {w w' : World} {u : Value} (ho : ops[i]? = some o) (hg : o.guard = none) (hr : (execOp a.eval o).run P w = .ok (.value u) w') (h : K (a.put o.dst u) w') : wpOp P ops Q i K a w :=
  wpOp_plain ho hg fun K' hK => by
    unfold Oper.wp
    rw [hr, Oper.upon_value]
    exact hK _ _ h

theorem wpOp_call {i : Nat} {o : Oper} {K : Act → World → Prop} {a : Act} {w : World} {f : FuncId} {vs : Array Value} (ho : ops[i]? = some o) (hg : o.guard = none) (hr : (execOp a.eval o).run P w = .ok (.enter f vs) w)
    (h : Calls P f vs w fun e w' => ∃ u, e = .returned u ∧ K (a.put o.dst u) w') : wpOp P ops Q i K a w :=
  wpOp_plain ho hg fun K' hK => by
    unfold Oper.wp
    rw [hr, Oper.upon_enter]
    refine h.mono ?_
    rintro e w' ⟨u, rfl, hu⟩
    exact hK _ _ hu

end

end Go.Proofs.YtlbfcnpnfoapnaaGreatDoor.Rg

namespace Go.Proofs.YtlbfcnpnfoapnaaGreatDoor.Pl
open Go.RowKit Go.Proofs.YtlbfcnpnfoapnaaGreatDoor.Mem
set_option linter.unusedVariables false

theorem puts_setCells (g : Nat) : ∀ (vs : List Value) (w : World) (i : Nat), puts w g i vs = w.setCells g i vs
  | [], _, _ => rfl
  | v :: vs, w, i => by rw [puts, World.setCells]; exact puts_setCells g vs _ (i + 1)

theorem wpList_load_row {P : Program} {ops : Array Oper} {rest : List Oper} {op : Oper} {a : Act} {w : World} {Q : Exit → Act → World → Prop} (hgd : op.guard = none) (ty : TypeId) (x : Operand) (ho : op.op = .load ty x)
    (b : Nat) (hx : a.eval x = .pointer (some ⟨b, 0, none⟩)) (cs : List Value) (d : TypeDesc) (hr : Row w b cs)
    (hu : P.underlying ty = some d) (hd : d.isRow = true) (hi : (P.info? ty).map (·.size) = some cs.length)
    (h : wpList P ops Q rest (a.put op.dst (.agg cs.toArray)) w) : wpList P ops Q (op :: rest) a w :=
  wpList_load_mid hgd ty x ho b 0 hx cs d (fun j v hv => by rw [Nat.zero_add]; exact hr.c j hv) hu hd hi h

theorem wpList_store_row {P : Program} {ops : Array Oper} {rest : List Oper} {op : Oper} {a : Act} {w : World} {Q : Exit → Act → World → Prop} (hgd : op.guard = none) (ty : TypeId) (x y : Operand) (ho : op.op = .store ty x y)
    (b : Nat) (hx : a.eval x = .pointer (some ⟨b, 0, none⟩)) (xs cs : List Value) (hy : a.eval y = .agg cs.toArray) (hr : Row w b xs) (hl : cs.length = xs.length)
    (hi : (P.info? ty).map (·.size) = some cs.length) (h1 : cs.all (·.oneCell') = true)
    (h : wpList P ops Q rest (a.put op.dst undef) (puts w b 0 cs)) : wpList P ops Q (op :: rest) a w :=
  wpList_store_mid hgd ty x y ho b 0 cs.toArray hx hy
    (fun j hj => by
      have hj' : j < xs.length := by rw [← hl]; simpa using hj
      rw [Nat.zero_add]
      exact ⟨by rw [hr.c j (List.getElem?_eq_getElem hj')]; rfl, hr.f j⟩)
    (by rw [hi]; simp) (all_oneCell_toArray (fun v hv => List.all_eq_true.1 h1 v hv)) (by rw [puts_setCells] at h; exact h)

end Go.Proofs.YtlbfcnpnfoapnaaGreatDoor.Pl

namespace Go.Proofs.YtlbfcnpnfoapnaaGreatDoor.Pl
open Go.RowKit Go.Proofs.YtlbfcnpnfoapnaaGreatDoor.Mem
set_option linter.unusedVariables false

theorem enters {P : Program} (a : Act) (o : Oper) (w : World) (xs : Array Operand) (ts : Array TypeId) (f : FuncId) (ho : o.op = .call { callee := .value (.func f), args := xs, argTypes := ts }) (vs : Array Value) (hv : xs.map a.eval = vs) (hc : ∀ vs w, (callFunc f vs).run P w = .ok (.enter f vs) w) :
    (execOp a.eval o).run P w = .ok (.enter f vs) w := by
  unfold execOp
  simp [ho, hv, go_sem, resolve, invoke, hc]

theorem run_not {P : Program} {ρ : Operand → Value} {o : Oper} {w : World} (ty : TypeId) (x : Operand) (p : o.op = .unOp .not ty x) (e : ρ x = .bool true) : (execOp ρ o).run P w = .ok (.value (.bool false)) w := by
  unfold execOp
  simp [p, e, go_sem]

theorem wpList_call {P : Program} {ops : Array Oper} {rest : List Oper} {op : Oper} {a : Act} {w : World} {Q : Exit → Act → World → Prop} (hgd : op.guard = none) (f : FuncId) (xs : Array Operand) (ts : Array TypeId)
    (ho : op.op = .call { callee := .value (.func f), args := xs, argTypes := ts }) (vs : Array Value) (hv : xs.map a.eval = vs) (hc : ∀ vs w, (callFunc f vs).run P w = .ok (.enter f vs) w)
    (h : Calls P f vs w fun e w' => ∃ v, e = .returned v ∧ wpList P ops Q rest (a.put op.dst v) w') : wpList P ops Q (op :: rest) a w :=
  wpList_plain hgd fun K hK => by
    unfold Oper.wp
    rw [enters a op w xs ts f ho vs hv hc, Oper.upon_enter]
    refine h.mono ?_
    rintro e w' ⟨v, rfl, hw⟩
    exact hK _ _ hw

/-- What stands in a box, held against the argument laid anew. -/
theorem region_eq {P : Program} {ops : Array Oper} {id : Nat} {a : Act} {w : World} {Q : Exit → Act → World → Prop} (hm : P.follows .mixedOrders = true) (h5 : ops.size = 5)
    {o0 o1 o2 o3 o4 : Oper} (i0 : ops[0]? = some o0) (i1 : ops[1]? = some o1) (i2 : ops[2]? = some o2) (i3 : ops[3]? = some o3) (i4 : ops[4]? = some o4)
    (g0 : o0.guard = none) (g1 : o1.guard = none) (g2 : o2.guard = none) (g3 : o3.guard = none) (g4 : o4.guard = none)
    (hs : Region.noSelect ops = true)
    (f0 : Region.free .any ops (Array.replicate 5 false) 0 = true) (r0 : (Region.ready .any ops (Array.replicate 5 false)).contains 0 = true)
    (f1 : Region.free .any ops ((Array.replicate 5 false).setIfInBounds 0 true) 1 = true) (r1 : (Region.ready .any ops ((Array.replicate 5 false).setIfInBounds 0 true)).contains 1 = true)
    (r2 : Region.ready .any ops (((Array.replicate 5 false).setIfInBounds 0 true).setIfInBounds 1 true) = [2])
    (r3 : Region.ready .any ops ((((Array.replicate 5 false).setIfInBounds 0 true).setIfInBounds 1 true).setIfInBounds 2 true) = [3])
    (r4 : Region.ready .any ops (((((Array.replicate 5 false).setIfInBounds 0 true).setIfInBounds 1 true).setIfInBounds 2 true).setIfInBounds 3 true) = [4])
    (r5 : Region.ready .any ops ((((((Array.replicate 5 false).setIfInBounds 0 true).setIfInBounds 1 true).setIfInBounds 2 true).setIfInBounds 3 true).setIfInBounds 4 true) = [])
    (q0 : ∀ (v : Value) c (a : Act) w, Q (.panic c) (a.put o0.dst v) w → Q (.panic c) a w) (q1 : ∀ (v : Value) c (a : Act) w, Q (.panic c) (a.put o1.dst v) w → Q (.panic c) a w)
    (ty0 : TypeId) (x0 : Operand) (p0 : o0.op = .load ty0 x0) (b0 : Nat) (cs0 : List Value) (d0 : TypeDesc) (e0 : a.eval x0 = .pointer (some ⟨b0, 0, none⟩)) (R0 : Row w b0 cs0)
    (u0 : P.underlying ty0 = some d0) (k0 : d0.isRow = true) (n0 : (P.info? ty0).map (·.size) = some cs0.length)
    (ty1 : TypeId) (x1 : Operand) (p1 : o1.op = .load ty1 x1) (b1 : Nat) (cs1 : List Value) (d1 : TypeDesc) (e1 : (a.put o0.dst (.agg cs0.toArray)).eval x1 = .pointer (some ⟨b1, 0, none⟩)) (R1 : Row w b1 cs1)
    (u1 : P.underlying ty1 = some d1) (k1 : d1.isRow = true) (n1 : (P.info? ty1).map (·.size) = some cs1.length)
    (c2 : FuncId) (y2 : Operand) (ts2 : Array TypeId) (p2 : o2.op = .call { callee := .value (.func c2), args := #[y2], argTypes := ts2 }) (m2 : ∀ vs w, (callFunc c2 vs).run P w = .ok (.enter c2 vs) w)
    (e2 : ((a.put o0.dst (.agg cs0.toArray)).put o1.dst (.agg cs1.toArray)).eval y2 = .agg cs1.toArray)
    (c3 : FuncId) (y3 z3 : Operand) (ts3 : Array TypeId) (p3 : o3.op = .call { callee := .value (.func c3), args := #[y3, z3], argTypes := ts3 }) (m3 : ∀ vs w, (callFunc c3 vs).run P w = .ok (.enter c3 vs) w)
    (e3 : ∀ V, (((a.put o0.dst (.agg cs0.toArray)).put o1.dst (.agg cs1.toArray)).put o2.dst V).eval y3 = .agg cs0.toArray) (e3' : ∀ V, (((a.put o0.dst (.agg cs0.toArray)).put o1.dst (.agg cs1.toArray)).put o2.dst V).eval z3 = V)
    (ty4 : TypeId) (x4 : Operand) (p4 : o4.op = .unOp .not ty4 x4) (e4 : ∀ V, ((((a.put o0.dst (.agg cs0.toArray)).put o1.dst (.agg cs1.toArray)).put o2.dst V).put o3.dst (.bool true)).eval x4 = .bool true)
    (R : Value → World → Prop)
    (C2 : ∀ w', Below w.heap.size w w' → Calls P c2 #[.agg cs1.toArray] w' fun e w'' => ∃ V, e = .returned V ∧ R V w'' ∧ Below w'.heap.size w' w'')
    (C3 : ∀ V w', Below w.heap.size w w' → R V w' → Calls P c3 #[.agg cs0.toArray, V] w' fun e w'' => e = .returned (.bool true) ∧ Below w'.heap.size w' w'')
    (h : ∀ V w', Below w.heap.size w w' → Q .normal (((((a.put o0.dst (.agg cs0.toArray)).put o1.dst (.agg cs1.toArray)).put o2.dst V).put o3.dst (.bool true)).put o4.dst (.bool false)) w') :
    (Code.region id ops true).wp P Q a w := by
  refine wp_region_held (S := fun w' => Below w.heap.size w w') hm ?_
  rw [h5]
  have S0 : Below w.heap.size w { w with drawn := w.drawn + 1 } := (Below.refl _ w).drew
  refine wpAnyH_take i0 hs f0 r0 (q0 _) (yieldsIf_load_mid (by simp [Region.wanted, g0]) ty0 x0 p0 b0 0 e0 cs0 d0 (fun w' hw' => fun j v hv => by rw [Nat.zero_add]; exact (R0.below hw' R0.lt).c j hv) u0 k0 n0) S0 ?_
  refine wpAnyH_take i1 hs f1 r1 (q1 _) (yieldsIf_load_mid (by simp [Region.wanted, g1]) ty1 x1 p1 b1 0 e1 cs1 d1 (fun w' hw' => fun j v hv => by rw [Nat.zero_add]; exact (R1.below hw' R1.lt).c j hv) u1 k1 n1) S0 ?_
  refine wpAnyH_all r2 (by simp) ?_
  intro i hi
  obtain rfl : i = 2 := by simpa using hi
  refine wpOp_step i2 (fun K hK => ?_)
  rw [if_pos (by simp [Region.wanted, g2])]
  unfold Oper.wp
  rw [enters _ o2 _ #[y2] ts2 c2 p2 #[.agg cs1.toArray] (by simp only [List.map_toArray, List.map_cons, List.map_nil, e2]) m2, Oper.upon_enter]
  refine (C2 _ S0).mono ?_
  rintro e w2 ⟨V, rfl, hR, B2⟩
  have S2 : Below w.heap.size w w2 := S0.trans (B2.mono S0.size)
  refine hK _ _ ⟨S2, ?_⟩
  refine wpAnyH_all r3 (by simp) ?_
  intro i hi
  obtain rfl : i = 3 := by simpa using hi
  refine wpOp_step i3 (fun K hK => ?_)
  rw [if_pos (by simp [Region.wanted, g3])]
  unfold Oper.wp
  rw [enters _ o3 _ #[y3, z3] ts3 c3 p3 #[.agg cs0.toArray, V] (by simp only [List.map_toArray, List.map_cons, List.map_nil, e3 V, e3' V]) m3, Oper.upon_enter]
  refine (C3 V w2 S2 hR).mono ?_
  rintro e w3 ⟨rfl, B3⟩
  have S3 : Below w.heap.size w w3 := S2.trans (B3.mono S2.size)
  refine hK _ _ ⟨S3, ?_⟩
  refine wpAnyH_all r4 (by simp) ?_
  intro i hi
  obtain rfl : i = 4 := by simpa using hi
  refine wpOp_step i4 (fun K hK => ?_)
  rw [if_pos (by simp [Region.wanted, g4])]
  unfold Oper.wp
  rw [run_not ty4 x4 p4 (e4 V), Oper.upon_value]
  exact hK _ _ ⟨S3, wpAnyH_done r5 (h V w3 S3) _⟩

theorem listed_all (vs : List Value) : ∀ (xs : List Value) (i : Nat), xs.length = i + vs.length → listed xs i vs = xs.take i ++ vs := by
  induction vs with
  | nil => intro xs i h; simp only [listed, List.append_nil]; rw [List.take_of_length_le]; simp at h; omega
  | cons v vs ih =>
    intro xs i h
    have h2 : i < xs.length := by simp at h; omega
    have h3 : (xs.set i v).take (i + 1) = xs.take i ++ [v] := by
      rw [List.take_add_one, List.take_set, List.set_eq_of_length_le (by simp; omega)]
      simp [h2]
    rw [listed, ih (xs.set i v) (i + 1) (by simp at h ⊢; omega), h3, List.append_assoc]
    rfl

/-- An argument laid anew and put into a box. -/
theorem region_box {P : Program} {ops : Array Oper} {id : Nat} {a : Act} {w : World} {Q : Exit → Act → World → Prop}
    {o0 o1 o2 o3 : Oper} (hl : ops.toList = [o0, o1, o2, o3]) (g0 : o0.guard = none) (g1 : o1.guard = none) (g2 : o2.guard = none) (g3 : o3.guard = none)
    (ty0 : TypeId) (x0 : Operand) (p0 : o0.op = .load ty0 x0) (b0 : Nat) (cs0 : List Value) (d0 : TypeDesc) (e0 : a.eval x0 = .pointer (some ⟨b0, 0, none⟩)) (R0 : Row w b0 cs0)
    (u0 : P.underlying ty0 = some d0) (k0 : d0.isRow = true) (n0 : (P.info? ty0).map (·.size) = some cs0.length)
    (c1 : FuncId) (y1 : Operand) (ts1 : Array TypeId) (p1 : o1.op = .call { callee := .value (.func c1), args := #[y1], argTypes := ts1 }) (m1 : ∀ vs w, (callFunc c1 vs).run P w = .ok (.enter c1 vs) w)
    (e1 : (a.put o0.dst (.agg cs0.toArray)).eval y1 = .agg cs0.toArray)
    (zs : List Value) (ty2 : TypeId) (al : ∀ (ρ : Operand → Value) w, (execOp ρ o2).run P w = .ok (.value (.pointer (some ⟨w.heap.size, 0, none⟩))) (w.alloc (.cells zs.toArray ty2)))
    (ty3 : TypeId) (x3 y3 : Operand) (p3 : o3.op = .store ty3 x3 y3) (i3 : (P.info? ty3).map (·.size) = some zs.length)
    (e3 : ∀ V X, (((a.put o0.dst (.agg cs0.toArray)).put o1.dst V).put o2.dst X).eval x3 = X) (e4 : ∀ V X, (((a.put o0.dst (.agg cs0.toArray)).put o1.dst V).put o2.dst X).eval y3 = V)
    (R : List Value → World → Prop)
    (C1 : Calls P c1 #[.agg cs0.toArray] w fun e w' => ∃ cs, e = .returned (.agg (List.toArray cs)) ∧ cs.length = zs.length ∧ cs.all (·.oneCell') = true ∧ R cs w' ∧ Below w.heap.size w w')
    (h : ∀ cs w1 wz, R cs w1 → Below w.heap.size w w1 → Row wz w1.heap.size cs → Below w1.heap.size w1 wz → Q .normal ((((a.put o0.dst (.agg cs0.toArray)).put o1.dst (.agg cs.toArray)).put o2.dst (.pointer (some ⟨w1.heap.size, 0, none⟩))).put o3.dst undef) wz) :
    (Code.region id ops false).wp P Q a w := by
  refine wp_region_list ?_
  rw [hl]
  refine wpList_load_row g0 ty0 x0 p0 b0 e0 cs0 d0 R0 u0 k0 n0 ?_
  refine wpList_call g1 c1 #[y1] ts1 p1 #[.agg cs0.toArray] (by simp only [List.map_toArray, List.map_cons, List.map_nil, e1]) m1 (C1.mono ?_)
  rintro e w1 ⟨cs, rfl, hlen, h1, hR, B1⟩
  refine ⟨_, rfl, ?_⟩
  refine wpList_plain g2 (fun K hK => ?_)
  unfold Oper.wp
  rw [al, Oper.upon_value]
  refine hK _ _ ?_
  have hr := Row.new w1 zs ty2
  refine wpList_store_row g3 ty3 x3 y3 p3 w1.heap.size (e3 _ _) zs cs (e4 _ _) hr hlen (by rw [i3, hlen]) h1 ?_
  refine wpList_nil ?_
  have hrow := puts_row hr 0 cs
  rw [listed_all cs zs 0 (by omega)] at hrow
  exact h cs w1 _ hR B1 hrow (puts_below ((Below.refl _ w1).alloc (Nat.le_refl _) _) (Nat.le_refl _) 0 cs)

end Go.Proofs.YtlbfcnpnfoapnaaGreatDoor.Pl
