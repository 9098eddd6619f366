/-
  A host in memory: its size, laid anew, compared, marked. No condition but texts and lists that Go can hold, of at most 2^20 where they are laid anew.
  A struct of many cells that is loaded whole and stored whole in a plain region: one step each, however long it is. No condition.
  The walks of laws.toHost, laws.markHost and laws.heldHost. No condition but lists of at most 2^20, that may be written.
  A host that comes in as an argument: what it is in memory. No condition.
  Events in memory: lists of them, sizes, laid anew, compared, marked. No condition but lists of at most 2^20.
  The walks of laws.toEvent, toEventS, eqEvent, eqEventS. No condition but lists of at most 2^20.
  A list of texts that comes in as an argument: what it is in memory. No condition.
  Replies in memory: lists of them, sizes, laid anew, compared, and as an argument. No condition but lists of at most 2^20.
  A region that draws its order, walked once: one condition on what has come up, what it has left, and the world; each operation keeps it; so whatever order is drawn, it holds at the end. At any program. No condition.
  Two regions that each exact law has, at any program: an argument laid anew and put into a box; what stands in the box compared with the argument laid anew. One step an operation, however long the structs are. No condition.
  What a move, an assignment and a part of an answer yield. At any program. No condition.
  Any region walked once, drawn or plain; functions of a number turned at one place. At any program. No condition.
  A region that draws its order, with guards, that reads, reckons and calls, and stores into nothing that was there: each operation's value is fixed ahead, or is told of by what it hangs on. At any program. No condition.
  What the walks of regions by their operations' values want besides: cells and ranges that stay, loads of a range. At any program. No condition.
  Lists of hosts in memory: sizes, laid anew, compared, and as an argument. No condition but lists of at most 2^20.
  The walk of laws.markEventS, and a list of events that comes in as an argument. No condition.
  The walks of laws.eqWriteS and laws.eqDisk: they tell whether two lists of writes or disks are the same. No condition.
  The walk of spec.DiskOk: it tells whether a disk is right. No condition but lengths that Go can hold.
  The walks of spec.l3There, spec.l3Peek and spec.Peek: what a host sees. No condition but lengths that Go can hold.
-/
import Derived.Test.YtogebppolkfldaaGreatDoorJoin1
import Derived.Deep.MidRow
import Derived.Deep.DeepCutAuto
import Derived.ProofKit
import Derived.OpenShut
import Derived.ShutString
import Derived.Lib.SmallJoins
import Derived.Deep.Strs
import Derived.Deep.Slices
import Derived.Carry
import Derived.Test.YtogebppolkfldaaGreatDoorQuietB
import Derived.Laws.StructEq
import Derived.WalkSpells
import Derived.WalkLawsBesides
import Derived.Test.YtogebppolkfldaaGreatDoorMem
import Derived.Test.YtogebppolkfldaaGreatDoorRows
import Derived.WalkKit
import Derived.WalkSmall
import Derived.RegionTactic
import Derived.OrdersHeld
import Derived.BigRegion
import Derived.Deep.RegionWith
import Derived.Deep.RegionHeldLaw
namespace Go.Proofs.YtogebppolkfldaaGreatDoor.Pl
open Go.RowKit Go.Proofs.YtogebppolkfldaaGreatDoor.Mem Go.Proofs.YtogebppolkfldaaGreatDoor.Sec
set_option linter.unusedVariables false

/-- A host, but for where its list of outs lies. -/
structure Ho where
  id : Int
  ep : Int
  up : Bool
  rd : Bool
  bz : Bool
  k : Int
  v : Int
  t : Int
  a : Int
  s : ByteArray
  pc : Int
  cd : Int
  bk : Int
  tx : ByteArray
  l : List Ou
  txn : Int

def hoV (H : Ho) (p : Option Addr) (c : Nat) : Value := .agg #[.int .i64 H.id, .int .i64 H.ep, .bool H.up, .bool H.rd, .bool H.bz, .int .i64 H.k, .int .i64 H.v, .int .i64 H.t, .int .i64 H.a, .string H.s, .int .i64 H.pc, .int .i64 H.cd, .int .i64 H.bk, .string H.tx, .slice p H.l.length c, .int .i64 H.txn]
def plnV (cd bk : Int) (tx : ByteArray) (p : Option Addr) (n c : Nat) : Value := .agg #[.int .i64 cd, .int .i64 bk, .string tx, .slice p n c]

/-- All of it is of at most so much. -/
structure Ho.Upto (n : Nat) (H : Ho) : Prop where
  s : H.s.size ≤ n
  tx : H.tx.size ≤ n
  l : H.l.length ≤ n
  each : ∀ x ∈ H.l, x.text.size ≤ n

theorem Ho.Upto.mono {n m : Nat} {H : Ho} (h : H.Upto n) (hm : n ≤ m) : H.Upto m := ⟨Nat.le_trans h.s hm, Nat.le_trans h.tx hm, Nat.le_trans h.l hm, fun x hx => Nat.le_trans (h.each x hx) hm⟩
theorem Ho.Upto.max {H : Ho} (h : H.Upto 1048576) : H.Upto maxLen := h.mono (by unfold maxLen; decide)

set_option maxRecDepth 100000 in
set_option maxHeartbeats 1000000 in
theorem szPlan (w : World) (cd bk : Int) (tx : ByteArray) (p : Option Addr) (c : Nat) (l : List Ou) (left : Int) (S : Ous w p l) (ht : tx.size ≤ maxLen) (hl : l.length ≤ maxLen) (he : ∀ x ∈ l, x.text.size ≤ maxLen) (h0 : 0 ≤ left) (h1 : left ≤ 1048576) :
    Calls Tryz.prog 71 #[plnV cd bk tx p l.length c, .int .i64 left] w fun e w' => ∃ r, e = .returned (.int .i64 r) ∧ Below w.heap.size w w' ∧ (r < 0 ∨ (0 ≤ r ∧ r ≤ left ∧ (tx.size : Int) ≤ left ∧ (l.length : Int) ≤ left ∧ ∀ x ∈ l, (x.text.size : Int) ≤ left)) := by
  unfold plnV
  have HS := hid S
  have HE := hid he
  unfold maxLen at ht
  clear S he
  obtain ⟨wa, hwa, ez, A0, B0⟩ := one_new w [.int .i64 cd, .int .i64 bk, .string tx, .slice p l.length c] 93

  have k0 := A0.c 0 rfl
  have k1 := A0.c 1 rfl
  have k2 := A0.c 2 rfl
  have k3 := A0.c 3 rfl
  have HA := hid A0
  have HB := hid B0
  clear A0 B0 ez
  by_cases hb : left < (tx.size : Int)
  · go_enter Tryz.func71, Tryz.ntmps71
    go_wp2
    go_ret
    exact ⟨_, rfl, HB.out, Or.inl (by decide)⟩
  have hq0 : 0 ≤ left - (tx.size : Int) := by omega
  have hq1 : left - (tx.size : Int) ≤ 1048576 := by omega
  go_enter Tryz.func71, Tryz.ntmps71
  go_wp2_with fail
  try simp only [hwa]
  clear hwa
  refine (szOutS wa p c l (left - (tx.size : Int)) (HS.out.below HB.out) hl HE.out hq0 hq1).mono ?_
  rintro e w1 ⟨r, rfl, b1, hf⟩
  have HB1 := hid (HB.out.trans (b1.mono HB.out.size))
  have HF := hid hf
  clear b1 hf k0 k1 k2 k3
  by_cases hr : r < 0
  · go_wp2
    go_ret
    exact ⟨_, rfl, HB1.out, Or.inl (by decide)⟩
  · have HX : Hid (0 ≤ r ∧ r ≤ left ∧ (tx.size : Int) ≤ left ∧ (l.length : Int) ≤ left ∧ ∀ x ∈ l, (x.text.size : Int) ≤ left) := by
      rcases HF.out with h | ⟨h1, h2, h3, h4⟩
      · omega
      · exact ⟨by omega, by omega, by omega, by omega, fun x hx => by have := h4 x hx; omega⟩
    go_wp2
    go_ret
    exact ⟨_, rfl, HB1.out, Or.inr HX.out⟩

set_option maxRecDepth 100000 in
set_option maxHeartbeats 2000000 in
theorem szHost (w : World) (H : Ho) (p : Option Addr) (c : Nat) (left : Int) (S : Ous w p H.l) (hh : H.Upto maxLen) (h0 : 0 ≤ left) (h1 : left ≤ 1048576) :
    Calls Tryz.prog 36 #[hoV H p c, .int .i64 left] w fun e w' => ∃ r, e = .returned (.int .i64 r) ∧ Below w.heap.size w w' ∧ (r < 0 ∨ (0 ≤ r ∧ r ≤ left ∧ H.Upto 1048576)) := by

  obtain ⟨id, ep, up, rd, bz, k, v, t, a, s, pc, cd, bk, tx, l, txn⟩ := H
  have hS : s.size ≤ maxLen := hh.s
  have hT : tx.size ≤ maxLen := hh.tx
  have hL : l.length ≤ maxLen := hh.l
  have HE : Hid (∀ x ∈ l, x.text.size ≤ maxLen) := hh.each
  have HS : Hid (Ous w p l) := S
  clear S hh
  unfold hoV
  try simp only []
  obtain ⟨wa, hwa, ez, A0, B0⟩ := one_new w [.int .i64 id, .int .i64 ep, .bool up, .bool rd, .bool bz, .int .i64 k, .int .i64 v, .int .i64 t, .int .i64 a, .string s, .int .i64 pc, .int .i64 cd, .int .i64 bk, .string tx, .slice p l.length c, .int .i64 txn] 95
  have k5 := A0.c 5 rfl
  have k6 := A0.c 6 rfl
  have k7 := A0.c 7 rfl
  have k8 := A0.c 8 rfl
  have k9 := A0.c 9 rfl
  have HA := hid A0
  have HB := hid B0
  clear A0 B0 ez
  go_enter Tryz.func36, Tryz.ntmps36
  go_wp2_with fail
  try simp only [hwa]
  clear hwa k5 k6 k7 k8 k9
  refine (szOp wa k v t a s left hS h0 h1).mono ?_
  rintro e w1 ⟨r, rfl, b1, hf⟩
  have HA1 := hid (HA.out.below b1 HA.out.lt)
  have HB1 := hid (HB.out.trans (b1.mono HB.out.size))
  have HF := hid hf
  clear b1 hf HA HB
  by_cases hr : r < 0
  · go_wp2
    go_ret
    exact ⟨_, rfl, HB1.out, Or.inl (by decide)⟩
  have hf : 0 ≤ r ∧ r ≤ left ∧ (s.size : Int) ≤ left := by
    rcases HF.out with h | h
    · omega
    · exact h
  have hf1 := hf.1
  have hf2 : r ≤ 1048576 := by omega
  have HF2 := hid hf
  clear hf HF
  have k11 := HA1.out.c 11 rfl
  have k12 := HA1.out.c 12 rfl
  have k13 := HA1.out.c 13 rfl
  have k14 := HA1.out.c 14 rfl
  go_wp2_with fail
  refine (szPlan w1 cd bk tx p c l r (HS.out.below HB1.out) hT hL HE.out hf1 hf2).mono ?_
  rintro e w2 ⟨r2, rfl, b2, hf⟩
  have HB2 := hid (HB1.out.trans (b2.mono HB1.out.size))
  have HF := hid hf
  clear b2 hf k11 k12 k13 k14
  by_cases hr2 : r2 < 0
  · go_wp2
    go_ret
    exact ⟨_, rfl, HB2.out, Or.inl (by decide)⟩
  · have HX : Hid (0 ≤ r2 ∧ r2 ≤ left ∧ Ho.Upto 1048576 ⟨id, ep, up, rd, bz, k, v, t, a, s, pc, cd, bk, tx, l, txn⟩) := by
      have := HF2.out
      rcases HF.out with h | ⟨h1, h2, h3, h4, h5⟩
      · omega
      · exact ⟨by omega, by omega, by show s.size ≤ 1048576; omega, by show tx.size ≤ 1048576; omega, by show l.length ≤ 1048576; omega, fun x hx => by have := h5 x hx; omega⟩
    go_wp2
    go_ret
    exact ⟨_, rfl, HB2.out, Or.inr HX.out⟩

set_option maxRecDepth 100000 in
set_option maxHeartbeats 2000000 in
theorem toPlan (w : World) (cd bk : Int) (tx : ByteArray) (p : Option Addr) (c : Nat) (l : List Ou) (S : Ous w p l) (hl : l.length ≤ 1048576) :
    Calls Tryz.prog 87 #[plnV cd bk tx p l.length c] w fun r w' => ∃ g, r = .returned (plnV cd bk tx (some ⟨g, 0, none⟩) l.length l.length) ∧ w.heap.size ≤ g ∧ g < w'.heap.size ∧ OusW w' w.heap.size (some ⟨g, 0, none⟩) l ∧ Below w.heap.size w w' := by
  unfold plnV
  have HS := hid S
  clear S
  go_enter Tryz.func87, Tryz.ntmps87
  go_wp2_with fail
  obtain ⟨wc, hwc, e2, A0, R0, O0, B0⟩ := three_news w [.int .i64 cd, .int .i64 bk, .string tx, .slice p l.length c] [.int .i64 0, .int .i64 0, .string ⟨#[]⟩, .slice none 0 0] [.int .i64 cd, .int .i64 bk, .string tx, .slice none 0 0] 93 66
  simp only [hwc]
  clear hwc
  refine (toOutS wc p c l (HS.out.below B0) hl).mono ?_
  rintro r w2 ⟨g, rfl, hg, hl2, S2, b2⟩
  replace R0 := R0.below b2 R0.lt
  replace O0 := O0.below b2 O0.lt
  replace B0 := B0.trans (b2.mono (by omega))
  have d0 := O0.c 0 rfl
  have d1 := O0.c 1 rfl
  have d2 := O0.c 2 rfl
  have d3 := O0.c 3 rfl
  have fd := O0.f 3
  have r0 := R0.c 0 rfl
  have r1 := R0.c 1 rfl
  have r2 := R0.c 2 rfl
  have r3 := R0.c 3 rfl
  have f0 := R0.f 0
  have f1 := R0.f 1
  have f2 := R0.f 2
  have f3 := R0.f 3
  have HS2 := hid S2
  have HB := hid B0
  have HR := hid (puts_row (R0.other (p := ⟨w.heap.size + 1 + 1, 3, none⟩) (by show w.heap.size + 1 ≠ w.heap.size + 1 + 1; omega) (.slice (some ⟨g, 0, none⟩) l.length l.length)) 0 [.int .i64 cd, .int .i64 bk, .string tx, .slice (some ⟨g, 0, none⟩) l.length l.length])
  clear R0 O0 b2 S2 B0 A0
  go_wp2
  refine bodyPost_ret (results_row rfl _ _ (w.heap.size + 1) [.int .i64 cd, .int .i64 bk, .string tx, .slice (some ⟨g, 0, none⟩) l.length l.length] _ rfl HR.out Tryz.underlying66 rfl (by kernel_rfl)) rfl ?_
  refine ⟨g, rfl, by omega, by simpa using hl2, ?_, ?_⟩
  · exact (HS2.out.move (((kept_set _ _ _ _).trans (puts_kept _ (w.heap.size + 1) 0 [.int .i64 cd, .int .i64 bk, .string tx, .slice (some ⟨g, 0, none⟩) l.length l.length])).mono (T := fun b => b < wc.heap.size) (fun b _ hb => by rcases hb with h | h <;> omega)) (fun b hb => by have := HS2.out.foot_ge hb; omega)).mono (by omega)
  · exact puts_below (below_set HB.out (w.heap.size + 1 + 1) 3 _ (by omega)) (by omega) 0 [.int .i64 cd, .int .i64 bk, .string tx, .slice (some ⟨g, 0, none⟩) l.length l.length]

set_option maxRecDepth 100000 in
set_option maxHeartbeats 1000000 in
theorem eqOp (w : World) (k v t a : Int) (s : ByteArray) : Calls Tryz.prog 104 #[opV k v t a s, opV k v t a s] w fun e w' => e = .returned (.bool true) ∧ Below w.heap.size w w' := by
  unfold opV
  go_enter Tryz.func104, Tryz.ntmps104
  go_wp2
  go_ret
  exact ⟨rfl, by go_grown⟩

set_option maxRecDepth 100000 in
set_option maxHeartbeats 1000000 in
theorem eqPlan (w : World) (cd bk : Int) (tx : ByteArray) (p q : Option Addr) (cp cq : Nat) (l : List Ou) (S : Ous w p l) (T : Ous w q l) (hl : l.length ≤ maxLen) :
    Calls Tryz.prog 105 #[plnV cd bk tx p l.length cp, plnV cd bk tx q l.length cq] w fun e w' => e = .returned (.bool true) ∧ Below w.heap.size w w' := by
  unfold plnV
  have HS := hid S
  have HT := hid T
  have HL := hid hl
  clear S T hl
  obtain ⟨wa, hwa, ez, A0, C0, B0⟩ := two_new w [.int .i64 cd, .int .i64 bk, .string tx, .slice p l.length cp] [.int .i64 cd, .int .i64 bk, .string tx, .slice q l.length cq] 66 66
  have k0 := A0.c 0 rfl
  have k1 := A0.c 1 rfl
  have k2 := A0.c 2 rfl
  have k3 := A0.c 3 rfl
  have j0 := C0.c 0 rfl
  have j1 := C0.c 1 rfl
  have j2 := C0.c 2 rfl
  have j3 := C0.c 3 rfl
  have HB := hid B0
  clear A0 B0 C0 ez
  go_enter Tryz.func105, Tryz.ntmps105
  go_wp2_with fail
  try simp only [hwa]
  clear hwa
  refine (eqOutS wa p q cp cq l (HS.out.below HB.out) (HT.out.below HB.out) HL.out).mono ?_
  rintro r w2 ⟨rfl, b2⟩
  have HB2 := hid (HB.out.trans (b2.mono HB.out.size))
  clear b2 k0 k1 k2 k3 j0 j1 j2 j3
  go_wp2
  go_ret
  exact ⟨rfl, HB2.out⟩

set_option maxRecDepth 100000 in
set_option maxHeartbeats 2000000 in
theorem eqHost (w : World) (H : Ho) (p q : Option Addr) (cp cq : Nat) (S : Ous w p H.l) (T : Ous w q H.l) (hl : H.l.length ≤ maxLen) :
    Calls Tryz.prog 66 #[hoV H p cp, hoV H q cq] w fun e w' => e = .returned (.bool true) ∧ Below w.heap.size w w' := by

  obtain ⟨id, ep, up, rd, bz, k, v, t, a, s, pc, cd, bk, tx, l, txn⟩ := H
  have HS : Hid (Ous w p l) := S
  have HT : Hid (Ous w q l) := T
  have HL : Hid (l.length ≤ maxLen) := hl
  clear S T hl
  unfold hoV
  try simp only []
  obtain ⟨wa, hwa, ez, A0, C0, B0⟩ := two_new w [.int .i64 id, .int .i64 ep, .bool up, .bool rd, .bool bz, .int .i64 k, .int .i64 v, .int .i64 t, .int .i64 a, .string s, .int .i64 pc, .int .i64 cd, .int .i64 bk, .string tx, .slice p l.length cp, .int .i64 txn] [.int .i64 id, .int .i64 ep, .bool up, .bool rd, .bool bz, .int .i64 k, .int .i64 v, .int .i64 t, .int .i64 a, .string s, .int .i64 pc, .int .i64 cd, .int .i64 bk, .string tx, .slice q l.length cq, .int .i64 txn] 68 68
  have k0 := A0.c 0 rfl
  have k1 := A0.c 1 rfl
  have k2 := A0.c 2 rfl
  have k3 := A0.c 3 rfl
  have k4 := A0.c 4 rfl
  have k5 := A0.c 5 rfl
  have k6 := A0.c 6 rfl
  have k7 := A0.c 7 rfl
  have k8 := A0.c 8 rfl
  have k9 := A0.c 9 rfl
  have j0 := C0.c 0 rfl
  have j1 := C0.c 1 rfl
  have j2 := C0.c 2 rfl
  have j3 := C0.c 3 rfl
  have j4 := C0.c 4 rfl
  have j5 := C0.c 5 rfl
  have j6 := C0.c 6 rfl
  have j7 := C0.c 7 rfl
  have j8 := C0.c 8 rfl
  have j9 := C0.c 9 rfl
  have HA := hid A0
  have HC := hid C0
  have HB := hid B0
  clear A0 B0 C0 ez
  go_enter Tryz.func66, Tryz.ntmps66
  go_wp2_with fail
  try simp only [hwa]
  clear hwa
  refine (eqOp wa k v t a s).mono ?_
  rintro r w1 ⟨rfl, b1⟩
  have HA1 := hid (HA.out.below b1 HA.out.lt)
  have HC1 := hid (HC.out.below b1 HC.out.lt)
  have HB1 := hid (HB.out.trans (b1.mono HB.out.size))
  clear b1 HA HC HB k0 j0 k1 j1 k2 j2 k3 j3 k4 j4 k5 j5 k6 j6 k7 j7 k8 j8 k9 j9
  have k10 := HA1.out.c 10 rfl
  have k11 := HA1.out.c 11 rfl
  have k12 := HA1.out.c 12 rfl
  have k13 := HA1.out.c 13 rfl
  have k14 := HA1.out.c 14 rfl
  have j10 := HC1.out.c 10 rfl
  have j11 := HC1.out.c 11 rfl
  have j12 := HC1.out.c 12 rfl
  have j13 := HC1.out.c 13 rfl
  have j14 := HC1.out.c 14 rfl
  go_wp2_with fail
  refine (eqPlan w1 cd bk tx p q cp cq l (HS.out.below HB1.out) (HT.out.below HB1.out) HL.out).mono ?_
  rintro r w2 ⟨rfl, b2⟩
  have HB2 := hid (HB1.out.trans (b2.mono HB1.out.size))
  have k15 := (HA1.out.below b2 HA1.out.lt).c 15 rfl
  have j15 := (HC1.out.below b2 HC1.out.lt).c 15 rfl
  clear b2 HA1 HC1 k10 j10 k11 j11 k12 j12 k13 j13 k14 j14
  go_wp2
  go_ret
  exact ⟨rfl, HB2.out⟩

end Go.Proofs.YtogebppolkfldaaGreatDoor.Pl

namespace Go.Proofs.YtogebppolkfldaaGreatDoor.Pl
open Go.RowKit Go.Proofs.YtogebppolkfldaaGreatDoor.Mem
set_option linter.unusedVariables false

theorem puts_setCells (g : Nat) : ∀ (vs : List Value) (w : World) (i : Nat), puts w g i vs = w.setCells g i vs
  | [], _, _ => rfl
  | v :: vs, w, i => by rw [puts, World.setCells]; exact puts_setCells g vs _ (i + 1)

theorem wpList_load_row {P : Program} {ops : Array Oper} {rest : List Oper} {op : Oper} {a : Act} {w : World} {Q : Exit → Act → World → Prop} (hgd : op.guard = none) (ty : TypeId) (x : Operand) (ho : op.op = .load ty x)
    (b : Nat) (hx : a.eval x = .pointer (some ⟨b, 0, none⟩)) (cs : List Value) (d : TypeDesc) (hr : Row w b cs)
    (hu : P.underlying ty = some d) (hd : d.isRow = true) (hi : (P.info? ty).map (·.size) = some cs.length)
    (h : wpList P ops Q rest (a.put op.dst (.agg cs.toArray)) w) : wpList P ops Q (op :: rest) a w :=
  wpList_load_mid hgd ty x ho b 0 hx cs d (fun j v hv => by rw [Nat.zero_add]; exact hr.c j hv) hu hd hi h

theorem wpList_store_row {P : Program} {ops : Array Oper} {rest : List Oper} {op : Oper} {a : Act} {w : World} {Q : Exit → Act → World → Prop} (hgd : op.guard = none) (ty : TypeId) (x y : Operand) (ho : op.op = .store ty x y)
    (b : Nat) (hx : a.eval x = .pointer (some ⟨b, 0, none⟩)) (xs cs : List Value) (hy : a.eval y = .agg cs.toArray) (hr : Row w b xs) (hl : cs.length = xs.length)
    (hi : (P.info? ty).map (·.size) = some cs.length) (h1 : cs.all (·.oneCell') = true)
    (h : wpList P ops Q rest (a.put op.dst undef) (puts w b 0 cs)) : wpList P ops Q (op :: rest) a w :=
  wpList_store_mid hgd ty x y ho b 0 cs.toArray hx hy
    (fun j hj => by
      have hj' : j < xs.length := by rw [← hl]; simpa using hj
      rw [Nat.zero_add]
      exact ⟨by rw [hr.c j (List.getElem?_eq_getElem hj')]; rfl, hr.f j⟩)
    (by rw [hi]; simp) (all_oneCell_toArray (fun v hv => List.all_eq_true.1 h1 v hv)) (by rw [puts_setCells] at h; exact h)

end Go.Proofs.YtogebppolkfldaaGreatDoor.Pl

namespace Go.Proofs.YtogebppolkfldaaGreatDoor.Pl
open Go.RowKit Go.Proofs.YtogebppolkfldaaGreatDoor.Mem Go.Proofs.YtogebppolkfldaaGreatDoor.Sec Go.Proofs.YtogebppolkfldaaGreatDoor.Rd
set_option linter.unusedVariables false

set_option maxRecDepth 100000 in
set_option maxHeartbeats 8000000 in
theorem toHost (w : World) (H : Ho) (p : Option Addr) (c : Nat) (S : Ous w p H.l) (hl : H.l.length ≤ 1048576) :
    Calls Tryz.prog 50 #[hoV H p c] w fun r w' => ∃ g, r = .returned (hoV H (some ⟨g, 0, none⟩) H.l.length) ∧ w.heap.size ≤ g ∧ g < w'.heap.size ∧ OusW w' w.heap.size (some ⟨g, 0, none⟩) H.l ∧ Below w.heap.size w w' := by
  obtain ⟨id, ep, up, rd, bz, k, v, t, a, s, pc, cd, bk, tx, l, txn⟩ := H
  have HS : Hid (Ous w p l) := S
  replace hl : l.length ≤ 1048576 := hl
  clear S
  unfold hoV
  try simp only []
  go_enter Tryz.func50, Tryz.ntmps50
  go_wp2_with fail
  obtain ⟨wc, hwc, e2, A0, R0, O0, B0⟩ := three_news w [.int .i64 id, .int .i64 ep, .bool up, .bool rd, .bool bz, .int .i64 k, .int .i64 v, .int .i64 t, .int .i64 a, .string s, .int .i64 pc, .int .i64 cd, .int .i64 bk, .string tx, .slice p l.length c, .int .i64 txn] [.int .i64 0, .int .i64 0, .bool false, .bool false, .bool false, .int .i64 0, .int .i64 0, .int .i64 0, .int .i64 0, .string ⟨#[]⟩, .int .i64 0, .int .i64 0, .int .i64 0, .string ⟨#[]⟩, .slice none 0 0, .int .i64 0] [.int .i64 id, .int .i64 ep, .bool up, .bool rd, .bool bz, .int .i64 0, .int .i64 0, .int .i64 0, .int .i64 0, .string ⟨#[]⟩, .int .i64 0, .int .i64 0, .int .i64 0, .string ⟨#[]⟩, .slice none 0 0, .int .i64 0] 95 68
  simp only [hwc]
  clear hwc
  refine (toOp wc k v t a s).mono ?_
  rintro r w1 ⟨rfl, b1⟩
  replace A0 := A0.below b1 (by omega)
  replace R0 := R0.below b1 (by omega)
  replace O0 := O0.below b1 (by omega)
  replace B0 := B0.trans (b1.mono (by omega))
  have hs1 := b1.size
  have ca10 := A0.c 10 rfl
  have ca11 := A0.c 11 rfl
  have ca12 := A0.c 12 rfl
  have ca13 := A0.c 13 rfl
  have ca14 := A0.c 14 rfl
  have co5 := O0.c 5 rfl
  have co6 := O0.c 6 rfl
  have co7 := O0.c 7 rfl
  have co8 := O0.c 8 rfl
  have co9 := O0.c 9 rfl
  have co10 := O0.c 10 rfl
  have fo5 := O0.f 5
  have fo6 := O0.f 6
  have fo7 := O0.f 7
  have fo8 := O0.f 8
  have fo9 := O0.f 9
  have fo10 := O0.f 10
  have HA := hid A0
  have HR := hid R0
  have HO := hid O0
  clear A0 R0 O0 b1
  unfold opV
  go_wp2_with fail
  obtain ⟨w1', hw1', A0, R0, O0, B1, es⟩ : ∃ w1', ((((((w1.setCell ⟨w.heap.size + 1 + 1, 5, none⟩ (.int .i64 k)).setCell ⟨w.heap.size + 1 + 1, 6, none⟩ (.int .i64 v)).setCell ⟨w.heap.size + 1 + 1, 7, none⟩ (.int .i64 t)).setCell ⟨w.heap.size + 1 + 1, 8, none⟩ (.int .i64 a)).setCell ⟨w.heap.size + 1 + 1, 9, none⟩ (.string s)).setCell ⟨w.heap.size + 1 + 1, 10, none⟩ (.int .i64 pc)) = w1' ∧ Row w1' w.heap.size _ ∧ Row w1' (w.heap.size + 1) _ ∧ Row w1' (w.heap.size + 1 + 1) _ ∧ Below w.heap.size w w1' ∧ w1'.heap.size = w1.heap.size :=
    ⟨_, rfl, puts_other HA.out (by omega) 5 [.int .i64 k, .int .i64 v, .int .i64 t, .int .i64 a, .string s, .int .i64 pc], puts_other HR.out (by omega) 5 [.int .i64 k, .int .i64 v, .int .i64 t, .int .i64 a, .string s, .int .i64 pc], puts_row HO.out 5 [.int .i64 k, .int .i64 v, .int .i64 t, .int .i64 a, .string s, .int .i64 pc], puts_below B0 (by omega) 5 [.int .i64 k, .int .i64 v, .int .i64 t, .int .i64 a, .string s, .int .i64 pc], puts_size w1 _ 5 [.int .i64 k, .int .i64 v, .int .i64 t, .int .i64 a, .string s, .int .i64 pc]⟩
  simp only [hw1']
  clear hw1' HA HR HO B0 ca10 ca11 ca12 ca13 ca14 co5 fo5 co6 fo6 co7 fo7 co8 fo8 co9 fo9 co10 fo10
  refine (toPlan w1' cd bk tx p c l (HS.out.below B1) hl).mono ?_
  rintro r w2 ⟨g, rfl, hg, hl2, S2, b2⟩
  replace R0 := R0.below b2 R0.lt
  replace O0 := O0.below b2 O0.lt
  replace A0 := A0.below b2 A0.lt
  replace B1 := B1.trans (b2.mono (by omega))
  have d11 := O0.c 11 rfl
  have d12 := O0.c 12 rfl
  have d13 := O0.c 13 rfl
  have d14 := O0.c 14 rfl
  have fd11 := O0.f 11
  have fd12 := O0.f 12
  have fd13 := O0.f 13
  have fd14 := O0.f 14
  have HA := hid A0
  have HR := hid R0
  have HO := hid O0
  have HS2 := hid S2
  clear A0 R0 O0 b2 S2
  unfold plnV
  go_upto_region 10 with fail
  obtain ⟨w3, hw3, A0, R0, O0, B3, K3⟩ : ∃ w3, ((((w2.setCell ⟨w.heap.size + 1 + 1, 11, none⟩ (.int .i64 cd)).setCell ⟨w.heap.size + 1 + 1, 12, none⟩ (.int .i64 bk)).setCell ⟨w.heap.size + 1 + 1, 13, none⟩ (.string tx)).setCell ⟨w.heap.size + 1 + 1, 14, none⟩ (.slice (some ⟨g, 0, none⟩) l.length l.length)) = w3 ∧ Row w3 w.heap.size _ ∧ Row w3 (w.heap.size + 1) _ ∧ Row w3 (w.heap.size + 1 + 1) _ ∧ Below w.heap.size w w3 ∧ Kept (fun b => b = w.heap.size + 1 + 1) w2 w3 :=
    ⟨_, rfl, puts_other HA.out (by omega) 11 [.int .i64 cd, .int .i64 bk, .string tx, .slice (some ⟨g, 0, none⟩) l.length l.length], puts_other HR.out (by omega) 11 [.int .i64 cd, .int .i64 bk, .string tx, .slice (some ⟨g, 0, none⟩) l.length l.length], puts_row HO.out 11 [.int .i64 cd, .int .i64 bk, .string tx, .slice (some ⟨g, 0, none⟩) l.length l.length], puts_below B1 (by omega) 11 [.int .i64 cd, .int .i64 bk, .string tx, .slice (some ⟨g, 0, none⟩) l.length l.length], puts_kept w2 _ 11 [.int .i64 cd, .int .i64 bk, .string tx, .slice (some ⟨g, 0, none⟩) l.length l.length]⟩
  try simp only [hw3]
  clear hw3 d11 d12 d13 d14 fd11 fd12 fd13 fd14 HA HR HO B1
  have a15 := A0.c 15 rfl
  have d15 := O0.c 15 rfl
  have fd15 := O0.f 15
  have HR := hid R0
  have HO := hid O0
  clear A0 R0 O0
  go_upto_region 11 with fail
  obtain ⟨w4, hw4, R0, O0, B4, K4⟩ : ∃ w4, w3.setCell ⟨w.heap.size + 1 + 1, 15, none⟩ (.int .i64 txn) = w4 ∧ Row w4 (w.heap.size + 1) _ ∧ Row w4 (w.heap.size + 1 + 1) _ ∧ Below w.heap.size w w4 ∧ Kept (fun b => b = w.heap.size + 1 + 1) w3 w4 :=
    ⟨_, rfl, HR.out.other (p := ⟨w.heap.size + 1 + 1, 15, none⟩) (by show w.heap.size + 1 ≠ w.heap.size + 1 + 1; omega) _, HO.out.set 15 (.int .i64 txn), below_set B3 _ _ _ (by omega), kept_set w3 _ _ _⟩
  try simp only [hw4]
  clear hw4 a15 d15 fd15 HR HO
  refine wp_region_list ?_
  refine wpList_load_row rfl 68 _ rfl (w.heap.size + 1 + 1) rfl [.int .i64 id, .int .i64 ep, .bool up, .bool rd, .bool bz, .int .i64 k, .int .i64 v, .int .i64 t, .int .i64 a, .string s, .int .i64 pc, .int .i64 cd, .int .i64 bk, .string tx, .slice (some ⟨g, 0, none⟩) l.length l.length, .int .i64 txn] _ O0 Tryz.underlying68 rfl (by kernel_rfl) ?_
  refine wpList_store_row rfl 68 _ _ rfl (w.heap.size + 1) rfl _ [.int .i64 id, .int .i64 ep, .bool up, .bool rd, .bool bz, .int .i64 k, .int .i64 v, .int .i64 t, .int .i64 a, .string s, .int .i64 pc, .int .i64 cd, .int .i64 bk, .string tx, .slice (some ⟨g, 0, none⟩) l.length l.length, .int .i64 txn] rfl R0 rfl (by kernel_rfl) rfl ?_
  have HR := hid (puts_row R0 0 [.int .i64 id, .int .i64 ep, .bool up, .bool rd, .bool bz, .int .i64 k, .int .i64 v, .int .i64 t, .int .i64 a, .string s, .int .i64 pc, .int .i64 cd, .int .i64 bk, .string tx, .slice (some ⟨g, 0, none⟩) l.length l.length, .int .i64 txn])
  have HB := hid (puts_below B4 (show w.heap.size ≤ w.heap.size + 1 by omega) 0 [.int .i64 id, .int .i64 ep, .bool up, .bool rd, .bool bz, .int .i64 k, .int .i64 v, .int .i64 t, .int .i64 a, .string s, .int .i64 pc, .int .i64 cd, .int .i64 bk, .string tx, .slice (some ⟨g, 0, none⟩) l.length l.length, .int .i64 txn])
  have HK := hid (((K3.trans K4).trans (puts_kept w4 (w.heap.size + 1) 0 [.int .i64 id, .int .i64 ep, .bool up, .bool rd, .bool bz, .int .i64 k, .int .i64 v, .int .i64 t, .int .i64 a, .string s, .int .i64 pc, .int .i64 cd, .int .i64 bk, .string tx, .slice (some ⟨g, 0, none⟩) l.length l.length, .int .i64 txn])).mono (T := fun b => b < wc.heap.size) (fun b _ hb => by rcases hb with (h | h) | h <;> omega))
  have hz : w2.heap.size ≤ (puts w4 (w.heap.size + 1) 0 [.int .i64 id, .int .i64 ep, .bool up, .bool rd, .bool bz, .int .i64 k, .int .i64 v, .int .i64 t, .int .i64 a, .string s, .int .i64 pc, .int .i64 cd, .int .i64 bk, .string tx, .slice (some ⟨g, 0, none⟩) l.length l.length, .int .i64 txn]).heap.size := HK.out.size
  generalize puts w4 (w.heap.size + 1) 0 [.int .i64 id, .int .i64 ep, .bool up, .bool rd, .bool bz, .int .i64 k, .int .i64 v, .int .i64 t, .int .i64 a, .string s, .int .i64 pc, .int .i64 cd, .int .i64 bk, .string tx, .slice (some ⟨g, 0, none⟩) l.length l.length, .int .i64 txn] = w5 at *
  clear R0 O0 B3 B4 K3 K4
  refine wpList_nil ?_
  go_wp2
  refine bodyPost_ret (results_row rfl _ _ (w.heap.size + 1) [.int .i64 id, .int .i64 ep, .bool up, .bool rd, .bool bz, .int .i64 k, .int .i64 v, .int .i64 t, .int .i64 a, .string s, .int .i64 pc, .int .i64 cd, .int .i64 bk, .string tx, .slice (some ⟨g, 0, none⟩) l.length l.length, .int .i64 txn] _ rfl HR.out Tryz.underlying68 rfl (by kernel_rfl)) rfl ?_
  refine ⟨g, rfl, by omega, by omega, ?_, HB.out⟩
  exact (HS2.out.move HK.out (fun b hb => by have := HS2.out.foot_ge hb; omega)).mono (by omega)

end Go.Proofs.YtogebppolkfldaaGreatDoor.Pl

namespace Go.Proofs.YtogebppolkfldaaGreatDoor.Pl
open Go.RowKit Go.ChangeShapes Go.WideShapes Go.ChangeAt Go.Joins Go.Deep
open Go.Proofs.YtogebppolkfldaaGreatDoor.Mem Go.Proofs.YtogebppolkfldaaGreatDoor.Sec
set_option linter.unusedVariables false

variable {H : Type} {enc : TypeId × Value → H} {W : World} {base : Nat} {spare : Nat → Bool} {held : Bool}

theorem sl_of_addO {w : World} {a : Addr} {m : Nat} {f : Nat → Value} (h : ∀ i, i < m → w.cell? (a.add i) = some (f i)) : Sl w (some a) m f := by
  intro i hi
  have hc := h i hi
  obtain ⟨b, off, sp⟩ := a
  have hs : sp = none := by simpa [Addr.add] using World.cell?_spot (h 0 (by omega))
  subst hs
  rw [Addr.add_mid] at hc
  exact ⟨b, off, rfl, hc⟩

set_option maxRecDepth 100000 in
theorem out_in {fuel : Nat} {cs : List Value} {x : DataW H × List MemPlace} (h : DataW.trod enc Tryz.prog W base spare held fuel 199 cs = some x) :
    ∃ y : Ou, cs = y.cells ∧ y.text.size ≤ maxLen := by
  have c2 : Tryz.prog.cellsOf 199 = 2 := by kernel_rfl
  have cs9 : Tryz.prog.cellsOf 9 = 1 := by kernel_rfl
  obtain ⟨y0, y1, n, _, hl, f0, f1⟩ := trod_struct2 Tryz.underlying199 h
  rw [c2] at hl
  match cs, hl with
  | [v0, v1], _ =>
    replace f0 : DataW.trod enc Tryz.prog W base spare held n 3 [v0] = some y0 := by simpa [cInt] using f0
    replace f1 : DataW.trod enc Tryz.prog W base spare held n 9 [v1] = some y1 := by simpa [cs9] using f1
    obtain ⟨n0, e0, _, _⟩ := DataW.trod_int Tryz.underlying3 f0
    obtain ⟨s1, e1, _, hs⟩ := DataW.trod_string Tryz.underlying9 f1
    simp only [List.cons.injEq, and_true] at e0 e1
    subst e0; subst e1
    exact ⟨⟨n0, s1⟩, rfl, hs⟩

set_option maxRecDepth 100000 in
theorem outs_in {fuel : Nat} {v : Value} {x : DataW H × List MemPlace} (h : DataW.trod enc Tryz.prog W base spare held fuel 91 [v] = some x) :
    ∃ a cap l, v = .slice a (l : List Ou).length cap ∧ Ous W a l ∧ l.length ≤ maxLen ∧ ∀ y ∈ l, y.text.size ≤ maxLen := by
  have c2 : Tryz.prog.cellsOf 199 = 2 := by kernel_rfl
  rcases open_slice Tryz.underlying91 h with ⟨hcs, _⟩ | ⟨a, len, cap, m, n, D, Pl, hcs, _, hl, hm, hmm, _, hx⟩
  · simp only [List.cons.injEq, and_true] at hcs
    exact ⟨none, 0, [], hcs, fun i hi => by simp at hi, by simp, by simp⟩
  · simp only [List.cons.injEq, and_true] at hcs
    have hlm : len ≤ m := by rw [hmm]; split <;> omega
    have each : ∀ i, ∃ y : Ou, i < len → W.cells? base (a.add (i * 2)) 2 = some y.cells ∧ y.text.size ≤ maxLen := fun i => by
      by_cases hi : i < len
      · obtain ⟨cs', hc, ht⟩ := hx i (by omega)
        rw [c2] at hc
        obtain ⟨y, rfl, hy⟩ := out_in ht
        exact ⟨y, fun _ => ⟨hc, hy⟩⟩
      · exact ⟨Ou.none, fun h => absurd h hi⟩
    obtain ⟨Y, hY⟩ := Classical.axiomOfChoice each
    refine ⟨some a, cap, (List.range len).map Y, by rw [hcs]; simp, ?_, by simp; omega, ?_⟩
    · unfold Ous
      rw [List.length_map, List.length_range]
      refine sl_of_addO (fun i hi => ?_)
      have hq : i / 2 < len := by omega
      have hc := (World.cells?_some (hY (i / 2) hq).1).2.2 (i % 2) (by omega)
      rw [Addr.add_add, show i / 2 * 2 + i % 2 = i by omega] at hc
      rw [hc]
      unfold ocell
      have e : ((List.range len).map Y).getD (i / 2) Ou.none = Y (i / 2) := by simp [List.getD, hq]
      rw [e]
      have : i % 2 = 0 ∨ i % 2 = 1 := by omega
      rcases this with h | h <;> rw [h] <;> rfl
    · intro s hs
      obtain ⟨i, hi, rfl⟩ := List.mem_map.1 hs
      exact (hY i (List.mem_range.1 hi)).2

set_option maxRecDepth 100000 in
theorem plan_in {fuel : Nat} {cs : List Value} {x : DataW H × List MemPlace} (h : DataW.trod enc Tryz.prog W base spare held fuel 93 cs = some x) :
    ∃ (cd bk : Int) (tx : ByteArray) (p : Option Addr) (c : Nat) (l : List Ou), cs = [.int .i64 cd, .int .i64 bk, .string tx, .slice p l.length c] ∧ Ous W p l ∧ tx.size ≤ maxLen ∧ l.length ≤ maxLen ∧ ∀ y ∈ l, y.text.size ≤ maxLen := by
  obtain ⟨xs, n, _, rfl, hl, hlen, hf⟩ := DataW.trod_struct Tryz.underlying93 h
  have c4 : Tryz.prog.cellsOf 93 = 4 := by kernel_rfl
  have cs9 : Tryz.prog.cellsOf 9 = 1 := by kernel_rfl
  have cS : Tryz.prog.cellsOf 91 = 1 := by kernel_rfl
  rw [c4] at hl
  match xs, hlen, cs, hl with
  | [y0, y1, y2, y3], _, [v0, v1, v2, v3], _ =>
    have f0 : DataW.trod enc Tryz.prog W base spare held n 3 [v0] = some y0 := by simpa [cInt] using hf 0 _ rfl
    have f1 : DataW.trod enc Tryz.prog W base spare held n 3 [v1] = some y1 := by simpa [cInt] using hf 1 _ rfl
    have f2 : DataW.trod enc Tryz.prog W base spare held n 9 [v2] = some y2 := by simpa [cInt, cs9] using hf 2 _ rfl
    have f3 : DataW.trod enc Tryz.prog W base spare held n 91 [v3] = some y3 := by simpa [cInt, cs9, cS] using hf 3 _ rfl
    obtain ⟨n0, e0, _, _⟩ := DataW.trod_int Tryz.underlying3 f0
    obtain ⟨n1, e1, _, _⟩ := DataW.trod_int Tryz.underlying3 f1
    obtain ⟨s2, e2, _, hs⟩ := DataW.trod_string Tryz.underlying9 f2
    obtain ⟨a, cap, l, rfl, S, hm, he⟩ := outs_in f3
    simp only [List.cons.injEq, and_true] at e0 e1 e2
    subst e0; subst e1; subst e2
    exact ⟨n0, n1, s2, a, cap, l, rfl, S, hs, hm, he⟩

set_option maxRecDepth 100000 in
/-- A host that came in. -/
theorem host_in {v : Value} {d : DataW H} {p : List MemPlace} {r : Reach} {b0 : Nat} (hv : Value.okWide Tryz.prog W r b0 95 v) (h : DataW.Trod enc Tryz.prog W base spare held 95 v d p) :
    ∃ (J : Ho) (a : Option Addr) (cap : Nat), v = hoV J a cap ∧ Ous W a J.l ∧ J.Upto maxLen := by
  have c16 : Tryz.prog.cellsOf 95 = 16 := by kernel_rfl
  have cO : Tryz.prog.cellsOf 90 = 5 := by kernel_rfl
  have cP : Tryz.prog.cellsOf 93 = 4 := by kernel_rfl
  have cB : Tryz.prog.cellsOf 4 = 1 := by kernel_rfl
  obtain ⟨cs, rfl, hsz⟩ := okWide_struct Tryz.underlying95 hv
  rw [c16] at hsz
  obtain ⟨v0, v1, v2, v3, v4, v5, v6, v7, v8, v9, v10, v11, v12, v13, v14, v15, rfl⟩ : ∃ v0 v1 v2 v3 v4 v5 v6 v7 v8 v9 v10 v11 v12 v13 v14 v15, cs = #[v0, v1, v2, v3, v4, v5, v6, v7, v8, v9, v10, v11, v12, v13, v14, v15] := by
    obtain ⟨l⟩ := cs
    match l, hsz with
    | [v0, v1, v2, v3, v4, v5, v6, v7, v8, v9, v10, v11, v12, v13, v14, v15], _ => exact ⟨v0, v1, v2, v3, v4, v5, v6, v7, v8, v9, v10, v11, v12, v13, v14, v15, rfl⟩
  obtain ⟨fuel, hf⟩ := h
  obtain ⟨xs, n, _, _, _, hlen, hf⟩ := DataW.trod_struct Tryz.underlying95 hf
  match xs, hlen with
  | [y0, y1, y2, y3, y4, y5, y6, y7, y8], _ =>
    have f0 : DataW.trod enc Tryz.prog W base spare held n 3 [v0] = some y0 := by simpa [cInt, Value.cells] using hf 0 _ rfl
    have f1 : DataW.trod enc Tryz.prog W base spare held n 3 [v1] = some y1 := by simpa [cInt, Value.cells] using hf 1 _ rfl
    have f2 : DataW.trod enc Tryz.prog W base spare held n 4 [v2] = some y2 := by simpa [cInt, cB, Value.cells] using hf 2 _ rfl
    have f3 : DataW.trod enc Tryz.prog W base spare held n 4 [v3] = some y3 := by simpa [cInt, cB, Value.cells] using hf 3 _ rfl
    have f4 : DataW.trod enc Tryz.prog W base spare held n 4 [v4] = some y4 := by simpa [cInt, cB, Value.cells] using hf 4 _ rfl
    have f5 : DataW.trod enc Tryz.prog W base spare held n 90 [v5, v6, v7, v8, v9] = some y5 := by simpa [cInt, cB, cO, Value.cells] using hf 5 _ rfl
    have f6 : DataW.trod enc Tryz.prog W base spare held n 3 [v10] = some y6 := by simpa [cInt, cB, cO, Value.cells] using hf 6 _ rfl
    have f7 : DataW.trod enc Tryz.prog W base spare held n 93 [v11, v12, v13, v14] = some y7 := by simpa [cInt, cB, cO, cP, Value.cells] using hf 7 _ rfl
    have f8 : DataW.trod enc Tryz.prog W base spare held n 3 [v15] = some y8 := by simpa [cInt, cB, cO, cP, Value.cells] using hf 8 _ rfl
    obtain ⟨n0, e0, _, _⟩ := DataW.trod_int Tryz.underlying3 f0
    obtain ⟨n1, e1, _, _⟩ := DataW.trod_int Tryz.underlying3 f1
    obtain ⟨b2, e2, _⟩ := DataW.trod_bool Tryz.underlying4 f2
    obtain ⟨b3, e3, _⟩ := DataW.trod_bool Tryz.underlying4 f3
    obtain ⟨b4, e4, _⟩ := DataW.trod_bool Tryz.underlying4 f4
    obtain ⟨k, v, t, at_, s, e5, hs⟩ := op_in f5
    obtain ⟨n6, e6, _, _⟩ := DataW.trod_int Tryz.underlying3 f6
    obtain ⟨cd, bk, tx, a, cap, l, e7, S, ht, hm, he⟩ := plan_in f7
    obtain ⟨n8, e8, _, _⟩ := DataW.trod_int Tryz.underlying3 f8
    simp only [List.cons.injEq, and_true] at e0 e1 e2 e3 e4 e5 e6 e7 e8
    obtain ⟨rfl, rfl, rfl, rfl, rfl⟩ := e5
    obtain ⟨rfl, rfl, rfl, rfl⟩ := e7
    subst e0; subst e1; subst e2; subst e3; subst e4; subst e6; subst e8
    exact ⟨⟨n0, n1, b2, b3, b4, k, v, t, at_, s, n6, cd, bk, tx, l, n8⟩, a, cap, rfl, S, ⟨hs, ht, hm, he⟩⟩

end Go.Proofs.YtogebppolkfldaaGreatDoor.Pl

namespace Go.Proofs.YtogebppolkfldaaGreatDoor.Pl
open Go.RowKit Go.Proofs.YtogebppolkfldaaGreatDoor.Mem
set_option linter.unusedVariables false

/-- An event: who, which try, and the call. -/
structure Ev where
  h : Int
  x : Int
  k : Int
  v : Int
  t : Int
  a : Int
  s : ByteArray

def Ev.none : Ev := ⟨0, 0, 0, 0, 0, 0, ByteArray.empty⟩
def Ev.cells (e : Ev) : List Value := [.int .i64 e.h, .int .i64 e.x, .int .i64 e.k, .int .i64 e.v, .int .i64 e.t, .int .i64 e.a, .string e.s]
def Ev.val (e : Ev) : Value := .agg #[.int .i64 e.h, .int .i64 e.x, .int .i64 e.k, .int .i64 e.v, .int .i64 e.t, .int .i64 e.a, .string e.s]
def Ev.op (e : Ev) : Value := opV e.k e.v e.t e.a e.s

def evcell (l : List Ev) (i : Nat) : Value := (l.getD (i / 7) Ev.none).cells.getD (i % 7) undef
def Evs (w : World) (a : Option Addr) (l : List Ev) : Prop := Sl w a (l.length * 7) (evcell l)
def EvsW (w : World) (B : Nat) (a : Option Addr) (l : List Ev) : Prop := Wr w B a (l.length * 7) (evcell l)

theorem evcell_at (l : List Ev) (k j : Nat) (hj : j < 7) : evcell l (k * 7 + j) = (l.getD k Ev.none).cells.getD j undef := by
  unfold evcell
  rw [show (k * 7 + j) / 7 = k by omega, show (k * 7 + j) % 7 = j by omega]

theorem Evs.at_ {w : World} {a : Option Addr} {l : List Ev} (h : Evs w a l) (k : Nat) (hk : k < l.length) : ∃ b off, a = some ⟨b, off, none⟩ ∧
    w.cell? ⟨b, off + k * 7, none⟩ = some (.int .i64 (l.getD k Ev.none).h) ∧ w.cell? ⟨b, off + k * 7 + 1, none⟩ = some (.int .i64 (l.getD k Ev.none).x) ∧ w.cell? ⟨b, off + k * 7 + 2, none⟩ = some (.int .i64 (l.getD k Ev.none).k) ∧ w.cell? ⟨b, off + k * 7 + 3, none⟩ = some (.int .i64 (l.getD k Ev.none).v) ∧ w.cell? ⟨b, off + k * 7 + 4, none⟩ = some (.int .i64 (l.getD k Ev.none).t) ∧ w.cell? ⟨b, off + k * 7 + 5, none⟩ = some (.int .i64 (l.getD k Ev.none).a) ∧ w.cell? ⟨b, off + k * 7 + 6, none⟩ = some (.string (l.getD k Ev.none).s) := by
  obtain ⟨b, off, rfl, h0⟩ := h (k * 7 + 0) (by omega)
  obtain ⟨b1, off1, e1, h1⟩ := h (k * 7 + 1) (by omega)
  cases e1
  obtain ⟨b2, off2, e2, h2⟩ := h (k * 7 + 2) (by omega)
  cases e2
  obtain ⟨b3, off3, e3, h3⟩ := h (k * 7 + 3) (by omega)
  cases e3
  obtain ⟨b4, off4, e4, h4⟩ := h (k * 7 + 4) (by omega)
  cases e4
  obtain ⟨b5, off5, e5, h5⟩ := h (k * 7 + 5) (by omega)
  cases e5
  obtain ⟨b6, off6, e6, h6⟩ := h (k * 7 + 6) (by omega)
  cases e6
  rw [evcell_at l k _ (by omega)] at h0 h1 h2 h3 h4 h5 h6
  exact ⟨b, off, rfl, h0, by rw [Nat.add_assoc]; exact h1, by rw [Nat.add_assoc]; exact h2, by rw [Nat.add_assoc]; exact h3, by rw [Nat.add_assoc]; exact h4, by rw [Nat.add_assoc]; exact h5, by rw [Nat.add_assoc]; exact h6⟩

set_option maxRecDepth 100000 in
set_option maxHeartbeats 2000000 in
theorem szEvent (w : World) (x : Ev) (left : Int) (hl : x.s.size ≤ maxLen) (h0 : 0 ≤ left) (h1 : left ≤ 1048576) :
    Calls Tryz.prog 37 #[x.val, .int .i64 left] w fun e w' => ∃ r, e = .returned (.int .i64 r) ∧ Below w.heap.size w w' ∧ Fits1 r left x.s.size := by
  obtain ⟨h, x, k, v, t, a, s⟩ := x
  unfold Ev.val
  simp only [] at hl ⊢
  obtain ⟨wa, hwa, ez, A0, B0⟩ := one_new w [.int .i64 h, .int .i64 x, .int .i64 k, .int .i64 v, .int .i64 t, .int .i64 a, .string s] 98
  have HA := hid A0
  have HB := hid B0
  clear A0 B0
  have k2 := HA.out.c 2 rfl
  have k3 := HA.out.c 3 rfl
  have k4 := HA.out.c 4 rfl
  have k5 := HA.out.c 5 rfl
  have k6 := HA.out.c 6 rfl
  go_enter Tryz.func37, Tryz.ntmps37
  go_wp2_with fail
  refine (szOp wa k v t a s left hl h0 h1).mono ?_
  rintro e w1 ⟨r, rfl, b1, hr⟩
  have HB1 := hid (HB.out.trans (b1.mono HB.out.size))
  have HR := hid hr
  clear b1 hwa k2 k3 k4 k5 k6 hr
  by_cases hneg : r < 0
  · go_wp2
    go_ret
    exact ⟨_, rfl, HB1.out, Or.inl (by decide)⟩
  · go_wp2
    go_ret
    exact ⟨_, rfl, HB1.out, HR.out⟩

/-- What is left: a number below 0, or one not above what was, and all fits. -/
def FitE (r left : Int) (l : List Ev) : Prop := r < 0 ∨ (0 ≤ r ∧ r ≤ left ∧ (l.length : Int) ≤ left ∧ ∀ x ∈ l, (x.s.size : Int) ≤ left)

set_option maxRecDepth 100000 in
set_option maxHeartbeats 2000000 in
theorem szEventS (w : World) (a : Option Addr) (cap : Nat) (l : List Ev) (left : Int) (S : Evs w a l) (hl : l.length ≤ maxLen) (hs : ∀ x ∈ l, x.s.size ≤ maxLen) (h0 : 0 ≤ left) (h1 : left ≤ 1048576) :
    Calls Tryz.prog 11 #[.slice a l.length cap, .int .i64 left] w fun e w' => ∃ r, e = .returned (.int .i64 r) ∧ Below w.heap.size w w' ∧ FitE r left l := by
  unfold maxLen at hl
  have HS := hid S
  have Hs := hid hs
  clear S hs
  by_cases hb : left < (l.length : Int)
  · go_enter Tryz.func11, Tryz.ntmps11
    go_wp2
    go_ret
    exact ⟨_, rfl, Below.refl _ _, Or.inl (by decide)⟩
  go_enter Tryz.func11, Tryz.ntmps11
  go_wp2
  go_loopw [1, 5] (fun z i wr => ∃ (k : Nat) (m : Int), k ≤ l.length ∧ i = .int .i64 (k : Int) ∧ z = .int .i64 m ∧ 0 ≤ m ∧ m ≤ left ∧ Hid (∀ j, j < k → ((l.getD j Ev.none).s.size : Int) ≤ left) ∧ Hid (Below w.heap.size w wr)) (fun _ i _ => l.length - (intOf i).toNat)
  case atStart => exact ⟨0, left - l.length, Nat.zero_le _, rfl, rfl, by omega, by omega, fun j hj => by omega, Below.refl _ _⟩
  case round =>
    obtain ⟨k, m, hk, rfl, rfl, hm0, hm1, HJ, HB⟩ := hrel
    by_cases hlt : k < l.length
    · obtain ⟨b, off, rfl, c0, c1, c2, c3, c4, c5, c6⟩ := Evs.at_ (HS.out.below HB.out) k hlt
      have hx : (l.getD k Ev.none).s.size ≤ maxLen := Hs.out _ (by simp [List.getD, hlt])
      generalize hq : l.getD k Ev.none = x at c0 c1 c2 c3 c4 c5 c6 hx
      have HX := hid hq
      clear hq
      have HC := hid (szEvent wr x m hx hm0 (by omega))
      clear hx
      unfold Ev.val at HC
      obtain ⟨xh, xx, xk, xv, xt, xa, xs⟩ := x
      simp only [] at c0 c1 c2 c3 c4 c5 c6 HC
      go_wp2_with fail
      refine HC.out.mono ?_
      rintro e w1 ⟨r, rfl, b1, hf⟩
      have HB1 := hid (HB.out.trans (b1.mono HB.out.size))
      have HF := hid hf
      clear b1 hf c0 c1 c2 c3 c4 c5 c6
      by_cases hr : r < 0
      · go_wp2
        go_ret
        exact ⟨_, rfl, HB1.out, Or.inl (by decide)⟩
      · have hf : 0 ≤ r ∧ r ≤ m ∧ (xs.size : Int) ≤ m := by
          rcases HF.out with h | h
          · omega
          · exact h
        have hf1 := hf.1
        have hf2 := hf.2.1
        have HF2 := hid hf.2.2
        clear hf HF HC
        go_wp2
        exact ⟨⟨k + 1, r, by omega, by go_num, rfl, hf1, by omega, fun j hj => by
          by_cases h : j = k
          · subst h; rw [HX.out]; have := HF2.out; show (xs.size : Int) ≤ left; omega
          · exact HJ.out j (by omega), HB1⟩, by simp [intOf]; omega⟩
    · obtain rfl : k = l.length := by omega
      go_wp2
      go_ret
      refine ⟨_, rfl, HB.out, Or.inr ⟨hm0, hm1, by omega, fun x hx => ?_⟩⟩
      obtain ⟨j, hj, rfl⟩ := List.getElem_of_mem hx
      have := HJ.out j hj
      rwa [List.getD, List.getElem?_eq_getElem hj] at this

end Go.Proofs.YtogebppolkfldaaGreatDoor.Pl

namespace Go.Proofs.YtogebppolkfldaaGreatDoor.Pl
open Go.RowKit Go.Proofs.YtogebppolkfldaaGreatDoor.Mem
set_option linter.unusedVariables false

set_option maxRecDepth 100000 in
set_option maxHeartbeats 2000000 in
theorem toEvent (w : World) (x : Ev) : Calls Tryz.prog 51 #[x.val] w fun e w' => e = .returned x.val ∧ Below w.heap.size w w' := by
  obtain ⟨h, x, k, v, t, a, s⟩ := x
  unfold Ev.val
  simp only []
  have HT := hid (fun w => toOp w k v t a s)
  unfold opV at HT
  go_enter Tryz.func51, Tryz.ntmps51
  go_wp2_with fail
  obtain ⟨wc, hwc, e2, A0, R0, O0, B0⟩ := three_news w [.int .i64 h, .int .i64 x, .int .i64 k, .int .i64 v, .int .i64 t, .int .i64 a, .string s] [.int .i64 0, .int .i64 0, .int .i64 0, .int .i64 0, .int .i64 0, .int .i64 0, .string ⟨#[]⟩] [.int .i64 h, .int .i64 x, .int .i64 0, .int .i64 0, .int .i64 0, .int .i64 0, .string ⟨#[]⟩] 98 107
  simp only [hwc]
  clear hwc
  refine (HT.out wc).mono ?_
  rintro r w2 ⟨rfl, b2⟩
  replace R0 := R0.below b2 R0.lt
  replace O0 := O0.below b2 O0.lt
  replace B0 := B0.trans (b2.mono (by omega))
  have d0 := O0.c 0 rfl
  have d1 := O0.c 1 rfl
  have d2 := O0.c 2 rfl
  have d3 := O0.c 3 rfl
  have d4 := O0.c 4 rfl
  have d5 := O0.c 5 rfl
  have d6 := O0.c 6 rfl
  have fd2 := O0.f 2
  have fd3 := O0.f 3
  have fd4 := O0.f 4
  have fd5 := O0.f 5
  have fd6 := O0.f 6
  have r0 := R0.c 0 rfl
  have r1 := R0.c 1 rfl
  have r2 := R0.c 2 rfl
  have r3 := R0.c 3 rfl
  have r4 := R0.c 4 rfl
  have r5 := R0.c 5 rfl
  have r6 := R0.c 6 rfl
  have f0 := R0.f 0
  have f1 := R0.f 1
  have f2 := R0.f 2
  have f3 := R0.f 3
  have f4 := R0.f 4
  have f5 := R0.f 5
  have f6 := R0.f 6
  have HO := hid O0
  have HB := hid B0
  have HR := hid R0
  clear R0 O0 b2 B0 A0
  go_upto_region 5 with fail
  obtain ⟨w3, hw3, R0, O0, B3⟩ : ∃ w3, (((((w2.setCell ⟨w.heap.size + 1 + 1, 2, none⟩ (.int .i64 k)).setCell ⟨w.heap.size + 1 + 1, 3, none⟩ (.int .i64 v)).setCell ⟨w.heap.size + 1 + 1, 4, none⟩ (.int .i64 t)).setCell ⟨w.heap.size + 1 + 1, 5, none⟩ (.int .i64 a)).setCell ⟨w.heap.size + 1 + 1, 6, none⟩ (.string s)) = w3 ∧ Row w3 (w.heap.size + 1) _ ∧ Row w3 (w.heap.size + 1 + 1) _ ∧ Below w.heap.size w w3 :=
    ⟨_, rfl, puts_other HR.out (by omega) 2 [.int .i64 k, .int .i64 v, .int .i64 t, .int .i64 a, .string s], puts_row HO.out 2 [.int .i64 k, .int .i64 v, .int .i64 t, .int .i64 a, .string s], puts_below HB.out (by omega) 2 [.int .i64 k, .int .i64 v, .int .i64 t, .int .i64 a, .string s]⟩
  try simp only [hw3]
  clear hw3
  refine wp_region_list ?_
  refine wpList_load_row rfl 107 _ rfl (w.heap.size + 1 + 1) rfl [.int .i64 h, .int .i64 x, .int .i64 k, .int .i64 v, .int .i64 t, .int .i64 a, .string s] _ O0 Tryz.underlying107 rfl (by kernel_rfl) ?_
  refine wpList_store_row rfl 107 _ _ rfl (w.heap.size + 1) rfl _ [.int .i64 h, .int .i64 x, .int .i64 k, .int .i64 v, .int .i64 t, .int .i64 a, .string s] rfl R0 rfl (by kernel_rfl) rfl ?_
  have HR3 := hid (puts_row R0 0 [.int .i64 h, .int .i64 x, .int .i64 k, .int .i64 v, .int .i64 t, .int .i64 a, .string s])
  have HB3 := hid (puts_below B3 (show w.heap.size ≤ w.heap.size + 1 by omega) 0 [.int .i64 h, .int .i64 x, .int .i64 k, .int .i64 v, .int .i64 t, .int .i64 a, .string s])
  generalize puts w3 (w.heap.size + 1) 0 [.int .i64 h, .int .i64 x, .int .i64 k, .int .i64 v, .int .i64 t, .int .i64 a, .string s] = w5 at *
  clear R0 O0 B3
  go_wp2
  refine bodyPost_ret (results_row rfl _ _ (w.heap.size + 1) [.int .i64 h, .int .i64 x, .int .i64 k, .int .i64 v, .int .i64 t, .int .i64 a, .string s] _ rfl HR3.out Tryz.underlying107 rfl (by kernel_rfl)) rfl ?_
  exact ⟨rfl, HB3.out⟩

theorem infoE : (Tryz.prog.info? 107).map (fun i => (i.zero, i.size, i.bytes)) = some (some (.agg #[.int .i64 0, .int .i64 0, .int .i64 0, .int .i64 0, .int .i64 0, .int .i64 0, .string ByteArray.empty]), 7, 64) := by kernel_rfl

/-- What stands in the new row behind k rounds. -/
def partE (l : List Ev) (k : Nat) (i : Nat) : Value := if i < k * 7 then evcell l i else Ev.none.cells.getD (i % 7) undef

theorem set7 {w : World} {B b : Nat} {m : Nat} {f : Nat → Value} (h : Wr w B (some ⟨b, 0, none⟩) m f) (k : Nat) (hk : k * 7 + 7 ≤ m) (v0 v1 v2 v3 v4 v5 v6 : Value) :
    Wr (((((((w.setCell ⟨b, k * 7, none⟩ v0).setCell ⟨b, k * 7 + 1, none⟩ v1).setCell ⟨b, k * 7 + 2, none⟩ v2).setCell ⟨b, k * 7 + 3, none⟩ v3).setCell ⟨b, k * 7 + 4, none⟩ v4).setCell ⟨b, k * 7 + 5, none⟩ v5).setCell ⟨b, k * 7 + 6, none⟩ v6) B (some ⟨b, 0, none⟩) m (fun j => if j / 7 = k then [v0, v1, v2, v3, v4, v5, v6].getD (j % 7) undef else f j) := by
  have h0 := h.set (k * 7) (by omega) v0
  have h1 := h0.set (k * 7 + 1) (by omega) v1
  have h2 := h1.set (k * 7 + 2) (by omega) v2
  have h3 := h2.set (k * 7 + 3) (by omega) v3
  have h4 := h3.set (k * 7 + 4) (by omega) v4
  have h5 := h4.set (k * 7 + 5) (by omega) v5
  have h6 := h5.set (k * 7 + 6) (by omega) v6
  simp only [Nat.zero_add] at h6
  refine h6.congr (fun j _ => ?_)
  by_cases hj : j / 7 = k
  · have : j = k * 7 ∨ j = k * 7 + 1 ∨ j = k * 7 + 2 ∨ j = k * 7 + 3 ∨ j = k * 7 + 4 ∨ j = k * 7 + 5 ∨ j = k * 7 + 6 := by omega
    rw [if_pos hj]
    rcases this with rfl | rfl | rfl | rfl | rfl | rfl | rfl
    · rw [show (k * 7) % 7 = 0 by omega]; rw [if_neg (by omega)]; rw [if_neg (by omega)]; rw [if_neg (by omega)]; rw [if_neg (by omega)]; rw [if_neg (by omega)]; rw [if_neg (by omega)]; rw [if_pos rfl]; rfl
    · rw [show (k * 7 + 1) % 7 = 1 by omega]; rw [if_neg (by omega)]; rw [if_neg (by omega)]; rw [if_neg (by omega)]; rw [if_neg (by omega)]; rw [if_neg (by omega)]; rw [if_pos rfl]; rfl
    · rw [show (k * 7 + 2) % 7 = 2 by omega]; rw [if_neg (by omega)]; rw [if_neg (by omega)]; rw [if_neg (by omega)]; rw [if_neg (by omega)]; rw [if_pos rfl]; rfl
    · rw [show (k * 7 + 3) % 7 = 3 by omega]; rw [if_neg (by omega)]; rw [if_neg (by omega)]; rw [if_neg (by omega)]; rw [if_pos rfl]; rfl
    · rw [show (k * 7 + 4) % 7 = 4 by omega]; rw [if_neg (by omega)]; rw [if_neg (by omega)]; rw [if_pos rfl]; rfl
    · rw [show (k * 7 + 5) % 7 = 5 by omega]; rw [if_neg (by omega)]; rw [if_pos rfl]; rfl
    · rw [show (k * 7 + 6) % 7 = 6 by omega]; rw [if_pos rfl]; rfl
  · rw [if_neg (by omega)]; rw [if_neg (by omega)]; rw [if_neg (by omega)]; rw [if_neg (by omega)]; rw [if_neg (by omega)]; rw [if_neg (by omega)]; rw [if_neg (by omega)]; rw [if_neg hj]

theorem partE_succ (l : List Ev) (k : Nat) (j : Nat) : (if j / 7 = k then (l.getD k Ev.none).cells.getD (j % 7) undef else partE l k j) = partE l (k + 1) j := by
  unfold partE
  by_cases h : j / 7 = k
  · rw [if_pos h, if_pos (by omega)]
    unfold evcell
    rw [h]
  · by_cases h2 : j < k * 7
    · rw [if_neg h, if_pos h2, if_pos (by omega)]
    · rw [if_neg h, if_neg h2, if_neg (by omega)]

theorem wr_seven {w : World} {B b : Nat} {m : Nat} {f : Nat → Value} (h : Wr w B (some ⟨b, 0, none⟩) m f) (k : Nat) (hk : k * 7 + 7 ≤ m) :
    (∃ v, w.cell? ⟨b, k * 7, none⟩ = some v) ∧ (∃ v, w.cell? ⟨b, k * 7 + 1, none⟩ = some v) ∧ (∃ v, w.cell? ⟨b, k * 7 + 2, none⟩ = some v) ∧ (∃ v, w.cell? ⟨b, k * 7 + 3, none⟩ = some v) ∧ (∃ v, w.cell? ⟨b, k * 7 + 4, none⟩ = some v) ∧ (∃ v, w.cell? ⟨b, k * 7 + 5, none⟩ = some v) ∧ (∃ v, w.cell? ⟨b, k * 7 + 6, none⟩ = some v) ∧ w.frozen? ⟨b, k * 7, none⟩ = false ∧ w.frozen? ⟨b, k * 7 + 1, none⟩ = false ∧ w.frozen? ⟨b, k * 7 + 2, none⟩ = false ∧ w.frozen? ⟨b, k * 7 + 3, none⟩ = false ∧ w.frozen? ⟨b, k * 7 + 4, none⟩ = false ∧ w.frozen? ⟨b, k * 7 + 5, none⟩ = false ∧ w.frozen? ⟨b, k * 7 + 6, none⟩ = false := by
  obtain ⟨_, _, e0, _, h0, z0⟩ := h (k * 7) (by omega)
  obtain ⟨_, _, e1, _, h1, z1⟩ := h (k * 7 + 1) (by omega)
  obtain ⟨_, _, e2, _, h2, z2⟩ := h (k * 7 + 2) (by omega)
  obtain ⟨_, _, e3, _, h3, z3⟩ := h (k * 7 + 3) (by omega)
  obtain ⟨_, _, e4, _, h4, z4⟩ := h (k * 7 + 4) (by omega)
  obtain ⟨_, _, e5, _, h5, z5⟩ := h (k * 7 + 5) (by omega)
  obtain ⟨_, _, e6, _, h6, z6⟩ := h (k * 7 + 6) (by omega)
  cases e0; cases e1; cases e2; cases e3; cases e4; cases e5; cases e6
  rw [Nat.zero_add] at h0 z0 h1 z1 h2 z2 h3 z3 h4 z4 h5 z5 h6 z6
  exact ⟨⟨_, h0⟩, ⟨_, h1⟩, ⟨_, h2⟩, ⟨_, h3⟩, ⟨_, h4⟩, ⟨_, h5⟩, ⟨_, h6⟩, z0, z1, z2, z3, z4, z5, z6⟩

set_option maxRecDepth 100000 in
set_option maxHeartbeats 2000000 in
theorem toEventS (w : World) (a : Option Addr) (cap : Nat) (l : List Ev) (S : Evs w a l) (hl : l.length ≤ 1048576) :
    Calls Tryz.prog 20 #[.slice a l.length cap] w fun e w' => ∃ g, e = .returned (.slice (some ⟨g, 0, none⟩) l.length l.length) ∧ w.heap.size ≤ g ∧ g < w'.heap.size ∧ EvsW w' w.heap.size (some ⟨g, 0, none⟩) l ∧ Below w.heap.size w w' := by
  have hmk := make_rows (P := Tryz.prog) 38 107 (.agg #[.int .i64 0, .int .i64 0, .int .i64 0, .int .i64 0, .int .i64 0, .int .i64 0, .string ByteArray.empty]) 7 64 Tryz.underlying38 infoE .i64 .i64 l.length (by omega) (by omega)
  have HS := hid S
  have hw0 := wr_new w (madeCells (Value.agg #[.int .i64 0, .int .i64 0, .int .i64 0, .int .i64 0, .int .i64 0, .int .i64 0, .string ByteArray.empty]).cells (l.length * 7)) 107 (l.length * 7) (partE l 0) (fun i hi => by
    simp [madeCells, hi, partE, Ev.none, Ev.cells, Value.cells]
    have : i % 7 = 0 ∨ i % 7 = 1 ∨ i % 7 = 2 ∨ i % 7 = 3 ∨ i % 7 = 4 ∨ i % 7 = 5 ∨ i % 7 = 6 := by omega
    rcases this with h | h | h | h | h | h | h <;> simp [h])
  generalize madeCells (Value.agg #[.int .i64 0, .int .i64 0, .int .i64 0, .int .i64 0, .int .i64 0, .int .i64 0, .string ByteArray.empty]).cells (l.length * 7) = cur at hmk hw0
  have HW := hid hw0
  clear S hw0
  go_enter Tryz.func20, Tryz.ntmps20
  go_wp2
  go_loopw [4] (fun i wr => ∃ k : Nat, k ≤ l.length ∧ i = .int .i64 (k : Int) ∧ w.heap.size < wr.heap.size ∧ Hid (Wr wr w.heap.size (some ⟨w.heap.size, 0, none⟩) (l.length * 7) (partE l k)) ∧ Hid (Below w.heap.size w wr)) (fun i _ => l.length - (intOf i).toNat)
  case atStart => exact ⟨0, Nat.zero_le _, rfl, lt_alloc _ _, HW, (Below.refl _ _).alloc (Nat.le_refl _) _⟩
  case round =>
    obtain ⟨k, hk, rfl, hsz, HW', HB⟩ := hrel
    by_cases hlt : k < l.length
    · obtain ⟨b, off, rfl, c0, c1, c2, c3, c4, c5, c6⟩ := Evs.at_ (HS.out.below HB.out) k hlt
      generalize hx : l.getD k Ev.none = x at c0 c1 c2 c3 c4 c5 c6
      have HX := hid hx
      clear hx
      have HC := hid (fun w => toEvent w x)
      unfold Ev.val at HC
      obtain ⟨xh, xx, xk, xv, xt, xa, xs⟩ := x
      simp only [] at c0 c1 c2 c3 c4 c5 c6 HC
      go_wp2_with fail
      refine (HC.out _).mono ?_
      rintro e w1 ⟨rfl, hb1⟩
      have HW1 := hid (HW'.out.below hb1)
      have HB1 := hid (HB.out.trans (hb1.mono (Nat.le_of_lt hsz)))
      have hsz1 : w.heap.size < w1.heap.size := Nat.lt_of_lt_of_le hsz hb1.size
      obtain ⟨⟨u0, d0⟩, ⟨u1, d1⟩, ⟨u2, d2⟩, ⟨u3, d3⟩, ⟨u4, d4⟩, ⟨u5, d5⟩, ⟨u6, d6⟩, z0, z1, z2, z3, z4, z5, z6⟩ := wr_seven HW1.out k (by omega)
      clear hb1 c0 c1 c2 c3 c4 c5 c6
      go_wp2
      refine ⟨⟨k + 1, by omega, by go_num, by simpa using hsz1, ?_, ((((((HB1.out.setCell (Nat.le_refl _) _).setCell (Nat.le_refl _) _).setCell (Nat.le_refl _) _).setCell (Nat.le_refl _) _).setCell (Nat.le_refl _) _).setCell (Nat.le_refl _) _).setCell (Nat.le_refl _) _⟩, by simp [intOf]; omega⟩
      exact (set7 HW1.out k (by omega) _ _ _ _ _ _ _).congr (fun j _ => by rw [← partE_succ, HX.out]; rfl)
    · obtain rfl : k = l.length := by omega
      go_wp2
      go_ret
      exact ⟨_, rfl, Nat.le_refl _, hsz, HW'.out.congr (fun i hi => by simp [partE, hi]), HB.out⟩

set_option maxRecDepth 100000 in
set_option maxHeartbeats 2000000 in
theorem eqOpE (w : World) (k v t a : Int) (s : ByteArray) : Calls Tryz.prog 104 #[opV k v t a s, opV k v t a s] w fun e w' => e = .returned (.bool true) ∧ Below w.heap.size w w' := by
  unfold opV
  go_enter Tryz.func104, Tryz.ntmps104
  go_wp2
  go_ret
  exact ⟨rfl, by go_grown⟩

set_option maxRecDepth 100000 in
set_option maxHeartbeats 2000000 in
theorem eqEvent (w : World) (x : Ev) : Calls Tryz.prog 67 #[x.val, x.val] w fun e w' => e = .returned (.bool true) ∧ Below w.heap.size w w' := by
  obtain ⟨h, x, k, v, t, a, s⟩ := x
  unfold Ev.val
  simp only []
  have HT := hid (fun w => eqOpE w k v t a s)
  unfold opV at HT
  obtain ⟨wa, hwa, ez, A0, C0, B0⟩ := two_new w [.int .i64 h, .int .i64 x, .int .i64 k, .int .i64 v, .int .i64 t, .int .i64 a, .string s] [.int .i64 h, .int .i64 x, .int .i64 k, .int .i64 v, .int .i64 t, .int .i64 a, .string s] 107 107
  have HB := hid B0
  have k0 := A0.c 0 rfl
  have k1 := A0.c 1 rfl
  have k2 := A0.c 2 rfl
  have k3 := A0.c 3 rfl
  have k4 := A0.c 4 rfl
  have k5 := A0.c 5 rfl
  have k6 := A0.c 6 rfl
  have m0 := C0.c 0 rfl
  have m1 := C0.c 1 rfl
  have m2 := C0.c 2 rfl
  have m3 := C0.c 3 rfl
  have m4 := C0.c 4 rfl
  have m5 := C0.c 5 rfl
  have m6 := C0.c 6 rfl
  clear A0 C0 B0
  go_enter Tryz.func67, Tryz.ntmps67
  go_wp2_with fail
  refine (HT.out _).mono ?_
  rintro e w1 ⟨rfl, b1⟩
  have HB1 := hid (HB.out.trans (b1.mono HB.out.size))
  clear b1
  go_wp2
  go_ret
  exact ⟨rfl, HB1.out⟩

set_option maxRecDepth 100000 in
set_option maxHeartbeats 2000000 in
theorem eqEventS (w : World) (a b : Option Addr) (ca cb : Nat) (l : List Ev) (S : Evs w a l) (T : Evs w b l) (hl : l.length ≤ maxLen) :
    Calls Tryz.prog 31 #[.slice a l.length ca, .slice b l.length cb] w fun e w' => e = .returned (.bool true) ∧ Below w.heap.size w w' := by
  unfold maxLen at hl
  have HS := hid S
  have HT := hid T
  clear S T
  go_enter Tryz.func31, Tryz.ntmps31
  go_wp2
  go_loopw [5] (fun i wr => ∃ k : Nat, k ≤ l.length ∧ i = .int .i64 (k : Int) ∧ Hid (Below w.heap.size w wr)) (fun i _ => l.length - (intOf i).toNat)
  case atStart => exact ⟨0, Nat.zero_le _, rfl, Below.refl _ _⟩
  case round =>
    obtain ⟨k, hk, rfl, HB⟩ := hrel
    by_cases hlt : k < l.length
    · obtain ⟨b1, o1, rfl, c0, c1, c2, c3, c4, c5, c6⟩ := Evs.at_ (HS.out.below HB.out) k hlt
      obtain ⟨b2, o2, rfl, d0, d1, d2, d3, d4, d5, d6⟩ := Evs.at_ (HT.out.below HB.out) k hlt
      generalize l.getD k Ev.none = x at c0 c1 c2 c3 c4 c5 c6 d0 d1 d2 d3 d4 d5 d6
      have HC := hid (fun w => eqEvent w x)
      unfold Ev.val at HC
      obtain ⟨xh, xx, xk, xv, xt, xa, xs⟩ := x
      simp only [] at c0 c1 c2 c3 c4 c5 c6 d0 d1 d2 d3 d4 d5 d6 HC
      have hne : Nonempty (BW wr) := ⟨⟨wr, Below.refl _ _⟩⟩
      replace c0 := BW.cell c0
      replace c1 := BW.cell c1
      replace c2 := BW.cell c2
      replace c3 := BW.cell c3
      replace c4 := BW.cell c4
      replace c5 := BW.cell c5
      replace c6 := BW.cell c6
      replace d0 := BW.cell d0
      replace d1 := BW.cell d1
      replace d2 := BW.cell d2
      replace d3 := BW.cell d3
      replace d4 := BW.cell d4
      replace d5 := BW.cell d5
      replace d6 := BW.cell d6
      go_wp2
      refine wp_region_bw (by kernel_rfl) (by kernel_rfl) ?_
      repeat (go_big_quiet_step (first
        | (go_at_call 67; refine bw_below (HC.out _))))
      refine wpQuiet_nil ?_
      intro _ hw'
      obtain ⟨u, rfl⟩ := hw'
      have HU := hid (HB.out.trans (u.bel.mono HB.out.size))
      clear c0 c1 c2 c3 c4 c5 c6 d0 d1 d2 d3 d4 d5 d6
      go_wp2
      exact ⟨⟨k + 1, by omega, by go_num, HU⟩, by simp [intOf]; omega⟩
    · obtain rfl : k = l.length := by omega
      go_wp2
      go_ret
      exact ⟨rfl, HB.out⟩

end Go.Proofs.YtogebppolkfldaaGreatDoor.Pl

namespace Go.Proofs.YtogebppolkfldaaGreatDoor.Pk
open Go.RowKit Go.ChangeShapes Go.WideShapes Go.ChangeAt Go.Joins Go.Deep
open Go.Proofs.YtogebppolkfldaaGreatDoor.Mem
set_option linter.unusedVariables false

variable {H : Type} {enc : TypeId × Value → H} {W : World} {base : Nat} {spare : Nat → Bool} {held : Bool}

theorem sl_of_add {w : World} {a : Addr} {m : Nat} {f : Nat → Value} (h : ∀ i, i < m → w.cell? (a.add i) = some (f i)) : Sl w (some a) m f := by
  intro i hi
  have hc := h i hi
  obtain ⟨b, off, sp⟩ := a
  have hs : sp = none := by simpa [Addr.add] using World.cell?_spot (h 0 (by omega))
  subst hs
  rw [Addr.add_mid] at hc
  exact ⟨b, off, rfl, hc⟩

theorem strs_in {fuel : Nat} {v : Value} {x : DataW H × List MemPlace} (h : DataW.trod enc Tryz.prog W base spare held fuel 22 [v] = some x) :
    ∃ a cap l, v = .slice a (l : List ByteArray).length cap ∧ Strs W a l ∧ l.length ≤ maxLen ∧ ∀ s ∈ l, s.size ≤ maxLen := by
  rcases open_strs Tryz.underlying22 Tryz.underlying9 (by kernel_rfl) h with ⟨hcs, _⟩ | ⟨a, len, cap, m, Sx, hcs, _, hl, hm, hmm, _, hx⟩
  · simp only [List.cons.injEq, and_true] at hcs
    exact ⟨none, 0, [], hcs, fun i hi => by simp at hi, by simp, by simp⟩
  · simp only [List.cons.injEq, and_true] at hcs
    have hlm : len ≤ m := by rw [hmm]; split <;> omega
    refine ⟨some a, cap, (List.range len).map Sx, by rw [hcs]; simp, ?_, by simp; omega, ?_⟩
    · unfold Strs
      rw [List.length_map, List.length_range]
      refine sl_of_add (fun i hi => ?_)
      rw [(hx i (by omega)).1]
      simp [List.getD, hi]
    · intro s hs
      obtain ⟨i, hi, rfl⟩ := List.mem_map.1 hs
      exact (hx i (by have := List.mem_range.1 hi; omega)).2

set_option maxRecDepth 100000 in
theorem strs_arg {v : Value} {d : DataW H} {p : List MemPlace} {r : Reach} {b0 : Nat} (hv : Value.okWide Tryz.prog W r b0 22 v) (h : DataW.Trod enc Tryz.prog W base spare held 22 v d p) :
    ∃ a cap l, v = .slice a (l : List ByteArray).length cap ∧ Strs W a l ∧ l.length ≤ maxLen ∧ ∀ s ∈ l, s.size ≤ maxLen := by
  obtain ⟨fuel, hf⟩ := h
  obtain ⟨a, len, cap, rfl⟩ := okWide_slice Tryz.underlying22 hv
  exact strs_in hf

end Go.Proofs.YtogebppolkfldaaGreatDoor.Pk

namespace Go.Proofs.YtogebppolkfldaaGreatDoor.Pl
open Go.RowKit Go.ChangeShapes Go.WideShapes Go.ChangeAt Go.Joins Go.Deep
open Go.Proofs.YtogebppolkfldaaGreatDoor.Mem
set_option linter.unusedVariables false

/-- A reply: of whom, to which call, its code, its text and when. -/
structure Rp where
  h : Int
  k : Int
  v : Int
  t : Int
  a : Int
  s : ByteArray
  c : Int
  d : ByteArray
  m : Int

def Rp.none : Rp := ⟨0, 0, 0, 0, 0, ByteArray.empty, 0, ByteArray.empty, 0⟩
def Rp.cells (e : Rp) : List Value := [.int .i64 e.h, .int .i64 e.k, .int .i64 e.v, .int .i64 e.t, .int .i64 e.a, .string e.s, .int .i64 e.c, .string e.d, .int .i64 e.m]
def Rp.val (e : Rp) : Value := .agg #[.int .i64 e.h, .int .i64 e.k, .int .i64 e.v, .int .i64 e.t, .int .i64 e.a, .string e.s, .int .i64 e.c, .string e.d, .int .i64 e.m]
def Rp.op (e : Rp) : Value := opV e.k e.v e.t e.a e.s

def rpcell (l : List Rp) (i : Nat) : Value := (l.getD (i / 9) Rp.none).cells.getD (i % 9) undef
def Rps (w : World) (a : Option Addr) (l : List Rp) : Prop := Sl w a (l.length * 9) (rpcell l)
def RpsW (w : World) (B : Nat) (a : Option Addr) (l : List Rp) : Prop := Wr w B a (l.length * 9) (rpcell l)

theorem rpcell_at (l : List Rp) (k j : Nat) (hj : j < 9) : rpcell l (k * 9 + j) = (l.getD k Rp.none).cells.getD j undef := by
  unfold rpcell
  rw [show (k * 9 + j) / 9 = k by omega, show (k * 9 + j) % 9 = j by omega]

theorem Rps.at_ {w : World} {a : Option Addr} {l : List Rp} (h : Rps w a l) (k : Nat) (hk : k < l.length) : ∃ b off, a = some ⟨b, off, none⟩ ∧
    w.cell? ⟨b, off + k * 9, none⟩ = some (.int .i64 (l.getD k Rp.none).h) ∧ w.cell? ⟨b, off + k * 9 + 1, none⟩ = some (.int .i64 (l.getD k Rp.none).k) ∧ w.cell? ⟨b, off + k * 9 + 2, none⟩ = some (.int .i64 (l.getD k Rp.none).v) ∧ w.cell? ⟨b, off + k * 9 + 3, none⟩ = some (.int .i64 (l.getD k Rp.none).t) ∧ w.cell? ⟨b, off + k * 9 + 4, none⟩ = some (.int .i64 (l.getD k Rp.none).a) ∧ w.cell? ⟨b, off + k * 9 + 5, none⟩ = some (.string (l.getD k Rp.none).s) ∧ w.cell? ⟨b, off + k * 9 + 6, none⟩ = some (.int .i64 (l.getD k Rp.none).c) ∧ w.cell? ⟨b, off + k * 9 + 7, none⟩ = some (.string (l.getD k Rp.none).d) ∧ w.cell? ⟨b, off + k * 9 + 8, none⟩ = some (.int .i64 (l.getD k Rp.none).m) := by
  obtain ⟨b, off, rfl, h0⟩ := h (k * 9 + 0) (by omega)
  obtain ⟨b1, off1, e1, h1⟩ := h (k * 9 + 1) (by omega)
  cases e1
  obtain ⟨b2, off2, e2, h2⟩ := h (k * 9 + 2) (by omega)
  cases e2
  obtain ⟨b3, off3, e3, h3⟩ := h (k * 9 + 3) (by omega)
  cases e3
  obtain ⟨b4, off4, e4, h4⟩ := h (k * 9 + 4) (by omega)
  cases e4
  obtain ⟨b5, off5, e5, h5⟩ := h (k * 9 + 5) (by omega)
  cases e5
  obtain ⟨b6, off6, e6, h6⟩ := h (k * 9 + 6) (by omega)
  cases e6
  obtain ⟨b7, off7, e7, h7⟩ := h (k * 9 + 7) (by omega)
  cases e7
  obtain ⟨b8, off8, e8, h8⟩ := h (k * 9 + 8) (by omega)
  cases e8
  rw [rpcell_at l k _ (by omega)] at h0 h1 h2 h3 h4 h5 h6 h7 h8
  exact ⟨b, off, rfl, h0, by rw [Nat.add_assoc]; exact h1, by rw [Nat.add_assoc]; exact h2, by rw [Nat.add_assoc]; exact h3, by rw [Nat.add_assoc]; exact h4, by rw [Nat.add_assoc]; exact h5, by rw [Nat.add_assoc]; exact h6, by rw [Nat.add_assoc]; exact h7, by rw [Nat.add_assoc]; exact h8⟩

/-- Reply k, as a range of cells. -/
theorem Rps.range {w : World} {a : Option Addr} {l : List Rp} (h : Rps w a l) (k : Nat) (hk : k < l.length) : ∃ b off, a = some ⟨b, off, none⟩ ∧ w.rangeAt b (off + k * 9) (l.getD k Rp.none).cells := by
  obtain ⟨b, off, rfl, _⟩ := h (k * 9 + 0) (by omega)
  refine ⟨b, off, rfl, fun j v hv => ?_⟩
  have hj : j < 9 := by
    have := (List.getElem?_eq_some_iff.1 hv).1
    simpa [Rp.cells] using this
  obtain ⟨b1, off1, e1, h1⟩ := h (k * 9 + j) (by omega)
  cases e1
  rw [rpcell_at l k j hj, List.getD, hv] at h1
  rw [Nat.add_assoc]
  exact h1

/-- A range, in each world from here on. -/
theorem BW.load {P : Program} {w : World} {b o : Nat} {cs : List Value} (hc : w.rangeAt b o cs) (ty : TypeId) (d : TypeDesc)
    (hu : P.underlying ty = some d) (hd : d.isRow = true) (hi : (P.info? ty).map (·.size) = some cs.length) : ∀ u : BW w, (Instr.loadAt ty (.pointer (some ⟨b, o, none⟩))).run P u.val = .ok (.agg cs.toArray) u.val := fun u =>
  run_loadAt_mid u.val b o ty cs d (fun j v hv => BW.cell (hc j v hv) u) hu hd hi

theorem rangeAt_below {w w' : World} {b o : Nat} {cs : List Value} (hc : w.rangeAt b o cs) (k : Below w.heap.size w w') : w'.rangeAt b o cs := fun j v hv => by
  have h1 := hc j v hv
  have hb := World.block_lt_of_cell? w _ h1
  rw [cell_block (p := ⟨b, o + j, none⟩) (k.block b hb)]
  exact h1

set_option maxRecDepth 100000 in
set_option maxHeartbeats 2000000 in
theorem szReply (w : World) (x : Rp) (left : Int) (hl : x.s.size ≤ maxLen) (hd : x.d.size ≤ maxLen) (h0 : 0 ≤ left) (h1 : left ≤ 1048576) :
    Calls Tryz.prog 38 #[x.val, .int .i64 left] w fun e w' => ∃ r, e = .returned (.int .i64 r) ∧ Below w.heap.size w w' ∧ (r < 0 ∨ (0 ≤ r ∧ r ≤ left ∧ (x.s.size : Int) ≤ left ∧ (x.d.size : Int) ≤ left)) := by
  obtain ⟨h, k, v, t, a, s, c, d, m⟩ := x
  unfold Rp.val
  simp only [] at hl hd ⊢
  unfold maxLen at hd
  obtain ⟨wa, hwa, ez, A0, B0⟩ := one_new w [.int .i64 h, .int .i64 k, .int .i64 v, .int .i64 t, .int .i64 a, .string s, .int .i64 c, .string d, .int .i64 m] 101
  have HA := hid A0
  have HB := hid B0
  clear A0 B0
  have k1 := HA.out.c 1 rfl
  have k2 := HA.out.c 2 rfl
  have k3 := HA.out.c 3 rfl
  have k4 := HA.out.c 4 rfl
  have k5 := HA.out.c 5 rfl
  go_enter Tryz.func38, Tryz.ntmps38
  go_wp2_with fail
  refine (szOp wa k v t a s left hl h0 h1).mono ?_
  rintro e w1 ⟨r, rfl, b1, hr⟩
  have HA1 := hid (HA.out.below b1 HA.out.lt)
  have HB1 := hid (HB.out.trans (b1.mono HB.out.size))
  have HR := hid hr
  clear b1 hwa k1 k2 k3 k4 k5 hr
  by_cases hneg : r < 0
  · go_wp2
    go_ret
    exact ⟨_, rfl, HB1.out, Or.inl (by decide)⟩
  have hq : 0 ≤ r ∧ r ≤ left ∧ (s.size : Int) ≤ left := by
    rcases HR.out with h | h
    · omega
    · exact h
  have hq1 := hq.1
  have hq2 : r ≤ 1048576 := by omega
  have HQ := hid hq
  clear hq HR
  have k7 := HA1.out.c 7 rfl
  by_cases hb : r - (d.size : Int) < 0
  · go_wp2
    go_ret
    exact ⟨_, rfl, HB1.out, Or.inl (by decide)⟩
  · go_wp2
    go_ret
    have := HQ.out
    exact ⟨_, rfl, HB1.out, Or.inr ⟨by omega, by omega, by omega, by omega⟩⟩

/-- What is left: a number below 0, or one not above what was, and all fits. -/
def FitR (r left : Int) (l : List Rp) : Prop := r < 0 ∨ (0 ≤ r ∧ r ≤ left ∧ (l.length : Int) ≤ left ∧ ∀ x ∈ l, (x.s.size : Int) ≤ left ∧ (x.d.size : Int) ≤ left)

set_option maxRecDepth 100000 in
set_option maxHeartbeats 2000000 in
theorem szReplyS (w : World) (a : Option Addr) (cap : Nat) (l : List Rp) (left : Int) (S : Rps w a l) (hl : l.length ≤ maxLen) (hs : ∀ x ∈ l, x.s.size ≤ maxLen ∧ x.d.size ≤ maxLen) (h0 : 0 ≤ left) (h1 : left ≤ 1048576) :
    Calls Tryz.prog 13 #[.slice a l.length cap, .int .i64 left] w fun e w' => ∃ r, e = .returned (.int .i64 r) ∧ Below w.heap.size w w' ∧ FitR r left l := by
  unfold maxLen at hl
  have HS := hid S
  have Hs := hid hs
  clear S hs
  by_cases hb : left < (l.length : Int)
  · go_enter Tryz.func13, Tryz.ntmps13
    go_wp2
    go_ret
    exact ⟨_, rfl, Below.refl _ _, Or.inl (by decide)⟩
  go_enter Tryz.func13, Tryz.ntmps13
  go_wp2
  go_loopw [1, 5] (fun z i wr => ∃ (k : Nat) (m : Int), k ≤ l.length ∧ i = .int .i64 (k : Int) ∧ z = .int .i64 m ∧ 0 ≤ m ∧ m ≤ left ∧ Hid (∀ j, j < k → ((l.getD j Rp.none).s.size : Int) ≤ left ∧ ((l.getD j Rp.none).d.size : Int) ≤ left) ∧ Hid (Below w.heap.size w wr)) (fun _ i _ => l.length - (intOf i).toNat)
  case atStart => exact ⟨0, left - l.length, Nat.zero_le _, rfl, rfl, by omega, by omega, fun j hj => by omega, Below.refl _ _⟩
  case round =>
    obtain ⟨k, m, hk, rfl, rfl, hm0, hm1, HJ, HB⟩ := hrel
    by_cases hlt : k < l.length
    · obtain ⟨b, off, rfl, c0, c1, c2, c3, c4, c5, c6, c7, c8⟩ := Rps.at_ (HS.out.below HB.out) k hlt
      have hx : (l.getD k Rp.none).s.size ≤ maxLen ∧ (l.getD k Rp.none).d.size ≤ maxLen := Hs.out _ (by simp [List.getD, hlt])
      generalize hq : l.getD k Rp.none = x at c0 c1 c2 c3 c4 c5 c6 c7 c8 hx
      have HX := hid hq
      clear hq
      have HC := hid (szReply wr x m hx.1 hx.2 hm0 (by omega))
      clear hx
      unfold Rp.val at HC
      obtain ⟨xh, xk, xv, xt, xa, xs, xc, xd, xm⟩ := x
      simp only [] at c0 c1 c2 c3 c4 c5 c6 c7 c8 HC
      go_wp2_with fail
      refine HC.out.mono ?_
      rintro e w1 ⟨r, rfl, b1, hf⟩
      have HB1 := hid (HB.out.trans (b1.mono HB.out.size))
      have HF := hid hf
      clear b1 hf c0 c1 c2 c3 c4 c5 c6 c7 c8
      by_cases hr : r < 0
      · go_wp2
        go_ret
        exact ⟨_, rfl, HB1.out, Or.inl (by decide)⟩
      · have hf : 0 ≤ r ∧ r ≤ m ∧ (xs.size : Int) ≤ m ∧ (xd.size : Int) ≤ m := by
          rcases HF.out with h | h
          · omega
          · exact h
        have hf1 := hf.1
        have hf2 := hf.2.1
        have HF2 := hid hf.2.2
        clear hf HF HC
        go_wp2
        exact ⟨⟨k + 1, r, by omega, by go_num, rfl, hf1, by omega, fun j hj => by
          by_cases h : j = k
          · subst h; rw [HX.out]; have := HF2.out; show (xs.size : Int) ≤ left ∧ (xd.size : Int) ≤ left; omega
          · exact HJ.out j (by omega), HB1⟩, by simp [intOf]; omega⟩
    · obtain rfl : k = l.length := by omega
      go_wp2
      go_ret
      refine ⟨_, rfl, HB.out, Or.inr ⟨hm0, hm1, by omega, fun x hx => ?_⟩⟩
      obtain ⟨j, hj, rfl⟩ := List.getElem_of_mem hx
      have := HJ.out j hj
      rwa [List.getD, List.getElem?_eq_getElem hj] at this

set_option maxRecDepth 100000 in
set_option maxHeartbeats 2000000 in
theorem toReply (w : World) (x : Rp) : Calls Tryz.prog 52 #[x.val] w fun e w' => e = .returned x.val ∧ Below w.heap.size w w' := by
  obtain ⟨h, k, v, t, a, s, c, d, m⟩ := x
  unfold Rp.val
  simp only []
  have HT := hid (fun w => toOp w k v t a s)
  unfold opV at HT
  go_enter Tryz.func52, Tryz.ntmps52
  go_wp2_with fail
  obtain ⟨wc, hwc, e2, A0, R0, O0, B0⟩ := three_news w [.int .i64 h, .int .i64 k, .int .i64 v, .int .i64 t, .int .i64 a, .string s, .int .i64 c, .string d, .int .i64 m] [.int .i64 0, .int .i64 0, .int .i64 0, .int .i64 0, .int .i64 0, .string ⟨#[]⟩, .int .i64 0, .string ⟨#[]⟩, .int .i64 0] [.int .i64 h, .int .i64 0, .int .i64 0, .int .i64 0, .int .i64 0, .string ⟨#[]⟩, .int .i64 0, .string ⟨#[]⟩, .int .i64 0] 101 111
  simp only [hwc]
  clear hwc
  refine (HT.out wc).mono ?_
  rintro r w2 ⟨rfl, b2⟩
  replace A0 := A0.below b2 A0.lt
  replace R0 := R0.below b2 R0.lt
  replace O0 := O0.below b2 O0.lt
  replace B0 := B0.trans (b2.mono (by omega))
  have a6 := A0.c 6 rfl
  have a7 := A0.c 7 rfl
  have a8 := A0.c 8 rfl
  have d0 := O0.c 0 rfl
  have d1 := O0.c 1 rfl
  have d2 := O0.c 2 rfl
  have d3 := O0.c 3 rfl
  have d4 := O0.c 4 rfl
  have d5 := O0.c 5 rfl
  have d6 := O0.c 6 rfl
  have d7 := O0.c 7 rfl
  have d8 := O0.c 8 rfl
  have fd1 := O0.f 1
  have fd2 := O0.f 2
  have fd3 := O0.f 3
  have fd4 := O0.f 4
  have fd5 := O0.f 5
  have fd6 := O0.f 6
  have fd7 := O0.f 7
  have fd8 := O0.f 8
  have r0 := R0.c 0 rfl
  have r1 := R0.c 1 rfl
  have r2 := R0.c 2 rfl
  have r3 := R0.c 3 rfl
  have r4 := R0.c 4 rfl
  have r5 := R0.c 5 rfl
  have r6 := R0.c 6 rfl
  have r7 := R0.c 7 rfl
  have r8 := R0.c 8 rfl
  have f0 := R0.f 0
  have f1 := R0.f 1
  have f2 := R0.f 2
  have f3 := R0.f 3
  have f4 := R0.f 4
  have f5 := R0.f 5
  have f6 := R0.f 6
  have f7 := R0.f 7
  have f8 := R0.f 8
  have HO := hid O0
  have HB := hid B0
  have HR := hid R0
  clear R0 O0 b2 B0 A0
  go_upto_region 7 with fail
  obtain ⟨w3, hw3, R0, O0, B3⟩ : ∃ w3, ((((((((w2.setCell ⟨w.heap.size + 1 + 1, 1, none⟩ (.int .i64 k)).setCell ⟨w.heap.size + 1 + 1, 2, none⟩ (.int .i64 v)).setCell ⟨w.heap.size + 1 + 1, 3, none⟩ (.int .i64 t)).setCell ⟨w.heap.size + 1 + 1, 4, none⟩ (.int .i64 a)).setCell ⟨w.heap.size + 1 + 1, 5, none⟩ (.string s)).setCell ⟨w.heap.size + 1 + 1, 6, none⟩ (.int .i64 c)).setCell ⟨w.heap.size + 1 + 1, 7, none⟩ (.string d)).setCell ⟨w.heap.size + 1 + 1, 8, none⟩ (.int .i64 m)) = w3 ∧ Row w3 (w.heap.size + 1) _ ∧ Row w3 (w.heap.size + 1 + 1) _ ∧ Below w.heap.size w w3 :=
    ⟨_, rfl, puts_other HR.out (by omega) 1 [.int .i64 k, .int .i64 v, .int .i64 t, .int .i64 a, .string s, .int .i64 c, .string d, .int .i64 m], puts_row HO.out 1 [.int .i64 k, .int .i64 v, .int .i64 t, .int .i64 a, .string s, .int .i64 c, .string d, .int .i64 m], puts_below HB.out (by omega) 1 [.int .i64 k, .int .i64 v, .int .i64 t, .int .i64 a, .string s, .int .i64 c, .string d, .int .i64 m]⟩
  try simp only [hw3]
  clear hw3
  refine wp_region_list ?_
  refine wpList_load_row rfl 111 _ rfl (w.heap.size + 1 + 1) rfl [.int .i64 h, .int .i64 k, .int .i64 v, .int .i64 t, .int .i64 a, .string s, .int .i64 c, .string d, .int .i64 m] _ O0 Tryz.underlying111 rfl (by kernel_rfl) ?_
  refine wpList_store_row rfl 111 _ _ rfl (w.heap.size + 1) rfl _ [.int .i64 h, .int .i64 k, .int .i64 v, .int .i64 t, .int .i64 a, .string s, .int .i64 c, .string d, .int .i64 m] rfl R0 rfl (by kernel_rfl) rfl ?_
  have HR3 := hid (puts_row R0 0 [.int .i64 h, .int .i64 k, .int .i64 v, .int .i64 t, .int .i64 a, .string s, .int .i64 c, .string d, .int .i64 m])
  have HB3 := hid (puts_below B3 (show w.heap.size ≤ w.heap.size + 1 by omega) 0 [.int .i64 h, .int .i64 k, .int .i64 v, .int .i64 t, .int .i64 a, .string s, .int .i64 c, .string d, .int .i64 m])
  generalize puts w3 (w.heap.size + 1) 0 [.int .i64 h, .int .i64 k, .int .i64 v, .int .i64 t, .int .i64 a, .string s, .int .i64 c, .string d, .int .i64 m] = w5 at *
  clear R0 O0 B3
  go_wp2
  refine bodyPost_ret (results_row rfl _ _ (w.heap.size + 1) [.int .i64 h, .int .i64 k, .int .i64 v, .int .i64 t, .int .i64 a, .string s, .int .i64 c, .string d, .int .i64 m] _ rfl HR3.out Tryz.underlying111 rfl (by kernel_rfl)) rfl ?_
  exact ⟨rfl, HB3.out⟩

theorem infoR : (Tryz.prog.info? 111).map (fun i => (i.zero, i.size, i.bytes)) = some (some (.agg #[.int .i64 0, .int .i64 0, .int .i64 0, .int .i64 0, .int .i64 0, .string ByteArray.empty, .int .i64 0, .string ByteArray.empty, .int .i64 0]), 9, 88) := by kernel_rfl

/-- What stands in the new row behind k rounds. -/
def partR (l : List Rp) (k : Nat) (i : Nat) : Value := if i < k * 9 then rpcell l i else Rp.none.cells.getD (i % 9) undef

theorem partR_succ (l : List Rp) (k : Nat) (j : Nat) : (if k * 9 ≤ j ∧ j < k * 9 + 9 then (l.getD k Rp.none).cells.getD (j - k * 9) undef else partR l k j) = partR l (k + 1) j := by
  unfold partR
  by_cases h : k * 9 ≤ j ∧ j < k * 9 + 9
  · rw [if_pos h, if_pos (by omega)]
    obtain ⟨i, rfl⟩ : ∃ i, j = k * 9 + i := ⟨j - k * 9, by omega⟩
    rw [rpcell_at l k i (by omega), Nat.add_sub_cancel_left]
  · by_cases h2 : j < k * 9
    · rw [if_neg h, if_pos h2, if_pos (by omega)]
    · rw [if_neg h, if_neg h2, if_neg (by omega)]

/-- Cells that stand side by side are stored. -/
theorem wr_puts {B b : Nat} {m : Nat} : ∀ (vs : List Value) (w : World) (f : Nat → Value) (off i : Nat), Wr w B (some ⟨b, off, none⟩) m f → i + vs.length ≤ m →
    Wr (puts w b (off + i) vs) B (some ⟨b, off, none⟩) m (fun j => if i ≤ j ∧ j < i + vs.length then vs.getD (j - i) undef else f j)
  | [], w, f, off, i, h, _ => h.congr (fun j _ => by rw [if_neg (by simp)])
  | v :: vs, w, f, off, i, h, hm => by
    have h1 := h.set i (by simp at hm; omega) v
    have h2 := wr_puts vs _ _ off (i + 1) h1 (by simp at hm; omega)
    rw [puts]
    refine (show Wr _ _ _ _ _ from h2).congr (fun j _ => ?_)
    by_cases hj : j = i
    · subst hj
      rw [if_neg (by omega), if_pos rfl, if_pos (by simp)]
      simp
    · by_cases hr : i + 1 ≤ j ∧ j < i + 1 + vs.length
      · rw [if_pos hr, if_pos (by simp; omega)]
        obtain ⟨q, hq⟩ : ∃ q, j - i = q + 1 := ⟨j - i - 1, by omega⟩
        rw [hq, show j - (i + 1) = q by omega]
        simp
      · rw [if_neg hr, if_neg hj, if_neg (by simp; omega)]

/-- What is stored in a new row leaves all that was. -/
theorem puts_below2 {B : Nat} {w w' : World} (h : Below B w w') {b : Nat} (hb : B ≤ b) (i : Nat) (vs : List Value) : Below B w (puts w' b i vs) := puts_below h hb i vs

set_option maxRecDepth 100000 in
set_option maxHeartbeats 2000000 in
theorem toReplyS (w : World) (a : Option Addr) (cap : Nat) (l : List Rp) (S : Rps w a l) (hl : l.length ≤ 1048576) :
    Calls Tryz.prog 22 #[.slice a l.length cap] w fun e w' => ∃ g, e = .returned (.slice (some ⟨g, 0, none⟩) l.length l.length) ∧ w.heap.size ≤ g ∧ g < w'.heap.size ∧ RpsW w' w.heap.size (some ⟨g, 0, none⟩) l ∧ Below w.heap.size w w' := by
  have hmk := make_rows (P := Tryz.prog) 39 111 (.agg #[.int .i64 0, .int .i64 0, .int .i64 0, .int .i64 0, .int .i64 0, .string ByteArray.empty, .int .i64 0, .string ByteArray.empty, .int .i64 0]) 9 88 Tryz.underlying39 infoR .i64 .i64 l.length (by omega) (by omega)
  have HS := hid S
  have hw0 := wr_new w (madeCells (Value.agg #[.int .i64 0, .int .i64 0, .int .i64 0, .int .i64 0, .int .i64 0, .string ByteArray.empty, .int .i64 0, .string ByteArray.empty, .int .i64 0]).cells (l.length * 9)) 111 (l.length * 9) (partR l 0) (fun i hi => by
    simp [madeCells, hi, partR, Rp.none, Rp.cells, Value.cells]
    have : i % 9 = 0 ∨ i % 9 = 1 ∨ i % 9 = 2 ∨ i % 9 = 3 ∨ i % 9 = 4 ∨ i % 9 = 5 ∨ i % 9 = 6 ∨ i % 9 = 7 ∨ i % 9 = 8 := by omega
    rcases this with h | h | h | h | h | h | h | h | h <;> simp [h])
  generalize madeCells (Value.agg #[.int .i64 0, .int .i64 0, .int .i64 0, .int .i64 0, .int .i64 0, .string ByteArray.empty, .int .i64 0, .string ByteArray.empty, .int .i64 0]).cells (l.length * 9) = cur at hmk hw0
  have HW := hid hw0
  clear S hw0
  go_enter Tryz.func22, Tryz.ntmps22
  go_wp2
  go_loopw [4] (fun i wr => ∃ k : Nat, k ≤ l.length ∧ i = .int .i64 (k : Int) ∧ w.heap.size < wr.heap.size ∧ Hid (Wr wr w.heap.size (some ⟨w.heap.size, 0, none⟩) (l.length * 9) (partR l k)) ∧ Hid (Below w.heap.size w wr)) (fun i _ => l.length - (intOf i).toNat)
  case atStart => exact ⟨0, Nat.zero_le _, rfl, lt_alloc _ _, HW, (Below.refl _ _).alloc (Nat.le_refl _) _⟩
  case round =>
    obtain ⟨k, hk, rfl, hsz, HW', HB⟩ := hrel
    by_cases hlt : k < l.length
    · obtain ⟨b, off, rfl, c0, c1, c2, c3, c4, c5, c6, c7, c8⟩ := Rps.at_ (HS.out.below HB.out) k hlt
      generalize hx : l.getD k Rp.none = x at c0 c1 c2 c3 c4 c5 c6 c7 c8
      have HX := hid hx
      clear hx
      have HC := hid (fun w => toReply w x)
      unfold Rp.val at HC
      obtain ⟨xh, xk, xv, xt, xa, xs, xc, xd, xm⟩ := x
      simp only [] at c0 c1 c2 c3 c4 c5 c6 c7 c8 HC
      go_wp2_with fail
      refine (HC.out _).mono ?_
      rintro e w1 ⟨rfl, hb1⟩
      have HW1 := hid (HW'.out.below hb1)
      have HB1 := hid (HB.out.trans (hb1.mono (Nat.le_of_lt hsz)))
      have hsz1 : w.heap.size < w1.heap.size := Nat.lt_of_lt_of_le hsz hb1.size
      clear hb1 c0 c1 c2 c3 c4 c5 c6 c7 c8
      have hcell : ∀ j, j < 9 → (w1.cell? ⟨w.heap.size, k * 9 + j, none⟩).isSome ∧ w1.frozen? ⟨w.heap.size, k * 9 + j, none⟩ = false := fun j hj => by
        obtain ⟨b', off', e', _, hc', hz'⟩ := HW1.out (k * 9 + j) (by omega)
        cases e'
        rw [Nat.zero_add] at hc' hz'
        exact ⟨by rw [hc']; rfl, hz'⟩
      dsimp only
      iterate 4 go_step
      refine wpList_store_mid rfl 111 _ _ rfl w.heap.size (k * 9) #[.int .i64 xh, .int .i64 xk, .int .i64 xv, .int .i64 xt, .int .i64 xa, .string xs, .int .i64 xc, .string xd, .int .i64 xm] rfl rfl (fun j hj => hcell j (by simpa using hj)) (by kernel_rfl) (all_oneCell_toArray (fun v hv => List.all_eq_true.1 (rfl : ([.int .i64 xh, .int .i64 xk, .int .i64 xv, .int .i64 xt, .int .i64 xa, .string xs, .int .i64 xc, .string xd, .int .i64 xm] : List Value).all (·.oneCell') = true) v hv)) ?_
      have HW2 : Hid (Wr (w1.setCells w.heap.size (k * 9) [.int .i64 xh, .int .i64 xk, .int .i64 xv, .int .i64 xt, .int .i64 xa, .string xs, .int .i64 xc, .string xd, .int .i64 xm]) w.heap.size (some ⟨w.heap.size, 0, none⟩) (l.length * 9) (partR l (k + 1))) := by
        have h2 := wr_puts [.int .i64 xh, .int .i64 xk, .int .i64 xv, .int .i64 xt, .int .i64 xa, .string xs, .int .i64 xc, .string xd, .int .i64 xm] w1 _ 0 (k * 9) HW1.out (by simp; omega)
        rw [Nat.zero_add, puts_setCells] at h2
        exact h2.congr (fun j _ => by rw [← partR_succ, HX.out]; rfl)
      have HB2 : Hid (Below w.heap.size w (w1.setCells w.heap.size (k * 9) [.int .i64 xh, .int .i64 xk, .int .i64 xv, .int .i64 xt, .int .i64 xa, .string xs, .int .i64 xc, .string xd, .int .i64 xm])) := by
        rw [← puts_setCells]
        exact puts_below HB1.out (Nat.le_refl _) _ _
      have hsz2 : w.heap.size < (w1.setCells w.heap.size (k * 9) [.int .i64 xh, .int .i64 xk, .int .i64 xv, .int .i64 xt, .int .i64 xa, .string xs, .int .i64 xc, .string xd, .int .i64 xm]).heap.size := by
        rw [← puts_setCells, puts_size]; exact hsz1
      generalize w1.setCells w.heap.size (k * 9) [.int .i64 xh, .int .i64 xk, .int .i64 xv, .int .i64 xt, .int .i64 xa, .string xs, .int .i64 xc, .string xd, .int .i64 xm] = w2 at *
      clear hcell
      go_wp2
      exact ⟨⟨k + 1, by omega, by go_num, hsz2, HW2, HB2⟩, by simp [intOf]; omega⟩
    · obtain rfl : k = l.length := by omega
      go_wp2
      go_ret
      exact ⟨_, rfl, Nat.le_refl _, hsz, HW'.out.congr (fun i hi => by simp [partR, hi]), HB.out⟩

set_option maxRecDepth 100000 in
set_option maxHeartbeats 2000000 in
theorem eqReply (w : World) (x : Rp) : Calls Tryz.prog 68 #[x.val, x.val] w fun e w' => e = .returned (.bool true) ∧ Below w.heap.size w w' := by
  obtain ⟨h, k, v, t, a, s, c, d, m⟩ := x
  unfold Rp.val
  simp only []
  have HT := hid (fun w => eqOpE w k v t a s)
  unfold opV at HT
  obtain ⟨wa, hwa, ez, A0, C0, B0⟩ := two_new w [.int .i64 h, .int .i64 k, .int .i64 v, .int .i64 t, .int .i64 a, .string s, .int .i64 c, .string d, .int .i64 m] [.int .i64 h, .int .i64 k, .int .i64 v, .int .i64 t, .int .i64 a, .string s, .int .i64 c, .string d, .int .i64 m] 111 111
  have HB := hid B0
  have HA := hid A0
  have HC := hid C0
  have k0 := A0.c 0 rfl
  have k1 := A0.c 1 rfl
  have k2 := A0.c 2 rfl
  have k3 := A0.c 3 rfl
  have k4 := A0.c 4 rfl
  have k5 := A0.c 5 rfl
  have m0 := C0.c 0 rfl
  have m1 := C0.c 1 rfl
  have m2 := C0.c 2 rfl
  have m3 := C0.c 3 rfl
  have m4 := C0.c 4 rfl
  have m5 := C0.c 5 rfl
  clear A0 C0 B0
  go_enter Tryz.func68, Tryz.ntmps68
  go_wp2_with fail
  refine (HT.out _).mono ?_
  rintro e w1 ⟨rfl, b1⟩
  have A1 := HA.out.below b1 HA.out.lt
  have C1 := HC.out.below b1 HC.out.lt
  have HB1 := hid (HB.out.trans (b1.mono HB.out.size))
  clear b1 k0 k1 k2 k3 k4 k5 m0 m1 m2 m3 m4 m5
  have k6 := A1.c 6 rfl
  have k7 := A1.c 7 rfl
  have k8 := A1.c 8 rfl
  have m6 := C1.c 6 rfl
  have m7 := C1.c 7 rfl
  have m8 := C1.c 8 rfl
  clear A1 C1
  go_wp2
  go_ret
  exact ⟨rfl, HB1.out⟩

set_option maxRecDepth 100000 in
set_option maxHeartbeats 2000000 in
theorem eqReplyS (w : World) (a b : Option Addr) (ca cb : Nat) (l : List Rp) (S : Rps w a l) (T : Rps w b l) (hl : l.length ≤ maxLen) :
    Calls Tryz.prog 33 #[.slice a l.length ca, .slice b l.length cb] w fun e w' => e = .returned (.bool true) ∧ Below w.heap.size w w' := by
  unfold maxLen at hl
  have HS := hid S
  have HT := hid T
  clear S T
  go_enter Tryz.func33, Tryz.ntmps33
  go_wp2
  go_loopw [5] (fun i wr => ∃ k : Nat, k ≤ l.length ∧ i = .int .i64 (k : Int) ∧ Hid (Below w.heap.size w wr)) (fun i _ => l.length - (intOf i).toNat)
  case atStart => exact ⟨0, Nat.zero_le _, rfl, Below.refl _ _⟩
  case round =>
    obtain ⟨k, hk, rfl, HB⟩ := hrel
    by_cases hlt : k < l.length
    · obtain ⟨b1, o1, rfl, c0, c1, c2, c3, c4, c5, c6, c7, c8⟩ := Rps.at_ (HS.out.below HB.out) k hlt
      obtain ⟨b2, o2, rfl, d0, d1, d2, d3, d4, d5, d6, d7, d8⟩ := Rps.at_ (HT.out.below HB.out) k hlt
      generalize l.getD k Rp.none = x at c0 c1 c2 c3 c4 c5 c6 c7 c8 d0 d1 d2 d3 d4 d5 d6 d7 d8
      have HC := hid (fun w => eqReply w x)
      unfold Rp.val at HC
      obtain ⟨xh, xk, xv, xt, xa, xs, xc, xd, xm⟩ := x
      simp only [] at c0 c1 c2 c3 c4 c5 c6 c7 c8 d0 d1 d2 d3 d4 d5 d6 d7 d8 HC
      have hne : Nonempty (BW wr) := ⟨⟨wr, Below.refl _ _⟩⟩
      replace c0 := BW.cell c0
      replace c1 := BW.cell c1
      replace c2 := BW.cell c2
      replace c3 := BW.cell c3
      replace c4 := BW.cell c4
      replace c5 := BW.cell c5
      replace c6 := BW.cell c6
      replace c7 := BW.cell c7
      replace c8 := BW.cell c8
      replace d0 := BW.cell d0
      replace d1 := BW.cell d1
      replace d2 := BW.cell d2
      replace d3 := BW.cell d3
      replace d4 := BW.cell d4
      replace d5 := BW.cell d5
      replace d6 := BW.cell d6
      replace d7 := BW.cell d7
      replace d8 := BW.cell d8
      go_wp2
      refine wp_region_bw (by kernel_rfl) (by kernel_rfl) ?_
      repeat (go_big_quiet_step (first
        | (go_at_call 68; refine bw_below (HC.out _))))
      refine wpQuiet_nil ?_
      intro _ hw'
      obtain ⟨u, rfl⟩ := hw'
      have HU := hid (HB.out.trans (u.bel.mono HB.out.size))
      clear c0 c1 c2 c3 c4 c5 c6 c7 c8 d0 d1 d2 d3 d4 d5 d6 d7 d8
      go_wp2
      exact ⟨⟨k + 1, by omega, by go_num, HU⟩, by simp [intOf]; omega⟩
    · obtain rfl : k = l.length := by omega
      go_wp2
      go_ret
      exact ⟨rfl, HB.out⟩

section
variable {H : Type} {enc : TypeId × Value → H} {W : World} {base : Nat} {spare : Nat → Bool} {held : Bool}

set_option maxRecDepth 100000 in
theorem rp_cells_in {fuel : Nat} {cs : List Value} {x : DataW H × List MemPlace} (h : DataW.trod enc Tryz.prog W base spare held fuel 101 cs = some x) :
    ∃ y : Rp, cs = y.cells ∧ y.s.size ≤ maxLen ∧ y.d.size ≤ maxLen := by
  obtain ⟨xs, n, _, rfl, hl, hlen, hf⟩ := DataW.trod_struct Tryz.underlying101 h
  have c9 : Tryz.prog.cellsOf 101 = 9 := by kernel_rfl
  have cO : Tryz.prog.cellsOf 90 = 5 := by kernel_rfl
  have cS : Tryz.prog.cellsOf 9 = 1 := by kernel_rfl
  rw [c9] at hl
  match xs, hlen, cs, hl with
  | [y0, y1, y2, y3, y4], _, [v0, v1, v2, v3, v4, v5, v6, v7, v8], _ =>
    have f0 : DataW.trod enc Tryz.prog W base spare held n 3 [v0] = some y0 := by simpa [cInt] using hf 0 _ rfl
    have f1 : DataW.trod enc Tryz.prog W base spare held n 90 [v1, v2, v3, v4, v5] = some y1 := by simpa [cInt, cO] using hf 1 _ rfl
    have f2 : DataW.trod enc Tryz.prog W base spare held n 3 [v6] = some y2 := by simpa [cInt, cO] using hf 2 _ rfl
    have f3 : DataW.trod enc Tryz.prog W base spare held n 9 [v7] = some y3 := by simpa [cInt, cO, cS] using hf 3 _ rfl
    have f4 : DataW.trod enc Tryz.prog W base spare held n 3 [v8] = some y4 := by simpa [cInt, cO, cS] using hf 4 _ rfl
    obtain ⟨n0, e0, _, _⟩ := DataW.trod_int Tryz.underlying3 f0
    obtain ⟨k, v, t, a, s, e1, hs⟩ := op_in f1
    obtain ⟨n2, e2, _, _⟩ := DataW.trod_int Tryz.underlying3 f2
    obtain ⟨s3, e3, _, hs3⟩ := DataW.trod_string Tryz.underlying9 f3
    obtain ⟨n4, e4, _, _⟩ := DataW.trod_int Tryz.underlying3 f4
    simp only [List.cons.injEq, and_true] at e0 e1 e2 e3 e4
    obtain ⟨r1, r2, r3, r4, r5⟩ := e1
    subst e0; subst r1; subst r2; subst r3; subst r4; subst r5; subst e2; subst e3; subst e4
    exact ⟨⟨n0, k, v, t, a, s, n2, s3, n4⟩, rfl, hs, hs3⟩

set_option maxRecDepth 100000 in
/-- Replies that came in. -/
theorem rps_in {fuel : Nat} {v : Value} {x : DataW H × List MemPlace} (h : DataW.trod enc Tryz.prog W base spare held fuel 29 [v] = some x) :
    ∃ a cap l, v = .slice a (l : List Rp).length cap ∧ Rps W a l ∧ l.length ≤ maxLen ∧ ∀ y ∈ l, y.s.size ≤ maxLen ∧ y.d.size ≤ maxLen := by
  have c2 : Tryz.prog.cellsOf 101 = 9 := by kernel_rfl
  rcases open_slice Tryz.underlying29 h with ⟨hcs, _⟩ | ⟨a, len, cap, m, n, D, Pl, hcs, _, hl, hm, hmm, _, hx⟩
  · simp only [List.cons.injEq, and_true] at hcs
    exact ⟨none, 0, [], hcs, fun i hi => by simp at hi, by simp, by simp⟩
  · simp only [List.cons.injEq, and_true] at hcs
    have hlm : len ≤ m := by rw [hmm]; split <;> omega
    have each : ∀ i, ∃ y : Rp, i < len → W.cells? base (a.add (i * 9)) 9 = some y.cells ∧ y.s.size ≤ maxLen ∧ y.d.size ≤ maxLen := fun i => by
      by_cases hi : i < len
      · obtain ⟨cs', hc, ht⟩ := hx i (by omega)
        rw [c2] at hc
        obtain ⟨y, rfl, hy⟩ := rp_cells_in ht
        exact ⟨y, fun _ => ⟨hc, hy⟩⟩
      · exact ⟨Rp.none, fun h => absurd h hi⟩
    obtain ⟨Y, hY⟩ := Classical.axiomOfChoice each
    refine ⟨some a, cap, (List.range len).map Y, by rw [hcs]; simp, ?_, by simp; omega, ?_⟩
    · unfold Rps
      rw [List.length_map, List.length_range]
      refine Pk.sl_of_add (fun i hi => ?_)
      have hq : i / 9 < len := by omega
      have hc := (World.cells?_some (hY (i / 9) hq).1).2.2 (i % 9) (by omega)
      rw [Addr.add_add, show i / 9 * 9 + i % 9 = i by omega] at hc
      rw [hc]
      unfold rpcell
      have e : ((List.range len).map Y).getD (i / 9) Rp.none = Y (i / 9) := by simp [List.getD, hq]
      rw [e]
      have : i % 9 = 0 ∨ i % 9 = 1 ∨ i % 9 = 2 ∨ i % 9 = 3 ∨ i % 9 = 4 ∨ i % 9 = 5 ∨ i % 9 = 6 ∨ i % 9 = 7 ∨ i % 9 = 8 := by omega
      rcases this with h | h | h | h | h | h | h | h | h <;> rw [h] <;> rfl
    · intro s hs
      obtain ⟨i, hi, rfl⟩ := List.mem_map.1 hs
      exact (hY i (List.mem_range.1 hi)).2

end

end Go.Proofs.YtogebppolkfldaaGreatDoor.Pl

namespace Go.Proofs.YtogebppolkfldaaGreatDoor.Rg
open Go.RowKit
set_option linter.unusedVariables false

def dstOf (ops : Array Oper) (i : Nat) : Option Tmp := (ops[i]?).bind (·.dst)

/-- The region's form: its results lie apart within n slots, and each operation waits for elder ones alone. -/
def fits (ops : Array Oper) (n : Nat) : Bool :=
  (List.range ops.size).all fun i =>
    (match dstOf ops i with
      | some d => decide (d < n) && (List.range ops.size).all fun j => j == i || dstOf ops j != some d
      | none => true) &&
    (match ops[i]? with
      | some o => o.after.all fun e => !Region.binds .any e || decide (e.on < i)
      | none => true)

/-- The slots behind the operations that have come up. -/
structure At (ops : Array Oper) (a0 : Act) (L : Nat → Bool) (v : Nat → Value) (a : Act) : Prop where
  size : a.tmps.size = a0.tmps.size
  defers : a.defers = a0.defers
  got : ∀ i d, L i = true → dstOf ops i = some d → a.tmps[d]? = some (v i)
  off : ∀ t, (∀ i, L i = true → dstOf ops i ≠ some t) → a.tmps[t]? = a0.tmps[t]?

def upd (L : Nat → Bool) (i : Nat) : Nat → Bool := fun j => if j = i then true else L j
def updv (v : Nat → Value) (i : Nat) (u : Value) : Nat → Value := fun j => if j = i then u else v j

theorem fits_lt {ops : Array Oper} {n i : Nat} {d : Tmp} (h : fits ops n = true) (hi : dstOf ops i = some d) : d < n := by
  have hlt : i < ops.size := by
    rcases Nat.lt_or_ge i ops.size with h1 | h1
    · exact h1
    · simp [dstOf, Array.getElem?_eq_none h1] at hi
  unfold fits at h
  rw [List.all_eq_true] at h
  have h1 := h i (List.mem_range.2 hlt)
  rw [hi] at h1
  simp only [Bool.and_eq_true, decide_eq_true_eq] at h1
  exact h1.1.1

theorem dstOf_lt {ops : Array Oper} {i : Nat} {d : Tmp} (hi : dstOf ops i = some d) : i < ops.size := by
  rcases Nat.lt_or_ge i ops.size with h1 | h1
  · exact h1
  · simp [dstOf, Array.getElem?_eq_none h1] at hi

theorem fits_inj {ops : Array Oper} {n i j : Nat} {d : Tmp} (h : fits ops n = true) (hi : dstOf ops i = some d) (hj : dstOf ops j = some d) : j = i := by
  unfold fits at h
  rw [List.all_eq_true] at h
  have h1 := h i (List.mem_range.2 (dstOf_lt hi))
  rw [hi] at h1
  simp only [Bool.and_eq_true, decide_eq_true_eq, List.all_eq_true] at h1
  have h2 := h1.1.2 j (List.mem_range.2 (dstOf_lt hj))
  rw [hj] at h2
  simpa using h2

theorem fits_after {ops : Array Oper} {n i : Nat} {o : Oper} (h : fits ops n = true) (hi : ops[i]? = some o) {e : Edge} (he : e ∈ o.after) (hb : Region.binds .any e = true) : e.on < i := by
  have hlt : i < ops.size := by
    rcases Nat.lt_or_ge i ops.size with h1 | h1
    · exact h1
    · simp [Array.getElem?_eq_none h1] at hi
  unfold fits at h
  rw [List.all_eq_true] at h
  have h1 := h i (List.mem_range.2 hlt)
  rw [hi] at h1
  simp only [Bool.and_eq_true] at h1
  have h2 := Array.all_eq_true_iff_forall_mem.1 h1.2 e he
  rw [hb] at h2
  simpa using h2

theorem At.step {ops : Array Oper} {n : Nat} {a0 a : Act} {L : Nat → Bool} {v : Nat → Value} (h : At ops a0 L v a) (hf : fits ops a0.tmps.size = true) {i : Nat} {o : Oper} (hi : ops[i]? = some o) (hL : L i = false) (u : Value) :
    At ops a0 (upd L i) (updv v i u) (a.put o.dst u) := by
  have hd : dstOf ops i = o.dst := by simp [dstOf, hi]
  cases hdd : o.dst with
  | none =>
    rw [hdd] at hd
    refine ⟨h.size, h.defers, fun j d hj e => ?_, fun t ht => ?_⟩
    · by_cases hji : j = i
      · rw [hji, hd] at e; cases e
      · simp only [upd, updv, if_neg hji] at hj ⊢
        exact h.got j d hj e
    · exact h.off t (fun j hj => ht j (by simp only [upd]; split <;> simp_all))
  | some s =>
    rw [hdd] at hd
    have hs : s < a.tmps.size := by rw [h.size]; exact fits_lt hf hd
    refine ⟨by simpa [Act.put] using h.size, h.defers, fun j d hj e => ?_, fun t ht => ?_⟩
    · by_cases hji : j = i
      · subst hji
        rw [hd] at e
        cases e
        show (a.tmps.setIfInBounds s u)[s]? = some (if j = j then u else v j)
        rw [Array.getElem?_setIfInBounds_self_of_lt hs, if_pos rfl]
      · simp only [upd, if_neg hji] at hj
        have hds : s ≠ d := fun e2 => hji (fits_inj hf hd (e2 ▸ e))
        simp only [Act.put, updv, if_neg hji]
        rw [Array.getElem?_setIfInBounds_ne hds]
        exact h.got j d hj e
    · have hts : s ≠ t := fun e => ht i (by simp [upd]) (e ▸ hd)
      simp only [Act.put]
      rw [Array.getElem?_setIfInBounds_ne hts]
      exact h.off t (fun j hj => ht j (by simp only [upd]; split <;> simp_all))

/-- The slots where all have come up. -/
def putsAll (a0 : Act) : List (Option Tmp) → (Nat → Value) → Nat → Act
  | [], _, _ => a0
  | d :: ds, v, k => putsAll (a0.put d (v k)) ds v (k + 1)

theorem At.eval_got {ops : Array Oper} {a0 a : Act} {L : Nat → Bool} {v : Nat → Value} (h : At ops a0 L v a) (j : Nat) {t : Tmp} (hj : L j = true) (hd : dstOf ops j = some t) : a.eval (.tmp t) = v j := by
  show a.tmps.getD t undef = v j
  rw [Array.getD_eq_getD_getElem?, h.got j t hj hd]
  rfl

def offAll (ops : Array Oper) (x : Operand) : Bool := match x with
  | .tmp t => (List.range ops.size).all fun j => dstOf ops j != some t
  | _ => true

theorem At.eval_off {ops : Array Oper} {a0 a : Act} {L : Nat → Bool} {v : Nat → Value} (h : At ops a0 L v a) {x : Operand} (hx : offAll ops x = true) : a.eval x = a0.eval x := by
  cases x with
  | tmp t =>
    show a.tmps.getD t undef = a0.tmps.getD t undef
    rw [Array.getD_eq_getD_getElem?, Array.getD_eq_getD_getElem?, h.off t (fun j _ e => ?_)]
    unfold offAll at hx
    simp only [List.all_eq_true] at hx
    have := hx j (List.mem_range.2 (dstOf_lt e))
    rw [e] at this
    simp at this
  | _ => rfl

theorem At.yielded {ops : Array Oper} {a0 a : Act} {L : Nat → Bool} {v : Nat → Value} (h : At ops a0 L v a) (j : Nat) {t : Tmp} (hj : L j = true) (hd : dstOf ops j = some t) {b : Bool} (hv : v j = .bool b) : yielded ops a.tmps j = some b := by
  have e : ((ops[j]?).bind (·.dst)) = some t := hd
  unfold Go.yielded
  rw [e]
  simp only [Option.bind_some]
  rw [h.got j t hj hd, hv]

theorem putsAll_size : ∀ (ds : List (Option Tmp)) (a0 : Act) (v : Nat → Value) (k : Nat), (putsAll a0 ds v k).tmps.size = a0.tmps.size ∧ (putsAll a0 ds v k).defers = a0.defers
  | [], a0, v, k => ⟨rfl, rfl⟩
  | d :: ds, a0, v, k => by
    have h := putsAll_size ds (a0.put d (v k)) v (k + 1)
    unfold putsAll
    rw [h.1, h.2]
    cases d <;> simp [Act.put]

theorem putsAll_off : ∀ (ds : List (Option Tmp)) (a0 : Act) (v : Nat → Value) (k t : Nat), some t ∉ ds → (putsAll a0 ds v k).tmps[t]? = a0.tmps[t]?
  | [], a0, v, k, t, _ => rfl
  | d :: ds, a0, v, k, t, h => by
    unfold putsAll
    rw [putsAll_off ds _ v (k + 1) t (fun e => h (List.mem_cons_of_mem _ e))]
    cases d with
    | none => rfl
    | some s =>
      have : s ≠ t := fun e => h (e ▸ List.mem_cons_self)
      simp only [Act.put]
      rw [Array.getElem?_setIfInBounds_ne this]

theorem putsAll_got : ∀ (ds : List (Option Tmp)) (a0 : Act) (v : Nat → Value) (k t j : Nat), ds[j]? = some (some t) → (∀ i, ds[i]? = some (some t) → i = j) → t < a0.tmps.size → (putsAll a0 ds v k).tmps[t]? = some (v (k + j))
  | [], a0, v, k, t, j, h, _, _ => by simp at h
  | d :: ds, a0, v, k, t, 0, h, hu, ht => by
    simp only [List.getElem?_cons_zero, Option.some.injEq] at h
    subst h
    unfold putsAll
    rw [putsAll_off ds _ v (k + 1) t (fun e => by
      obtain ⟨i, hi⟩ := List.mem_iff_getElem?.1 e
      have := hu (i + 1) (by simpa using hi)
      omega)]
    simp only [Act.put, Nat.add_zero]
    rw [Array.getElem?_setIfInBounds_self_of_lt ht]
  | d :: ds, a0, v, k, t, j + 1, h, hu, ht => by
    unfold putsAll
    have := putsAll_got ds (a0.put d (v k)) v (k + 1) t j (by simpa using h) (fun i hi => by have := hu (i + 1) (by simpa using hi); omega) (by cases d <;> simpa [Act.put] using ht)
    rw [this, show k + 1 + j = k + (j + 1) by omega]

theorem At.all {ops : Array Oper} {a0 a : Act} {L : Nat → Bool} {v : Nat → Value} (h : At ops a0 L v a) (hf : fits ops a0.tmps.size = true) (hL : ∀ i, i < ops.size → L i = true) (ds : List (Option Tmp)) (hds : (List.range ops.size).map (dstOf ops) = ds) :
    a = putsAll a0 ds v 0 := by
  have hds' : ∀ i, ds[i]? = some (dstOf ops i) ∨ (ds[i]? = none ∧ dstOf ops i = none) := fun i => by
    rw [← hds]
    rcases Nat.lt_or_ge i ops.size with h1 | h1
    · left; simp [h1]
    · right; exact ⟨by simp [h1], by simp [dstOf, Array.getElem?_eq_none h1]⟩
  obtain ⟨s1, s2⟩ := putsAll_size ds a0 v 0
  have ht : a.tmps = (putsAll a0 ds v 0).tmps := by
    refine Array.ext_getElem? (fun t => ?_)
    rcases Nat.lt_or_ge t a0.tmps.size with htl | htl
    · by_cases hx : ∃ j, dstOf ops j = some t
      · obtain ⟨j, hj⟩ := hx
        have e1 : ds[j]? = some (some t) := by
          rcases hds' j with h1 | ⟨_, h1⟩
          · rw [h1, hj]
          · rw [hj] at h1; cases h1
        rw [putsAll_got ds a0 v 0 t j e1 (fun i hi => by
          rcases hds' i with h1 | ⟨h1, _⟩
          · rw [h1] at hi
            exact fits_inj hf hj (Option.some.inj hi)
          · rw [h1] at hi; cases hi) htl, Nat.zero_add]
        exact h.got j t (hL j (dstOf_lt hj)) hj
      · rw [putsAll_off ds a0 v 0 t (fun e => by
          obtain ⟨i, hi⟩ := List.mem_iff_getElem?.1 e
          rcases hds' i with h1 | ⟨h1, _⟩
          · rw [h1] at hi; exact hx ⟨i, Option.some.inj hi⟩
          · rw [h1] at hi; cases hi)]
        exact h.off t (fun i _ e => hx ⟨i, e⟩)
    · rw [Array.getElem?_eq_none (by rw [h.size]; exact htl), Array.getElem?_eq_none (by rw [s1]; exact htl)]
  have : a.defers = (putsAll a0 ds v 0).defers := by rw [s2]; exact h.defers
  cases a
  cases hp : putsAll a0 ds v 0
  rw [hp] at ht this
  simp only at ht this
  rw [ht, this]

/-- What an operation waits for has come up. -/
def waits (o : Oper) (L : Nat → Bool) : Bool := o.after.all fun e => !Region.binds .any e || L e.on

section
variable {P : Program} {ops : Array Oper} {Q : Exit → Act → World → Prop}

theorem rg_any (a0 : Act) (hf : fits ops a0.tmps.size = true) (I : (Nat → Bool) → (Nat → Value) → World → Prop)
    (hstep : ∀ i o, ops[i]? = some o → ∀ L v a w, At ops a0 L v a → I L v w → (∀ j oj, ops[j]? = some oj → L j = true → waits oj L = true) → L i = false → waits o L = true → wpOp P ops Q i (fun a' w' => ∃ u, a' = a.put o.dst u ∧ I (upd L i) (updv v i u) w') a w)
    (hend : ∀ L v a w, (∀ i, i < ops.size → L i = true) → At ops a0 L v a → I L v w → Q .normal a w) :
    ∀ (fuel : Nat) (listed : Array Bool) (v : Nat → Value) (a : Act) (w : World) (l : List Nat), listed.size = ops.size → l.length = fuel → l.Nodup → (∀ i, i ∈ l ↔ i < ops.size ∧ listed.getD i false = false) →
      At ops a0 (fun i => listed.getD i false) v a → I (fun i => listed.getD i false) v w → (∀ j oj, ops[j]? = some oj → listed.getD j false = true → waits oj (fun i => listed.getD i false) = true) → wpAny P .any ops Q fuel listed a w := by
  have hdone : ∀ (listed : Array Bool) (v : Nat → Value) (a : Act) (w : World), listed.size = ops.size → (∀ i, i < ops.size → listed.getD i false = true) → At ops a0 (fun i => listed.getD i false) v a → I (fun i => listed.getD i false) v w → Q .normal a w :=
    fun listed v a w hsz hall hA hJ => hend _ v a w hall hA hJ
  intro fuel
  induction fuel with
  | zero =>
    intro listed v a w l hsz hl hnd hm hA hJ hC
    have hl0 : l = [] := List.length_eq_zero_iff.1 hl
    subst hl0
    have hall : ∀ i, i < ops.size → listed.getD i false = true := fun i hi => by
      cases hb : listed.getD i false with
      | true => rfl
      | false => exact absurd ((hm i).2 ⟨hi, hb⟩) (by simp)
    refine ⟨?_, hdone listed v a w hsz hall hA hJ⟩
    refine List.eq_nil_iff_forall_not_mem.2 (fun i hi => ?_)
    obtain ⟨h1, o, ho, _⟩ := mem_ready.1 hi
    have hlt : i < ops.size := (Array.getElem?_eq_some_iff.1 ho).1
    have h2 := hall i hlt
    rw [Array.getD_eq_getD_getElem?, Array.getElem?_eq_getElem (by omega)] at h1 h2
    simp at h1 h2
    rw [h1] at h2
    cases h2
  | succ fuel ih =>
    intro listed v a w l hsz hl hnd hm hA hJ hC
    refine ⟨fun hr => ?_, fun i hi => ?_⟩
    · -- none may come up: all have
      have hall : ∀ n i, i < n → i < ops.size → listed.getD i false = true := by
        intro n
        induction n with
        | zero => intro i h; omega
        | succ n ihn =>
          intro i hin hi
          by_cases hlt : i < n
          · exact ihn i hlt hi
          · obtain rfl : i = n := by omega
            cases hb : listed.getD i false with
            | true => rfl
            | false =>
              have : i ∈ Region.ready .any ops listed := by
                refine mem_ready.2 ⟨?_, ops[i], Array.getElem?_eq_getElem hi, fun e he hb2 => ?_⟩
                · rw [Array.getD_eq_getD_getElem?, Array.getElem?_eq_getElem (by omega)] at hb ⊢
                  simpa using hb
                · have hlt2 := fits_after hf (Array.getElem?_eq_getElem hi) he hb2
                  exact ihn e.on hlt2 (by omega)
              rw [hr] at this
              cases this
      exact hdone listed v a w hsz (fun i hi => hall (i + 1) i (by omega) hi) hA hJ
    · obtain ⟨h1, o, ho, hwt⟩ := mem_ready.1 hi
      have hlt : i < ops.size := (Array.getElem?_eq_some_iff.1 ho).1
      have hb : listed.getD i false = false := by
        rw [Array.getD_eq_getD_getElem?, Array.getElem?_eq_getElem (by omega)] at h1 ⊢
        simpa using h1
      have hw : waits o (fun j => listed.getD j false) = true := by
        unfold waits
        refine Array.all_eq_true_iff_forall_mem.2 (fun e he => ?_)
        cases hbb : Region.binds .any e with
        | false => rfl
        | true => simpa using hwt e he hbb
      refine wpOp_mono ?_ (hstep i o ho _ v a w hA hJ hC hb hw)
      rintro a' w' ⟨u, rfl, hJ'⟩
      have hset : ∀ j, (listed.setIfInBounds i true).getD j false = upd (fun j => listed.getD j false) i j := fun j => by
        unfold upd
        by_cases hji : j = i
        · subst hji
          rw [if_pos rfl, Array.getD_eq_getD_getElem?, Array.getElem?_setIfInBounds_self_of_lt (by omega)]
          rfl
        · rw [if_neg hji]
          show (listed.setIfInBounds i true).getD j false = listed.getD j false
          rw [Array.getD_eq_getD_getElem?, Array.getD_eq_getD_getElem?, Array.getElem?_setIfInBounds_ne (Ne.symm hji)]
      have hA' := At.step (n := 0) hA hf ho hb u
      refine ih (listed.setIfInBounds i true) (updv v i u) _ w' (l.erase i) (by simpa using hsz) ?_ (hnd.erase i) ?_ ?_ ?_ ?_
      · rw [List.length_erase_of_mem ((hm i).2 ⟨hlt, hb⟩), hl]; rfl
      · intro j
        rw [hnd.mem_erase_iff, hm j]
        constructor
        · rintro ⟨hne, hj, hjb⟩
          exact ⟨hj, by rw [hset j]; unfold upd; rw [if_neg hne]; exact hjb⟩
        · rintro ⟨hj, hjb⟩
          rw [hset j] at hjb
          unfold upd at hjb
          by_cases hji : j = i
          · rw [if_pos hji] at hjb; cases hjb
          · rw [if_neg hji] at hjb
            exact ⟨hji, hj, hjb⟩
      · rw [show (fun j => (listed.setIfInBounds i true).getD j false) = upd (fun j => listed.getD j false) i from funext hset]
        exact hA'
      · rw [show (fun j => (listed.setIfInBounds i true).getD j false) = upd (fun j => listed.getD j false) i from funext hset]
        exact hJ'
      · intro j oj hoj hj
        rw [hset j] at hj
        have hup : ∀ e, listed.getD e false = true → (listed.setIfInBounds i true).getD e false = true := fun e he => by
          rw [hset e]
          unfold upd
          split
          · rfl
          · exact he
        have hwj : waits oj (fun i => listed.getD i false) = true := by
          unfold upd at hj
          by_cases hji : j = i
          · subst hji
            rw [ho] at hoj
            cases hoj
            exact hw
          · rw [if_neg hji] at hj
            exact hC j oj hoj hj
        unfold waits at hwj ⊢
        rw [Array.all_eq_true_iff_forall_mem] at hwj ⊢
        intro e he
        have h9 := hwj e he
        simp only [Bool.or_eq_true] at h9 ⊢
        exact h9.imp id (hup e.on)

/-- THE LAW. 'a0' is the state ahead of the region, 'ds' are its results' slots. -/
theorem wp_region_rg {id : Nat} {a0 : Act} {w : World} (hm : P.follows .mixedOrders = true) (hf : fits ops a0.tmps.size = true)
    (ds : List (Option Tmp)) (hds : (List.range ops.size).map (dstOf ops) = ds)
    (I : (Nat → Bool) → (Nat → Value) → World → Prop) (h0 : I (fun _ => false) (fun _ => undef) w.drew)
    (hstep : ∀ i o, ops[i]? = some o → ∀ (L : Nat → Bool) (v : Nat → Value) (a : Act) (w : World), At ops a0 L v a → I L v w → (∀ j oj, ops[j]? = some oj → L j = true → waits oj L = true) → L i = false → waits o L = true →
      wpOp P ops Q i (fun a' w' => ∃ u, a' = a.put o.dst u ∧ I (upd L i) (updv v i u) w') a w)
    (hend : ∀ L v w, (∀ i, i < ops.size → L i = true) → I L v w → Q .normal (putsAll a0 ds v 0) w) : (Code.region id ops true).wp P Q a0 w := by
  refine wp_region_any hm ?_
  have hr : (fun i => (Array.replicate ops.size false).getD i false) = fun _ => false := by
    funext i
    rw [Array.getD_eq_getD_getElem?]
    rcases Nat.lt_or_ge i ops.size with h1 | h1
    · simp [h1]
    · rw [Array.getElem?_eq_none (by simpa using h1)]; rfl
  refine rg_any a0 hf I hstep ?_ ops.size (Array.replicate ops.size false) (fun _ => undef) a0 _ (List.range ops.size) (by simp) (by simp) List.nodup_range ?_ ?_ ?_ ?_
  · intro L v a w hL hA hI
    rw [hA.all hf hL ds hds]
    exact hend L v w hL hI
  · intro i
    rw [congrFun hr i]
    simp
  · rw [hr]
    exact ⟨rfl, rfl, fun i d hi => (by cases hi), fun t _ => rfl⟩
  · rw [hr]
    exact h0
  · intro j oj hoj hj2
    rw [congrFun hr j] at hj2
    cases hj2

/-- The same in a region that keeps its order. -/
theorem wp_region_rg_plain {id : Nat} {a0 : Act} {w : World} (hf : fits ops a0.tmps.size = true)
    (ds : List (Option Tmp)) (hds : (List.range ops.size).map (dstOf ops) = ds)
    (I : (Nat → Bool) → (Nat → Value) → World → Prop) (h0 : I (fun _ => false) (fun _ => undef) w)
    (hstep : ∀ i o, ops[i]? = some o → ∀ (L : Nat → Bool) (v : Nat → Value) (a : Act) (w : World), At ops a0 L v a → I L v w → (∀ j oj, ops[j]? = some oj → L j = true → waits oj L = true) → L i = false → waits o L = true →
      wpOp P ops Q i (fun a' w' => ∃ u, a' = a.put o.dst u ∧ I (upd L i) (updv v i u) w') a w)
    (hend : ∀ L v w, (∀ i, i < ops.size → L i = true) → I L v w → Q .normal (putsAll a0 ds v 0) w) : (Code.region id ops false).wp P Q a0 w := by
  refine wp_region ?_
  have main : ∀ (m i : Nat) (v : Nat → Value) (a : Act) (w : World), i + m = ops.size → At ops a0 (fun j => decide (j < i)) v a → I (fun j => decide (j < i)) v w → wpOps P ops Q (List.range' i m) a w := by
    intro m
    induction m with
    | zero =>
      intro i v a w hi hA hI
      have hL : ∀ j, j < ops.size → decide (j < i) = true := fun j hj => decide_eq_true (by omega)
      show Q .normal a w
      rw [hA.all hf hL ds hds]
      exact hend _ v w hL hI
    | succ m ih =>
      intro i v a w hi hA hI
      have hlt : i < ops.size := by omega
      have ho : ops[i]? = some ops[i] := Array.getElem?_eq_getElem hlt
      rw [List.range'_succ, wpOps_cons]
      have hup : upd (fun j => decide (j < i)) i = fun j => decide (j < i + 1) := by
        funext j
        unfold upd
        by_cases hji : j = i
        · rw [if_pos hji]; exact (decide_eq_true (by omega)).symm
        · rw [if_neg hji]
          by_cases hjl : j < i
          · exact (decide_eq_true hjl).trans (decide_eq_true (by omega)).symm
          · exact (decide_eq_false hjl).trans (decide_eq_false (by omega)).symm
      have hw : ∀ j oj, ops[j]? = some oj → j ≤ i → waits oj (fun j => decide (j < i)) = true := fun j oj hoj hji => by
        unfold waits
        refine Array.all_eq_true_iff_forall_mem.2 (fun e he => ?_)
        cases hb : Region.binds .any e with
        | false => rfl
        | true =>
          have := fits_after hf hoj he hb
          simp only [Bool.not_true, Bool.false_or]
          exact decide_eq_true (by omega)
      have hni : (fun j => decide (j < i)) i = false := decide_eq_false (by omega)
      refine wpOp_mono ?_ (hstep i ops[i] ho _ v a w hA hI (fun j oj hoj hj => hw j oj hoj (Nat.le_of_lt (of_decide_eq_true hj))) hni (hw i _ ho (Nat.le_refl _)))
      rintro a' w' ⟨u, rfl, hI'⟩
      have hA' := At.step (n := 0) hA hf ho hni u
      rw [hup] at hA' hI'
      exact ih (i + 1) _ _ w' (by omega) hA' hI'
  have h := main ops.size 0 (fun _ => undef) a0 w (by omega) ⟨rfl, rfl, fun i d hi => (by cases hi), fun t _ => rfl⟩ h0
  rw [List.range_eq_range']
  exact h

/-- What comes up only behind another one, near or far. -/
def reach (ops : Array Oper) : Nat → Nat → Nat → Bool
  | 0, _, _ => false
  | f + 1, i, j => match ops[i]? with
    | some o => o.after.toList.any fun e => Region.binds .any e && (e.on == j || reach ops f e.on j)
    | none => false

theorem reach_listed {L : Nat → Bool} (hC : ∀ j oj, ops[j]? = some oj → L j = true → waits oj L = true) : ∀ (f i j : Nat) (o : Oper), ops[i]? = some o → waits o L = true → reach ops f i j = true → L j = true
  | 0, i, j, o, _, _, h => by cases h
  | f + 1, i, j, o, ho, hw, h => by
    unfold reach at h
    rw [ho] at h
    rw [List.any_eq_true] at h
    obtain ⟨e, he, hb⟩ := h
    simp only [Bool.and_eq_true, Bool.or_eq_true, beq_iff_eq] at hb
    unfold waits at hw
    have h1 := Array.all_eq_true_iff_forall_mem.1 hw e (Array.mem_toList_iff.1 he)
    rw [hb.1] at h1
    have hLe : L e.on = true := by simpa using h1
    rcases hb.2 with h2 | h2
    · rw [← h2]; exact hLe
    · cases hoe : ops[e.on]? with
      | none =>
        cases f with
        | zero => cases h2
        | succ f => unfold reach at h2; rw [hoe] at h2; cases h2
      | some oe => exact reach_listed hC f e.on j oe hoe (hC e.on oe hoe hLe) h2

theorem wpOp_plain {i : Nat} {o : Oper} {K : Act → World → Prop} {a : Act} {w : World} (ho : ops[i]? = some o) (hg : o.guard = none) (h : ∀ K' : Act → World → Prop, (∀ a w, K a w → K' a w) → Oper.wp P o a w K' Q) : wpOp P ops Q i K a w :=
  wpOp_step ho fun K' hK => by
    rw [if_pos (by simp [Region.wanted, hg])]
    exact h K' hK

theorem wpOp_value {i : Nat} {o : Oper} {K : Act → World → Prop} {a : Act} {w w' : World} {u : Value} (ho : ops[i]? = some o) (hg : o.guard = none) (hr : (execOp a.eval o).run P w = .ok (.value u) w') (h : K (a.put o.dst u) w') : wpOp P ops Q i K a w :=
  wpOp_plain ho hg fun K' hK => by
    unfold Oper.wp
    rw [hr, Oper.upon_value]
    exact hK _ _ h

theorem wpOp_call {i : Nat} {o : Oper} {K : Act → World → Prop} {a : Act} {w : World} {f : FuncId} {vs : Array Value} (ho : ops[i]? = some o) (hg : o.guard = none) (hr : (execOp a.eval o).run P w = .ok (.enter f vs) w)
    (h : Calls P f vs w fun e w' => ∃ u, e = .returned u ∧ K (a.put o.dst u) w') : wpOp P ops Q i K a w :=
  wpOp_plain ho hg fun K' hK => by
    unfold Oper.wp
    rw [hr, Oper.upon_enter]
    refine h.mono ?_
    rintro e w' ⟨u, rfl, hu⟩
    exact hK _ _ hu

end

end Go.Proofs.YtogebppolkfldaaGreatDoor.Rg

namespace Go.Proofs.YtogebppolkfldaaGreatDoor.Pl
open Go.RowKit Go.Proofs.YtogebppolkfldaaGreatDoor.Mem
set_option linter.unusedVariables false

theorem enters {P : Program} (a : Act) (o : Oper) (w : World) (xs : Array Operand) (ts : Array TypeId) (f : FuncId) (ho : o.op = .call { callee := .value (.func f), args := xs, argTypes := ts }) (vs : Array Value) (hv : xs.map a.eval = vs) (hc : ∀ vs w, (callFunc f vs).run P w = .ok (.enter f vs) w) :
    (execOp a.eval o).run P w = .ok (.enter f vs) w := by
  unfold execOp
  simp [ho, hv, go_sem, resolve, invoke, hc]

theorem run_not {P : Program} {ρ : Operand → Value} {o : Oper} {w : World} (ty : TypeId) (x : Operand) (p : o.op = .unOp .not ty x) (e : ρ x = .bool true) : (execOp ρ o).run P w = .ok (.value (.bool false)) w := by
  unfold execOp
  simp [p, e, go_sem]

theorem wpList_call {P : Program} {ops : Array Oper} {rest : List Oper} {op : Oper} {a : Act} {w : World} {Q : Exit → Act → World → Prop} (hgd : op.guard = none) (f : FuncId) (xs : Array Operand) (ts : Array TypeId)
    (ho : op.op = .call { callee := .value (.func f), args := xs, argTypes := ts }) (vs : Array Value) (hv : xs.map a.eval = vs) (hc : ∀ vs w, (callFunc f vs).run P w = .ok (.enter f vs) w)
    (h : Calls P f vs w fun e w' => ∃ v, e = .returned v ∧ wpList P ops Q rest (a.put op.dst v) w') : wpList P ops Q (op :: rest) a w :=
  wpList_plain hgd fun K hK => by
    unfold Oper.wp
    rw [enters a op w xs ts f ho vs hv hc, Oper.upon_enter]
    refine h.mono ?_
    rintro e w' ⟨v, rfl, hw⟩
    exact hK _ _ hw

/-- What stands in a box, held against the argument laid anew. -/
theorem region_eq {P : Program} {ops : Array Oper} {id : Nat} {a : Act} {w : World} {Q : Exit → Act → World → Prop} (hm : P.follows .mixedOrders = true) (h5 : ops.size = 5)
    {o0 o1 o2 o3 o4 : Oper} (i0 : ops[0]? = some o0) (i1 : ops[1]? = some o1) (i2 : ops[2]? = some o2) (i3 : ops[3]? = some o3) (i4 : ops[4]? = some o4)
    (g0 : o0.guard = none) (g1 : o1.guard = none) (g2 : o2.guard = none) (g3 : o3.guard = none) (g4 : o4.guard = none)
    (hs : Region.noSelect ops = true)
    (f0 : Region.free .any ops (Array.replicate 5 false) 0 = true) (r0 : (Region.ready .any ops (Array.replicate 5 false)).contains 0 = true)
    (f1 : Region.free .any ops ((Array.replicate 5 false).setIfInBounds 0 true) 1 = true) (r1 : (Region.ready .any ops ((Array.replicate 5 false).setIfInBounds 0 true)).contains 1 = true)
    (r2 : Region.ready .any ops (((Array.replicate 5 false).setIfInBounds 0 true).setIfInBounds 1 true) = [2])
    (r3 : Region.ready .any ops ((((Array.replicate 5 false).setIfInBounds 0 true).setIfInBounds 1 true).setIfInBounds 2 true) = [3])
    (r4 : Region.ready .any ops (((((Array.replicate 5 false).setIfInBounds 0 true).setIfInBounds 1 true).setIfInBounds 2 true).setIfInBounds 3 true) = [4])
    (r5 : Region.ready .any ops ((((((Array.replicate 5 false).setIfInBounds 0 true).setIfInBounds 1 true).setIfInBounds 2 true).setIfInBounds 3 true).setIfInBounds 4 true) = [])
    (q0 : ∀ (v : Value) c (a : Act) w, Q (.panic c) (a.put o0.dst v) w → Q (.panic c) a w) (q1 : ∀ (v : Value) c (a : Act) w, Q (.panic c) (a.put o1.dst v) w → Q (.panic c) a w)
    (ty0 : TypeId) (x0 : Operand) (p0 : o0.op = .load ty0 x0) (b0 : Nat) (cs0 : List Value) (d0 : TypeDesc) (e0 : a.eval x0 = .pointer (some ⟨b0, 0, none⟩)) (R0 : Row w b0 cs0)
    (u0 : P.underlying ty0 = some d0) (k0 : d0.isRow = true) (n0 : (P.info? ty0).map (·.size) = some cs0.length)
    (ty1 : TypeId) (x1 : Operand) (p1 : o1.op = .load ty1 x1) (b1 : Nat) (cs1 : List Value) (d1 : TypeDesc) (e1 : (a.put o0.dst (.agg cs0.toArray)).eval x1 = .pointer (some ⟨b1, 0, none⟩)) (R1 : Row w b1 cs1)
    (u1 : P.underlying ty1 = some d1) (k1 : d1.isRow = true) (n1 : (P.info? ty1).map (·.size) = some cs1.length)
    (c2 : FuncId) (y2 : Operand) (ts2 : Array TypeId) (p2 : o2.op = .call { callee := .value (.func c2), args := #[y2], argTypes := ts2 }) (m2 : ∀ vs w, (callFunc c2 vs).run P w = .ok (.enter c2 vs) w)
    (e2 : ((a.put o0.dst (.agg cs0.toArray)).put o1.dst (.agg cs1.toArray)).eval y2 = .agg cs1.toArray)
    (c3 : FuncId) (y3 z3 : Operand) (ts3 : Array TypeId) (p3 : o3.op = .call { callee := .value (.func c3), args := #[y3, z3], argTypes := ts3 }) (m3 : ∀ vs w, (callFunc c3 vs).run P w = .ok (.enter c3 vs) w)
    (e3 : ∀ V, (((a.put o0.dst (.agg cs0.toArray)).put o1.dst (.agg cs1.toArray)).put o2.dst V).eval y3 = .agg cs0.toArray) (e3' : ∀ V, (((a.put o0.dst (.agg cs0.toArray)).put o1.dst (.agg cs1.toArray)).put o2.dst V).eval z3 = V)
    (ty4 : TypeId) (x4 : Operand) (p4 : o4.op = .unOp .not ty4 x4) (e4 : ∀ V, ((((a.put o0.dst (.agg cs0.toArray)).put o1.dst (.agg cs1.toArray)).put o2.dst V).put o3.dst (.bool true)).eval x4 = .bool true)
    (R : Value → World → Prop)
    (C2 : ∀ w', Below w.heap.size w w' → Calls P c2 #[.agg cs1.toArray] w' fun e w'' => ∃ V, e = .returned V ∧ R V w'' ∧ Below w'.heap.size w' w'')
    (C3 : ∀ V w', Below w.heap.size w w' → R V w' → Calls P c3 #[.agg cs0.toArray, V] w' fun e w'' => e = .returned (.bool true) ∧ Below w'.heap.size w' w'')
    (h : ∀ V w', Below w.heap.size w w' → Q .normal (((((a.put o0.dst (.agg cs0.toArray)).put o1.dst (.agg cs1.toArray)).put o2.dst V).put o3.dst (.bool true)).put o4.dst (.bool false)) w') :
    (Code.region id ops true).wp P Q a w := by
  refine wp_region_held (S := fun w' => Below w.heap.size w w') hm ?_
  rw [h5]
  have S0 : Below w.heap.size w { w with drawn := w.drawn + 1 } := (Below.refl _ w).drew
  refine wpAnyH_take i0 hs f0 r0 (q0 _) (yieldsIf_load_mid (by simp [Region.wanted, g0]) ty0 x0 p0 b0 0 e0 cs0 d0 (fun w' hw' => fun j v hv => by rw [Nat.zero_add]; exact (R0.below hw' R0.lt).c j hv) u0 k0 n0) S0 ?_
  refine wpAnyH_take i1 hs f1 r1 (q1 _) (yieldsIf_load_mid (by simp [Region.wanted, g1]) ty1 x1 p1 b1 0 e1 cs1 d1 (fun w' hw' => fun j v hv => by rw [Nat.zero_add]; exact (R1.below hw' R1.lt).c j hv) u1 k1 n1) S0 ?_
  refine wpAnyH_all r2 (by simp) ?_
  intro i hi
  obtain rfl : i = 2 := by simpa using hi
  refine wpOp_step i2 (fun K hK => ?_)
  rw [if_pos (by simp [Region.wanted, g2])]
  unfold Oper.wp
  rw [enters _ o2 _ #[y2] ts2 c2 p2 #[.agg cs1.toArray] (by simp only [List.map_toArray, List.map_cons, List.map_nil, e2]) m2, Oper.upon_enter]
  refine (C2 _ S0).mono ?_
  rintro e w2 ⟨V, rfl, hR, B2⟩
  have S2 : Below w.heap.size w w2 := S0.trans (B2.mono S0.size)
  refine hK _ _ ⟨S2, ?_⟩
  refine wpAnyH_all r3 (by simp) ?_
  intro i hi
  obtain rfl : i = 3 := by simpa using hi
  refine wpOp_step i3 (fun K hK => ?_)
  rw [if_pos (by simp [Region.wanted, g3])]
  unfold Oper.wp
  rw [enters _ o3 _ #[y3, z3] ts3 c3 p3 #[.agg cs0.toArray, V] (by simp only [List.map_toArray, List.map_cons, List.map_nil, e3 V, e3' V]) m3, Oper.upon_enter]
  refine (C3 V w2 S2 hR).mono ?_
  rintro e w3 ⟨rfl, B3⟩
  have S3 : Below w.heap.size w w3 := S2.trans (B3.mono S2.size)
  refine hK _ _ ⟨S3, ?_⟩
  refine wpAnyH_all r4 (by simp) ?_
  intro i hi
  obtain rfl : i = 4 := by simpa using hi
  refine wpOp_step i4 (fun K hK => ?_)
  rw [if_pos (by simp [Region.wanted, g4])]
  unfold Oper.wp
  rw [run_not ty4 x4 p4 (e4 V), Oper.upon_value]
  exact hK _ _ ⟨S3, wpAnyH_done r5 (h V w3 S3) _⟩

theorem listed_all (vs : List Value) : ∀ (xs : List Value) (i : Nat), xs.length = i + vs.length → listed xs i vs = xs.take i ++ vs := by
  induction vs with
  | nil => intro xs i h; simp only [listed, List.append_nil]; rw [List.take_of_length_le]; simp at h; omega
  | cons v vs ih =>
    intro xs i h
    have h2 : i < xs.length := by simp at h; omega
    have h3 : (xs.set i v).take (i + 1) = xs.take i ++ [v] := by
      rw [List.take_add_one, List.take_set, List.set_eq_of_length_le (by simp; omega)]
      simp [h2]
    rw [listed, ih (xs.set i v) (i + 1) (by simp at h ⊢; omega), h3, List.append_assoc]
    rfl

/-- An argument laid anew and put into a box. -/
theorem region_box {P : Program} {ops : Array Oper} {id : Nat} {a : Act} {w : World} {Q : Exit → Act → World → Prop}
    {o0 o1 o2 o3 : Oper} (hl : ops.toList = [o0, o1, o2, o3]) (g0 : o0.guard = none) (g1 : o1.guard = none) (g2 : o2.guard = none) (g3 : o3.guard = none)
    (ty0 : TypeId) (x0 : Operand) (p0 : o0.op = .load ty0 x0) (b0 : Nat) (cs0 : List Value) (d0 : TypeDesc) (e0 : a.eval x0 = .pointer (some ⟨b0, 0, none⟩)) (R0 : Row w b0 cs0)
    (u0 : P.underlying ty0 = some d0) (k0 : d0.isRow = true) (n0 : (P.info? ty0).map (·.size) = some cs0.length)
    (c1 : FuncId) (y1 : Operand) (ts1 : Array TypeId) (p1 : o1.op = .call { callee := .value (.func c1), args := #[y1], argTypes := ts1 }) (m1 : ∀ vs w, (callFunc c1 vs).run P w = .ok (.enter c1 vs) w)
    (e1 : (a.put o0.dst (.agg cs0.toArray)).eval y1 = .agg cs0.toArray)
    (zs : List Value) (ty2 : TypeId) (al : ∀ (ρ : Operand → Value) w, (execOp ρ o2).run P w = .ok (.value (.pointer (some ⟨w.heap.size, 0, none⟩))) (w.alloc (.cells zs.toArray ty2)))
    (ty3 : TypeId) (x3 y3 : Operand) (p3 : o3.op = .store ty3 x3 y3) (i3 : (P.info? ty3).map (·.size) = some zs.length)
    (e3 : ∀ V X, (((a.put o0.dst (.agg cs0.toArray)).put o1.dst V).put o2.dst X).eval x3 = X) (e4 : ∀ V X, (((a.put o0.dst (.agg cs0.toArray)).put o1.dst V).put o2.dst X).eval y3 = V)
    (R : List Value → World → Prop)
    (C1 : Calls P c1 #[.agg cs0.toArray] w fun e w' => ∃ cs, e = .returned (.agg (List.toArray cs)) ∧ cs.length = zs.length ∧ cs.all (·.oneCell') = true ∧ R cs w' ∧ Below w.heap.size w w')
    (h : ∀ cs w1 wz, R cs w1 → Below w.heap.size w w1 → Row wz w1.heap.size cs → Below w1.heap.size w1 wz → Q .normal ((((a.put o0.dst (.agg cs0.toArray)).put o1.dst (.agg cs.toArray)).put o2.dst (.pointer (some ⟨w1.heap.size, 0, none⟩))).put o3.dst undef) wz) :
    (Code.region id ops false).wp P Q a w := by
  refine wp_region_list ?_
  rw [hl]
  refine wpList_load_row g0 ty0 x0 p0 b0 e0 cs0 d0 R0 u0 k0 n0 ?_
  refine wpList_call g1 c1 #[y1] ts1 p1 #[.agg cs0.toArray] (by simp only [List.map_toArray, List.map_cons, List.map_nil, e1]) m1 (C1.mono ?_)
  rintro e w1 ⟨cs, rfl, hlen, h1, hR, B1⟩
  refine ⟨_, rfl, ?_⟩
  refine wpList_plain g2 (fun K hK => ?_)
  unfold Oper.wp
  rw [al, Oper.upon_value]
  refine hK _ _ ?_
  have hr := Row.new w1 zs ty2
  refine wpList_store_row g3 ty3 x3 y3 p3 w1.heap.size (e3 _ _) zs cs (e4 _ _) hr hlen (by rw [i3, hlen]) h1 ?_
  refine wpList_nil ?_
  have hrow := puts_row hr 0 cs
  rw [listed_all cs zs 0 (by omega)] at hrow
  exact h cs w1 _ hR B1 hrow (puts_below ((Below.refl _ w1).alloc (Nat.le_refl _) _) (Nat.le_refl _) 0 cs)

end Go.Proofs.YtogebppolkfldaaGreatDoor.Pl

namespace Go.Proofs.YtogebppolkfldaaGreatDoor.Pl
open Go.RowKit Go.Proofs.YtogebppolkfldaaGreatDoor.Mem
set_option linter.unusedVariables false

theorem run_move {P : Program} {ρ : Operand → Value} {o : Oper} {w : World} (x : Operand) (p : o.op = .move x) {v : Value} (e : ρ x = v) : (execOp ρ o).run P w = .ok (.value v) w := by
  unfold execOp
  simp [p, e, go_sem]
theorem run_assign {P : Program} {ρ : Operand → Value} {o : Oper} {w : World} (x : Operand) (p : o.op = .assign x) {v : Value} (e : ρ x = v) : (execOp ρ o).run P w = .ok (.value v) w := by
  unfold execOp
  simp [p, e, go_sem]
theorem run_ext {P : Program} {ρ : Operand → Value} {o : Oper} {w : World} (x : Operand) (i : Nat) (p : o.op = .extract x i) {vs : Array Value} {v : Value} (e : ρ x = .tuple vs) (hv : vs[i]? = some v) : (execOp ρ o).run P w = .ok (.value v) w := by
  unfold execOp
  simp [p, e, hv, go_sem]

end Go.Proofs.YtogebppolkfldaaGreatDoor.Pl

namespace Go.Proofs.YtogebppolkfldaaGreatDoor.Rg
open Go.RowKit Go.Proofs.YtogebppolkfldaaGreatDoor.Mem Go.Proofs.YtogebppolkfldaaGreatDoor.Pl
set_option linter.unusedVariables false

theorem agg_inj {a b : List Value} (h : Value.agg a.toArray = .agg b.toArray) : a = b := by
  injection h with h1
  exact List.toArray_inj h1

section
variable {P : Program} {ops : Array Oper} {a0 : Act}

theorem upd_same (L : Nat → Bool) (i : Nat) : upd L i i = true := by simp [upd]
theorem upd_ne (L : Nat → Bool) {i j : Nat} (h : j ≠ i) : upd L i j = L j := by simp [upd, h]
theorem updv_same (v : Nat → Value) (i : Nat) (u : Value) : updv v i u i = u := by simp [updv]
theorem updv_ne (v : Nat → Value) {i j : Nat} (u : Value) (h : j ≠ i) : updv v i u j = v j := by simp [updv, h]

theorem rg_both {Q : Exit → Act → World → Prop} {id : Nat} {w : World} (dr : Bool) (hm : P.follows .mixedOrders = true) (hf : fits ops a0.tmps.size = true)
    (ds : List (Option Tmp)) (hds : (List.range ops.size).map (dstOf ops) = ds)
    (I : (Nat → Bool) → (Nat → Value) → World → Prop) (h0 : I (fun _ => false) (fun _ => undef) w.drew) (h1 : I (fun _ => false) (fun _ => undef) w)
    (hstep : ∀ i o, ops[i]? = some o → ∀ (L : Nat → Bool) (v : Nat → Value) (a : Act) (w : World), At ops a0 L v a → I L v w → (∀ j oj, ops[j]? = some oj → L j = true → waits oj L = true) → L i = false → waits o L = true →
      wpOp P ops Q i (fun a' w' => ∃ u, a' = a.put o.dst u ∧ I (upd L i) (updv v i u) w') a w)
    (hend : ∀ L v w, (∀ i, i < ops.size → L i = true) → I L v w → Q .normal (putsAll a0 ds v 0) w) : (Code.region id ops dr).wp P Q a0 w := by
  cases dr with
  | true => exact wp_region_rg hm hf ds hds I h0 hstep hend
  | false => exact wp_region_rg_plain hf ds hds I h1 hstep hend

end

end Go.Proofs.YtogebppolkfldaaGreatDoor.Rg

namespace Go.Proofs.YtogebppolkfldaaGreatDoor.Rg
open Go.RowKit Go.Proofs.YtogebppolkfldaaGreatDoor.Mem Go.Proofs.YtogebppolkfldaaGreatDoor.Pl
set_option linter.unusedVariables false

/-- What an operation waits for, nearest. -/
def near (ops : Array Oper) (i j : Nat) : Bool := match ops[i]? with
  | some o => o.after.toList.any fun e => Region.binds .any e && e.on == j
  | none => false

theorem near_up {ops : Array Oper} {i j : Nat} {o : Oper} {L : Nat → Bool} (ho : ops[i]? = some o) (hw : waits o L = true) (h : near ops i j = true) : L j = true := by
  unfold near at h
  rw [ho] at h
  obtain ⟨e, he', hb⟩ := List.any_eq_true.1 h
  have he := Array.mem_toList_iff.1 he'
  rw [Bool.and_eq_true] at hb
  unfold waits at hw
  have h1 := Array.all_eq_true_iff_forall_mem.1 hw e he
  rw [hb.1] at h1
  have h2 : e.on = j := by simpa using hb.2
  rw [← h2]
  simpa using h1

/-- A value against a guard. -/
def isB : Value → Bool → Bool
  | .bool c, b => c == b
  | _, _ => false

section
variable (P : Program) (ops : Array Oper) (a0 : Act) (w0 : World) (val : Nat → Value) (sp : Nat → Option (Value → World → Prop))

/-- What is said of an operation's value. -/
def GG (i : Nat) (v : Nat → Value) (w : World) : Prop := match sp i with
  | none => v i = val i
  | some p => p (v i) w

structure KnG (i : Nat) (L : Nat → Bool) (v : Nat → Value) (a : Act) (w : World) : Prop where
  slots : At ops a0 L v a
  bel : Below w0.heap.size w0 w
  up : ∀ j, near ops i j = true → L j = true
  said : ∀ j, near ops i j = true → GG val sp j v w

/-- Is an operation carried out. -/
def WIs (c : Bool) (i : Nat) (o : Oper) : Prop := (o.guard = none ∧ c = true) ∨ ∃ j b t, o.guard = some (j, b) ∧ near ops i j = true ∧ dstOf ops j = some t ∧ sp j = none ∧ isB (val j) b = c

def StepG (Q : Exit → Act → World → Prop) (i : Nat) : Prop := ∀ o, ops[i]? = some o → ∀ L v a w, KnG ops a0 w0 val sp i L v a w → wpOp P ops Q i (fun a' w' => ∃ u, a' = a.put o.dst u ∧ Below w.heap.size w w' ∧ GG val sp i (updv v i u) w') a w
end

section
variable {P : Program} {ops : Array Oper} {a0 : Act} {w0 : World} {val : Nat → Value} {sp : Nat → Option (Value → World → Prop)} {Q : Exit → Act → World → Prop}

theorem KnG.at_val {i : Nat} {L : Nat → Bool} {v : Nat → Value} {a : Act} {w : World} (K : KnG ops a0 w0 val sp i L v a w) (j : Nat) {t : Tmp} (hn : near ops i j = true) (hd : dstOf ops j = some t) (hs : sp j = none) : a.eval (.tmp t) = val j := by
  have h := K.said j hn
  unfold GG at h
  rw [hs] at h
  exact (K.slots.eval_got j (K.up j hn) hd).trans h
theorem KnG.off {i : Nat} {L : Nat → Bool} {v : Nat → Value} {a : Act} {w : World} (K : KnG ops a0 w0 val sp i L v a w) {x : Operand} (hx : offAll ops x = true) : a.eval x = a0.eval x := K.slots.eval_off hx

theorem wanted_is {c : Bool} {i : Nat} {o : Oper} {L : Nat → Bool} {v : Nat → Value} {a : Act} {w : World} (h : WIs ops val sp c i o) (K : KnG ops a0 w0 val sp i L v a w) : Region.wanted o (yielded ops a.tmps) = c := by
  rcases h with ⟨hg, rfl⟩ | ⟨j, b, t, hg, hn, hd, hs, hb⟩
  · simp [Region.wanted, hg]
  · have hv : v j = val j := by
      have h := K.said j hn
      unfold GG at h
      rwa [hs] at h
    have hgot := K.slots.got j t (K.up j hn) hd
    have hy : yielded ops a.tmps j = (match v j with | .bool c => some c | _ => none) := by
      unfold yielded
      have e : ((ops[j]?).bind (·.dst)) = some t := hd
      rw [e]
      simp only [Option.bind_some]
      rw [hgot]
      cases v j <;> rfl
    unfold Region.wanted
    rw [hg]
    show (yielded ops a.tmps j == some b) = c
    rw [hy, hv, ← hb]
    cases val j <;> rfl

theorem gVal {i : Nat} {o : Oper} (ho : ops[i]? = some o) (hw : WIs ops val sp true i o) (hs : sp i = none) (h : ∀ L v a w, KnG ops a0 w0 val sp i L v a w → (execOp a.eval o).run P w = .ok (.value (val i)) w) : StepG P ops a0 w0 val sp Q i := by
  intro o' ho' L v a w K
  rw [ho] at ho'
  cases ho'
  refine wpOp_step ho (fun K' hK => ?_)
  rw [if_pos (wanted_is hw K)]
  unfold Oper.wp
  rw [h L v a w K, Oper.upon_value]
  exact hK _ _ ⟨_, rfl, Below.refl _ _, by unfold GG; rw [hs]; exact updv_same v i _⟩

theorem gSkip {i : Nat} {o : Oper} (ho : ops[i]? = some o) (hw : WIs ops val sp false i o) (hs : sp i = none) (hv : val i = undef) : StepG P ops a0 w0 val sp Q i := by
  intro o' ho' L v a w K
  rw [ho] at ho'
  cases ho'
  refine wpOp_step ho (fun K' hK => ?_)
  rw [if_neg (by rw [wanted_is hw K]; decide)]
  exact hK _ _ ⟨_, rfl, Below.refl _ _, by unfold GG; rw [hs, hv]; exact updv_same v i _⟩

theorem gCall {i : Nat} {o : Oper} (ho : ops[i]? = some o) (hw : WIs ops val sp true i o) (c : FuncId) (ys : Array Operand) (ts : Array TypeId) (av : (Nat → Value) → Array Value) (p : o.op = .call { callee := .value (.func c), args := ys, argTypes := ts }) (hc : ∀ vs w, (callFunc c vs).run P w = .ok (.enter c vs) w)
    (hav : ∀ L v a w, KnG ops a0 w0 val sp i L v a w → ys.map a.eval = av v)
    (hcon : ∀ v w, Below w0.heap.size w0 w → (∀ j, near ops i j = true → GG val sp j v w) → Calls P c (av v) w fun e w' => ∃ V, e = .returned V ∧ Below w.heap.size w w' ∧ (match sp i with | none => V = val i | some p => p V w')) : StepG P ops a0 w0 val sp Q i := by
  intro o' ho' L v a w K
  rw [ho] at ho'
  cases ho'
  refine wpOp_step ho (fun K' hK => ?_)
  rw [if_pos (wanted_is hw K)]
  unfold Oper.wp
  rw [enters a o w ys ts c p (av v) (hav L v a w K) hc, Oper.upon_enter]
  refine (hcon v w K.bel K.said).mono ?_
  rintro e w' ⟨V, rfl, hb, hp⟩
  refine hK _ _ ⟨_, rfl, hb, ?_⟩
  unfold GG
  cases hs : sp i with
  | none => rw [hs] at hp; exact (updv_same v i _).trans hp
  | some q => rw [hs] at hp; show q (updv v i V i) w'; rw [updv_same]; exact hp

def AllG (P : Program) (ops : Array Oper) (a0 : Act) (w0 : World) (val : Nat → Value) (sp : Nat → Option (Value → World → Prop)) (Q : Exit → Act → World → Prop) : Nat → Nat → Prop
  | _, 0 => True
  | k, n + 1 => StepG P ops a0 w0 val sp Q k ∧ AllG P ops a0 w0 val sp Q (k + 1) n

theorem AllG.at : ∀ (n k : Nat), AllG P ops a0 w0 val sp Q k n → ∀ i, k ≤ i → i < k + n → StepG P ops a0 w0 val sp Q i
  | 0, k, _, i, h1, h2 => by omega
  | n + 1, k, h, i, h1, h2 => by
    by_cases e : i = k
    · subst e; exact h.1
    · exact AllG.at n (k + 1) h.2 i (by omega) (by omega)

/-- THE LAW. -/
theorem region_grow {id : Nat} (dr : Bool) (hm : P.follows .mixedOrders = true) (hf : fits ops a0.tmps.size = true) (ds : List (Option Tmp)) (hds : (List.range ops.size).map (dstOf ops) = ds)
    (hst : ∀ i p, sp i = some p → ∀ x w w', p x w → Below w.heap.size w w' → p x w')
    (hall : AllG P ops a0 w0 val sp Q 0 ops.size)
    (hend : ∀ v w, Below w0.heap.size w0 w → (∀ i, i < ops.size → GG val sp i v w) → Q .normal (putsAll a0 ds v 0) w) : (Code.region id ops dr).wp P Q a0 w0 := by
  have hop : ∀ i, i < ops.size → StepG P ops a0 w0 val sp Q i := fun i hi => AllG.at ops.size 0 hall i (Nat.zero_le _) (by omega)
  refine rg_both dr hm hf ds hds (fun L v w => Below w0.heap.size w0 w ∧ ∀ k, k < ops.size → L k = true → GG val sp k v w) ⟨(Below.refl _ _).drew, fun k _ h => (by cases h)⟩ ⟨Below.refl _ _, fun k _ h => (by cases h)⟩ ?_ ?_
  · rintro i o ho L v a w hAt ⟨hB, hI⟩ hC hLi hw
    have hlt : i < ops.size := (Array.getElem?_eq_some_iff.1 ho).1
    have hup : ∀ j, near ops i j = true → L j = true := fun j hj => near_up ho hw hj
    have hsz : ∀ j, near ops i j = true → j < ops.size := fun j hj => by
      unfold near at hj
      rw [ho] at hj
      obtain ⟨e, he', hb⟩ := List.any_eq_true.1 hj
      have he := Array.mem_toList_iff.1 he'
      rw [Bool.and_eq_true] at hb
      have := fits_after hf ho he hb.1
      have h2 : e.on = j := by simpa using hb.2
      omega
    refine wpOp_mono ?_ (hop i hlt o ho L v a w ⟨hAt, hB, hup, fun j hj => hI j (hsz j hj) (hup j hj)⟩)
    rintro a' w' ⟨u, rfl, hb, hG⟩
    refine ⟨u, rfl, hB.trans (hb.mono hB.size), fun k hk hLk => ?_⟩
    by_cases hki : k = i
    · subst hki; exact hG
    · rw [upd_ne L hki] at hLk
      have h := hI k hk hLk
      unfold GG at h ⊢
      cases hs : sp k with
      | none => rw [hs] at h; show updv v i u k = val k; rw [updv_ne v u hki]; exact h
      | some q => rw [hs] at h; show q (updv v i u k) w'; rw [updv_ne v u hki]; exact hst k q hs _ _ _ h hb
  · rintro L v w hL ⟨hB, hI⟩
    exact hend v w hB (fun i hi => hI i hi (hL i hi))

end

end Go.Proofs.YtogebppolkfldaaGreatDoor.Rg

namespace Go.Proofs.YtogebppolkfldaaGreatDoor.Rg
open Go.RowKit Go.Proofs.YtogebppolkfldaaGreatDoor.Mem Go.Proofs.YtogebppolkfldaaGreatDoor.Pl
set_option linter.unusedVariables false

theorem cell_later {w w' : World} {p : Addr} {v : Value} (h : w.cell? p = some v) (k : Below w.heap.size w w') : w'.cell? p = some v := by
  have hb := World.block_lt_of_cell? w _ h
  rw [cell_block (p := p) (k.block p.block hb)]
  exact h

theorem run_load_at {P : Program} {ρ : Operand → Value} {o : Oper} {w : World} (ty : TypeId) (x : Operand) (p : o.op = .load ty x) (b off : Nat) (e : ρ x = .pointer (some ⟨b, off, none⟩)) (cs : List Value) (hr : w.rangeAt b off cs) (d : TypeDesc)
    (hu : P.underlying ty = some d) (hd : d.isRow = true) (hi : (P.info? ty).map (·.size) = some cs.length) : (execOp ρ o).run P w = .ok (.value (.agg cs.toArray)) w := by
  unfold execOp
  simp only [p, e, Instr.loadAt, Instr.sureAddr, Sem.run_bind, Sem.run_pure, Result.andThen_ok, run_loadVar_mid w b off ty cs d hr hu hd hi]

theorem range_of_row {w : World} {b : Nat} {cs : List Value} (h : Row w b cs) : w.rangeAt b 0 cs := fun j v hv => by rw [Nat.zero_add]; exact h.c j hv

end Go.Proofs.YtogebppolkfldaaGreatDoor.Rg

namespace Go.Proofs.YtogebppolkfldaaGreatDoor.Pl
open Go.RowKit Go.ChangeShapes Go.WideShapes Go.ChangeAt Go.Joins Go.Deep
open Go.Proofs.YtogebppolkfldaaGreatDoor.Mem Go.Proofs.YtogebppolkfldaaGreatDoor.Sec Go.Proofs.YtogebppolkfldaaGreatDoor.Rg
set_option linter.unusedVariables false

/-- A host and where its outs lie. -/
structure Hx where
  H : Ho
  p : Option Addr
  c : Nat

def Ho.none : Ho := ⟨0, 0, false, false, false, 0, 0, 0, 0, ByteArray.empty, 0, 0, 0, ByteArray.empty, [], 0⟩
def Hx.none : Hx := ⟨Ho.none, Option.none, 0⟩
def Hx.cells (x : Hx) : List Value := [.int .i64 x.H.id, .int .i64 x.H.ep, .bool x.H.up, .bool x.H.rd, .bool x.H.bz, .int .i64 x.H.k, .int .i64 x.H.v, .int .i64 x.H.t, .int .i64 x.H.a, .string x.H.s, .int .i64 x.H.pc, .int .i64 x.H.cd, .int .i64 x.H.bk, .string x.H.tx, .slice x.p x.H.l.length x.c, .int .i64 x.H.txn]

theorem Hx.val (x : Hx) : Value.agg x.cells.toArray = hoV x.H x.p x.c := rfl

theorem hx_len (x : Hx) : x.cells.length = 16 := rfl
def hcell (L : List Hx) (i : Nat) : Value := (L.getD (i / 16) Hx.none).cells.getD (i % 16) undef
/-- A list of hosts, to be read. -/
def Hos (w : World) (a : Option Addr) (L : List Hx) : Prop := Sl w a (L.length * 16) (hcell L) ∧ ∀ x ∈ L, Ous w x.p x.H.l
/-- The same in blocks from B on, which may be written. -/
def HosW (w : World) (B : Nat) (a : Option Addr) (L : List Hx) : Prop := Wr w B a (L.length * 16) (hcell L) ∧ ∀ x ∈ L, OusW w B x.p x.H.l

theorem HosW.read {w : World} {B : Nat} {a : Option Addr} {L : List Hx} (h : HosW w B a L) : Hos w a L := ⟨h.1.sl, fun x hx => Wr.sl (h.2 x hx)⟩
theorem HosW.mono {w : World} {B B' : Nat} {a : Option Addr} {L : List Hx} (h : HosW w B a L) (hb : B' ≤ B) : HosW w B' a L := ⟨h.1.mono hb, fun x hx => Wr.mono (h.2 x hx) hb⟩
theorem Hos.below {w w' : World} {a : Option Addr} {L : List Hx} (h : Hos w a L) (b : Below w.heap.size w w') : Hos w' a L := ⟨h.1.below b, fun x hx => Sl.below (h.2 x hx) b⟩

/-- What lies from B on stays where only what lies ahead of it turns. -/
theorem Wr.over {w w' : World} {B : Nat} {a : Option Addr} {m : Nat} {f : Nat → Value} (h : Wr w B a m f) (k : Kept (fun b => b < B) w w') : Wr w' B a m f := h.move k (fun b hb => by have := h.foot_ge hb; omega)
theorem HosW.over {w w' : World} {B : Nat} {a : Option Addr} {L : List Hx} (h : HosW w B a L) (k : Kept (fun b => b < B) w w') : HosW w' B a L := ⟨Wr.over h.1 k, fun x hx => Wr.over (h.2 x hx) k⟩

theorem hcell_at (L : List Hx) (k j : Nat) (hj : j < 16) : hcell L (k * 16 + j) = (L.getD k Hx.none).cells.getD j undef := by
  unfold hcell
  rw [show (k * 16 + j) / 16 = k by omega, show (k * 16 + j) % 16 = j by omega]

/-- Host k, as a range of cells. -/
theorem Hos.range {w : World} {a : Option Addr} {L : List Hx} (h : Hos w a L) (k : Nat) (hk : k < L.length) : ∃ b off, a = some ⟨b, off, Option.none⟩ ∧ w.rangeAt b (off + k * 16) (L.getD k Hx.none).cells ∧ Ous w (L.getD k Hx.none).p (L.getD k Hx.none).H.l := by
  obtain ⟨b, off, rfl, _⟩ := h.1 (k * 16 + 0) (by omega)
  refine ⟨b, off, rfl, fun j v hv => ?_, h.2 _ (by simp [List.getD, hk])⟩
  have hj : j < 16 := by
    have := (List.getElem?_eq_some_iff.1 hv).1
    rwa [hx_len] at this
  obtain ⟨b1, off1, e1, h1⟩ := h.1 (k * 16 + j) (by omega)
  cases e1
  have e2 : (L.getD k Hx.none).cells.getD j undef = v := by rw [List.getD, hv]; rfl
  rw [hcell_at L k j hj, e2] at h1
  rw [Nat.add_assoc]
  exact h1

/-- What is left: a number below 0, or one not above what was, and all fits. -/
def FitH (r left : Int) (L : List Hx) : Prop := r < 0 ∨ (0 ≤ r ∧ r ≤ left ∧ (L.length : Int) ≤ left ∧ ∀ x ∈ L, x.H.Upto 1048576)

set_option maxRecDepth 100000 in
set_option maxHeartbeats 2000000 in
theorem szHostS (w : World) (a : Option Addr) (cap : Nat) (L : List Hx) (left : Int) (S : Hos w a L) (hl : L.length ≤ maxLen) (hs : ∀ x ∈ L, x.H.Upto maxLen) (h0 : 0 ≤ left) (h1 : left ≤ 1048576) :
    Calls Tryz.prog 10 #[.slice a L.length cap, .int .i64 left] w fun e w' => ∃ r, e = .returned (.int .i64 r) ∧ Below w.heap.size w w' ∧ FitH r left L := by
  unfold maxLen at hl
  have HS := hid S
  have Hs := hid hs
  clear S hs
  by_cases hb : left < (L.length : Int)
  · go_enter Tryz.func10, Tryz.ntmps10
    go_wp2
    go_ret
    exact ⟨_, rfl, Below.refl _ _, Or.inl (by decide)⟩
  go_enter Tryz.func10, Tryz.ntmps10
  go_wp2
  go_loopw [1, 5] (fun z i wr => ∃ (k : Nat) (m : Int), k ≤ L.length ∧ i = .int .i64 (k : Int) ∧ z = .int .i64 m ∧ 0 ≤ m ∧ m ≤ left ∧ Hid (∀ j, j < k → (L.getD j Hx.none).H.Upto 1048576) ∧ Hid (Below w.heap.size w wr)) (fun _ i _ => L.length - (intOf i).toNat)
  case atStart => exact ⟨0, left - L.length, Nat.zero_le _, rfl, rfl, by omega, by omega, fun j hj => by omega, Below.refl _ _⟩
  case round =>
    obtain ⟨k, m, hk, rfl, rfl, hm0, hm1, HJ, HB⟩ := hrel
    by_cases hlt : k < L.length
    · obtain ⟨b, off, rfl, hrg, hou⟩ := (HS.out.below HB.out).range k hlt
      have hx : (L.getD k Hx.none).H.Upto maxLen := Hs.out _ (by simp [List.getD, hlt])
      have HC := hid (szHost wr (L.getD k Hx.none).H (L.getD k Hx.none).p (L.getD k Hx.none).c m hou hx hm0 (by omega))
      rw [← Hx.val] at HC
      have HCl := hid (hx_len (L.getD k Hx.none))
      generalize (L.getD k Hx.none).cells = C at hrg HC HCl
      have HRG := hid hrg
      clear hx hou hrg
      go_upto_region 7 with fail
      apply wp_region_lit
      iterate 9 go_step
      refine wpList_load_mid rfl 95 _ rfl b (off + k * 16) rfl C _ HRG.out Tryz.underlying95 rfl (by rw [HCl.out]; kernel_rfl) ?_
      simp only [Act.put, List.setIfInBounds_toArray, List.set_cons_zero, List.set_cons_succ]
      generalize Value.agg C.toArray = V at HC ⊢
      go_wp2_with fail
      refine HC.out.mono ?_
      rintro e w1 ⟨r, rfl, b1, hf⟩
      have HB1 := hid (HB.out.trans (b1.mono HB.out.size))
      have HF := hid hf
      clear b1 hf HC
      by_cases hr : r < 0
      · go_wp2
        go_ret
        exact ⟨_, rfl, HB1.out, Or.inl (by decide)⟩
      · have hf : 0 ≤ r ∧ r ≤ m ∧ (L.getD k Hx.none).H.Upto 1048576 := by
          rcases HF.out with h | h
          · omega
          · exact h
        have hf1 := hf.1
        have hf2 := hf.2.1
        have HF2 := hid hf.2.2
        clear hf HF
        go_wp2
        exact ⟨⟨k + 1, r, by omega, by go_num, rfl, hf1, by omega, fun j hj => by
          by_cases h : j = k
          · subst h; exact HF2.out
          · exact HJ.out j (by omega), HB1⟩, by simp [intOf]; omega⟩
    · obtain rfl : k = L.length := by omega
      go_wp2
      go_ret
      refine ⟨_, rfl, HB.out, Or.inr ⟨hm0, hm1, by omega, fun x hx => ?_⟩⟩
      obtain ⟨j, hj, rfl⟩ := List.getElem_of_mem hx
      have := HJ.out j hj
      rwa [List.getD, List.getElem?_eq_getElem hj] at this

theorem infoHo : (Tryz.prog.info? 68).map (fun i => (i.zero, i.size, i.bytes)) = some (some (.agg Hx.none.cells.toArray), 16, 144) := by kernel_rfl

/-- What stands in the new row behind so many rounds. -/
def partH (L : List Hx) (i : Nat) : Value := if i < L.length * 16 then hcell L i else Hx.none.cells.getD (i % 16) undef

theorem partH_succ (L : List Hx) (y : Hx) (j : Nat) : (if L.length * 16 ≤ j ∧ j < L.length * 16 + y.cells.length then y.cells.getD (j - L.length * 16) undef else partH L j) = partH (L ++ [y]) j := by
  rw [hx_len]
  unfold partH
  by_cases h : L.length * 16 ≤ j ∧ j < L.length * 16 + 16
  · rw [if_pos h, if_pos (by simp; omega)]
    obtain ⟨i, rfl⟩ : ∃ i, j = L.length * 16 + i := ⟨j - L.length * 16, by omega⟩
    rw [hcell_at _ _ i (by omega), Nat.add_sub_cancel_left]
    simp [List.getD]
  · by_cases h2 : j < L.length * 16
    · rw [if_neg h, if_pos h2, if_pos (by simp; omega)]
      unfold hcell
      have : (L ++ [y]).getD (j / 16) Hx.none = L.getD (j / 16) Hx.none := by
        rw [List.getD, List.getD, List.getElem?_append_left (by omega)]
      rw [this]
    · rw [if_neg h, if_neg h2, if_neg (by simp; omega)]

set_option maxRecDepth 100000 in
set_option maxHeartbeats 2000000 in
theorem toHostS (w : World) (a : Option Addr) (cap : Nat) (L : List Hx) (S : Hos w a L) (hl : L.length ≤ 1048576) (hs : ∀ x ∈ L, x.H.l.length ≤ 1048576) :
    Calls Tryz.prog 19 #[.slice a L.length cap] w fun e w' => ∃ g L', e = .returned (.slice (some ⟨g, 0, Option.none⟩) (L' : List Hx).length L'.length) ∧ L'.map (·.H) = L.map (·.H) ∧ w.heap.size ≤ g ∧ g < w'.heap.size ∧ HosW w' w.heap.size (some ⟨g, 0, Option.none⟩) L' ∧ Below w.heap.size w w' := by
  have hmk := make_rows (P := Tryz.prog) 37 68 (.agg Hx.none.cells.toArray) 16 144 Tryz.underlying37 infoHo .i64 .i64 L.length (by omega) (by omega)
  have HS := hid S
  have Hs := hid hs
  have hw0 := wr_new w (madeCells (Value.agg Hx.none.cells.toArray).cells (L.length * 16)) 68 (L.length * 16) (partH []) (fun i hi => by
    simp [madeCells, hi, partH, Hx.none, Ho.none, Hx.cells, Value.cells]
    have : i % 16 = 0 ∨ i % 16 = 1 ∨ i % 16 = 2 ∨ i % 16 = 3 ∨ i % 16 = 4 ∨ i % 16 = 5 ∨ i % 16 = 6 ∨ i % 16 = 7 ∨ i % 16 = 8 ∨ i % 16 = 9 ∨ i % 16 = 10 ∨ i % 16 = 11 ∨ i % 16 = 12 ∨ i % 16 = 13 ∨ i % 16 = 14 ∨ i % 16 = 15 := by omega
    rcases this with h | h | h | h | h | h | h | h | h | h | h | h | h | h | h | h <;> simp [h])
  generalize madeCells (Value.agg Hx.none.cells.toArray).cells (L.length * 16) = cur at hmk hw0
  have HW := hid hw0
  clear S hs hw0
  go_enter Tryz.func19, Tryz.ntmps19
  go_wp2
  go_loopw [4] (fun i wr => ∃ (k : Nat) (L' : List Hx), k ≤ L.length ∧ i = .int .i64 (k : Int) ∧ w.heap.size < wr.heap.size ∧ Hid (L'.length = k) ∧ Hid (L'.map (·.H) = (L.take k).map (·.H)) ∧ Hid (Wr wr w.heap.size (some ⟨w.heap.size, 0, Option.none⟩) (L.length * 16) (partH L')) ∧ Hid (∀ x ∈ L', OusW wr (w.heap.size + 1) x.p x.H.l) ∧ Hid (Below w.heap.size w wr)) (fun i _ => L.length - (intOf i).toNat)
  case atStart => exact ⟨0, [], Nat.zero_le _, rfl, lt_alloc _ _, rfl, rfl, HW, (by intro x hx; cases hx), (Below.refl _ _).alloc (Nat.le_refl _) _⟩
  case round =>
    obtain ⟨k, L', hk, rfl, hsz, HL, HM, HW', HO, HB⟩ := hrel
    by_cases hlt : k < L.length
    · obtain ⟨b, off, rfl, hrg, hou⟩ := (HS.out.below HB.out).range k hlt
      have hx : (L.getD k Hx.none).H.l.length ≤ 1048576 := Hs.out _ (by simp [List.getD, hlt])
      have HC := hid (toHost wr (L.getD k Hx.none).H (L.getD k Hx.none).p (L.getD k Hx.none).c hou hx)
      rw [← Hx.val] at HC
      have HT : Hid ((L.take (k + 1)).map (·.H) = (L.take k).map (·.H) ++ [(L.getD k Hx.none).H]) := by
        show _ = _
        rw [List.take_add_one, List.map_append, List.getElem?_eq_getElem hlt]
        simp [List.getD, List.getElem?_eq_getElem hlt]
      have HCl := hid (hx_len (L.getD k Hx.none))
      generalize (L.getD k Hx.none).cells = C at hrg HC HCl
      generalize (L.getD k Hx.none).H = J at HC HT
      have HRG := hid hrg
      clear hx hou hrg
      go_upto_region 5 with fail
      apply wp_region_lit
      iterate 15 go_step
      refine wpList_load_mid rfl 95 _ rfl b (off + k * 16) rfl C _ HRG.out Tryz.underlying95 rfl (by rw [HCl.out]; kernel_rfl) ?_
      simp only [Act.put, List.setIfInBounds_toArray, List.set_cons_zero, List.set_cons_succ]
      generalize Value.agg C.toArray = V at HC ⊢
      go_wp2_with fail
      refine HC.out.mono ?_
      rintro e w1 ⟨g, rfl, hg, hg1, S1, hb1⟩
      have HW1 := hid (HW'.out.below hb1)
      have HB1 := hid (HB.out.trans (hb1.mono (Nat.le_of_lt hsz)))
      have hsz1 : w.heap.size < w1.heap.size := Nat.lt_of_lt_of_le hsz hb1.size
      have HO1 : Hid (∀ x ∈ L' ++ [(⟨J, some ⟨g, 0, Option.none⟩, J.l.length⟩ : Hx)], OusW w1 (w.heap.size + 1) x.p x.H.l) := fun x hx => by
        rcases List.mem_append.1 hx with h | h
        · exact Wr.below (HO.out x h) hb1
        · rw [List.mem_singleton] at h
          subst h
          exact Wr.mono S1 (by omega)
      clear hb1 HC S1 hg hg1
      have hcell' : ∀ j, j < 16 → (w1.cell? ⟨w.heap.size, k * 16 + j, Option.none⟩).isSome ∧ w1.frozen? ⟨w.heap.size, k * 16 + j, Option.none⟩ = false := fun j hj => by
        obtain ⟨b', off', e', _, hc', hz'⟩ := HW1.out (k * 16 + j) (by omega)
        cases e'
        rw [Nat.zero_add] at hc' hz'
        exact ⟨by rw [hc']; rfl, hz'⟩
      obtain ⟨y, hy, hyH⟩ : ∃ y : Hx, y = ⟨J, some ⟨g, 0, Option.none⟩, J.l.length⟩ ∧ y.H = J := ⟨_, rfl, rfl⟩
      have hyV : hoV J (some ⟨g, 0, Option.none⟩) J.l.length = .agg y.cells.toArray := by rw [Hx.val, hy]
      rw [← hy] at HO1
      dsimp only
      rw [hyV]
      clear hyV hy
      iterate 4 go_step
      refine wpList_store_mid rfl 68 _ _ rfl w.heap.size (k * 16) y.cells.toArray rfl rfl (fun j hj => hcell' j (by simpa [Hx.cells] using hj)) (by kernel_rfl) (all_oneCell_toArray (fun v hv => List.all_eq_true.1 (show y.cells.all (·.oneCell') = true from rfl) v hv)) ?_
      clear hcell'
      obtain ⟨w2, hw2, HW2, HB2, hsz2, HO2⟩ : ∃ w2, w1.setCells w.heap.size (k * 16) y.cells.toArray.toList = w2 ∧ Hid (Wr w2 w.heap.size (some ⟨w.heap.size, 0, Option.none⟩) (L.length * 16) (partH (L' ++ [y]))) ∧ Hid (Below w.heap.size w w2) ∧ w.heap.size < w2.heap.size ∧ Hid (∀ x ∈ L' ++ [y], OusW w2 (w.heap.size + 1) x.p x.H.l) := by
        refine ⟨puts w1 w.heap.size (k * 16) y.cells, (puts_setCells _ _ _ _).symm, ?_, puts_below HB1.out (Nat.le_refl _) _ _, by rw [puts_size]; exact hsz1, fun x hx => Wr.over (HO1.out x hx) ((puts_kept _ _ _ _).mono (fun b _ h => by omega))⟩
        have h2 := wr_puts y.cells w1 _ 0 (k * 16) HW1.out (by rw [hx_len]; omega)
        rw [Nat.zero_add] at h2
        exact h2.congr (fun j _ => by rw [← partH_succ, HL.out])
      rw [hw2]
      clear hw2
      generalize Value.agg y.cells.toArray = V2
      go_wp2
      refine ⟨⟨k + 1, L' ++ [y], by omega, by go_num, hsz2, ?_, ?_, HW2, HO2, HB2⟩, by simp [intOf]; omega⟩
      · show (L' ++ [y]).length = k + 1
        have := HL.out
        simp; omega
      · show (L' ++ [y]).map (·.H) = _
        rw [HT.out, ← HM.out, List.map_append]
        simp [hyH]
    · obtain rfl : k = L.length := by omega
      have hle := HL.out
      go_wp2
      go_ret
      refine ⟨w.heap.size, L', by rw [HL.out]; rfl, by rw [HM.out, List.take_of_length_le (Nat.le_refl _)], Nat.le_refl _, hsz, ⟨?_, fun x hx => Wr.mono (HO.out x hx) (by omega)⟩, HB.out⟩
      rw [HL.out]
      exact HW'.out.congr (fun i hi => by unfold partH; rw [if_pos (by rw [HL.out]; exact hi)])

theorem call_eqHost (vs : Array Value) (w : World) : (callFunc 66 vs).run Tryz.prog w = .ok (.enter 66 vs) w := by simp [go_sem]

set_option maxRecDepth 100000 in
set_option maxHeartbeats 2000000 in
theorem eqHostS (w : World) (a b : Option Addr) (ca cb : Nat) (L M : List Hx) (S : Hos w a L) (T : Hos w b M) (hm : L.map (·.H) = M.map (·.H)) (hl : L.length ≤ maxLen) (hs : ∀ x ∈ L, x.H.l.length ≤ maxLen) :
    Calls Tryz.prog 30 #[.slice a L.length ca, .slice b M.length cb] w fun e w' => e = .returned (.bool true) ∧ Below w.heap.size w w' := by
  unfold maxLen at hl
  have HS := hid S
  have HT := hid T
  have Hs := hid hs
  have HM := hid hm
  have hlm : M.length = L.length := by have := congrArg List.length hm; simpa using this.symm
  clear S T hs hm
  rw [hlm]
  go_enter Tryz.func30, Tryz.ntmps30
  go_wp2
  go_loopw [5] (fun i wr => ∃ k : Nat, k ≤ L.length ∧ i = .int .i64 (k : Int) ∧ Hid (Below w.heap.size w wr)) (fun i _ => L.length - (intOf i).toNat)
  case atStart => exact ⟨0, Nat.zero_le _, rfl, Below.refl _ _⟩
  case round =>
    obtain ⟨k, hk, rfl, HB⟩ := hrel
    by_cases hlt : k < L.length
    · obtain ⟨b1, o1, rfl, r1, u1⟩ := (HS.out.below HB.out).range k hlt
      obtain ⟨b2, o2, rfl, r2, u2⟩ := (HT.out.below HB.out).range k (by omega)
      have hx : (L.getD k Hx.none).H.l.length ≤ maxLen := Hs.out _ (by simp [List.getD, hlt])
      have he : (M.getD k Hx.none).H = (L.getD k Hx.none).H := by
        have h1 := congrArg (fun l => l[k]?) HM.out
        have hlt2 : k < M.length := by omega
        simp [hlt, hlt2] at h1
        simp [List.getD, hlt, hlt2, h1]
      have HC := hid (fun (u : World) (hu : Below wr.heap.size wr u) => eqHost u (L.getD k Hx.none).H (L.getD k Hx.none).p (M.getD k Hx.none).p (L.getD k Hx.none).c (M.getD k Hx.none).c (Sl.below u1 hu) (Sl.below (he ▸ u2) hu) hx)
      rw [show hoV (L.getD k Hx.none).H (M.getD k Hx.none).p (M.getD k Hx.none).c = .agg (M.getD k Hx.none).cells.toArray by rw [Hx.val, he], ← Hx.val] at HC
      have HL1 := hid (hx_len (L.getD k Hx.none))
      have HL2 := hid (hx_len (M.getD k Hx.none))
      generalize (L.getD k Hx.none).cells = C1 at r1 HC HL1
      generalize (M.getD k Hx.none).cells = C2 at r2 HC HL2
      have HR1 := hid r1
      have HR2 := hid r2
      clear r1 r2 u1 u2 he hx
      go_upto_region 6 with fail
      refine region_grow (val := fun i => [.slice (some ⟨b1, o1, Option.none⟩) L.length ca, .int .i64 (k : Int), .pointer (some ⟨b1, o1 + k * 16, Option.none⟩), .agg (List.toArray C1), .slice (some ⟨b2, o2, Option.none⟩) L.length cb, .int .i64 (k : Int), .pointer (some ⟨b2, o2 + k * 16, Option.none⟩), .agg (List.toArray C2), .bool true, .bool false].getD i undef) (sp := fun _ => Option.none) true (by kernel_rfl) (by kernel_rfl) [some 17, some 18, some 19, some 20, some 21, some 22, some 23, some 24, some 25, some 26] (by kernel_rfl) (fun _ _ h => by cases h) ?_ (fun v w hb hG => ?_)
      · refine ⟨gVal rfl (.inl ⟨rfl, rfl⟩) rfl (fun Lb v act wr K => by
          have e1 : act.eval (.tmp 0) = .slice (some ⟨b1, o1, Option.none⟩) L.length ca := (K.off (x := .tmp 0) (by kernel_rfl)).trans rfl
          exact run_move _ rfl e1), ?_⟩
        refine ⟨gVal rfl (.inl ⟨rfl, rfl⟩) rfl (fun Lb v act wr K => by
          have e1 : act.eval (.tmp 5) = .int .i64 (k : Int) := (K.off (x := .tmp 5) (by kernel_rfl)).trans rfl
          exact run_move _ rfl e1), ?_⟩
        refine ⟨gVal rfl (.inl ⟨rfl, rfl⟩) rfl (fun Lb v act wr K => by
          have e1 : act.eval (.tmp 17) = .slice (some ⟨b1, o1, Option.none⟩) L.length ca := K.at_val 0 (by kernel_rfl) (by kernel_rfl) rfl
          have e2 : act.eval (.tmp 18) = .int .i64 (k : Int) := K.at_val 1 (by kernel_rfl) (by kernel_rfl) rfl
          show (execOp act.eval _).run Tryz.prog wr = .ok (.value (.pointer (some ⟨b1, o1 + k * 16, Option.none⟩))) wr
          generalize act.eval = ρ at e1 e2 ⊢
          unfold execOp
          simp [go_sem, e1, e2, hlt]), ?_⟩
        refine ⟨gVal rfl (.inl ⟨rfl, rfl⟩) rfl (fun Lb v act wr K => run_load_at 68 (.tmp 19) rfl _ _ ((K.at_val 2 (by kernel_rfl) (by kernel_rfl) rfl)) _ (rangeAt_below HR1.out K.bel) _ Tryz.underlying68 rfl (by rw [HL1.out]; kernel_rfl)), ?_⟩
        refine ⟨gVal rfl (.inl ⟨rfl, rfl⟩) rfl (fun Lb v act wr K => by
          have e1 : act.eval (.tmp 1) = .slice (some ⟨b2, o2, Option.none⟩) L.length cb := (K.off (x := .tmp 1) (by kernel_rfl)).trans rfl
          exact run_move _ rfl e1), ?_⟩
        refine ⟨gVal rfl (.inl ⟨rfl, rfl⟩) rfl (fun Lb v act wr K => by
          have e1 : act.eval (.tmp 5) = .int .i64 (k : Int) := (K.off (x := .tmp 5) (by kernel_rfl)).trans rfl
          exact run_move _ rfl e1), ?_⟩
        refine ⟨gVal rfl (.inl ⟨rfl, rfl⟩) rfl (fun Lb v act wr K => by
          have e1 : act.eval (.tmp 21) = .slice (some ⟨b2, o2, Option.none⟩) L.length cb := K.at_val 4 (by kernel_rfl) (by kernel_rfl) rfl
          have e2 : act.eval (.tmp 22) = .int .i64 (k : Int) := K.at_val 5 (by kernel_rfl) (by kernel_rfl) rfl
          show (execOp act.eval _).run Tryz.prog wr = .ok (.value (.pointer (some ⟨b2, o2 + k * 16, Option.none⟩))) wr
          generalize act.eval = ρ at e1 e2 ⊢
          unfold execOp
          simp [go_sem, e1, e2, hlt]), ?_⟩
        refine ⟨gVal rfl (.inl ⟨rfl, rfl⟩) rfl (fun Lb v act wr K => run_load_at 68 (.tmp 23) rfl _ _ ((K.at_val 6 (by kernel_rfl) (by kernel_rfl) rfl)) _ (rangeAt_below HR2.out K.bel) _ Tryz.underlying68 rfl (by rw [HL2.out]; kernel_rfl)), ?_⟩
        refine ⟨gCall rfl (.inl ⟨rfl, rfl⟩) 66 #[.tmp 20, .tmp 24] _ (fun _ => #[.agg (List.toArray C1), .agg (List.toArray C2)]) rfl call_eqHost (fun Lb v act wr K => by
          have e1 : act.eval (.tmp 20) = .agg (List.toArray C1) := K.at_val 3 (by kernel_rfl) (by kernel_rfl) rfl
          have e2 : act.eval (.tmp 24) = .agg (List.toArray C2) := K.at_val 7 (by kernel_rfl) (by kernel_rfl) rfl
          simp only [List.map_toArray, List.map_cons, List.map_nil, e1, e2]) (fun v w hb hs => (HC.out w hb).mono (fun e w' ⟨h1, h2⟩ => ⟨_, h1, h2, rfl⟩)), ?_⟩
        refine ⟨gVal rfl (.inl ⟨rfl, rfl⟩) rfl (fun Lb v act wr K => by
          have e1 : act.eval (.tmp 25) = .bool true := K.at_val 8 (by kernel_rfl) (by kernel_rfl) rfl
          show (execOp act.eval _).run Tryz.prog wr = .ok (.value (.bool false)) wr
          generalize act.eval = ρ at e1 ⊢
          unfold execOp
          simp [go_sem, e1]), ?_⟩
        exact trivial
      have e9 : v 9 = .bool false := hG 9 (by show 9 < 10; decide)
      have HU := hid (HB.out.trans (hb.mono HB.out.size))
      clear hG hb
      simp only [Rg.putsAll, Act.put, List.setIfInBounds_toArray, List.set_cons_zero, List.set_cons_succ, e9]
      clear e9
      go_wp2
      exact ⟨⟨k + 1, by omega, by go_num, HU⟩, by simp [intOf]; omega⟩
    · obtain rfl : k = L.length := by omega
      go_wp2
      go_ret
      exact ⟨rfl, HB.out⟩

section
variable {H : Type} {enc : TypeId × Value → H} {W : World} {base : Nat} {spare : Nat → Bool} {held : Bool}

set_option maxRecDepth 100000 in
theorem hx_cells_in {fuel : Nat} {cs : List Value} {x : DataW H × List MemPlace} (h : DataW.trod enc Tryz.prog W base spare held fuel 95 cs = some x) :
    ∃ y : Hx, cs = y.cells ∧ Ous W y.p y.H.l ∧ y.H.Upto maxLen := by
  have c16 : Tryz.prog.cellsOf 95 = 16 := by kernel_rfl
  have cO : Tryz.prog.cellsOf 90 = 5 := by kernel_rfl
  have cP : Tryz.prog.cellsOf 93 = 4 := by kernel_rfl
  have cB : Tryz.prog.cellsOf 4 = 1 := by kernel_rfl
  obtain ⟨xs, n, _, rfl, hl, hlen, hf⟩ := DataW.trod_struct Tryz.underlying95 h
  rw [c16] at hl
  match xs, hlen, cs, hl with
  | [y0, y1, y2, y3, y4, y5, y6, y7, y8], _, [v0, v1, v2, v3, v4, v5, v6, v7, v8, v9, v10, v11, v12, v13, v14, v15], _ =>
    have f0 : DataW.trod enc Tryz.prog W base spare held n 3 [v0] = some y0 := by simpa [cInt, Value.cells] using hf 0 _ rfl
    have f1 : DataW.trod enc Tryz.prog W base spare held n 3 [v1] = some y1 := by simpa [cInt, Value.cells] using hf 1 _ rfl
    have f2 : DataW.trod enc Tryz.prog W base spare held n 4 [v2] = some y2 := by simpa [cInt, cB, Value.cells] using hf 2 _ rfl
    have f3 : DataW.trod enc Tryz.prog W base spare held n 4 [v3] = some y3 := by simpa [cInt, cB, Value.cells] using hf 3 _ rfl
    have f4 : DataW.trod enc Tryz.prog W base spare held n 4 [v4] = some y4 := by simpa [cInt, cB, Value.cells] using hf 4 _ rfl
    have f5 : DataW.trod enc Tryz.prog W base spare held n 90 [v5, v6, v7, v8, v9] = some y5 := by simpa [cInt, cB, cO, Value.cells] using hf 5 _ rfl
    have f6 : DataW.trod enc Tryz.prog W base spare held n 3 [v10] = some y6 := by simpa [cInt, cB, cO, Value.cells] using hf 6 _ rfl
    have f7 : DataW.trod enc Tryz.prog W base spare held n 93 [v11, v12, v13, v14] = some y7 := by simpa [cInt, cB, cO, cP, Value.cells] using hf 7 _ rfl
    have f8 : DataW.trod enc Tryz.prog W base spare held n 3 [v15] = some y8 := by simpa [cInt, cB, cO, cP, Value.cells] using hf 8 _ rfl
    obtain ⟨n0, e0, _, _⟩ := DataW.trod_int Tryz.underlying3 f0
    obtain ⟨n1, e1, _, _⟩ := DataW.trod_int Tryz.underlying3 f1
    obtain ⟨b2, e2, _⟩ := DataW.trod_bool Tryz.underlying4 f2
    obtain ⟨b3, e3, _⟩ := DataW.trod_bool Tryz.underlying4 f3
    obtain ⟨b4, e4, _⟩ := DataW.trod_bool Tryz.underlying4 f4
    obtain ⟨k, v, t, at_, s, e5, hs⟩ := op_in f5
    obtain ⟨n6, e6, _, _⟩ := DataW.trod_int Tryz.underlying3 f6
    obtain ⟨cd, bk, tx, a, cap, l, e7, S, ht, hm, he⟩ := plan_in f7
    obtain ⟨n8, e8, _, _⟩ := DataW.trod_int Tryz.underlying3 f8
    simp only [List.cons.injEq, and_true] at e0 e1 e2 e3 e4 e5 e6 e7 e8
    obtain ⟨rfl, rfl, rfl, rfl, rfl⟩ := e5
    obtain ⟨rfl, rfl, rfl, rfl⟩ := e7
    subst e0; subst e1; subst e2; subst e3; subst e4; subst e6; subst e8
    exact ⟨⟨⟨n0, n1, b2, b3, b4, k, v, t, at_, s, n6, cd, bk, tx, l, n8⟩, a, cap⟩, rfl, S, ⟨hs, ht, hm, he⟩⟩

set_option maxRecDepth 100000 in
/-- Hosts that came in. -/
theorem hos_in {fuel : Nat} {v : Value} {x : DataW H × List MemPlace} (h : DataW.trod enc Tryz.prog W base spare held fuel 27 [v] = some x) :
    ∃ a cap L, v = .slice a (L : List Hx).length cap ∧ Hos W a L ∧ L.length ≤ maxLen ∧ ∀ y ∈ L, y.H.Upto maxLen := by
  have c2 : Tryz.prog.cellsOf 95 = 16 := by kernel_rfl
  rcases open_slice Tryz.underlying27 h with ⟨hcs, _⟩ | ⟨a, len, cap, m, n, D, Pl, hcs, _, hl, hm, hmm, _, hx⟩
  · simp only [List.cons.injEq, and_true] at hcs
    exact ⟨Option.none, 0, [], hcs, ⟨fun i hi => by simp at hi, by simp⟩, by simp, by simp⟩
  · simp only [List.cons.injEq, and_true] at hcs
    have hlm : len ≤ m := by rw [hmm]; split <;> omega
    have each : ∀ i, ∃ y : Hx, i < len → W.cells? base (a.add (i * 16)) 16 = some y.cells ∧ Ous W y.p y.H.l ∧ y.H.Upto maxLen := fun i => by
      by_cases hi : i < len
      · obtain ⟨cs', hc, ht⟩ := hx i (by omega)
        rw [c2] at hc
        obtain ⟨y, rfl, hy⟩ := hx_cells_in ht
        exact ⟨y, fun _ => ⟨hc, hy⟩⟩
      · exact ⟨Hx.none, fun h => absurd h hi⟩
    obtain ⟨Y, hY⟩ := Classical.axiomOfChoice each
    refine ⟨some a, cap, (List.range len).map Y, by rw [hcs]; simp, ⟨?_, ?_⟩, by simp; omega, ?_⟩
    · rw [List.length_map, List.length_range]
      refine Pk.sl_of_add (fun i hi => ?_)
      have hq : i / 16 < len := by omega
      have hc := (World.cells?_some (hY (i / 16) hq).1).2.2 (i % 16) (by omega)
      rw [Addr.add_add, show i / 16 * 16 + i % 16 = i by omega] at hc
      rw [hc]
      unfold hcell
      have e : ((List.range len).map Y).getD (i / 16) Hx.none = Y (i / 16) := by simp [List.getD, hq]
      rw [e]
      have : i % 16 = 0 ∨ i % 16 = 1 ∨ i % 16 = 2 ∨ i % 16 = 3 ∨ i % 16 = 4 ∨ i % 16 = 5 ∨ i % 16 = 6 ∨ i % 16 = 7 ∨ i % 16 = 8 ∨ i % 16 = 9 ∨ i % 16 = 10 ∨ i % 16 = 11 ∨ i % 16 = 12 ∨ i % 16 = 13 ∨ i % 16 = 14 ∨ i % 16 = 15 := by omega
      rcases this with h | h | h | h | h | h | h | h | h | h | h | h | h | h | h | h <;> rw [h] <;> rfl
    · intro s hs
      obtain ⟨i, hi, rfl⟩ := List.mem_map.1 hs
      exact (hY i (List.mem_range.1 hi)).2.1
    · intro s hs
      obtain ⟨i, hi, rfl⟩ := List.mem_map.1 hs
      exact (hY i (List.mem_range.1 hi)).2.2

end

end Go.Proofs.YtogebppolkfldaaGreatDoor.Pl

namespace Go.Proofs.YtogebppolkfldaaGreatDoor.Pl
open Go.RowKit Go.ChangeShapes Go.WideShapes Go.ChangeAt Go.Joins Go.Deep
open Go.Proofs.YtogebppolkfldaaGreatDoor.Mem
set_option linter.unusedVariables false

/-- The marks in a list of events. -/
def mkE (k i : Nat) : Value := if i % 7 = 6 then .string (markS (k + i)) else .int .i64 ((k + i : Nat) : Int)

def msE (f : Nat → Value) (k j i : Nat) : Value := if i < j * 7 then mkE k i else f i

theorem msE_succ (f : Nat → Value) (k j : Nat) (i : Nat) : (if i = j * 7 + 6 then Value.string (markS (k + (j * 7 + 6))) else if i = j * 7 + 5 then Value.int .i64 ((k + (j * 7 + 5) : Nat) : Int) else if i = j * 7 + 4 then Value.int .i64 ((k + (j * 7 + 4) : Nat) : Int) else if i = j * 7 + 3 then Value.int .i64 ((k + (j * 7 + 3) : Nat) : Int) else if i = j * 7 + 2 then Value.int .i64 ((k + (j * 7 + 2) : Nat) : Int) else if i = j * 7 + 1 then Value.int .i64 ((k + (j * 7 + 1) : Nat) : Int) else if i = j * 7 then Value.int .i64 ((k + (j * 7) : Nat) : Int) else msE f k j i) = msE f k (j + 1) i := by
  unfold msE mkE
  by_cases h6 : i = j * 7 + 6
  · subst h6
    rw [if_pos rfl, if_pos (by omega), if_pos (by omega)]
  rw [if_neg h6]
  by_cases h5 : i = j * 7 + 5
  · subst h5
    rw [if_pos rfl, if_pos (by omega), if_neg (by omega)]
  rw [if_neg h5]
  by_cases h4 : i = j * 7 + 4
  · subst h4
    rw [if_pos rfl, if_pos (by omega), if_neg (by omega)]
  rw [if_neg h4]
  by_cases h3 : i = j * 7 + 3
  · subst h3
    rw [if_pos rfl, if_pos (by omega), if_neg (by omega)]
  rw [if_neg h3]
  by_cases h2 : i = j * 7 + 2
  · subst h2
    rw [if_pos rfl, if_pos (by omega), if_neg (by omega)]
  rw [if_neg h2]
  by_cases h1 : i = j * 7 + 1
  · subst h1
    rw [if_pos rfl, if_pos (by omega), if_neg (by omega)]
  rw [if_neg h1]
  by_cases h0 : i = j * 7
  · subst h0
    rw [if_pos rfl, if_pos (by omega), if_neg (by omega)]
  rw [if_neg h0]
  by_cases h : i < j * 7
  · rw [if_pos h, if_pos (show i < (j + 1) * 7 by omega)]
  · rw [if_neg h, if_neg (show ¬ i < (j + 1) * 7 by omega)]

variable {H : Type} {enc : TypeId × Value → H} {W : World} {base : Nat} {spare : Nat → Bool} {held : Bool}

set_option maxRecDepth 100000 in
theorem ev_cells_in {fuel : Nat} {cs : List Value} {x : DataW H × List MemPlace} (h : DataW.trod enc Tryz.prog W base spare held fuel 98 cs = some x) :
    ∃ y : Ev, cs = y.cells ∧ y.s.size ≤ maxLen := by
  obtain ⟨xs, n, _, rfl, hl, hlen, hf⟩ := DataW.trod_struct Tryz.underlying98 h
  have c7 : Tryz.prog.cellsOf 98 = 7 := by kernel_rfl
  have cO : Tryz.prog.cellsOf 90 = 5 := by kernel_rfl
  rw [c7] at hl
  match xs, hlen, cs, hl with
  | [y0, y1, y2], _, [v0, v1, v2, v3, v4, v5, v6], _ =>
    have f0 : DataW.trod enc Tryz.prog W base spare held n 3 [v0] = some y0 := by simpa [cInt] using hf 0 _ rfl
    have f1 : DataW.trod enc Tryz.prog W base spare held n 3 [v1] = some y1 := by simpa [cInt] using hf 1 _ rfl
    have f2 : DataW.trod enc Tryz.prog W base spare held n 90 [v2, v3, v4, v5, v6] = some y2 := by simpa [cInt, cO] using hf 2 _ rfl
    obtain ⟨n0, e0, _, _⟩ := DataW.trod_int Tryz.underlying3 f0
    obtain ⟨n1, e1, _, _⟩ := DataW.trod_int Tryz.underlying3 f1
    obtain ⟨k, v, t, a, s, e2, hs⟩ := op_in f2
    simp only [List.cons.injEq, and_true] at e0 e1 e2
    obtain ⟨r2, r3, r4, r5, r6⟩ := e2
    subst e0; subst e1; subst r2; subst r3; subst r4; subst r5; subst r6
    exact ⟨⟨n0, n1, k, v, t, a, s⟩, rfl, hs⟩

set_option maxRecDepth 100000 in
/-- A log that came in. -/
theorem evs_in {fuel : Nat} {v : Value} {x : DataW H × List MemPlace} (h : DataW.trod enc Tryz.prog W base spare held fuel 28 [v] = some x) :
    ∃ a cap l, v = .slice a (l : List Ev).length cap ∧ Evs W a l ∧ l.length ≤ maxLen ∧ ∀ y ∈ l, y.s.size ≤ maxLen := by
  have c2 : Tryz.prog.cellsOf 98 = 7 := by kernel_rfl
  rcases open_slice Tryz.underlying28 h with ⟨hcs, _⟩ | ⟨a, len, cap, m, n, D, Pl, hcs, _, hl, hm, hmm, _, hx⟩
  · simp only [List.cons.injEq, and_true] at hcs
    exact ⟨none, 0, [], hcs, fun i hi => by simp at hi, by simp, by simp⟩
  · simp only [List.cons.injEq, and_true] at hcs
    have hlm : len ≤ m := by rw [hmm]; split <;> omega
    have each : ∀ i, ∃ y : Ev, i < len → W.cells? base (a.add (i * 7)) 7 = some y.cells ∧ y.s.size ≤ maxLen := fun i => by
      by_cases hi : i < len
      · obtain ⟨cs', hc, ht⟩ := hx i (by omega)
        rw [c2] at hc
        obtain ⟨y, rfl, hy⟩ := ev_cells_in ht
        exact ⟨y, fun _ => ⟨hc, hy⟩⟩
      · exact ⟨Ev.none, fun h => absurd h hi⟩
    obtain ⟨Y, hY⟩ := Classical.axiomOfChoice each
    refine ⟨some a, cap, (List.range len).map Y, by rw [hcs]; simp, ?_, by simp; omega, ?_⟩
    · unfold Evs
      rw [List.length_map, List.length_range]
      refine Pk.sl_of_add (fun i hi => ?_)
      have hq : i / 7 < len := by omega
      have hc := (World.cells?_some (hY (i / 7) hq).1).2.2 (i % 7) (by omega)
      rw [Addr.add_add, show i / 7 * 7 + i % 7 = i by omega] at hc
      rw [hc]
      unfold evcell
      have e : ((List.range len).map Y).getD (i / 7) Ev.none = Y (i / 7) := by simp [List.getD, hq]
      rw [e]
      have : i % 7 = 0 ∨ i % 7 = 1 ∨ i % 7 = 2 ∨ i % 7 = 3 ∨ i % 7 = 4 ∨ i % 7 = 5 ∨ i % 7 = 6 := by omega
      rcases this with h | h | h | h | h | h | h <;> rw [h] <;> rfl
    · intro s hs
      obtain ⟨i, hi, rfl⟩ := List.mem_map.1 hs
      exact (hY i (List.mem_range.1 hi)).2

end Go.Proofs.YtogebppolkfldaaGreatDoor.Pl

namespace Go.Proofs.YtogebppolkfldaaGreatDoor.Mem
open Go.RowKit Classical
set_option linter.unusedVariables false

set_option maxRecDepth 100000 in
set_option maxHeartbeats 1000000 in
theorem eqWriteS (w : World) (a b : Option Addr) (ca cb : Nat) (l m : List Wt) (S : Wts w a l) (T : Wts w b m) (hl : l.length ≤ maxLen) (hm : m.length ≤ maxLen) :
    Calls Tryz.prog 65 #[.slice a l.length ca, .slice b m.length cb] w fun e w' => e = .returned (.bool (decide (l = m))) ∧ Below w.heap.size w w' := by
  unfold maxLen at hl hm
  have HS := hid S
  have HT := hid T
  clear S T
  by_cases hne : l.length = m.length
  · have Hne := hid hne
    rw [← hne]
    clear hne hm
    generalize hq : decide (l = m) = q
    have HQ := hid hq
    clear hq
    go_enter Tryz.func65, Tryz.ntmps65
    go_wp2
    go_loopw [5] (fun i wr => ∃ k : Nat, k ≤ l.length ∧ i = .int .i64 (k : Int) ∧ Hid (∀ j, j < k → l.getD j Wt.none = m.getD j Wt.none) ∧ Hid (Below w.heap.size w wr)) (fun i _ => l.length - (intOf i).toNat)
    case atStart => exact ⟨0, Nat.zero_le _, rfl, fun j hj => by omega, Below.refl _ _⟩
    case round =>
      obtain ⟨k, hk, rfl, HJ, HB⟩ := hrel
      by_cases hlt : k < l.length
      · obtain ⟨b1, o1, rfl, c0, c1, c2, c3⟩ := Wts.at_ (HS.out.below HB.out) k hlt
        obtain ⟨b2, o2, rfl, d0, d1, d2, d3⟩ := Wts.at_ (HT.out.below HB.out) k (Hne.out ▸ hlt)
        generalize hx : l.getD k Wt.none = x at c0 c1 c2 c3
        generalize hy : m.getD k Wt.none = y at d0 d1 d2 d3
        have HX := hid hx
        have HY := hid hy
        clear hx hy
        by_cases he : x = y
        · have he' := decide_eq_true he
          have HE := hid he
          clear he
          go_wp2
          go_region_with (go_at_call 103; refine (eqWrite _ x y).mono ?_; rintro e w1 ⟨rfl, hb1⟩)
          all_goals (have HB1 := hid (HB.out.drew.trans (hb1.mono HB.out.size)); clear hb1 c0 c1 c2 c3 d0 d1 d2 d3; go_wp2)
          all_goals exact ⟨⟨k + 1, by omega, by go_num, fun j hj => by
            by_cases h : j = k
            · subst h; rw [HX.out, HY.out]; exact HE.out
            · exact HJ.out j (by omega), HB1⟩, by simp [intOf]; omega⟩
        · have he' := decide_eq_false he
          have HE := hid he
          clear he
          go_wp2
          go_region_with (go_at_call 103; refine (eqWrite _ x y).mono ?_; rintro e w1 ⟨rfl, hb1⟩)
          all_goals (have HB1 := hid (HB.out.drew.trans (hb1.mono HB.out.size)); clear hb1 c0 c1 c2 c3 d0 d1 d2 d3; go_wp2)
          all_goals go_ret
          all_goals (refine ⟨?_, HB1.out⟩; rw [← HQ.out, decide_eq_false (fun e => HE.out (by rw [← HX.out, ← HY.out, e]))]; rfl)
      · obtain rfl : k = l.length := by omega
        go_wp2
        go_ret
        refine ⟨?_, HB.out⟩
        rw [← HQ.out, decide_eq_true (getD_ext Wt.none Hne.out HJ.out)]
        rfl
  · have hne' : ¬ (l.length : Int) = (m.length : Int) := by omega
    have HQ := hid (decide_eq_false (p := l = m) (fun e => hne (by rw [e])))
    rw [HQ.out]
    go_enter Tryz.func65, Tryz.ntmps65
    go_wp2
    go_ret
    exact ⟨rfl, Below.refl _ _⟩

set_option maxRecDepth 100000 in
set_option maxHeartbeats 1000000 in
theorem eqDisk (w : World) (v u : Value) (D E : Dk) (h : DkR w v D) (k : DkR w u E) (hd : D.Held) (he : E.Held) :
    Calls Tryz.prog 29 #[v, u] w fun e w' => e = .returned (.bool (decide (D = E))) ∧ Below w.heap.size w w' := by
  obtain ⟨a1, c1, a2, c2, a3, c3, rfl, s1, s2, s3⟩ := h
  obtain ⟨b1, d1, b2, d2, b3, d3, rfl, t1, t2, t3⟩ := k
  obtain ⟨l1, l2, l3⟩ := D
  obtain ⟨m1, m2, m3⟩ := E
  generalize hq : decide (Dk.mk l1 l2 l3 = Dk.mk m1 m2 m3) = q
  have HQ := hid hq
  have HS1 := hid s1
  have HS2 := hid s2
  have HS3 := hid s3
  have HT1 := hid t1
  have HT2 := hid t2
  have HT3 := hid t3
  have HD := hid hd
  have HE := hid he
  clear s1 s2 s3 t1 t2 t3 hd he hq
  simp only []
  go_enter Tryz.func29, Tryz.ntmps29
  go_wp2_with fail
  obtain ⟨wc, hwc, _, A0, R0, B0⟩ := two_new w [.slice a1 l1.length c1, .slice a2 l2.length c2, .slice a3 l3.length c3] [.slice b1 m1.length d1, .slice b2 m2.length d2, .slice b3 m3.length d3] 36 36
  simp only [hwc]
  clear hwc
  refine (eqStringS wc a1 b1 c1 d1 l1 m1 (HS1.out.below B0) (HT1.out.below B0) HD.out.h1 HE.out.h1).mono ?_
  rintro e w1 ⟨rfl, hb1⟩
  replace A0 := A0.below hb1 A0.lt
  replace R0 := R0.below hb1 R0.lt
  replace B0 := B0.trans (hb1.mono B0.size)
  by_cases h1 : ¬ l1 = m1
  · have h1' := decide_eq_false h1
    have HX := hid (HQ.out.symm.trans (decide_eq_false (fun e => h1 (by injection e))))
    have HB := hid B0
    clear h1 A0 R0 B0 hb1 HQ
    go_wp2
    go_ret
    exact ⟨by rw [HX.out]; rfl, HB.out⟩
  replace h1 := Classical.not_not.mp h1
  have h1' := decide_eq_true h1
  have H1 := hid h1
  have ca := A0.c 1 rfl
  have cb := R0.c 1 rfl
  have HA := hid A0
  have HR := hid R0
  have HB := hid B0
  clear h1 A0 R0 B0 hb1
  go_wp2_with fail
  refine (eqIntS w1 a2 b2 c2 d2 l2 m2 (HS2.out.below HB.out) (HT2.out.below HB.out) HD.out.h2 HE.out.h2).mono ?_
  rintro e w2 ⟨rfl, hb2⟩
  have A0 := HA.out.below hb2 HA.out.lt
  have R0 := HR.out.below hb2 HR.out.lt
  have B0 := HB.out.trans (hb2.mono HB.out.size)
  clear HA HR HB ca cb
  by_cases h2 : ¬ l2 = m2
  · have h2' := decide_eq_false h2
    have HX := hid (HQ.out.symm.trans (decide_eq_false (fun e => h2 (by injection e))))
    have HB := hid B0
    clear h2 A0 R0 B0 hb2 HQ
    go_wp2
    go_ret
    exact ⟨by rw [HX.out]; rfl, HB.out⟩
  replace h2 := Classical.not_not.mp h2
  have h2' := decide_eq_true h2
  have H2 := hid h2
  have ca := A0.c 2 rfl
  have cb := R0.c 2 rfl
  have HB := hid B0
  clear h2 A0 R0 B0 hb2
  go_wp2_with fail
  refine (eqWriteS w2 a3 b3 c3 d3 l3 m3 (HS3.out.below HB.out) (HT3.out.below HB.out) HD.out.h3 HE.out.h3).mono ?_
  rintro e w3 ⟨rfl, hb3⟩
  have HB3 := hid (HB.out.trans (hb3.mono HB.out.size))
  clear HB ca cb hb3
  by_cases h3 : l3 = m3
  · have h3' := decide_eq_true h3
    have HX := hid (HQ.out.symm.trans (decide_eq_true (by rw [H1.out, H2.out, h3])))
    clear h3 HQ
    go_wp2
    go_ret
    exact ⟨by rw [HX.out]; rfl, HB3.out⟩
  · have h3' := decide_eq_false h3
    have HX := hid (HQ.out.symm.trans (decide_eq_false (fun e => h3 (by injection e))))
    clear h3 HQ
    go_wp2
    go_ret
    exact ⟨by rw [HX.out]; rfl, HB3.out⟩

end Go.Proofs.YtogebppolkfldaaGreatDoor.Mem

namespace Go.Proofs.YtogebppolkfldaaGreatDoor.Mem
open Go.RowKit
set_option linter.unusedVariables false

/-- A write is one of the disk's. -/
def Wt.okIn (D : Dk) (x : Wt) : Prop := (0 ≤ x.host ∧ x.host < 3) ∧ x.epoch = D.ep.getD x.host.toNat 0 ∧ 0 ≤ x.sector ∧ x.sector < (D.sec.length : Int) ∧ (x.text.size : Int) ≤ 700

/-- A disk is right. -/
structure Dk.Right (D : Dk) : Prop where
  n1 : 1 ≤ D.sec.length
  n2 : D.sec.length ≤ 40
  e3 : D.ep.length = 3
  p40 : D.pe.length ≤ 40
  s : ∀ j, j < D.sec.length → ((D.sec.getD j ByteArray.empty).size : Int) ≤ 700
  e : ∀ j, j < D.ep.length → 1 ≤ D.ep.getD j 0 ∧ D.ep.getD j 0 ≤ 100000
  p : ∀ j, j < D.pe.length → (D.pe.getD j Wt.none).okIn D

def Dk.right (D : Dk) : Bool := decide (1 ≤ D.sec.length ∧ D.sec.length ≤ 40 ∧ D.ep.length = 3 ∧ D.pe.length ≤ 40 ∧ (∀ j, j < D.sec.length → ((D.sec.getD j ByteArray.empty).size : Int) ≤ 700) ∧ (∀ j, j < D.ep.length → 1 ≤ D.ep.getD j 0 ∧ D.ep.getD j 0 ≤ 100000) ∧
  ∀ j, j < D.pe.length → (0 ≤ (D.pe.getD j Wt.none).host ∧ (D.pe.getD j Wt.none).host < 3) ∧ (D.pe.getD j Wt.none).epoch = D.ep.getD (D.pe.getD j Wt.none).host.toNat 0 ∧ 0 ≤ (D.pe.getD j Wt.none).sector ∧ (D.pe.getD j Wt.none).sector < (D.sec.length : Int) ∧ ((D.pe.getD j Wt.none).text.size : Int) ≤ 700)
theorem Dk.right_yes {D : Dk} (h : D.Right) : D.right = true := decide_eq_true ⟨h.n1, h.n2, h.e3, h.p40, h.s, h.e, h.p⟩
theorem Dk.right_no {D : Dk} (h : ¬ D.Right) : D.right = false := decide_eq_false (fun ⟨a, b, c, d, e, f, g⟩ => h ⟨a, b, c, d, e, f, g⟩)

set_option maxHeartbeats 400000 in
theorem l1In (x lo hi : Int) (w : World) :
    Calls Tryz.prog 42 #[.int .i64 x, .int .i64 lo, .int .i64 hi] w fun e w' => e = .returned (.bool (decide (lo ≤ x ∧ x ≤ hi))) ∧ w' = w := by
  by_cases h1 : lo ≤ x
  · by_cases h2 : x ≤ hi
    · rw [decide_eq_true (And.intro h1 h2)]
      go_enter Tryz.func42, Tryz.ntmps42
      go_wp2
      go_ret
      exact ⟨rfl, rfl⟩
    · rw [decide_eq_false (fun h => h2 h.2)]
      go_enter Tryz.func42, Tryz.ntmps42
      go_wp2
      go_ret
      exact ⟨rfl, rfl⟩
  · rw [decide_eq_false (fun h => h1 h.1)]
    go_enter Tryz.func42, Tryz.ntmps42
    go_wp2
    go_ret
    exact ⟨rfl, rfl⟩

set_option maxHeartbeats 400000 in
theorem l3Host (x : Int) (w : World) :
    Calls Tryz.prog 43 #[.int .i64 x] w fun e w' => e = .returned (.bool (decide (0 ≤ x ∧ x < 3))) ∧ w' = w := by
  by_cases h1 : 0 ≤ x
  · by_cases h2 : x < 3
    · rw [decide_eq_true (And.intro h1 h2)]
      go_enter Tryz.func43, Tryz.ntmps43
      go_wp2
      go_ret
      exact ⟨rfl, rfl⟩
    · rw [decide_eq_false (fun h => h2 h.2)]
      go_enter Tryz.func43, Tryz.ntmps43
      go_wp2
      go_ret
      exact ⟨rfl, rfl⟩
  · rw [decide_eq_false (fun h => h1 h.1)]
    go_enter Tryz.func43, Tryz.ntmps43
    go_wp2
    go_ret
    exact ⟨rfl, rfl⟩

set_option maxRecDepth 100000 in
set_option maxHeartbeats 2000000 in
theorem diskOk (w : World) (v : Value) (D : Dk) (h : DkR w v D) (hd : D.Held) :
    Calls Tryz.prog 39 #[v] w fun e w' => e = .returned (.bool D.right) ∧ Below w.heap.size w w' := by
  obtain ⟨a1, c1, a2, c2, a3, c3, rfl, s1, s2, s3⟩ := h
  obtain ⟨l1, l2, l3⟩ := D
  have HS1 := hid s1
  have HS2 := hid s2
  have HS3 := hid s3
  have d1 : l1.length ≤ 9223372036854775807 := hd.h1
  have d2 : l2.length ≤ 9223372036854775807 := hd.h2
  have d3 : l3.length ≤ 9223372036854775807 := hd.h3
  have HD := hid hd
  clear s1 s2 s3 hd
  simp only []
  have no : ¬ (Dk.mk l1 l2 l3).Right → (Dk.mk l1 l2 l3).right = false := Dk.right_no
  have yes : (Dk.mk l1 l2 l3).Right → (Dk.mk l1 l2 l3).right = true := Dk.right_yes
  generalize (Dk.mk l1 l2 l3).right = q at *
  have HN := hid no
  have HY := hid yes
  clear no yes
  go_enter Tryz.func39, Tryz.ntmps39
  go_wp2_with fail
  obtain ⟨wb, hwb, ez, A0, B0⟩ := one_new w [.slice a1 l1.length c1, .slice a2 l2.length c2, .slice a3 l3.length c3] 36
  simp only [hwb]
  clear hwb
  refine (l1In l1.length 1 40 wb).mono ?_
  rintro e w1 ⟨rfl, hw⟩
  subst hw
  have HB := hid B0
  have HA := hid A0
  have k1 := A0.c 1 rfl
  have k2 := A0.c 2 rfl
  have k0 := A0.c 0 rfl
  clear A0 B0
  by_cases g1 : ¬ (1 ≤ (l1.length : Int) ∧ (l1.length : Int) ≤ 40)
  · have g1' := decide_eq_false g1
    have HN := hid (HN.out (by intro x; have := x.n1; have := x.n2; simp only [] at *; omega))
    clear g1
    go_wp2
    go_ret
    exact ⟨by rw [HN.out]; rfl, HB.out⟩
  replace g1 := Classical.not_not.mp g1
  have g1' := decide_eq_true g1
  obtain ⟨g1a, g1b⟩ := g1
  by_cases g2 : ¬ (l2.length : Int) = 3
  · have HN := hid (HN.out (by intro x; have := x.e3; simp only [] at *; omega))
    go_wp2
    go_ret
    exact ⟨by rw [HN.out]; rfl, HB.out⟩
  replace g2 := Classical.not_not.mp g2
  by_cases g3 : 40 < (l3.length : Int)
  · have HN := hid (HN.out (by intro x; have := x.p40; simp only [] at *; omega))
    go_wp2
    go_ret
    exact ⟨by rw [HN.out]; rfl, HB.out⟩
  go_wp2
  go_loop [3] (fun i => ∃ k : Nat, k ≤ l1.length ∧ i = .int .i64 (k : Int) ∧ Hid (∀ j, j < k → ((l1.getD j ByteArray.empty).size : Int) ≤ 700)) (fun i => l1.length - (intOf i).toNat)
  case atStart => exact ⟨0, Nat.zero_le _, rfl, fun j hj => by omega⟩
  case round =>
    obtain ⟨k, hk, rfl, HJ⟩ := hrel
    by_cases hlt : k < l1.length
    · obtain ⟨b, off, rfl, hc⟩ := (HS1.out.below HB.out) k hlt
      replace hc : w1.cell? ⟨b, off + k, none⟩ = some (.string (l1.getD k ByteArray.empty)) := hc
      generalize hx : l1.getD k ByteArray.empty = x at hc
      have HX := hid hx
      clear hx
      by_cases hn : 700 < (x.size : Int)
      · have HN := hid (HN.out (by intro q; have := q.s k hlt; simp only [HX.out] at this; omega))
        go_wp2
        go_ret
        exact ⟨by rw [HN.out]; rfl, HB.out⟩
      · go_wp2
        go_round
        case rel => exact ⟨k + 1, by omega, by go_num, fun j hj => by
          by_cases h : j = k
          · subst h; rw [HX.out]; omega
          · exact HJ.out j (by omega)⟩
        case measure => simp [intOf]; omega
    obtain rfl : k = l1.length := by omega
    go_wp2
    go_loop [4] (fun i => ∃ k : Nat, k ≤ l2.length ∧ i = .int .i64 (k : Int) ∧ Hid (∀ j, j < k → 1 ≤ l2.getD j 0 ∧ l2.getD j 0 ≤ 100000)) (fun i => l2.length - (intOf i).toNat)
    case atStart => exact ⟨0, Nat.zero_le _, rfl, fun j hj => by omega⟩
    case round =>
      obtain ⟨k, hk, rfl, HE⟩ := hrel
      by_cases hlt : k < l2.length
      · obtain ⟨b, off, rfl, hc⟩ := (HS2.out.below HB.out) k hlt
        replace hc : w1.cell? ⟨b, off + k, none⟩ = some (.int .i64 (l2.getD k 0)) := hc
        generalize hx : l2.getD k 0 = x at hc
        have HX := hid hx
        clear hx
        go_wp2_with fail
        refine (l1In x 1 100000 w1).mono ?_
        rintro e w1' ⟨rfl, hw⟩
        subst hw
        by_cases hn : 1 ≤ x ∧ x ≤ 100000
        · have hn' := decide_eq_true hn
          have HX2 := hid hn
          clear hn
          go_wp2
          exact ⟨⟨k + 1, by omega, by go_num, fun j hj => by
            by_cases h : j = k
            · subst h; rw [HX.out]; exact HX2.out
            · exact HE.out j (by omega)⟩, by simp [intOf]; omega⟩
        · have hn' := decide_eq_false hn
          have HN := hid (HN.out (by intro q; have := q.e k hlt; simp only [HX.out] at this; exact hn this))
          clear hn
          go_wp2
          go_ret
          exact ⟨by rw [HN.out]; rfl, HB.out⟩
      obtain rfl : k = l2.length := by omega
      go_wp2
      go_loopw [5] (fun i wr => ∃ k : Nat, k ≤ l3.length ∧ i = .int .i64 (k : Int) ∧ Hid (∀ j, j < k → (l3.getD j Wt.none).okIn (Dk.mk l1 l2 l3)) ∧ Hid (Below w1.heap.size w1 wr)) (fun i _ => l3.length - (intOf i).toNat)
      case atStart => exact ⟨0, Nat.zero_le _, rfl, fun j hj => by omega, Below.refl _ _⟩
      case round =>
        obtain ⟨k, hk, rfl, HP, HB'⟩ := hrel
        have A0 := HA.out.below HB'.out HA.out.lt
        have HBw := hid (HB.out.trans (HB'.out.mono HB.out.size))
        have m0 := A0.c 0 rfl
        have m1 := A0.c 1 rfl
        have m2 := A0.c 2 rfl
        by_cases hlt : k < l3.length
        · obtain ⟨b, off, rfl, x0, x1, x2, x3⟩ := Wts.at_ (HS3.out.below HBw.out) k hlt
          generalize hx : l3.getD k Wt.none = x at x0 x1 x2 x3
          have HX := hid hx
          clear hx
          have HA' := hid A0
          clear A0
          obtain ⟨xh, xe, xs, xt⟩ := x
          simp only [] at x0 x1 x2 x3
          go_wp2
          obtain ⟨wa, hwa, ea, R0, B0⟩ := one_new wr [.int .i64 xh, .int .i64 xe, .int .i64 xs, .string xt] 138
          simp only [hwa]
          clear hwa
          have HB1 := hid (HB'.out.trans (B0.mono HB'.out.size))
          have HBw1 := hid (HB.out.trans (HB1.out.mono HB.out.size))
          replace m0 := (HA'.out.below B0 HA'.out.lt).c 0 rfl
          replace m1 := (HA'.out.below B0 HA'.out.lt).c 1 rfl
          have y0 := R0.c 0 rfl
          have y1 := R0.c 1 rfl
          have y2 := R0.c 2 rfl
          have y3 := R0.c 3 rfl
          clear m2 x0 x1 x2 x3 k0 k1 k2 B0 R0 ea
          by_cases q1 : ¬ (0 ≤ xh ∧ xh < 3)
          · have q1' := decide_eq_false q1
            have HN := hid (HN.out (by intro q; have := (q.p k hlt).1; simp only [HX.out] at this; exact q1 this))
            clear q1
            go_quiet ((go_at_call 43; refine Calls.quiet_of_same (l3Host _ _)))
            go_wp2
            go_ret
            exact ⟨by rw [HN.out]; rfl, below_drewN HBw1.out _⟩
          replace q1 := Classical.not_not.mp q1
          have q1' := decide_eq_true q1
          have HQ1 := hid q1
          obtain ⟨n, rfl⟩ : ∃ n : Nat, xh = (n : Int) := Int.eq_ofNat_of_zero_le q1.1
          have hn3 : (n : Int) < 3 := q1.2
          clear q1
          obtain ⟨b2, o2, rfl, hc⟩ := (HS2.out.below HBw1.out) n (by omega)
          replace hc : wa.cell? ⟨b2, o2 + n, none⟩ = some (.int .i64 (l2.getD n 0)) := hc
          generalize hy : l2.getD n 0 = y at hc
          have HYE := hid hy
          clear hy
          by_cases q2 : ¬ xe = y
          · have q2' := decide_eq_false q2
            have HN := hid (HN.out (by intro q; have := (q.p k hlt).2.1; simp only [HX.out, Int.toNat_natCast, HYE.out] at this; exact q2 this))
            go_quiet ((go_at_call 43; refine Calls.quiet_of_same (l3Host _ _)))
            go_wp2
            go_ret
            exact ⟨by rw [HN.out]; rfl, below_drewN HBw1.out _⟩
          obtain rfl := Classical.not_not.mp q2
          clear q2
          by_cases q3 : xs < 0
          · have q3' := decide_eq_true q3
            have HN := hid (HN.out (by intro q; have := (q.p k hlt).2.2.1; simp only [HX.out] at this; omega))
            go_quiet ((go_at_call 43; refine Calls.quiet_of_same (l3Host _ _)))
            go_wp2
            go_ret
            exact ⟨by rw [HN.out]; rfl, below_drewN HBw1.out _⟩
          have q3' := decide_eq_false q3
          by_cases q4 : (l1.length : Int) ≤ xs
          · have q4' := decide_eq_true q4
            have HN := hid (HN.out (by intro q; have := (q.p k hlt).2.2.2.1; simp only [HX.out] at this; omega))
            go_quiet ((go_at_call 43; refine Calls.quiet_of_same (l3Host _ _)))
            go_wp2
            go_ret
            exact ⟨by rw [HN.out]; rfl, below_drewN HBw1.out _⟩
          have q4' := decide_eq_false q4
          by_cases q5 : 700 < (xt.size : Int)
          · have q5' := decide_eq_true q5
            have HN := hid (HN.out (by intro q; have := (q.p k hlt).2.2.2.2; simp only [HX.out] at this; omega))
            go_quiet ((go_at_call 43; refine Calls.quiet_of_same (l3Host _ _)))
            go_wp2
            go_ret
            exact ⟨by rw [HN.out]; rfl, below_drewN HBw1.out _⟩
          have q5' := decide_eq_false q5
          go_quiet ((go_at_call 43; refine Calls.quiet_of_same (l3Host _ _)))
          go_wp2
          exact ⟨⟨k + 1, by omega, by go_num, fun j hj => by
            by_cases h : j = k
            · subst h
              rw [HX.out]
              exact ⟨HQ1.out, by simpa using HYE.out.symm, by show 0 ≤ xs; omega, by show xs < (l1.length : Int); omega, by show (xt.size : Int) ≤ 700; omega⟩
            · exact HP.out j (by omega), below_drewN HB1.out _⟩, by simp [intOf]; omega⟩
        obtain rfl : k = l3.length := by omega
        have HY := hid (HY.out ⟨by show 1 ≤ l1.length; omega, by show l1.length ≤ 40; omega, by show l2.length = 3; omega, by show l3.length ≤ 40; omega, HJ.out, HE.out, HP.out⟩)
        go_wp2
        go_ret
        exact ⟨by rw [HY.out]; rfl, HBw.out⟩

end Go.Proofs.YtogebppolkfldaaGreatDoor.Mem

namespace Go.Proofs.YtogebppolkfldaaGreatDoor.Mem
open Go.RowKit Classical
set_option linter.unusedVariables false

/-- There is such a host and such a sector. -/
def Dk.There (D : Dk) (h s : Int) : Prop := (0 ≤ h ∧ h < 3) ∧ 0 ≤ s ∧ s < (D.sec.length : Int)

/-- What a host sees of a sector behind the first k writes under way. -/
def Dk.see (D : Dk) (h s : Int) : Nat → ByteArray
  | 0 => D.sec.getD s.toNat ByteArray.empty
  | k + 1 => if (D.pe.getD k Wt.none).host = h ∧ (D.pe.getD k Wt.none).sector = s then (D.pe.getD k Wt.none).text else D.see h s k

/-- What Peek answers. -/
def Dk.peek (D : Dk) (h s : Int) : ByteArray × Bool := if D.right = true ∧ (0 ≤ h ∧ h < 3) ∧ 0 ≤ s ∧ s < (D.sec.length : Int) then (D.see h s D.pe.length, true) else (ByteArray.empty, false)

end Go.Proofs.YtogebppolkfldaaGreatDoor.Mem
