/-
  A host in memory: its size, laid anew, compared, marked. No condition but texts and lists that Go can hold, of at most 2^20 where they are laid anew.
  A struct of many cells that is loaded whole and stored whole in a plain region: one step each, however long it is. No condition.
  The walks of laws.toHost, laws.markHost and laws.heldHost. No condition but lists of at most 2^20, that may be written.
  A host that comes in as an argument: what it is in memory. No condition.
  Events in memory: lists of them, sizes, laid anew, compared, marked. No condition but lists of at most 2^20.
  The walks of laws.toEvent, toEventS, eqEvent, eqEventS. No condition but lists of at most 2^20.
  A list of texts that comes in as an argument: what it is in memory. No condition.
  Replies in memory: lists of them, sizes, laid anew, compared, and as an argument. No condition but lists of at most 2^20.
  A region that draws its order, walked once: one condition on what has come up, what it has left, and the world; each operation keeps it; so whatever order is drawn, it holds at the end. At any program. No condition.
  Two regions that each exact law has, at any program: an argument laid anew and put into a box; what stands in the box compared with the argument laid anew. One step an operation, however long the structs are. No condition.
  The regions of an exact law in which a function of two answers is called, and its first answer put into a box: at any program, whatever the order that is drawn. No condition.
  A region that draws its order and calls one function: its arguments loaded and laid anew, its answers put into boxes: whatever the order. At any program. No condition.
-/
import Derived.Test.YtaopkchkhdbfnaaGreatDoorJoin1
import Derived.Deep.MidRow
import Derived.Deep.DeepCutAuto
import Derived.ProofKit
import Derived.OpenShut
import Derived.ShutString
import Derived.Lib.SmallJoins
import Derived.Deep.Strs
import Derived.Deep.Slices
import Derived.Carry
import Derived.Test.YtaopkchkhdbfnaaGreatDoorQuietB
import Derived.Laws.StructEq
import Derived.WalkSpells
import Derived.WalkLawsBesides
import Derived.Test.YtaopkchkhdbfnaaGreatDoorMem
import Derived.Test.YtaopkchkhdbfnaaGreatDoorRows
import Derived.WalkKit
import Derived.WalkSmall
import Derived.RegionTactic
import Derived.OrdersHeld
namespace Go.Proofs.YtaopkchkhdbfnaaGreatDoor.Pl
open Go.RowKit Go.Proofs.YtaopkchkhdbfnaaGreatDoor.Mem Go.Proofs.YtaopkchkhdbfnaaGreatDoor.Sec
set_option linter.unusedVariables false

/-- A host, but for where its list of outs lies. -/
structure Ho where
  id : Int
  ep : Int
  up : Bool
  rd : Bool
  bz : Bool
  k : Int
  v : Int
  t : Int
  a : Int
  s : ByteArray
  pc : Int
  cd : Int
  bk : Int
  tx : ByteArray
  l : List Ou
  txn : Int

def hoV (H : Ho) (p : Option Addr) (c : Nat) : Value := .agg #[.int .i64 H.id, .int .i64 H.ep, .bool H.up, .bool H.rd, .bool H.bz, .int .i64 H.k, .int .i64 H.v, .int .i64 H.t, .int .i64 H.a, .string H.s, .int .i64 H.pc, .int .i64 H.cd, .int .i64 H.bk, .string H.tx, .slice p H.l.length c, .int .i64 H.txn]
def plnV (cd bk : Int) (tx : ByteArray) (p : Option Addr) (n c : Nat) : Value := .agg #[.int .i64 cd, .int .i64 bk, .string tx, .slice p n c]

/-- All of it is of at most so much. -/
structure Ho.Upto (n : Nat) (H : Ho) : Prop where
  s : H.s.size ≤ n
  tx : H.tx.size ≤ n
  l : H.l.length ≤ n
  each : ∀ x ∈ H.l, x.text.size ≤ n

theorem Ho.Upto.mono {n m : Nat} {H : Ho} (h : H.Upto n) (hm : n ≤ m) : H.Upto m := ⟨Nat.le_trans h.s hm, Nat.le_trans h.tx hm, Nat.le_trans h.l hm, fun x hx => Nat.le_trans (h.each x hx) hm⟩
theorem Ho.Upto.max {H : Ho} (h : H.Upto 1048576) : H.Upto maxLen := h.mono (by unfold maxLen; decide)

set_option maxRecDepth 100000 in
set_option maxHeartbeats 1000000 in
theorem szPlan (w : World) (cd bk : Int) (tx : ByteArray) (p : Option Addr) (c : Nat) (l : List Ou) (left : Int) (S : Ous w p l) (ht : tx.size ≤ maxLen) (hl : l.length ≤ maxLen) (he : ∀ x ∈ l, x.text.size ≤ maxLen) (h0 : 0 ≤ left) (h1 : left ≤ 1048576) :
    Calls Tryz.prog 145 #[plnV cd bk tx p l.length c, .int .i64 left] w fun e w' => ∃ r, e = .returned (.int .i64 r) ∧ Below w.heap.size w w' ∧ (r < 0 ∨ (0 ≤ r ∧ r ≤ left ∧ (tx.size : Int) ≤ left ∧ (l.length : Int) ≤ left ∧ ∀ x ∈ l, (x.text.size : Int) ≤ left)) := by
  unfold plnV
  have HS := hid S
  have HE := hid he
  unfold maxLen at ht
  clear S he
  obtain ⟨wa, hwa, ez, A0, B0⟩ := one_new w [.int .i64 cd, .int .i64 bk, .string tx, .slice p l.length c] 138

  have k0 := A0.c 0 rfl
  have k1 := A0.c 1 rfl
  have k2 := A0.c 2 rfl
  have k3 := A0.c 3 rfl
  have HA := hid A0
  have HB := hid B0
  clear A0 B0 ez
  by_cases hb : left < (tx.size : Int)
  · go_enter Tryz.func145, Tryz.ntmps145
    go_wp2
    go_ret
    exact ⟨_, rfl, HB.out, Or.inl (by decide)⟩
  have hq0 : 0 ≤ left - (tx.size : Int) := by omega
  have hq1 : left - (tx.size : Int) ≤ 1048576 := by omega
  go_enter Tryz.func145, Tryz.ntmps145
  go_wp2_with fail
  try simp only [hwa]
  clear hwa
  refine (szOutS wa p c l (left - (tx.size : Int)) (HS.out.below HB.out) hl HE.out hq0 hq1).mono ?_
  rintro e w1 ⟨r, rfl, b1, hf⟩
  have HB1 := hid (HB.out.trans (b1.mono HB.out.size))
  have HF := hid hf
  clear b1 hf k0 k1 k2 k3
  by_cases hr : r < 0
  · go_wp2
    go_ret
    exact ⟨_, rfl, HB1.out, Or.inl (by decide)⟩
  · have HX : Hid (0 ≤ r ∧ r ≤ left ∧ (tx.size : Int) ≤ left ∧ (l.length : Int) ≤ left ∧ ∀ x ∈ l, (x.text.size : Int) ≤ left) := by
      rcases HF.out with h | ⟨h1, h2, h3, h4⟩
      · omega
      · exact ⟨by omega, by omega, by omega, by omega, fun x hx => by have := h4 x hx; omega⟩
    go_wp2
    go_ret
    exact ⟨_, rfl, HB1.out, Or.inr HX.out⟩

set_option maxRecDepth 100000 in
set_option maxHeartbeats 2000000 in
theorem szHost (w : World) (H : Ho) (p : Option Addr) (c : Nat) (left : Int) (S : Ous w p H.l) (hh : H.Upto maxLen) (h0 : 0 ≤ left) (h1 : left ≤ 1048576) :
    Calls Tryz.prog 86 #[hoV H p c, .int .i64 left] w fun e w' => ∃ r, e = .returned (.int .i64 r) ∧ Below w.heap.size w w' ∧ (r < 0 ∨ (0 ≤ r ∧ r ≤ left ∧ H.Upto 1048576)) := by

  obtain ⟨id, ep, up, rd, bz, k, v, t, a, s, pc, cd, bk, tx, l, txn⟩ := H
  have hS : s.size ≤ maxLen := hh.s
  have hT : tx.size ≤ maxLen := hh.tx
  have hL : l.length ≤ maxLen := hh.l
  have HE : Hid (∀ x ∈ l, x.text.size ≤ maxLen) := hh.each
  have HS : Hid (Ous w p l) := S
  clear S hh
  unfold hoV
  try simp only []
  obtain ⟨wa, hwa, ez, A0, B0⟩ := one_new w [.int .i64 id, .int .i64 ep, .bool up, .bool rd, .bool bz, .int .i64 k, .int .i64 v, .int .i64 t, .int .i64 a, .string s, .int .i64 pc, .int .i64 cd, .int .i64 bk, .string tx, .slice p l.length c, .int .i64 txn] 140
  have k5 := A0.c 5 rfl
  have k6 := A0.c 6 rfl
  have k7 := A0.c 7 rfl
  have k8 := A0.c 8 rfl
  have k9 := A0.c 9 rfl
  have HA := hid A0
  have HB := hid B0
  clear A0 B0 ez
  go_enter Tryz.func86, Tryz.ntmps86
  go_wp2_with fail
  try simp only [hwa]
  clear hwa k5 k6 k7 k8 k9
  refine (szOp wa k v t a s left hS h0 h1).mono ?_
  rintro e w1 ⟨r, rfl, b1, hf⟩
  have HA1 := hid (HA.out.below b1 HA.out.lt)
  have HB1 := hid (HB.out.trans (b1.mono HB.out.size))
  have HF := hid hf
  clear b1 hf HA HB
  by_cases hr : r < 0
  · go_wp2
    go_ret
    exact ⟨_, rfl, HB1.out, Or.inl (by decide)⟩
  have hf : 0 ≤ r ∧ r ≤ left ∧ (s.size : Int) ≤ left := by
    rcases HF.out with h | h
    · omega
    · exact h
  have hf1 := hf.1
  have hf2 : r ≤ 1048576 := by omega
  have HF2 := hid hf
  clear hf HF
  have k11 := HA1.out.c 11 rfl
  have k12 := HA1.out.c 12 rfl
  have k13 := HA1.out.c 13 rfl
  have k14 := HA1.out.c 14 rfl
  go_wp2_with fail
  refine (szPlan w1 cd bk tx p c l r (HS.out.below HB1.out) hT hL HE.out hf1 hf2).mono ?_
  rintro e w2 ⟨r2, rfl, b2, hf⟩
  have HB2 := hid (HB1.out.trans (b2.mono HB1.out.size))
  have HF := hid hf
  clear b2 hf k11 k12 k13 k14
  by_cases hr2 : r2 < 0
  · go_wp2
    go_ret
    exact ⟨_, rfl, HB2.out, Or.inl (by decide)⟩
  · have HX : Hid (0 ≤ r2 ∧ r2 ≤ left ∧ Ho.Upto 1048576 ⟨id, ep, up, rd, bz, k, v, t, a, s, pc, cd, bk, tx, l, txn⟩) := by
      have := HF2.out
      rcases HF.out with h | ⟨h1, h2, h3, h4, h5⟩
      · omega
      · exact ⟨by omega, by omega, by show s.size ≤ 1048576; omega, by show tx.size ≤ 1048576; omega, by show l.length ≤ 1048576; omega, fun x hx => by have := h5 x hx; omega⟩
    go_wp2
    go_ret
    exact ⟨_, rfl, HB2.out, Or.inr HX.out⟩

set_option maxRecDepth 100000 in
set_option maxHeartbeats 2000000 in
theorem toPlan (w : World) (cd bk : Int) (tx : ByteArray) (p : Option Addr) (c : Nat) (l : List Ou) (S : Ous w p l) (hl : l.length ≤ 1048576) :
    Calls Tryz.prog 148 #[plnV cd bk tx p l.length c] w fun r w' => ∃ g, r = .returned (plnV cd bk tx (some ⟨g, 0, none⟩) l.length l.length) ∧ w.heap.size ≤ g ∧ g < w'.heap.size ∧ OusW w' w.heap.size (some ⟨g, 0, none⟩) l ∧ Below w.heap.size w w' := by
  unfold plnV
  have HS := hid S
  clear S
  go_enter Tryz.func148, Tryz.ntmps148
  go_wp2_with fail
  obtain ⟨wc, hwc, e2, A0, R0, O0, B0⟩ := three_news w [.int .i64 cd, .int .i64 bk, .string tx, .slice p l.length c] [.int .i64 0, .int .i64 0, .string ⟨#[]⟩, .slice none 0 0] [.int .i64 cd, .int .i64 bk, .string tx, .slice none 0 0] 138 61
  simp only [hwc]
  clear hwc
  refine (toOutS wc p c l (HS.out.below B0) hl).mono ?_
  rintro r w2 ⟨g, rfl, hg, hl2, S2, b2⟩
  replace R0 := R0.below b2 R0.lt
  replace O0 := O0.below b2 O0.lt
  replace B0 := B0.trans (b2.mono (by omega))
  have d0 := O0.c 0 rfl
  have d1 := O0.c 1 rfl
  have d2 := O0.c 2 rfl
  have d3 := O0.c 3 rfl
  have fd := O0.f 3
  have r0 := R0.c 0 rfl
  have r1 := R0.c 1 rfl
  have r2 := R0.c 2 rfl
  have r3 := R0.c 3 rfl
  have f0 := R0.f 0
  have f1 := R0.f 1
  have f2 := R0.f 2
  have f3 := R0.f 3
  have HS2 := hid S2
  have HB := hid B0
  have HR := hid (puts_row (R0.other (p := ⟨w.heap.size + 1 + 1, 3, none⟩) (by show w.heap.size + 1 ≠ w.heap.size + 1 + 1; omega) (.slice (some ⟨g, 0, none⟩) l.length l.length)) 0 [.int .i64 cd, .int .i64 bk, .string tx, .slice (some ⟨g, 0, none⟩) l.length l.length])
  clear R0 O0 b2 S2 B0 A0
  go_wp2
  refine bodyPost_ret (results_row rfl _ _ (w.heap.size + 1) [.int .i64 cd, .int .i64 bk, .string tx, .slice (some ⟨g, 0, none⟩) l.length l.length] _ rfl HR.out Tryz.underlying61 rfl (by kernel_rfl)) rfl ?_
  refine ⟨g, rfl, by omega, by simpa using hl2, ?_, ?_⟩
  · exact (HS2.out.move (((kept_set _ _ _ _).trans (puts_kept _ (w.heap.size + 1) 0 [.int .i64 cd, .int .i64 bk, .string tx, .slice (some ⟨g, 0, none⟩) l.length l.length])).mono (T := fun b => b < wc.heap.size) (fun b _ hb => by rcases hb with h | h <;> omega)) (fun b hb => by have := HS2.out.foot_ge hb; omega)).mono (by omega)
  · exact puts_below (below_set HB.out (w.heap.size + 1 + 1) 3 _ (by omega)) (by omega) 0 [.int .i64 cd, .int .i64 bk, .string tx, .slice (some ⟨g, 0, none⟩) l.length l.length]

set_option maxRecDepth 100000 in
set_option maxHeartbeats 1000000 in
theorem eqOp (w : World) (k v t a : Int) (s : ByteArray) : Calls Tryz.prog 157 #[opV k v t a s, opV k v t a s] w fun e w' => e = .returned (.bool true) ∧ Below w.heap.size w w' := by
  unfold opV
  go_enter Tryz.func157, Tryz.ntmps157
  go_wp2
  go_ret
  exact ⟨rfl, by go_grown⟩

set_option maxRecDepth 100000 in
set_option maxHeartbeats 1000000 in
theorem eqPlan (w : World) (cd bk : Int) (tx : ByteArray) (p q : Option Addr) (cp cq : Nat) (l : List Ou) (S : Ous w p l) (T : Ous w q l) (hl : l.length ≤ maxLen) :
    Calls Tryz.prog 158 #[plnV cd bk tx p l.length cp, plnV cd bk tx q l.length cq] w fun e w' => e = .returned (.bool true) ∧ Below w.heap.size w w' := by
  unfold plnV
  have HS := hid S
  have HT := hid T
  have HL := hid hl
  clear S T hl
  obtain ⟨wa, hwa, ez, A0, C0, B0⟩ := two_new w [.int .i64 cd, .int .i64 bk, .string tx, .slice p l.length cp] [.int .i64 cd, .int .i64 bk, .string tx, .slice q l.length cq] 61 61
  have k0 := A0.c 0 rfl
  have k1 := A0.c 1 rfl
  have k2 := A0.c 2 rfl
  have k3 := A0.c 3 rfl
  have j0 := C0.c 0 rfl
  have j1 := C0.c 1 rfl
  have j2 := C0.c 2 rfl
  have j3 := C0.c 3 rfl
  have HB := hid B0
  clear A0 B0 C0 ez
  go_enter Tryz.func158, Tryz.ntmps158
  go_wp2_with fail
  try simp only [hwa]
  clear hwa
  refine (eqOutS wa p q cp cq l (HS.out.below HB.out) (HT.out.below HB.out) HL.out).mono ?_
  rintro r w2 ⟨rfl, b2⟩
  have HB2 := hid (HB.out.trans (b2.mono HB.out.size))
  clear b2 k0 k1 k2 k3 j0 j1 j2 j3
  go_wp2
  go_ret
  exact ⟨rfl, HB2.out⟩

set_option maxRecDepth 100000 in
set_option maxHeartbeats 2000000 in
theorem eqHost (w : World) (H : Ho) (p q : Option Addr) (cp cq : Nat) (S : Ous w p H.l) (T : Ous w q H.l) (hl : H.l.length ≤ maxLen) :
    Calls Tryz.prog 108 #[hoV H p cp, hoV H q cq] w fun e w' => e = .returned (.bool true) ∧ Below w.heap.size w w' := by

  obtain ⟨id, ep, up, rd, bz, k, v, t, a, s, pc, cd, bk, tx, l, txn⟩ := H
  have HS : Hid (Ous w p l) := S
  have HT : Hid (Ous w q l) := T
  have HL : Hid (l.length ≤ maxLen) := hl
  clear S T hl
  unfold hoV
  try simp only []
  obtain ⟨wa, hwa, ez, A0, C0, B0⟩ := two_new w [.int .i64 id, .int .i64 ep, .bool up, .bool rd, .bool bz, .int .i64 k, .int .i64 v, .int .i64 t, .int .i64 a, .string s, .int .i64 pc, .int .i64 cd, .int .i64 bk, .string tx, .slice p l.length cp, .int .i64 txn] [.int .i64 id, .int .i64 ep, .bool up, .bool rd, .bool bz, .int .i64 k, .int .i64 v, .int .i64 t, .int .i64 a, .string s, .int .i64 pc, .int .i64 cd, .int .i64 bk, .string tx, .slice q l.length cq, .int .i64 txn] 63 63
  have k0 := A0.c 0 rfl
  have k1 := A0.c 1 rfl
  have k2 := A0.c 2 rfl
  have k3 := A0.c 3 rfl
  have k4 := A0.c 4 rfl
  have k5 := A0.c 5 rfl
  have k6 := A0.c 6 rfl
  have k7 := A0.c 7 rfl
  have k8 := A0.c 8 rfl
  have k9 := A0.c 9 rfl
  have j0 := C0.c 0 rfl
  have j1 := C0.c 1 rfl
  have j2 := C0.c 2 rfl
  have j3 := C0.c 3 rfl
  have j4 := C0.c 4 rfl
  have j5 := C0.c 5 rfl
  have j6 := C0.c 6 rfl
  have j7 := C0.c 7 rfl
  have j8 := C0.c 8 rfl
  have j9 := C0.c 9 rfl
  have HA := hid A0
  have HC := hid C0
  have HB := hid B0
  clear A0 B0 C0 ez
  go_enter Tryz.func108, Tryz.ntmps108
  go_wp2_with fail
  try simp only [hwa]
  clear hwa
  refine (eqOp wa k v t a s).mono ?_
  rintro r w1 ⟨rfl, b1⟩
  have HA1 := hid (HA.out.below b1 HA.out.lt)
  have HC1 := hid (HC.out.below b1 HC.out.lt)
  have HB1 := hid (HB.out.trans (b1.mono HB.out.size))
  clear b1 HA HC HB k0 j0 k1 j1 k2 j2 k3 j3 k4 j4 k5 j5 k6 j6 k7 j7 k8 j8 k9 j9
  have k10 := HA1.out.c 10 rfl
  have k11 := HA1.out.c 11 rfl
  have k12 := HA1.out.c 12 rfl
  have k13 := HA1.out.c 13 rfl
  have k14 := HA1.out.c 14 rfl
  have j10 := HC1.out.c 10 rfl
  have j11 := HC1.out.c 11 rfl
  have j12 := HC1.out.c 12 rfl
  have j13 := HC1.out.c 13 rfl
  have j14 := HC1.out.c 14 rfl
  go_wp2_with fail
  refine (eqPlan w1 cd bk tx p q cp cq l (HS.out.below HB1.out) (HT.out.below HB1.out) HL.out).mono ?_
  rintro r w2 ⟨rfl, b2⟩
  have HB2 := hid (HB1.out.trans (b2.mono HB1.out.size))
  have k15 := (HA1.out.below b2 HA1.out.lt).c 15 rfl
  have j15 := (HC1.out.below b2 HC1.out.lt).c 15 rfl
  clear b2 HA1 HC1 k10 j10 k11 j11 k12 j12 k13 j13 k14 j14
  go_wp2
  go_ret
  exact ⟨rfl, HB2.out⟩

end Go.Proofs.YtaopkchkhdbfnaaGreatDoor.Pl

namespace Go.Proofs.YtaopkchkhdbfnaaGreatDoor.Pl
open Go.RowKit Go.Proofs.YtaopkchkhdbfnaaGreatDoor.Mem
set_option linter.unusedVariables false

theorem puts_setCells (g : Nat) : ∀ (vs : List Value) (w : World) (i : Nat), puts w g i vs = w.setCells g i vs
  | [], _, _ => rfl
  | v :: vs, w, i => by rw [puts, World.setCells]; exact puts_setCells g vs _ (i + 1)

theorem wpList_load_row {P : Program} {ops : Array Oper} {rest : List Oper} {op : Oper} {a : Act} {w : World} {Q : Exit → Act → World → Prop} (hgd : op.guard = none) (ty : TypeId) (x : Operand) (ho : op.op = .load ty x)
    (b : Nat) (hx : a.eval x = .pointer (some ⟨b, 0, none⟩)) (cs : List Value) (d : TypeDesc) (hr : Row w b cs)
    (hu : P.underlying ty = some d) (hd : d.isRow = true) (hi : (P.info? ty).map (·.size) = some cs.length)
    (h : wpList P ops Q rest (a.put op.dst (.agg cs.toArray)) w) : wpList P ops Q (op :: rest) a w :=
  wpList_load_mid hgd ty x ho b 0 hx cs d (fun j v hv => by rw [Nat.zero_add]; exact hr.c j hv) hu hd hi h

theorem wpList_store_row {P : Program} {ops : Array Oper} {rest : List Oper} {op : Oper} {a : Act} {w : World} {Q : Exit → Act → World → Prop} (hgd : op.guard = none) (ty : TypeId) (x y : Operand) (ho : op.op = .store ty x y)
    (b : Nat) (hx : a.eval x = .pointer (some ⟨b, 0, none⟩)) (xs cs : List Value) (hy : a.eval y = .agg cs.toArray) (hr : Row w b xs) (hl : cs.length = xs.length)
    (hi : (P.info? ty).map (·.size) = some cs.length) (h1 : cs.all (·.oneCell') = true)
    (h : wpList P ops Q rest (a.put op.dst undef) (puts w b 0 cs)) : wpList P ops Q (op :: rest) a w :=
  wpList_store_mid hgd ty x y ho b 0 cs.toArray hx hy
    (fun j hj => by
      have hj' : j < xs.length := by rw [← hl]; simpa using hj
      rw [Nat.zero_add]
      exact ⟨by rw [hr.c j (List.getElem?_eq_getElem hj')]; rfl, hr.f j⟩)
    (by rw [hi]; simp) (all_oneCell_toArray (fun v hv => List.all_eq_true.1 h1 v hv)) (by rw [puts_setCells] at h; exact h)

end Go.Proofs.YtaopkchkhdbfnaaGreatDoor.Pl

namespace Go.Proofs.YtaopkchkhdbfnaaGreatDoor.Pl
open Go.RowKit Go.Proofs.YtaopkchkhdbfnaaGreatDoor.Mem Go.Proofs.YtaopkchkhdbfnaaGreatDoor.Sec Go.Proofs.YtaopkchkhdbfnaaGreatDoor.Rd
set_option linter.unusedVariables false

set_option maxRecDepth 100000 in
set_option maxHeartbeats 8000000 in
theorem toHost (w : World) (H : Ho) (p : Option Addr) (c : Nat) (S : Ous w p H.l) (hl : H.l.length ≤ 1048576) :
    Calls Tryz.prog 96 #[hoV H p c] w fun r w' => ∃ g, r = .returned (hoV H (some ⟨g, 0, none⟩) H.l.length) ∧ w.heap.size ≤ g ∧ g < w'.heap.size ∧ OusW w' w.heap.size (some ⟨g, 0, none⟩) H.l ∧ Below w.heap.size w w' := by
  obtain ⟨id, ep, up, rd, bz, k, v, t, a, s, pc, cd, bk, tx, l, txn⟩ := H
  have HS : Hid (Ous w p l) := S
  replace hl : l.length ≤ 1048576 := hl
  clear S
  unfold hoV
  try simp only []
  go_enter Tryz.func96, Tryz.ntmps96
  go_wp2_with fail
  obtain ⟨wc, hwc, e2, A0, R0, O0, B0⟩ := three_news w [.int .i64 id, .int .i64 ep, .bool up, .bool rd, .bool bz, .int .i64 k, .int .i64 v, .int .i64 t, .int .i64 a, .string s, .int .i64 pc, .int .i64 cd, .int .i64 bk, .string tx, .slice p l.length c, .int .i64 txn] [.int .i64 0, .int .i64 0, .bool false, .bool false, .bool false, .int .i64 0, .int .i64 0, .int .i64 0, .int .i64 0, .string ⟨#[]⟩, .int .i64 0, .int .i64 0, .int .i64 0, .string ⟨#[]⟩, .slice none 0 0, .int .i64 0] [.int .i64 id, .int .i64 ep, .bool up, .bool rd, .bool bz, .int .i64 0, .int .i64 0, .int .i64 0, .int .i64 0, .string ⟨#[]⟩, .int .i64 0, .int .i64 0, .int .i64 0, .string ⟨#[]⟩, .slice none 0 0, .int .i64 0] 140 63
  simp only [hwc]
  clear hwc
  refine (toOp wc k v t a s).mono ?_
  rintro r w1 ⟨rfl, b1⟩
  replace A0 := A0.below b1 (by omega)
  replace R0 := R0.below b1 (by omega)
  replace O0 := O0.below b1 (by omega)
  replace B0 := B0.trans (b1.mono (by omega))
  have hs1 := b1.size
  have ca10 := A0.c 10 rfl
  have ca11 := A0.c 11 rfl
  have ca12 := A0.c 12 rfl
  have ca13 := A0.c 13 rfl
  have ca14 := A0.c 14 rfl
  have co5 := O0.c 5 rfl
  have co6 := O0.c 6 rfl
  have co7 := O0.c 7 rfl
  have co8 := O0.c 8 rfl
  have co9 := O0.c 9 rfl
  have co10 := O0.c 10 rfl
  have fo5 := O0.f 5
  have fo6 := O0.f 6
  have fo7 := O0.f 7
  have fo8 := O0.f 8
  have fo9 := O0.f 9
  have fo10 := O0.f 10
  have HA := hid A0
  have HR := hid R0
  have HO := hid O0
  clear A0 R0 O0 b1
  unfold opV
  go_wp2_with fail
  obtain ⟨w1', hw1', A0, R0, O0, B1, es⟩ : ∃ w1', ((((((w1.setCell ⟨w.heap.size + 1 + 1, 5, none⟩ (.int .i64 k)).setCell ⟨w.heap.size + 1 + 1, 6, none⟩ (.int .i64 v)).setCell ⟨w.heap.size + 1 + 1, 7, none⟩ (.int .i64 t)).setCell ⟨w.heap.size + 1 + 1, 8, none⟩ (.int .i64 a)).setCell ⟨w.heap.size + 1 + 1, 9, none⟩ (.string s)).setCell ⟨w.heap.size + 1 + 1, 10, none⟩ (.int .i64 pc)) = w1' ∧ Row w1' w.heap.size _ ∧ Row w1' (w.heap.size + 1) _ ∧ Row w1' (w.heap.size + 1 + 1) _ ∧ Below w.heap.size w w1' ∧ w1'.heap.size = w1.heap.size :=
    ⟨_, rfl, puts_other HA.out (by omega) 5 [.int .i64 k, .int .i64 v, .int .i64 t, .int .i64 a, .string s, .int .i64 pc], puts_other HR.out (by omega) 5 [.int .i64 k, .int .i64 v, .int .i64 t, .int .i64 a, .string s, .int .i64 pc], puts_row HO.out 5 [.int .i64 k, .int .i64 v, .int .i64 t, .int .i64 a, .string s, .int .i64 pc], puts_below B0 (by omega) 5 [.int .i64 k, .int .i64 v, .int .i64 t, .int .i64 a, .string s, .int .i64 pc], puts_size w1 _ 5 [.int .i64 k, .int .i64 v, .int .i64 t, .int .i64 a, .string s, .int .i64 pc]⟩
  simp only [hw1']
  clear hw1' HA HR HO B0 ca10 ca11 ca12 ca13 ca14 co5 fo5 co6 fo6 co7 fo7 co8 fo8 co9 fo9 co10 fo10
  refine (toPlan w1' cd bk tx p c l (HS.out.below B1) hl).mono ?_
  rintro r w2 ⟨g, rfl, hg, hl2, S2, b2⟩
  replace R0 := R0.below b2 R0.lt
  replace O0 := O0.below b2 O0.lt
  replace A0 := A0.below b2 A0.lt
  replace B1 := B1.trans (b2.mono (by omega))
  have d11 := O0.c 11 rfl
  have d12 := O0.c 12 rfl
  have d13 := O0.c 13 rfl
  have d14 := O0.c 14 rfl
  have fd11 := O0.f 11
  have fd12 := O0.f 12
  have fd13 := O0.f 13
  have fd14 := O0.f 14
  have HA := hid A0
  have HR := hid R0
  have HO := hid O0
  have HS2 := hid S2
  clear A0 R0 O0 b2 S2
  unfold plnV
  go_upto_region 10 with fail
  obtain ⟨w3, hw3, A0, R0, O0, B3, K3⟩ : ∃ w3, ((((w2.setCell ⟨w.heap.size + 1 + 1, 11, none⟩ (.int .i64 cd)).setCell ⟨w.heap.size + 1 + 1, 12, none⟩ (.int .i64 bk)).setCell ⟨w.heap.size + 1 + 1, 13, none⟩ (.string tx)).setCell ⟨w.heap.size + 1 + 1, 14, none⟩ (.slice (some ⟨g, 0, none⟩) l.length l.length)) = w3 ∧ Row w3 w.heap.size _ ∧ Row w3 (w.heap.size + 1) _ ∧ Row w3 (w.heap.size + 1 + 1) _ ∧ Below w.heap.size w w3 ∧ Kept (fun b => b = w.heap.size + 1 + 1) w2 w3 :=
    ⟨_, rfl, puts_other HA.out (by omega) 11 [.int .i64 cd, .int .i64 bk, .string tx, .slice (some ⟨g, 0, none⟩) l.length l.length], puts_other HR.out (by omega) 11 [.int .i64 cd, .int .i64 bk, .string tx, .slice (some ⟨g, 0, none⟩) l.length l.length], puts_row HO.out 11 [.int .i64 cd, .int .i64 bk, .string tx, .slice (some ⟨g, 0, none⟩) l.length l.length], puts_below B1 (by omega) 11 [.int .i64 cd, .int .i64 bk, .string tx, .slice (some ⟨g, 0, none⟩) l.length l.length], puts_kept w2 _ 11 [.int .i64 cd, .int .i64 bk, .string tx, .slice (some ⟨g, 0, none⟩) l.length l.length]⟩
  try simp only [hw3]
  clear hw3 d11 d12 d13 d14 fd11 fd12 fd13 fd14 HA HR HO B1
  have a15 := A0.c 15 rfl
  have d15 := O0.c 15 rfl
  have fd15 := O0.f 15
  have HR := hid R0
  have HO := hid O0
  clear A0 R0 O0
  go_upto_region 11 with fail
  obtain ⟨w4, hw4, R0, O0, B4, K4⟩ : ∃ w4, w3.setCell ⟨w.heap.size + 1 + 1, 15, none⟩ (.int .i64 txn) = w4 ∧ Row w4 (w.heap.size + 1) _ ∧ Row w4 (w.heap.size + 1 + 1) _ ∧ Below w.heap.size w w4 ∧ Kept (fun b => b = w.heap.size + 1 + 1) w3 w4 :=
    ⟨_, rfl, HR.out.other (p := ⟨w.heap.size + 1 + 1, 15, none⟩) (by show w.heap.size + 1 ≠ w.heap.size + 1 + 1; omega) _, HO.out.set 15 (.int .i64 txn), below_set B3 _ _ _ (by omega), kept_set w3 _ _ _⟩
  try simp only [hw4]
  clear hw4 a15 d15 fd15 HR HO
  refine wp_region_list ?_
  refine wpList_load_row rfl 63 _ rfl (w.heap.size + 1 + 1) rfl [.int .i64 id, .int .i64 ep, .bool up, .bool rd, .bool bz, .int .i64 k, .int .i64 v, .int .i64 t, .int .i64 a, .string s, .int .i64 pc, .int .i64 cd, .int .i64 bk, .string tx, .slice (some ⟨g, 0, none⟩) l.length l.length, .int .i64 txn] _ O0 Tryz.underlying63 rfl (by kernel_rfl) ?_
  refine wpList_store_row rfl 63 _ _ rfl (w.heap.size + 1) rfl _ [.int .i64 id, .int .i64 ep, .bool up, .bool rd, .bool bz, .int .i64 k, .int .i64 v, .int .i64 t, .int .i64 a, .string s, .int .i64 pc, .int .i64 cd, .int .i64 bk, .string tx, .slice (some ⟨g, 0, none⟩) l.length l.length, .int .i64 txn] rfl R0 rfl (by kernel_rfl) rfl ?_
  have HR := hid (puts_row R0 0 [.int .i64 id, .int .i64 ep, .bool up, .bool rd, .bool bz, .int .i64 k, .int .i64 v, .int .i64 t, .int .i64 a, .string s, .int .i64 pc, .int .i64 cd, .int .i64 bk, .string tx, .slice (some ⟨g, 0, none⟩) l.length l.length, .int .i64 txn])
  have HB := hid (puts_below B4 (show w.heap.size ≤ w.heap.size + 1 by omega) 0 [.int .i64 id, .int .i64 ep, .bool up, .bool rd, .bool bz, .int .i64 k, .int .i64 v, .int .i64 t, .int .i64 a, .string s, .int .i64 pc, .int .i64 cd, .int .i64 bk, .string tx, .slice (some ⟨g, 0, none⟩) l.length l.length, .int .i64 txn])
  have HK := hid (((K3.trans K4).trans (puts_kept w4 (w.heap.size + 1) 0 [.int .i64 id, .int .i64 ep, .bool up, .bool rd, .bool bz, .int .i64 k, .int .i64 v, .int .i64 t, .int .i64 a, .string s, .int .i64 pc, .int .i64 cd, .int .i64 bk, .string tx, .slice (some ⟨g, 0, none⟩) l.length l.length, .int .i64 txn])).mono (T := fun b => b < wc.heap.size) (fun b _ hb => by rcases hb with (h | h) | h <;> omega))
  have hz : w2.heap.size ≤ (puts w4 (w.heap.size + 1) 0 [.int .i64 id, .int .i64 ep, .bool up, .bool rd, .bool bz, .int .i64 k, .int .i64 v, .int .i64 t, .int .i64 a, .string s, .int .i64 pc, .int .i64 cd, .int .i64 bk, .string tx, .slice (some ⟨g, 0, none⟩) l.length l.length, .int .i64 txn]).heap.size := HK.out.size
  generalize puts w4 (w.heap.size + 1) 0 [.int .i64 id, .int .i64 ep, .bool up, .bool rd, .bool bz, .int .i64 k, .int .i64 v, .int .i64 t, .int .i64 a, .string s, .int .i64 pc, .int .i64 cd, .int .i64 bk, .string tx, .slice (some ⟨g, 0, none⟩) l.length l.length, .int .i64 txn] = w5 at *
  clear R0 O0 B3 B4 K3 K4
  refine wpList_nil ?_
  go_wp2
  refine bodyPost_ret (results_row rfl _ _ (w.heap.size + 1) [.int .i64 id, .int .i64 ep, .bool up, .bool rd, .bool bz, .int .i64 k, .int .i64 v, .int .i64 t, .int .i64 a, .string s, .int .i64 pc, .int .i64 cd, .int .i64 bk, .string tx, .slice (some ⟨g, 0, none⟩) l.length l.length, .int .i64 txn] _ rfl HR.out Tryz.underlying63 rfl (by kernel_rfl)) rfl ?_
  refine ⟨g, rfl, by omega, by omega, ?_, HB.out⟩
  exact (HS2.out.move HK.out (fun b hb => by have := HS2.out.foot_ge hb; omega)).mono (by omega)

end Go.Proofs.YtaopkchkhdbfnaaGreatDoor.Pl

namespace Go.Proofs.YtaopkchkhdbfnaaGreatDoor.Pl
open Go.RowKit Go.ChangeShapes Go.WideShapes Go.ChangeAt Go.Joins Go.Deep
open Go.Proofs.YtaopkchkhdbfnaaGreatDoor.Mem Go.Proofs.YtaopkchkhdbfnaaGreatDoor.Sec
set_option linter.unusedVariables false

variable {H : Type} {enc : TypeId × Value → H} {W : World} {base : Nat} {spare : Nat → Bool} {held : Bool}

theorem sl_of_addO {w : World} {a : Addr} {m : Nat} {f : Nat → Value} (h : ∀ i, i < m → w.cell? (a.add i) = some (f i)) : Sl w (some a) m f := by
  intro i hi
  have hc := h i hi
  obtain ⟨b, off, sp⟩ := a
  have hs : sp = none := by simpa [Addr.add] using World.cell?_spot (h 0 (by omega))
  subst hs
  rw [Addr.add_mid] at hc
  exact ⟨b, off, rfl, hc⟩

set_option maxRecDepth 100000 in
theorem out_in {fuel : Nat} {cs : List Value} {x : DataW H × List MemPlace} (h : DataW.trod enc Tryz.prog W base spare held fuel 287 cs = some x) :
    ∃ y : Ou, cs = y.cells ∧ y.text.size ≤ maxLen := by
  have c2 : Tryz.prog.cellsOf 287 = 2 := by kernel_rfl
  have cs9 : Tryz.prog.cellsOf 9 = 1 := by kernel_rfl
  obtain ⟨y0, y1, n, _, hl, f0, f1⟩ := trod_struct2 Tryz.underlying287 h
  rw [c2] at hl
  match cs, hl with
  | [v0, v1], _ =>
    replace f0 : DataW.trod enc Tryz.prog W base spare held n 3 [v0] = some y0 := by simpa [cInt] using f0
    replace f1 : DataW.trod enc Tryz.prog W base spare held n 9 [v1] = some y1 := by simpa [cs9] using f1
    obtain ⟨n0, e0, _, _⟩ := DataW.trod_int Tryz.underlying3 f0
    obtain ⟨s1, e1, _, hs⟩ := DataW.trod_string Tryz.underlying9 f1
    simp only [List.cons.injEq, and_true] at e0 e1
    subst e0; subst e1
    exact ⟨⟨n0, s1⟩, rfl, hs⟩

set_option maxRecDepth 100000 in
theorem outs_in {fuel : Nat} {v : Value} {x : DataW H × List MemPlace} (h : DataW.trod enc Tryz.prog W base spare held fuel 136 [v] = some x) :
    ∃ a cap l, v = .slice a (l : List Ou).length cap ∧ Ous W a l ∧ l.length ≤ maxLen ∧ ∀ y ∈ l, y.text.size ≤ maxLen := by
  have c2 : Tryz.prog.cellsOf 287 = 2 := by kernel_rfl
  rcases open_slice Tryz.underlying136 h with ⟨hcs, _⟩ | ⟨a, len, cap, m, n, D, Pl, hcs, _, hl, hm, hmm, _, hx⟩
  · simp only [List.cons.injEq, and_true] at hcs
    exact ⟨none, 0, [], hcs, fun i hi => by simp at hi, by simp, by simp⟩
  · simp only [List.cons.injEq, and_true] at hcs
    have hlm : len ≤ m := by rw [hmm]; split <;> omega
    have each : ∀ i, ∃ y : Ou, i < len → W.cells? base (a.add (i * 2)) 2 = some y.cells ∧ y.text.size ≤ maxLen := fun i => by
      by_cases hi : i < len
      · obtain ⟨cs', hc, ht⟩ := hx i (by omega)
        rw [c2] at hc
        obtain ⟨y, rfl, hy⟩ := out_in ht
        exact ⟨y, fun _ => ⟨hc, hy⟩⟩
      · exact ⟨Ou.none, fun h => absurd h hi⟩
    obtain ⟨Y, hY⟩ := Classical.axiomOfChoice each
    refine ⟨some a, cap, (List.range len).map Y, by rw [hcs]; simp, ?_, by simp; omega, ?_⟩
    · unfold Ous
      rw [List.length_map, List.length_range]
      refine sl_of_addO (fun i hi => ?_)
      have hq : i / 2 < len := by omega
      have hc := (World.cells?_some (hY (i / 2) hq).1).2.2 (i % 2) (by omega)
      rw [Addr.add_add, show i / 2 * 2 + i % 2 = i by omega] at hc
      rw [hc]
      unfold ocell
      have e : ((List.range len).map Y).getD (i / 2) Ou.none = Y (i / 2) := by simp [List.getD, hq]
      rw [e]
      have : i % 2 = 0 ∨ i % 2 = 1 := by omega
      rcases this with h | h <;> rw [h] <;> rfl
    · intro s hs
      obtain ⟨i, hi, rfl⟩ := List.mem_map.1 hs
      exact (hY i (List.mem_range.1 hi)).2

set_option maxRecDepth 100000 in
theorem plan_in {fuel : Nat} {cs : List Value} {x : DataW H × List MemPlace} (h : DataW.trod enc Tryz.prog W base spare held fuel 138 cs = some x) :
    ∃ (cd bk : Int) (tx : ByteArray) (p : Option Addr) (c : Nat) (l : List Ou), cs = [.int .i64 cd, .int .i64 bk, .string tx, .slice p l.length c] ∧ Ous W p l ∧ tx.size ≤ maxLen ∧ l.length ≤ maxLen ∧ ∀ y ∈ l, y.text.size ≤ maxLen := by
  obtain ⟨xs, n, _, rfl, hl, hlen, hf⟩ := DataW.trod_struct Tryz.underlying138 h
  have c4 : Tryz.prog.cellsOf 138 = 4 := by kernel_rfl
  have cs9 : Tryz.prog.cellsOf 9 = 1 := by kernel_rfl
  have cS : Tryz.prog.cellsOf 136 = 1 := by kernel_rfl
  rw [c4] at hl
  match xs, hlen, cs, hl with
  | [y0, y1, y2, y3], _, [v0, v1, v2, v3], _ =>
    have f0 : DataW.trod enc Tryz.prog W base spare held n 3 [v0] = some y0 := by simpa [cInt] using hf 0 _ rfl
    have f1 : DataW.trod enc Tryz.prog W base spare held n 3 [v1] = some y1 := by simpa [cInt] using hf 1 _ rfl
    have f2 : DataW.trod enc Tryz.prog W base spare held n 9 [v2] = some y2 := by simpa [cInt, cs9] using hf 2 _ rfl
    have f3 : DataW.trod enc Tryz.prog W base spare held n 136 [v3] = some y3 := by simpa [cInt, cs9, cS] using hf 3 _ rfl
    obtain ⟨n0, e0, _, _⟩ := DataW.trod_int Tryz.underlying3 f0
    obtain ⟨n1, e1, _, _⟩ := DataW.trod_int Tryz.underlying3 f1
    obtain ⟨s2, e2, _, hs⟩ := DataW.trod_string Tryz.underlying9 f2
    obtain ⟨a, cap, l, rfl, S, hm, he⟩ := outs_in f3
    simp only [List.cons.injEq, and_true] at e0 e1 e2
    subst e0; subst e1; subst e2
    exact ⟨n0, n1, s2, a, cap, l, rfl, S, hs, hm, he⟩

set_option maxRecDepth 100000 in
/-- A host that came in. -/
theorem host_in {v : Value} {d : DataW H} {p : List MemPlace} {r : Reach} {b0 : Nat} (hv : Value.okWide Tryz.prog W r b0 140 v) (h : DataW.Trod enc Tryz.prog W base spare held 140 v d p) :
    ∃ (J : Ho) (a : Option Addr) (cap : Nat), v = hoV J a cap ∧ Ous W a J.l ∧ J.Upto maxLen := by
  have c16 : Tryz.prog.cellsOf 140 = 16 := by kernel_rfl
  have cO : Tryz.prog.cellsOf 135 = 5 := by kernel_rfl
  have cP : Tryz.prog.cellsOf 138 = 4 := by kernel_rfl
  have cB : Tryz.prog.cellsOf 4 = 1 := by kernel_rfl
  obtain ⟨cs, rfl, hsz⟩ := okWide_struct Tryz.underlying140 hv
  rw [c16] at hsz
  obtain ⟨v0, v1, v2, v3, v4, v5, v6, v7, v8, v9, v10, v11, v12, v13, v14, v15, rfl⟩ : ∃ v0 v1 v2 v3 v4 v5 v6 v7 v8 v9 v10 v11 v12 v13 v14 v15, cs = #[v0, v1, v2, v3, v4, v5, v6, v7, v8, v9, v10, v11, v12, v13, v14, v15] := by
    obtain ⟨l⟩ := cs
    match l, hsz with
    | [v0, v1, v2, v3, v4, v5, v6, v7, v8, v9, v10, v11, v12, v13, v14, v15], _ => exact ⟨v0, v1, v2, v3, v4, v5, v6, v7, v8, v9, v10, v11, v12, v13, v14, v15, rfl⟩
  obtain ⟨fuel, hf⟩ := h
  obtain ⟨xs, n, _, _, _, hlen, hf⟩ := DataW.trod_struct Tryz.underlying140 hf
  match xs, hlen with
  | [y0, y1, y2, y3, y4, y5, y6, y7, y8], _ =>
    have f0 : DataW.trod enc Tryz.prog W base spare held n 3 [v0] = some y0 := by simpa [cInt, Value.cells] using hf 0 _ rfl
    have f1 : DataW.trod enc Tryz.prog W base spare held n 3 [v1] = some y1 := by simpa [cInt, Value.cells] using hf 1 _ rfl
    have f2 : DataW.trod enc Tryz.prog W base spare held n 4 [v2] = some y2 := by simpa [cInt, cB, Value.cells] using hf 2 _ rfl
    have f3 : DataW.trod enc Tryz.prog W base spare held n 4 [v3] = some y3 := by simpa [cInt, cB, Value.cells] using hf 3 _ rfl
    have f4 : DataW.trod enc Tryz.prog W base spare held n 4 [v4] = some y4 := by simpa [cInt, cB, Value.cells] using hf 4 _ rfl
    have f5 : DataW.trod enc Tryz.prog W base spare held n 135 [v5, v6, v7, v8, v9] = some y5 := by simpa [cInt, cB, cO, Value.cells] using hf 5 _ rfl
    have f6 : DataW.trod enc Tryz.prog W base spare held n 3 [v10] = some y6 := by simpa [cInt, cB, cO, Value.cells] using hf 6 _ rfl
    have f7 : DataW.trod enc Tryz.prog W base spare held n 138 [v11, v12, v13, v14] = some y7 := by simpa [cInt, cB, cO, cP, Value.cells] using hf 7 _ rfl
    have f8 : DataW.trod enc Tryz.prog W base spare held n 3 [v15] = some y8 := by simpa [cInt, cB, cO, cP, Value.cells] using hf 8 _ rfl
    obtain ⟨n0, e0, _, _⟩ := DataW.trod_int Tryz.underlying3 f0
    obtain ⟨n1, e1, _, _⟩ := DataW.trod_int Tryz.underlying3 f1
    obtain ⟨b2, e2, _⟩ := DataW.trod_bool Tryz.underlying4 f2
    obtain ⟨b3, e3, _⟩ := DataW.trod_bool Tryz.underlying4 f3
    obtain ⟨b4, e4, _⟩ := DataW.trod_bool Tryz.underlying4 f4
    obtain ⟨k, v, t, at_, s, e5, hs⟩ := op_in f5
    obtain ⟨n6, e6, _, _⟩ := DataW.trod_int Tryz.underlying3 f6
    obtain ⟨cd, bk, tx, a, cap, l, e7, S, ht, hm, he⟩ := plan_in f7
    obtain ⟨n8, e8, _, _⟩ := DataW.trod_int Tryz.underlying3 f8
    simp only [List.cons.injEq, and_true] at e0 e1 e2 e3 e4 e5 e6 e7 e8
    obtain ⟨rfl, rfl, rfl, rfl, rfl⟩ := e5
    obtain ⟨rfl, rfl, rfl, rfl⟩ := e7
    subst e0; subst e1; subst e2; subst e3; subst e4; subst e6; subst e8
    exact ⟨⟨n0, n1, b2, b3, b4, k, v, t, at_, s, n6, cd, bk, tx, l, n8⟩, a, cap, rfl, S, ⟨hs, ht, hm, he⟩⟩

end Go.Proofs.YtaopkchkhdbfnaaGreatDoor.Pl

namespace Go.Proofs.YtaopkchkhdbfnaaGreatDoor.Pl
open Go.RowKit Go.Proofs.YtaopkchkhdbfnaaGreatDoor.Mem
set_option linter.unusedVariables false

/-- An event: who, which try, and the call. -/
structure Ev where
  h : Int
  x : Int
  k : Int
  v : Int
  t : Int
  a : Int
  s : ByteArray

def Ev.none : Ev := ⟨0, 0, 0, 0, 0, 0, ByteArray.empty⟩
def Ev.cells (e : Ev) : List Value := [.int .i64 e.h, .int .i64 e.x, .int .i64 e.k, .int .i64 e.v, .int .i64 e.t, .int .i64 e.a, .string e.s]
def Ev.val (e : Ev) : Value := .agg #[.int .i64 e.h, .int .i64 e.x, .int .i64 e.k, .int .i64 e.v, .int .i64 e.t, .int .i64 e.a, .string e.s]
def Ev.op (e : Ev) : Value := opV e.k e.v e.t e.a e.s

def evcell (l : List Ev) (i : Nat) : Value := (l.getD (i / 7) Ev.none).cells.getD (i % 7) undef
def Evs (w : World) (a : Option Addr) (l : List Ev) : Prop := Sl w a (l.length * 7) (evcell l)
def EvsW (w : World) (B : Nat) (a : Option Addr) (l : List Ev) : Prop := Wr w B a (l.length * 7) (evcell l)

theorem evcell_at (l : List Ev) (k j : Nat) (hj : j < 7) : evcell l (k * 7 + j) = (l.getD k Ev.none).cells.getD j undef := by
  unfold evcell
  rw [show (k * 7 + j) / 7 = k by omega, show (k * 7 + j) % 7 = j by omega]

theorem Evs.at_ {w : World} {a : Option Addr} {l : List Ev} (h : Evs w a l) (k : Nat) (hk : k < l.length) : ∃ b off, a = some ⟨b, off, none⟩ ∧
    w.cell? ⟨b, off + k * 7, none⟩ = some (.int .i64 (l.getD k Ev.none).h) ∧ w.cell? ⟨b, off + k * 7 + 1, none⟩ = some (.int .i64 (l.getD k Ev.none).x) ∧ w.cell? ⟨b, off + k * 7 + 2, none⟩ = some (.int .i64 (l.getD k Ev.none).k) ∧ w.cell? ⟨b, off + k * 7 + 3, none⟩ = some (.int .i64 (l.getD k Ev.none).v) ∧ w.cell? ⟨b, off + k * 7 + 4, none⟩ = some (.int .i64 (l.getD k Ev.none).t) ∧ w.cell? ⟨b, off + k * 7 + 5, none⟩ = some (.int .i64 (l.getD k Ev.none).a) ∧ w.cell? ⟨b, off + k * 7 + 6, none⟩ = some (.string (l.getD k Ev.none).s) := by
  obtain ⟨b, off, rfl, h0⟩ := h (k * 7 + 0) (by omega)
  obtain ⟨b1, off1, e1, h1⟩ := h (k * 7 + 1) (by omega)
  cases e1
  obtain ⟨b2, off2, e2, h2⟩ := h (k * 7 + 2) (by omega)
  cases e2
  obtain ⟨b3, off3, e3, h3⟩ := h (k * 7 + 3) (by omega)
  cases e3
  obtain ⟨b4, off4, e4, h4⟩ := h (k * 7 + 4) (by omega)
  cases e4
  obtain ⟨b5, off5, e5, h5⟩ := h (k * 7 + 5) (by omega)
  cases e5
  obtain ⟨b6, off6, e6, h6⟩ := h (k * 7 + 6) (by omega)
  cases e6
  rw [evcell_at l k _ (by omega)] at h0 h1 h2 h3 h4 h5 h6
  exact ⟨b, off, rfl, h0, by rw [Nat.add_assoc]; exact h1, by rw [Nat.add_assoc]; exact h2, by rw [Nat.add_assoc]; exact h3, by rw [Nat.add_assoc]; exact h4, by rw [Nat.add_assoc]; exact h5, by rw [Nat.add_assoc]; exact h6⟩

set_option maxRecDepth 100000 in
set_option maxHeartbeats 2000000 in
theorem szEvent (w : World) (x : Ev) (left : Int) (hl : x.s.size ≤ maxLen) (h0 : 0 ≤ left) (h1 : left ≤ 1048576) :
    Calls Tryz.prog 87 #[x.val, .int .i64 left] w fun e w' => ∃ r, e = .returned (.int .i64 r) ∧ Below w.heap.size w w' ∧ Fits1 r left x.s.size := by
  obtain ⟨h, x, k, v, t, a, s⟩ := x
  unfold Ev.val
  simp only [] at hl ⊢
  obtain ⟨wa, hwa, ez, A0, B0⟩ := one_new w [.int .i64 h, .int .i64 x, .int .i64 k, .int .i64 v, .int .i64 t, .int .i64 a, .string s] 143
  have HA := hid A0
  have HB := hid B0
  clear A0 B0
  have k2 := HA.out.c 2 rfl
  have k3 := HA.out.c 3 rfl
  have k4 := HA.out.c 4 rfl
  have k5 := HA.out.c 5 rfl
  have k6 := HA.out.c 6 rfl
  go_enter Tryz.func87, Tryz.ntmps87
  go_wp2_with fail
  refine (szOp wa k v t a s left hl h0 h1).mono ?_
  rintro e w1 ⟨r, rfl, b1, hr⟩
  have HB1 := hid (HB.out.trans (b1.mono HB.out.size))
  have HR := hid hr
  clear b1 hwa k2 k3 k4 k5 k6 hr
  by_cases hneg : r < 0
  · go_wp2
    go_ret
    exact ⟨_, rfl, HB1.out, Or.inl (by decide)⟩
  · go_wp2
    go_ret
    exact ⟨_, rfl, HB1.out, HR.out⟩

/-- What is left: a number below 0, or one not above what was, and all fits. -/
def FitE (r left : Int) (l : List Ev) : Prop := r < 0 ∨ (0 ≤ r ∧ r ≤ left ∧ (l.length : Int) ≤ left ∧ ∀ x ∈ l, (x.s.size : Int) ≤ left)

set_option maxRecDepth 100000 in
set_option maxHeartbeats 2000000 in
theorem szEventS (w : World) (a : Option Addr) (cap : Nat) (l : List Ev) (left : Int) (S : Evs w a l) (hl : l.length ≤ maxLen) (hs : ∀ x ∈ l, x.s.size ≤ maxLen) (h0 : 0 ≤ left) (h1 : left ≤ 1048576) :
    Calls Tryz.prog 25 #[.slice a l.length cap, .int .i64 left] w fun e w' => ∃ r, e = .returned (.int .i64 r) ∧ Below w.heap.size w w' ∧ FitE r left l := by
  unfold maxLen at hl
  have HS := hid S
  have Hs := hid hs
  clear S hs
  by_cases hb : left < (l.length : Int)
  · go_enter Tryz.func25, Tryz.ntmps25
    go_wp2
    go_ret
    exact ⟨_, rfl, Below.refl _ _, Or.inl (by decide)⟩
  go_enter Tryz.func25, Tryz.ntmps25
  go_wp2
  go_loopw [1, 5] (fun z i wr => ∃ (k : Nat) (m : Int), k ≤ l.length ∧ i = .int .i64 (k : Int) ∧ z = .int .i64 m ∧ 0 ≤ m ∧ m ≤ left ∧ Hid (∀ j, j < k → ((l.getD j Ev.none).s.size : Int) ≤ left) ∧ Hid (Below w.heap.size w wr)) (fun _ i _ => l.length - (intOf i).toNat)
  case atStart => exact ⟨0, left - l.length, Nat.zero_le _, rfl, rfl, by omega, by omega, fun j hj => by omega, Below.refl _ _⟩
  case round =>
    obtain ⟨k, m, hk, rfl, rfl, hm0, hm1, HJ, HB⟩ := hrel
    by_cases hlt : k < l.length
    · obtain ⟨b, off, rfl, c0, c1, c2, c3, c4, c5, c6⟩ := Evs.at_ (HS.out.below HB.out) k hlt
      have hx : (l.getD k Ev.none).s.size ≤ maxLen := Hs.out _ (by simp [List.getD, hlt])
      generalize hq : l.getD k Ev.none = x at c0 c1 c2 c3 c4 c5 c6 hx
      have HX := hid hq
      clear hq
      have HC := hid (szEvent wr x m hx hm0 (by omega))
      clear hx
      unfold Ev.val at HC
      obtain ⟨xh, xx, xk, xv, xt, xa, xs⟩ := x
      simp only [] at c0 c1 c2 c3 c4 c5 c6 HC
      go_wp2_with fail
      refine HC.out.mono ?_
      rintro e w1 ⟨r, rfl, b1, hf⟩
      have HB1 := hid (HB.out.trans (b1.mono HB.out.size))
      have HF := hid hf
      clear b1 hf c0 c1 c2 c3 c4 c5 c6
      by_cases hr : r < 0
      · go_wp2
        go_ret
        exact ⟨_, rfl, HB1.out, Or.inl (by decide)⟩
      · have hf : 0 ≤ r ∧ r ≤ m ∧ (xs.size : Int) ≤ m := by
          rcases HF.out with h | h
          · omega
          · exact h
        have hf1 := hf.1
        have hf2 := hf.2.1
        have HF2 := hid hf.2.2
        clear hf HF HC
        go_wp2
        exact ⟨⟨k + 1, r, by omega, by go_num, rfl, hf1, by omega, fun j hj => by
          by_cases h : j = k
          · subst h; rw [HX.out]; have := HF2.out; show (xs.size : Int) ≤ left; omega
          · exact HJ.out j (by omega), HB1⟩, by simp [intOf]; omega⟩
    · obtain rfl : k = l.length := by omega
      go_wp2
      go_ret
      refine ⟨_, rfl, HB.out, Or.inr ⟨hm0, hm1, by omega, fun x hx => ?_⟩⟩
      obtain ⟨j, hj, rfl⟩ := List.getElem_of_mem hx
      have := HJ.out j hj
      rwa [List.getD, List.getElem?_eq_getElem hj] at this

end Go.Proofs.YtaopkchkhdbfnaaGreatDoor.Pl

namespace Go.Proofs.YtaopkchkhdbfnaaGreatDoor.Pl
open Go.RowKit Go.Proofs.YtaopkchkhdbfnaaGreatDoor.Mem
set_option linter.unusedVariables false

set_option maxRecDepth 100000 in
set_option maxHeartbeats 2000000 in
theorem toEvent (w : World) (x : Ev) : Calls Tryz.prog 97 #[x.val] w fun e w' => e = .returned x.val ∧ Below w.heap.size w w' := by
  obtain ⟨h, x, k, v, t, a, s⟩ := x
  unfold Ev.val
  simp only []
  have HT := hid (fun w => toOp w k v t a s)
  unfold opV at HT
  go_enter Tryz.func97, Tryz.ntmps97
  go_wp2_with fail
  obtain ⟨wc, hwc, e2, A0, R0, O0, B0⟩ := three_news w [.int .i64 h, .int .i64 x, .int .i64 k, .int .i64 v, .int .i64 t, .int .i64 a, .string s] [.int .i64 0, .int .i64 0, .int .i64 0, .int .i64 0, .int .i64 0, .int .i64 0, .string ⟨#[]⟩] [.int .i64 h, .int .i64 x, .int .i64 0, .int .i64 0, .int .i64 0, .int .i64 0, .string ⟨#[]⟩] 143 67
  simp only [hwc]
  clear hwc
  refine (HT.out wc).mono ?_
  rintro r w2 ⟨rfl, b2⟩
  replace R0 := R0.below b2 R0.lt
  replace O0 := O0.below b2 O0.lt
  replace B0 := B0.trans (b2.mono (by omega))
  have d0 := O0.c 0 rfl
  have d1 := O0.c 1 rfl
  have d2 := O0.c 2 rfl
  have d3 := O0.c 3 rfl
  have d4 := O0.c 4 rfl
  have d5 := O0.c 5 rfl
  have d6 := O0.c 6 rfl
  have fd2 := O0.f 2
  have fd3 := O0.f 3
  have fd4 := O0.f 4
  have fd5 := O0.f 5
  have fd6 := O0.f 6
  have r0 := R0.c 0 rfl
  have r1 := R0.c 1 rfl
  have r2 := R0.c 2 rfl
  have r3 := R0.c 3 rfl
  have r4 := R0.c 4 rfl
  have r5 := R0.c 5 rfl
  have r6 := R0.c 6 rfl
  have f0 := R0.f 0
  have f1 := R0.f 1
  have f2 := R0.f 2
  have f3 := R0.f 3
  have f4 := R0.f 4
  have f5 := R0.f 5
  have f6 := R0.f 6
  have HO := hid O0
  have HB := hid B0
  have HR := hid R0
  clear R0 O0 b2 B0 A0
  go_upto_region 5 with fail
  obtain ⟨w3, hw3, R0, O0, B3⟩ : ∃ w3, (((((w2.setCell ⟨w.heap.size + 1 + 1, 2, none⟩ (.int .i64 k)).setCell ⟨w.heap.size + 1 + 1, 3, none⟩ (.int .i64 v)).setCell ⟨w.heap.size + 1 + 1, 4, none⟩ (.int .i64 t)).setCell ⟨w.heap.size + 1 + 1, 5, none⟩ (.int .i64 a)).setCell ⟨w.heap.size + 1 + 1, 6, none⟩ (.string s)) = w3 ∧ Row w3 (w.heap.size + 1) _ ∧ Row w3 (w.heap.size + 1 + 1) _ ∧ Below w.heap.size w w3 :=
    ⟨_, rfl, puts_other HR.out (by omega) 2 [.int .i64 k, .int .i64 v, .int .i64 t, .int .i64 a, .string s], puts_row HO.out 2 [.int .i64 k, .int .i64 v, .int .i64 t, .int .i64 a, .string s], puts_below HB.out (by omega) 2 [.int .i64 k, .int .i64 v, .int .i64 t, .int .i64 a, .string s]⟩
  try simp only [hw3]
  clear hw3
  refine wp_region_list ?_
  refine wpList_load_row rfl 67 _ rfl (w.heap.size + 1 + 1) rfl [.int .i64 h, .int .i64 x, .int .i64 k, .int .i64 v, .int .i64 t, .int .i64 a, .string s] _ O0 Tryz.underlying67 rfl (by kernel_rfl) ?_
  refine wpList_store_row rfl 67 _ _ rfl (w.heap.size + 1) rfl _ [.int .i64 h, .int .i64 x, .int .i64 k, .int .i64 v, .int .i64 t, .int .i64 a, .string s] rfl R0 rfl (by kernel_rfl) rfl ?_
  have HR3 := hid (puts_row R0 0 [.int .i64 h, .int .i64 x, .int .i64 k, .int .i64 v, .int .i64 t, .int .i64 a, .string s])
  have HB3 := hid (puts_below B3 (show w.heap.size ≤ w.heap.size + 1 by omega) 0 [.int .i64 h, .int .i64 x, .int .i64 k, .int .i64 v, .int .i64 t, .int .i64 a, .string s])
  generalize puts w3 (w.heap.size + 1) 0 [.int .i64 h, .int .i64 x, .int .i64 k, .int .i64 v, .int .i64 t, .int .i64 a, .string s] = w5 at *
  clear R0 O0 B3
  go_wp2
  refine bodyPost_ret (results_row rfl _ _ (w.heap.size + 1) [.int .i64 h, .int .i64 x, .int .i64 k, .int .i64 v, .int .i64 t, .int .i64 a, .string s] _ rfl HR3.out Tryz.underlying67 rfl (by kernel_rfl)) rfl ?_
  exact ⟨rfl, HB3.out⟩

theorem infoE : (Tryz.prog.info? 67).map (fun i => (i.zero, i.size, i.bytes)) = some (some (.agg #[.int .i64 0, .int .i64 0, .int .i64 0, .int .i64 0, .int .i64 0, .int .i64 0, .string ByteArray.empty]), 7, 64) := by kernel_rfl

/-- What stands in the new row behind k rounds. -/
def partE (l : List Ev) (k : Nat) (i : Nat) : Value := if i < k * 7 then evcell l i else Ev.none.cells.getD (i % 7) undef

theorem set7 {w : World} {B b : Nat} {m : Nat} {f : Nat → Value} (h : Wr w B (some ⟨b, 0, none⟩) m f) (k : Nat) (hk : k * 7 + 7 ≤ m) (v0 v1 v2 v3 v4 v5 v6 : Value) :
    Wr (((((((w.setCell ⟨b, k * 7, none⟩ v0).setCell ⟨b, k * 7 + 1, none⟩ v1).setCell ⟨b, k * 7 + 2, none⟩ v2).setCell ⟨b, k * 7 + 3, none⟩ v3).setCell ⟨b, k * 7 + 4, none⟩ v4).setCell ⟨b, k * 7 + 5, none⟩ v5).setCell ⟨b, k * 7 + 6, none⟩ v6) B (some ⟨b, 0, none⟩) m (fun j => if j / 7 = k then [v0, v1, v2, v3, v4, v5, v6].getD (j % 7) undef else f j) := by
  have h0 := h.set (k * 7) (by omega) v0
  have h1 := h0.set (k * 7 + 1) (by omega) v1
  have h2 := h1.set (k * 7 + 2) (by omega) v2
  have h3 := h2.set (k * 7 + 3) (by omega) v3
  have h4 := h3.set (k * 7 + 4) (by omega) v4
  have h5 := h4.set (k * 7 + 5) (by omega) v5
  have h6 := h5.set (k * 7 + 6) (by omega) v6
  simp only [Nat.zero_add] at h6
  refine h6.congr (fun j _ => ?_)
  by_cases hj : j / 7 = k
  · have : j = k * 7 ∨ j = k * 7 + 1 ∨ j = k * 7 + 2 ∨ j = k * 7 + 3 ∨ j = k * 7 + 4 ∨ j = k * 7 + 5 ∨ j = k * 7 + 6 := by omega
    rw [if_pos hj]
    rcases this with rfl | rfl | rfl | rfl | rfl | rfl | rfl
    · rw [show (k * 7) % 7 = 0 by omega]; rw [if_neg (by omega)]; rw [if_neg (by omega)]; rw [if_neg (by omega)]; rw [if_neg (by omega)]; rw [if_neg (by omega)]; rw [if_neg (by omega)]; rw [if_pos rfl]; rfl
    · rw [show (k * 7 + 1) % 7 = 1 by omega]; rw [if_neg (by omega)]; rw [if_neg (by omega)]; rw [if_neg (by omega)]; rw [if_neg (by omega)]; rw [if_neg (by omega)]; rw [if_pos rfl]; rfl
    · rw [show (k * 7 + 2) % 7 = 2 by omega]; rw [if_neg (by omega)]; rw [if_neg (by omega)]; rw [if_neg (by omega)]; rw [if_neg (by omega)]; rw [if_pos rfl]; rfl
    · rw [show (k * 7 + 3) % 7 = 3 by omega]; rw [if_neg (by omega)]; rw [if_neg (by omega)]; rw [if_neg (by omega)]; rw [if_pos rfl]; rfl
    · rw [show (k * 7 + 4) % 7 = 4 by omega]; rw [if_neg (by omega)]; rw [if_neg (by omega)]; rw [if_pos rfl]; rfl
    · rw [show (k * 7 + 5) % 7 = 5 by omega]; rw [if_neg (by omega)]; rw [if_pos rfl]; rfl
    · rw [show (k * 7 + 6) % 7 = 6 by omega]; rw [if_pos rfl]; rfl
  · rw [if_neg (by omega)]; rw [if_neg (by omega)]; rw [if_neg (by omega)]; rw [if_neg (by omega)]; rw [if_neg (by omega)]; rw [if_neg (by omega)]; rw [if_neg (by omega)]; rw [if_neg hj]

theorem partE_succ (l : List Ev) (k : Nat) (j : Nat) : (if j / 7 = k then (l.getD k Ev.none).cells.getD (j % 7) undef else partE l k j) = partE l (k + 1) j := by
  unfold partE
  by_cases h : j / 7 = k
  · rw [if_pos h, if_pos (by omega)]
    unfold evcell
    rw [h]
  · by_cases h2 : j < k * 7
    · rw [if_neg h, if_pos h2, if_pos (by omega)]
    · rw [if_neg h, if_neg h2, if_neg (by omega)]

theorem wr_seven {w : World} {B b : Nat} {m : Nat} {f : Nat → Value} (h : Wr w B (some ⟨b, 0, none⟩) m f) (k : Nat) (hk : k * 7 + 7 ≤ m) :
    (∃ v, w.cell? ⟨b, k * 7, none⟩ = some v) ∧ (∃ v, w.cell? ⟨b, k * 7 + 1, none⟩ = some v) ∧ (∃ v, w.cell? ⟨b, k * 7 + 2, none⟩ = some v) ∧ (∃ v, w.cell? ⟨b, k * 7 + 3, none⟩ = some v) ∧ (∃ v, w.cell? ⟨b, k * 7 + 4, none⟩ = some v) ∧ (∃ v, w.cell? ⟨b, k * 7 + 5, none⟩ = some v) ∧ (∃ v, w.cell? ⟨b, k * 7 + 6, none⟩ = some v) ∧ w.frozen? ⟨b, k * 7, none⟩ = false ∧ w.frozen? ⟨b, k * 7 + 1, none⟩ = false ∧ w.frozen? ⟨b, k * 7 + 2, none⟩ = false ∧ w.frozen? ⟨b, k * 7 + 3, none⟩ = false ∧ w.frozen? ⟨b, k * 7 + 4, none⟩ = false ∧ w.frozen? ⟨b, k * 7 + 5, none⟩ = false ∧ w.frozen? ⟨b, k * 7 + 6, none⟩ = false := by
  obtain ⟨_, _, e0, _, h0, z0⟩ := h (k * 7) (by omega)
  obtain ⟨_, _, e1, _, h1, z1⟩ := h (k * 7 + 1) (by omega)
  obtain ⟨_, _, e2, _, h2, z2⟩ := h (k * 7 + 2) (by omega)
  obtain ⟨_, _, e3, _, h3, z3⟩ := h (k * 7 + 3) (by omega)
  obtain ⟨_, _, e4, _, h4, z4⟩ := h (k * 7 + 4) (by omega)
  obtain ⟨_, _, e5, _, h5, z5⟩ := h (k * 7 + 5) (by omega)
  obtain ⟨_, _, e6, _, h6, z6⟩ := h (k * 7 + 6) (by omega)
  cases e0; cases e1; cases e2; cases e3; cases e4; cases e5; cases e6
  rw [Nat.zero_add] at h0 z0 h1 z1 h2 z2 h3 z3 h4 z4 h5 z5 h6 z6
  exact ⟨⟨_, h0⟩, ⟨_, h1⟩, ⟨_, h2⟩, ⟨_, h3⟩, ⟨_, h4⟩, ⟨_, h5⟩, ⟨_, h6⟩, z0, z1, z2, z3, z4, z5, z6⟩

set_option maxRecDepth 100000 in
set_option maxHeartbeats 2000000 in
theorem toEventS (w : World) (a : Option Addr) (cap : Nat) (l : List Ev) (S : Evs w a l) (hl : l.length ≤ 1048576) :
    Calls Tryz.prog 36 #[.slice a l.length cap] w fun e w' => ∃ g, e = .returned (.slice (some ⟨g, 0, none⟩) l.length l.length) ∧ w.heap.size ≤ g ∧ g < w'.heap.size ∧ EvsW w' w.heap.size (some ⟨g, 0, none⟩) l ∧ Below w.heap.size w w' := by
  have hmk := make_rows (P := Tryz.prog) 38 67 (.agg #[.int .i64 0, .int .i64 0, .int .i64 0, .int .i64 0, .int .i64 0, .int .i64 0, .string ByteArray.empty]) 7 64 Tryz.underlying38 infoE .i64 .i64 l.length (by omega) (by omega)
  have HS := hid S
  have hw0 := wr_new w (madeCells (Value.agg #[.int .i64 0, .int .i64 0, .int .i64 0, .int .i64 0, .int .i64 0, .int .i64 0, .string ByteArray.empty]).cells (l.length * 7)) 67 (l.length * 7) (partE l 0) (fun i hi => by
    simp [madeCells, hi, partE, Ev.none, Ev.cells, Value.cells]
    have : i % 7 = 0 ∨ i % 7 = 1 ∨ i % 7 = 2 ∨ i % 7 = 3 ∨ i % 7 = 4 ∨ i % 7 = 5 ∨ i % 7 = 6 := by omega
    rcases this with h | h | h | h | h | h | h <;> simp [h])
  generalize madeCells (Value.agg #[.int .i64 0, .int .i64 0, .int .i64 0, .int .i64 0, .int .i64 0, .int .i64 0, .string ByteArray.empty]).cells (l.length * 7) = cur at hmk hw0
  have HW := hid hw0
  clear S hw0
  go_enter Tryz.func36, Tryz.ntmps36
  go_wp2
  go_loopw [4] (fun i wr => ∃ k : Nat, k ≤ l.length ∧ i = .int .i64 (k : Int) ∧ w.heap.size < wr.heap.size ∧ Hid (Wr wr w.heap.size (some ⟨w.heap.size, 0, none⟩) (l.length * 7) (partE l k)) ∧ Hid (Below w.heap.size w wr)) (fun i _ => l.length - (intOf i).toNat)
  case atStart => exact ⟨0, Nat.zero_le _, rfl, lt_alloc _ _, HW, (Below.refl _ _).alloc (Nat.le_refl _) _⟩
  case round =>
    obtain ⟨k, hk, rfl, hsz, HW', HB⟩ := hrel
    by_cases hlt : k < l.length
    · obtain ⟨b, off, rfl, c0, c1, c2, c3, c4, c5, c6⟩ := Evs.at_ (HS.out.below HB.out) k hlt
      generalize hx : l.getD k Ev.none = x at c0 c1 c2 c3 c4 c5 c6
      have HX := hid hx
      clear hx
      have HC := hid (fun w => toEvent w x)
      unfold Ev.val at HC
      obtain ⟨xh, xx, xk, xv, xt, xa, xs⟩ := x
      simp only [] at c0 c1 c2 c3 c4 c5 c6 HC
      go_wp2_with fail
      refine (HC.out _).mono ?_
      rintro e w1 ⟨rfl, hb1⟩
      have HW1 := hid (HW'.out.below hb1)
      have HB1 := hid (HB.out.trans (hb1.mono (Nat.le_of_lt hsz)))
      have hsz1 : w.heap.size < w1.heap.size := Nat.lt_of_lt_of_le hsz hb1.size
      obtain ⟨⟨u0, d0⟩, ⟨u1, d1⟩, ⟨u2, d2⟩, ⟨u3, d3⟩, ⟨u4, d4⟩, ⟨u5, d5⟩, ⟨u6, d6⟩, z0, z1, z2, z3, z4, z5, z6⟩ := wr_seven HW1.out k (by omega)
      clear hb1 c0 c1 c2 c3 c4 c5 c6
      go_wp2
      refine ⟨⟨k + 1, by omega, by go_num, by simpa using hsz1, ?_, ((((((HB1.out.setCell (Nat.le_refl _) _).setCell (Nat.le_refl _) _).setCell (Nat.le_refl _) _).setCell (Nat.le_refl _) _).setCell (Nat.le_refl _) _).setCell (Nat.le_refl _) _).setCell (Nat.le_refl _) _⟩, by simp [intOf]; omega⟩
      exact (set7 HW1.out k (by omega) _ _ _ _ _ _ _).congr (fun j _ => by rw [← partE_succ, HX.out]; rfl)
    · obtain rfl : k = l.length := by omega
      go_wp2
      go_ret
      exact ⟨_, rfl, Nat.le_refl _, hsz, HW'.out.congr (fun i hi => by simp [partE, hi]), HB.out⟩

set_option maxRecDepth 100000 in
set_option maxHeartbeats 2000000 in
theorem eqOpE (w : World) (k v t a : Int) (s : ByteArray) : Calls Tryz.prog 157 #[opV k v t a s, opV k v t a s] w fun e w' => e = .returned (.bool true) ∧ Below w.heap.size w w' := by
  unfold opV
  go_enter Tryz.func157, Tryz.ntmps157
  go_wp2
  go_ret
  exact ⟨rfl, by go_grown⟩

set_option maxRecDepth 100000 in
set_option maxHeartbeats 2000000 in
theorem eqEvent (w : World) (x : Ev) : Calls Tryz.prog 109 #[x.val, x.val] w fun e w' => e = .returned (.bool true) ∧ Below w.heap.size w w' := by
  obtain ⟨h, x, k, v, t, a, s⟩ := x
  unfold Ev.val
  simp only []
  have HT := hid (fun w => eqOpE w k v t a s)
  unfold opV at HT
  obtain ⟨wa, hwa, ez, A0, C0, B0⟩ := two_new w [.int .i64 h, .int .i64 x, .int .i64 k, .int .i64 v, .int .i64 t, .int .i64 a, .string s] [.int .i64 h, .int .i64 x, .int .i64 k, .int .i64 v, .int .i64 t, .int .i64 a, .string s] 67 67
  have HB := hid B0
  have k0 := A0.c 0 rfl
  have k1 := A0.c 1 rfl
  have k2 := A0.c 2 rfl
  have k3 := A0.c 3 rfl
  have k4 := A0.c 4 rfl
  have k5 := A0.c 5 rfl
  have k6 := A0.c 6 rfl
  have m0 := C0.c 0 rfl
  have m1 := C0.c 1 rfl
  have m2 := C0.c 2 rfl
  have m3 := C0.c 3 rfl
  have m4 := C0.c 4 rfl
  have m5 := C0.c 5 rfl
  have m6 := C0.c 6 rfl
  clear A0 C0 B0
  go_enter Tryz.func109, Tryz.ntmps109
  go_wp2_with fail
  refine (HT.out _).mono ?_
  rintro e w1 ⟨rfl, b1⟩
  have HB1 := hid (HB.out.trans (b1.mono HB.out.size))
  clear b1
  go_wp2
  go_ret
  exact ⟨rfl, HB1.out⟩

set_option maxRecDepth 100000 in
set_option maxHeartbeats 2000000 in
theorem eqEventS (w : World) (a b : Option Addr) (ca cb : Nat) (l : List Ev) (S : Evs w a l) (T : Evs w b l) (hl : l.length ≤ maxLen) :
    Calls Tryz.prog 47 #[.slice a l.length ca, .slice b l.length cb] w fun e w' => e = .returned (.bool true) ∧ Below w.heap.size w w' := by
  unfold maxLen at hl
  have HS := hid S
  have HT := hid T
  clear S T
  go_enter Tryz.func47, Tryz.ntmps47
  go_wp2
  go_loopw [5] (fun i wr => ∃ k : Nat, k ≤ l.length ∧ i = .int .i64 (k : Int) ∧ Hid (Below w.heap.size w wr)) (fun i _ => l.length - (intOf i).toNat)
  case atStart => exact ⟨0, Nat.zero_le _, rfl, Below.refl _ _⟩
  case round =>
    obtain ⟨k, hk, rfl, HB⟩ := hrel
    by_cases hlt : k < l.length
    · obtain ⟨b1, o1, rfl, c0, c1, c2, c3, c4, c5, c6⟩ := Evs.at_ (HS.out.below HB.out) k hlt
      obtain ⟨b2, o2, rfl, d0, d1, d2, d3, d4, d5, d6⟩ := Evs.at_ (HT.out.below HB.out) k hlt
      generalize l.getD k Ev.none = x at c0 c1 c2 c3 c4 c5 c6 d0 d1 d2 d3 d4 d5 d6
      have HC := hid (fun w => eqEvent w x)
      unfold Ev.val at HC
      obtain ⟨xh, xx, xk, xv, xt, xa, xs⟩ := x
      simp only [] at c0 c1 c2 c3 c4 c5 c6 d0 d1 d2 d3 d4 d5 d6 HC
      have hne : Nonempty (BW wr) := ⟨⟨wr, Below.refl _ _⟩⟩
      replace c0 := BW.cell c0
      replace c1 := BW.cell c1
      replace c2 := BW.cell c2
      replace c3 := BW.cell c3
      replace c4 := BW.cell c4
      replace c5 := BW.cell c5
      replace c6 := BW.cell c6
      replace d0 := BW.cell d0
      replace d1 := BW.cell d1
      replace d2 := BW.cell d2
      replace d3 := BW.cell d3
      replace d4 := BW.cell d4
      replace d5 := BW.cell d5
      replace d6 := BW.cell d6
      go_wp2
      refine wp_region_bw (by kernel_rfl) (by kernel_rfl) ?_
      repeat (go_big_quiet_step (first
        | (go_at_call 109; refine bw_below (HC.out _))))
      refine wpQuiet_nil ?_
      intro _ hw'
      obtain ⟨u, rfl⟩ := hw'
      have HU := hid (HB.out.trans (u.bel.mono HB.out.size))
      clear c0 c1 c2 c3 c4 c5 c6 d0 d1 d2 d3 d4 d5 d6
      go_wp2
      exact ⟨⟨k + 1, by omega, by go_num, HU⟩, by simp [intOf]; omega⟩
    · obtain rfl : k = l.length := by omega
      go_wp2
      go_ret
      exact ⟨rfl, HB.out⟩

end Go.Proofs.YtaopkchkhdbfnaaGreatDoor.Pl

namespace Go.Proofs.YtaopkchkhdbfnaaGreatDoor.Pk
open Go.RowKit Go.ChangeShapes Go.WideShapes Go.ChangeAt Go.Joins Go.Deep
open Go.Proofs.YtaopkchkhdbfnaaGreatDoor.Mem
set_option linter.unusedVariables false

variable {H : Type} {enc : TypeId × Value → H} {W : World} {base : Nat} {spare : Nat → Bool} {held : Bool}

theorem sl_of_add {w : World} {a : Addr} {m : Nat} {f : Nat → Value} (h : ∀ i, i < m → w.cell? (a.add i) = some (f i)) : Sl w (some a) m f := by
  intro i hi
  have hc := h i hi
  obtain ⟨b, off, sp⟩ := a
  have hs : sp = none := by simpa [Addr.add] using World.cell?_spot (h 0 (by omega))
  subst hs
  rw [Addr.add_mid] at hc
  exact ⟨b, off, rfl, hc⟩

theorem strs_in {fuel : Nat} {v : Value} {x : DataW H × List MemPlace} (h : DataW.trod enc Tryz.prog W base spare held fuel 22 [v] = some x) :
    ∃ a cap l, v = .slice a (l : List ByteArray).length cap ∧ Strs W a l ∧ l.length ≤ maxLen ∧ ∀ s ∈ l, s.size ≤ maxLen := by
  rcases open_strs Tryz.underlying22 Tryz.underlying9 (by kernel_rfl) h with ⟨hcs, _⟩ | ⟨a, len, cap, m, Sx, hcs, _, hl, hm, hmm, _, hx⟩
  · simp only [List.cons.injEq, and_true] at hcs
    exact ⟨none, 0, [], hcs, fun i hi => by simp at hi, by simp, by simp⟩
  · simp only [List.cons.injEq, and_true] at hcs
    have hlm : len ≤ m := by rw [hmm]; split <;> omega
    refine ⟨some a, cap, (List.range len).map Sx, by rw [hcs]; simp, ?_, by simp; omega, ?_⟩
    · unfold Strs
      rw [List.length_map, List.length_range]
      refine sl_of_add (fun i hi => ?_)
      rw [(hx i (by omega)).1]
      simp [List.getD, hi]
    · intro s hs
      obtain ⟨i, hi, rfl⟩ := List.mem_map.1 hs
      exact (hx i (by have := List.mem_range.1 hi; omega)).2

set_option maxRecDepth 100000 in
theorem strs_arg {v : Value} {d : DataW H} {p : List MemPlace} {r : Reach} {b0 : Nat} (hv : Value.okWide Tryz.prog W r b0 22 v) (h : DataW.Trod enc Tryz.prog W base spare held 22 v d p) :
    ∃ a cap l, v = .slice a (l : List ByteArray).length cap ∧ Strs W a l ∧ l.length ≤ maxLen ∧ ∀ s ∈ l, s.size ≤ maxLen := by
  obtain ⟨fuel, hf⟩ := h
  obtain ⟨a, len, cap, rfl⟩ := okWide_slice Tryz.underlying22 hv
  exact strs_in hf

end Go.Proofs.YtaopkchkhdbfnaaGreatDoor.Pk

namespace Go.Proofs.YtaopkchkhdbfnaaGreatDoor.Pl
open Go.RowKit Go.ChangeShapes Go.WideShapes Go.ChangeAt Go.Joins Go.Deep
open Go.Proofs.YtaopkchkhdbfnaaGreatDoor.Mem
set_option linter.unusedVariables false

/-- A reply: of whom, to which call, its code, its text and when. -/
structure Rp where
  h : Int
  k : Int
  v : Int
  t : Int
  a : Int
  s : ByteArray
  c : Int
  d : ByteArray
  m : Int

def Rp.none : Rp := ⟨0, 0, 0, 0, 0, ByteArray.empty, 0, ByteArray.empty, 0⟩
def Rp.cells (e : Rp) : List Value := [.int .i64 e.h, .int .i64 e.k, .int .i64 e.v, .int .i64 e.t, .int .i64 e.a, .string e.s, .int .i64 e.c, .string e.d, .int .i64 e.m]
def Rp.val (e : Rp) : Value := .agg #[.int .i64 e.h, .int .i64 e.k, .int .i64 e.v, .int .i64 e.t, .int .i64 e.a, .string e.s, .int .i64 e.c, .string e.d, .int .i64 e.m]
def Rp.op (e : Rp) : Value := opV e.k e.v e.t e.a e.s

def rpcell (l : List Rp) (i : Nat) : Value := (l.getD (i / 9) Rp.none).cells.getD (i % 9) undef
def Rps (w : World) (a : Option Addr) (l : List Rp) : Prop := Sl w a (l.length * 9) (rpcell l)
def RpsW (w : World) (B : Nat) (a : Option Addr) (l : List Rp) : Prop := Wr w B a (l.length * 9) (rpcell l)

theorem rpcell_at (l : List Rp) (k j : Nat) (hj : j < 9) : rpcell l (k * 9 + j) = (l.getD k Rp.none).cells.getD j undef := by
  unfold rpcell
  rw [show (k * 9 + j) / 9 = k by omega, show (k * 9 + j) % 9 = j by omega]

theorem Rps.at_ {w : World} {a : Option Addr} {l : List Rp} (h : Rps w a l) (k : Nat) (hk : k < l.length) : ∃ b off, a = some ⟨b, off, none⟩ ∧
    w.cell? ⟨b, off + k * 9, none⟩ = some (.int .i64 (l.getD k Rp.none).h) ∧ w.cell? ⟨b, off + k * 9 + 1, none⟩ = some (.int .i64 (l.getD k Rp.none).k) ∧ w.cell? ⟨b, off + k * 9 + 2, none⟩ = some (.int .i64 (l.getD k Rp.none).v) ∧ w.cell? ⟨b, off + k * 9 + 3, none⟩ = some (.int .i64 (l.getD k Rp.none).t) ∧ w.cell? ⟨b, off + k * 9 + 4, none⟩ = some (.int .i64 (l.getD k Rp.none).a) ∧ w.cell? ⟨b, off + k * 9 + 5, none⟩ = some (.string (l.getD k Rp.none).s) ∧ w.cell? ⟨b, off + k * 9 + 6, none⟩ = some (.int .i64 (l.getD k Rp.none).c) ∧ w.cell? ⟨b, off + k * 9 + 7, none⟩ = some (.string (l.getD k Rp.none).d) ∧ w.cell? ⟨b, off + k * 9 + 8, none⟩ = some (.int .i64 (l.getD k Rp.none).m) := by
  obtain ⟨b, off, rfl, h0⟩ := h (k * 9 + 0) (by omega)
  obtain ⟨b1, off1, e1, h1⟩ := h (k * 9 + 1) (by omega)
  cases e1
  obtain ⟨b2, off2, e2, h2⟩ := h (k * 9 + 2) (by omega)
  cases e2
  obtain ⟨b3, off3, e3, h3⟩ := h (k * 9 + 3) (by omega)
  cases e3
  obtain ⟨b4, off4, e4, h4⟩ := h (k * 9 + 4) (by omega)
  cases e4
  obtain ⟨b5, off5, e5, h5⟩ := h (k * 9 + 5) (by omega)
  cases e5
  obtain ⟨b6, off6, e6, h6⟩ := h (k * 9 + 6) (by omega)
  cases e6
  obtain ⟨b7, off7, e7, h7⟩ := h (k * 9 + 7) (by omega)
  cases e7
  obtain ⟨b8, off8, e8, h8⟩ := h (k * 9 + 8) (by omega)
  cases e8
  rw [rpcell_at l k _ (by omega)] at h0 h1 h2 h3 h4 h5 h6 h7 h8
  exact ⟨b, off, rfl, h0, by rw [Nat.add_assoc]; exact h1, by rw [Nat.add_assoc]; exact h2, by rw [Nat.add_assoc]; exact h3, by rw [Nat.add_assoc]; exact h4, by rw [Nat.add_assoc]; exact h5, by rw [Nat.add_assoc]; exact h6, by rw [Nat.add_assoc]; exact h7, by rw [Nat.add_assoc]; exact h8⟩

/-- Reply k, as a range of cells. -/
theorem Rps.range {w : World} {a : Option Addr} {l : List Rp} (h : Rps w a l) (k : Nat) (hk : k < l.length) : ∃ b off, a = some ⟨b, off, none⟩ ∧ w.rangeAt b (off + k * 9) (l.getD k Rp.none).cells := by
  obtain ⟨b, off, rfl, _⟩ := h (k * 9 + 0) (by omega)
  refine ⟨b, off, rfl, fun j v hv => ?_⟩
  have hj : j < 9 := by
    have := (List.getElem?_eq_some_iff.1 hv).1
    simpa [Rp.cells] using this
  obtain ⟨b1, off1, e1, h1⟩ := h (k * 9 + j) (by omega)
  cases e1
  rw [rpcell_at l k j hj, List.getD, hv] at h1
  rw [Nat.add_assoc]
  exact h1

/-- A range, in each world from here on. -/
theorem BW.load {P : Program} {w : World} {b o : Nat} {cs : List Value} (hc : w.rangeAt b o cs) (ty : TypeId) (d : TypeDesc)
    (hu : P.underlying ty = some d) (hd : d.isRow = true) (hi : (P.info? ty).map (·.size) = some cs.length) : ∀ u : BW w, (Instr.loadAt ty (.pointer (some ⟨b, o, none⟩))).run P u.val = .ok (.agg cs.toArray) u.val := fun u =>
  run_loadAt_mid u.val b o ty cs d (fun j v hv => BW.cell (hc j v hv) u) hu hd hi

theorem rangeAt_below {w w' : World} {b o : Nat} {cs : List Value} (hc : w.rangeAt b o cs) (k : Below w.heap.size w w') : w'.rangeAt b o cs := fun j v hv => by
  have h1 := hc j v hv
  have hb := World.block_lt_of_cell? w _ h1
  rw [cell_block (p := ⟨b, o + j, none⟩) (k.block b hb)]
  exact h1

set_option maxRecDepth 100000 in
set_option maxHeartbeats 2000000 in
theorem szReply (w : World) (x : Rp) (left : Int) (hl : x.s.size ≤ maxLen) (hd : x.d.size ≤ maxLen) (h0 : 0 ≤ left) (h1 : left ≤ 1048576) :
    Calls Tryz.prog 88 #[x.val, .int .i64 left] w fun e w' => ∃ r, e = .returned (.int .i64 r) ∧ Below w.heap.size w w' ∧ (r < 0 ∨ (0 ≤ r ∧ r ≤ left ∧ (x.s.size : Int) ≤ left ∧ (x.d.size : Int) ≤ left)) := by
  obtain ⟨h, k, v, t, a, s, c, d, m⟩ := x
  unfold Rp.val
  simp only [] at hl hd ⊢
  unfold maxLen at hd
  obtain ⟨wa, hwa, ez, A0, B0⟩ := one_new w [.int .i64 h, .int .i64 k, .int .i64 v, .int .i64 t, .int .i64 a, .string s, .int .i64 c, .string d, .int .i64 m] 146
  have HA := hid A0
  have HB := hid B0
  clear A0 B0
  have k1 := HA.out.c 1 rfl
  have k2 := HA.out.c 2 rfl
  have k3 := HA.out.c 3 rfl
  have k4 := HA.out.c 4 rfl
  have k5 := HA.out.c 5 rfl
  go_enter Tryz.func88, Tryz.ntmps88
  go_wp2_with fail
  refine (szOp wa k v t a s left hl h0 h1).mono ?_
  rintro e w1 ⟨r, rfl, b1, hr⟩
  have HA1 := hid (HA.out.below b1 HA.out.lt)
  have HB1 := hid (HB.out.trans (b1.mono HB.out.size))
  have HR := hid hr
  clear b1 hwa k1 k2 k3 k4 k5 hr
  by_cases hneg : r < 0
  · go_wp2
    go_ret
    exact ⟨_, rfl, HB1.out, Or.inl (by decide)⟩
  have hq : 0 ≤ r ∧ r ≤ left ∧ (s.size : Int) ≤ left := by
    rcases HR.out with h | h
    · omega
    · exact h
  have hq1 := hq.1
  have hq2 : r ≤ 1048576 := by omega
  have HQ := hid hq
  clear hq HR
  have k7 := HA1.out.c 7 rfl
  by_cases hb : r - (d.size : Int) < 0
  · go_wp2
    go_ret
    exact ⟨_, rfl, HB1.out, Or.inl (by decide)⟩
  · go_wp2
    go_ret
    have := HQ.out
    exact ⟨_, rfl, HB1.out, Or.inr ⟨by omega, by omega, by omega, by omega⟩⟩

/-- What is left: a number below 0, or one not above what was, and all fits. -/
def FitR (r left : Int) (l : List Rp) : Prop := r < 0 ∨ (0 ≤ r ∧ r ≤ left ∧ (l.length : Int) ≤ left ∧ ∀ x ∈ l, (x.s.size : Int) ≤ left ∧ (x.d.size : Int) ≤ left)

set_option maxRecDepth 100000 in
set_option maxHeartbeats 2000000 in
theorem szReplyS (w : World) (a : Option Addr) (cap : Nat) (l : List Rp) (left : Int) (S : Rps w a l) (hl : l.length ≤ maxLen) (hs : ∀ x ∈ l, x.s.size ≤ maxLen ∧ x.d.size ≤ maxLen) (h0 : 0 ≤ left) (h1 : left ≤ 1048576) :
    Calls Tryz.prog 27 #[.slice a l.length cap, .int .i64 left] w fun e w' => ∃ r, e = .returned (.int .i64 r) ∧ Below w.heap.size w w' ∧ FitR r left l := by
  unfold maxLen at hl
  have HS := hid S
  have Hs := hid hs
  clear S hs
  by_cases hb : left < (l.length : Int)
  · go_enter Tryz.func27, Tryz.ntmps27
    go_wp2
    go_ret
    exact ⟨_, rfl, Below.refl _ _, Or.inl (by decide)⟩
  go_enter Tryz.func27, Tryz.ntmps27
  go_wp2
  go_loopw [1, 5] (fun z i wr => ∃ (k : Nat) (m : Int), k ≤ l.length ∧ i = .int .i64 (k : Int) ∧ z = .int .i64 m ∧ 0 ≤ m ∧ m ≤ left ∧ Hid (∀ j, j < k → ((l.getD j Rp.none).s.size : Int) ≤ left ∧ ((l.getD j Rp.none).d.size : Int) ≤ left) ∧ Hid (Below w.heap.size w wr)) (fun _ i _ => l.length - (intOf i).toNat)
  case atStart => exact ⟨0, left - l.length, Nat.zero_le _, rfl, rfl, by omega, by omega, fun j hj => by omega, Below.refl _ _⟩
  case round =>
    obtain ⟨k, m, hk, rfl, rfl, hm0, hm1, HJ, HB⟩ := hrel
    by_cases hlt : k < l.length
    · obtain ⟨b, off, rfl, c0, c1, c2, c3, c4, c5, c6, c7, c8⟩ := Rps.at_ (HS.out.below HB.out) k hlt
      have hx : (l.getD k Rp.none).s.size ≤ maxLen ∧ (l.getD k Rp.none).d.size ≤ maxLen := Hs.out _ (by simp [List.getD, hlt])
      generalize hq : l.getD k Rp.none = x at c0 c1 c2 c3 c4 c5 c6 c7 c8 hx
      have HX := hid hq
      clear hq
      have HC := hid (szReply wr x m hx.1 hx.2 hm0 (by omega))
      clear hx
      unfold Rp.val at HC
      obtain ⟨xh, xk, xv, xt, xa, xs, xc, xd, xm⟩ := x
      simp only [] at c0 c1 c2 c3 c4 c5 c6 c7 c8 HC
      go_wp2_with fail
      refine HC.out.mono ?_
      rintro e w1 ⟨r, rfl, b1, hf⟩
      have HB1 := hid (HB.out.trans (b1.mono HB.out.size))
      have HF := hid hf
      clear b1 hf c0 c1 c2 c3 c4 c5 c6 c7 c8
      by_cases hr : r < 0
      · go_wp2
        go_ret
        exact ⟨_, rfl, HB1.out, Or.inl (by decide)⟩
      · have hf : 0 ≤ r ∧ r ≤ m ∧ (xs.size : Int) ≤ m ∧ (xd.size : Int) ≤ m := by
          rcases HF.out with h | h
          · omega
          · exact h
        have hf1 := hf.1
        have hf2 := hf.2.1
        have HF2 := hid hf.2.2
        clear hf HF HC
        go_wp2
        exact ⟨⟨k + 1, r, by omega, by go_num, rfl, hf1, by omega, fun j hj => by
          by_cases h : j = k
          · subst h; rw [HX.out]; have := HF2.out; show (xs.size : Int) ≤ left ∧ (xd.size : Int) ≤ left; omega
          · exact HJ.out j (by omega), HB1⟩, by simp [intOf]; omega⟩
    · obtain rfl : k = l.length := by omega
      go_wp2
      go_ret
      refine ⟨_, rfl, HB.out, Or.inr ⟨hm0, hm1, by omega, fun x hx => ?_⟩⟩
      obtain ⟨j, hj, rfl⟩ := List.getElem_of_mem hx
      have := HJ.out j hj
      rwa [List.getD, List.getElem?_eq_getElem hj] at this

set_option maxRecDepth 100000 in
set_option maxHeartbeats 2000000 in
theorem toReply (w : World) (x : Rp) : Calls Tryz.prog 98 #[x.val] w fun e w' => e = .returned x.val ∧ Below w.heap.size w w' := by
  obtain ⟨h, k, v, t, a, s, c, d, m⟩ := x
  unfold Rp.val
  simp only []
  have HT := hid (fun w => toOp w k v t a s)
  unfold opV at HT
  go_enter Tryz.func98, Tryz.ntmps98
  go_wp2_with fail
  obtain ⟨wc, hwc, e2, A0, R0, O0, B0⟩ := three_news w [.int .i64 h, .int .i64 k, .int .i64 v, .int .i64 t, .int .i64 a, .string s, .int .i64 c, .string d, .int .i64 m] [.int .i64 0, .int .i64 0, .int .i64 0, .int .i64 0, .int .i64 0, .string ⟨#[]⟩, .int .i64 0, .string ⟨#[]⟩, .int .i64 0] [.int .i64 h, .int .i64 0, .int .i64 0, .int .i64 0, .int .i64 0, .string ⟨#[]⟩, .int .i64 0, .string ⟨#[]⟩, .int .i64 0] 146 71
  simp only [hwc]
  clear hwc
  refine (HT.out wc).mono ?_
  rintro r w2 ⟨rfl, b2⟩
  replace A0 := A0.below b2 A0.lt
  replace R0 := R0.below b2 R0.lt
  replace O0 := O0.below b2 O0.lt
  replace B0 := B0.trans (b2.mono (by omega))
  have a6 := A0.c 6 rfl
  have a7 := A0.c 7 rfl
  have a8 := A0.c 8 rfl
  have d0 := O0.c 0 rfl
  have d1 := O0.c 1 rfl
  have d2 := O0.c 2 rfl
  have d3 := O0.c 3 rfl
  have d4 := O0.c 4 rfl
  have d5 := O0.c 5 rfl
  have d6 := O0.c 6 rfl
  have d7 := O0.c 7 rfl
  have d8 := O0.c 8 rfl
  have fd1 := O0.f 1
  have fd2 := O0.f 2
  have fd3 := O0.f 3
  have fd4 := O0.f 4
  have fd5 := O0.f 5
  have fd6 := O0.f 6
  have fd7 := O0.f 7
  have fd8 := O0.f 8
  have r0 := R0.c 0 rfl
  have r1 := R0.c 1 rfl
  have r2 := R0.c 2 rfl
  have r3 := R0.c 3 rfl
  have r4 := R0.c 4 rfl
  have r5 := R0.c 5 rfl
  have r6 := R0.c 6 rfl
  have r7 := R0.c 7 rfl
  have r8 := R0.c 8 rfl
  have f0 := R0.f 0
  have f1 := R0.f 1
  have f2 := R0.f 2
  have f3 := R0.f 3
  have f4 := R0.f 4
  have f5 := R0.f 5
  have f6 := R0.f 6
  have f7 := R0.f 7
  have f8 := R0.f 8
  have HO := hid O0
  have HB := hid B0
  have HR := hid R0
  clear R0 O0 b2 B0 A0
  go_upto_region 7 with fail
  obtain ⟨w3, hw3, R0, O0, B3⟩ : ∃ w3, ((((((((w2.setCell ⟨w.heap.size + 1 + 1, 1, none⟩ (.int .i64 k)).setCell ⟨w.heap.size + 1 + 1, 2, none⟩ (.int .i64 v)).setCell ⟨w.heap.size + 1 + 1, 3, none⟩ (.int .i64 t)).setCell ⟨w.heap.size + 1 + 1, 4, none⟩ (.int .i64 a)).setCell ⟨w.heap.size + 1 + 1, 5, none⟩ (.string s)).setCell ⟨w.heap.size + 1 + 1, 6, none⟩ (.int .i64 c)).setCell ⟨w.heap.size + 1 + 1, 7, none⟩ (.string d)).setCell ⟨w.heap.size + 1 + 1, 8, none⟩ (.int .i64 m)) = w3 ∧ Row w3 (w.heap.size + 1) _ ∧ Row w3 (w.heap.size + 1 + 1) _ ∧ Below w.heap.size w w3 :=
    ⟨_, rfl, puts_other HR.out (by omega) 1 [.int .i64 k, .int .i64 v, .int .i64 t, .int .i64 a, .string s, .int .i64 c, .string d, .int .i64 m], puts_row HO.out 1 [.int .i64 k, .int .i64 v, .int .i64 t, .int .i64 a, .string s, .int .i64 c, .string d, .int .i64 m], puts_below HB.out (by omega) 1 [.int .i64 k, .int .i64 v, .int .i64 t, .int .i64 a, .string s, .int .i64 c, .string d, .int .i64 m]⟩
  try simp only [hw3]
  clear hw3
  refine wp_region_list ?_
  refine wpList_load_row rfl 71 _ rfl (w.heap.size + 1 + 1) rfl [.int .i64 h, .int .i64 k, .int .i64 v, .int .i64 t, .int .i64 a, .string s, .int .i64 c, .string d, .int .i64 m] _ O0 Tryz.underlying71 rfl (by kernel_rfl) ?_
  refine wpList_store_row rfl 71 _ _ rfl (w.heap.size + 1) rfl _ [.int .i64 h, .int .i64 k, .int .i64 v, .int .i64 t, .int .i64 a, .string s, .int .i64 c, .string d, .int .i64 m] rfl R0 rfl (by kernel_rfl) rfl ?_
  have HR3 := hid (puts_row R0 0 [.int .i64 h, .int .i64 k, .int .i64 v, .int .i64 t, .int .i64 a, .string s, .int .i64 c, .string d, .int .i64 m])
  have HB3 := hid (puts_below B3 (show w.heap.size ≤ w.heap.size + 1 by omega) 0 [.int .i64 h, .int .i64 k, .int .i64 v, .int .i64 t, .int .i64 a, .string s, .int .i64 c, .string d, .int .i64 m])
  generalize puts w3 (w.heap.size + 1) 0 [.int .i64 h, .int .i64 k, .int .i64 v, .int .i64 t, .int .i64 a, .string s, .int .i64 c, .string d, .int .i64 m] = w5 at *
  clear R0 O0 B3
  go_wp2
  refine bodyPost_ret (results_row rfl _ _ (w.heap.size + 1) [.int .i64 h, .int .i64 k, .int .i64 v, .int .i64 t, .int .i64 a, .string s, .int .i64 c, .string d, .int .i64 m] _ rfl HR3.out Tryz.underlying71 rfl (by kernel_rfl)) rfl ?_
  exact ⟨rfl, HB3.out⟩

theorem infoR : (Tryz.prog.info? 71).map (fun i => (i.zero, i.size, i.bytes)) = some (some (.agg #[.int .i64 0, .int .i64 0, .int .i64 0, .int .i64 0, .int .i64 0, .string ByteArray.empty, .int .i64 0, .string ByteArray.empty, .int .i64 0]), 9, 88) := by kernel_rfl

/-- What stands in the new row behind k rounds. -/
def partR (l : List Rp) (k : Nat) (i : Nat) : Value := if i < k * 9 then rpcell l i else Rp.none.cells.getD (i % 9) undef

theorem partR_succ (l : List Rp) (k : Nat) (j : Nat) : (if k * 9 ≤ j ∧ j < k * 9 + 9 then (l.getD k Rp.none).cells.getD (j - k * 9) undef else partR l k j) = partR l (k + 1) j := by
  unfold partR
  by_cases h : k * 9 ≤ j ∧ j < k * 9 + 9
  · rw [if_pos h, if_pos (by omega)]
    obtain ⟨i, rfl⟩ : ∃ i, j = k * 9 + i := ⟨j - k * 9, by omega⟩
    rw [rpcell_at l k i (by omega), Nat.add_sub_cancel_left]
  · by_cases h2 : j < k * 9
    · rw [if_neg h, if_pos h2, if_pos (by omega)]
    · rw [if_neg h, if_neg h2, if_neg (by omega)]

/-- Cells that stand side by side are stored. -/
theorem wr_puts {B b : Nat} {m : Nat} : ∀ (vs : List Value) (w : World) (f : Nat → Value) (off i : Nat), Wr w B (some ⟨b, off, none⟩) m f → i + vs.length ≤ m →
    Wr (puts w b (off + i) vs) B (some ⟨b, off, none⟩) m (fun j => if i ≤ j ∧ j < i + vs.length then vs.getD (j - i) undef else f j)
  | [], w, f, off, i, h, _ => h.congr (fun j _ => by rw [if_neg (by simp)])
  | v :: vs, w, f, off, i, h, hm => by
    have h1 := h.set i (by simp at hm; omega) v
    have h2 := wr_puts vs _ _ off (i + 1) h1 (by simp at hm; omega)
    rw [puts]
    refine (show Wr _ _ _ _ _ from h2).congr (fun j _ => ?_)
    by_cases hj : j = i
    · subst hj
      rw [if_neg (by omega), if_pos rfl, if_pos (by simp)]
      simp
    · by_cases hr : i + 1 ≤ j ∧ j < i + 1 + vs.length
      · rw [if_pos hr, if_pos (by simp; omega)]
        obtain ⟨q, hq⟩ : ∃ q, j - i = q + 1 := ⟨j - i - 1, by omega⟩
        rw [hq, show j - (i + 1) = q by omega]
        simp
      · rw [if_neg hr, if_neg hj, if_neg (by simp; omega)]

/-- What is stored in a new row leaves all that was. -/
theorem puts_below2 {B : Nat} {w w' : World} (h : Below B w w') {b : Nat} (hb : B ≤ b) (i : Nat) (vs : List Value) : Below B w (puts w' b i vs) := puts_below h hb i vs

set_option maxRecDepth 100000 in
set_option maxHeartbeats 2000000 in
theorem toReplyS (w : World) (a : Option Addr) (cap : Nat) (l : List Rp) (S : Rps w a l) (hl : l.length ≤ 1048576) :
    Calls Tryz.prog 38 #[.slice a l.length cap] w fun e w' => ∃ g, e = .returned (.slice (some ⟨g, 0, none⟩) l.length l.length) ∧ w.heap.size ≤ g ∧ g < w'.heap.size ∧ RpsW w' w.heap.size (some ⟨g, 0, none⟩) l ∧ Below w.heap.size w w' := by
  have hmk := make_rows (P := Tryz.prog) 39 71 (.agg #[.int .i64 0, .int .i64 0, .int .i64 0, .int .i64 0, .int .i64 0, .string ByteArray.empty, .int .i64 0, .string ByteArray.empty, .int .i64 0]) 9 88 Tryz.underlying39 infoR .i64 .i64 l.length (by omega) (by omega)
  have HS := hid S
  have hw0 := wr_new w (madeCells (Value.agg #[.int .i64 0, .int .i64 0, .int .i64 0, .int .i64 0, .int .i64 0, .string ByteArray.empty, .int .i64 0, .string ByteArray.empty, .int .i64 0]).cells (l.length * 9)) 71 (l.length * 9) (partR l 0) (fun i hi => by
    simp [madeCells, hi, partR, Rp.none, Rp.cells, Value.cells]
    have : i % 9 = 0 ∨ i % 9 = 1 ∨ i % 9 = 2 ∨ i % 9 = 3 ∨ i % 9 = 4 ∨ i % 9 = 5 ∨ i % 9 = 6 ∨ i % 9 = 7 ∨ i % 9 = 8 := by omega
    rcases this with h | h | h | h | h | h | h | h | h <;> simp [h])
  generalize madeCells (Value.agg #[.int .i64 0, .int .i64 0, .int .i64 0, .int .i64 0, .int .i64 0, .string ByteArray.empty, .int .i64 0, .string ByteArray.empty, .int .i64 0]).cells (l.length * 9) = cur at hmk hw0
  have HW := hid hw0
  clear S hw0
  go_enter Tryz.func38, Tryz.ntmps38
  go_wp2
  go_loopw [4] (fun i wr => ∃ k : Nat, k ≤ l.length ∧ i = .int .i64 (k : Int) ∧ w.heap.size < wr.heap.size ∧ Hid (Wr wr w.heap.size (some ⟨w.heap.size, 0, none⟩) (l.length * 9) (partR l k)) ∧ Hid (Below w.heap.size w wr)) (fun i _ => l.length - (intOf i).toNat)
  case atStart => exact ⟨0, Nat.zero_le _, rfl, lt_alloc _ _, HW, (Below.refl _ _).alloc (Nat.le_refl _) _⟩
  case round =>
    obtain ⟨k, hk, rfl, hsz, HW', HB⟩ := hrel
    by_cases hlt : k < l.length
    · obtain ⟨b, off, rfl, c0, c1, c2, c3, c4, c5, c6, c7, c8⟩ := Rps.at_ (HS.out.below HB.out) k hlt
      generalize hx : l.getD k Rp.none = x at c0 c1 c2 c3 c4 c5 c6 c7 c8
      have HX := hid hx
      clear hx
      have HC := hid (fun w => toReply w x)
      unfold Rp.val at HC
      obtain ⟨xh, xk, xv, xt, xa, xs, xc, xd, xm⟩ := x
      simp only [] at c0 c1 c2 c3 c4 c5 c6 c7 c8 HC
      go_wp2_with fail
      refine (HC.out _).mono ?_
      rintro e w1 ⟨rfl, hb1⟩
      have HW1 := hid (HW'.out.below hb1)
      have HB1 := hid (HB.out.trans (hb1.mono (Nat.le_of_lt hsz)))
      have hsz1 : w.heap.size < w1.heap.size := Nat.lt_of_lt_of_le hsz hb1.size
      clear hb1 c0 c1 c2 c3 c4 c5 c6 c7 c8
      have hcell : ∀ j, j < 9 → (w1.cell? ⟨w.heap.size, k * 9 + j, none⟩).isSome ∧ w1.frozen? ⟨w.heap.size, k * 9 + j, none⟩ = false := fun j hj => by
        obtain ⟨b', off', e', _, hc', hz'⟩ := HW1.out (k * 9 + j) (by omega)
        cases e'
        rw [Nat.zero_add] at hc' hz'
        exact ⟨by rw [hc']; rfl, hz'⟩
      dsimp only
      iterate 4 go_step
      refine wpList_store_mid rfl 71 _ _ rfl w.heap.size (k * 9) #[.int .i64 xh, .int .i64 xk, .int .i64 xv, .int .i64 xt, .int .i64 xa, .string xs, .int .i64 xc, .string xd, .int .i64 xm] rfl rfl (fun j hj => hcell j (by simpa using hj)) (by kernel_rfl) (all_oneCell_toArray (fun v hv => List.all_eq_true.1 (rfl : ([.int .i64 xh, .int .i64 xk, .int .i64 xv, .int .i64 xt, .int .i64 xa, .string xs, .int .i64 xc, .string xd, .int .i64 xm] : List Value).all (·.oneCell') = true) v hv)) ?_
      have HW2 : Hid (Wr (w1.setCells w.heap.size (k * 9) [.int .i64 xh, .int .i64 xk, .int .i64 xv, .int .i64 xt, .int .i64 xa, .string xs, .int .i64 xc, .string xd, .int .i64 xm]) w.heap.size (some ⟨w.heap.size, 0, none⟩) (l.length * 9) (partR l (k + 1))) := by
        have h2 := wr_puts [.int .i64 xh, .int .i64 xk, .int .i64 xv, .int .i64 xt, .int .i64 xa, .string xs, .int .i64 xc, .string xd, .int .i64 xm] w1 _ 0 (k * 9) HW1.out (by simp; omega)
        rw [Nat.zero_add, puts_setCells] at h2
        exact h2.congr (fun j _ => by rw [← partR_succ, HX.out]; rfl)
      have HB2 : Hid (Below w.heap.size w (w1.setCells w.heap.size (k * 9) [.int .i64 xh, .int .i64 xk, .int .i64 xv, .int .i64 xt, .int .i64 xa, .string xs, .int .i64 xc, .string xd, .int .i64 xm])) := by
        rw [← puts_setCells]
        exact puts_below HB1.out (Nat.le_refl _) _ _
      have hsz2 : w.heap.size < (w1.setCells w.heap.size (k * 9) [.int .i64 xh, .int .i64 xk, .int .i64 xv, .int .i64 xt, .int .i64 xa, .string xs, .int .i64 xc, .string xd, .int .i64 xm]).heap.size := by
        rw [← puts_setCells, puts_size]; exact hsz1
      generalize w1.setCells w.heap.size (k * 9) [.int .i64 xh, .int .i64 xk, .int .i64 xv, .int .i64 xt, .int .i64 xa, .string xs, .int .i64 xc, .string xd, .int .i64 xm] = w2 at *
      clear hcell
      go_wp2
      exact ⟨⟨k + 1, by omega, by go_num, hsz2, HW2, HB2⟩, by simp [intOf]; omega⟩
    · obtain rfl : k = l.length := by omega
      go_wp2
      go_ret
      exact ⟨_, rfl, Nat.le_refl _, hsz, HW'.out.congr (fun i hi => by simp [partR, hi]), HB.out⟩

set_option maxRecDepth 100000 in
set_option maxHeartbeats 2000000 in
theorem eqReply (w : World) (x : Rp) : Calls Tryz.prog 110 #[x.val, x.val] w fun e w' => e = .returned (.bool true) ∧ Below w.heap.size w w' := by
  obtain ⟨h, k, v, t, a, s, c, d, m⟩ := x
  unfold Rp.val
  simp only []
  have HT := hid (fun w => eqOpE w k v t a s)
  unfold opV at HT
  obtain ⟨wa, hwa, ez, A0, C0, B0⟩ := two_new w [.int .i64 h, .int .i64 k, .int .i64 v, .int .i64 t, .int .i64 a, .string s, .int .i64 c, .string d, .int .i64 m] [.int .i64 h, .int .i64 k, .int .i64 v, .int .i64 t, .int .i64 a, .string s, .int .i64 c, .string d, .int .i64 m] 71 71
  have HB := hid B0
  have HA := hid A0
  have HC := hid C0
  have k0 := A0.c 0 rfl
  have k1 := A0.c 1 rfl
  have k2 := A0.c 2 rfl
  have k3 := A0.c 3 rfl
  have k4 := A0.c 4 rfl
  have k5 := A0.c 5 rfl
  have m0 := C0.c 0 rfl
  have m1 := C0.c 1 rfl
  have m2 := C0.c 2 rfl
  have m3 := C0.c 3 rfl
  have m4 := C0.c 4 rfl
  have m5 := C0.c 5 rfl
  clear A0 C0 B0
  go_enter Tryz.func110, Tryz.ntmps110
  go_wp2_with fail
  refine (HT.out _).mono ?_
  rintro e w1 ⟨rfl, b1⟩
  have A1 := HA.out.below b1 HA.out.lt
  have C1 := HC.out.below b1 HC.out.lt
  have HB1 := hid (HB.out.trans (b1.mono HB.out.size))
  clear b1 k0 k1 k2 k3 k4 k5 m0 m1 m2 m3 m4 m5
  have k6 := A1.c 6 rfl
  have k7 := A1.c 7 rfl
  have k8 := A1.c 8 rfl
  have m6 := C1.c 6 rfl
  have m7 := C1.c 7 rfl
  have m8 := C1.c 8 rfl
  clear A1 C1
  go_wp2
  go_ret
  exact ⟨rfl, HB1.out⟩

set_option maxRecDepth 100000 in
set_option maxHeartbeats 2000000 in
theorem eqReplyS (w : World) (a b : Option Addr) (ca cb : Nat) (l : List Rp) (S : Rps w a l) (T : Rps w b l) (hl : l.length ≤ maxLen) :
    Calls Tryz.prog 49 #[.slice a l.length ca, .slice b l.length cb] w fun e w' => e = .returned (.bool true) ∧ Below w.heap.size w w' := by
  unfold maxLen at hl
  have HS := hid S
  have HT := hid T
  clear S T
  go_enter Tryz.func49, Tryz.ntmps49
  go_wp2
  go_loopw [5] (fun i wr => ∃ k : Nat, k ≤ l.length ∧ i = .int .i64 (k : Int) ∧ Hid (Below w.heap.size w wr)) (fun i _ => l.length - (intOf i).toNat)
  case atStart => exact ⟨0, Nat.zero_le _, rfl, Below.refl _ _⟩
  case round =>
    obtain ⟨k, hk, rfl, HB⟩ := hrel
    by_cases hlt : k < l.length
    · obtain ⟨b1, o1, rfl, c0, c1, c2, c3, c4, c5, c6, c7, c8⟩ := Rps.at_ (HS.out.below HB.out) k hlt
      obtain ⟨b2, o2, rfl, d0, d1, d2, d3, d4, d5, d6, d7, d8⟩ := Rps.at_ (HT.out.below HB.out) k hlt
      generalize l.getD k Rp.none = x at c0 c1 c2 c3 c4 c5 c6 c7 c8 d0 d1 d2 d3 d4 d5 d6 d7 d8
      have HC := hid (fun w => eqReply w x)
      unfold Rp.val at HC
      obtain ⟨xh, xk, xv, xt, xa, xs, xc, xd, xm⟩ := x
      simp only [] at c0 c1 c2 c3 c4 c5 c6 c7 c8 d0 d1 d2 d3 d4 d5 d6 d7 d8 HC
      have hne : Nonempty (BW wr) := ⟨⟨wr, Below.refl _ _⟩⟩
      replace c0 := BW.cell c0
      replace c1 := BW.cell c1
      replace c2 := BW.cell c2
      replace c3 := BW.cell c3
      replace c4 := BW.cell c4
      replace c5 := BW.cell c5
      replace c6 := BW.cell c6
      replace c7 := BW.cell c7
      replace c8 := BW.cell c8
      replace d0 := BW.cell d0
      replace d1 := BW.cell d1
      replace d2 := BW.cell d2
      replace d3 := BW.cell d3
      replace d4 := BW.cell d4
      replace d5 := BW.cell d5
      replace d6 := BW.cell d6
      replace d7 := BW.cell d7
      replace d8 := BW.cell d8
      go_wp2
      refine wp_region_bw (by kernel_rfl) (by kernel_rfl) ?_
      repeat (go_big_quiet_step (first
        | (go_at_call 110; refine bw_below (HC.out _))))
      refine wpQuiet_nil ?_
      intro _ hw'
      obtain ⟨u, rfl⟩ := hw'
      have HU := hid (HB.out.trans (u.bel.mono HB.out.size))
      clear c0 c1 c2 c3 c4 c5 c6 c7 c8 d0 d1 d2 d3 d4 d5 d6 d7 d8
      go_wp2
      exact ⟨⟨k + 1, by omega, by go_num, HU⟩, by simp [intOf]; omega⟩
    · obtain rfl : k = l.length := by omega
      go_wp2
      go_ret
      exact ⟨rfl, HB.out⟩

section
variable {H : Type} {enc : TypeId × Value → H} {W : World} {base : Nat} {spare : Nat → Bool} {held : Bool}

set_option maxRecDepth 100000 in
theorem rp_cells_in {fuel : Nat} {cs : List Value} {x : DataW H × List MemPlace} (h : DataW.trod enc Tryz.prog W base spare held fuel 146 cs = some x) :
    ∃ y : Rp, cs = y.cells ∧ y.s.size ≤ maxLen ∧ y.d.size ≤ maxLen := by
  obtain ⟨xs, n, _, rfl, hl, hlen, hf⟩ := DataW.trod_struct Tryz.underlying146 h
  have c9 : Tryz.prog.cellsOf 146 = 9 := by kernel_rfl
  have cO : Tryz.prog.cellsOf 135 = 5 := by kernel_rfl
  have cS : Tryz.prog.cellsOf 9 = 1 := by kernel_rfl
  rw [c9] at hl
  match xs, hlen, cs, hl with
  | [y0, y1, y2, y3, y4], _, [v0, v1, v2, v3, v4, v5, v6, v7, v8], _ =>
    have f0 : DataW.trod enc Tryz.prog W base spare held n 3 [v0] = some y0 := by simpa [cInt] using hf 0 _ rfl
    have f1 : DataW.trod enc Tryz.prog W base spare held n 135 [v1, v2, v3, v4, v5] = some y1 := by simpa [cInt, cO] using hf 1 _ rfl
    have f2 : DataW.trod enc Tryz.prog W base spare held n 3 [v6] = some y2 := by simpa [cInt, cO] using hf 2 _ rfl
    have f3 : DataW.trod enc Tryz.prog W base spare held n 9 [v7] = some y3 := by simpa [cInt, cO, cS] using hf 3 _ rfl
    have f4 : DataW.trod enc Tryz.prog W base spare held n 3 [v8] = some y4 := by simpa [cInt, cO, cS] using hf 4 _ rfl
    obtain ⟨n0, e0, _, _⟩ := DataW.trod_int Tryz.underlying3 f0
    obtain ⟨k, v, t, a, s, e1, hs⟩ := op_in f1
    obtain ⟨n2, e2, _, _⟩ := DataW.trod_int Tryz.underlying3 f2
    obtain ⟨s3, e3, _, hs3⟩ := DataW.trod_string Tryz.underlying9 f3
    obtain ⟨n4, e4, _, _⟩ := DataW.trod_int Tryz.underlying3 f4
    simp only [List.cons.injEq, and_true] at e0 e1 e2 e3 e4
    obtain ⟨r1, r2, r3, r4, r5⟩ := e1
    subst e0; subst r1; subst r2; subst r3; subst r4; subst r5; subst e2; subst e3; subst e4
    exact ⟨⟨n0, k, v, t, a, s, n2, s3, n4⟩, rfl, hs, hs3⟩

set_option maxRecDepth 100000 in
/-- Replies that came in. -/
theorem rps_in {fuel : Nat} {v : Value} {x : DataW H × List MemPlace} (h : DataW.trod enc Tryz.prog W base spare held fuel 29 [v] = some x) :
    ∃ a cap l, v = .slice a (l : List Rp).length cap ∧ Rps W a l ∧ l.length ≤ maxLen ∧ ∀ y ∈ l, y.s.size ≤ maxLen ∧ y.d.size ≤ maxLen := by
  have c2 : Tryz.prog.cellsOf 146 = 9 := by kernel_rfl
  rcases open_slice Tryz.underlying29 h with ⟨hcs, _⟩ | ⟨a, len, cap, m, n, D, Pl, hcs, _, hl, hm, hmm, _, hx⟩
  · simp only [List.cons.injEq, and_true] at hcs
    exact ⟨none, 0, [], hcs, fun i hi => by simp at hi, by simp, by simp⟩
  · simp only [List.cons.injEq, and_true] at hcs
    have hlm : len ≤ m := by rw [hmm]; split <;> omega
    have each : ∀ i, ∃ y : Rp, i < len → W.cells? base (a.add (i * 9)) 9 = some y.cells ∧ y.s.size ≤ maxLen ∧ y.d.size ≤ maxLen := fun i => by
      by_cases hi : i < len
      · obtain ⟨cs', hc, ht⟩ := hx i (by omega)
        rw [c2] at hc
        obtain ⟨y, rfl, hy⟩ := rp_cells_in ht
        exact ⟨y, fun _ => ⟨hc, hy⟩⟩
      · exact ⟨Rp.none, fun h => absurd h hi⟩
    obtain ⟨Y, hY⟩ := Classical.axiomOfChoice each
    refine ⟨some a, cap, (List.range len).map Y, by rw [hcs]; simp, ?_, by simp; omega, ?_⟩
    · unfold Rps
      rw [List.length_map, List.length_range]
      refine Pk.sl_of_add (fun i hi => ?_)
      have hq : i / 9 < len := by omega
      have hc := (World.cells?_some (hY (i / 9) hq).1).2.2 (i % 9) (by omega)
      rw [Addr.add_add, show i / 9 * 9 + i % 9 = i by omega] at hc
      rw [hc]
      unfold rpcell
      have e : ((List.range len).map Y).getD (i / 9) Rp.none = Y (i / 9) := by simp [List.getD, hq]
      rw [e]
      have : i % 9 = 0 ∨ i % 9 = 1 ∨ i % 9 = 2 ∨ i % 9 = 3 ∨ i % 9 = 4 ∨ i % 9 = 5 ∨ i % 9 = 6 ∨ i % 9 = 7 ∨ i % 9 = 8 := by omega
      rcases this with h | h | h | h | h | h | h | h | h <;> rw [h] <;> rfl
    · intro s hs
      obtain ⟨i, hi, rfl⟩ := List.mem_map.1 hs
      exact (hY i (List.mem_range.1 hi)).2

end

end Go.Proofs.YtaopkchkhdbfnaaGreatDoor.Pl

namespace Go.Proofs.YtaopkchkhdbfnaaGreatDoor.Rg
open Go.RowKit
set_option linter.unusedVariables false

def dstOf (ops : Array Oper) (i : Nat) : Option Tmp := (ops[i]?).bind (·.dst)

/-- The region's form: its results lie apart within n slots, and each operation waits for elder ones alone. -/
def fits (ops : Array Oper) (n : Nat) : Bool :=
  (List.range ops.size).all fun i =>
    (match dstOf ops i with
      | some d => decide (d < n) && (List.range ops.size).all fun j => j == i || dstOf ops j != some d
      | none => true) &&
    (match ops[i]? with
      | some o => o.after.all fun e => !Region.binds .any e || decide (e.on < i)
      | none => true)

/-- The slots behind the operations that have come up. -/
structure At (ops : Array Oper) (a0 : Act) (L : Nat → Bool) (v : Nat → Value) (a : Act) : Prop where
  size : a.tmps.size = a0.tmps.size
  defers : a.defers = a0.defers
  got : ∀ i d, L i = true → dstOf ops i = some d → a.tmps[d]? = some (v i)
  off : ∀ t, (∀ i, L i = true → dstOf ops i ≠ some t) → a.tmps[t]? = a0.tmps[t]?

def upd (L : Nat → Bool) (i : Nat) : Nat → Bool := fun j => if j = i then true else L j
def updv (v : Nat → Value) (i : Nat) (u : Value) : Nat → Value := fun j => if j = i then u else v j

theorem fits_lt {ops : Array Oper} {n i : Nat} {d : Tmp} (h : fits ops n = true) (hi : dstOf ops i = some d) : d < n := by
  have hlt : i < ops.size := by
    rcases Nat.lt_or_ge i ops.size with h1 | h1
    · exact h1
    · simp [dstOf, Array.getElem?_eq_none h1] at hi
  unfold fits at h
  rw [List.all_eq_true] at h
  have h1 := h i (List.mem_range.2 hlt)
  rw [hi] at h1
  simp only [Bool.and_eq_true, decide_eq_true_eq] at h1
  exact h1.1.1

theorem dstOf_lt {ops : Array Oper} {i : Nat} {d : Tmp} (hi : dstOf ops i = some d) : i < ops.size := by
  rcases Nat.lt_or_ge i ops.size with h1 | h1
  · exact h1
  · simp [dstOf, Array.getElem?_eq_none h1] at hi

theorem fits_inj {ops : Array Oper} {n i j : Nat} {d : Tmp} (h : fits ops n = true) (hi : dstOf ops i = some d) (hj : dstOf ops j = some d) : j = i := by
  unfold fits at h
  rw [List.all_eq_true] at h
  have h1 := h i (List.mem_range.2 (dstOf_lt hi))
  rw [hi] at h1
  simp only [Bool.and_eq_true, decide_eq_true_eq, List.all_eq_true] at h1
  have h2 := h1.1.2 j (List.mem_range.2 (dstOf_lt hj))
  rw [hj] at h2
  simpa using h2

theorem fits_after {ops : Array Oper} {n i : Nat} {o : Oper} (h : fits ops n = true) (hi : ops[i]? = some o) {e : Edge} (he : e ∈ o.after) (hb : Region.binds .any e = true) : e.on < i := by
  have hlt : i < ops.size := by
    rcases Nat.lt_or_ge i ops.size with h1 | h1
    · exact h1
    · simp [Array.getElem?_eq_none h1] at hi
  unfold fits at h
  rw [List.all_eq_true] at h
  have h1 := h i (List.mem_range.2 hlt)
  rw [hi] at h1
  simp only [Bool.and_eq_true] at h1
  have h2 := Array.all_eq_true_iff_forall_mem.1 h1.2 e he
  rw [hb] at h2
  simpa using h2

theorem At.step {ops : Array Oper} {n : Nat} {a0 a : Act} {L : Nat → Bool} {v : Nat → Value} (h : At ops a0 L v a) (hf : fits ops a0.tmps.size = true) {i : Nat} {o : Oper} (hi : ops[i]? = some o) (hL : L i = false) (u : Value) :
    At ops a0 (upd L i) (updv v i u) (a.put o.dst u) := by
  have hd : dstOf ops i = o.dst := by simp [dstOf, hi]
  cases hdd : o.dst with
  | none =>
    rw [hdd] at hd
    refine ⟨h.size, h.defers, fun j d hj e => ?_, fun t ht => ?_⟩
    · by_cases hji : j = i
      · rw [hji, hd] at e; cases e
      · simp only [upd, updv, if_neg hji] at hj ⊢
        exact h.got j d hj e
    · exact h.off t (fun j hj => ht j (by simp only [upd]; split <;> simp_all))
  | some s =>
    rw [hdd] at hd
    have hs : s < a.tmps.size := by rw [h.size]; exact fits_lt hf hd
    refine ⟨by simpa [Act.put] using h.size, h.defers, fun j d hj e => ?_, fun t ht => ?_⟩
    · by_cases hji : j = i
      · subst hji
        rw [hd] at e
        cases e
        show (a.tmps.setIfInBounds s u)[s]? = some (if j = j then u else v j)
        rw [Array.getElem?_setIfInBounds_self_of_lt hs, if_pos rfl]
      · simp only [upd, if_neg hji] at hj
        have hds : s ≠ d := fun e2 => hji (fits_inj hf hd (e2 ▸ e))
        simp only [Act.put, updv, if_neg hji]
        rw [Array.getElem?_setIfInBounds_ne hds]
        exact h.got j d hj e
    · have hts : s ≠ t := fun e => ht i (by simp [upd]) (e ▸ hd)
      simp only [Act.put]
      rw [Array.getElem?_setIfInBounds_ne hts]
      exact h.off t (fun j hj => ht j (by simp only [upd]; split <;> simp_all))

/-- The slots where all have come up. -/
def putsAll (a0 : Act) : List (Option Tmp) → (Nat → Value) → Nat → Act
  | [], _, _ => a0
  | d :: ds, v, k => putsAll (a0.put d (v k)) ds v (k + 1)

theorem At.eval_got {ops : Array Oper} {a0 a : Act} {L : Nat → Bool} {v : Nat → Value} (h : At ops a0 L v a) (j : Nat) {t : Tmp} (hj : L j = true) (hd : dstOf ops j = some t) : a.eval (.tmp t) = v j := by
  show a.tmps.getD t undef = v j
  rw [Array.getD_eq_getD_getElem?, h.got j t hj hd]
  rfl

def offAll (ops : Array Oper) (x : Operand) : Bool := match x with
  | .tmp t => (List.range ops.size).all fun j => dstOf ops j != some t
  | _ => true

theorem At.eval_off {ops : Array Oper} {a0 a : Act} {L : Nat → Bool} {v : Nat → Value} (h : At ops a0 L v a) {x : Operand} (hx : offAll ops x = true) : a.eval x = a0.eval x := by
  cases x with
  | tmp t =>
    show a.tmps.getD t undef = a0.tmps.getD t undef
    rw [Array.getD_eq_getD_getElem?, Array.getD_eq_getD_getElem?, h.off t (fun j _ e => ?_)]
    unfold offAll at hx
    simp only [List.all_eq_true] at hx
    have := hx j (List.mem_range.2 (dstOf_lt e))
    rw [e] at this
    simp at this
  | _ => rfl

theorem At.yielded {ops : Array Oper} {a0 a : Act} {L : Nat → Bool} {v : Nat → Value} (h : At ops a0 L v a) (j : Nat) {t : Tmp} (hj : L j = true) (hd : dstOf ops j = some t) {b : Bool} (hv : v j = .bool b) : yielded ops a.tmps j = some b := by
  have e : ((ops[j]?).bind (·.dst)) = some t := hd
  unfold Go.yielded
  rw [e]
  simp only [Option.bind_some]
  rw [h.got j t hj hd, hv]

theorem putsAll_size : ∀ (ds : List (Option Tmp)) (a0 : Act) (v : Nat → Value) (k : Nat), (putsAll a0 ds v k).tmps.size = a0.tmps.size ∧ (putsAll a0 ds v k).defers = a0.defers
  | [], a0, v, k => ⟨rfl, rfl⟩
  | d :: ds, a0, v, k => by
    have h := putsAll_size ds (a0.put d (v k)) v (k + 1)
    unfold putsAll
    rw [h.1, h.2]
    cases d <;> simp [Act.put]

theorem putsAll_off : ∀ (ds : List (Option Tmp)) (a0 : Act) (v : Nat → Value) (k t : Nat), some t ∉ ds → (putsAll a0 ds v k).tmps[t]? = a0.tmps[t]?
  | [], a0, v, k, t, _ => rfl
  | d :: ds, a0, v, k, t, h => by
    unfold putsAll
    rw [putsAll_off ds _ v (k + 1) t (fun e => h (List.mem_cons_of_mem _ e))]
    cases d with
    | none => rfl
    | some s =>
      have : s ≠ t := fun e => h (e ▸ List.mem_cons_self)
      simp only [Act.put]
      rw [Array.getElem?_setIfInBounds_ne this]

theorem putsAll_got : ∀ (ds : List (Option Tmp)) (a0 : Act) (v : Nat → Value) (k t j : Nat), ds[j]? = some (some t) → (∀ i, ds[i]? = some (some t) → i = j) → t < a0.tmps.size → (putsAll a0 ds v k).tmps[t]? = some (v (k + j))
  | [], a0, v, k, t, j, h, _, _ => by simp at h
  | d :: ds, a0, v, k, t, 0, h, hu, ht => by
    simp only [List.getElem?_cons_zero, Option.some.injEq] at h
    subst h
    unfold putsAll
    rw [putsAll_off ds _ v (k + 1) t (fun e => by
      obtain ⟨i, hi⟩ := List.mem_iff_getElem?.1 e
      have := hu (i + 1) (by simpa using hi)
      omega)]
    simp only [Act.put, Nat.add_zero]
    rw [Array.getElem?_setIfInBounds_self_of_lt ht]
  | d :: ds, a0, v, k, t, j + 1, h, hu, ht => by
    unfold putsAll
    have := putsAll_got ds (a0.put d (v k)) v (k + 1) t j (by simpa using h) (fun i hi => by have := hu (i + 1) (by simpa using hi); omega) (by cases d <;> simpa [Act.put] using ht)
    rw [this, show k + 1 + j = k + (j + 1) by omega]

theorem At.all {ops : Array Oper} {a0 a : Act} {L : Nat → Bool} {v : Nat → Value} (h : At ops a0 L v a) (hf : fits ops a0.tmps.size = true) (hL : ∀ i, i < ops.size → L i = true) (ds : List (Option Tmp)) (hds : (List.range ops.size).map (dstOf ops) = ds) :
    a = putsAll a0 ds v 0 := by
  have hds' : ∀ i, ds[i]? = some (dstOf ops i) ∨ (ds[i]? = none ∧ dstOf ops i = none) := fun i => by
    rw [← hds]
    rcases Nat.lt_or_ge i ops.size with h1 | h1
    · left; simp [h1]
    · right; exact ⟨by simp [h1], by simp [dstOf, Array.getElem?_eq_none h1]⟩
  obtain ⟨s1, s2⟩ := putsAll_size ds a0 v 0
  have ht : a.tmps = (putsAll a0 ds v 0).tmps := by
    refine Array.ext_getElem? (fun t => ?_)
    rcases Nat.lt_or_ge t a0.tmps.size with htl | htl
    · by_cases hx : ∃ j, dstOf ops j = some t
      · obtain ⟨j, hj⟩ := hx
        have e1 : ds[j]? = some (some t) := by
          rcases hds' j with h1 | ⟨_, h1⟩
          · rw [h1, hj]
          · rw [hj] at h1; cases h1
        rw [putsAll_got ds a0 v 0 t j e1 (fun i hi => by
          rcases hds' i with h1 | ⟨h1, _⟩
          · rw [h1] at hi
            exact fits_inj hf hj (Option.some.inj hi)
          · rw [h1] at hi; cases hi) htl, Nat.zero_add]
        exact h.got j t (hL j (dstOf_lt hj)) hj
      · rw [putsAll_off ds a0 v 0 t (fun e => by
          obtain ⟨i, hi⟩ := List.mem_iff_getElem?.1 e
          rcases hds' i with h1 | ⟨h1, _⟩
          · rw [h1] at hi; exact hx ⟨i, Option.some.inj hi⟩
          · rw [h1] at hi; cases hi)]
        exact h.off t (fun i _ e => hx ⟨i, e⟩)
    · rw [Array.getElem?_eq_none (by rw [h.size]; exact htl), Array.getElem?_eq_none (by rw [s1]; exact htl)]
  have : a.defers = (putsAll a0 ds v 0).defers := by rw [s2]; exact h.defers
  cases a
  cases hp : putsAll a0 ds v 0
  rw [hp] at ht this
  simp only at ht this
  rw [ht, this]

/-- What an operation waits for has come up. -/
def waits (o : Oper) (L : Nat → Bool) : Bool := o.after.all fun e => !Region.binds .any e || L e.on

section
variable {P : Program} {ops : Array Oper} {Q : Exit → Act → World → Prop}

theorem rg_any (a0 : Act) (hf : fits ops a0.tmps.size = true) (I : (Nat → Bool) → (Nat → Value) → World → Prop)
    (hstep : ∀ i o, ops[i]? = some o → ∀ L v a w, At ops a0 L v a → I L v w → (∀ j oj, ops[j]? = some oj → L j = true → waits oj L = true) → L i = false → waits o L = true → wpOp P ops Q i (fun a' w' => ∃ u, a' = a.put o.dst u ∧ I (upd L i) (updv v i u) w') a w)
    (hend : ∀ L v a w, (∀ i, i < ops.size → L i = true) → At ops a0 L v a → I L v w → Q .normal a w) :
    ∀ (fuel : Nat) (listed : Array Bool) (v : Nat → Value) (a : Act) (w : World) (l : List Nat), listed.size = ops.size → l.length = fuel → l.Nodup → (∀ i, i ∈ l ↔ i < ops.size ∧ listed.getD i false = false) →
      At ops a0 (fun i => listed.getD i false) v a → I (fun i => listed.getD i false) v w → (∀ j oj, ops[j]? = some oj → listed.getD j false = true → waits oj (fun i => listed.getD i false) = true) → wpAny P .any ops Q fuel listed a w := by
  have hdone : ∀ (listed : Array Bool) (v : Nat → Value) (a : Act) (w : World), listed.size = ops.size → (∀ i, i < ops.size → listed.getD i false = true) → At ops a0 (fun i => listed.getD i false) v a → I (fun i => listed.getD i false) v w → Q .normal a w :=
    fun listed v a w hsz hall hA hJ => hend _ v a w hall hA hJ
  intro fuel
  induction fuel with
  | zero =>
    intro listed v a w l hsz hl hnd hm hA hJ hC
    have hl0 : l = [] := List.length_eq_zero_iff.1 hl
    subst hl0
    have hall : ∀ i, i < ops.size → listed.getD i false = true := fun i hi => by
      cases hb : listed.getD i false with
      | true => rfl
      | false => exact absurd ((hm i).2 ⟨hi, hb⟩) (by simp)
    refine ⟨?_, hdone listed v a w hsz hall hA hJ⟩
    refine List.eq_nil_iff_forall_not_mem.2 (fun i hi => ?_)
    obtain ⟨h1, o, ho, _⟩ := mem_ready.1 hi
    have hlt : i < ops.size := (Array.getElem?_eq_some_iff.1 ho).1
    have h2 := hall i hlt
    rw [Array.getD_eq_getD_getElem?, Array.getElem?_eq_getElem (by omega)] at h1 h2
    simp at h1 h2
    rw [h1] at h2
    cases h2
  | succ fuel ih =>
    intro listed v a w l hsz hl hnd hm hA hJ hC
    refine ⟨fun hr => ?_, fun i hi => ?_⟩
    · -- none may come up: all have
      have hall : ∀ n i, i < n → i < ops.size → listed.getD i false = true := by
        intro n
        induction n with
        | zero => intro i h; omega
        | succ n ihn =>
          intro i hin hi
          by_cases hlt : i < n
          · exact ihn i hlt hi
          · obtain rfl : i = n := by omega
            cases hb : listed.getD i false with
            | true => rfl
            | false =>
              have : i ∈ Region.ready .any ops listed := by
                refine mem_ready.2 ⟨?_, ops[i], Array.getElem?_eq_getElem hi, fun e he hb2 => ?_⟩
                · rw [Array.getD_eq_getD_getElem?, Array.getElem?_eq_getElem (by omega)] at hb ⊢
                  simpa using hb
                · have hlt2 := fits_after hf (Array.getElem?_eq_getElem hi) he hb2
                  exact ihn e.on hlt2 (by omega)
              rw [hr] at this
              cases this
      exact hdone listed v a w hsz (fun i hi => hall (i + 1) i (by omega) hi) hA hJ
    · obtain ⟨h1, o, ho, hwt⟩ := mem_ready.1 hi
      have hlt : i < ops.size := (Array.getElem?_eq_some_iff.1 ho).1
      have hb : listed.getD i false = false := by
        rw [Array.getD_eq_getD_getElem?, Array.getElem?_eq_getElem (by omega)] at h1 ⊢
        simpa using h1
      have hw : waits o (fun j => listed.getD j false) = true := by
        unfold waits
        refine Array.all_eq_true_iff_forall_mem.2 (fun e he => ?_)
        cases hbb : Region.binds .any e with
        | false => rfl
        | true => simpa using hwt e he hbb
      refine wpOp_mono ?_ (hstep i o ho _ v a w hA hJ hC hb hw)
      rintro a' w' ⟨u, rfl, hJ'⟩
      have hset : ∀ j, (listed.setIfInBounds i true).getD j false = upd (fun j => listed.getD j false) i j := fun j => by
        unfold upd
        by_cases hji : j = i
        · subst hji
          rw [if_pos rfl, Array.getD_eq_getD_getElem?, Array.getElem?_setIfInBounds_self_of_lt (by omega)]
          rfl
        · rw [if_neg hji]
          show (listed.setIfInBounds i true).getD j false = listed.getD j false
          rw [Array.getD_eq_getD_getElem?, Array.getD_eq_getD_getElem?, Array.getElem?_setIfInBounds_ne (Ne.symm hji)]
      have hA' := At.step (n := 0) hA hf ho hb u
      refine ih (listed.setIfInBounds i true) (updv v i u) _ w' (l.erase i) (by simpa using hsz) ?_ (hnd.erase i) ?_ ?_ ?_ ?_
      · rw [List.length_erase_of_mem ((hm i).2 ⟨hlt, hb⟩), hl]; rfl
      · intro j
        rw [hnd.mem_erase_iff, hm j]
        constructor
        · rintro ⟨hne, hj, hjb⟩
          exact ⟨hj, by rw [hset j]; unfold upd; rw [if_neg hne]; exact hjb⟩
        · rintro ⟨hj, hjb⟩
          rw [hset j] at hjb
          unfold upd at hjb
          by_cases hji : j = i
          · rw [if_pos hji] at hjb; cases hjb
          · rw [if_neg hji] at hjb
            exact ⟨hji, hj, hjb⟩
      · rw [show (fun j => (listed.setIfInBounds i true).getD j false) = upd (fun j => listed.getD j false) i from funext hset]
        exact hA'
      · rw [show (fun j => (listed.setIfInBounds i true).getD j false) = upd (fun j => listed.getD j false) i from funext hset]
        exact hJ'
      · intro j oj hoj hj
        rw [hset j] at hj
        have hup : ∀ e, listed.getD e false = true → (listed.setIfInBounds i true).getD e false = true := fun e he => by
          rw [hset e]
          unfold upd
          split
          · rfl
          · exact he
        have hwj : waits oj (fun i => listed.getD i false) = true := by
          unfold upd at hj
          by_cases hji : j = i
          · subst hji
            rw [ho] at hoj
            cases hoj
            exact hw
          · rw [if_neg hji] at hj
            exact hC j oj hoj hj
        unfold waits at hwj ⊢
        rw [Array.all_eq_true_iff_forall_mem] at hwj ⊢
        intro e he
        have h9 := hwj e he
        simp only [Bool.or_eq_true] at h9 ⊢
        exact h9.imp id (hup e.on)

/-- THE LAW. 'a0' is the state ahead of the region, 'ds' are its results' slots. -/
theorem wp_region_rg {id : Nat} {a0 : Act} {w : World} (hm : P.follows .mixedOrders = true) (hf : fits ops a0.tmps.size = true)
    (ds : List (Option Tmp)) (hds : (List.range ops.size).map (dstOf ops) = ds)
    (I : (Nat → Bool) → (Nat → Value) → World → Prop) (h0 : I (fun _ => false) (fun _ => undef) w.drew)
    (hstep : ∀ i o, ops[i]? = some o → ∀ (L : Nat → Bool) (v : Nat → Value) (a : Act) (w : World), At ops a0 L v a → I L v w → (∀ j oj, ops[j]? = some oj → L j = true → waits oj L = true) → L i = false → waits o L = true →
      wpOp P ops Q i (fun a' w' => ∃ u, a' = a.put o.dst u ∧ I (upd L i) (updv v i u) w') a w)
    (hend : ∀ L v w, (∀ i, i < ops.size → L i = true) → I L v w → Q .normal (putsAll a0 ds v 0) w) : (Code.region id ops true).wp P Q a0 w := by
  refine wp_region_any hm ?_
  have hr : (fun i => (Array.replicate ops.size false).getD i false) = fun _ => false := by
    funext i
    rw [Array.getD_eq_getD_getElem?]
    rcases Nat.lt_or_ge i ops.size with h1 | h1
    · simp [h1]
    · rw [Array.getElem?_eq_none (by simpa using h1)]; rfl
  refine rg_any a0 hf I hstep ?_ ops.size (Array.replicate ops.size false) (fun _ => undef) a0 _ (List.range ops.size) (by simp) (by simp) List.nodup_range ?_ ?_ ?_ ?_
  · intro L v a w hL hA hI
    rw [hA.all hf hL ds hds]
    exact hend L v w hL hI
  · intro i
    rw [congrFun hr i]
    simp
  · rw [hr]
    exact ⟨rfl, rfl, fun i d hi => (by cases hi), fun t _ => rfl⟩
  · rw [hr]
    exact h0
  · intro j oj hoj hj2
    rw [congrFun hr j] at hj2
    cases hj2

/-- The same in a region that keeps its order. -/
theorem wp_region_rg_plain {id : Nat} {a0 : Act} {w : World} (hf : fits ops a0.tmps.size = true)
    (ds : List (Option Tmp)) (hds : (List.range ops.size).map (dstOf ops) = ds)
    (I : (Nat → Bool) → (Nat → Value) → World → Prop) (h0 : I (fun _ => false) (fun _ => undef) w)
    (hstep : ∀ i o, ops[i]? = some o → ∀ (L : Nat → Bool) (v : Nat → Value) (a : Act) (w : World), At ops a0 L v a → I L v w → (∀ j oj, ops[j]? = some oj → L j = true → waits oj L = true) → L i = false → waits o L = true →
      wpOp P ops Q i (fun a' w' => ∃ u, a' = a.put o.dst u ∧ I (upd L i) (updv v i u) w') a w)
    (hend : ∀ L v w, (∀ i, i < ops.size → L i = true) → I L v w → Q .normal (putsAll a0 ds v 0) w) : (Code.region id ops false).wp P Q a0 w := by
  refine wp_region ?_
  have main : ∀ (m i : Nat) (v : Nat → Value) (a : Act) (w : World), i + m = ops.size → At ops a0 (fun j => decide (j < i)) v a → I (fun j => decide (j < i)) v w → wpOps P ops Q (List.range' i m) a w := by
    intro m
    induction m with
    | zero =>
      intro i v a w hi hA hI
      have hL : ∀ j, j < ops.size → decide (j < i) = true := fun j hj => decide_eq_true (by omega)
      show Q .normal a w
      rw [hA.all hf hL ds hds]
      exact hend _ v w hL hI
    | succ m ih =>
      intro i v a w hi hA hI
      have hlt : i < ops.size := by omega
      have ho : ops[i]? = some ops[i] := Array.getElem?_eq_getElem hlt
      rw [List.range'_succ, wpOps_cons]
      have hup : upd (fun j => decide (j < i)) i = fun j => decide (j < i + 1) := by
        funext j
        unfold upd
        by_cases hji : j = i
        · rw [if_pos hji]; exact (decide_eq_true (by omega)).symm
        · rw [if_neg hji]
          by_cases hjl : j < i
          · exact (decide_eq_true hjl).trans (decide_eq_true (by omega)).symm
          · exact (decide_eq_false hjl).trans (decide_eq_false (by omega)).symm
      have hw : ∀ j oj, ops[j]? = some oj → j ≤ i → waits oj (fun j => decide (j < i)) = true := fun j oj hoj hji => by
        unfold waits
        refine Array.all_eq_true_iff_forall_mem.2 (fun e he => ?_)
        cases hb : Region.binds .any e with
        | false => rfl
        | true =>
          have := fits_after hf hoj he hb
          simp only [Bool.not_true, Bool.false_or]
          exact decide_eq_true (by omega)
      have hni : (fun j => decide (j < i)) i = false := decide_eq_false (by omega)
      refine wpOp_mono ?_ (hstep i ops[i] ho _ v a w hA hI (fun j oj hoj hj => hw j oj hoj (Nat.le_of_lt (of_decide_eq_true hj))) hni (hw i _ ho (Nat.le_refl _)))
      rintro a' w' ⟨u, rfl, hI'⟩
      have hA' := At.step (n := 0) hA hf ho hni u
      rw [hup] at hA' hI'
      exact ih (i + 1) _ _ w' (by omega) hA' hI'
  have h := main ops.size 0 (fun _ => undef) a0 w (by omega) ⟨rfl, rfl, fun i d hi => (by cases hi), fun t _ => rfl⟩ h0
  rw [List.range_eq_range']
  exact h

/-- What comes up only behind another one, near or far. -/
def reach (ops : Array Oper) : Nat → Nat → Nat → Bool
  | 0, _, _ => false
  | f + 1, i, j => match ops[i]? with
    | some o => o.after.toList.any fun e => Region.binds .any e && (e.on == j || reach ops f e.on j)
    | none => false

theorem reach_listed {L : Nat → Bool} (hC : ∀ j oj, ops[j]? = some oj → L j = true → waits oj L = true) : ∀ (f i j : Nat) (o : Oper), ops[i]? = some o → waits o L = true → reach ops f i j = true → L j = true
  | 0, i, j, o, _, _, h => by cases h
  | f + 1, i, j, o, ho, hw, h => by
    unfold reach at h
    rw [ho] at h
    rw [List.any_eq_true] at h
    obtain ⟨e, he, hb⟩ := h
    simp only [Bool.and_eq_true, Bool.or_eq_true, beq_iff_eq] at hb
    unfold waits at hw
    have h1 := Array.all_eq_true_iff_forall_mem.1 hw e (Array.mem_toList_iff.1 he)
    rw [hb.1] at h1
    have hLe : L e.on = true := by simpa using h1
    rcases hb.2 with h2 | h2
    · rw [← h2]; exact hLe
    · cases hoe : ops[e.on]? with
      | none =>
        cases f with
        | zero => cases h2
        | succ f => unfold reach at h2; rw [hoe] at h2; cases h2
      | some oe => exact reach_listed hC f e.on j oe hoe (hC e.on oe hoe hLe) h2

theorem wpOp_plain {i : Nat} {o : Oper} {K : Act → World → Prop} {a : Act} {w : World} (ho : ops[i]? = some o) (hg : o.guard = none) (h : ∀ K' : Act → World → Prop, (∀ a w, K a w → K' a w) → Oper.wp P o a w K' Q) : wpOp P ops Q i K a w :=
  wpOp_step ho fun K' hK => by
    rw [if_pos (by simp [Region.wanted, hg])]
    exact h K' hK

theorem wpOp_value {i : Nat} {o : Oper} {K : Act → World → Prop} {a : Act} {w w' : World} {u : Value} (ho : ops[i]? = some o) (hg : o.guard = none) (hr : (execOp a.eval o).run P w = .ok (.value u) w') (h : K (a.put o.dst u) w') : wpOp P ops Q i K a w :=
  wpOp_plain ho hg fun K' hK => by
    unfold Oper.wp
    rw [hr, Oper.upon_value]
    exact hK _ _ h

theorem wpOp_call {i : Nat} {o : Oper} {K : Act → World → Prop} {a : Act} {w : World} {f : FuncId} {vs : Array Value} (ho : ops[i]? = some o) (hg : o.guard = none) (hr : (execOp a.eval o).run P w = .ok (.enter f vs) w)
    (h : Calls P f vs w fun e w' => ∃ u, e = .returned u ∧ K (a.put o.dst u) w') : wpOp P ops Q i K a w :=
  wpOp_plain ho hg fun K' hK => by
    unfold Oper.wp
    rw [hr, Oper.upon_enter]
    refine h.mono ?_
    rintro e w' ⟨u, rfl, hu⟩
    exact hK _ _ hu

end

end Go.Proofs.YtaopkchkhdbfnaaGreatDoor.Rg

namespace Go.Proofs.YtaopkchkhdbfnaaGreatDoor.Pl
open Go.RowKit Go.Proofs.YtaopkchkhdbfnaaGreatDoor.Mem
set_option linter.unusedVariables false

theorem enters {P : Program} (a : Act) (o : Oper) (w : World) (xs : Array Operand) (ts : Array TypeId) (f : FuncId) (ho : o.op = .call { callee := .value (.func f), args := xs, argTypes := ts }) (vs : Array Value) (hv : xs.map a.eval = vs) (hc : ∀ vs w, (callFunc f vs).run P w = .ok (.enter f vs) w) :
    (execOp a.eval o).run P w = .ok (.enter f vs) w := by
  unfold execOp
  simp [ho, hv, go_sem, resolve, invoke, hc]

theorem run_not {P : Program} {ρ : Operand → Value} {o : Oper} {w : World} (ty : TypeId) (x : Operand) (p : o.op = .unOp .not ty x) (e : ρ x = .bool true) : (execOp ρ o).run P w = .ok (.value (.bool false)) w := by
  unfold execOp
  simp [p, e, go_sem]

theorem wpList_call {P : Program} {ops : Array Oper} {rest : List Oper} {op : Oper} {a : Act} {w : World} {Q : Exit → Act → World → Prop} (hgd : op.guard = none) (f : FuncId) (xs : Array Operand) (ts : Array TypeId)
    (ho : op.op = .call { callee := .value (.func f), args := xs, argTypes := ts }) (vs : Array Value) (hv : xs.map a.eval = vs) (hc : ∀ vs w, (callFunc f vs).run P w = .ok (.enter f vs) w)
    (h : Calls P f vs w fun e w' => ∃ v, e = .returned v ∧ wpList P ops Q rest (a.put op.dst v) w') : wpList P ops Q (op :: rest) a w :=
  wpList_plain hgd fun K hK => by
    unfold Oper.wp
    rw [enters a op w xs ts f ho vs hv hc, Oper.upon_enter]
    refine h.mono ?_
    rintro e w' ⟨v, rfl, hw⟩
    exact hK _ _ hw

/-- What stands in a box, held against the argument laid anew. -/
theorem region_eq {P : Program} {ops : Array Oper} {id : Nat} {a : Act} {w : World} {Q : Exit → Act → World → Prop} (hm : P.follows .mixedOrders = true) (h5 : ops.size = 5)
    {o0 o1 o2 o3 o4 : Oper} (i0 : ops[0]? = some o0) (i1 : ops[1]? = some o1) (i2 : ops[2]? = some o2) (i3 : ops[3]? = some o3) (i4 : ops[4]? = some o4)
    (g0 : o0.guard = none) (g1 : o1.guard = none) (g2 : o2.guard = none) (g3 : o3.guard = none) (g4 : o4.guard = none)
    (hs : Region.noSelect ops = true)
    (f0 : Region.free .any ops (Array.replicate 5 false) 0 = true) (r0 : (Region.ready .any ops (Array.replicate 5 false)).contains 0 = true)
    (f1 : Region.free .any ops ((Array.replicate 5 false).setIfInBounds 0 true) 1 = true) (r1 : (Region.ready .any ops ((Array.replicate 5 false).setIfInBounds 0 true)).contains 1 = true)
    (r2 : Region.ready .any ops (((Array.replicate 5 false).setIfInBounds 0 true).setIfInBounds 1 true) = [2])
    (r3 : Region.ready .any ops ((((Array.replicate 5 false).setIfInBounds 0 true).setIfInBounds 1 true).setIfInBounds 2 true) = [3])
    (r4 : Region.ready .any ops (((((Array.replicate 5 false).setIfInBounds 0 true).setIfInBounds 1 true).setIfInBounds 2 true).setIfInBounds 3 true) = [4])
    (r5 : Region.ready .any ops ((((((Array.replicate 5 false).setIfInBounds 0 true).setIfInBounds 1 true).setIfInBounds 2 true).setIfInBounds 3 true).setIfInBounds 4 true) = [])
    (q0 : ∀ (v : Value) c (a : Act) w, Q (.panic c) (a.put o0.dst v) w → Q (.panic c) a w) (q1 : ∀ (v : Value) c (a : Act) w, Q (.panic c) (a.put o1.dst v) w → Q (.panic c) a w)
    (ty0 : TypeId) (x0 : Operand) (p0 : o0.op = .load ty0 x0) (b0 : Nat) (cs0 : List Value) (d0 : TypeDesc) (e0 : a.eval x0 = .pointer (some ⟨b0, 0, none⟩)) (R0 : Row w b0 cs0)
    (u0 : P.underlying ty0 = some d0) (k0 : d0.isRow = true) (n0 : (P.info? ty0).map (·.size) = some cs0.length)
    (ty1 : TypeId) (x1 : Operand) (p1 : o1.op = .load ty1 x1) (b1 : Nat) (cs1 : List Value) (d1 : TypeDesc) (e1 : (a.put o0.dst (.agg cs0.toArray)).eval x1 = .pointer (some ⟨b1, 0, none⟩)) (R1 : Row w b1 cs1)
    (u1 : P.underlying ty1 = some d1) (k1 : d1.isRow = true) (n1 : (P.info? ty1).map (·.size) = some cs1.length)
    (c2 : FuncId) (y2 : Operand) (ts2 : Array TypeId) (p2 : o2.op = .call { callee := .value (.func c2), args := #[y2], argTypes := ts2 }) (m2 : ∀ vs w, (callFunc c2 vs).run P w = .ok (.enter c2 vs) w)
    (e2 : ((a.put o0.dst (.agg cs0.toArray)).put o1.dst (.agg cs1.toArray)).eval y2 = .agg cs1.toArray)
    (c3 : FuncId) (y3 z3 : Operand) (ts3 : Array TypeId) (p3 : o3.op = .call { callee := .value (.func c3), args := #[y3, z3], argTypes := ts3 }) (m3 : ∀ vs w, (callFunc c3 vs).run P w = .ok (.enter c3 vs) w)
    (e3 : ∀ V, (((a.put o0.dst (.agg cs0.toArray)).put o1.dst (.agg cs1.toArray)).put o2.dst V).eval y3 = .agg cs0.toArray) (e3' : ∀ V, (((a.put o0.dst (.agg cs0.toArray)).put o1.dst (.agg cs1.toArray)).put o2.dst V).eval z3 = V)
    (ty4 : TypeId) (x4 : Operand) (p4 : o4.op = .unOp .not ty4 x4) (e4 : ∀ V, ((((a.put o0.dst (.agg cs0.toArray)).put o1.dst (.agg cs1.toArray)).put o2.dst V).put o3.dst (.bool true)).eval x4 = .bool true)
    (R : Value → World → Prop)
    (C2 : ∀ w', Below w.heap.size w w' → Calls P c2 #[.agg cs1.toArray] w' fun e w'' => ∃ V, e = .returned V ∧ R V w'' ∧ Below w'.heap.size w' w'')
    (C3 : ∀ V w', Below w.heap.size w w' → R V w' → Calls P c3 #[.agg cs0.toArray, V] w' fun e w'' => e = .returned (.bool true) ∧ Below w'.heap.size w' w'')
    (h : ∀ V w', Below w.heap.size w w' → Q .normal (((((a.put o0.dst (.agg cs0.toArray)).put o1.dst (.agg cs1.toArray)).put o2.dst V).put o3.dst (.bool true)).put o4.dst (.bool false)) w') :
    (Code.region id ops true).wp P Q a w := by
  refine wp_region_held (S := fun w' => Below w.heap.size w w') hm ?_
  rw [h5]
  have S0 : Below w.heap.size w { w with drawn := w.drawn + 1 } := (Below.refl _ w).drew
  refine wpAnyH_take i0 hs f0 r0 (q0 _) (yieldsIf_load_mid (by simp [Region.wanted, g0]) ty0 x0 p0 b0 0 e0 cs0 d0 (fun w' hw' => fun j v hv => by rw [Nat.zero_add]; exact (R0.below hw' R0.lt).c j hv) u0 k0 n0) S0 ?_
  refine wpAnyH_take i1 hs f1 r1 (q1 _) (yieldsIf_load_mid (by simp [Region.wanted, g1]) ty1 x1 p1 b1 0 e1 cs1 d1 (fun w' hw' => fun j v hv => by rw [Nat.zero_add]; exact (R1.below hw' R1.lt).c j hv) u1 k1 n1) S0 ?_
  refine wpAnyH_all r2 (by simp) ?_
  intro i hi
  obtain rfl : i = 2 := by simpa using hi
  refine wpOp_step i2 (fun K hK => ?_)
  rw [if_pos (by simp [Region.wanted, g2])]
  unfold Oper.wp
  rw [enters _ o2 _ #[y2] ts2 c2 p2 #[.agg cs1.toArray] (by simp only [List.map_toArray, List.map_cons, List.map_nil, e2]) m2, Oper.upon_enter]
  refine (C2 _ S0).mono ?_
  rintro e w2 ⟨V, rfl, hR, B2⟩
  have S2 : Below w.heap.size w w2 := S0.trans (B2.mono S0.size)
  refine hK _ _ ⟨S2, ?_⟩
  refine wpAnyH_all r3 (by simp) ?_
  intro i hi
  obtain rfl : i = 3 := by simpa using hi
  refine wpOp_step i3 (fun K hK => ?_)
  rw [if_pos (by simp [Region.wanted, g3])]
  unfold Oper.wp
  rw [enters _ o3 _ #[y3, z3] ts3 c3 p3 #[.agg cs0.toArray, V] (by simp only [List.map_toArray, List.map_cons, List.map_nil, e3 V, e3' V]) m3, Oper.upon_enter]
  refine (C3 V w2 S2 hR).mono ?_
  rintro e w3 ⟨rfl, B3⟩
  have S3 : Below w.heap.size w w3 := S2.trans (B3.mono S2.size)
  refine hK _ _ ⟨S3, ?_⟩
  refine wpAnyH_all r4 (by simp) ?_
  intro i hi
  obtain rfl : i = 4 := by simpa using hi
  refine wpOp_step i4 (fun K hK => ?_)
  rw [if_pos (by simp [Region.wanted, g4])]
  unfold Oper.wp
  rw [run_not ty4 x4 p4 (e4 V), Oper.upon_value]
  exact hK _ _ ⟨S3, wpAnyH_done r5 (h V w3 S3) _⟩

theorem listed_all (vs : List Value) : ∀ (xs : List Value) (i : Nat), xs.length = i + vs.length → listed xs i vs = xs.take i ++ vs := by
  induction vs with
  | nil => intro xs i h; simp only [listed, List.append_nil]; rw [List.take_of_length_le]; simp at h; omega
  | cons v vs ih =>
    intro xs i h
    have h2 : i < xs.length := by simp at h; omega
    have h3 : (xs.set i v).take (i + 1) = xs.take i ++ [v] := by
      rw [List.take_add_one, List.take_set, List.set_eq_of_length_le (by simp; omega)]
      simp [h2]
    rw [listed, ih (xs.set i v) (i + 1) (by simp at h ⊢; omega), h3, List.append_assoc]
    rfl

/-- An argument laid anew and put into a box. -/
theorem region_box {P : Program} {ops : Array Oper} {id : Nat} {a : Act} {w : World} {Q : Exit → Act → World → Prop}
    {o0 o1 o2 o3 : Oper} (hl : ops.toList = [o0, o1, o2, o3]) (g0 : o0.guard = none) (g1 : o1.guard = none) (g2 : o2.guard = none) (g3 : o3.guard = none)
    (ty0 : TypeId) (x0 : Operand) (p0 : o0.op = .load ty0 x0) (b0 : Nat) (cs0 : List Value) (d0 : TypeDesc) (e0 : a.eval x0 = .pointer (some ⟨b0, 0, none⟩)) (R0 : Row w b0 cs0)
    (u0 : P.underlying ty0 = some d0) (k0 : d0.isRow = true) (n0 : (P.info? ty0).map (·.size) = some cs0.length)
    (c1 : FuncId) (y1 : Operand) (ts1 : Array TypeId) (p1 : o1.op = .call { callee := .value (.func c1), args := #[y1], argTypes := ts1 }) (m1 : ∀ vs w, (callFunc c1 vs).run P w = .ok (.enter c1 vs) w)
    (e1 : (a.put o0.dst (.agg cs0.toArray)).eval y1 = .agg cs0.toArray)
    (zs : List Value) (ty2 : TypeId) (al : ∀ (ρ : Operand → Value) w, (execOp ρ o2).run P w = .ok (.value (.pointer (some ⟨w.heap.size, 0, none⟩))) (w.alloc (.cells zs.toArray ty2)))
    (ty3 : TypeId) (x3 y3 : Operand) (p3 : o3.op = .store ty3 x3 y3) (i3 : (P.info? ty3).map (·.size) = some zs.length)
    (e3 : ∀ V X, (((a.put o0.dst (.agg cs0.toArray)).put o1.dst V).put o2.dst X).eval x3 = X) (e4 : ∀ V X, (((a.put o0.dst (.agg cs0.toArray)).put o1.dst V).put o2.dst X).eval y3 = V)
    (R : List Value → World → Prop)
    (C1 : Calls P c1 #[.agg cs0.toArray] w fun e w' => ∃ cs, e = .returned (.agg (List.toArray cs)) ∧ cs.length = zs.length ∧ cs.all (·.oneCell') = true ∧ R cs w' ∧ Below w.heap.size w w')
    (h : ∀ cs w1 wz, R cs w1 → Below w.heap.size w w1 → Row wz w1.heap.size cs → Below w1.heap.size w1 wz → Q .normal ((((a.put o0.dst (.agg cs0.toArray)).put o1.dst (.agg cs.toArray)).put o2.dst (.pointer (some ⟨w1.heap.size, 0, none⟩))).put o3.dst undef) wz) :
    (Code.region id ops false).wp P Q a w := by
  refine wp_region_list ?_
  rw [hl]
  refine wpList_load_row g0 ty0 x0 p0 b0 e0 cs0 d0 R0 u0 k0 n0 ?_
  refine wpList_call g1 c1 #[y1] ts1 p1 #[.agg cs0.toArray] (by simp only [List.map_toArray, List.map_cons, List.map_nil, e1]) m1 (C1.mono ?_)
  rintro e w1 ⟨cs, rfl, hlen, h1, hR, B1⟩
  refine ⟨_, rfl, ?_⟩
  refine wpList_plain g2 (fun K hK => ?_)
  unfold Oper.wp
  rw [al, Oper.upon_value]
  refine hK _ _ ?_
  have hr := Row.new w1 zs ty2
  refine wpList_store_row g3 ty3 x3 y3 p3 w1.heap.size (e3 _ _) zs cs (e4 _ _) hr hlen (by rw [i3, hlen]) h1 ?_
  refine wpList_nil ?_
  have hrow := puts_row hr 0 cs
  rw [listed_all cs zs 0 (by omega)] at hrow
  exact h cs w1 _ hR B1 hrow (puts_below ((Below.refl _ w1).alloc (Nat.le_refl _) _) (Nat.le_refl _) 0 cs)

end Go.Proofs.YtaopkchkhdbfnaaGreatDoor.Pl

namespace Go.Proofs.YtaopkchkhdbfnaaGreatDoor.Pl
open Go.RowKit Go.Proofs.YtaopkchkhdbfnaaGreatDoor.Mem
set_option linter.unusedVariables false

def arr (n : Nat) (S : List Nat) : Array Bool := ((List.range n).map (fun i => S.contains i)).toArray
/-- Number i may come up and may be taken first. -/
def frT (n : Nat) (ops : Array Oper) (S : List Nat) (i : Nat) : Bool := Region.free .any ops (arr n S) i && (Region.ready .any ops (arr n S)).contains i
def rdT (n : Nat) (ops : Array Oper) (S : List Nat) (l : List Nat) : Bool := Region.ready .any ops (arr n S) == l

/-- The shape: load, call, load, call, call, move, extract, extract, alloc, store, assign. -/
def shapeA (ops : Array Oper) : Bool :=
  (ops.size == 11 && Region.noSelect ops) && ((frT 11 ops [] 0 && frT 11 ops [0] 2)
  && ((rdT 11 ops [0, 2] [1, 8] && (rdT 11 ops [0, 1, 2] [3, 8] && rdT 11 ops [0, 1, 2, 3] [4, 8]))
  && ((rdT 11 ops [0, 2, 8] [1] && (rdT 11 ops [0, 1, 2, 8] [3] && rdT 11 ops [0, 1, 2, 3, 8] [4]))
  && ((frT 11 ops [0, 1, 2, 3, 4] 5 && (frT 11 ops [0, 1, 2, 3, 4, 5] 6 && (frT 11 ops [0, 1, 2, 3, 4, 5, 6] 7 && rdT 11 ops [0, 1, 2, 3, 4, 5, 6, 7] [8])))
  && ((frT 11 ops [0, 1, 2, 3, 4, 8] 5 && (frT 11 ops [0, 1, 2, 3, 4, 5, 8] 6 && (frT 11 ops [0, 1, 2, 3, 4, 5, 6, 8] 7 && rdT 11 ops [0, 1, 2, 3, 4, 5, 6, 7, 8] [9])))
  && (rdT 11 ops [0, 1, 2, 3, 4, 5, 6, 7, 8, 9] [10] && rdT 11 ops [0, 1, 2, 3, 4, 5, 6, 7, 8, 9, 10] []))))))

/-- The same without the first call: load, load, call, call, move, extract, extract, alloc, store, assign. -/
def shapeB (ops : Array Oper) : Bool :=
  (ops.size == 10 && Region.noSelect ops) && ((frT 10 ops [] 0 && frT 10 ops [0] 1)
  && ((rdT 10 ops [0, 1] [2, 7] && rdT 10 ops [0, 1, 2] [3, 7])
  && ((rdT 10 ops [0, 1, 7] [2] && rdT 10 ops [0, 1, 2, 7] [3])
  && ((frT 10 ops [0, 1, 2, 3] 4 && (frT 10 ops [0, 1, 2, 3, 4] 5 && (frT 10 ops [0, 1, 2, 3, 4, 5] 6 && rdT 10 ops [0, 1, 2, 3, 4, 5, 6] [7])))
  && ((frT 10 ops [0, 1, 2, 3, 7] 4 && (frT 10 ops [0, 1, 2, 3, 4, 7] 5 && (frT 10 ops [0, 1, 2, 3, 4, 5, 7] 6 && rdT 10 ops [0, 1, 2, 3, 4, 5, 6, 7] [8])))
  && (rdT 10 ops [0, 1, 2, 3, 4, 5, 6, 7, 8] [9] && rdT 10 ops [0, 1, 2, 3, 4, 5, 6, 7, 8, 9] []))))))

theorem put_comm (a : Act) {d1 d2 : Option Tmp} (h : d1 ≠ d2) (u v : Value) : (a.put d1 u).put d2 v = (a.put d2 v).put d1 u := by
  cases d1 with
  | none => rfl
  | some s =>
    cases d2 with
    | none => rfl
    | some t =>
      have hst : s ≠ t := fun e => h (by rw [e])
      simp only [Act.put]
      rw [Array.setIfInBounds_comm _ _ hst]
def offT (d : Option Tmp) (y : Operand) : Bool := match d, y with
  | some t, .tmp s => s != t
  | _, _ => true
theorem eval_off (a : Act) {d : Option Tmp} {y : Operand} (h : offT d y = true) (v : Value) : (a.put d v).eval y = a.eval y := by
  cases d with
  | none => rfl
  | some t =>
    cases y with
    | tmp s =>
      have hst : s ≠ t := by simpa [offT] using h
      simp only [Act.put, Act.eval]
      rw [Array.getD_eq_getD_getElem?, Array.getD_eq_getD_getElem?, Array.getElem?_setIfInBounds_ne hst.symm]
    | _ => rfl

theorem run_move {P : Program} {ρ : Operand → Value} {o : Oper} {w : World} (x : Operand) (p : o.op = .move x) {v : Value} (e : ρ x = v) : (execOp ρ o).run P w = .ok (.value v) w := by
  unfold execOp
  simp [p, e, go_sem]
theorem run_assign {P : Program} {ρ : Operand → Value} {o : Oper} {w : World} (x : Operand) (p : o.op = .assign x) {v : Value} (e : ρ x = v) : (execOp ρ o).run P w = .ok (.value v) w := by
  unfold execOp
  simp [p, e, go_sem]
theorem run_ext {P : Program} {ρ : Operand → Value} {o : Oper} {w : World} (x : Operand) (i : Nat) (p : o.op = .extract x i) {vs : Array Value} {v : Value} (e : ρ x = .tuple vs) (hv : vs[i]? = some v) : (execOp ρ o).run P w = .ok (.value v) w := by
  unfold execOp
  simp [p, e, hv, go_sem]

theorem arr_set (n : Nat) (S T : List Nat) (i : Nat) (h : ((arr n S).setIfInBounds i true == arr n T) = true) : (arr n S).setIfInBounds i true = arr n T := by simpa using h

/-- load, call, load, call, call of two answers, the first one into a box. -/
theorem region_three {P : Program} {ops : Array Oper} {id : Nat} {a : Act} {w : World} {Q : Exit → Act → World → Prop} (hm : P.follows .mixedOrders = true) (hsh : shapeA ops = true)
    {o0 o1 o2 o3 o4 o5 o6 o7 o8 o9 o10 : Oper} (i0 : ops[0]? = some o0) (i1 : ops[1]? = some o1) (i2 : ops[2]? = some o2) (i3 : ops[3]? = some o3) (i4 : ops[4]? = some o4) (i5 : ops[5]? = some o5) (i6 : ops[6]? = some o6) (i7 : ops[7]? = some o7) (i8 : ops[8]? = some o8) (i9 : ops[9]? = some o9) (i10 : ops[10]? = some o10)
    (hg : o0.guard = none ∧ o1.guard = none ∧ o2.guard = none ∧ o3.guard = none ∧ o4.guard = none ∧ o5.guard = none ∧ o6.guard = none ∧ o7.guard = none ∧ o8.guard = none ∧ o9.guard = none ∧ o10.guard = none)
    (q : ∀ (d : Option Tmp) (v : Value) c (a : Act) w, Q (.panic c) (a.put d v) w → Q (.panic c) a w)
    (hd : o1.dst ≠ o8.dst ∧ o3.dst ≠ o8.dst ∧ o4.dst ≠ o8.dst ∧ o5.dst ≠ o8.dst ∧ o6.dst ≠ o8.dst ∧ o7.dst ≠ o8.dst)
    (tyA : TypeId) (xA : Operand) (pA : o0.op = .load tyA xA) (bA : Nat) (csA : List Value) (dA : TypeDesc) (eA : a.eval xA = .pointer (some ⟨bA, 0, none⟩)) (RA : Row w bA csA) (uA : P.underlying tyA = some dA) (kA : dA.isRow = true) (nA : (P.info? tyA).map (·.size) = some csA.length)
    (tyB : TypeId) (xB : Operand) (pB : o2.op = .load tyB xB) (bB : Nat) (csB : List Value) (dB : TypeDesc) (eB : (a.put o0.dst (.agg csA.toArray)).eval xB = .pointer (some ⟨bB, 0, none⟩)) (RB : Row w bB csB) (uB : P.underlying tyB = some dB) (kB : dB.isRow = true) (nB : (P.info? tyB).map (·.size) = some csB.length)
    (cA : FuncId) (yA : Operand) (tsA : Array TypeId) (p1 : o1.op = .call { callee := .value (.func cA), args := #[yA], argTypes := tsA }) (mA : ∀ vs w, (callFunc cA vs).run P w = .ok (.enter cA vs) w) (eyA : ((a.put o0.dst (.agg csA.toArray)).put o2.dst (.agg csB.toArray)).eval yA = .agg csA.toArray) (fyA : offT o8.dst yA = true)
    (cB : FuncId) (yB : Operand) (tsB : Array TypeId) (p3 : o3.op = .call { callee := .value (.func cB), args := #[yB], argTypes := tsB }) (mB : ∀ vs w, (callFunc cB vs).run P w = .ok (.enter cB vs) w) (eyB : ∀ VA, (((a.put o0.dst (.agg csA.toArray)).put o2.dst (.agg csB.toArray)).put o1.dst VA).eval yB = .agg csB.toArray) (fyB : offT o8.dst yB = true)
    (cF : FuncId) (yF zF : Operand) (tsF : Array TypeId) (p4 : o4.op = .call { callee := .value (.func cF), args := #[yF, zF], argTypes := tsF }) (mF : ∀ vs w, (callFunc cF vs).run P w = .ok (.enter cF vs) w) (eyF : ∀ VA VB, ((((a.put o0.dst (.agg csA.toArray)).put o2.dst (.agg csB.toArray)).put o1.dst VA).put o3.dst VB).eval yF = VA) (ezF : ∀ VA VB, ((((a.put o0.dst (.agg csA.toArray)).put o2.dst (.agg csB.toArray)).put o1.dst VA).put o3.dst VB).eval zF = VB) (fF : offT o8.dst yF = true ∧ offT o8.dst zF = true)
    (x5 : Operand) (p5 : o5.op = .move x5) (e5 : ∀ VA VB T, (((((a.put o0.dst (.agg csA.toArray)).put o2.dst (.agg csB.toArray)).put o1.dst VA).put o3.dst VB).put o4.dst T).eval x5 = T)
    (x6 : Operand) (p6 : o6.op = .extract x6 0) (e6 : ∀ VA VB T, ((((((a.put o0.dst (.agg csA.toArray)).put o2.dst (.agg csB.toArray)).put o1.dst VA).put o3.dst VB).put o4.dst T).put o5.dst T).eval x6 = T)
    (x7 : Operand) (p7 : o7.op = .extract x7 1) (e7 : ∀ VA VB T V1, (((((((a.put o0.dst (.agg csA.toArray)).put o2.dst (.agg csB.toArray)).put o1.dst VA).put o3.dst VB).put o4.dst T).put o5.dst T).put o6.dst V1).eval x7 = T) (f57 : offT o8.dst x5 = true ∧ offT o8.dst x6 = true ∧ offT o8.dst x7 = true)
    (zs : List Value) (ty8 : TypeId) (al : ∀ (ρ : Operand → Value) w, (execOp ρ o8).run P w = .ok (.value (.pointer (some ⟨w.heap.size, 0, none⟩))) (w.alloc (.cells zs.toArray ty8)))
    (ty9 : TypeId) (x9 y9 : Operand) (p9 : o9.op = .store ty9 x9 y9) (n9 : (P.info? ty9).map (·.size) = some zs.length) (e9 : ∀ VA VB T V1 V2 X, (((((((((a.put o0.dst (.agg csA.toArray)).put o2.dst (.agg csB.toArray)).put o1.dst VA).put o3.dst VB).put o4.dst T).put o5.dst T).put o6.dst V1).put o7.dst V2).put o8.dst X).eval x9 = X) (e9' : ∀ VA VB T V1 V2 X, (((((((((a.put o0.dst (.agg csA.toArray)).put o2.dst (.agg csB.toArray)).put o1.dst VA).put o3.dst VB).put o4.dst T).put o5.dst T).put o6.dst V1).put o7.dst V2).put o8.dst X).eval y9 = V1)
    (x10 : Operand) (p10 : o10.op = .assign x10) (e10 : ∀ VA VB T V1 V2 X, ((((((((((a.put o0.dst (.agg csA.toArray)).put o2.dst (.agg csB.toArray)).put o1.dst VA).put o3.dst VB).put o4.dst T).put o5.dst T).put o6.dst V1).put o7.dst V2).put o8.dst X).put o9.dst undef).eval x10 = V2)
    (SA SB : Value → World → Prop) (sA : ∀ V w' w'', SA V w' → Below w'.heap.size w' w'' → SA V w'') (sB : ∀ V w' w'', SB V w' → Below w'.heap.size w' w'' → SB V w'')
    (CA : ∀ w', Below w.heap.size w w' → Calls P cA #[.agg csA.toArray] w' fun e w'' => ∃ V, e = .returned V ∧ SA V w'' ∧ Below w'.heap.size w' w'')
    (CB : ∀ w', Below w.heap.size w w' → Calls P cB #[.agg csB.toArray] w' fun e w'' => ∃ V, e = .returned V ∧ SB V w'' ∧ Below w'.heap.size w' w'')
    (V2 : Value) (RF : Nat → List Value → World → Prop) (Ft : List Value → Nat → Prop)
    (CF : ∀ VA VB w', Below w.heap.size w w' → SA VA w' → SB VB w' → Calls P cF #[VA, VB] w' fun e w'' => ∃ cs, e = .returned (.tuple #[.agg (List.toArray cs), V2]) ∧ cs.length = zs.length ∧ cs.all (·.oneCell') = true ∧ RF w'.heap.size cs w'' ∧ Below w'.heap.size w' w'')
    (hF : ∀ B cs w', RF B cs w' → ∀ b, Ft cs b → B ≤ b ∧ b < w'.heap.size)
    (hK : ∀ B cs w' w'' (S : Nat → Prop), RF B cs w' → Kept S w' w'' → (∀ b, Ft cs b → ¬ S b) → RF B cs w'')
    (h : ∀ VA VB cs g B wr, w.heap.size ≤ B → w.heap.size ≤ g → Below w.heap.size w wr → Row wr g cs → RF B cs wr → (∀ b, Ft cs b → b ≠ g) → Q .normal (((((((((((a.put o0.dst (.agg csA.toArray)).put o2.dst (.agg csB.toArray)).put o1.dst VA).put o3.dst VB).put o4.dst (.tuple #[.agg (List.toArray cs), V2])).put o5.dst (.tuple #[.agg (List.toArray cs), V2])).put o6.dst (.agg (List.toArray cs))).put o7.dst V2).put o8.dst (.pointer (some ⟨g, 0, none⟩))).put o9.dst undef).put o10.dst V2) wr) :
    (Code.region id ops true).wp P Q a w := by
  obtain ⟨g0, g1, g2, g3, g4, g5, g6, g7, g8, g9, g10⟩ := hg
  obtain ⟨d1, d3, d4, d5, d6, d7⟩ := hd
  simp only [shapeA, frT, rdT, Bool.and_eq_true, beq_iff_eq] at hsh
  obtain ⟨⟨h11, hns⟩, ⟨fr0, fr2⟩, ⟨ra, rb, rc⟩, ⟨rd, re, rf⟩, ⟨f5a, f6a, f7a, r8⟩, ⟨f5b, f6b, f7b, r9⟩, r10, r11⟩ := hsh
  -- behind the box: the store and the last one
  have hst : ∀ VA VB cs g B wr, cs.length = zs.length → cs.all (·.oneCell') = true → w.heap.size ≤ B → w.heap.size ≤ g → Below w.heap.size w wr → Row wr g zs → RF B cs wr → (∀ b, Ft cs b → b ≠ g) → wpAnyH P .any ops Q (fun w' => Below w.heap.size w w') 2 (arr 11 [0, 1, 2, 3, 4, 5, 6, 7, 8]) (((((((((a.put o0.dst (.agg csA.toArray)).put o2.dst (.agg csB.toArray)).put o1.dst VA).put o3.dst VB).put o4.dst (.tuple #[.agg (List.toArray cs), V2])).put o5.dst (.tuple #[.agg (List.toArray cs), V2])).put o6.dst (.agg (List.toArray cs))).put o7.dst V2).put o8.dst (.pointer (some ⟨g, 0, none⟩))) wr := by
    intro VA VB cs g B wr hl h1 hB hge hb hr hRF hsep
    refine wpAnyH_all r9 (by simp) ?_
    intro i hi
    obtain rfl : i = 9 := by simpa using hi
    refine wpOp_step i9 (fun K hKK => ?_)
    rw [if_pos (by simp [Region.wanted, g9])]
    refine wp_store_mid ty9 x9 y9 p9 g 0 cs.toArray (e9 _ _ _ _ _ _) (e9' _ _ _ _ _ _) (fun j hj => ?_) (by rw [n9]; simp [hl]) (all_oneCell_toArray (fun v hv => List.all_eq_true.1 h1 v hv)) ?_
    · have hj' : j < zs.length := by rw [← hl]; simpa using hj
      rw [Nat.zero_add]
      exact ⟨by rw [hr.c j (List.getElem?_eq_getElem hj')]; rfl, hr.f j⟩
    rw [List.toList_toArray, ← puts_setCells]
    have hrow := puts_row hr 0 cs
    rw [listed_all cs zs 0 (by omega)] at hrow
    have hb' := puts_below hb hge 0 cs
    have hRF' := hK B cs wr _ (fun b => b = g) hRF (puts_kept wr g 0 cs) (fun b hb e => hsep b hb e)
    refine hKK _ _ ⟨hb', ?_⟩
    rw [arr_set 11 [0, 1, 2, 3, 4, 5, 6, 7, 8] [0, 1, 2, 3, 4, 5, 6, 7, 8, 9] 9 (by decide)]
    refine wpAnyH_all r10 (by simp) ?_
    intro i hi
    obtain rfl : i = 10 := by simpa using hi
    refine wpOp_step i10 (fun K hKK => ?_)
    rw [if_pos (by simp [Region.wanted, g10])]
    unfold Oper.wp
    rw [run_assign x10 p10 (e10 _ _ _ _ _ _), Oper.upon_value]
    refine hKK _ _ ⟨hb', ?_⟩
    rw [arr_set 11 [0, 1, 2, 3, 4, 5, 6, 7, 8, 9] [0, 1, 2, 3, 4, 5, 6, 7, 8, 9, 10] 10 (by decide)]
    exact wpAnyH_done r11 (h VA VB cs g B _ hB hge hb' hrow hRF' hsep) _
  -- behind the function, the box not yet made
  have hp0 : ∀ VA VB cs B wr, cs.length = zs.length → cs.all (·.oneCell') = true → w.heap.size ≤ B → Below w.heap.size w wr → RF B cs wr → wpAnyH P .any ops Q (fun w' => Below w.heap.size w w') 6 (arr 11 [0, 1, 2, 3, 4]) (((((a.put o0.dst (.agg csA.toArray)).put o2.dst (.agg csB.toArray)).put o1.dst VA).put o3.dst VB).put o4.dst (.tuple #[.agg (List.toArray cs), V2])) wr := by
    intro VA VB cs B wr hl h1 hB hb hRF
    refine wpAnyH_take i5 hns f5a.1 f5a.2 (fun _ _ _ => q _ _ _ _ _) (.inl ⟨by simp [Region.wanted, g5], fun _ _ => run_move x5 p5 (e5 _ _ _)⟩) hb ?_
    rw [arr_set 11 [0, 1, 2, 3, 4] [0, 1, 2, 3, 4, 5] 5 (by decide)]
    refine wpAnyH_take i6 hns f6a.1 f6a.2 (fun _ _ _ => q _ _ _ _ _) (.inl ⟨by simp [Region.wanted, g6], fun _ _ => run_ext x6 0 p6 (e6 _ _ _) rfl⟩) hb ?_
    rw [arr_set 11 [0, 1, 2, 3, 4, 5] [0, 1, 2, 3, 4, 5, 6] 6 (by decide)]
    refine wpAnyH_take i7 hns f7a.1 f7a.2 (fun _ _ _ => q _ _ _ _ _) (.inl ⟨by simp [Region.wanted, g7], fun _ _ => run_ext x7 1 p7 (e7 _ _ _ _) rfl⟩) hb ?_
    rw [arr_set 11 [0, 1, 2, 3, 4, 5, 6] [0, 1, 2, 3, 4, 5, 6, 7] 7 (by decide)]
    refine wpAnyH_all r8 (by simp) ?_
    intro i hi
    obtain rfl : i = 8 := by simpa using hi
    refine wpOp_step i8 (fun K hKK => ?_)
    rw [if_pos (by simp [Region.wanted, g8])]
    unfold Oper.wp
    rw [al, Oper.upon_value]
    have hb' := hb.alloc hb.size (.cells zs.toArray ty8)
    refine hKK _ _ ⟨hb', ?_⟩
    rw [arr_set 11 [0, 1, 2, 3, 4, 5, 6, 7] [0, 1, 2, 3, 4, 5, 6, 7, 8] 8 (by decide)]
    exact hst VA VB cs _ B _ hl h1 hB hb.size hb' (Row.new wr zs ty8) (hK B cs wr _ (fun _ => False) hRF (Kept.of_below ((Below.refl _ wr).alloc (Nat.le_refl _) _)) (fun _ _ hf => hf)) (fun b hb2 e => by have := (hF B cs wr hRF b hb2).2; omega)
  -- behind the function, the box made before
  have hp1 : ∀ VA VB cs g B wr, cs.length = zs.length → cs.all (·.oneCell') = true → w.heap.size ≤ B → w.heap.size ≤ g → g < B → Below w.heap.size w wr → Row wr g zs → RF B cs wr → wpAnyH P .any ops Q (fun w' => Below w.heap.size w w') 5 (arr 11 [0, 1, 2, 3, 4, 8]) ((((((a.put o0.dst (.agg csA.toArray)).put o2.dst (.agg csB.toArray)).put o1.dst VA).put o3.dst VB).put o4.dst (.tuple #[.agg (List.toArray cs), V2])).put o8.dst (.pointer (some ⟨g, 0, none⟩))) wr := by
    intro VA VB cs g B wr hl h1 hB hge hgB hb hr hRF
    refine wpAnyH_take i5 hns f5b.1 f5b.2 (fun _ _ _ => q _ _ _ _ _) (.inl ⟨by simp [Region.wanted, g5], fun _ _ => run_move x5 p5 ((eval_off _ f57.1 _).trans (e5 _ _ _))⟩) hb ?_
    rw [arr_set 11 [0, 1, 2, 3, 4, 8] [0, 1, 2, 3, 4, 5, 8] 5 (by decide), put_comm _ (Ne.symm d5)]
    refine wpAnyH_take i6 hns f6b.1 f6b.2 (fun _ _ _ => q _ _ _ _ _) (.inl ⟨by simp [Region.wanted, g6], fun _ _ => run_ext x6 0 p6 ((eval_off _ f57.2.1 _).trans (e6 _ _ _)) rfl⟩) hb ?_
    rw [arr_set 11 [0, 1, 2, 3, 4, 5, 8] [0, 1, 2, 3, 4, 5, 6, 8] 6 (by decide), put_comm _ (Ne.symm d6)]
    refine wpAnyH_take i7 hns f7b.1 f7b.2 (fun _ _ _ => q _ _ _ _ _) (.inl ⟨by simp [Region.wanted, g7], fun _ _ => run_ext x7 1 p7 ((eval_off _ f57.2.2 _).trans (e7 _ _ _ _)) rfl⟩) hb ?_
    rw [arr_set 11 [0, 1, 2, 3, 4, 5, 6, 8] [0, 1, 2, 3, 4, 5, 6, 7, 8] 7 (by decide), put_comm _ (Ne.symm d7)]
    exact hst VA VB cs g B wr hl h1 hB hge hb hr hRF (fun b hb2 e => by have := (hF B cs wr hRF b hb2).1; omega)
  -- the function
  have hF1 : ∀ VA VB g wr, w.heap.size ≤ g → Below w.heap.size w wr → Row wr g zs → SA VA wr → SB VB wr → wpAnyH P .any ops Q (fun w' => Below w.heap.size w w') 6 (arr 11 [0, 1, 2, 3, 8]) (((((a.put o0.dst (.agg csA.toArray)).put o2.dst (.agg csB.toArray)).put o1.dst VA).put o3.dst VB).put o8.dst (.pointer (some ⟨g, 0, none⟩))) wr := by
    intro VA VB g wr hge hb hr hA hB
    refine wpAnyH_all rf (by simp) ?_
    intro i hi
    obtain rfl : i = 4 := by simpa using hi
    refine wpOp_step i4 (fun K hKK => ?_)
    rw [if_pos (by simp [Region.wanted, g4])]
    unfold Oper.wp
    rw [enters _ o4 _ #[yF, zF] tsF cF p4 #[VA, VB] (by simp only [List.map_toArray, List.map_cons, List.map_nil, eval_off _ fF.1, eval_off _ fF.2, eyF, ezF]) mF, Oper.upon_enter]
    refine (CF VA VB wr hb hA hB).mono ?_
    rintro e w5 ⟨cs, rfl, hl, h1, hRF, b5⟩
    refine hKK _ _ ⟨hb.trans (b5.mono hb.size), ?_⟩
    rw [arr_set 11 [0, 1, 2, 3, 8] [0, 1, 2, 3, 4, 8] 4 (by decide), put_comm _ (Ne.symm d4)]
    exact hp1 VA VB cs g _ w5 hl h1 hb.size hge hr.lt (hb.trans (b5.mono hb.size)) (hr.below b5 hr.lt) hRF
  have hF0 : ∀ VA VB wr, Below w.heap.size w wr → SA VA wr → SB VB wr → wpAnyH P .any ops Q (fun w' => Below w.heap.size w w') 7 (arr 11 [0, 1, 2, 3]) ((((a.put o0.dst (.agg csA.toArray)).put o2.dst (.agg csB.toArray)).put o1.dst VA).put o3.dst VB) wr := by
    intro VA VB wr hb hA hB
    refine wpAnyH_all rc (by simp) ?_
    intro i hi
    rcases (by simpa using hi : i = 4 ∨ i = 8) with rfl | rfl
    · refine wpOp_step i4 (fun K hKK => ?_)
      rw [if_pos (by simp [Region.wanted, g4])]
      unfold Oper.wp
      rw [enters _ o4 _ #[yF, zF] tsF cF p4 #[VA, VB] (by simp only [List.map_toArray, List.map_cons, List.map_nil, eyF, ezF]) mF, Oper.upon_enter]
      refine (CF VA VB wr hb hA hB).mono ?_
      rintro e w5 ⟨cs, rfl, hl, h1, hRF, b5⟩
      refine hKK _ _ ⟨hb.trans (b5.mono hb.size), ?_⟩
      rw [arr_set 11 [0, 1, 2, 3] [0, 1, 2, 3, 4] 4 (by decide)]
      exact hp0 VA VB cs _ w5 hl h1 hb.size (hb.trans (b5.mono hb.size)) hRF
    · refine wpOp_step i8 (fun K hKK => ?_)
      rw [if_pos (by simp [Region.wanted, g8])]
      unfold Oper.wp
      rw [al, Oper.upon_value]
      have ba : Below wr.heap.size wr (wr.alloc (.cells zs.toArray ty8)) := (Below.refl _ wr).alloc (Nat.le_refl _) _
      refine hKK _ _ ⟨hb.trans (ba.mono hb.size), ?_⟩
      rw [arr_set 11 [0, 1, 2, 3] [0, 1, 2, 3, 8] 8 (by decide)]
      exact hF1 VA VB _ _ hb.size (hb.trans (ba.mono hb.size)) (Row.new wr zs ty8) (sA _ _ _ hA ba) (sB _ _ _ hB ba)
  -- the second argument
  have hB1 : ∀ VA g wr, w.heap.size ≤ g → Below w.heap.size w wr → Row wr g zs → SA VA wr → wpAnyH P .any ops Q (fun w' => Below w.heap.size w w') 7 (arr 11 [0, 1, 2, 8]) ((((a.put o0.dst (.agg csA.toArray)).put o2.dst (.agg csB.toArray)).put o1.dst VA).put o8.dst (.pointer (some ⟨g, 0, none⟩))) wr := by
    intro VA g wr hge hb hr hA
    refine wpAnyH_all re (by simp) ?_
    intro i hi
    obtain rfl : i = 3 := by simpa using hi
    refine wpOp_step i3 (fun K hKK => ?_)
    rw [if_pos (by simp [Region.wanted, g3])]
    unfold Oper.wp
    rw [enters _ o3 _ #[yB] tsB cB p3 #[.agg csB.toArray] (by simp only [List.map_toArray, List.map_cons, List.map_nil, eval_off _ fyB, eyB]) mB, Oper.upon_enter]
    refine (CB wr hb).mono ?_
    rintro e w5 ⟨VB, rfl, hS, b5⟩
    refine hKK _ _ ⟨hb.trans (b5.mono hb.size), ?_⟩
    rw [arr_set 11 [0, 1, 2, 8] [0, 1, 2, 3, 8] 3 (by decide), put_comm _ (Ne.symm d3)]
    exact hF1 VA VB g w5 hge (hb.trans (b5.mono hb.size)) (hr.below b5 hr.lt) (sA _ _ _ hA b5) hS
  have hB0 : ∀ VA wr, Below w.heap.size w wr → SA VA wr → wpAnyH P .any ops Q (fun w' => Below w.heap.size w w') 8 (arr 11 [0, 1, 2]) (((a.put o0.dst (.agg csA.toArray)).put o2.dst (.agg csB.toArray)).put o1.dst VA) wr := by
    intro VA wr hb hA
    refine wpAnyH_all rb (by simp) ?_
    intro i hi
    rcases (by simpa using hi : i = 3 ∨ i = 8) with rfl | rfl
    · refine wpOp_step i3 (fun K hKK => ?_)
      rw [if_pos (by simp [Region.wanted, g3])]
      unfold Oper.wp
      rw [enters _ o3 _ #[yB] tsB cB p3 #[.agg csB.toArray] (by simp only [List.map_toArray, List.map_cons, List.map_nil, eyB]) mB, Oper.upon_enter]
      refine (CB wr hb).mono ?_
      rintro e w5 ⟨VB, rfl, hS, b5⟩
      refine hKK _ _ ⟨hb.trans (b5.mono hb.size), ?_⟩
      rw [arr_set 11 [0, 1, 2] [0, 1, 2, 3] 3 (by decide)]
      exact hF0 VA VB w5 (hb.trans (b5.mono hb.size)) (sA _ _ _ hA b5) hS
    · refine wpOp_step i8 (fun K hKK => ?_)
      rw [if_pos (by simp [Region.wanted, g8])]
      unfold Oper.wp
      rw [al, Oper.upon_value]
      have ba : Below wr.heap.size wr (wr.alloc (.cells zs.toArray ty8)) := (Below.refl _ wr).alloc (Nat.le_refl _) _
      refine hKK _ _ ⟨hb.trans (ba.mono hb.size), ?_⟩
      rw [arr_set 11 [0, 1, 2] [0, 1, 2, 8] 8 (by decide)]
      exact hB1 VA _ _ hb.size (hb.trans (ba.mono hb.size)) (Row.new wr zs ty8) (sA _ _ _ hA ba)
  -- the first argument
  have hA1 : ∀ g wr, w.heap.size ≤ g → Below w.heap.size w wr → Row wr g zs → wpAnyH P .any ops Q (fun w' => Below w.heap.size w w') 8 (arr 11 [0, 2, 8]) (((a.put o0.dst (.agg csA.toArray)).put o2.dst (.agg csB.toArray)).put o8.dst (.pointer (some ⟨g, 0, none⟩))) wr := by
    intro g wr hge hb hr
    refine wpAnyH_all rd (by simp) ?_
    intro i hi
    obtain rfl : i = 1 := by simpa using hi
    refine wpOp_step i1 (fun K hKK => ?_)
    rw [if_pos (by simp [Region.wanted, g1])]
    unfold Oper.wp
    rw [enters _ o1 _ #[yA] tsA cA p1 #[.agg csA.toArray] (by simp only [List.map_toArray, List.map_cons, List.map_nil, eval_off _ fyA, eyA]) mA, Oper.upon_enter]
    refine (CA wr hb).mono ?_
    rintro e w5 ⟨VA, rfl, hS, b5⟩
    refine hKK _ _ ⟨hb.trans (b5.mono hb.size), ?_⟩
    rw [arr_set 11 [0, 2, 8] [0, 1, 2, 8] 1 (by decide), put_comm _ (Ne.symm d1)]
    exact hB1 VA g w5 hge (hb.trans (b5.mono hb.size)) (hr.below b5 hr.lt) hS
  refine wp_region_held (S := fun w' => Below w.heap.size w w') hm ?_
  rw [h11, show Array.replicate 11 false = arr 11 [] from by decide]
  have S0 : Below w.heap.size w { w with drawn := w.drawn + 1 } := (Below.refl _ w).drew
  refine wpAnyH_take i0 hns fr0.1 fr0.2 (fun _ _ _ => q _ _ _ _ _) (yieldsIf_load_mid (by simp [Region.wanted, g0]) tyA xA pA bA 0 eA csA dA (fun w' hw' => fun j v hv => by rw [Nat.zero_add]; exact (RA.below hw' RA.lt).c j hv) uA kA nA) S0 ?_
  rw [arr_set 11 [] [0] 0 (by decide)]
  refine wpAnyH_take i2 hns fr2.1 fr2.2 (fun _ _ _ => q _ _ _ _ _) (yieldsIf_load_mid (by simp [Region.wanted, g2]) tyB xB pB bB 0 eB csB dB (fun w' hw' => fun j v hv => by rw [Nat.zero_add]; exact (RB.below hw' RB.lt).c j hv) uB kB nB) S0 ?_
  rw [arr_set 11 [0] [0, 2] 2 (by decide)]
  refine wpAnyH_all ra (by simp) ?_
  intro i hi
  rcases (by simpa using hi : i = 1 ∨ i = 8) with rfl | rfl
  · refine wpOp_step i1 (fun K hKK => ?_)
    rw [if_pos (by simp [Region.wanted, g1])]
    unfold Oper.wp
    rw [enters _ o1 _ #[yA] tsA cA p1 #[.agg csA.toArray] (by simp only [List.map_toArray, List.map_cons, List.map_nil, eyA]) mA, Oper.upon_enter]
    refine (CA _ S0).mono ?_
    rintro e w5 ⟨VA, rfl, hS, b5⟩
    refine hKK _ _ ⟨S0.trans (b5.mono S0.size), ?_⟩
    rw [arr_set 11 [0, 2] [0, 1, 2] 1 (by decide)]
    exact hB0 VA w5 (S0.trans (b5.mono S0.size)) hS
  · refine wpOp_step i8 (fun K hKK => ?_)
    rw [if_pos (by simp [Region.wanted, g8])]
    unfold Oper.wp
    rw [al, Oper.upon_value]
    have ba := (Below.refl _ ({ w with drawn := w.drawn + 1 } : World)).alloc (Nat.le_refl _) (.cells zs.toArray ty8)
    refine hKK _ _ ⟨S0.trans (ba.mono S0.size), ?_⟩
    rw [arr_set 11 [0, 2] [0, 2, 8] 8 (by decide)]
    exact hA1 _ _ S0.size (S0.trans (ba.mono S0.size)) (Row.new _ zs ty8)

/-- load, load, call, call of two answers, the first one into a box. -/
theorem region_two {P : Program} {ops : Array Oper} {id : Nat} {a : Act} {w : World} {Q : Exit → Act → World → Prop} (hm : P.follows .mixedOrders = true) (hsh : shapeB ops = true)
    {o0 o2 o3 o4 o5 o6 o7 o8 o9 o10 : Oper} (i0 : ops[0]? = some o0) (i2 : ops[1]? = some o2) (i3 : ops[2]? = some o3) (i4 : ops[3]? = some o4) (i5 : ops[4]? = some o5) (i6 : ops[5]? = some o6) (i7 : ops[6]? = some o7) (i8 : ops[7]? = some o8) (i9 : ops[8]? = some o9) (i10 : ops[9]? = some o10)
    (hg : o0.guard = none ∧ o2.guard = none ∧ o3.guard = none ∧ o4.guard = none ∧ o5.guard = none ∧ o6.guard = none ∧ o7.guard = none ∧ o8.guard = none ∧ o9.guard = none ∧ o10.guard = none)
    (q : ∀ (d : Option Tmp) (v : Value) c (a : Act) w, Q (.panic c) (a.put d v) w → Q (.panic c) a w)
    (hd : o3.dst ≠ o8.dst ∧ o4.dst ≠ o8.dst ∧ o5.dst ≠ o8.dst ∧ o6.dst ≠ o8.dst ∧ o7.dst ≠ o8.dst)
    (tyA : TypeId) (xA : Operand) (pA : o0.op = .load tyA xA) (bA : Nat) (csA : List Value) (dA : TypeDesc) (eA : a.eval xA = .pointer (some ⟨bA, 0, none⟩)) (RA : Row w bA csA) (uA : P.underlying tyA = some dA) (kA : dA.isRow = true) (nA : (P.info? tyA).map (·.size) = some csA.length)
    (tyB : TypeId) (xB : Operand) (pB : o2.op = .load tyB xB) (bB : Nat) (csB : List Value) (dB : TypeDesc) (eB : (a.put o0.dst (.agg csA.toArray)).eval xB = .pointer (some ⟨bB, 0, none⟩)) (RB : Row w bB csB) (uB : P.underlying tyB = some dB) (kB : dB.isRow = true) (nB : (P.info? tyB).map (·.size) = some csB.length)
    (cB : FuncId) (yB : Operand) (tsB : Array TypeId) (p3 : o3.op = .call { callee := .value (.func cB), args := #[yB], argTypes := tsB }) (mB : ∀ vs w, (callFunc cB vs).run P w = .ok (.enter cB vs) w) (eyB : ((a.put o0.dst (.agg csA.toArray)).put o2.dst (.agg csB.toArray)).eval yB = .agg csB.toArray) (fyB : offT o8.dst yB = true)
    (cF : FuncId) (yF zF : Operand) (tsF : Array TypeId) (p4 : o4.op = .call { callee := .value (.func cF), args := #[yF, zF], argTypes := tsF }) (mF : ∀ vs w, (callFunc cF vs).run P w = .ok (.enter cF vs) w) (eyF : ∀ VB, (((a.put o0.dst (.agg csA.toArray)).put o2.dst (.agg csB.toArray)).put o3.dst VB).eval yF = .agg csA.toArray) (ezF : ∀ VB, (((a.put o0.dst (.agg csA.toArray)).put o2.dst (.agg csB.toArray)).put o3.dst VB).eval zF = VB) (fF : offT o8.dst yF = true ∧ offT o8.dst zF = true)
    (x5 : Operand) (p5 : o5.op = .move x5) (e5 : ∀ VB T, ((((a.put o0.dst (.agg csA.toArray)).put o2.dst (.agg csB.toArray)).put o3.dst VB).put o4.dst T).eval x5 = T)
    (x6 : Operand) (p6 : o6.op = .extract x6 0) (e6 : ∀ VB T, (((((a.put o0.dst (.agg csA.toArray)).put o2.dst (.agg csB.toArray)).put o3.dst VB).put o4.dst T).put o5.dst T).eval x6 = T)
    (x7 : Operand) (p7 : o7.op = .extract x7 1) (e7 : ∀ VB T V1, ((((((a.put o0.dst (.agg csA.toArray)).put o2.dst (.agg csB.toArray)).put o3.dst VB).put o4.dst T).put o5.dst T).put o6.dst V1).eval x7 = T) (f57 : offT o8.dst x5 = true ∧ offT o8.dst x6 = true ∧ offT o8.dst x7 = true)
    (zs : List Value) (ty8 : TypeId) (al : ∀ (ρ : Operand → Value) w, (execOp ρ o8).run P w = .ok (.value (.pointer (some ⟨w.heap.size, 0, none⟩))) (w.alloc (.cells zs.toArray ty8)))
    (ty9 : TypeId) (x9 y9 : Operand) (p9 : o9.op = .store ty9 x9 y9) (n9 : (P.info? ty9).map (·.size) = some zs.length) (e9 : ∀ VB T V1 V2 X, ((((((((a.put o0.dst (.agg csA.toArray)).put o2.dst (.agg csB.toArray)).put o3.dst VB).put o4.dst T).put o5.dst T).put o6.dst V1).put o7.dst V2).put o8.dst X).eval x9 = X) (e9' : ∀ VB T V1 V2 X, ((((((((a.put o0.dst (.agg csA.toArray)).put o2.dst (.agg csB.toArray)).put o3.dst VB).put o4.dst T).put o5.dst T).put o6.dst V1).put o7.dst V2).put o8.dst X).eval y9 = V1)
    (x10 : Operand) (p10 : o10.op = .assign x10) (e10 : ∀ VB T V1 V2 X, (((((((((a.put o0.dst (.agg csA.toArray)).put o2.dst (.agg csB.toArray)).put o3.dst VB).put o4.dst T).put o5.dst T).put o6.dst V1).put o7.dst V2).put o8.dst X).put o9.dst undef).eval x10 = V2)
    (SB : Value → World → Prop) (sB : ∀ V w' w'', SB V w' → Below w'.heap.size w' w'' → SB V w'')
    (CB : ∀ w', Below w.heap.size w w' → Calls P cB #[.agg csB.toArray] w' fun e w'' => ∃ V, e = .returned V ∧ SB V w'' ∧ Below w'.heap.size w' w'')
    (V2 : Value) (RF : Nat → List Value → World → Prop) (Ft : List Value → Nat → Prop)
    (CF : ∀ VB w', Below w.heap.size w w' → SB VB w' → Calls P cF #[.agg csA.toArray, VB] w' fun e w'' => ∃ cs, e = .returned (.tuple #[.agg (List.toArray cs), V2]) ∧ cs.length = zs.length ∧ cs.all (·.oneCell') = true ∧ RF w'.heap.size cs w'' ∧ Below w'.heap.size w' w'')
    (hF : ∀ B cs w', RF B cs w' → ∀ b, Ft cs b → B ≤ b ∧ b < w'.heap.size)
    (hK : ∀ B cs w' w'' (S : Nat → Prop), RF B cs w' → Kept S w' w'' → (∀ b, Ft cs b → ¬ S b) → RF B cs w'')
    (h : ∀ VB cs g B wr, w.heap.size ≤ B → w.heap.size ≤ g → Below w.heap.size w wr → Row wr g cs → RF B cs wr → (∀ b, Ft cs b → b ≠ g) → Q .normal ((((((((((a.put o0.dst (.agg csA.toArray)).put o2.dst (.agg csB.toArray)).put o3.dst VB).put o4.dst (.tuple #[.agg (List.toArray cs), V2])).put o5.dst (.tuple #[.agg (List.toArray cs), V2])).put o6.dst (.agg (List.toArray cs))).put o7.dst V2).put o8.dst (.pointer (some ⟨g, 0, none⟩))).put o9.dst undef).put o10.dst V2) wr) :
    (Code.region id ops true).wp P Q a w := by
  obtain ⟨g0, g2, g3, g4, g5, g6, g7, g8, g9, g10⟩ := hg
  obtain ⟨d3, d4, d5, d6, d7⟩ := hd
  simp only [shapeB, frT, rdT, Bool.and_eq_true, beq_iff_eq] at hsh
  obtain ⟨⟨h11, hns⟩, ⟨fr0, fr2⟩, ⟨rb, rc⟩, ⟨re, rf⟩, ⟨f5a, f6a, f7a, r8⟩, ⟨f5b, f6b, f7b, r9⟩, r10, r11⟩ := hsh
  -- behind the box: the store and the last one
  have hst : ∀ VB cs g B wr, cs.length = zs.length → cs.all (·.oneCell') = true → w.heap.size ≤ B → w.heap.size ≤ g → Below w.heap.size w wr → Row wr g zs → RF B cs wr → (∀ b, Ft cs b → b ≠ g) → wpAnyH P .any ops Q (fun w' => Below w.heap.size w w') 2 (arr 10 [0, 1, 2, 3, 4, 5, 6, 7]) ((((((((a.put o0.dst (.agg csA.toArray)).put o2.dst (.agg csB.toArray)).put o3.dst VB).put o4.dst (.tuple #[.agg (List.toArray cs), V2])).put o5.dst (.tuple #[.agg (List.toArray cs), V2])).put o6.dst (.agg (List.toArray cs))).put o7.dst V2).put o8.dst (.pointer (some ⟨g, 0, none⟩))) wr := by
    intro VB cs g B wr hl h1 hB hge hb hr hRF hsep
    refine wpAnyH_all r9 (by simp) ?_
    intro i hi
    obtain rfl : i = 8 := by simpa using hi
    refine wpOp_step i9 (fun K hKK => ?_)
    rw [if_pos (by simp [Region.wanted, g9])]
    refine wp_store_mid ty9 x9 y9 p9 g 0 cs.toArray (e9 _ _ _ _ _) (e9' _ _ _ _ _) (fun j hj => ?_) (by rw [n9]; simp [hl]) (all_oneCell_toArray (fun v hv => List.all_eq_true.1 h1 v hv)) ?_
    · have hj' : j < zs.length := by rw [← hl]; simpa using hj
      rw [Nat.zero_add]
      exact ⟨by rw [hr.c j (List.getElem?_eq_getElem hj')]; rfl, hr.f j⟩
    rw [List.toList_toArray, ← puts_setCells]
    have hrow := puts_row hr 0 cs
    rw [listed_all cs zs 0 (by omega)] at hrow
    have hb' := puts_below hb hge 0 cs
    have hRF' := hK B cs wr _ (fun b => b = g) hRF (puts_kept wr g 0 cs) (fun b hb e => hsep b hb e)
    refine hKK _ _ ⟨hb', ?_⟩
    rw [arr_set 10 [0, 1, 2, 3, 4, 5, 6, 7] [0, 1, 2, 3, 4, 5, 6, 7, 8] 8 (by decide)]
    refine wpAnyH_all r10 (by simp) ?_
    intro i hi
    obtain rfl : i = 9 := by simpa using hi
    refine wpOp_step i10 (fun K hKK => ?_)
    rw [if_pos (by simp [Region.wanted, g10])]
    unfold Oper.wp
    rw [run_assign x10 p10 (e10 _ _ _ _ _), Oper.upon_value]
    refine hKK _ _ ⟨hb', ?_⟩
    rw [arr_set 10 [0, 1, 2, 3, 4, 5, 6, 7, 8] [0, 1, 2, 3, 4, 5, 6, 7, 8, 9] 9 (by decide)]
    exact wpAnyH_done r11 (h VB cs g B _ hB hge hb' hrow hRF' hsep) _
  -- behind the function, the box not yet made
  have hp0 : ∀ VB cs B wr, cs.length = zs.length → cs.all (·.oneCell') = true → w.heap.size ≤ B → Below w.heap.size w wr → RF B cs wr → wpAnyH P .any ops Q (fun w' => Below w.heap.size w w') 6 (arr 10 [0, 1, 2, 3]) ((((a.put o0.dst (.agg csA.toArray)).put o2.dst (.agg csB.toArray)).put o3.dst VB).put o4.dst (.tuple #[.agg (List.toArray cs), V2])) wr := by
    intro VB cs B wr hl h1 hB hb hRF
    refine wpAnyH_take i5 hns f5a.1 f5a.2 (fun _ _ _ => q _ _ _ _ _) (.inl ⟨by simp [Region.wanted, g5], fun _ _ => run_move x5 p5 (e5 _ _)⟩) hb ?_
    rw [arr_set 10 [0, 1, 2, 3] [0, 1, 2, 3, 4] 4 (by decide)]
    refine wpAnyH_take i6 hns f6a.1 f6a.2 (fun _ _ _ => q _ _ _ _ _) (.inl ⟨by simp [Region.wanted, g6], fun _ _ => run_ext x6 0 p6 (e6 _ _) rfl⟩) hb ?_
    rw [arr_set 10 [0, 1, 2, 3, 4] [0, 1, 2, 3, 4, 5] 5 (by decide)]
    refine wpAnyH_take i7 hns f7a.1 f7a.2 (fun _ _ _ => q _ _ _ _ _) (.inl ⟨by simp [Region.wanted, g7], fun _ _ => run_ext x7 1 p7 (e7 _ _ _) rfl⟩) hb ?_
    rw [arr_set 10 [0, 1, 2, 3, 4, 5] [0, 1, 2, 3, 4, 5, 6] 6 (by decide)]
    refine wpAnyH_all r8 (by simp) ?_
    intro i hi
    obtain rfl : i = 7 := by simpa using hi
    refine wpOp_step i8 (fun K hKK => ?_)
    rw [if_pos (by simp [Region.wanted, g8])]
    unfold Oper.wp
    rw [al, Oper.upon_value]
    have hb' := hb.alloc hb.size (.cells zs.toArray ty8)
    refine hKK _ _ ⟨hb', ?_⟩
    rw [arr_set 10 [0, 1, 2, 3, 4, 5, 6] [0, 1, 2, 3, 4, 5, 6, 7] 7 (by decide)]
    exact hst VB cs _ B _ hl h1 hB hb.size hb' (Row.new wr zs ty8) (hK B cs wr _ (fun _ => False) hRF (Kept.of_below ((Below.refl _ wr).alloc (Nat.le_refl _) _)) (fun _ _ hf => hf)) (fun b hb2 e => by have := (hF B cs wr hRF b hb2).2; omega)
  -- behind the function, the box made before
  have hp1 : ∀ VB cs g B wr, cs.length = zs.length → cs.all (·.oneCell') = true → w.heap.size ≤ B → w.heap.size ≤ g → g < B → Below w.heap.size w wr → Row wr g zs → RF B cs wr → wpAnyH P .any ops Q (fun w' => Below w.heap.size w w') 5 (arr 10 [0, 1, 2, 3, 7]) (((((a.put o0.dst (.agg csA.toArray)).put o2.dst (.agg csB.toArray)).put o3.dst VB).put o4.dst (.tuple #[.agg (List.toArray cs), V2])).put o8.dst (.pointer (some ⟨g, 0, none⟩))) wr := by
    intro VB cs g B wr hl h1 hB hge hgB hb hr hRF
    refine wpAnyH_take i5 hns f5b.1 f5b.2 (fun _ _ _ => q _ _ _ _ _) (.inl ⟨by simp [Region.wanted, g5], fun _ _ => run_move x5 p5 ((eval_off _ f57.1 _).trans (e5 _ _))⟩) hb ?_
    rw [arr_set 10 [0, 1, 2, 3, 7] [0, 1, 2, 3, 4, 7] 4 (by decide), put_comm _ (Ne.symm d5)]
    refine wpAnyH_take i6 hns f6b.1 f6b.2 (fun _ _ _ => q _ _ _ _ _) (.inl ⟨by simp [Region.wanted, g6], fun _ _ => run_ext x6 0 p6 ((eval_off _ f57.2.1 _).trans (e6 _ _)) rfl⟩) hb ?_
    rw [arr_set 10 [0, 1, 2, 3, 4, 7] [0, 1, 2, 3, 4, 5, 7] 5 (by decide), put_comm _ (Ne.symm d6)]
    refine wpAnyH_take i7 hns f7b.1 f7b.2 (fun _ _ _ => q _ _ _ _ _) (.inl ⟨by simp [Region.wanted, g7], fun _ _ => run_ext x7 1 p7 ((eval_off _ f57.2.2 _).trans (e7 _ _ _)) rfl⟩) hb ?_
    rw [arr_set 10 [0, 1, 2, 3, 4, 5, 7] [0, 1, 2, 3, 4, 5, 6, 7] 6 (by decide), put_comm _ (Ne.symm d7)]
    exact hst VB cs g B wr hl h1 hB hge hb hr hRF (fun b hb2 e => by have := (hF B cs wr hRF b hb2).1; omega)
  -- the function
  have hF1 : ∀ VB g wr, w.heap.size ≤ g → Below w.heap.size w wr → Row wr g zs → SB VB wr → wpAnyH P .any ops Q (fun w' => Below w.heap.size w w') 6 (arr 10 [0, 1, 2, 7]) ((((a.put o0.dst (.agg csA.toArray)).put o2.dst (.agg csB.toArray)).put o3.dst VB).put o8.dst (.pointer (some ⟨g, 0, none⟩))) wr := by
    intro VB g wr hge hb hr hB
    refine wpAnyH_all rf (by simp) ?_
    intro i hi
    obtain rfl : i = 3 := by simpa using hi
    refine wpOp_step i4 (fun K hKK => ?_)
    rw [if_pos (by simp [Region.wanted, g4])]
    unfold Oper.wp
    rw [enters _ o4 _ #[yF, zF] tsF cF p4 #[.agg csA.toArray, VB] (by simp only [List.map_toArray, List.map_cons, List.map_nil, eval_off _ fF.1, eval_off _ fF.2, eyF, ezF]) mF, Oper.upon_enter]
    refine (CF VB wr hb hB).mono ?_
    rintro e w5 ⟨cs, rfl, hl, h1, hRF, b5⟩
    refine hKK _ _ ⟨hb.trans (b5.mono hb.size), ?_⟩
    rw [arr_set 10 [0, 1, 2, 7] [0, 1, 2, 3, 7] 3 (by decide), put_comm _ (Ne.symm d4)]
    exact hp1 VB cs g _ w5 hl h1 hb.size hge hr.lt (hb.trans (b5.mono hb.size)) (hr.below b5 hr.lt) hRF
  have hF0 : ∀ VB wr, Below w.heap.size w wr → SB VB wr → wpAnyH P .any ops Q (fun w' => Below w.heap.size w w') 7 (arr 10 [0, 1, 2]) (((a.put o0.dst (.agg csA.toArray)).put o2.dst (.agg csB.toArray)).put o3.dst VB) wr := by
    intro VB wr hb hB
    refine wpAnyH_all rc (by simp) ?_
    intro i hi
    rcases (by simpa using hi : i = 3 ∨ i = 7) with rfl | rfl
    · refine wpOp_step i4 (fun K hKK => ?_)
      rw [if_pos (by simp [Region.wanted, g4])]
      unfold Oper.wp
      rw [enters _ o4 _ #[yF, zF] tsF cF p4 #[.agg csA.toArray, VB] (by simp only [List.map_toArray, List.map_cons, List.map_nil, eyF, ezF]) mF, Oper.upon_enter]
      refine (CF VB wr hb hB).mono ?_
      rintro e w5 ⟨cs, rfl, hl, h1, hRF, b5⟩
      refine hKK _ _ ⟨hb.trans (b5.mono hb.size), ?_⟩
      rw [arr_set 10 [0, 1, 2] [0, 1, 2, 3] 3 (by decide)]
      exact hp0 VB cs _ w5 hl h1 hb.size (hb.trans (b5.mono hb.size)) hRF
    · refine wpOp_step i8 (fun K hKK => ?_)
      rw [if_pos (by simp [Region.wanted, g8])]
      unfold Oper.wp
      rw [al, Oper.upon_value]
      have ba : Below wr.heap.size wr (wr.alloc (.cells zs.toArray ty8)) := (Below.refl _ wr).alloc (Nat.le_refl _) _
      refine hKK _ _ ⟨hb.trans (ba.mono hb.size), ?_⟩
      rw [arr_set 10 [0, 1, 2] [0, 1, 2, 7] 7 (by decide)]
      exact hF1 VB _ _ hb.size (hb.trans (ba.mono hb.size)) (Row.new wr zs ty8) (sB _ _ _ hB ba)
  -- the second argument
  have hB1 : ∀ g wr, w.heap.size ≤ g → Below w.heap.size w wr → Row wr g zs → wpAnyH P .any ops Q (fun w' => Below w.heap.size w w') 7 (arr 10 [0, 1, 7]) (((a.put o0.dst (.agg csA.toArray)).put o2.dst (.agg csB.toArray)).put o8.dst (.pointer (some ⟨g, 0, none⟩))) wr := by
    intro g wr hge hb hr
    refine wpAnyH_all re (by simp) ?_
    intro i hi
    obtain rfl : i = 2 := by simpa using hi
    refine wpOp_step i3 (fun K hKK => ?_)
    rw [if_pos (by simp [Region.wanted, g3])]
    unfold Oper.wp
    rw [enters _ o3 _ #[yB] tsB cB p3 #[.agg csB.toArray] (by simp only [List.map_toArray, List.map_cons, List.map_nil, eval_off _ fyB, eyB]) mB, Oper.upon_enter]
    refine (CB wr hb).mono ?_
    rintro e w5 ⟨VB, rfl, hS, b5⟩
    refine hKK _ _ ⟨hb.trans (b5.mono hb.size), ?_⟩
    rw [arr_set 10 [0, 1, 7] [0, 1, 2, 7] 2 (by decide), put_comm _ (Ne.symm d3)]
    exact hF1 VB g w5 hge (hb.trans (b5.mono hb.size)) (hr.below b5 hr.lt) hS
  have hB0 : ∀ wr, Below w.heap.size w wr → wpAnyH P .any ops Q (fun w' => Below w.heap.size w w') 8 (arr 10 [0, 1]) ((a.put o0.dst (.agg csA.toArray)).put o2.dst (.agg csB.toArray)) wr := by
    intro wr hb
    refine wpAnyH_all rb (by simp) ?_
    intro i hi
    rcases (by simpa using hi : i = 2 ∨ i = 7) with rfl | rfl
    · refine wpOp_step i3 (fun K hKK => ?_)
      rw [if_pos (by simp [Region.wanted, g3])]
      unfold Oper.wp
      rw [enters _ o3 _ #[yB] tsB cB p3 #[.agg csB.toArray] (by simp only [List.map_toArray, List.map_cons, List.map_nil, eyB]) mB, Oper.upon_enter]
      refine (CB wr hb).mono ?_
      rintro e w5 ⟨VB, rfl, hS, b5⟩
      refine hKK _ _ ⟨hb.trans (b5.mono hb.size), ?_⟩
      rw [arr_set 10 [0, 1] [0, 1, 2] 2 (by decide)]
      exact hF0 VB w5 (hb.trans (b5.mono hb.size)) hS
    · refine wpOp_step i8 (fun K hKK => ?_)
      rw [if_pos (by simp [Region.wanted, g8])]
      unfold Oper.wp
      rw [al, Oper.upon_value]
      have ba : Below wr.heap.size wr (wr.alloc (.cells zs.toArray ty8)) := (Below.refl _ wr).alloc (Nat.le_refl _) _
      refine hKK _ _ ⟨hb.trans (ba.mono hb.size), ?_⟩
      rw [arr_set 10 [0, 1] [0, 1, 7] 7 (by decide)]
      exact hB1 _ _ hb.size (hb.trans (ba.mono hb.size)) (Row.new wr zs ty8)
  refine wp_region_held (S := fun w' => Below w.heap.size w w') hm ?_
  rw [h11, show Array.replicate 10 false = arr 10 [] from by decide]
  have S0 : Below w.heap.size w { w with drawn := w.drawn + 1 } := (Below.refl _ w).drew
  refine wpAnyH_take i0 hns fr0.1 fr0.2 (fun _ _ _ => q _ _ _ _ _) (yieldsIf_load_mid (by simp [Region.wanted, g0]) tyA xA pA bA 0 eA csA dA (fun w' hw' => fun j v hv => by rw [Nat.zero_add]; exact (RA.below hw' RA.lt).c j hv) uA kA nA) S0 ?_
  rw [arr_set 10 [] [0] 0 (by decide)]
  refine wpAnyH_take i2 hns fr2.1 fr2.2 (fun _ _ _ => q _ _ _ _ _) (yieldsIf_load_mid (by simp [Region.wanted, g2]) tyB xB pB bB 0 eB csB dB (fun w' hw' => fun j v hv => by rw [Nat.zero_add]; exact (RB.below hw' RB.lt).c j hv) uB kB nB) S0 ?_
  rw [arr_set 10 [0] [0, 1] 1 (by decide)]
  exact hB0 _ S0

end Go.Proofs.YtaopkchkhdbfnaaGreatDoor.Pl

namespace Go.Proofs.YtaopkchkhdbfnaaGreatDoor.Rg
open Go.RowKit Go.Proofs.YtaopkchkhdbfnaaGreatDoor.Mem Go.Proofs.YtaopkchkhdbfnaaGreatDoor.Pl
set_option linter.unusedVariables false

/-- What an operation is there for: 0 a load, 1 an argument laid anew, 2 the call, 3 its answer moved, 4 a part of it, 5 a box, 6 a part put into a box, 7 a part assigned, 8 a value that the world ahead of the region fixes. -/
structure Role where
  k : Nat
  i : Nat
  j : Nat
  cs : List Value

abbrev ro (k i j : Nat) : Role := ⟨k, i, j, []⟩

section
variable (P : Program) (ops : Array Oper) (a0 : Act) (w0 : World) (rs : List Role) (f : Nat) (S : Nat → (Nat → Value) → World → Prop) (FS : Nat → (Nat → Value) → Nat → Prop) (RF : Value → World → Prop) (Ft : Value → Nat → Prop)

/-- What holds of an operation that has come up. -/
def Has (L : Nat → Bool) (v : Nat → Value) (w : World) (i : Nat) (r : Role) : Prop :=
  ((r.k = 0 → v i = .agg r.cs.toArray) ∧ (r.k = 8 → v i = r.cs.headD undef)) ∧
  (r.k = 1 → L f = false → S i v w ∧ (∀ b, FS i v b → b < w.heap.size ∧ w0.heap.size ≤ b) ∧ ∀ k rk, rs[k]? = some rk → rk.k = 5 → L k = true → ∀ b, FS i v b → v k ≠ .pointer (some ⟨b, 0, none⟩)) ∧
  (r.k = 2 → RF (v i) w ∧ (∀ b, Ft (v i) b → b < w.heap.size ∧ w0.heap.size ≤ b) ∧ ∀ k rk, rs[k]? = some rk → rk.k = 5 → L k = true → ∀ b, Ft (v i) b → v k ≠ .pointer (some ⟨b, 0, none⟩)) ∧
  (r.k = 3 → v i = v f) ∧
  (r.k = 4 → ∃ a, v f = .tuple a ∧ a[r.j]? = some (v i)) ∧
  (r.k = 5 → ∃ g, v i = .pointer (some ⟨g, 0, none⟩) ∧ w0.heap.size ≤ g ∧ g < w.heap.size ∧ (L r.j = false → Row w g r.cs) ∧ ∀ k rk, rs[k]? = some rk → rk.k = 5 → k ≠ i → L k = true → v k ≠ v i) ∧
  (r.k = 6 → ∃ g cs, v r.i = .pointer (some ⟨g, 0, none⟩) ∧ v r.j = .agg (List.toArray cs) ∧ Row w g cs) ∧
  (r.k = 7 → v i = v r.i)

/-- What is asked of an operation. -/
def Asks (need : List Nat) (av : (Nat → Value) → Array Value) (i : Nat) (r : Role) : Prop :=
  ∃ o, ops[i]? = some o ∧ o.guard = none ∧
  match r.k with
  | 0 => ∃ ty x b d, o.op = .load ty x ∧ a0.eval x = .pointer (some ⟨b, 0, none⟩) ∧ offAll ops x = true ∧ Row w0 b r.cs ∧ P.underlying ty = some d ∧ d.isRow = true ∧ (P.info? ty).map (·.size) = some r.cs.length
  | 1 => ∃ c t ts, o.op = .call { callee := .value (.func c), args := #[.tmp t], argTypes := ts } ∧ dstOf ops r.i = some t ∧ reach ops ops.size i r.i = true ∧ (∃ r', rs[r.i]? = some r' ∧ r'.k = 0 ∧ r'.cs = r.cs) ∧
      (∀ vs w, (callFunc c vs).run P w = .ok (.enter c vs) w) ∧ reach ops ops.size f i = true ∧ (∀ v w' w'', S i v w' → Below w'.heap.size w' w'' → S i v w'') ∧ (∀ v v', (∀ j, j = i ∨ reach ops ops.size i j = true → v j = v' j) → (∀ w', S i v w' → S i v' w') ∧ ∀ b, FS i v' b → FS i v b) ∧
      ∀ v w', Below w0.heap.size w0 w' → (∀ j rj, reach ops ops.size i j = true → rs[j]? = some rj → ((rj.k = 0 → v j = .agg rj.cs.toArray) ∧ (rj.k = 8 → v j = rj.cs.headD undef)) ∧ (rj.k = 1 → S j v w')) → Calls P c #[.agg r.cs.toArray] w' fun e w'' => ∃ V, e = .returned V ∧ S i (updv v i V) w'' ∧ (∀ b, FS i (updv v i V) b → w'.heap.size ≤ b ∧ b < w''.heap.size) ∧ Below w'.heap.size w' w''
  | 2 => i = f ∧ ∃ c ys ts, o.op = .call { callee := .value (.func c), args := ys, argTypes := ts } ∧ (∀ vs w, (callFunc c vs).run P w = .ok (.enter c vs) w) ∧
      (∀ L v a, At ops a0 L v a → (∀ j, j ∈ need → L j = true) → ys.map a.eval = av v) ∧ (∀ j, j ∈ need → reach ops ops.size i j = true) ∧
      (∀ V w' w'' (T : Nat → Prop), RF V w' → Kept T w' w'' → (∀ b, Ft V b → ¬ T b) → RF V w'') ∧
      ∀ v w', Below w0.heap.size w0 w' → (∀ j rj, j ∈ need → rs[j]? = some rj → ((rj.k = 0 → v j = .agg rj.cs.toArray) ∧ (rj.k = 8 → v j = rj.cs.headD undef)) ∧ (rj.k = 1 → S j v w')) →
        Calls P c (av v) w' fun e w'' => ∃ V, e = .returned V ∧ RF V w'' ∧ (∀ b, Ft V b → (w'.heap.size ≤ b ∧ b < w''.heap.size) ∨ ∃ j rj, j ∈ need ∧ rs[j]? = some rj ∧ rj.k = 1 ∧ FS j v b) ∧ Kept (fun b => ∃ j rj, j ∈ need ∧ rs[j]? = some rj ∧ rj.k = 1 ∧ FS j v b) w' w''
  | 3 => ∃ t, o.op = .move (.tmp t) ∧ dstOf ops f = some t ∧ reach ops ops.size i f = true ∧ ∃ rf, rs[f]? = some rf ∧ rf.k = 2
  | 4 => ∃ t, o.op = .extract (.tmp t) r.j ∧ dstOf ops r.i = some t ∧ reach ops ops.size i r.i = true ∧ reach ops ops.size i f = true ∧ (∃ rf, rs[f]? = some rf ∧ rf.k = 2) ∧ (r.i = f ∨ ∃ r', rs[r.i]? = some r' ∧ r'.k = 3) ∧ ∀ V w, RF V w → ∃ a x, V = .tuple a ∧ a[r.j]? = some x
  | 5 => (∃ ty, ∀ (ρ : Operand → Value) w, (execOp ρ o).run P w = .ok (.value (.pointer (some ⟨w.heap.size, 0, none⟩))) (w.alloc (.cells r.cs.toArray ty))) ∧ ∃ r', rs[r.j]? = some r' ∧ r'.k = 6 ∧ r'.i = i
  | 6 => ∃ ty tx y, o.op = .store ty (.tmp tx) (.tmp y) ∧ dstOf ops r.i = some tx ∧ dstOf ops r.j = some y ∧ reach ops ops.size i r.i = true ∧ reach ops ops.size i r.j = true ∧ (r.j = f ∨ reach ops ops.size i f = true) ∧ (∃ rf, rs[f]? = some rf ∧ rf.k = 2) ∧
      ∃ rb, rs[r.i]? = some rb ∧ rb.k = 5 ∧ rb.j = i ∧ (P.info? ty).map (·.size) = some rb.cs.length ∧ ∃ rj, rs[r.j]? = some rj ∧
        ((rj.k = 4 ∧ ∀ V w a x, RF V w → V = .tuple a → a[rj.j]? = some x → ∃ cs, x = .agg (List.toArray cs) ∧ cs.length = rb.cs.length ∧ cs.all (·.oneCell') = true) ∨ (r.j = f ∧ ∀ V w, RF V w → ∃ cs, V = .agg (List.toArray cs) ∧ cs.length = rb.cs.length ∧ cs.all (·.oneCell') = true))
  | 7 => ∃ t, o.op = .assign (.tmp t) ∧ dstOf ops r.i = some t ∧ reach ops ops.size i r.i = true
  | 8 => ∀ L v a w, At ops a0 L v a → Below w0.heap.size w0 w → (∀ j, reach ops ops.size i j = true → L j = true) → (∀ j rj, reach ops ops.size i j = true → rs[j]? = some rj → rj.k = 8 → v j = rj.cs.headD undef) → (execOp a.eval o).run P w = .ok (.value (r.cs.headD undef)) w
  | _ => False

/-- The same, of each. -/
def AsksAll (need : List Nat) (av : (Nat → Value) → Array Value) : Nat → List Role → Prop
  | _, [] => True
  | i, r :: l => Asks P ops a0 w0 rs f S FS RF Ft need av i r ∧ AsksAll need av (i + 1) l

theorem AsksAll.at {P : Program} {ops : Array Oper} {a0 : Act} {w0 : World} {rs : List Role} {f : Nat} {S : Nat → (Nat → Value) → World → Prop} {FS : Nat → (Nat → Value) → Nat → Prop} {RF : Value → World → Prop} {Ft : Value → Nat → Prop} {need : List Nat} {av : (Nat → Value) → Array Value} :
    ∀ (l : List Role) (k : Nat), AsksAll P ops a0 w0 rs f S FS RF Ft need av k l → ∀ j r, l[j]? = some r → Asks P ops a0 w0 rs f S FS RF Ft need av (k + j) r
  | [], _, _, j, r, h => by simp at h
  | x :: l, k, h, 0, r, e => by
    simp only [List.getElem?_cons_zero, Option.some.injEq] at e
    subst e
    exact h.1
  | x :: l, k, h, j + 1, r, e => by
    have := AsksAll.at l (k + 1) h.2 j r (by simpa using e)
    rwa [show k + 1 + j = k + (j + 1) by omega] at this
end

section
variable {P : Program} {ops : Array Oper} {a0 : Act} {w0 : World} {rs : List Role} {f : Nat} {S : Nat → (Nat → Value) → World → Prop} {FS : Nat → (Nat → Value) → Nat → Prop} {RF : Value → World → Prop} {Ft : Value → Nat → Prop}

theorem upd_same (L : Nat → Bool) (i : Nat) : upd L i i = true := by simp [upd]
theorem upd_ne (L : Nat → Bool) {i j : Nat} (h : j ≠ i) : upd L i j = L j := by simp [upd, h]
theorem updv_same (v : Nat → Value) (i : Nat) (u : Value) : updv v i u i = u := by simp [updv]
theorem updv_ne (v : Nat → Value) {i j : Nat} (u : Value) (h : j ≠ i) : updv v i u j = v j := by simp [updv, h]

/-- What another operation has stays, where no cell of its own is stored into and what it looks at has come up. -/
theorem Has.stay {L : Nat → Bool} {v : Nat → Value} {w w' : World} {i k : Nat} {r : Role} {u : Value} {T : Nat → Prop} (h : Has w0 rs f S FS RF Ft L v w k r)
    (hki : k ≠ i) (hk : Kept T w w') (hf3 : r.k = 3 → f ≠ i) (hf4 : r.k = 4 → f ≠ i) (h6i : r.k = 6 → r.i ≠ i) (h6j : r.k = 6 → r.j ≠ i) (h7i : r.k = 7 → r.i ≠ i)
    (hRF : r.k = 2 → ∀ V w' w'' (T : Nat → Prop), RF V w' → Kept T w' w'' → (∀ b, Ft V b → ¬ T b) → RF V w'')
    (hS : r.k = 1 → L f = false → f ≠ i → S k v w → S k (updv v i u) w') (hFS : r.k = 1 → ∀ b, FS k (updv v i u) b → FS k v b) (h1 : r.k = 1 → L f = false → ∀ ri, rs[i]? = some ri → ri.k = 5 → ∀ b, FS k v b → u ≠ .pointer (some ⟨b, 0, none⟩))
    (hT2 : r.k = 2 → ∀ b, Ft (v k) b → ¬ T b)
    (h2 : r.k = 2 → ∀ ri, rs[i]? = some ri → ri.k = 5 → ∀ b, Ft (v k) b → u ≠ .pointer (some ⟨b, 0, none⟩))
    (h5 : r.k = 5 → ∀ ri, rs[i]? = some ri → ri.k = 5 → u ≠ v k)
    (hT5 : r.k = 5 → ∀ g, v k = .pointer (some ⟨g, 0, none⟩) → r.j ≠ i → ¬ T g)
    (hT6 : r.k = 6 → ∀ g, v r.i = .pointer (some ⟨g, 0, none⟩) → ¬ T g) : Has w0 rs f S FS RF Ft (upd L i) (updv v i u) w' k r := by
  obtain ⟨q0, q1, q2, q3, q4, q5, q6, q7⟩ := h
  refine ⟨⟨fun e => ?_, fun e => ?_⟩, fun e => ?_, fun e => ?_, fun e => ?_, fun e => ?_, fun e => ?_, fun e => ?_, fun e => ?_⟩
  · rw [updv_ne v u hki]; exact q0.1 e
  · rw [updv_ne v u hki]; exact q0.2 e
  · intro hl
    by_cases hfi : f = i
    · rw [hfi, upd_same] at hl; cases hl
    · rw [upd_ne L hfi] at hl
      obtain ⟨a1, a2, a3⟩ := q1 e hl
      refine ⟨hS e hl hfi a1, fun b hb => ⟨Nat.lt_of_lt_of_le (a2 b (hFS e b hb)).1 hk.size, (a2 b (hFS e b hb)).2⟩, fun m rm hm hm5 hL b hb => ?_⟩
      by_cases hmi : m = i
      · subst hmi
        rw [updv_same]
        exact h1 e hl rm hm hm5 b (hFS e b hb)
      · rw [upd_ne L hmi] at hL
        rw [updv_ne v u hmi]
        exact a3 m rm hm hm5 hL b (hFS e b hb)
  · rw [updv_ne v u hki]
    obtain ⟨a1, a2, a3⟩ := q2 e
    refine ⟨hRF e _ _ _ _ a1 hk (hT2 e), fun b hb => ⟨Nat.lt_of_lt_of_le (a2 b hb).1 hk.size, (a2 b hb).2⟩, fun m rm hm hm5 hL b hb => ?_⟩
    by_cases hmi : m = i
    · subst hmi
      rw [updv_same]
      exact h2 e rm hm hm5 b hb
    · rw [upd_ne L hmi] at hL
      rw [updv_ne v u hmi]
      exact a3 m rm hm hm5 hL b hb
  · rw [updv_ne v u hki, updv_ne v u (hf3 e)]; exact q3 e
  · rw [updv_ne v u hki, updv_ne v u (hf4 e)]; exact q4 e
  · obtain ⟨g, a1, a2, a3, a4, a5⟩ := q5 e
    refine ⟨g, by rw [updv_ne v u hki]; exact a1, a2, Nat.lt_of_lt_of_le a3 hk.size, fun hl => ?_, fun m rm hm hm5 hmk hL => ?_⟩
    · by_cases hji : r.j = i
      · rw [hji, upd_same] at hl; cases hl
      · rw [upd_ne L hji] at hl
        exact (a4 hl).kept hk (hT5 e g a1 hji)
    · rw [updv_ne v u hki]
      by_cases hmi : m = i
      · subst hmi
        rw [updv_same]
        exact h5 e rm hm hm5
      · rw [upd_ne L hmi] at hL
        rw [updv_ne v u hmi]
        exact a5 m rm hm hm5 hmk hL
  · obtain ⟨g, cs, a1, a2, a3⟩ := q6 e
    exact ⟨g, cs, by rw [updv_ne v u (h6i e)]; exact a1, by rw [updv_ne v u (h6j e)]; exact a2, a3.kept hk (hT6 e g a1)⟩
  · rw [updv_ne v u hki, updv_ne v u (h7i e)]; exact q7 e

variable {need : List Nat} {av : (Nat → Value) → Array Value}

theorem keepAll (hA : ∀ i r, rs[i]? = some r → Asks P ops a0 w0 rs f S FS RF Ft need av i r) {L : Nat → Bool} {v : Nat → Value} {w w' : World} {T : Nat → Prop} {u : Value}
    (hC : ∀ j oj, ops[j]? = some oj → L j = true → waits oj L = true) {i : Nat} {r : Role} {o : Oper} (hri : rs[i]? = some r) (ho : ops[i]? = some o) (hw : waits o L = true) (hLi : L i = false)
    (hI : ∀ k rk, rs[k]? = some rk → L k = true → Has w0 rs f S FS RF Ft L v w k rk) (hk : Kept T w w') (hS : L f = false → f ≠ i → Below w.heap.size w w')
    (hu : r.k = 5 → u = .pointer (some ⟨w.heap.size, 0, none⟩))
    (hT2 : ∀ k rk, rs[k]? = some rk → rk.k = 2 → L k = true → ∀ b, Ft (v k) b → ¬ T b)
    (hT5 : ∀ k rk, rs[k]? = some rk → rk.k = 5 → L k = true → rk.j ≠ i → ∀ g, v k = .pointer (some ⟨g, 0, none⟩) → ¬ T g)
    (hT6 : ∀ k rk, rs[k]? = some rk → rk.k = 6 → L k = true → k ≠ i → ∀ g, v rk.i = .pointer (some ⟨g, 0, none⟩) → ¬ T g)
    (hnew : Has w0 rs f S FS RF Ft (upd L i) (updv v i u) w' i r) : ∀ k rk, rs[k]? = some rk → upd L i k = true → Has w0 rs f S FS RF Ft (upd L i) (updv v i u) w' k rk := by
  intro k rk hrk hLk
  by_cases hki : k = i
  · subst hki
    rw [hri] at hrk
    cases hrk
    exact hnew
  rw [upd_ne L hki] at hLk
  have hH := hI k rk hrk hLk
  have hq := hA k rk hrk
  -- what k waits for has come up
  have lst : ∀ j, (∀ ok, ops[k]? = some ok → reach ops ops.size k j = true) → j ≠ i := fun j hj e => by
    obtain ⟨ok, hok, _⟩ := hq
    have := reach_listed hC ops.size k j ok hok (hC k ok hok hLk) (hj ok hok)
    rw [e, hLi] at this
    cases this
  have same : ∀ j, j = k ∨ reach ops ops.size k j = true → v j = updv v i u j := fun j hj => by
    have hji : j ≠ i := by
      rcases hj with hj | hj
      · rw [hj]; exact hki
      · exact lst j (fun _ _ => hj)
    rw [updv_ne v u hji]
  refine hH.stay hki hk ?_ ?_ ?_ ?_ ?_ ?_ ?_ ?_ ?_ ?_ ?_ ?_ ?_ ?_
  · intro e
    obtain ⟨ok, hok, _, hm⟩ := hq
    rw [e] at hm
    obtain ⟨t, _, _, hr, _⟩ := hm
    exact lst f (fun _ _ => hr)
  · intro e
    obtain ⟨ok, hok, _, hm⟩ := hq
    rw [e] at hm
    obtain ⟨t, _, _, _, hr, _⟩ := hm
    exact lst f (fun _ _ => hr)
  · intro e
    obtain ⟨ok, hok, _, hm⟩ := hq
    rw [e] at hm
    obtain ⟨ty, tx, y, _, _, _, hr, _⟩ := hm
    exact lst rk.i (fun _ _ => hr)
  · intro e
    obtain ⟨ok, hok, _, hm⟩ := hq
    rw [e] at hm
    obtain ⟨ty, tx, y, _, _, _, _, hr, _⟩ := hm
    exact lst rk.j (fun _ _ => hr)
  · intro e
    obtain ⟨ok, hok, _, hm⟩ := hq
    rw [e] at hm
    obtain ⟨t, _, _, hr⟩ := hm
    exact lst rk.i (fun _ _ => hr)
  · intro e
    obtain ⟨ok, hok, _, hm⟩ := hq
    rw [e] at hm
    obtain ⟨_, c, ys, ts, _, _, _, _, hst, _⟩ := hm
    exact hst
  · intro e hl hfi h
    obtain ⟨ok, hok, _, hm⟩ := hq
    rw [e] at hm
    obtain ⟨c, t, ts, _, _, _, _, _, _, hst, hcg, _⟩ := hm
    exact (hcg v _ same).1 _ (hst _ _ _ h (hS hl hfi))
  · intro e b hb
    obtain ⟨ok, hok, _, hm⟩ := hq
    rw [e] at hm
    obtain ⟨c, t, ts, _, _, _, _, _, _, hst, hcg, _⟩ := hm
    exact (hcg v _ same).2 b hb
  · intro e hl ri hri2 e5 b hb hu2
    rw [hri] at hri2
    cases hri2
    rw [hu e5] at hu2
    have := ((hH.2.1 e hl).2.1 b hb).1
    cases hu2
    omega
  · exact fun e b hb => hT2 k rk hrk e hLk b hb
  · intro e ri hri2 e5 b hb hu2
    rw [hri] at hri2
    cases hri2
    rw [hu e5] at hu2
    have := ((hH.2.2.1 e).2.1 b hb).1
    cases hu2
    omega
  · intro e ri hri2 e5 hu2
    rw [hri] at hri2
    cases hri2
    obtain ⟨g, a1, a2, a3, _⟩ := hH.2.2.2.2.2.1 e
    rw [hu e5, a1] at hu2
    cases hu2
    omega
  · exact fun e g hv hji => hT5 k rk hrk e hLk hji g hv
  · exact fun e g hv => hT6 k rk hrk e hLk hki g hv

theorem has0 {L : Nat → Bool} {v : Nat → Value} {w : World} {i : Nat} {r : Role} (e : r.k = 0) (h : v i = .agg r.cs.toArray) : Has w0 rs f S FS RF Ft L v w i r :=
  ⟨⟨fun _ => h, fun q => by omega⟩, fun q => by omega, fun q => by omega, fun q => by omega, fun q => by omega, fun q => by omega, fun q => by omega, fun q => by omega⟩
theorem has1 {L : Nat → Bool} {v : Nat → Value} {w : World} {i : Nat} {r : Role} (e : r.k = 1) (h : L f = false → S i v w ∧ (∀ b, FS i v b → b < w.heap.size ∧ w0.heap.size ≤ b) ∧ ∀ k rk, rs[k]? = some rk → rk.k = 5 → L k = true → ∀ b, FS i v b → v k ≠ .pointer (some ⟨b, 0, none⟩)) : Has w0 rs f S FS RF Ft L v w i r :=
  ⟨⟨fun q => by omega, fun q => by omega⟩, fun _ => h, fun q => by omega, fun q => by omega, fun q => by omega, fun q => by omega, fun q => by omega, fun q => by omega⟩
theorem has2 {L : Nat → Bool} {v : Nat → Value} {w : World} {i : Nat} {r : Role} (e : r.k = 2) (h : RF (v i) w ∧ (∀ b, Ft (v i) b → b < w.heap.size ∧ w0.heap.size ≤ b) ∧ ∀ k rk, rs[k]? = some rk → rk.k = 5 → L k = true → ∀ b, Ft (v i) b → v k ≠ .pointer (some ⟨b, 0, none⟩)) : Has w0 rs f S FS RF Ft L v w i r :=
  ⟨⟨fun q => by omega, fun q => by omega⟩, fun q => by omega, fun _ => h, fun q => by omega, fun q => by omega, fun q => by omega, fun q => by omega, fun q => by omega⟩
theorem has3 {L : Nat → Bool} {v : Nat → Value} {w : World} {i : Nat} {r : Role} (e : r.k = 3) (h : v i = v f) : Has w0 rs f S FS RF Ft L v w i r :=
  ⟨⟨fun q => by omega, fun q => by omega⟩, fun q => by omega, fun q => by omega, fun _ => h, fun q => by omega, fun q => by omega, fun q => by omega, fun q => by omega⟩
theorem has4 {L : Nat → Bool} {v : Nat → Value} {w : World} {i : Nat} {r : Role} (e : r.k = 4) (h : ∃ a, v f = .tuple a ∧ a[r.j]? = some (v i)) : Has w0 rs f S FS RF Ft L v w i r :=
  ⟨⟨fun q => by omega, fun q => by omega⟩, fun q => by omega, fun q => by omega, fun q => by omega, fun _ => h, fun q => by omega, fun q => by omega, fun q => by omega⟩
theorem has5 {L : Nat → Bool} {v : Nat → Value} {w : World} {i : Nat} {r : Role} (e : r.k = 5) (h : ∃ g, v i = .pointer (some ⟨g, 0, none⟩) ∧ w0.heap.size ≤ g ∧ g < w.heap.size ∧ (L r.j = false → Row w g r.cs) ∧ ∀ k rk, rs[k]? = some rk → rk.k = 5 → k ≠ i → L k = true → v k ≠ v i) : Has w0 rs f S FS RF Ft L v w i r :=
  ⟨⟨fun q => by omega, fun q => by omega⟩, fun q => by omega, fun q => by omega, fun q => by omega, fun q => by omega, fun _ => h, fun q => by omega, fun q => by omega⟩
theorem has6 {L : Nat → Bool} {v : Nat → Value} {w : World} {i : Nat} {r : Role} (e : r.k = 6) (h : ∃ g cs, v r.i = .pointer (some ⟨g, 0, none⟩) ∧ v r.j = .agg (List.toArray cs) ∧ Row w g cs) : Has w0 rs f S FS RF Ft L v w i r :=
  ⟨⟨fun q => by omega, fun q => by omega⟩, fun q => by omega, fun q => by omega, fun q => by omega, fun q => by omega, fun q => by omega, fun _ => h, fun q => by omega⟩
theorem has8 {L : Nat → Bool} {v : Nat → Value} {w : World} {i : Nat} {r : Role} (e : r.k = 8) (h : v i = r.cs.headD undef) : Has w0 rs f S FS RF Ft L v w i r :=
  ⟨⟨fun q => by omega, fun _ => h⟩, fun q => by omega, fun q => by omega, fun q => by omega, fun q => by omega, fun q => by omega, fun q => by omega, fun q => by omega⟩
theorem has7 {L : Nat → Bool} {v : Nat → Value} {w : World} {i : Nat} {r : Role} (e : r.k = 7) (h : v i = v r.i) : Has w0 rs f S FS RF Ft L v w i r :=
  ⟨⟨fun q => by omega, fun q => by omega⟩, fun q => by omega, fun q => by omega, fun q => by omega, fun q => by omega, fun q => by omega, fun q => by omega, fun _ => h⟩

theorem rg_both {Q : Exit → Act → World → Prop} {id : Nat} {w : World} (dr : Bool) (hm : P.follows .mixedOrders = true) (hf : fits ops a0.tmps.size = true)
    (ds : List (Option Tmp)) (hds : (List.range ops.size).map (dstOf ops) = ds)
    (I : (Nat → Bool) → (Nat → Value) → World → Prop) (h0 : I (fun _ => false) (fun _ => undef) w.drew) (h1 : I (fun _ => false) (fun _ => undef) w)
    (hstep : ∀ i o, ops[i]? = some o → ∀ (L : Nat → Bool) (v : Nat → Value) (a : Act) (w : World), At ops a0 L v a → I L v w → (∀ j oj, ops[j]? = some oj → L j = true → waits oj L = true) → L i = false → waits o L = true →
      wpOp P ops Q i (fun a' w' => ∃ u, a' = a.put o.dst u ∧ I (upd L i) (updv v i u) w') a w)
    (hend : ∀ L v w, (∀ i, i < ops.size → L i = true) → I L v w → Q .normal (putsAll a0 ds v 0) w) : (Code.region id ops dr).wp P Q a0 w := by
  cases dr with
  | true => exact wp_region_rg hm hf ds hds I h0 hstep hend
  | false => exact wp_region_rg_plain hf ds hds I h1 hstep hend

/-- THE LAW: whatever the order, at the end each operation has what its role says. -/
theorem region_ans {Q : Exit → Act → World → Prop} {id : Nat} (dr : Bool) (hm : P.follows .mixedOrders = true) (hf : fits ops a0.tmps.size = true) (hn : ops.size = rs.length) (need : List Nat) (av : (Nat → Value) → Array Value)
    (hAll : AsksAll P ops a0 w0 rs f S FS RF Ft need av 0 rs) (ds : List (Option Tmp)) (hds : (List.range ops.size).map (dstOf ops) = ds)
    (hend : ∀ L v w, (∀ i, i < rs.length → L i = true) → Below w0.heap.size w0 w → (∀ i r, rs[i]? = some r → Has w0 rs f S FS RF Ft L v w i r) → Q .normal (putsAll a0 ds v 0) w) : (Code.region id ops dr).wp P Q a0 w0 := by
  have hA : ∀ i r, rs[i]? = some r → Asks P ops a0 w0 rs f S FS RF Ft need av i r := fun i r h => by
    have := AsksAll.at rs 0 hAll i r h
    rwa [Nat.zero_add] at this
  refine rg_both dr hm hf ds hds (fun L v w => Below w0.heap.size w0 w ∧ ∀ k rk, rs[k]? = some rk → L k = true → Has w0 rs f S FS RF Ft L v w k rk) ⟨(Below.refl _ w0).drew, fun k rk _ h => (by cases h)⟩ ⟨Below.refl _ w0, fun k rk _ h => (by cases h)⟩ ?_ ?_
  · rintro i o ho L v a w hAt ⟨hB, hI⟩ hC hLi hw
    have hlt : i < ops.size := (Array.getElem?_eq_some_iff.1 ho).1
    obtain ⟨r, hri⟩ : ∃ r, rs[i]? = some r := ⟨_, List.getElem?_eq_getElem (by omega)⟩
    have hqi := hA i r hri
    have lsi : ∀ j, reach ops ops.size i j = true → L j = true := fun j hj => reach_listed hC ops.size i j o ho hw hj
    have whl : ∀ (u : Value) (w' : World), Below w.heap.size w w' → (r.k = 5 → u = .pointer (some ⟨w.heap.size, 0, none⟩)) → Has w0 rs f S FS RF Ft (upd L i) (updv v i u) w' i r →
        ∃ u', a.put o.dst u = a.put o.dst u' ∧ (Below w0.heap.size w0 w' ∧ ∀ k rk, rs[k]? = some rk → upd L i k = true → Has w0 rs f S FS RF Ft (upd L i) (updv v i u') w' k rk) := fun u w' hb hu hh =>
      ⟨u, rfl, hB.trans (hb.mono hB.size), keepAll (T := fun _ => False) hA hC hri ho hw hLi hI (Kept.of_below hb) (fun _ _ => hb) hu (fun _ _ _ _ _ _ _ h => h) (fun _ _ _ _ _ _ _ _ h => h) (fun _ _ _ _ _ _ _ _ h => h) hh⟩
    obtain ⟨o', ho', hg, hm'⟩ := hqi
    rw [ho] at ho'
    cases ho'
    obtain ⟨k, ri, rj, rcs⟩ := r
    match k, hm', hri, whl with
    | 0, hm', hri, whl =>
      obtain ⟨ty, x, b, d, hop, hx, hoff, hrow, hu, hd, hsz⟩ := hm'
      refine wpOp_plain ho hg fun K hK => ?_
      refine wp_load_mid ty x hop b 0 ((hAt.eval_off hoff).trans hx) rcs d (fun j u hu => by rw [Nat.zero_add]; exact (hrow.below hB hrow.lt).c j hu) hu hd hsz (hK _ _ ?_)
      exact whl _ _ (Below.refl _ _) (fun e => by cases e) (has0 rfl (updv_same v i _))
    | 1, hm', hri, whl =>
      obtain ⟨c, t, ts, hop, hd, hr, ⟨r', hr1, hr2, hr3⟩, hc, hfr, hst, hcg, hcon⟩ := hm'
      have hLf : L f = false := by
        cases hb : L f with
        | false => rfl
        | true =>
          cases hof : ops[f]? with
          | none => unfold reach at hfr; cases hsz : ops.size with
            | zero => rw [hsz] at hfr; cases hfr
            | succ n => rw [hsz] at hfr; simp only [hof] at hfr; cases hfr
          | some of =>
            have := reach_listed hC ops.size f i of hof (hC f of hof hb) hfr
            rw [hLi] at this
            cases this
      have hv : v ri = .agg rcs.toArray := by
        have := (hI ri r' hr1 (lsi ri hr)).1.1 hr2
        rw [hr3] at this
        exact this
      refine wpOp_call ho hg (enters a o w #[.tmp t] ts c hop #[.agg rcs.toArray] (by simp only [List.map_toArray, List.map_cons, List.map_nil]; rw [hAt.eval_got ri (lsi ri hr) hd, hv]) hc) ?_
      refine (hcon v w hB (fun j rj hj hrj => ⟨(hI j rj hrj (lsi j hj)).1, fun e => ((hI j rj hrj (lsi j hj)).2.1 e hLf).1⟩)).mono ?_
      rintro e w' ⟨V, rfl, hS, hF, hb⟩
      refine ⟨V, rfl, whl V w' hb (fun e => by cases e) (has1 rfl (fun _ => ⟨hS, fun b hb2 => ⟨(hF b hb2).2, Nat.le_trans hB.size (hF b hb2).1⟩, fun m rm hrm hm5 hLm b hb2 => ?_⟩))⟩
      have hmi : m ≠ i := fun e => by rw [e, hri] at hrm; cases hrm; cases hm5
      rw [upd_ne L hmi] at hLm
      rw [updv_ne v V hmi]
      obtain ⟨g, a1, a2, a3, _⟩ := (hI m rm hrm hLm).2.2.2.2.2.1 hm5
      rw [a1]
      intro e
      cases e
      have := (hF _ hb2).1
      omega
    | 2, hm', hri, whl =>
      obtain ⟨hif, c, ys, ts, hop, hc, hav, hneed, hstab, hcon⟩ := hm'
      have hLf : L f = false := by rw [← hif]; exact hLi
      refine wpOp_call ho hg (enters a o w ys ts c hop (av v) (hav L v a hAt (fun j hj => lsi j (hneed j hj))) hc) ?_
      refine (hcon v w hB (fun j rj hj hrj => ⟨(hI j rj hrj (lsi j (hneed j hj))).1, fun e => ((hI j rj hrj (lsi j (hneed j hj))).2.1 e hLf).1⟩)).mono ?_
      rintro e w' ⟨V, rfl, hRF, hFt, hk⟩
      have hTf : ∀ b, (∃ j rj, j ∈ need ∧ rs[j]? = some rj ∧ rj.k = 1 ∧ FS j v b) → (b < w.heap.size ∧ w0.heap.size ≤ b) ∧ ∀ m rm, rs[m]? = some rm → rm.k = 5 → L m = true → v m ≠ .pointer (some ⟨b, 0, none⟩) := by
        rintro b ⟨j, rj, hj, hrj, e1, hFb⟩
        obtain ⟨_, a2, a3⟩ := (hI j rj hrj (lsi j (hneed j hj))).2.1 e1 hLf
        exact ⟨a2 b hFb, fun m rm hm hm5 hLm => a3 m rm hm hm5 hLm b hFb⟩
      refine ⟨V, rfl, V, rfl, hB.trans (hk.below hB.size (fun b hb ht => by have := (hTf b ht).1.2; omega)), keepAll hA hC hri ho hw hLi hI hk (fun _ h => absurd hif.symm h) (fun e => by cases e) (fun m rm hrm hm2 hLm b _ => ?_) (fun m rm hrm hm5 hLm _ g hg ht => (hTf g ht).2 m rm hrm hm5 hLm hg) (fun m rm hrm hm6 hLm _ g _ => ?_) (has2 rfl ?_)⟩
      · exfalso
        obtain ⟨om, hom, _, hmm⟩ := hA m rm hrm
        rw [hm2] at hmm
        rw [hmm.1, hLf] at hLm
        cases hLm
      · exfalso
        obtain ⟨om, hom, _, hmm⟩ := hA m rm hrm
        rw [hm6] at hmm
        obtain ⟨ty, tx, y, _, _, _, _, hr2, hr3, _⟩ := hmm
        have hx : L f = true := by
          rcases hr3 with e | e
          · rw [← e]; exact reach_listed hC ops.size m rm.j om hom (hC m om hom hLm) hr2
          · exact reach_listed hC ops.size m f om hom (hC m om hom hLm) e
        rw [hLf] at hx
        cases hx
      rw [updv_same]
      refine ⟨hRF, fun b hb2 => ?_, fun m rm hrm hm5 hLm b hb2 => ?_⟩
      · rcases hFt b hb2 with h | h
        · exact ⟨h.2, Nat.le_trans hB.size h.1⟩
        · exact ⟨Nat.lt_of_lt_of_le (hTf b h).1.1 hk.size, (hTf b h).1.2⟩
      have hmi : m ≠ i := fun e => by rw [e, hri] at hrm; cases hrm; cases hm5
      rw [upd_ne L hmi] at hLm
      rw [updv_ne v V hmi]
      rcases hFt b hb2 with h | h
      · obtain ⟨g, a1, a2, a3, _⟩ := (hI m rm hrm hLm).2.2.2.2.2.1 hm5
        rw [a1]
        intro e
        cases e
        have := h.1
        omega
      · exact (hTf b h).2 m rm hrm hm5 hLm
    | 3, hm', hri, whl =>
      obtain ⟨t, hop, hd, hr, rf, hrf, hrf2⟩ := hm'
      have hfi : f ≠ i := fun e => by have := lsi f hr; rw [e, hLi] at this; cases this
      refine wpOp_value ho hg (run_move (.tmp t) hop (hAt.eval_got f (lsi f hr) hd)) ?_
      exact whl _ _ (Below.refl _ _) (fun e => by cases e) (has3 rfl (by rw [updv_same, updv_ne v _ hfi]))
    | 4, hm', hri, whl =>
      obtain ⟨t, hop, hd, hr, hrf0, ⟨rf, hrf, hrf2⟩, hsrc, hform⟩ := hm'
      have hfi : f ≠ i := fun e => by have := lsi f hrf0; rw [e, hLi] at this; cases this
      obtain ⟨aa, x, e1, e2⟩ := hform _ _ ((hI f rf hrf (lsi f hrf0)).2.2.1 hrf2).1
      have hv : v ri = v f := by
        rcases hsrc with e | ⟨r', hr1, hr2⟩
        · rw [show ri = f from e]
        · exact (hI ri r' hr1 (lsi ri hr)).2.2.2.1 hr2
      refine wpOp_value ho hg (run_ext (.tmp t) rj hop ((hAt.eval_got ri (lsi ri hr) hd).trans (hv.trans e1)) e2) ?_
      refine whl _ _ (Below.refl _ _) (fun e => by cases e) (has4 rfl ⟨aa, ?_, ?_⟩)
      · rw [updv_ne v _ hfi]; exact e1
      · rw [updv_same]; exact e2
    | 5, hm', hri, whl =>
      obtain ⟨⟨ty, hal⟩, hsto⟩ := hm'
      refine wpOp_value ho hg (hal a.eval w) ?_
      have hb : Below w.heap.size w (w.alloc (.cells rcs.toArray ty)) := (Below.refl _ w).alloc (Nat.le_refl _) _
      refine whl _ _ hb (fun _ => rfl) (has5 rfl ⟨w.heap.size, updv_same v i _, hB.size, lt_alloc w _, fun _ => Row.new w rcs ty, fun m rm hrm hm5 hmi hLm => ?_⟩)
      rw [upd_ne L hmi] at hLm
      rw [updv_same, updv_ne v _ hmi]
      obtain ⟨g, a1, a2, a3, _⟩ := (hI m rm hrm hLm).2.2.2.2.2.1 hm5
      rw [a1]
      intro e
      cases e
      omega
    | 6, hm', hri, whl =>
      obtain ⟨ty, tx, y, hop, hd1, hd2, hr1, hr2, hr3, ⟨rf, hrf, hrf2⟩, rb, hrb, hb5, hbj, hsz, rj', hrj, hwhich⟩ := hm'
      have hLf : L f = true := by
        rcases hr3 with e | e
        · rw [← e]; exact lsi rj hr2
        · exact lsi f e
      obtain ⟨g, b1, b2, b3, b4, b5⟩ := (hI ri rb hrb (lsi ri hr1)).2.2.2.2.2.1 hb5
      have hrow : Row w g rb.cs := b4 (by rw [show rb.j = i from hbj]; exact hLi)
      have hRF := ((hI f rf hrf hLf).2.2.1 hrf2).1
      obtain ⟨cs, hcs, hl, h1⟩ : ∃ cs, v rj = .agg (List.toArray cs) ∧ cs.length = rb.cs.length ∧ cs.all (·.oneCell') = true := by
        rcases hwhich with ⟨e4, hw4⟩ | ⟨ef, hwf⟩
        · obtain ⟨aa, c1, c2⟩ := (hI rj rj' hrj (lsi rj hr2)).2.2.2.2.1 e4
          exact hw4 _ _ aa _ hRF c1 c2
        · rw [show rj = f from ef]
          exact hwf _ _ hRF
      have hne1 : ri ≠ i := fun e => by have := lsi ri hr1; rw [e, hLi] at this; cases this
      have hne2 : rj ≠ i := fun e => by have := lsi rj hr2; rw [e, hLi] at this; cases this
      refine wpOp_plain ho hg fun K hK => ?_
      refine wp_store_mid ty (.tmp tx) (.tmp y) hop g 0 cs.toArray ((hAt.eval_got ri (lsi ri hr1) hd1).trans b1) ((hAt.eval_got rj (lsi rj hr2) hd2).trans hcs) (fun j hj => ?_) (by rw [hsz]; simp [hl]) (all_oneCell_toArray (fun u hu => List.all_eq_true.1 h1 u hu)) ?_
      · have hj' : j < rb.cs.length := by rw [← hl]; simpa using hj
        rw [Nat.zero_add]
        exact ⟨by rw [hrow.c j (List.getElem?_eq_getElem hj')]; rfl, hrow.f j⟩
      rw [List.toList_toArray, ← puts_setCells]
      have hrow' := puts_row hrow 0 cs
      rw [listed_all cs rb.cs 0 (by omega)] at hrow'
      refine hK _ _ ⟨undef, rfl, puts_below hB b2 0 cs, keepAll (T := fun b => b = g) hA hC hri ho hw hLi hI (puts_kept w g 0 cs) (fun h _ => by rw [hLf] at h; cases h) (fun e => by cases e) (fun m rm hrm hm2 hLm b hb e => ?_) (fun m rm hrm hm5 hLm hmj g' hv e => ?_) (fun m rm hrm hm6 hLm hmi g' hv e => ?_) (has6 rfl ⟨g, cs, ?_, ?_, hrow'⟩)⟩
      · subst e
        exact ((hI m rm hrm hLm).2.2.1 hm2).2.2 ri rb hrb hb5 (lsi ri hr1) _ hb b1
      · subst e
        have hne : m ≠ ri := fun e2 => by
          rw [e2, hrb] at hrm
          cases hrm
          exact hmj hbj
        exact b5 m rm hrm hm5 hne hLm (hv.trans b1.symm)
      · subst e
        obtain ⟨ok, hok, _, hm2⟩ := hA m rm hrm
        rw [hm6] at hm2
        obtain ⟨ty2, tx2, y2, _, _, _, hs1, hs2, hs3, _, rb2, hrb2, hc5, hcj, _⟩ := hm2
        have hne : rm.i ≠ ri := fun e2 => by
          rw [e2, hrb] at hrb2
          cases hrb2
          exact hmi (hcj.symm.trans hbj)
        exact b5 rm.i rb2 hrb2 hc5 hne (reach_listed hC ops.size m rm.i ok hok (hC m ok hok hLm) hs1) (hv.trans b1.symm)
      · rw [updv_ne v _ hne1]; exact b1
      · rw [updv_ne v _ hne2]; exact hcs
    | 7, hm', hri, whl =>
      obtain ⟨t, hop, hd, hr⟩ := hm'
      have hne : ri ≠ i := fun e => by have := lsi ri hr; rw [e, hLi] at this; cases this
      refine wpOp_value ho hg (run_assign (.tmp t) hop (hAt.eval_got ri (lsi ri hr) hd)) ?_
      exact whl _ _ (Below.refl _ _) (fun e => by cases e) (has7 rfl (by rw [updv_same, updv_ne v _ hne]))
    | 8, hm', hri, whl =>
      refine wpOp_value ho hg (hm' L v a w hAt hB lsi (fun j rj hj hrj h8 => (hI j rj hrj (lsi j hj)).1.2 h8)) ?_
      exact whl _ _ (Below.refl _ _) (fun e => by cases e) (has8 rfl (updv_same v i _))
    | k + 9, hm', hri, whl => exact hm'.elim
  · rintro L v w hL ⟨hB, hI⟩
    exact hend L v w (fun i hi => hL i (by omega)) hB (fun i r hr => hI i r hr (hL i (by have := (List.getElem?_eq_some_iff.1 hr).1; omega)))

end

end Go.Proofs.YtaopkchkhdbfnaaGreatDoor.Rg
