/-
  A host in memory: its size, laid anew, compared, marked. No condition but texts and lists that Go can hold, of at most 2^20 where they are laid anew.
-/
import Derived.Test.YtaopkchkhdbfnaaGreatDoorHoOu2
import Derived.Test.YtaopkchkhdbfnaaGreatDoorPlOpLaw
import Derived.Test.YtaopkchkhdbfnaaGreatDoorPuts
namespace Go.Proofs.YtaopkchkhdbfnaaGreatDoor.Pl
open Go.RowKit Go.Proofs.YtaopkchkhdbfnaaGreatDoor.Mem Go.Proofs.YtaopkchkhdbfnaaGreatDoor.Sec
set_option linter.unusedVariables false

/-- A host, but for where its list of outs lies. -/
structure Ho where
  id : Int
  ep : Int
  up : Bool
  rd : Bool
  bz : Bool
  k : Int
  v : Int
  t : Int
  a : Int
  s : ByteArray
  pc : Int
  cd : Int
  bk : Int
  tx : ByteArray
  l : List Ou
  txn : Int

def hoV (H : Ho) (p : Option Addr) (c : Nat) : Value := .agg #[.int .i64 H.id, .int .i64 H.ep, .bool H.up, .bool H.rd, .bool H.bz, .int .i64 H.k, .int .i64 H.v, .int .i64 H.t, .int .i64 H.a, .string H.s, .int .i64 H.pc, .int .i64 H.cd, .int .i64 H.bk, .string H.tx, .slice p H.l.length c, .int .i64 H.txn]
def plnV (cd bk : Int) (tx : ByteArray) (p : Option Addr) (n c : Nat) : Value := .agg #[.int .i64 cd, .int .i64 bk, .string tx, .slice p n c]

/-- All of it is of at most so much. -/
structure Ho.Upto (n : Nat) (H : Ho) : Prop where
  s : H.s.size ≤ n
  tx : H.tx.size ≤ n
  l : H.l.length ≤ n
  each : ∀ x ∈ H.l, x.text.size ≤ n

theorem Ho.Upto.mono {n m : Nat} {H : Ho} (h : H.Upto n) (hm : n ≤ m) : H.Upto m := ⟨Nat.le_trans h.s hm, Nat.le_trans h.tx hm, Nat.le_trans h.l hm, fun x hx => Nat.le_trans (h.each x hx) hm⟩
theorem Ho.Upto.max {H : Ho} (h : H.Upto 1048576) : H.Upto maxLen := h.mono (by unfold maxLen; decide)

set_option maxRecDepth 100000 in
set_option maxHeartbeats 1000000 in
theorem szPlan (w : World) (cd bk : Int) (tx : ByteArray) (p : Option Addr) (c : Nat) (l : List Ou) (left : Int) (S : Ous w p l) (ht : tx.size ≤ maxLen) (hl : l.length ≤ maxLen) (he : ∀ x ∈ l, x.text.size ≤ maxLen) (h0 : 0 ≤ left) (h1 : left ≤ 1048576) :
    Calls Tryz.prog 145 #[plnV cd bk tx p l.length c, .int .i64 left] w fun e w' => ∃ r, e = .returned (.int .i64 r) ∧ Below w.heap.size w w' ∧ (r < 0 ∨ (0 ≤ r ∧ r ≤ left ∧ (tx.size : Int) ≤ left ∧ (l.length : Int) ≤ left ∧ ∀ x ∈ l, (x.text.size : Int) ≤ left)) := by
  unfold plnV
  have HS := hid S
  have HE := hid he
  unfold maxLen at ht
  clear S he
  obtain ⟨wa, hwa, ez, A0, B0⟩ := one_new w [.int .i64 cd, .int .i64 bk, .string tx, .slice p l.length c] 138

  have k0 := A0.c 0 rfl
  have k1 := A0.c 1 rfl
  have k2 := A0.c 2 rfl
  have k3 := A0.c 3 rfl
  have HA := hid A0
  have HB := hid B0
  clear A0 B0 ez
  by_cases hb : left < (tx.size : Int)
  · go_enter Tryz.func145, Tryz.ntmps145
    go_wp2
    go_ret
    exact ⟨_, rfl, HB.out, Or.inl (by decide)⟩
  have hq0 : 0 ≤ left - (tx.size : Int) := by omega
  have hq1 : left - (tx.size : Int) ≤ 1048576 := by omega
  go_enter Tryz.func145, Tryz.ntmps145
  go_wp2_with fail
  try simp only [hwa]
  clear hwa
  refine (szOutS wa p c l (left - (tx.size : Int)) (HS.out.below HB.out) hl HE.out hq0 hq1).mono ?_
  rintro e w1 ⟨r, rfl, b1, hf⟩
  have HB1 := hid (HB.out.trans (b1.mono HB.out.size))
  have HF := hid hf
  clear b1 hf k0 k1 k2 k3
  by_cases hr : r < 0
  · go_wp2
    go_ret
    exact ⟨_, rfl, HB1.out, Or.inl (by decide)⟩
  · have HX : Hid (0 ≤ r ∧ r ≤ left ∧ (tx.size : Int) ≤ left ∧ (l.length : Int) ≤ left ∧ ∀ x ∈ l, (x.text.size : Int) ≤ left) := by
      rcases HF.out with h | ⟨h1, h2, h3, h4⟩
      · omega
      · exact ⟨by omega, by omega, by omega, by omega, fun x hx => by have := h4 x hx; omega⟩
    go_wp2
    go_ret
    exact ⟨_, rfl, HB1.out, Or.inr HX.out⟩

set_option maxRecDepth 100000 in
set_option maxHeartbeats 2000000 in
theorem szHost (w : World) (H : Ho) (p : Option Addr) (c : Nat) (left : Int) (S : Ous w p H.l) (hh : H.Upto maxLen) (h0 : 0 ≤ left) (h1 : left ≤ 1048576) :
    Calls Tryz.prog 86 #[hoV H p c, .int .i64 left] w fun e w' => ∃ r, e = .returned (.int .i64 r) ∧ Below w.heap.size w w' ∧ (r < 0 ∨ (0 ≤ r ∧ r ≤ left ∧ H.Upto 1048576)) := by

  obtain ⟨id, ep, up, rd, bz, k, v, t, a, s, pc, cd, bk, tx, l, txn⟩ := H
  have hS : s.size ≤ maxLen := hh.s
  have hT : tx.size ≤ maxLen := hh.tx
  have hL : l.length ≤ maxLen := hh.l
  have HE : Hid (∀ x ∈ l, x.text.size ≤ maxLen) := hh.each
  have HS : Hid (Ous w p l) := S
  clear S hh
  unfold hoV
  try simp only []
  obtain ⟨wa, hwa, ez, A0, B0⟩ := one_new w [.int .i64 id, .int .i64 ep, .bool up, .bool rd, .bool bz, .int .i64 k, .int .i64 v, .int .i64 t, .int .i64 a, .string s, .int .i64 pc, .int .i64 cd, .int .i64 bk, .string tx, .slice p l.length c, .int .i64 txn] 140
  have k5 := A0.c 5 rfl
  have k6 := A0.c 6 rfl
  have k7 := A0.c 7 rfl
  have k8 := A0.c 8 rfl
  have k9 := A0.c 9 rfl
  have HA := hid A0
  have HB := hid B0
  clear A0 B0 ez
  go_enter Tryz.func86, Tryz.ntmps86
  go_wp2_with fail
  try simp only [hwa]
  clear hwa k5 k6 k7 k8 k9
  refine (szOp wa k v t a s left hS h0 h1).mono ?_
  rintro e w1 ⟨r, rfl, b1, hf⟩
  have HA1 := hid (HA.out.below b1 HA.out.lt)
  have HB1 := hid (HB.out.trans (b1.mono HB.out.size))
  have HF := hid hf
  clear b1 hf HA HB
  by_cases hr : r < 0
  · go_wp2
    go_ret
    exact ⟨_, rfl, HB1.out, Or.inl (by decide)⟩
  have hf : 0 ≤ r ∧ r ≤ left ∧ (s.size : Int) ≤ left := by
    rcases HF.out with h | h
    · omega
    · exact h
  have hf1 := hf.1
  have hf2 : r ≤ 1048576 := by omega
  have HF2 := hid hf
  clear hf HF
  have k11 := HA1.out.c 11 rfl
  have k12 := HA1.out.c 12 rfl
  have k13 := HA1.out.c 13 rfl
  have k14 := HA1.out.c 14 rfl
  go_wp2_with fail
  refine (szPlan w1 cd bk tx p c l r (HS.out.below HB1.out) hT hL HE.out hf1 hf2).mono ?_
  rintro e w2 ⟨r2, rfl, b2, hf⟩
  have HB2 := hid (HB1.out.trans (b2.mono HB1.out.size))
  have HF := hid hf
  clear b2 hf k11 k12 k13 k14
  by_cases hr2 : r2 < 0
  · go_wp2
    go_ret
    exact ⟨_, rfl, HB2.out, Or.inl (by decide)⟩
  · have HX : Hid (0 ≤ r2 ∧ r2 ≤ left ∧ Ho.Upto 1048576 ⟨id, ep, up, rd, bz, k, v, t, a, s, pc, cd, bk, tx, l, txn⟩) := by
      have := HF2.out
      rcases HF.out with h | ⟨h1, h2, h3, h4, h5⟩
      · omega
      · exact ⟨by omega, by omega, by show s.size ≤ 1048576; omega, by show tx.size ≤ 1048576; omega, by show l.length ≤ 1048576; omega, fun x hx => by have := h5 x hx; omega⟩
    go_wp2
    go_ret
    exact ⟨_, rfl, HB2.out, Or.inr HX.out⟩

set_option maxRecDepth 100000 in
set_option maxHeartbeats 2000000 in
theorem toPlan (w : World) (cd bk : Int) (tx : ByteArray) (p : Option Addr) (c : Nat) (l : List Ou) (S : Ous w p l) (hl : l.length ≤ 1048576) :
    Calls Tryz.prog 148 #[plnV cd bk tx p l.length c] w fun r w' => ∃ g, r = .returned (plnV cd bk tx (some ⟨g, 0, none⟩) l.length l.length) ∧ w.heap.size ≤ g ∧ g < w'.heap.size ∧ OusW w' w.heap.size (some ⟨g, 0, none⟩) l ∧ Below w.heap.size w w' := by
  unfold plnV
  have HS := hid S
  clear S
  go_enter Tryz.func148, Tryz.ntmps148
  go_wp2_with fail
  obtain ⟨wc, hwc, e2, A0, R0, O0, B0⟩ := three_news w [.int .i64 cd, .int .i64 bk, .string tx, .slice p l.length c] [.int .i64 0, .int .i64 0, .string ⟨#[]⟩, .slice none 0 0] [.int .i64 cd, .int .i64 bk, .string tx, .slice none 0 0] 138 61
  simp only [hwc]
  clear hwc
  refine (toOutS wc p c l (HS.out.below B0) hl).mono ?_
  rintro r w2 ⟨g, rfl, hg, hl2, S2, b2⟩
  replace R0 := R0.below b2 R0.lt
  replace O0 := O0.below b2 O0.lt
  replace B0 := B0.trans (b2.mono (by omega))
  have d0 := O0.c 0 rfl
  have d1 := O0.c 1 rfl
  have d2 := O0.c 2 rfl
  have d3 := O0.c 3 rfl
  have fd := O0.f 3
  have r0 := R0.c 0 rfl
  have r1 := R0.c 1 rfl
  have r2 := R0.c 2 rfl
  have r3 := R0.c 3 rfl
  have f0 := R0.f 0
  have f1 := R0.f 1
  have f2 := R0.f 2
  have f3 := R0.f 3
  have HS2 := hid S2
  have HB := hid B0
  have HR := hid (puts_row (R0.other (p := ⟨w.heap.size + 1 + 1, 3, none⟩) (by show w.heap.size + 1 ≠ w.heap.size + 1 + 1; omega) (.slice (some ⟨g, 0, none⟩) l.length l.length)) 0 [.int .i64 cd, .int .i64 bk, .string tx, .slice (some ⟨g, 0, none⟩) l.length l.length])
  clear R0 O0 b2 S2 B0 A0
  go_wp2
  refine bodyPost_ret (results_row rfl _ _ (w.heap.size + 1) [.int .i64 cd, .int .i64 bk, .string tx, .slice (some ⟨g, 0, none⟩) l.length l.length] _ rfl HR.out Tryz.underlying61 rfl (by kernel_rfl)) rfl ?_
  refine ⟨g, rfl, by omega, by simpa using hl2, ?_, ?_⟩
  · exact (HS2.out.move (((kept_set _ _ _ _).trans (puts_kept _ (w.heap.size + 1) 0 [.int .i64 cd, .int .i64 bk, .string tx, .slice (some ⟨g, 0, none⟩) l.length l.length])).mono (T := fun b => b < wc.heap.size) (fun b _ hb => by rcases hb with h | h <;> omega)) (fun b hb => by have := HS2.out.foot_ge hb; omega)).mono (by omega)
  · exact puts_below (below_set HB.out (w.heap.size + 1 + 1) 3 _ (by omega)) (by omega) 0 [.int .i64 cd, .int .i64 bk, .string tx, .slice (some ⟨g, 0, none⟩) l.length l.length]

set_option maxRecDepth 100000 in
set_option maxHeartbeats 1000000 in
theorem eqOp (w : World) (k v t a : Int) (s : ByteArray) : Calls Tryz.prog 157 #[opV k v t a s, opV k v t a s] w fun e w' => e = .returned (.bool true) ∧ Below w.heap.size w w' := by
  unfold opV
  go_enter Tryz.func157, Tryz.ntmps157
  go_wp2
  go_ret
  exact ⟨rfl, by go_grown⟩

set_option maxRecDepth 100000 in
set_option maxHeartbeats 1000000 in
theorem eqPlan (w : World) (cd bk : Int) (tx : ByteArray) (p q : Option Addr) (cp cq : Nat) (l : List Ou) (S : Ous w p l) (T : Ous w q l) (hl : l.length ≤ maxLen) :
    Calls Tryz.prog 158 #[plnV cd bk tx p l.length cp, plnV cd bk tx q l.length cq] w fun e w' => e = .returned (.bool true) ∧ Below w.heap.size w w' := by
  unfold plnV
  have HS := hid S
  have HT := hid T
  have HL := hid hl
  clear S T hl
  obtain ⟨wa, hwa, ez, A0, C0, B0⟩ := two_new w [.int .i64 cd, .int .i64 bk, .string tx, .slice p l.length cp] [.int .i64 cd, .int .i64 bk, .string tx, .slice q l.length cq] 61 61
  have k0 := A0.c 0 rfl
  have k1 := A0.c 1 rfl
  have k2 := A0.c 2 rfl
  have k3 := A0.c 3 rfl
  have j0 := C0.c 0 rfl
  have j1 := C0.c 1 rfl
  have j2 := C0.c 2 rfl
  have j3 := C0.c 3 rfl
  have HB := hid B0
  clear A0 B0 C0 ez
  go_enter Tryz.func158, Tryz.ntmps158
  go_wp2_with fail
  try simp only [hwa]
  clear hwa
  refine (eqOutS wa p q cp cq l (HS.out.below HB.out) (HT.out.below HB.out) HL.out).mono ?_
  rintro r w2 ⟨rfl, b2⟩
  have HB2 := hid (HB.out.trans (b2.mono HB.out.size))
  clear b2 k0 k1 k2 k3 j0 j1 j2 j3
  go_wp2
  go_ret
  exact ⟨rfl, HB2.out⟩

set_option maxRecDepth 100000 in
set_option maxHeartbeats 2000000 in
theorem eqHost (w : World) (H : Ho) (p q : Option Addr) (cp cq : Nat) (S : Ous w p H.l) (T : Ous w q H.l) (hl : H.l.length ≤ maxLen) :
    Calls Tryz.prog 108 #[hoV H p cp, hoV H q cq] w fun e w' => e = .returned (.bool true) ∧ Below w.heap.size w w' := by

  obtain ⟨id, ep, up, rd, bz, k, v, t, a, s, pc, cd, bk, tx, l, txn⟩ := H
  have HS : Hid (Ous w p l) := S
  have HT : Hid (Ous w q l) := T
  have HL : Hid (l.length ≤ maxLen) := hl
  clear S T hl
  unfold hoV
  try simp only []
  obtain ⟨wa, hwa, ez, A0, C0, B0⟩ := two_new w [.int .i64 id, .int .i64 ep, .bool up, .bool rd, .bool bz, .int .i64 k, .int .i64 v, .int .i64 t, .int .i64 a, .string s, .int .i64 pc, .int .i64 cd, .int .i64 bk, .string tx, .slice p l.length cp, .int .i64 txn] [.int .i64 id, .int .i64 ep, .bool up, .bool rd, .bool bz, .int .i64 k, .int .i64 v, .int .i64 t, .int .i64 a, .string s, .int .i64 pc, .int .i64 cd, .int .i64 bk, .string tx, .slice q l.length cq, .int .i64 txn] 63 63
  have k0 := A0.c 0 rfl
  have k1 := A0.c 1 rfl
  have k2 := A0.c 2 rfl
  have k3 := A0.c 3 rfl
  have k4 := A0.c 4 rfl
  have k5 := A0.c 5 rfl
  have k6 := A0.c 6 rfl
  have k7 := A0.c 7 rfl
  have k8 := A0.c 8 rfl
  have k9 := A0.c 9 rfl
  have j0 := C0.c 0 rfl
  have j1 := C0.c 1 rfl
  have j2 := C0.c 2 rfl
  have j3 := C0.c 3 rfl
  have j4 := C0.c 4 rfl
  have j5 := C0.c 5 rfl
  have j6 := C0.c 6 rfl
  have j7 := C0.c 7 rfl
  have j8 := C0.c 8 rfl
  have j9 := C0.c 9 rfl
  have HA := hid A0
  have HC := hid C0
  have HB := hid B0
  clear A0 B0 C0 ez
  go_enter Tryz.func108, Tryz.ntmps108
  go_wp2_with fail
  try simp only [hwa]
  clear hwa
  refine (eqOp wa k v t a s).mono ?_
  rintro r w1 ⟨rfl, b1⟩
  have HA1 := hid (HA.out.below b1 HA.out.lt)
  have HC1 := hid (HC.out.below b1 HC.out.lt)
  have HB1 := hid (HB.out.trans (b1.mono HB.out.size))
  clear b1 HA HC HB k0 j0 k1 j1 k2 j2 k3 j3 k4 j4 k5 j5 k6 j6 k7 j7 k8 j8 k9 j9
  have k10 := HA1.out.c 10 rfl
  have k11 := HA1.out.c 11 rfl
  have k12 := HA1.out.c 12 rfl
  have k13 := HA1.out.c 13 rfl
  have k14 := HA1.out.c 14 rfl
  have j10 := HC1.out.c 10 rfl
  have j11 := HC1.out.c 11 rfl
  have j12 := HC1.out.c 12 rfl
  have j13 := HC1.out.c 13 rfl
  have j14 := HC1.out.c 14 rfl
  go_wp2_with fail
  refine (eqPlan w1 cd bk tx p q cp cq l (HS.out.below HB1.out) (HT.out.below HB1.out) HL.out).mono ?_
  rintro r w2 ⟨rfl, b2⟩
  have HB2 := hid (HB1.out.trans (b2.mono HB1.out.size))
  have k15 := (HA1.out.below b2 HA1.out.lt).c 15 rfl
  have j15 := (HC1.out.below b2 HC1.out.lt).c 15 rfl
  clear b2 HA1 HC1 k10 j10 k11 j11 k12 j12 k13 j13 k14 j14
  go_wp2
  go_ret
  exact ⟨rfl, HB2.out⟩

end Go.Proofs.YtaopkchkhdbfnaaGreatDoor.Pl
