/-
  A disk that comes in as an argument: what it is in memory. No condition.
  A world in memory: its size, laid anew, compared, and as an argument. No condition but lists of at most 2^20.
  Which hosts are right; the walk of spec.HostOk and of what it calls. No condition but texts and lists of at most 2^20.
  The walk of laws.eqLease: a lease is itself. No condition.
  The walks of impl.ReadHost, spec.ReadHost and laws.FnExactReadHost: the law answers true, and nothing that was there is changed. Condition: the table of sixteen sums and the error of a part that lacks stand in their variables.
  The walks of spec.ReadFrees and laws.FnExactReadFrees: the law answers true, and nothing that was there is changed. Condition: the table of sixteen sums and the error of a part that lacks stand in their variables.
  What a Var that is read says of the text: its bytes are the number's own, and a first byte below 128 is the number. No condition.
  A volume's text whose flag is read as more than 1 is not what is shown of it: so both sides refuse it. Condition: texts of at most 2^20 bytes.
  Plain: what a piece and outs are read as. The walks of impl's cursor's piece, and of impl.outsParts. Condition: the error of a part that lacks stands in its variable.
  The walks of impl.opParts and impl.journalParts. Condition: the error of a part that lacks stands in its variable.
  The walk of impl.journalParts. Condition: the error of a part that lacks stands in its variable.
  The walks of impl.readKind at a journal's sector and impl.ReadJournal. Condition: the table of sixteen sums and the error of a part that lacks stand in their variables; a flag that is no flag is no journal's (a premise of both, to be proved of the text).
  The walks of spec.l4Vars at no place and of spec.l4Take. No condition but texts of at most 2^20 bytes.
  The walk of spec.ReadJournal. No condition but texts of at most 2^20 bytes.
  A journal's text whose flag is read as more than 1 is not what is shown of it: so both sides refuse it. Condition: texts of at most 2^20 bytes.
-/
import Derived.Test.YtogebppolkfldaaGreatDoorJoin2
import Derived.ProofKit
import Derived.OpenShut
import Derived.ShutString
import Derived.Lib.SmallJoins
import Derived.Deep.Strs
import Derived.Deep.Slices
import Derived.Carry
import Derived.Test.YtogebppolkfldaaGreatDoorSecHost2
import Derived.Test.YtogebppolkfldaaGreatDoorRdHost
import Derived.RegionTactic
import Derived.BigRegion
import Derived.Laws.ResultCell
import Derived.Test.YtogebppolkfldaaGreatDoorRdFrees
import Derived.Test.YtogebppolkfldaaGreatDoorJoin1
import Derived.Test.YtogebppolkfldaaGreatDoorRdNum
import Derived.Test.YtogebppolkfldaaGreatDoorSecNum
import Derived.Test.YtogebppolkfldaaGreatDoorRdVol2
import Derived.Test.YtogebppolkfldaaGreatDoorAppRow
import Derived.Test.YtogebppolkfldaaGreatDoorRdVol
import Derived.Deep.RegionHeldLaw
import Derived.Deep.RegionWith
import Derived.RegionDies
import Derived.Tactics
import Derived.Tactics2
import Derived.Defers
import Derived.Recover
import Derived.Deep.RegionLaw
namespace Go.Proofs.YtogebppolkfldaaGreatDoor.Mem
open Go.RowKit Go.ChangeShapes Go.WideShapes Go.ChangeAt Go.Joins Go.Deep
set_option linter.unusedVariables false

variable {H : Type} {enc : TypeId × Value → H} {W : World} {base : Nat} {spare : Nat → Bool} {held : Bool}

theorem sl_of_add {w : World} {a : Addr} {m : Nat} {f : Nat → Value} (h : ∀ i, i < m → w.cell? (a.add i) = some (f i)) : Sl w (some a) m f := by
  intro i hi
  have hc := h i hi
  obtain ⟨b, off, sp⟩ := a
  have hs : sp = none := by simpa [Addr.add] using World.cell?_spot (h 0 (by omega))
  subst hs
  rw [Addr.add_mid] at hc
  exact ⟨b, off, rfl, hc⟩

theorem strs_in {fuel : Nat} {v : Value} {x : DataW H × List MemPlace} (h : DataW.trod enc Tryz.prog W base spare held fuel 22 [v] = some x) :
    ∃ a cap l, v = .slice a (l : List ByteArray).length cap ∧ Strs W a l ∧ l.length ≤ maxLen ∧ ∀ s ∈ l, s.size ≤ maxLen := by
  rcases open_strs Tryz.underlying22 Tryz.underlying9 (by kernel_rfl) h with ⟨hcs, _⟩ | ⟨a, len, cap, m, Sx, hcs, _, hl, hm, hmm, _, hx⟩
  · simp only [List.cons.injEq, and_true] at hcs
    exact ⟨none, 0, [], hcs, fun i hi => by simp at hi, by simp, by simp⟩
  · simp only [List.cons.injEq, and_true] at hcs
    have hlm : len ≤ m := by rw [hmm]; split <;> omega
    refine ⟨some a, cap, (List.range len).map Sx, by rw [hcs]; simp, ?_, by simp; omega, ?_⟩
    · unfold Strs
      rw [List.length_map, List.length_range]
      refine sl_of_add (fun i hi => ?_)
      rw [(hx i (by omega)).1]
      simp [List.getD, hi]
    · intro s hs
      obtain ⟨i, hi, rfl⟩ := List.mem_map.1 hs
      exact (hx i (by have := List.mem_range.1 hi; omega)).2

theorem ints_in {fuel : Nat} {v : Value} {x : DataW H × List MemPlace} (h : DataW.trod enc Tryz.prog W base spare held fuel 23 [v] = some x) :
    ∃ a cap l, v = .slice a (l : List Int).length cap ∧ Ints W a l ∧ l.length ≤ maxLen ∧ ∀ z ∈ l, -9223372036854775808 ≤ z ∧ z ≤ 9223372036854775807 := by
  rcases open_ints Tryz.underlying23 Tryz.underlying3 (by kernel_rfl) h with ⟨hcs, _⟩ | ⟨a, len, cap, zs, hcs, _, hl, hm, hz, _, hcell, hwz⟩
  · simp only [List.cons.injEq, and_true] at hcs
    exact ⟨none, 0, [], hcs, fun i hi => by simp at hi, by simp, by simp⟩
  · simp only [List.cons.injEq, and_true] at hcs
    have hlm : len ≤ zs.length := by rw [hz]; split <;> omega
    have e : (zs.take len).length = len := by simp; omega
    refine ⟨some a, cap, zs.take len, by rw [hcs, e], ?_, by omega, fun z hz' => bounds_i64 (hwz z (List.mem_of_mem_take hz'))⟩
    unfold Ints
    rw [e]
    refine sl_of_add (fun i hi => ?_)
    rw [hcell i (by omega)]
    simp [List.getD, hi]

set_option maxRecDepth 100000 in
/-- The four fields of a write. -/
theorem write_in {fuel : Nat} {cs : List Value} {x : DataW H × List MemPlace} (h : DataW.trod enc Tryz.prog W base spare held fuel 135 cs = some x) :
    ∃ y : Wt, cs = y.cells ∧ y.text.size ≤ maxLen := by
  obtain ⟨xs, n, _, rfl, hl, hlen, hf⟩ := DataW.trod_struct Tryz.underlying135 h
  have c4 : Tryz.prog.cellsOf 135 = 4 := by kernel_rfl
  have cs3 : Tryz.prog.cellsOf 3 = 1 := by kernel_rfl
  have cs9 : Tryz.prog.cellsOf 9 = 1 := by kernel_rfl
  rw [c4] at hl
  match xs, hlen, cs, hl with
  | [y0, y1, y2, y3], _, [v0, v1, v2, v3], _ =>
    have f0 : DataW.trod enc Tryz.prog W base spare held n 3 [v0] = some y0 := by simpa [cs3] using hf 0 _ rfl
    have f1 : DataW.trod enc Tryz.prog W base spare held n 3 [v1] = some y1 := by simpa [cs3] using hf 1 _ rfl
    have f2 : DataW.trod enc Tryz.prog W base spare held n 3 [v2] = some y2 := by simpa [cs3] using hf 2 _ rfl
    have f3 : DataW.trod enc Tryz.prog W base spare held n 9 [v3] = some y3 := by simpa [cs9] using hf 3 _ rfl
    obtain ⟨n0, e0, _, _⟩ := DataW.trod_int Tryz.underlying3 f0
    obtain ⟨n1, e1, _, _⟩ := DataW.trod_int Tryz.underlying3 f1
    obtain ⟨n2, e2, _, _⟩ := DataW.trod_int Tryz.underlying3 f2
    obtain ⟨s3, e3, _, hs⟩ := DataW.trod_string Tryz.underlying9 f3
    simp only [List.cons.injEq, and_true] at e0 e1 e2 e3
    subst e0; subst e1; subst e2; subst e3
    exact ⟨⟨n0, n1, n2, s3⟩, rfl, hs⟩

set_option maxRecDepth 100000 in
theorem writes_in {fuel : Nat} {v : Value} {x : DataW H × List MemPlace} (h : DataW.trod enc Tryz.prog W base spare held fuel 24 [v] = some x) :
    ∃ a cap l, v = .slice a (l : List Wt).length cap ∧ Wts W a l ∧ l.length ≤ maxLen ∧ ∀ y ∈ l, y.text.size ≤ maxLen := by
  have c4 : Tryz.prog.cellsOf 135 = 4 := by kernel_rfl
  rcases open_slice Tryz.underlying24 h with ⟨hcs, _⟩ | ⟨a, len, cap, m, n, D, Pl, hcs, _, hl, hm, hmm, _, hx⟩
  · simp only [List.cons.injEq, and_true] at hcs
    exact ⟨none, 0, [], hcs, fun i hi => by simp at hi, by simp, by simp⟩
  · simp only [List.cons.injEq, and_true] at hcs
    have hlm : len ≤ m := by rw [hmm]; split <;> omega
    have each : ∀ i, ∃ y : Wt, i < len → W.cells? base (a.add (i * 4)) 4 = some y.cells ∧ y.text.size ≤ maxLen := fun i => by
      by_cases hi : i < len
      · obtain ⟨cs', hc, ht⟩ := hx i (by omega)
        rw [c4] at hc
        obtain ⟨y, rfl, hy⟩ := write_in ht
        exact ⟨y, fun _ => ⟨hc, hy⟩⟩
      · exact ⟨Wt.none, fun h => absurd h hi⟩
    obtain ⟨Y, hY⟩ := Classical.axiomOfChoice each
    refine ⟨some a, cap, (List.range len).map Y, by rw [hcs]; simp, ?_, by simp; omega, ?_⟩
    · unfold Wts
      rw [List.length_map, List.length_range]
      refine sl_of_add (fun i hi => ?_)
      have hq : i / 4 < len := by omega
      have hc := (World.cells?_some (hY (i / 4) hq).1).2.2 (i % 4) (by omega)
      rw [Addr.add_add, show i / 4 * 4 + i % 4 = i by omega] at hc
      rw [hc]
      unfold wcell
      have e : ((List.range len).map Y).getD (i / 4) Wt.none = Y (i / 4) := by simp [List.getD, hq]
      rw [e]
      have : i % 4 = 0 ∨ i % 4 = 1 ∨ i % 4 = 2 ∨ i % 4 = 3 := by omega
      rcases this with h | h | h | h <;> rw [h] <;> rfl
    · intro s hs
      obtain ⟨i, hi, rfl⟩ := List.mem_map.1 hs
      exact (hY i (List.mem_range.1 hi)).2

set_option maxRecDepth 100000 in
/-- A disk that came in. -/
theorem disk_in {v : Value} {d : DataW H} {p : List MemPlace} {r : Reach} {b0 : Nat} (hv : Value.okWide Tryz.prog W r b0 26 v) (h : DataW.Trod enc Tryz.prog W base spare held 26 v d p) :
    ∃ D : Dk, DkR W v D ∧ D.Held := by
  obtain ⟨v0, v1, v2, y0, y1, y2, n, rfl, _, _, h0, h1, h2⟩ := open_agg3 Tryz.underlying26 (by kernel_rfl) (by kernel_rfl) hv h
  obtain ⟨a1, c1, l1, rfl, s1, n1, t1⟩ := strs_in h0
  obtain ⟨a2, c2, l2, rfl, s2, n2, _⟩ := ints_in h1
  obtain ⟨a3, c3, l3, rfl, s3, n3, t3⟩ := writes_in h2
  exact ⟨⟨l1, l2, l3⟩, ⟨a1, c1, a2, c2, a3, c3, rfl, s1, s2, s3⟩, ⟨n1, n2, n3, t1, t3⟩⟩

end Go.Proofs.YtogebppolkfldaaGreatDoor.Mem

namespace Go.Proofs.YtogebppolkfldaaGreatDoor.Pl
open Go.RowKit Go.ChangeShapes Go.WideShapes Go.ChangeAt Go.Joins Go.Deep
open Go.Proofs.YtogebppolkfldaaGreatDoor.Mem Go.Proofs.YtogebppolkfldaaGreatDoor.Sec
set_option linter.unusedVariables false

/-- A world: its disk, its hosts, what landed, what was seen and what was replied. -/
structure Wd where
  D : Dk
  hs : List Ho
  log : List Ev
  seen : List Int
  rep : List Rp

def wdL (a1 a2 a3 a4 a5 a6 a7 : Option Addr) (c1 c2 c3 c4 c5 c6 c7 : Nat) (n1 n2 n3 n4 n5 n6 n7 : Nat) : List Value := [.slice a1 n1 c1, .slice a2 n2 c2, .slice a3 n3 c3, .slice a4 n4 c4, .slice a5 n5 c5, .slice a6 n6 c6, .slice a7 n7 c7]

/-- v is the world X in w. -/
def WdR (w : World) (v : Value) (X : Wd) : Prop := ∃ a1 c1 a2 c2 a3 c3 a4 c4 a5 c5 a6 c6 a7 c7, ∃ L : List Hx, v = .agg #[.slice a1 X.D.sec.length c1, .slice a2 X.D.ep.length c2, .slice a3 X.D.pe.length c3, .slice a4 L.length c4, .slice a5 X.log.length c5, .slice a6 X.seen.length c6, .slice a7 X.rep.length c7] ∧ L.map (·.H) = X.hs ∧
  Strs w a1 X.D.sec ∧ Ints w a2 X.D.ep ∧ Wts w a3 X.D.pe ∧ Hos w a4 L ∧ Evs w a5 X.log ∧ Ints w a6 X.seen ∧ Rps w a7 X.rep

theorem WdR.below {w w' : World} {v : Value} {X : Wd} (h : WdR w v X) (b : Below w.heap.size w w') : WdR w' v X := by
  obtain ⟨a1, c1, a2, c2, a3, c3, a4, c4, a5, c5, a6, c6, a7, c7, L, e, m, s1, s2, s3, s4, s5, s6, s7⟩ := h
  exact ⟨a1, c1, a2, c2, a3, c3, a4, c4, a5, c5, a6, c6, a7, c7, L, e, m, Sl.below s1 b, Sl.below s2 b, Sl.below s3 b, Hos.below s4 b, Sl.below s5 b, Sl.below s6 b, Sl.below s7 b⟩

/-- All lists and texts are of at most 2^20. -/
structure Wd.Small (X : Wd) : Prop where
  d1 : X.D.sec.length ≤ 1048576
  d2 : X.D.ep.length ≤ 1048576
  d3 : X.D.pe.length ≤ 1048576
  h : X.hs.length ≤ 1048576
  hh : ∀ x ∈ X.hs, x.Upto 1048576
  e : X.log.length ≤ 1048576
  s : X.seen.length ≤ 1048576
  r : X.rep.length ≤ 1048576
  dt : ∀ x ∈ X.D.sec, x.size ≤ 1048576
  dw : ∀ x ∈ X.D.pe, x.text.size ≤ 1048576
  et : ∀ x ∈ X.log, x.s.size ≤ 1048576
  rt : ∀ x ∈ X.rep, x.s.size ≤ 1048576 ∧ x.d.size ≤ 1048576

/-- All that Go can hold. -/
structure Wd.Held (X : Wd) : Prop where
  d : X.D.Held
  h : X.hs.length ≤ maxLen
  hh : ∀ x ∈ X.hs, x.Upto maxLen
  e : X.log.length ≤ maxLen
  et : ∀ x ∈ X.log, x.s.size ≤ maxLen
  s : X.seen.length ≤ maxLen
  r : X.rep.length ≤ maxLen
  rt : ∀ x ∈ X.rep, x.s.size ≤ maxLen ∧ x.d.size ≤ maxLen

set_option maxRecDepth 100000 in
set_option maxHeartbeats 4000000 in
theorem szWorld (w : World) (v : Value) (X : Wd) (left : Int) (h : WdR w v X) (hh : X.Held) (h0 : 0 ≤ left) (h1 : left ≤ 1048576) :
    Calls Tryz.prog 4 #[v, .int .i64 left] w fun e w' => ∃ r, e = .returned (.int .i64 r) ∧ Below w.heap.size w w' ∧ (r < 0 ∨ X.Small) := by
  obtain ⟨a1, c1, a2, c2, a3, c3, a4, c4, a5, c5, a6, c6, a7, c7, L, rfl, hm, s1, s2, s3, s4, s5, s6, s7⟩ := h
  have HS1 := hid (show DkR w (.agg #[.slice a1 X.D.sec.length c1, .slice a2 X.D.ep.length c2, .slice a3 X.D.pe.length c3]) X.D from ⟨a1, c1, a2, c2, a3, c3, rfl, s1, s2, s3⟩)
  have HS4 := hid s4
  have HS5 := hid s5
  have HS6 := hid s6
  have HS7 := hid s7
  have HH := hid hh
  have HM := hid hm
  have HLl : Hid (L.length ≤ maxLen) := by have := hh.h; rw [← hm, List.length_map] at this; exact this
  have HLx : Hid (∀ x ∈ L, x.H.Upto maxLen) := fun x hx => hh.hh _ (by rw [← hm]; exact List.mem_map_of_mem hx)
  have hln : L.length = X.hs.length := by rw [← hm, List.length_map]
  have HLN := hid hln
  clear s1 s2 s3 s4 s5 s6 s7 hh hm hln
  obtain ⟨wa, hwa, ez, A0, B0⟩ := one_new w [.slice a1 X.D.sec.length c1, .slice a2 X.D.ep.length c2, .slice a3 X.D.pe.length c3, .slice a4 L.length c4, .slice a5 X.log.length c5, .slice a6 X.seen.length c6, .slice a7 X.rep.length c7] 31
  have k0 := A0.c 0 rfl
  have k1 := A0.c 1 rfl
  have k2 := A0.c 2 rfl
  have HA := hid A0
  have HB := hid B0
  clear A0 B0 ez
  go_enter Tryz.func4, Tryz.ntmps4
  go_wp2_with fail
  try simp only [hwa]
  clear hwa
  refine (szDisk wa _ X.D left (HS1.out.below HB.out) HH.out.d h0 h1).mono ?_
  rintro e w1 ⟨r1, rfl, b1, f1⟩
  have HA1 := hid (HA.out.below b1 HA.out.lt)
  have HB1 := hid (HB.out.trans (b1.mono HB.out.size))
  have HF1 := hid f1
  clear b1 f1 k0 k1 k2 HA HB
  by_cases hr1 : r1 < 0
  · go_wp2
    go_ret
    exact ⟨_, rfl, HB1.out, Or.inl (by decide)⟩
  have hq1 : 0 ≤ r1 := by omega
  have hq1' : r1 ≤ 1048576 := by
    have := HF1.out
    rcases this with h | h
    · omega
    · have := h.2.1; omega
  have k3 := HA1.out.c 3 rfl
  go_wp2_with fail
  refine (szHostS w1 a4 c4 L r1 (HS4.out.below HB1.out) HLl.out HLx.out hq1 hq1').mono ?_
  rintro e w2 ⟨r2, rfl, b2, f2⟩
  have HA2 := hid (HA1.out.below b2 HA1.out.lt)
  have HB2 := hid (HB1.out.trans (b2.mono HB1.out.size))
  have HF2 := hid f2
  clear b2 f2 k3 HA1 HB1
  by_cases hr2 : r2 < 0
  · go_wp2
    go_ret
    exact ⟨_, rfl, HB2.out, Or.inl (by decide)⟩
  have hq2 : 0 ≤ r2 := by omega
  have hq2' : r2 ≤ 1048576 := by
    rcases HF2.out with h | h
    · omega
    · have := h.2.1; omega
  have k4 := HA2.out.c 4 rfl
  go_wp2_with fail
  refine (szEventS w2 a5 c5 X.log r2 (Sl.below HS5.out HB2.out) HH.out.e HH.out.et hq2 hq2').mono ?_
  rintro e w3 ⟨r3, rfl, b3, f3⟩
  have HA3 := hid (HA2.out.below b3 HA2.out.lt)
  have HB3 := hid (HB2.out.trans (b3.mono HB2.out.size))
  have HF3 := hid f3
  clear b3 f3 k4 HA2 HB2
  by_cases hr3 : r3 < 0
  · go_wp2
    go_ret
    exact ⟨_, rfl, HB3.out, Or.inl (by decide)⟩
  have hq3 : 0 ≤ r3 := by omega
  have hq3' : r3 ≤ 1048576 := by
    rcases HF3.out with h | h
    · omega
    · have := h.2.1; omega
  have k5 := HA3.out.c 5 rfl
  have hsl : X.seen.length ≤ maxLen := HH.out.s
  go_wp2_with fail
  refine (szIntS w3 a6 c6 X.seen.length r3 hsl hq3 hq3').mono ?_
  rintro e w4 ⟨r4, rfl, b4, f4⟩
  subst b4
  have HA4 := HA3
  have HB4 := HB3
  have HF4 := hid f4
  clear f4 k5 HA3 HB3 hsl
  by_cases hr4 : r4 < 0
  · go_wp2
    go_ret
    exact ⟨_, rfl, HB4.out, Or.inl (by decide)⟩
  have hq4 : 0 ≤ r4 := by omega
  have hq4' : r4 ≤ 1048576 := by
    have := HF4.out
    rcases this with h | h
    · omega
    · have := h.2.1; omega
  have k6 := HA4.out.c 6 rfl
  go_wp2_with fail
  refine (szReplyS w4 a7 c7 X.rep r4 (Sl.below HS7.out HB4.out) HH.out.r HH.out.rt hq4 hq4').mono ?_
  rintro e w5 ⟨r5, rfl, b5, f5⟩
  have HB5 := hid (HB4.out.trans (b5.mono HB4.out.size))
  have HF5 := hid f5
  clear b5 f5 k6 HB4
  by_cases hr5 : r5 < 0
  · go_wp2
    go_ret
    exact ⟨_, rfl, HB5.out, Or.inl (by decide)⟩
  · have HX : Hid X.Small := by
      have g1 : X.D.Small left := by
        rcases HF1.out with h | h
        · omega
        · exact h.2.2
      have g1r : r1 ≤ left := by
        rcases HF1.out with h | h
        · omega
        · exact h.2.1
      have g2 : r2 ≤ r1 ∧ (L.length : Int) ≤ r1 ∧ ∀ x ∈ L, x.H.Upto 1048576 := by
        rcases HF2.out with h | h
        · omega
        · exact h.2
      have g3 : r3 ≤ r2 ∧ (X.log.length : Int) ≤ r2 ∧ ∀ x ∈ X.log, (x.s.size : Int) ≤ r2 := by
        rcases HF3.out with h | h
        · omega
        · exact h.2
      have g4 : r4 ≤ r3 ∧ (X.seen.length : Int) ≤ r3 := by
        rcases HF4.out with h | h
        · omega
        · exact h.2
      have g5 : r5 ≤ r4 ∧ (X.rep.length : Int) ≤ r4 ∧ ∀ x ∈ X.rep, (x.s.size : Int) ≤ r4 ∧ (x.d.size : Int) ≤ r4 := by
        rcases HF5.out with h | h
        · omega
        · exact h.2
      obtain ⟨q1, q2, q3, q4, q5⟩ := g1
      have hln := HLN.out
      have gm : ∀ x ∈ X.hs, x.Upto 1048576 := fun x hx => by
        rw [← HM.out] at hx
        obtain ⟨y, hy, rfl⟩ := List.mem_map.1 hx
        exact g2.2.2 y hy
      refine ⟨by omega, by omega, by omega, by omega, gm, by omega, by omega, by omega, fun x hx => ?_, fun x hx => ?_, fun x hx => ?_, fun x hx => ?_⟩
      · have := q4 x hx; omega
      · have := q5 x hx; omega
      · have := g3.2.2 x hx; omega
      · have := g5.2.2 x hx; omega
    go_wp2
    go_ret
    exact ⟨_, rfl, HB5.out, Or.inr HX.out⟩

set_option maxRecDepth 100000 in
set_option maxHeartbeats 4000000 in
theorem toWorld (w : World) (v : Value) (X : Wd) (h : WdR w v X) (hs : X.Small) :
    Calls Tryz.prog 6 #[v] w fun e w' => ∃ v', e = .returned v' ∧ WdR w' v' X ∧ Below w.heap.size w w' := by
  obtain ⟨a1, c1, a2, c2, a3, c3, a4, c4, a5, c5, a6, c6, a7, c7, L, rfl, hm, s1, s2, s3, s4, s5, s6, s7⟩ := h
  have HS1 := hid (show DkR w (.agg #[.slice a1 X.D.sec.length c1, .slice a2 X.D.ep.length c2, .slice a3 X.D.pe.length c3]) X.D from ⟨a1, c1, a2, c2, a3, c3, rfl, s1, s2, s3⟩)
  have HS4 := hid s4
  have HS5 := hid s5
  have HS6 := hid s6
  have HS7 := hid s7
  have HM := hid hm
  have hl1 := hs.d1
  have hl2 := hs.d2
  have hl3 := hs.d3
  have hl4 : L.length ≤ 1048576 := by have := hs.h; rw [← hm, List.length_map] at this; exact this
  have HL4 : Hid (∀ x ∈ L, x.H.l.length ≤ 1048576) := fun x hx => (hs.hh _ (by rw [← hm]; exact List.mem_map_of_mem hx)).l
  have hl5 := hs.e
  have hl6 := hs.s
  have hl7 := hs.r
  clear s1 s2 s3 s4 s5 s6 s7 hm hs
  go_enter Tryz.func6, Tryz.ntmps6
  go_wp2_with fail
  obtain ⟨wc, hwc, e2, A0, R0, O0, B0⟩ := three_new w [.slice a1 X.D.sec.length c1, .slice a2 X.D.ep.length c2, .slice a3 X.D.pe.length c3, .slice a4 L.length c4, .slice a5 X.log.length c5, .slice a6 X.seen.length c6, .slice a7 X.rep.length c7] [.slice none 0 0, .slice none 0 0, .slice none 0 0, .slice none 0 0, .slice none 0 0, .slice none 0 0, .slice none 0 0] 31 41
  simp only [hwc]
  clear hwc
  refine (toDisk wc _ X.D (HS1.out.below B0) hl1 hl2 hl3).mono ?_
  rintro e w1 ⟨v1, rfl, S1, b1⟩
  have HA := hid (A0.below b1 A0.lt)
  have HR := hid (R0.below b1 R0.lt)
  have HO := hid (O0.below b1 O0.lt)
  have HB := hid (B0.trans (b1.mono (by omega)))
  have hsz := b1.size
  obtain ⟨p1, d1, p2, d2, p3, d3, rfl, t1, t2, t3, _, _⟩ := S1
  have T1 := hid (Wr.mono t1 (show w.heap.size + 1 + 1 + 1 ≤ wc.heap.size by omega))
  have T2 := hid (Wr.mono t2 (show w.heap.size + 1 + 1 + 1 ≤ wc.heap.size by omega))
  have T3 := hid (Wr.mono t3 (show w.heap.size + 1 + 1 + 1 ≤ wc.heap.size by omega))
  clear t1 t2 t3 A0 R0 O0 B0 b1
  have k3 := HA.out.c 3 rfl
  have o0 := HO.out.c 0 rfl
  have o1 := HO.out.c 1 rfl
  have o2 := HO.out.c 2 rfl
  have f0 := HO.out.f 0
  have f1 := HO.out.f 1
  have f2 := HO.out.f 2
  go_wp2_with fail
  clear k3 o0 o1 o2 f0 f1 f2
  obtain ⟨w1', hw1', A0, R0, O0, B0, T1, T2, T3⟩ : ∃ w', (((w1.setCell ⟨w.heap.size + 1 + 1, 0, none⟩ (.slice p1 X.D.sec.length d1)).setCell ⟨w.heap.size + 1 + 1, 1, none⟩ (.slice p2 X.D.ep.length d2)).setCell ⟨w.heap.size + 1 + 1, 2, none⟩ (.slice p3 X.D.pe.length d3)) = w' ∧ Row w' w.heap.size _ ∧ Row w' (w.heap.size + 1) _ ∧ Row w' (w.heap.size + 1 + 1) _ ∧ Hid (Below w.heap.size w w') ∧ Hid (StrsW w' (w.heap.size + 1 + 1 + 1) p1 X.D.sec) ∧ Hid (IntsW w' (w.heap.size + 1 + 1 + 1) p2 X.D.ep) ∧ Hid (WtsW w' (w.heap.size + 1 + 1 + 1) p3 X.D.pe) :=
    ⟨_, rfl, puts_other HA.out (by omega) 0 [.slice p1 X.D.sec.length d1, .slice p2 X.D.ep.length d2, .slice p3 X.D.pe.length d3], puts_other HR.out (by omega) 0 [.slice p1 X.D.sec.length d1, .slice p2 X.D.ep.length d2, .slice p3 X.D.pe.length d3], puts_row HO.out 0 [.slice p1 X.D.sec.length d1, .slice p2 X.D.ep.length d2, .slice p3 X.D.pe.length d3], puts_below HB.out (by omega) 0 [.slice p1 X.D.sec.length d1, .slice p2 X.D.ep.length d2, .slice p3 X.D.pe.length d3], Wr.over T1.out ((puts_kept _ (w.heap.size + 1 + 1) 0 [.slice p1 X.D.sec.length d1, .slice p2 X.D.ep.length d2, .slice p3 X.D.pe.length d3]).mono (fun b _ h => by omega)), Wr.over T2.out ((puts_kept _ (w.heap.size + 1 + 1) 0 [.slice p1 X.D.sec.length d1, .slice p2 X.D.ep.length d2, .slice p3 X.D.pe.length d3]).mono (fun b _ h => by omega)), Wr.over T3.out ((puts_kept _ (w.heap.size + 1 + 1) 0 [.slice p1 X.D.sec.length d1, .slice p2 X.D.ep.length d2, .slice p3 X.D.pe.length d3]).mono (fun b _ h => by omega))⟩
  try simp only [hw1']
  clear hw1' HA HR HO HB
  refine (toHostS w1' a4 c4 L (HS4.out.below B0.out) hl4 HL4.out).mono ?_
  rintro e w4 ⟨g4, L', rfl, hm', hg4, hg4', t4, b4⟩
  have HA := hid (A0.below b4 A0.lt)
  have HR := hid (R0.below b4 R0.lt)
  have HO := hid (O0.below b4 O0.lt)
  have hle := B0.out.size
  have hl8 := O0.lt
  have HB := hid (B0.out.trans (b4.mono B0.out.size))
  replace T1 := hid (Wr.over T1.out (Kept.of_below b4))
  replace T2 := hid (Wr.over T2.out (Kept.of_below b4))
  replace T3 := hid (Wr.over T3.out (Kept.of_below b4))
  have T4 := hid (HosW.mono t4 (show w.heap.size + 1 + 1 + 1 ≤ w1'.heap.size by omega))
  clear A0 R0 O0 B0 b4 t4 hle hl8
  have k := HA.out.c 4 rfl
  have o := HO.out.c 3 rfl
  have f := HO.out.f 3
  go_wp2_with fail
  clear k o f
  obtain ⟨w4', hw4', A0, R0, O0, B0, T1, T2, T3, T4⟩ : ∃ w', (w4.setCell ⟨w.heap.size + 1 + 1, 3, none⟩ (.slice (some ⟨g4, 0, none⟩) L'.length L'.length)) = w' ∧ Row w' w.heap.size _ ∧ Row w' (w.heap.size + 1) _ ∧ Row w' (w.heap.size + 1 + 1) _ ∧ Hid (Below w.heap.size w w') ∧ Hid (StrsW w' (w.heap.size + 1 + 1 + 1) p1 X.D.sec) ∧ Hid (IntsW w' (w.heap.size + 1 + 1 + 1) p2 X.D.ep) ∧ Hid (WtsW w' (w.heap.size + 1 + 1 + 1) p3 X.D.pe) ∧ Hid (HosW w' (w.heap.size + 1 + 1 + 1) (some ⟨g4, 0, none⟩) L') :=
    ⟨_, rfl, puts_other HA.out (by omega) 3 [.slice (some ⟨g4, 0, none⟩) L'.length L'.length], puts_other HR.out (by omega) 3 [.slice (some ⟨g4, 0, none⟩) L'.length L'.length], puts_row HO.out 3 [.slice (some ⟨g4, 0, none⟩) L'.length L'.length], puts_below HB.out (by omega) 3 [.slice (some ⟨g4, 0, none⟩) L'.length L'.length], Wr.over T1.out ((puts_kept _ (w.heap.size + 1 + 1) 3 [.slice (some ⟨g4, 0, none⟩) L'.length L'.length]).mono (fun b _ h => by omega)), Wr.over T2.out ((puts_kept _ (w.heap.size + 1 + 1) 3 [.slice (some ⟨g4, 0, none⟩) L'.length L'.length]).mono (fun b _ h => by omega)), Wr.over T3.out ((puts_kept _ (w.heap.size + 1 + 1) 3 [.slice (some ⟨g4, 0, none⟩) L'.length L'.length]).mono (fun b _ h => by omega)), HosW.over T4.out ((puts_kept _ (w.heap.size + 1 + 1) 3 [.slice (some ⟨g4, 0, none⟩) L'.length L'.length]).mono (fun b _ h => by omega))⟩
  try simp only [hw4']
  clear hw4' HA HR HO HB
  refine (toEventS w4' a5 c5 X.log (Sl.below HS5.out B0.out) hl5).mono ?_
  rintro e w5 ⟨g5, rfl, hg5, hg5', t5, b5⟩
  have HA := hid (A0.below b5 A0.lt)
  have HR := hid (R0.below b5 R0.lt)
  have HO := hid (O0.below b5 O0.lt)
  have hle := B0.out.size
  have hl8 := O0.lt
  have HB := hid (B0.out.trans (b5.mono B0.out.size))
  replace T1 := hid (Wr.over T1.out (Kept.of_below b5))
  replace T2 := hid (Wr.over T2.out (Kept.of_below b5))
  replace T3 := hid (Wr.over T3.out (Kept.of_below b5))
  replace T4 := hid (HosW.over T4.out (Kept.of_below b5))
  have T5 := hid (Wr.mono t5 (show w.heap.size + 1 + 1 + 1 ≤ w4'.heap.size by omega))
  clear A0 R0 O0 B0 b5 t5 hle hl8
  have k := HA.out.c 5 rfl
  have o := HO.out.c 4 rfl
  have f := HO.out.f 4
  go_wp2_with fail
  clear k o f
  obtain ⟨w5', hw5', A0, R0, O0, B0, T1, T2, T3, T4, T5⟩ : ∃ w', (w5.setCell ⟨w.heap.size + 1 + 1, 4, none⟩ (.slice (some ⟨g5, 0, none⟩) X.log.length X.log.length)) = w' ∧ Row w' w.heap.size _ ∧ Row w' (w.heap.size + 1) _ ∧ Row w' (w.heap.size + 1 + 1) _ ∧ Hid (Below w.heap.size w w') ∧ Hid (StrsW w' (w.heap.size + 1 + 1 + 1) p1 X.D.sec) ∧ Hid (IntsW w' (w.heap.size + 1 + 1 + 1) p2 X.D.ep) ∧ Hid (WtsW w' (w.heap.size + 1 + 1 + 1) p3 X.D.pe) ∧ Hid (HosW w' (w.heap.size + 1 + 1 + 1) (some ⟨g4, 0, none⟩) L') ∧ Hid (EvsW w' (w.heap.size + 1 + 1 + 1) (some ⟨g5, 0, none⟩) X.log) :=
    ⟨_, rfl, puts_other HA.out (by omega) 4 [.slice (some ⟨g5, 0, none⟩) X.log.length X.log.length], puts_other HR.out (by omega) 4 [.slice (some ⟨g5, 0, none⟩) X.log.length X.log.length], puts_row HO.out 4 [.slice (some ⟨g5, 0, none⟩) X.log.length X.log.length], puts_below HB.out (by omega) 4 [.slice (some ⟨g5, 0, none⟩) X.log.length X.log.length], Wr.over T1.out ((puts_kept _ (w.heap.size + 1 + 1) 4 [.slice (some ⟨g5, 0, none⟩) X.log.length X.log.length]).mono (fun b _ h => by omega)), Wr.over T2.out ((puts_kept _ (w.heap.size + 1 + 1) 4 [.slice (some ⟨g5, 0, none⟩) X.log.length X.log.length]).mono (fun b _ h => by omega)), Wr.over T3.out ((puts_kept _ (w.heap.size + 1 + 1) 4 [.slice (some ⟨g5, 0, none⟩) X.log.length X.log.length]).mono (fun b _ h => by omega)), HosW.over T4.out ((puts_kept _ (w.heap.size + 1 + 1) 4 [.slice (some ⟨g5, 0, none⟩) X.log.length X.log.length]).mono (fun b _ h => by omega)), Wr.over T5.out ((puts_kept _ (w.heap.size + 1 + 1) 4 [.slice (some ⟨g5, 0, none⟩) X.log.length X.log.length]).mono (fun b _ h => by omega))⟩
  try simp only [hw5']
  clear hw5' HA HR HO HB
  refine (toIntS w5' a6 c6 X.seen (Sl.below HS6.out B0.out) hl6).mono ?_
  rintro e w6 ⟨g6, rfl, hg6, hg6', t6, b6⟩
  have HA := hid (A0.below b6 A0.lt)
  have HR := hid (R0.below b6 R0.lt)
  have HO := hid (O0.below b6 O0.lt)
  have hle := B0.out.size
  have hl8 := O0.lt
  have HB := hid (B0.out.trans (b6.mono B0.out.size))
  replace T1 := hid (Wr.over T1.out (Kept.of_below b6))
  replace T2 := hid (Wr.over T2.out (Kept.of_below b6))
  replace T3 := hid (Wr.over T3.out (Kept.of_below b6))
  replace T4 := hid (HosW.over T4.out (Kept.of_below b6))
  replace T5 := hid (Wr.over T5.out (Kept.of_below b6))
  have T6 := hid (Wr.mono t6 (show w.heap.size + 1 + 1 + 1 ≤ w5'.heap.size by omega))
  clear A0 R0 O0 B0 b6 t6 hle hl8
  have k := HA.out.c 6 rfl
  have o := HO.out.c 5 rfl
  have f := HO.out.f 5
  go_wp2_with fail
  clear k o f
  obtain ⟨w6', hw6', A0, R0, O0, B0, T1, T2, T3, T4, T5, T6⟩ : ∃ w', (w6.setCell ⟨w.heap.size + 1 + 1, 5, none⟩ (.slice (some ⟨g6, 0, none⟩) X.seen.length X.seen.length)) = w' ∧ Row w' w.heap.size _ ∧ Row w' (w.heap.size + 1) _ ∧ Row w' (w.heap.size + 1 + 1) _ ∧ Hid (Below w.heap.size w w') ∧ Hid (StrsW w' (w.heap.size + 1 + 1 + 1) p1 X.D.sec) ∧ Hid (IntsW w' (w.heap.size + 1 + 1 + 1) p2 X.D.ep) ∧ Hid (WtsW w' (w.heap.size + 1 + 1 + 1) p3 X.D.pe) ∧ Hid (HosW w' (w.heap.size + 1 + 1 + 1) (some ⟨g4, 0, none⟩) L') ∧ Hid (EvsW w' (w.heap.size + 1 + 1 + 1) (some ⟨g5, 0, none⟩) X.log) ∧ Hid (IntsW w' (w.heap.size + 1 + 1 + 1) (some ⟨g6, 0, none⟩) X.seen) :=
    ⟨_, rfl, puts_other HA.out (by omega) 5 [.slice (some ⟨g6, 0, none⟩) X.seen.length X.seen.length], puts_other HR.out (by omega) 5 [.slice (some ⟨g6, 0, none⟩) X.seen.length X.seen.length], puts_row HO.out 5 [.slice (some ⟨g6, 0, none⟩) X.seen.length X.seen.length], puts_below HB.out (by omega) 5 [.slice (some ⟨g6, 0, none⟩) X.seen.length X.seen.length], Wr.over T1.out ((puts_kept _ (w.heap.size + 1 + 1) 5 [.slice (some ⟨g6, 0, none⟩) X.seen.length X.seen.length]).mono (fun b _ h => by omega)), Wr.over T2.out ((puts_kept _ (w.heap.size + 1 + 1) 5 [.slice (some ⟨g6, 0, none⟩) X.seen.length X.seen.length]).mono (fun b _ h => by omega)), Wr.over T3.out ((puts_kept _ (w.heap.size + 1 + 1) 5 [.slice (some ⟨g6, 0, none⟩) X.seen.length X.seen.length]).mono (fun b _ h => by omega)), HosW.over T4.out ((puts_kept _ (w.heap.size + 1 + 1) 5 [.slice (some ⟨g6, 0, none⟩) X.seen.length X.seen.length]).mono (fun b _ h => by omega)), Wr.over T5.out ((puts_kept _ (w.heap.size + 1 + 1) 5 [.slice (some ⟨g6, 0, none⟩) X.seen.length X.seen.length]).mono (fun b _ h => by omega)), Wr.over T6.out ((puts_kept _ (w.heap.size + 1 + 1) 5 [.slice (some ⟨g6, 0, none⟩) X.seen.length X.seen.length]).mono (fun b _ h => by omega))⟩
  try simp only [hw6']
  clear hw6' HA HR HO HB
  refine (toReplyS w6' a7 c7 X.rep (Sl.below HS7.out B0.out) hl7).mono ?_
  rintro e w7 ⟨g7, rfl, hg7, hg7', t7, b7⟩
  have HA := hid (A0.below b7 A0.lt)
  have HR := hid (R0.below b7 R0.lt)
  have HO := hid (O0.below b7 O0.lt)
  have hle := B0.out.size
  have hl8 := O0.lt
  have HB := hid (B0.out.trans (b7.mono B0.out.size))
  replace T1 := hid (Wr.over T1.out (Kept.of_below b7))
  replace T2 := hid (Wr.over T2.out (Kept.of_below b7))
  replace T3 := hid (Wr.over T3.out (Kept.of_below b7))
  replace T4 := hid (HosW.over T4.out (Kept.of_below b7))
  replace T5 := hid (Wr.over T5.out (Kept.of_below b7))
  replace T6 := hid (Wr.over T6.out (Kept.of_below b7))
  have T7 := hid (Wr.mono t7 (show w.heap.size + 1 + 1 + 1 ≤ w6'.heap.size by omega))
  clear A0 R0 O0 B0 b7 t7 hle hl8
  have o := HO.out.c 6 rfl
  have f := HO.out.f 6
  go_upto_region 7 with fail
  clear o f
  obtain ⟨w7', hw7', A0, R0, O0, B0, T1, T2, T3, T4, T5, T6, T7⟩ : ∃ w', (w7.setCell ⟨w.heap.size + 1 + 1, 6, none⟩ (.slice (some ⟨g7, 0, none⟩) X.rep.length X.rep.length)) = w' ∧ Row w' w.heap.size _ ∧ Row w' (w.heap.size + 1) _ ∧ Row w' (w.heap.size + 1 + 1) _ ∧ Hid (Below w.heap.size w w') ∧ Hid (StrsW w' (w.heap.size + 1 + 1 + 1) p1 X.D.sec) ∧ Hid (IntsW w' (w.heap.size + 1 + 1 + 1) p2 X.D.ep) ∧ Hid (WtsW w' (w.heap.size + 1 + 1 + 1) p3 X.D.pe) ∧ Hid (HosW w' (w.heap.size + 1 + 1 + 1) (some ⟨g4, 0, none⟩) L') ∧ Hid (EvsW w' (w.heap.size + 1 + 1 + 1) (some ⟨g5, 0, none⟩) X.log) ∧ Hid (IntsW w' (w.heap.size + 1 + 1 + 1) (some ⟨g6, 0, none⟩) X.seen) ∧ Hid (RpsW w' (w.heap.size + 1 + 1 + 1) (some ⟨g7, 0, none⟩) X.rep) :=
    ⟨_, rfl, puts_other HA.out (by omega) 6 [.slice (some ⟨g7, 0, none⟩) X.rep.length X.rep.length], puts_other HR.out (by omega) 6 [.slice (some ⟨g7, 0, none⟩) X.rep.length X.rep.length], puts_row HO.out 6 [.slice (some ⟨g7, 0, none⟩) X.rep.length X.rep.length], puts_below HB.out (by omega) 6 [.slice (some ⟨g7, 0, none⟩) X.rep.length X.rep.length], Wr.over T1.out ((puts_kept _ (w.heap.size + 1 + 1) 6 [.slice (some ⟨g7, 0, none⟩) X.rep.length X.rep.length]).mono (fun b _ h => by omega)), Wr.over T2.out ((puts_kept _ (w.heap.size + 1 + 1) 6 [.slice (some ⟨g7, 0, none⟩) X.rep.length X.rep.length]).mono (fun b _ h => by omega)), Wr.over T3.out ((puts_kept _ (w.heap.size + 1 + 1) 6 [.slice (some ⟨g7, 0, none⟩) X.rep.length X.rep.length]).mono (fun b _ h => by omega)), HosW.over T4.out ((puts_kept _ (w.heap.size + 1 + 1) 6 [.slice (some ⟨g7, 0, none⟩) X.rep.length X.rep.length]).mono (fun b _ h => by omega)), Wr.over T5.out ((puts_kept _ (w.heap.size + 1 + 1) 6 [.slice (some ⟨g7, 0, none⟩) X.rep.length X.rep.length]).mono (fun b _ h => by omega)), Wr.over T6.out ((puts_kept _ (w.heap.size + 1 + 1) 6 [.slice (some ⟨g7, 0, none⟩) X.rep.length X.rep.length]).mono (fun b _ h => by omega)), Wr.over T7.out ((puts_kept _ (w.heap.size + 1 + 1) 6 [.slice (some ⟨g7, 0, none⟩) X.rep.length X.rep.length]).mono (fun b _ h => by omega))⟩
  try simp only [hw7']
  clear hw7' HA HR HO HB
  refine wp_region_list ?_
  refine wpList_load_row rfl 41 _ rfl (w.heap.size + 1 + 1) rfl [.slice p1 X.D.sec.length d1, .slice p2 X.D.ep.length d2, .slice p3 X.D.pe.length d3, .slice (some ⟨g4, 0, none⟩) L'.length L'.length, .slice (some ⟨g5, 0, none⟩) X.log.length X.log.length, .slice (some ⟨g6, 0, none⟩) X.seen.length X.seen.length, .slice (some ⟨g7, 0, none⟩) X.rep.length X.rep.length] _ O0 Tryz.underlying41 rfl (by kernel_rfl) ?_
  refine wpList_store_row rfl 41 _ _ rfl (w.heap.size + 1) rfl _ [.slice p1 X.D.sec.length d1, .slice p2 X.D.ep.length d2, .slice p3 X.D.pe.length d3, .slice (some ⟨g4, 0, none⟩) L'.length L'.length, .slice (some ⟨g5, 0, none⟩) X.log.length X.log.length, .slice (some ⟨g6, 0, none⟩) X.seen.length X.seen.length, .slice (some ⟨g7, 0, none⟩) X.rep.length X.rep.length] rfl R0 rfl (by kernel_rfl) rfl ?_
  have HR3 := hid (puts_row R0 0 [.slice p1 X.D.sec.length d1, .slice p2 X.D.ep.length d2, .slice p3 X.D.pe.length d3, .slice (some ⟨g4, 0, none⟩) L'.length L'.length, .slice (some ⟨g5, 0, none⟩) X.log.length X.log.length, .slice (some ⟨g6, 0, none⟩) X.seen.length X.seen.length, .slice (some ⟨g7, 0, none⟩) X.rep.length X.rep.length])
  have HB3 := hid (puts_below B0.out (show w.heap.size ≤ w.heap.size + 1 by omega) 0 [.slice p1 X.D.sec.length d1, .slice p2 X.D.ep.length d2, .slice p3 X.D.pe.length d3, .slice (some ⟨g4, 0, none⟩) L'.length L'.length, .slice (some ⟨g5, 0, none⟩) X.log.length X.log.length, .slice (some ⟨g6, 0, none⟩) X.seen.length X.seen.length, .slice (some ⟨g7, 0, none⟩) X.rep.length X.rep.length])
  have KK := (puts_kept w7' (w.heap.size + 1) 0 [.slice p1 X.D.sec.length d1, .slice p2 X.D.ep.length d2, .slice p3 X.D.pe.length d3, .slice (some ⟨g4, 0, none⟩) L'.length L'.length, .slice (some ⟨g5, 0, none⟩) X.log.length X.log.length, .slice (some ⟨g6, 0, none⟩) X.seen.length X.seen.length, .slice (some ⟨g7, 0, none⟩) X.rep.length X.rep.length]).mono (T := fun b => b < w.heap.size + 1 + 1 + 1) (fun b _ h => by omega)
  have HX : Hid (WdR (puts w7' (w.heap.size + 1) 0 [.slice p1 X.D.sec.length d1, .slice p2 X.D.ep.length d2, .slice p3 X.D.pe.length d3, .slice (some ⟨g4, 0, none⟩) L'.length L'.length, .slice (some ⟨g5, 0, none⟩) X.log.length X.log.length, .slice (some ⟨g6, 0, none⟩) X.seen.length X.seen.length, .slice (some ⟨g7, 0, none⟩) X.rep.length X.rep.length]) (.agg #[.slice p1 X.D.sec.length d1, .slice p2 X.D.ep.length d2, .slice p3 X.D.pe.length d3, .slice (some ⟨g4, 0, none⟩) L'.length L'.length, .slice (some ⟨g5, 0, none⟩) X.log.length X.log.length, .slice (some ⟨g6, 0, none⟩) X.seen.length X.seen.length, .slice (some ⟨g7, 0, none⟩) X.rep.length X.rep.length]) X) :=
    ⟨_, _, _, _, _, _, _, _, _, _, _, _, _, _, L', rfl, hm'.trans HM.out, (Wr.over T1.out KK).sl, (Wr.over T2.out KK).sl, (Wr.over T3.out KK).sl, (HosW.over T4.out KK).read, (Wr.over T5.out KK).sl, (Wr.over T6.out KK).sl, (Wr.over T7.out KK).sl⟩
  clear KK T1 T2 T3 T4 T5 T6 T7
  generalize puts w7' (w.heap.size + 1) 0 [.slice p1 X.D.sec.length d1, .slice p2 X.D.ep.length d2, .slice p3 X.D.pe.length d3, .slice (some ⟨g4, 0, none⟩) L'.length L'.length, .slice (some ⟨g5, 0, none⟩) X.log.length X.log.length, .slice (some ⟨g6, 0, none⟩) X.seen.length X.seen.length, .slice (some ⟨g7, 0, none⟩) X.rep.length X.rep.length] = w8 at *
  clear R0 O0 A0 B0
  go_wp2
  refine bodyPost_ret (results_row rfl _ _ (w.heap.size + 1) [.slice p1 X.D.sec.length d1, .slice p2 X.D.ep.length d2, .slice p3 X.D.pe.length d3, .slice (some ⟨g4, 0, none⟩) L'.length L'.length, .slice (some ⟨g5, 0, none⟩) X.log.length X.log.length, .slice (some ⟨g6, 0, none⟩) X.seen.length X.seen.length, .slice (some ⟨g7, 0, none⟩) X.rep.length X.rep.length] _ rfl HR3.out Tryz.underlying41 rfl (by kernel_rfl)) rfl ?_
  exact ⟨_, rfl, HX.out, HB3.out⟩

set_option maxRecDepth 100000 in
set_option maxHeartbeats 4000000 in
theorem eqWorld (w : World) (v u : Value) (X : Wd) (h : WdR w v X) (k : WdR w u X) (hs : X.Held) :
    Calls Tryz.prog 8 #[v, u] w fun e w' => e = .returned (.bool true) ∧ Below w.heap.size w w' := by
  obtain ⟨a1, c1, a2, c2, a3, c3, a4, c4, a5, c5, a6, c6, a7, c7, L, rfl, hm, s1, s2, s3, s4, s5, s6, s7⟩ := h
  obtain ⟨b1, d1, b2, d2, b3, d3, b4, d4, b5, d5, b6, d6, b7, d7, M, rfl, hn, t1, t2, t3, t4, t5, t6, t7⟩ := k
  have HS1 := hid (show DkR w (.agg #[.slice a1 X.D.sec.length c1, .slice a2 X.D.ep.length c2, .slice a3 X.D.pe.length c3]) X.D from ⟨a1, c1, a2, c2, a3, c3, rfl, s1, s2, s3⟩)
  have HT1 := hid (show DkR w (.agg #[.slice b1 X.D.sec.length d1, .slice b2 X.D.ep.length d2, .slice b3 X.D.pe.length d3]) X.D from ⟨b1, d1, b2, d2, b3, d3, rfl, t1, t2, t3⟩)
  have HS4 := hid s4
  have HS5 := hid s5
  have HS6 := hid s6
  have HS7 := hid s7
  have HT4 := hid t4
  have HT5 := hid t5
  have HT6 := hid t6
  have HT7 := hid t7
  have HH := hid hs
  have HML := hid (hm.trans hn.symm)
  have HLl : Hid (L.length ≤ maxLen) := by have := hs.h; rw [← hm, List.length_map] at this; exact this
  have HLx : Hid (∀ x ∈ L, x.H.l.length ≤ maxLen) := fun x hx => (hs.hh _ (by rw [← hm]; exact List.mem_map_of_mem hx)).l
  clear s1 s2 s3 s4 s5 s6 s7 t1 t2 t3 t4 t5 t6 t7 hm hn hs
  obtain ⟨wa, hwa, ez, A0, C0, B0⟩ := two_new w [.slice a1 X.D.sec.length c1, .slice a2 X.D.ep.length c2, .slice a3 X.D.pe.length c3, .slice a4 L.length c4, .slice a5 X.log.length c5, .slice a6 X.seen.length c6, .slice a7 X.rep.length c7] [.slice b1 X.D.sec.length d1, .slice b2 X.D.ep.length d2, .slice b3 X.D.pe.length d3, .slice b4 M.length d4, .slice b5 X.log.length d5, .slice b6 X.seen.length d6, .slice b7 X.rep.length d7] 41 41
  have k0 := A0.c 0 rfl
  have k1 := A0.c 1 rfl
  have k2 := A0.c 2 rfl
  have m0 := C0.c 0 rfl
  have m1 := C0.c 1 rfl
  have m2 := C0.c 2 rfl
  have HA := hid A0
  have HC := hid C0
  have HB := hid B0
  clear A0 C0 B0 ez
  go_enter Tryz.func8, Tryz.ntmps8
  go_wp2_with fail
  try simp only [hwa]
  clear hwa k0 k1 k2 m0 m1 m2
  refine (eqDisk wa _ _ X.D X.D (HS1.out.below HB.out) (HT1.out.below HB.out) HH.out.d HH.out.d).mono ?_
  rintro e w1 ⟨he, q1⟩
  obtain rfl : e = .returned (.bool true) := by rw [he]; simp
  have HA1 := hid (HA.out.below q1 HA.out.lt)
  have HC1 := hid (HC.out.below q1 HC.out.lt)
  have HB1 := hid (HB.out.trans (q1.mono HB.out.size))
  clear q1 HA HC HB
  have k := HA1.out.c 3 rfl
  have m := HC1.out.c 3 rfl
  go_wp2_with fail
  clear k m
  refine (eqHostS w1 a4 b4 c4 d4 L M (HS4.out.below HB1.out) (HT4.out.below HB1.out) HML.out HLl.out HLx.out).mono ?_
  rintro e w2 ⟨rfl, q2⟩
  have HA2 := hid (HA1.out.below q2 HA1.out.lt)
  have HC2 := hid (HC1.out.below q2 HC1.out.lt)
  have HB2 := hid (HB1.out.trans (q2.mono HB1.out.size))
  clear q2 HA1 HC1 HB1
  have k := HA2.out.c 4 rfl
  have m := HC2.out.c 4 rfl
  go_wp2_with fail
  clear k m
  refine (eqEventS w2 a5 b5 c5 d5 X.log (Sl.below HS5.out HB2.out) (Sl.below HT5.out HB2.out) HH.out.e).mono ?_
  rintro e w3 ⟨rfl, q3⟩
  have HA3 := hid (HA2.out.below q3 HA2.out.lt)
  have HC3 := hid (HC2.out.below q3 HC2.out.lt)
  have HB3 := hid (HB2.out.trans (q3.mono HB2.out.size))
  clear q3 HA2 HC2 HB2
  have k := HA3.out.c 5 rfl
  have m := HC3.out.c 5 rfl
  go_wp2_with fail
  clear k m
  refine (eqIntS w3 a6 b6 c6 d6 X.seen X.seen (Sl.below HS6.out HB3.out) (Sl.below HT6.out HB3.out) HH.out.s HH.out.s).mono ?_
  rintro e w4 ⟨rfl, q4⟩
  rw [decide_eq_true (rfl : X.seen = X.seen)]
  have HA4 := hid (HA3.out.below q4 HA3.out.lt)
  have HC4 := hid (HC3.out.below q4 HC3.out.lt)
  have HB4 := hid (HB3.out.trans (q4.mono HB3.out.size))
  clear q4 HA3 HC3 HB3
  have k := HA4.out.c 6 rfl
  have m := HC4.out.c 6 rfl
  go_wp2_with fail
  clear k m
  refine (eqReplyS w4 a7 b7 c7 d7 X.rep (Sl.below HS7.out HB4.out) (Sl.below HT7.out HB4.out) HH.out.r).mono ?_
  rintro e w5 ⟨rfl, q5⟩
  have HB5 := hid (HB4.out.trans (q5.mono HB4.out.size))
  clear q5
  go_wp2
  go_ret
  exact ⟨rfl, HB5.out⟩

section
variable {H : Type} {enc : TypeId × Value → H} {W : World} {base : Nat} {spare : Nat → Bool} {held : Bool}

set_option maxRecDepth 100000 in
theorem dk_cells_in {fuel : Nat} {cs : List Value} {x : DataW H × List MemPlace} (h : DataW.trod enc Tryz.prog W base spare held fuel 26 cs = some x) :
    ∃ (D : Dk) (a1 : Option Addr) (c1 : Nat) (a2 : Option Addr) (c2 : Nat) (a3 : Option Addr) (c3 : Nat), cs = [.slice a1 D.sec.length c1, .slice a2 D.ep.length c2, .slice a3 D.pe.length c3] ∧ Strs W a1 D.sec ∧ Ints W a2 D.ep ∧ Wts W a3 D.pe ∧ D.Held := by
  have c3 : Tryz.prog.cellsOf 26 = 3 := by kernel_rfl
  have cA : Tryz.prog.cellsOf 22 = 1 := by kernel_rfl
  have cI : Tryz.prog.cellsOf 23 = 1 := by kernel_rfl
  have cW : Tryz.prog.cellsOf 24 = 1 := by kernel_rfl
  obtain ⟨xs, n, _, rfl, hl, hlen, hf⟩ := DataW.trod_struct Tryz.underlying26 h
  rw [c3] at hl
  match xs, hlen, cs, hl with
  | [y0, y1, y2], _, [v0, v1, v2], _ =>
    have f0 : DataW.trod enc Tryz.prog W base spare held n 22 [v0] = some y0 := by simpa [cA] using hf 0 _ rfl
    have f1 : DataW.trod enc Tryz.prog W base spare held n 23 [v1] = some y1 := by simpa [cA, cI] using hf 1 _ rfl
    have f2 : DataW.trod enc Tryz.prog W base spare held n 24 [v2] = some y2 := by simpa [cA, cI, cW] using hf 2 _ rfl
    obtain ⟨a1, c1, l1, rfl, s1, n1, t1⟩ := Mem.strs_in f0
    obtain ⟨a2, c2, l2, rfl, s2, n2, _⟩ := Mem.ints_in f1
    obtain ⟨a3, c3, l3, rfl, s3, n3, t3⟩ := Mem.writes_in f2
    exact ⟨⟨l1, l2, l3⟩, a1, c1, a2, c2, a3, c3, rfl, s1, s2, s3, ⟨n1, n2, n3, t1, t3⟩⟩

set_option maxRecDepth 100000 in
/-- A world that came in. -/
theorem world_in {v : Value} {d : DataW H} {p : List MemPlace} {r : Reach} {b0 : Nat} (hv : Value.okWide Tryz.prog W r b0 31 v) (h : DataW.Trod enc Tryz.prog W base spare held 31 v d p) :
    ∃ X : Wd, WdR W v X ∧ X.Held := by
  have c7 : Tryz.prog.cellsOf 31 = 7 := by kernel_rfl
  have cD : Tryz.prog.cellsOf 26 = 3 := by kernel_rfl
  have cH : Tryz.prog.cellsOf 27 = 1 := by kernel_rfl
  have cE : Tryz.prog.cellsOf 28 = 1 := by kernel_rfl
  have cI : Tryz.prog.cellsOf 23 = 1 := by kernel_rfl
  have cR : Tryz.prog.cellsOf 29 = 1 := by kernel_rfl
  obtain ⟨cs, rfl, hsz⟩ := okWide_struct Tryz.underlying31 hv
  rw [c7] at hsz
  obtain ⟨v0, v1, v2, v3, v4, v5, v6, rfl⟩ : ∃ v0 v1 v2 v3 v4 v5 v6, cs = #[v0, v1, v2, v3, v4, v5, v6] := by
    obtain ⟨l⟩ := cs
    match l, hsz with
    | [v0, v1, v2, v3, v4, v5, v6], _ => exact ⟨v0, v1, v2, v3, v4, v5, v6, rfl⟩
  obtain ⟨fuel, hf⟩ := h
  obtain ⟨xs, n, _, _, _, hlen, hf⟩ := DataW.trod_struct Tryz.underlying31 hf
  match xs, hlen with
  | [y0, y1, y2, y3, y4], _ =>
    have f0 : DataW.trod enc Tryz.prog W base spare held n 26 [v0, v1, v2] = some y0 := by simpa [cD, Value.cells] using hf 0 _ rfl
    have f1 : DataW.trod enc Tryz.prog W base spare held n 27 [v3] = some y1 := by simpa [cD, cH, Value.cells] using hf 1 _ rfl
    have f2 : DataW.trod enc Tryz.prog W base spare held n 28 [v4] = some y2 := by simpa [cD, cH, cE, Value.cells] using hf 2 _ rfl
    have f3 : DataW.trod enc Tryz.prog W base spare held n 23 [v5] = some y3 := by simpa [cD, cH, cE, cI, Value.cells] using hf 3 _ rfl
    have f4 : DataW.trod enc Tryz.prog W base spare held n 29 [v6] = some y4 := by simpa [cD, cH, cE, cI, cR, Value.cells] using hf 4 _ rfl
    obtain ⟨D, a1, c1, a2, c2, a3, c3, e0, s1, s2, s3, hd⟩ := dk_cells_in f0
    obtain ⟨a4, c4, L, rfl, s4, n4, u4⟩ := hos_in f1
    obtain ⟨a5, c5, lg, rfl, s5, n5, u5⟩ := evs_in f2
    obtain ⟨a6, c6, sn, rfl, s6, n6, _⟩ := Mem.ints_in f3
    obtain ⟨a7, c7, rp, rfl, s7, n7, u7⟩ := rps_in f4
    simp only [List.cons.injEq, and_true] at e0
    obtain ⟨rfl, rfl, rfl⟩ := e0
    exact ⟨⟨D, L.map (·.H), lg, sn, rp⟩, ⟨a1, c1, a2, c2, a3, c3, a4, c4, a5, c5, a6, c6, a7, c7, L, rfl, rfl, s1, s2, s3, s4, s5, s6, s7⟩, ⟨hd, by simpa using n4, fun x hx => by
      obtain ⟨y, hy, rfl⟩ := List.mem_map.1 hx
      exact u4 y hy, n5, u5, n6, n7, u7⟩⟩

end

end Go.Proofs.YtogebppolkfldaaGreatDoor.Pl

namespace Go.Proofs.YtogebppolkfldaaGreatDoor.Pl
open Go.RowKit Go.Proofs.YtogebppolkfldaaGreatDoor.Mem Go.Proofs.YtogebppolkfldaaGreatDoor.Sec
set_option linter.unusedVariables false

def Ho.opz (H : Ho) : Bool := decide (H.k = 0 ∧ H.v = 0 ∧ H.t = 0 ∧ H.a = 0 ∧ H.s = ⟨#[]⟩)
def zeroPlan (cd bk : Int) (tx : ByteArray) (l : List Ou) : Bool := decide (cd = 0) && (decide (bk = 0) && (decide (tx = ⟨#[]⟩) && decide ((l.length : Int) = 0)))
def keptPlan (cd bk : Int) (tx : ByteArray) (l : List Ou) : Bool := decide (cd = 0) && (decide (-1 ≤ bk ∧ bk ≤ 17) && (decide ((tx.size : Int) ≤ 16) && (decide (l.length ≤ 8) && outsOk l)))
def Ho.zp (H : Ho) : Bool := zeroPlan H.cd H.bk H.tx H.l
def Ho.kept (H : Ho) : Bool := keptPlan H.cd H.bk H.tx H.l
def Ho.idle (H : Ho) : Bool := H.opz && (decide (H.pc = 0) && H.zp)
def Ho.down (H : Ho) : Bool := decide (H.ep = 0) && (!H.rd && (!H.bz && (decide (H.txn = 0) && H.idle)))
def Ho.busy (H : Ho) : Bool := opRight H.k H.v H.t H.a H.s && (decide (0 ≤ H.pc ∧ H.pc ≤ 20) && (!(decide (1 ≤ H.pc ∧ H.pc ≤ 3) && decide (1000000 ≤ H.txn)) && (if H.pc = 0 then H.zp else H.kept)))
/-- Is a host right. -/
def Ho.ok (H : Ho) : Bool := decide (0 ≤ H.id ∧ H.id < 3) && (if H.up = true then decide (1 ≤ H.ep ∧ H.ep ≤ 100000) && (decide (0 ≤ H.txn ∧ H.txn ≤ 1000000) && (if H.bz = true then H.busy else H.idle)) else H.down)

theorem zero_kept {cd bk : Int} {tx : ByteArray} {l : List Ou} (h : zeroPlan cd bk tx l = true) : keptPlan cd bk tx l = true := by
  unfold zeroPlan at h
  simp only [Bool.and_eq_true, decide_eq_true_eq] at h
  obtain ⟨h1, h2, h3, h4⟩ := h
  have h5 : l = [] := List.eq_nil_of_length_eq_zero (by omega)
  subst h1; subst h2; subst h3; subst h5
  decide

theorem text_no {t : ByteArray} (h : ¬ t = ⟨#[]⟩) : (t.toList == []) = false ∧ ¬ t.toList = [] := by
  have h1 : ¬ t.toList = [] := fun e => h (by
    rw [ByteArray.toList_eq] at e
    exact ByteArray.ext (Array.toList_inj.1 (show t.data.toList = (#[] : Array UInt8).toList from e)))
  exact ⟨by simpa using h1, h1⟩

set_option maxHeartbeats 400000 in
theorem l1In (x lo hi : Int) (w : World) :
    Calls Tryz.prog 42 #[.int .i64 x, .int .i64 lo, .int .i64 hi] w fun e w' => e = .returned (.bool (decide (lo ≤ x ∧ x ≤ hi))) ∧ w' = w := by
  by_cases h1 : lo ≤ x
  · by_cases h2 : x ≤ hi
    · rw [decide_eq_true (And.intro h1 h2)]
      go_enter Tryz.func42, Tryz.ntmps42
      go_wp2
      go_ret
      exact ⟨rfl, rfl⟩
    · rw [decide_eq_false (fun h => h2 h.2)]
      go_enter Tryz.func42, Tryz.ntmps42
      go_wp2
      go_ret
      exact ⟨rfl, rfl⟩
  · rw [decide_eq_false (fun h => h1 h.1)]
    go_enter Tryz.func42, Tryz.ntmps42
    go_wp2
    go_ret
    exact ⟨rfl, rfl⟩

set_option maxRecDepth 100000 in
set_option maxHeartbeats 4000000 in
theorem sOuts (w : World) (a : Option Addr) (cap : Nat) (l : List Ou) (S : Ous w a l) (hl : l.length ≤ 1048576) (hs : ∀ x ∈ l, x.text.size ≤ 1048576) :
    Calls Tryz.prog 76 #[.slice a l.length cap] w fun e w' => e = .returned (.bool (decide (l.length ≤ 8) && outsOk l)) ∧ Below w.heap.size w w' := by
  have HS := hid S
  have Hs : Hid (∀ k, (l.getD k Ou.none).text.size ≤ 1048576) := fun k => by
    by_cases h : k < l.length
    · exact hs _ (by simp [List.getD, h])
    · simp [List.getD, h, Ou.none]
  clear S hs
  by_cases hg : 8 < (l.length : Int)
  · have hg' : decide (l.length ≤ 8) = false := decide_eq_false (by omega)
    rw [hg']
    clear hg'
    go_enter Tryz.func76, Tryz.ntmps76
    go_wp2
    go_ret
    exact ⟨rfl, Below.refl _ _⟩
  have hg' : decide (l.length ≤ 8) = true := decide_eq_true (by omega)
  rw [hg', Bool.true_and]
  clear hg'
  go_enter Tryz.func76, Tryz.ntmps76
  go_wp2
  go_loopw [3] (fun i wr => ∃ k : Nat, k ≤ l.length ∧ i = .int .i64 (k : Int) ∧ Hid (∀ i, i < k → outAt l i) ∧ Hid (Below w.heap.size w wr)) (fun i _ => l.length - (intOf i).toNat)
  case atStart => exact ⟨0, Nat.zero_le _, rfl, fun i hi => by omega, Below.refl _ _⟩
  case round =>
    obtain ⟨i, hi, rfl, HK, HB⟩ := hrel
    by_cases hlt : i < l.length
    · obtain ⟨b, off, rfl, e0, e1⟩ := Ous.at_ (HS.out.below HB.out) i hlt
      have hsz := Hs.out i
      have HN := hid (outsOk_no i hlt)
      have HST := hid (fun h => outs_step (k := i) HK.out h)
      have HAt : Hid (outAt l i ↔ ((0 ≤ (l.getD i Ou.none).sec ∧ (l.getD i Ou.none).sec ≤ 33) ∧ (0 < i → (l.getD (i - 1) Ou.none).sec < (l.getD i Ou.none).sec)) ∧ ((l.getD i Ou.none).text.size : Int) ≤ 60) := by
        unfold outAt
        exact ⟨fun x => ⟨⟨x.1, x.2.1⟩, x.2.2⟩, fun x => ⟨x.1.1, x.1.2, x.2⟩⟩
      generalize l.getD i Ou.none = x at e0 e1 hsz HAt
      obtain ⟨xs, xt⟩ := x
      simp only [] at e0 e1 hsz HAt
      have hne : Nonempty (BW wr) := ⟨⟨wr, Below.refl _ _⟩⟩
      replace e0 := BW.cell e0
      replace e1 := BW.cell e1
      by_cases d0 : 0 ≤ xs ∧ xs ≤ 33
      · have d0' := decide_eq_true d0
        cases i with
        | zero =>
          simp only [Nat.zero_mul, Nat.add_zero] at e0 e1
          by_cases h60 : 60 < (xt.size : Int)
          · have HR := hid (HN.out (fun x => by have := (HAt.out.1 x).2; omega))
            clear d0
            go_wp2
            refine wp_region_bw (by kernel_rfl) (by kernel_rfl) ?_
            repeat (go_big_quiet_step (first
              | (go_at_call 42; refine bw_same (v := .bool true) (d0' ▸ l1In xs 0 33 _))))
            refine wpQuiet_nil ?_
            intro _ hw'
            obtain ⟨u, rfl⟩ := hw'
            have HU := hid (HB.out.trans (u.bel.mono HB.out.size))
            clear e0 e1
            go_wp2
            go_ret
            exact ⟨by rw [HR.out]; rfl, HU.out⟩
          · have HR := hid (HST.out (HAt.out.2 ⟨⟨d0, fun h => by omega⟩, by omega⟩))
            clear d0
            go_wp2
            refine wp_region_bw (by kernel_rfl) (by kernel_rfl) ?_
            repeat (go_big_quiet_step (first
              | (go_at_call 42; refine bw_same (v := .bool true) (d0' ▸ l1In xs 0 33 _))))
            refine wpQuiet_nil ?_
            intro _ hw'
            obtain ⟨u, rfl⟩ := hw'
            have HU := hid (HB.out.trans (u.bel.mono HB.out.size))
            clear e0 e1
            go_wp2
            exact ⟨⟨1, by omega, by go_num, HR, HU⟩, by simp [intOf]; omega⟩
        | succ m =>
          obtain ⟨b', off', eb, p0, _⟩ := Ous.at_ (HS.out.below HB.out) m (by omega)
          cases eb
          rw [show m + 1 - 1 = m from rfl] at HAt
          generalize (l.getD m Ou.none).sec = ys at p0 HAt
          replace p0 := BW.cell p0
          have hm0 : (0 : Int) < ((m + 1 : Nat) : Int) := by omega
          have hm1 : ((m + 1 : Nat) : Int) - 1 = (m : Int) := by omega
          have hm2 : (m : Int) < (l.length : Int) := by omega
          by_cases d1 : xs ≤ ys
          · have HR := hid (HN.out (fun x => by have := (HAt.out.1 x).1.2 (by omega); omega))
            clear d0
            go_wp2
            refine wp_region_bw (by kernel_rfl) (by kernel_rfl) ?_
            repeat (go_big_quiet_step (first
              | (go_at_call 42; refine bw_same (v := .bool true) (d0' ▸ l1In xs 0 33 _))))
            refine wpQuiet_nil ?_
            intro _ hw'
            obtain ⟨u, rfl⟩ := hw'
            have HU := hid (HB.out.trans (u.bel.mono HB.out.size))
            clear e0 e1 p0
            go_wp2
            go_ret
            exact ⟨by rw [HR.out]; rfl, HU.out⟩
          have d1' : decide (xs ≤ ys) = false := decide_eq_false d1
          by_cases h60 : 60 < (xt.size : Int)
          · have HR := hid (HN.out (fun x => by have := (HAt.out.1 x).2; omega))
            clear d0
            go_wp2
            refine wp_region_bw (by kernel_rfl) (by kernel_rfl) ?_
            repeat (go_big_quiet_step (first
              | (go_at_call 42; refine bw_same (v := .bool true) (d0' ▸ l1In xs 0 33 _))))
            refine wpQuiet_nil ?_
            intro _ hw'
            obtain ⟨u, rfl⟩ := hw'
            have HU := hid (HB.out.trans (u.bel.mono HB.out.size))
            clear e0 e1 p0
            go_wp2
            go_ret
            exact ⟨by rw [HR.out]; rfl, HU.out⟩
          · have HR := hid (HST.out (HAt.out.2 ⟨⟨d0, fun h => by omega⟩, by omega⟩))
            clear d0
            go_wp2
            refine wp_region_bw (by kernel_rfl) (by kernel_rfl) ?_
            repeat (go_big_quiet_step (first
              | (go_at_call 42; refine bw_same (v := .bool true) (d0' ▸ l1In xs 0 33 _))))
            refine wpQuiet_nil ?_
            intro _ hw'
            obtain ⟨u, rfl⟩ := hw'
            have HU := hid (HB.out.trans (u.bel.mono HB.out.size))
            clear e0 e1 p0
            go_wp2
            exact ⟨⟨m + 1 + 1, by omega, by go_num, HR, HU⟩, by simp [intOf]; omega⟩
      · have d0' := decide_eq_false d0
        have HR := hid (HN.out (fun x => d0 (HAt.out.1 x).1.1))
        clear d0
        go_wp2
        refine wp_region_bw (by kernel_rfl) (by kernel_rfl) ?_
        repeat (go_big_quiet_step (first
          | (go_at_call 42; refine bw_same (v := .bool false) (d0' ▸ l1In xs 0 33 _))))
        refine wpQuiet_nil ?_
        intro _ hw'
        obtain ⟨u, rfl⟩ := hw'
        have HU := hid (HB.out.trans (u.bel.mono HB.out.size))
        clear e0 e1
        go_wp2
        go_ret
        exact ⟨by rw [HR.out]; rfl, HU.out⟩
    · obtain rfl : i = l.length := by omega
      have HR := hid ((outsOk_iff l).2 HK.out)
      go_wp2
      go_ret
      exact ⟨by rw [HR.out]; rfl, HB.out⟩

set_option maxRecDepth 100000 in
set_option maxHeartbeats 2000000 in
theorem sZeroPlan (w : World) (cd bk : Int) (tx : ByteArray) (p : Option Addr) (c : Nat) (l : List Ou) (hl : l.length ≤ 1048576) :
    Calls Tryz.prog 75 #[plnV cd bk tx p l.length c] w fun e w' => e = .returned (.bool (zeroPlan cd bk tx l)) ∧ Below w.heap.size w w' := by
  unfold plnV zeroPlan
  generalize l.length = n at *
  obtain ⟨wa, hwa, ez, A0, B0⟩ := one_new w [.int .i64 cd, .int .i64 bk, .string tx, .slice p n c] 66
  have k0 := A0.c 0 rfl
  have k1 := A0.c 1 rfl
  have k2 := A0.c 2 rfl
  have k3 := A0.c 3 rfl
  have HB := hid B0
  clear A0 B0 ez
  by_cases h0 : cd = 0
  · by_cases h1 : bk = 0
    · by_cases h2 : tx = ⟨#[]⟩
      · subst h0; subst h1; subst h2
        by_cases h3 : n = 0
        · subst h3
          go_enter Tryz.func75, Tryz.ntmps75
          go_wp2
          go_ret
          exact ⟨rfl, HB.out⟩
        · rw [decide_eq_false (show ¬ (n : Int) = 0 by omega)]
          have h3' : ((n : Int) == 0) = false := by simpa using h3
          have h3n : (n == 0) = false := by simpa using h3
          go_enter Tryz.func75, Tryz.ntmps75
          go_wp2
          go_ret
          exact ⟨rfl, HB.out⟩
      · rw [decide_eq_false h2]
        subst h0; subst h1
        have h2' := (text_no h2).1
        have h2n := (text_no h2).2
        go_enter Tryz.func75, Tryz.ntmps75
        go_wp2
        go_ret
        exact ⟨rfl, HB.out⟩
    · rw [decide_eq_false h1]
      subst h0
      have h1' := beq_no h1
      go_enter Tryz.func75, Tryz.ntmps75
      go_wp2
      go_ret
      exact ⟨rfl, HB.out⟩
  · rw [decide_eq_false h0]
    have h0' := beq_no h0
    go_enter Tryz.func75, Tryz.ntmps75
    go_wp2
    go_ret
    exact ⟨rfl, HB.out⟩

set_option maxRecDepth 100000 in
set_option maxHeartbeats 2000000 in
theorem iZeroPlan (w : World) (cd bk : Int) (tx : ByteArray) (p : Option Addr) (c : Nat) (l : List Ou) (hl : l.length ≤ 1048576) :
    Calls Tryz.prog 152 #[plnV cd bk tx p l.length c] w fun e w' => e = .returned (.bool (zeroPlan cd bk tx l)) ∧ Below w.heap.size w w' := by
  unfold plnV zeroPlan
  generalize l.length = n at *
  obtain ⟨wa, hwa, ez, A0, B0⟩ := one_new w [.int .i64 cd, .int .i64 bk, .string tx, .slice p n c] 66
  have k0 := A0.c 0 rfl
  have k1 := A0.c 1 rfl
  have k2 := A0.c 2 rfl
  have k3 := A0.c 3 rfl
  have HB := hid B0
  clear A0 B0 ez
  by_cases h0 : cd = 0
  · by_cases h1 : bk = 0
    · by_cases h2 : tx = ⟨#[]⟩
      · subst h0; subst h1; subst h2
        by_cases h3 : n = 0
        · subst h3
          go_enter Tryz.func152, Tryz.ntmps152
          go_wp2
          go_ret
          exact ⟨rfl, HB.out⟩
        · rw [decide_eq_false (show ¬ (n : Int) = 0 by omega)]
          have h3' : ((n : Int) == 0) = false := by simpa using h3
          have h3n : (n == 0) = false := by simpa using h3
          go_enter Tryz.func152, Tryz.ntmps152
          go_wp2
          go_ret
          exact ⟨rfl, HB.out⟩
      · rw [decide_eq_false h2]
        subst h0; subst h1
        have h2' := (text_no h2).1
        have h2n := (text_no h2).2
        go_enter Tryz.func152, Tryz.ntmps152
        go_wp2
        go_ret
        exact ⟨rfl, HB.out⟩
    · rw [decide_eq_false h1]
      subst h0
      have h1' := beq_no h1
      go_enter Tryz.func152, Tryz.ntmps152
      go_wp2
      go_ret
      exact ⟨rfl, HB.out⟩
  · rw [decide_eq_false h0]
    have h0' := beq_no h0
    go_enter Tryz.func152, Tryz.ntmps152
    go_wp2
    go_ret
    exact ⟨rfl, HB.out⟩

end Go.Proofs.YtogebppolkfldaaGreatDoor.Pl

namespace Go.Proofs.YtogebppolkfldaaGreatDoor.Sec
open Go.RowKit Go.Proofs.YtogebppolkfldaaGreatDoor.Mem
set_option linter.unusedVariables false

end Go.Proofs.YtogebppolkfldaaGreatDoor.Sec

namespace Go.Proofs.YtogebppolkfldaaGreatDoor.Rd
open Go.RowKit Go.Proofs.YtogebppolkfldaaGreatDoor.Mem Go.Proofs.YtogebppolkfldaaGreatDoor.Sec
set_option linter.unusedVariables false

/-- A struct out of its own block, and a slot. -/
theorem results_one {P : Program} {fn : Func} {p q : Tmp} {ty : TypeId} (h : fn.results = #[.cell p ty, .tmp q]) (tmps : Array Value) (w : World) (g : Nat) (v b : Value)
    (hp : tmps.getD p undef = .pointer (some ⟨g, 0, none⟩)) (hq : tmps.getD q undef = b) (h1 : (loadVar ty ⟨g, 0, none⟩).run P w = .ok v w) :
    (results fn tmps).run P w = .ok (.tuple #[v, b]) w := by
  rw [results_cell_tmp h, hp, hq]
  simp [asAddr, h1]

/-- What both sides answer. -/
def HostOut (R : ByteArray → Int × Nat) (s : ByteArray) (e : Ending) : Prop := (∃ b x y, readHost R s = some (b, x, y) ∧ e = .returned (.tuple #[hsV b x y, .bool true])) ∨ (readHost R s = none ∧ e = .returned (.tuple #[hsV 0 0 0, .bool false]))

set_option maxRecDepth 100000 in
set_option maxHeartbeats 2000000 in
theorem iReadHost (R : ByteArray → Int × Nat) (hR : Reads R) (s : ByteArray) (hs : s.size ≤ 1048576) (w : World) (u : TypeId) (pv : Value) (hL : Lacks w u pv) (T : Sums w) :
    Calls Tryz.prog 116 #[.string s] w fun e w' => HostOut R s e ∧ Below w.heap.size w w' := by
  have HR := hid hR
  have HL := hid hL
  have HT := hid T
  clear hR hL T
  go_enter Tryz.func116, Tryz.ntmps116
  go_wp2_with fail
  obtain ⟨wc, hwc, ec, A0, K0⟩ := one_new w [.int .i64 0, .int .i64 0, .int .i64 0] 140
  simp only [hwc]
  clear hwc
  have HA := hid A0
  have HK := hid K0
  clear A0 K0
  refine (readKindHost R HR.out s hs wc u pv (HL.out.kept (Kept.of_below (S := fun _ => False) HK.out) (fun x => x)) (HT.out.below HK.out)).mono ?_
  rintro e w1 (⟨b, x, y, hn, rfl, b1⟩ | ⟨hn, rfl, b1⟩)
  · have HN := hid hn
    have HA1 := hid (HA.out.below b1 HA.out.lt)
    have HB1 := hid (HK.out.trans (b1.mono HK.out.size))
    clear hn b1 HA
    have a0 := HA1.out.c 0 rfl
    have a1 := HA1.out.c 1 rfl
    have a2 := HA1.out.c 2 rfl
    have f0 := HA1.out.f 0
    have f1 := HA1.out.f 1
    have f2 := HA1.out.f 2
    have HRA := hid (((HA1.out.set 0 (.int .i64 b)).set 1 (.int .i64 x)).set 2 (.int .i64 y))
    have HBf := hid (below_set (below_set (below_set HB1.out w.heap.size 0 (.int .i64 b) (Nat.le_refl _)) w.heap.size 1 (.int .i64 x) (Nat.le_refl _)) w.heap.size 2 (.int .i64 y) (Nat.le_refl _))
    unfold hsV
    go_wp2
    refine bodyPost_ret (results_one rfl _ _ w.heap.size _ _ rfl rfl (load_row HRA.out Tryz.underlying140 rfl (by kernel_rfl))) rfl ?_
    exact ⟨Or.inl ⟨b, x, y, HN.out, rfl⟩, HBf.out⟩
  · have HN := hid hn
    have HA1 := hid (HA.out.below b1 HA.out.lt)
    have HB1 := hid (HK.out.trans (b1.mono HK.out.size))
    clear hn b1 HA
    have a0 := HA1.out.c 0 rfl
    have a1 := HA1.out.c 1 rfl
    have a2 := HA1.out.c 2 rfl
    have f0 := HA1.out.f 0
    have f1 := HA1.out.f 1
    have f2 := HA1.out.f 2
    have HRA := hid (((HA1.out.set 0 (.int .i64 0)).set 1 (.int .i64 0)).set 2 (.int .i64 0))
    have HBf := hid (below_set (below_set (below_set HB1.out w.heap.size 0 (.int .i64 0) (Nat.le_refl _)) w.heap.size 1 (.int .i64 0) (Nat.le_refl _)) w.heap.size 2 (.int .i64 0) (Nat.le_refl _))
    unfold hsV
    go_wp2
    refine bodyPost_ret (results_one rfl _ _ w.heap.size _ _ rfl rfl (load_row HRA.out Tryz.underlying140 rfl (by kernel_rfl))) rfl ?_
    exact ⟨Or.inr ⟨HN.out, rfl⟩, HBf.out⟩

set_option maxRecDepth 100000 in
set_option maxHeartbeats 2000000 in
theorem sReadHost (R : ByteArray → Int × Nat) (hR : Reads R) (s : ByteArray) (hs : s.size ≤ 1048576) (w : World) :
    Calls Tryz.prog 72 #[.string s] w fun e w' => HostOut R s e ∧ Below w.heap.size w w' := by
  have HR := hid hR
  clear hR
  go_enter Tryz.func72, Tryz.ntmps72
  go_wp2_with fail
  obtain ⟨wc, hwc, ec, A0, K0⟩ := one_new w [.int .i64 0, .int .i64 0, .int .i64 0] 140
  simp only [hwc]
  clear hwc
  have HA := hid A0
  have HK := hid K0
  clear A0 K0
  refine (l4Vars R HR.out s hs 5 3 (by decide) (by decide) wc).mono ?_
  rintro e w1 ⟨hg, b1⟩
  have HA1 := hid (HA.out.below b1 HA.out.lt)
  have HB1 := hid (HK.out.trans (b1.mono HK.out.size))
  clear b1 HA HK
  cases hn : nums R s 5 3 with
  | none =>
    rw [hn] at hg
    obtain ⟨v, rfl⟩ := hg
    have HN : Hid (readHost R s = none) := by unfold Hid readHost; rw [hn]
    clear hn
    have a0 := HA1.out.c 0 rfl
    have a1 := HA1.out.c 1 rfl
    have a2 := HA1.out.c 2 rfl
    have f0 := HA1.out.f 0
    have f1 := HA1.out.f 1
    have f2 := HA1.out.f 2
    have HRA := hid (((HA1.out.set 0 (.int .i64 0)).set 1 (.int .i64 0)).set 2 (.int .i64 0))
    have HBf := hid (below_set (below_set (below_set HB1.out w.heap.size 0 (.int .i64 0) (Nat.le_refl _)) w.heap.size 1 (.int .i64 0) (Nat.le_refl _)) w.heap.size 2 (.int .i64 0) (Nat.le_refl _))
    go_wp2
    refine bodyPost_ret (results_one rfl _ _ w.heap.size _ _ rfl rfl (load_row HRA.out Tryz.underlying140 rfl (by kernel_rfl))) rfl ?_
    exact ⟨Or.inr ⟨HN.out, rfl⟩, HBf.out⟩
  | some p =>
    obtain ⟨l, z⟩ := p
    rw [hn] at hg
    obtain ⟨v, rfl, hI⟩ := hg
    have hl := nums_len hn
    have hbd := nums_bd HR.out (by unfold maxLen; omega) hn
    obtain ⟨a, cap, rfl, hW⟩ := hI.w
    match l, hl with
    | [b, x, y], _ =>
    obtain ⟨g, off, rfl, c0⟩ := hW.sl 0 (by simp)
    obtain ⟨g1, off1, e1, c1⟩ := hW.sl 1 (by simp)
    obtain ⟨g2, off2, e2, c2⟩ := hW.sl 2 (by simp)
    cases e1; cases e2
    replace c0 : w1.cell? ⟨g, off + 0, none⟩ = some (.int .i64 b) := c0
    replace c1 : w1.cell? ⟨g, off + 1, none⟩ = some (.int .i64 x) := c1
    replace c2 : w1.cell? ⟨g, off + 2, none⟩ = some (.int .i64 y) := c2
    rw [Nat.add_zero] at c0
    have hx := hbd x (by simp)
    have HN := hid hn
    have hz : (0 : Int) ≤ (z : Int) := by omega
    simp only [List.length_cons, List.length_nil]
    clear hn hbd hI hW
    go_wp2
    obtain ⟨wz, hwz, ez, Z0, BZ⟩ := one_new w1 [.int .i64 0, .int .i64 0, .int .i64 0] 140
    have hgl : g < w1.heap.size := World.block_lt_of_cell? w1 _ c0
    have d0 := (BZ.cell (p := ⟨g, off, none⟩) hgl).trans c0
    have d1 := (BZ.cell (p := ⟨g, off + 1, none⟩) hgl).trans c1
    have d2 := (BZ.cell (p := ⟨g, off + 2, none⟩) hgl).trans c2
    have z0 := Z0.c 0 rfl
    have z1 := Z0.c 1 rfl
    have z2 := Z0.c 2 rfl
    have y0 := Z0.f 0
    have y1 := Z0.f 1
    have y2 := Z0.f 2
    have HZ := hid (((Z0.set 0 (.int .i64 b)).set 1 (.int .i64 (x - 1))).set 2 (.int .i64 y))
    have HAz := hid ((((HA1.out.below BZ HA1.out.lt).other (p := ⟨w1.heap.size, 0, none⟩) (by have := HA1.out.lt; show w.heap.size ≠ w1.heap.size; omega) (.int .i64 b)).other (p := ⟨w1.heap.size, 1, none⟩) (by have := HA1.out.lt; show w.heap.size ≠ w1.heap.size; omega) (.int .i64 (x - 1))).other (p := ⟨w1.heap.size, 2, none⟩) (by have := HA1.out.lt; show w.heap.size ≠ w1.heap.size; omega) (.int .i64 y))
    have HBz := hid (below_set (below_set (below_set (HB1.out.trans (BZ.mono HB1.out.size)) w1.heap.size 0 (.int .i64 b) HB1.out.size) w1.heap.size 1 (.int .i64 (x - 1)) HB1.out.size) w1.heap.size 2 (.int .i64 y) HB1.out.size)
    clear Z0 BZ
    go_region
    go_wp2_with fail
    obtain ⟨wq, hwq⟩ : ∃ wq, (((wz.setCell ⟨w1.heap.size, 0, none⟩ (.int .i64 b)).setCell ⟨w1.heap.size, 1, none⟩ (.int .i64 (x - 1))).setCell ⟨w1.heap.size, 2, none⟩ (.int .i64 y)).drew = wq := ⟨_, rfl⟩
    have HZq : Hid (Row wq w1.heap.size [.int .i64 b, .int .i64 (x - 1), .int .i64 y]) := by rw [← hwq]; exact HZ.out
    have HAq : Hid (Row wq w.heap.size [.int .i64 0, .int .i64 0, .int .i64 0]) := by rw [← hwq]; exact HAz.out
    have HBq : Hid (Below w.heap.size w wq) := by rw [← hwq]; exact HBz.out.drew
    simp only [hwq]
    clear hwq hwz d0 d1 d2 z0 z1 z2 y0 y1 y2 HZ HAz HBz c0 c1 c2
    refine (sShowHost b (x - 1) y wq).mono ?_
    rintro e w5 ⟨rfl, b5⟩
    have HA5 := hid (HAq.out.below b5 HAq.out.lt)
    have HZ5 := hid (HZq.out.below b5 HZq.out.lt)
    have HB5 := hid (HBq.out.trans (b5.mono HBq.out.size))
    clear b5 HAq HZq HBq
    have a0 := HA5.out.c 0 rfl
    have a1 := HA5.out.c 1 rfl
    have a2 := HA5.out.c 2 rfl
    have f0 := HA5.out.f 0
    have f1 := HA5.out.f 1
    have f2 := HA5.out.f 2
    have q0 := HZ5.out.c 0 rfl
    have q1 := HZ5.out.c 1 rfl
    have q2 := HZ5.out.c 2 rfl
    by_cases hsh : showHost b (x - 1) y = s
    · have HN2 : Hid (readHost R s = some (b, x - 1, y)) := by unfold Hid readHost; rw [HN.out]; simp only []; rw [if_pos hsh]
      have hne := Own.eqS_yes hsh
      generalize showHost b (x - 1) y = sh at *
      have HRA := hid ((((HA5.out).set 0 (.int .i64 b)).set 1 (.int .i64 (x - 1))).set 2 (.int .i64 y))
      have HBf := hid (below_set (below_set (below_set (HB5.out) w.heap.size 0 (.int .i64 b) (Nat.le_refl _)) w.heap.size 1 (.int .i64 (x - 1)) (Nat.le_refl _)) w.heap.size 2 (.int .i64 y) (Nat.le_refl _))
      go_wp2
      refine bodyPost_ret (results_one rfl _ _ w.heap.size _ _ rfl rfl (load_row HRA.out Tryz.underlying140 rfl (by kernel_rfl))) rfl ?_
      exact ⟨Or.inl ⟨b, x - 1, y, HN2.out, rfl⟩, HBf.out⟩
    · have HN2 : Hid (readHost R s = none) := by unfold Hid readHost; rw [HN.out]; simp only []; rw [if_neg hsh]
      have hne := Own.eqS_no hsh
      generalize showHost b (x - 1) y = sh at *
      have HRA := hid ((((HA5.out).set 0 (.int .i64 0)).set 1 (.int .i64 0)).set 2 (.int .i64 0))
      have HBf := hid (below_set (below_set (below_set (HB5.out) w.heap.size 0 (.int .i64 0) (Nat.le_refl _)) w.heap.size 1 (.int .i64 0) (Nat.le_refl _)) w.heap.size 2 (.int .i64 0) (Nat.le_refl _))
      go_wp2
      refine bodyPost_ret (results_one rfl _ _ w.heap.size _ _ rfl rfl (load_row HRA.out Tryz.underlying140 rfl (by kernel_rfl))) rfl ?_
      exact ⟨Or.inr ⟨HN2.out, rfl⟩, HBf.out⟩

end Go.Proofs.YtogebppolkfldaaGreatDoor.Rd

namespace Go.Proofs.YtogebppolkfldaaGreatDoor.Rd
open Go.RowKit Go.Proofs.YtogebppolkfldaaGreatDoor.Mem Go.Proofs.YtogebppolkfldaaGreatDoor.Sec Classical
set_option linter.unusedVariables false

theorem nums_one {R : ByteArray → Int × Nat} {s : ByteArray} {i : Nat} : nums R s i 1 = if (R (rest s i)).2 = 0 then none else some ([(R (rest s i)).1], i + (R (rest s i)).2) := nums_step (l := []) (e := i) rfl

theorem none_row (w : World) (B : Nat) (b : Option Addr) : Ir w B (.slice b 0 0) [] := Or.inl ⟨b, rfl, rfl, rfl⟩

set_option maxRecDepth 100000 in
set_option maxHeartbeats 2000000 in
theorem sReadFrees (R : ByteArray → Int × Nat) (hR : Reads R) (s : ByteArray) (hs : s.size ≤ 1048576) (w : World) :
    Calls Tryz.prog 74 #[.string s] w fun e w' => FreesOut R s w w' e := by
  have HR := hid hR
  have hRV := hR (rest s 5) (by rw [rest_size]; unfold maxLen; omega)
  have hx0 := hRV.x0
  have hle := hRV.le
  rw [rest_size] at hle
  clear hR hRV
  go_enter Tryz.func74, Tryz.ntmps74
  go_wp2_with fail
  refine (l4Vars R HR.out s hs 5 1 (by decide) (by decide) w).mono ?_
  rintro e w1 ⟨hg, b1⟩
  have HB1 := hid b1
  clear b1
  rw [nums_one] at hg
  by_cases hq : (R (rest s 5)).2 = 0
  · rw [if_pos hq] at hg
    obtain ⟨v, rfl⟩ := hg
    have HN : Hid (readFrees R s = none) := by unfold Hid readFrees freesNums; rw [if_pos (Or.inl hq)]
    have HBf := hid (HB1.out.alloc HB1.out.size (.cells #[] 3))
    clear hq hx0 hle
    go_wp2
    go_ret2
    exact ⟨_, [], false, Or.inr ⟨HN.out, rfl, rfl⟩, rfl, none_row _ _ _, HBf.out⟩
  · rw [if_neg hq] at hg
    obtain ⟨v, rfl, hI⟩ := hg
    have HF : Hid (∀ h : ¬ 12 < (R (rest s 5)).1, freesNums R s = nums R s (5 + (R (rest s 5)).2) (R (rest s 5)).1.toNat) := fun h => by
      unfold freesNums; rw [if_neg (by omega)]
    have HF2 : Hid (12 < (R (rest s 5)).1 → freesNums R s = none) := fun h => by unfold freesNums; rw [if_pos (Or.inr h)]
    generalize (R (rest s 5)).1 = x at *
    obtain ⟨a, cap, rfl, hW⟩ := hI.w
    obtain ⟨g, off, rfl, c0⟩ := hW.sl 0 (by simp)
    replace c0 : w1.cell? ⟨g, off + 0, none⟩ = some (.int .i64 x) := c0
    rw [Nat.add_zero] at c0
    have hi2 : 5 + (R (rest s 5)).2 ≤ 1048576 := by omega
    generalize 5 + (R (rest s 5)).2 = i2 at *
    have hi20 : (0 : Int) ≤ (i2 : Int) := by omega
    simp only [List.length_cons, List.length_nil]
    clear hI hW hq
    by_cases hm : 12 < x
    · have HN : Hid (readFrees R s = none) := by unfold Hid readFrees; rw [HF2.out hm]
      have HBf := hid (HB1.out.alloc HB1.out.size (.cells #[] 3))
      go_wp2
      go_ret2
      exact ⟨_, [], false, Or.inr ⟨HN.out, rfl, rfl⟩, rfl, none_row _ _ _, HBf.out⟩
    · have HFn := hid (HF.out hm)
      obtain ⟨n, rfl⟩ : ∃ n : Nat, x = (n : Int) := Int.eq_ofNat_of_zero_le hx0
      rw [Int.toNat_natCast] at HFn
      clear HF HF2 hx0
      go_wp2_with fail
      refine (l4Vars R HR.out s hs i2 n hi2 (by omega) w1).mono ?_
      rintro e w2 ⟨hg, b2⟩
      have HB2 := hid (HB1.out.trans (b2.mono HB1.out.size))
      have hs1 := HB1.out.size
      clear b2 c0
      cases hnu : nums R s i2 n with
      | none =>
        rw [hnu] at hg HFn
        obtain ⟨v2, rfl⟩ := hg
        have HN : Hid (readFrees R s = none) := by unfold Hid readFrees; rw [HFn.out]
        have HBf := hid (HB2.out.alloc HB2.out.size (.cells #[] 3))
        clear hnu
        go_wp2
        go_ret2
        exact ⟨_, [], false, Or.inr ⟨HN.out, rfl, rfl⟩, rfl, none_row _ _ _, HBf.out⟩
      | some p =>
        obtain ⟨l, z⟩ := p
        rw [hnu] at hg HFn
        obtain ⟨v2, rfl, hI⟩ := hg
        have hll : l.length ≤ 12 := by have := nums_len hnu; omega
        have hz0 : (0 : Int) ≤ (z : Int) := by omega
        have HI := hid (RowO.mono hI hs1)
        obtain ⟨a2, cap2, rfl, hW⟩ := hI.w
        have HS2 := hid hW.sl
        clear hnu hI hW
        go_wp2_with fail
        refine (sShowFrees w2 a2 cap2 l HS2.out (by omega)).mono ?_
        rintro e w3 ⟨rfl, b3⟩
        have HB3 := hid (HB2.out.trans (b3.mono HB2.out.size))
        have HI3 := hid (RowO.below HI.out b3)
        clear b3
        by_cases hsh : showFrees l = s
        · have HN2 : Hid (readFrees R s = some l) := by unfold Hid readFrees; rw [HFn.out]; simp only []; rw [if_pos hsh]
          have hne := Own.eqS_yes hsh
          generalize showFrees l = sh at *
          go_wp2
          go_ret2
          exact ⟨_, l, true, Or.inl ⟨HN2.out, rfl⟩, rfl, HI3.out, HB3.out⟩
        · have HN2 : Hid (readFrees R s = none) := by unfold Hid readFrees; rw [HFn.out]; simp only []; rw [if_neg hsh]
          have hne := Own.eqS_no hsh
          have HBf := hid (HB3.out.alloc HB3.out.size (.cells #[] 3))
          generalize showFrees l = sh at *
          go_wp2
          go_ret2
          exact ⟨_, [], false, Or.inr ⟨HN2.out, rfl, rfl⟩, rfl, none_row _ _ _, HBf.out⟩

/-- Two answers are alike. -/
theorem out_alike {R : ByteArray → Int × Nat} {s : ByteArray} {l l' : List Int} {ok ok' : Bool} (h : readFrees R s = some l ∧ ok = true ∨ readFrees R s = none ∧ l = [] ∧ ok = false) (h' : readFrees R s = some l' ∧ ok' = true ∨ readFrees R s = none ∧ l' = [] ∧ ok' = false) : l' = l ∧ ok' = ok := by
  rcases h with ⟨a, b⟩ | ⟨a, b, c⟩ <;> rcases h' with ⟨a', b'⟩ | ⟨a', b', c'⟩
  · rw [a] at a'; cases a'; exact ⟨rfl, by rw [b, b']⟩
  · rw [a] at a'; cases a'
  · rw [a] at a'; cases a'
  · exact ⟨by rw [b, b'], by rw [c, c']⟩

theorem out_len {R : ByteArray → Int × Nat} (hR : Reads R) {s : ByteArray} (hs : s.size ≤ 1048576) {l : List Int} {ok : Bool} (h : readFrees R s = some l ∧ ok = true ∨ readFrees R s = none ∧ l = [] ∧ ok = false) : l.length ≤ 12 := by
  rcases h with ⟨a, _⟩ | ⟨_, b, _⟩
  · unfold readFrees at a
    cases hf : freesNums R s with
    | none => rw [hf] at a; cases a
    | some p =>
      obtain ⟨m, z⟩ := p
      rw [hf] at a
      simp only [] at a
      split at a
      · cases a; exact frees_short_len hR hs hf
      · cases a
  · rw [b]; simp

end Go.Proofs.YtogebppolkfldaaGreatDoor.Rd

namespace Go.Proofs.YtogebppolkfldaaGreatDoor.Rd
open Go.RowKit Go.Proofs.YtogebppolkfldaaGreatDoor.Mem
open Go.Proofs.YtogebppolkfldaaGreatDoor.Var (bl val varS first_low spec_hit spec_none impl_read impl_cut impl_none hit_of hit_shape val_le len_take bl_length)
set_option linter.unusedVariables false

def Tx (s : ByteArray) (p : Int × Nat) : Prop := (p.2 ≠ 0 → varS p.1 = s.extract 0 p.2) ∧ (p.2 ≠ 0 → (bl s).getD 0 0 < 128 → p.1 = (bl s).getD 0 0)

theorem tx_none (s : ByteArray) (x : Int) : Tx s (x, 0) := ⟨fun h => absurd rfl h, fun h => absurd rfl h⟩

theorem val_first (s : ByteArray) (h0 : 0 < s.size) (h : (bl s).getD 0 0 < 128) : val ((bl s).take 1) = (bl s).getD 0 0 := by
  have hl := bl_length s
  unfold bl at *
  cases hd : s.data.toList with
  | nil => rw [hd] at hl; simp at hl; omega
  | cons c t =>
    rw [hd] at h
    simp only [List.map_cons, List.take_succ_cons, List.take_zero, val, List.getD_cons_zero] at *
    omega

theorem rv_ex2 (s : ByteArray) (hs : s.size ≤ maxLen) : ∃ p : Int × Nat, RV s p ∧ Tx s p := by
  rcases first_low s (min 7 s.size) (by omega) with ⟨m, h1, h2, h3⟩ | h1
  · by_cases hz : m = 0 ∨ (bl s).getD m 0 ≠ 0
    · have hv := val_le ((bl s).take (m + 1)) (by have := len_take s (m + 1); omega)
      refine ⟨(val ((bl s).take (m + 1)), m + 1), ⟨fun w => spec_hit s m w hs (by omega) (by omega) (hit_of s m (by omega) (by omega) h2 h3 hz) ?_, fun w => impl_read s m w hs (by omega) (by omega) h2 h3 hz, by show m + 1 ≤ s.size; omega, hv.1, hv.2⟩, fun _ => hit_of s m (by omega) (by omega) h2 h3 hz, fun _ hb => ?_⟩
      · intro k hk1 hkm hh
        obtain ⟨j, rfl, _, g2, _⟩ := hit_shape s k (by omega) (by omega) hh
        have := h2 j (by omega)
        omega
      · have hm : m = 0 := by
          by_cases e : m = 0
          · exact e
          · have := h2 0 (by omega)
            omega
        subst hm
        exact val_first s (by omega) hb
    · have hm : m ≠ 0 := fun e => hz (Or.inl e)
      have hb : (bl s).getD m 0 = 0 := by
        by_cases e : (bl s).getD m 0 = 0
        · exact e
        · exact absurd (Or.inr e) hz
      refine ⟨(0, 0), ⟨fun w => spec_none s w hs ?_, fun w => impl_cut s m w hs (by omega) (by omega) h2 hb hm, Nat.zero_le _, Int.le_refl _, by decide⟩, tx_none _ _⟩
      intro k hk1 hk7 hks hh
      obtain ⟨j, rfl, g1, g2, g3⟩ := hit_shape s k hks hk7 hh
      by_cases hj : j < m
      · have := h2 j hj; omega
      · by_cases e : j = m
        · subst e
          rcases g3 with g3 | g3
          · exact hm g3
          · exact g3 hb
        · have := g1 m (by omega); omega
  · refine ⟨(0, 0), ⟨fun w => spec_none s w hs ?_, fun w => impl_none s w hs (fun j a b => h1 j (by omega)), Nat.zero_le _, Int.le_refl _, by decide⟩, tx_none _ _⟩
    intro k hk1 hk7 hks hh
    obtain ⟨j, rfl, _, g2, _⟩ := hit_shape s k hks hk7 hh
    have := h1 j (by omega)
    omega

theorem reads_ex2 : ∃ R, Reads R ∧ ∀ s : ByteArray, s.size ≤ maxLen → Tx s (R s) := by
  have h : ∀ s : ByteArray, ∃ p : Int × Nat, s.size ≤ maxLen → RV s p ∧ Tx s p := fun s => by
    by_cases hs : s.size ≤ maxLen
    · obtain ⟨p, hp⟩ := rv_ex2 s hs
      exact ⟨p, fun _ => hp⟩
    · exact ⟨(0, 0), fun h => absurd h hs⟩
  obtain ⟨R, hR⟩ := Classical.axiomOfChoice h
  exact ⟨R, fun s hs => (hR s hs).1, fun s hs => (hR s hs).2⟩

/-- What is left behind a head is the tail. -/
theorem rest_app (a b : ByteArray) (n : Nat) (hn : n = a.size) : rest (a ++ b) n = b := by
  subst hn
  unfold rest
  apply ByteArray.ext
  simp
  have e1 : a.data.extract a.data.size (a.data.size + b.data.size) = #[] := by
    apply Array.eq_empty_of_size_eq_zero
    rw [Array.size_extract]
    omega
  have e2 : b.data.extract 0 b.data.size = b.data := Array.extract_size
  show a.data.extract a.data.size (a.data.size + b.data.size) ++ b.data.extract 0 b.data.size = b.data
  rw [e1, e2, Array.empty_append]

end Go.Proofs.YtogebppolkfldaaGreatDoor.Rd

namespace Go.Proofs.YtogebppolkfldaaGreatDoor.Rd
open Go.RowKit Go.Proofs.YtogebppolkfldaaGreatDoor.Mem Go.Proofs.YtogebppolkfldaaGreatDoor.Sec
open Go.Proofs.YtogebppolkfldaaGreatDoor.Var (bl varS)
set_option linter.unusedVariables false

theorem three_steps {R : ByteArray → Int × Nat} {s : ByteArray} {i n : Nat} {x y f : Int} {l : List Int} {z : Nat} (h : nums R s i (n + 3) = some (x :: y :: f :: l, z)) :
    ∃ k1 k2 k3, R (rest s i) = (x, k1) ∧ R (rest s (i + k1)) = (y, k2) ∧ R (rest s (i + k1 + k2)) = (f, k3) ∧ k1 ≠ 0 ∧ k2 ≠ 0 ∧ k3 ≠ 0 := by
  have s1 := nums_step (R := R) (s := s) (i := i) (k := 0) (l := []) (e := i) rfl
  by_cases q1 : (R (rest s i)).2 = 0
  · rw [if_pos q1] at s1
    rw [show n + 3 = (n + 2) + 1 by omega] at h
    have := nums_none (k := 1) s1 (n + 2)
    rw [show 1 + (n + 2) = (n + 2) + 1 by omega] at this
    rw [this] at h
    cases h
  rw [if_neg q1] at s1
  have s2 := nums_step s1
  by_cases q2 : (R (rest s (i + (R (rest s i)).2))).2 = 0
  · rw [if_pos q2] at s2
    have := nums_none (k := 2) s2 (n + 1)
    rw [show 2 + (n + 1) = n + 3 by omega] at this
    rw [this] at h
    cases h
  rw [if_neg q2] at s2
  have s3 := nums_step s2
  by_cases q3 : (R (rest s (i + (R (rest s i)).2 + (R (rest s (i + (R (rest s i)).2))).2))).2 = 0
  · rw [if_pos q3] at s3
    have := nums_none (k := 3) s3 n
    rw [show 3 + n = n + 3 by omega] at this
    rw [this] at h
    cases h
  rw [if_neg q3] at s3
  have h7 := nums_split3 (n := n) s3
  rw [h] at h7
  cases hn : nums R s (i + (R (rest s i)).2 + (R (rest s (i + (R (rest s i)).2))).2 + (R (rest s (i + (R (rest s i)).2 + (R (rest s (i + (R (rest s i)).2))).2))).2) n with
  | none => rw [hn] at h7; cases h7
  | some p =>
    rw [hn] at h7
    simp only [Option.map_some, Option.some.injEq, Prod.mk.injEq, List.cons.injEq] at h7
    obtain ⟨⟨rfl, rfl, rfl, _⟩, _⟩ := h7
    exact ⟨_, _, _, rfl, rfl, rfl, q1, q2, q3⟩

theorem vr_of {x : Int} (h0 : 0 ≤ x) (h1 : x ≤ 562949953421311) : vr x = varS x := by unfold vr; rw [if_pos ⟨h0, h1⟩]

theorem flag_bytes (on : Bool) : ∃ c : UInt8, flag on = ⟨#[c]⟩ ∧ c.toNat ≤ 1 := by
  cases on
  · exact ⟨0, by decide, by decide⟩
  · exact ⟨1, by decide, by decide⟩

theorem no_flag (R : ByteArray → Int × Nat) (hR : Reads R) (hT : ∀ s : ByteArray, s.size ≤ maxLen → Tx s (R s)) (s : ByteArray) (hs : s.size ≤ 1048576) : NoVol R s 5 → readVol R s = none := by
  rintro (h | ⟨x, y, f, l, z, h, hf⟩)
  · unfold readVol; rw [h]
  unfold readVol
  rw [h]
  simp only []
  rw [if_neg]
  intro hsh
  obtain ⟨k1, k2, k3, e1, e2, e3, q1, q2, q3⟩ := three_steps (n := 4) h
  have hb : ∀ i, (rest s i).size ≤ maxLen := fun i => by rw [rest_size]; unfold maxLen; omega
  have r1 := hR _ (hb 5)
  have r2 := hR _ (hb (5 + k1))
  have t1 := (hT _ (hb 5)).1
  have t2 := (hT _ (hb (5 + k1))).1
  have t3 := (hT _ (hb (5 + k1 + k2))).2
  rw [e1] at r1 t1
  rw [e2] at r2 t2
  rw [e3] at t3
  have z1 : (vr x).size = k1 := by rw [vr_of r1.x0 r1.x1, t1 q1]; have := r1.le; simp at this ⊢; omega
  have z2 : (vr y).size = k2 := by rw [vr_of r2.x0 r2.x1, t2 q2]; have := r2.le; simp at this ⊢; omega
  by_cases hv : volOk (x - 1) y (decide (f = 1)) (l.map (· + -1)) = true
  · obtain ⟨c, hc, hc1⟩ := flag_bytes (decide (f = 1))
    rw [← vol_yes hv] at hsh
    unfold summed showLs at hsh
    obtain ⟨A, hA⟩ : ∃ A, Go.Proofs.YtogebppolkfldaaGreatDoor.Fix.fxS (crc (⟨#[118]⟩ ++ (vr (x - 1 + 1) ++ vr y) ++ flag (decide (f = 1)) ++ vrs (-1) (l.map (· + -1)))) 4 = A := ⟨_, rfl⟩
    have hA4 : A.size = 4 := by rw [← hA, Go.Proofs.YtogebppolkfldaaGreatDoor.Fix.fxS_size]
    rw [hA] at hsh
    rw [show x - 1 + 1 = x by omega, hc] at hsh
    generalize vrs (-1) (l.map (· + -1)) = V at hsh
    have hs2 : (A ++ ⟨#[118]⟩ ++ vr x ++ vr y) ++ (⟨#[c]⟩ ++ V) = s := by rw [← hsh]; simp only [ByteArray.append_assoc]
    have hr := rest_app (A ++ ⟨#[118]⟩ ++ vr x ++ vr y) (⟨#[c]⟩ ++ V) (5 + k1 + k2) (by simp only [ByteArray.size_append, hA4, z1, z2]; rfl)
    rw [hs2] at hr
    rw [hr] at t3
    have hg : (bl (⟨#[c]⟩ ++ V)).getD 0 0 = (c.toNat : Int) := by simp [bl]
    rw [hg] at t3
    have := t3 q3 (by omega)
    simp at this
    omega
  · rw [vol_no (by simpa using hv)] at hsh
    have hk := r1.le
    rw [rest_size, ← hsh] at hk
    have h0 : (⟨#[]⟩ : ByteArray).size = 0 := rfl
    rw [h0] at hk
    have : k1 ≤ 0 - 5 := hk
    omega

end Go.Proofs.YtogebppolkfldaaGreatDoor.Rd

namespace Go.Proofs.YtogebppolkfldaaGreatDoor.Rd
open Go.RowKit Go.Proofs.YtogebppolkfldaaGreatDoor.Mem Go.Proofs.YtogebppolkfldaaGreatDoor.Sec
set_option linter.unusedVariables false

/-- A piece at a place: its text, and where it ends. -/
def pieceAt (R : ByteArray → Int × Nat) (s : ByteArray) (i : Nat) : Option (ByteArray × Nat) :=
  if (R (rest s i)).2 = 0 then none
  else if ((rest s (i + (R (rest s i)).2)).size : Int) < (R (rest s i)).1 then none
  else some ((rest s (i + (R (rest s i)).2)).extract 0 (R (rest s i)).1.toNat, i + (R (rest s i)).2 + (R (rest s i)).1.toNat)

theorem pieceAt_size {R : ByteArray → Int × Nat} {s : ByteArray} {i : Nat} {t : ByteArray} {z : Nat} (h : pieceAt R s i = some (t, z)) : t.size ≤ s.size := by
  unfold pieceAt at h
  split at h
  · cases h
  · split at h
    · cases h
    · simp only [Option.some.injEq, Prod.mk.injEq] at h
      rw [← h.1, ByteArray.size_extract, rest_size]
      omega

/-- Outs at a place. -/
def outsAt (R : ByteArray → Int × Nat) (s : ByteArray) (i : Nat) : Nat → Option (List Ou × Nat)
  | 0 => some ([], i)
  | k + 1 => (outsAt R s i k).bind fun p => if (R (rest s p.2)).2 = 0 then none else (pieceAt R s (p.2 + (R (rest s p.2)).2)).map fun q => (p.1 ++ [⟨(R (rest s p.2)).1, q.1⟩], q.2)

theorem outsAt_len {R : ByteArray → Int × Nat} {s : ByteArray} {i : Nat} : ∀ {k : Nat} {l : List Ou} {e : Nat}, outsAt R s i k = some (l, e) → l.length = k ∧ ∀ x ∈ l, x.text.size ≤ s.size
  | 0, l, e, h => by simp [outsAt] at h; obtain ⟨rfl, _⟩ := h; simp
  | k + 1, l, e, h => by
    unfold outsAt at h
    cases hk : outsAt R s i k with
    | none => rw [hk] at h; cases h
    | some p =>
      obtain ⟨l0, e0⟩ := p
      rw [hk] at h
      simp only [Option.bind_some] at h
      split at h
      · cases h
      · cases hp : pieceAt R s (e0 + (R (rest s e0)).2) with
        | none => rw [hp] at h; cases h
        | some q =>
          obtain ⟨t, z⟩ := q
          rw [hp] at h
          simp only [Option.map_some, Option.some.injEq, Prod.mk.injEq] at h
          obtain ⟨rfl, rfl⟩ := h
          have ih := outsAt_len hk
          refine ⟨by simp [ih.1], fun x hx => ?_⟩
          rcases List.mem_append.1 hx with hx | hx
          · exact ih.2 x hx
          · obtain rfl := List.mem_singleton.1 hx
            exact pieceAt_size hp

theorem outsAt_none {R : ByteArray → Int × Nat} {s : ByteArray} {i k : Nat} (h : outsAt R s i k = none) : ∀ n, outsAt R s i (k + n) = none
  | 0 => h
  | n + 1 => by
    show outsAt R s i ((k + n) + 1) = none
    unfold outsAt
    rw [outsAt_none h n]
    rfl

theorem outsAt_step {R : ByteArray → Int × Nat} {s : ByteArray} {i k : Nat} {l : List Ou} {e : Nat} (h : outsAt R s i k = some (l, e)) :
    outsAt R s i (k + 1) = if (R (rest s e)).2 = 0 then none else (pieceAt R s (e + (R (rest s e)).2)).map fun q => (l ++ [⟨(R (rest s e)).1, q.1⟩], q.2) := by
  conv => lhs; unfold outsAt
  rw [h]
  rfl

set_option maxRecDepth 100000 in
set_option maxHeartbeats 1000000 in
/-- A piece: how many bytes, then they; or a part lacks. -/
theorem piece (R : ByteArray → Int × Nat) (hR : Reads R) (s : ByteArray) (hs : s.size ≤ 1048576) (i : Nat) (w : World) (c : Nat) (h : Cur w c (rest s i)) (u : TypeId) (pv : Value) (hL : Lacks w u pv) (hc : 1 < c) :
    Calls Tryz.prog 181 #[.pointer (some ⟨c, 0, none⟩)] w fun e w' => (∃ t z, pieceAt R s i = some (t, z) ∧ e = .returned (.string t) ∧ Moved w w' c (rest s z)) ∨ (pieceAt R s i = none ∧ e = lack u pv ∧ Kept (fun b => b = c) w w') := by
  have HR := hid hR
  have HH := hid h
  have HL := hid hL
  have hx0 : 0 ≤ (R (rest s i)).1 := (hR (rest s i) (by rw [rest_size]; unfold maxLen; omega)).x0
  clear hR h hL
  go_enter Tryz.func181, Tryz.ntmps181
  go_wp2_with fail
  refine (number R HR.out s hs i w c HH.out u pv HL.out).mono ?_
  rintro e w1 (⟨hq, rfl, M1⟩ | ⟨hq, rfl, hw⟩)
  · obtain ⟨n, hn⟩ : ∃ n : Nat, (R (rest s i)).1 = (n : Int) := Int.eq_ofNat_of_zero_le hx0
    have HP : Hid (pieceAt R s i = if ((rest s (i + (R (rest s i)).2)).size : Int) < (n : Int) then none else some ((rest s (i + (R (rest s i)).2)).extract 0 n, i + (R (rest s i)).2 + n)) := by
      unfold Hid pieceAt; rw [if_neg hq, hn, Int.toNat_natCast]
    have HM := hid M1
    have HL1 := hid (HL.out.kept M1.2 (by omega))
    rw [hn]
    clear hq M1 hx0 hn
    generalize i + (R (rest s i)).2 = i2 at *
    have hsz : (rest s i2).size ≤ 1048576 := by rw [rest_size]; omega
    by_cases hlt : ((rest s i2).size : Int) < (n : Int)
    · have HN : Hid (pieceAt R s i = none) := by rw [Hid, HP.out, if_pos hlt]
      go_wp2_with fail
      refine (take_no w1 c (rest s i2) (n : Int) HM.out.1 hlt u pv HL1.out).mono ?_
      rintro e w2 ⟨rfl, hw⟩
      obtain rfl := hw.symm
      unfold lack
      clear hlt
      go_wp2
      exact ⟨rfl, Or.inr ⟨HN.out, rfl, HM.out.2⟩⟩
    · have HN : Hid (pieceAt R s i = some ((rest s i2).extract 0 n, i2 + n)) := by rw [Hid, HP.out, if_neg hlt]
      have HRR := hid (rest_rest s i2 n)
      go_wp2_with fail
      refine (take_yes w1 c (rest s i2) n HM.out.1 (by omega) hsz).mono ?_
      rintro e w2 ⟨rfl, hw⟩
      have HM2 : Hid (Moved w w2 c (rest s (i2 + n))) := HM.out.trans (by rw [hw, HRR.out]; exact moved_set HM.out.1 _)
      clear hw hlt
      generalize (rest s i2).extract 0 n = t at *
      go_wp2
      go_ret
      exact Or.inl ⟨t, i2 + n, HN.out, rfl, HM2.out⟩
  · have HN : Hid (pieceAt R s i = none) := by unfold Hid pieceAt; rw [if_pos hq]
    obtain rfl := hw.symm
    clear hq hw
    unfold lack
    go_wp2
    exact ⟨rfl, Or.inr ⟨HN.out, rfl, Kept.refl _ _⟩⟩

/-- The cells of a list of outs, and a row of them of its own. -/
def oc (l : List Ou) : List Value := l.flatMap Ou.cells
theorem oc_len (l : List Ou) : (oc l).length = l.length * 2 := by
  induction l with
  | nil => rfl
  | cons x l ih => simp only [oc, List.flatMap_cons, List.length_append, List.length_cons] at *; rw [ih]; simp [Ou.cells]; omega
theorem oc_app (l : List Ou) (x : Ou) : oc l ++ x.cells = oc (l ++ [x]) := by simp [oc]
theorem oc_at (l : List Ou) (i : Nat) (h : i < l.length * 2) : (oc l).getD i undef = ocell l i := by
  induction l generalizing i with
  | nil => simp at h
  | cons x l ih =>
    have e : oc (x :: l) = Value.int .i64 x.sec :: .string x.text :: oc l := rfl
    rw [e]
    match i, h with
    | 0, _ => rfl
    | 1, _ => rfl
    | i + 2, h =>
      have := ih i (by simp only [List.length_cons] at h; omega)
      show (oc l).getD i undef = _
      rw [this]
      unfold ocell
      rw [show (i + 2) / 2 = i / 2 + 1 by omega, show (i + 2) % 2 = i % 2 by omega]
      rfl

def Or2 (w : World) (B : Nat) (v : Value) (l : List Ou) : Prop := RowO w B 180 2 v l.length (oc l)

theorem Or2.w {w : World} {B : Nat} {v : Value} {l : List Ou} (h : Or2 w B v l) : ∃ a cap, v = .slice a l.length cap ∧ OusW w B a l := by
  obtain ⟨a, cap, e, hw⟩ := RowO.wr h
  exact ⟨a, cap, e, hw.congr (fun i hi => oc_at l i hi)⟩

theorem infoOut : (Tryz.prog.info? 180).map (fun i => (i.zero, i.size, i.bytes)) = some (some (.agg #[.int .i64 0, .string ByteArray.empty]), 2, 24) := by kernel_rfl

theorem one_out (w : World) (x : Int) (t : ByteArray) : Sl (w.alloc (.cells #[.int .i64 x, .string t] 180)) (some ⟨w.heap.size, 0, none⟩) (1 * 2) (fun i => [Value.int .i64 x, .string t].getD i undef) :=
  (wr_new w _ 180 2 (fun i => [Value.int .i64 x, .string t].getD i undef) (fun i hi => by
    have : i = 0 ∨ i = 1 := by omega
    rcases this with rfl | rfl <;> rfl)).sl

/-- The outs of a journal's text: how many, then they. -/
def outsAll (R : ByteArray → Int × Nat) (s : ByteArray) (i : Nat) : Option (List Ou × Nat) :=
  if (R (rest s i)).2 = 0 ∨ 8 < (R (rest s i)).1 then none else outsAt R s (i + (R (rest s i)).2) (R (rest s i)).1.toNat

set_option maxRecDepth 100000 in
set_option maxHeartbeats 2000000 in
theorem outsParts (R : ByteArray → Int × Nat) (hR : Reads R) (s : ByteArray) (hs : s.size ≤ 1048576) (i : Nat) (w : World) (c : Nat) (h : Cur w c (rest s i)) (u : TypeId) (pv : Value) (hL : Lacks w u pv) (hc : 1 < c) :
    Calls Tryz.prog 168 #[.pointer (some ⟨c, 0, none⟩)] w fun e w' => ((∃ l z a cap, outsAll R s i = some (l, z) ∧ e = .returned (.slice a l.length cap) ∧ Or2 w' w.heap.size (.slice a l.length cap) l) ∨ (outsAll R s i = none ∧ e = lack u pv)) ∧ Kept (fun b => b = c) w w' := by
  have HR := hid hR
  have HH := hid h
  have HL := hid hL
  have hcl := h.lt
  have hx0 : 0 ≤ (R (rest s i)).1 := (hR (rest s i) (by rw [rest_size]; unfold maxLen; omega)).x0
  clear hR h hL
  go_enter Tryz.func168, Tryz.ntmps168
  go_wp2_with fail
  refine (count R HR.out s hs i 8 w c HH.out u pv HL.out hc).mono ?_
  rintro e w1 (⟨hq, hm, rfl, M1⟩ | ⟨hq, rfl, k1⟩)
  · have HF : Hid (outsAll R s i = outsAt R s (i + (R (rest s i)).2) (R (rest s i)).1.toNat) := by
      unfold Hid outsAll; rw [if_neg (by omega)]
    have HM := hid M1
    have hws1 := M1.2.size
    clear M1 hq
    generalize i + (R (rest s i)).2 = i2 at *
    obtain ⟨n, hn⟩ : ∃ n : Nat, (R (rest s i)).1 = (n : Int) := Int.eq_ofNat_of_zero_le hx0
    rw [hn] at HF hm
    rw [Int.toNat_natCast] at HF
    rw [hn]
    clear hn hx0
    go_wp2
    go_loopw [3, 7] (fun v j wr => ∃ (k : Nat) (l : List Ou) (z : Nat), k ≤ n ∧ j = .int .i64 (k : Int) ∧ Hid (outsAt R s i2 k = some (l, z)) ∧ Hid (Or2 wr w.heap.size v l) ∧ Hid (Cur wr c (rest s z)) ∧ Hid (Kept (fun b => b = c) w wr)) (fun _ j _ => n - (intOf j).toNat)
    case atStart => exact ⟨0, [], i2, Nat.zero_le _, rfl, rfl, Or.inl ⟨_, rfl, rfl, rfl⟩, HM.out.1, HM.out.2⟩
    case round =>
      obtain ⟨k, l, z, hk, rfl, HN, HI, HC, HK⟩ := hrel
      have hl : l.length ≤ 8 := by have := (outsAt_len HN.out).1; omega
      obtain ⟨a, cap, rfl, _⟩ := HI.out.w
      have hws := HK.out.size
      by_cases hlt : k < n
      · have HST := hid (outsAt_step HN.out)
        have HLr := hid (HL.out.kept HK.out (by omega))
        go_wp2_with fail
        refine (number R HR.out s hs z wr c HC.out u pv HLr.out).mono ?_
        rintro e w2 (⟨hq, rfl, M2⟩ | ⟨hq, rfl, hw⟩)
        · have HX : Hid (outsAt R s i2 (k + 1) = (pieceAt R s (z + (R (rest s z)).2)).map fun q => (l ++ [⟨(R (rest s z)).1, q.1⟩], q.2)) := by rw [Hid, HST.out, if_neg hq]
          have HM2 := hid M2
          have HL2 := hid (HLr.out.kept M2.2 (by omega))
          have HI2 : Hid (Or2 w2 w.heap.size (.slice a l.length cap) l) := RowO.kept HI.out M2.2 (fun b hb x => by have := (RowO.lt HI.out hb).1; omega)
          have HK2 : Hid (Kept (fun b => b = c) w w2) := (HK.out.trans M2.2).mono (fun b _ x => by rcases x with x | x <;> exact x)
          clear M2 hq HST HLr
          generalize (R (rest s z)).1 = x at *
          generalize z + (R (rest s z)).2 = z2 at *
          go_wp2_with fail
          refine (piece R HR.out s hs z2 w2 c HM2.out.1 u pv HL2.out hc).mono ?_
          rintro e w3 (⟨t, z3, hp, rfl, M3⟩ | ⟨hp, rfl, k3⟩)
          · have HX2 : Hid (outsAt R s i2 (k + 1) = some (l ++ [⟨x, t⟩], z3)) := by rw [Hid, HX.out, hp]; rfl
            have HM3 := hid M3
            have HI3 : Hid (Or2 w3 w.heap.size (.slice a l.length cap) l) := RowO.kept HI2.out M3.2 (fun b hb x => by have := (RowO.lt HI2.out hb).1; omega)
            have HK3 : Hid (Kept (fun b => b = c) w w3) := (HK2.out.trans M3.2).mono (fun b _ x => by rcases x with x | x <;> exact x)
            have hws3 := HK3.out.size
            clear M3 hp HX HI2 HM2 HL2
            have hwb : w.heap.size ≤ (w3.alloc (.cells #[.int .i64 x, .string t] 180)).heap.size := by have := lt_alloc w3 (.cells #[.int .i64 x, .string t] 180); omega
            go_wp2_with (at_builtin; refine wpList_app 64 180 (.agg #[.int .i64 0, .string ByteArray.empty]) 2 24 Tryz.underlying64 infoOut rfl (by decide) (by decide) _ rfl (.tmp 11) (.tmp 16) rfl w.heap.size _ l.length (oc l) rfl (RowO.below HI3.out ((Below.refl _ _).alloc (Nat.le_refl _) _)) ⟨w3.heap.size, 0, none⟩ 1 1 [.int .i64 x, .string t] rfl rfl (one_out w3 x t) (by intro u hu; simp at hu; rcases hu with rfl | rfl <;> rfl) (by omega) hwb ?_; intro v2 w4 r2 kk hi2; obtain ⟨p2, d2, e2, _⟩ := r2.wr; subst e2)
            have hrb : ∀ b, rb (.slice a l.length cap) = some b → w.heap.size ≤ b := fun b hb => (RowO.lt HI3.out hb).1
            have HC2 : Cur w4 c (rest s z3) := cur_kept ((HM3.out.1).below ((Below.refl _ _).alloc (Nat.le_refl _) _)) kk (fun x => by have := hrb c x; omega)
            have HK4 : Kept (fun b => b = c) w w4 := (HK3.out.trans ((Kept.of_below (S := fun _ => False) ((Below.refl _ w3).alloc (Nat.le_refl _) (.cells #[.int .i64 x, .string t] 180))).trans kk)).mono (fun b hb x => by rcases x with x | (x | x); exact x; cases x; (have := hrb b x; omega))
            exact ⟨⟨k + 1, l ++ [⟨x, t⟩], z3, by omega, by go_num, HX2, by unfold Or2; rw [← oc_app, List.length_append]; exact r2, HC2, HK4⟩, by simp [intOf]; omega⟩
          · have HX2 : Hid (outsAll R s i = none) := by
              have hz : outsAt R s i2 (k + 1) = none := by rw [HX.out, hp]; rfl
              have := outsAt_none hz (n - (k + 1))
              rw [Hid, HF.out]
              rwa [show k + 1 + (n - (k + 1)) = n by omega] at this
            have HK3 : Hid (Kept (fun b => b = c) w w3) := (HK2.out.trans k3).mono (fun b _ x => by rcases x with x | x <;> exact x)
            clear hp k3
            unfold lack
            go_wp2
            exact ⟨rfl, Or.inr ⟨HX2.out, rfl⟩, HK3.out⟩
        · have HX2 : Hid (outsAll R s i = none) := by
            have hz : outsAt R s i2 (k + 1) = none := by rw [HST.out, if_pos hq]
            have := outsAt_none hz (n - (k + 1))
            rw [Hid, HF.out]
            rwa [show k + 1 + (n - (k + 1)) = n by omega] at this
          obtain rfl := hw.symm
          clear hq hw
          unfold lack
          go_wp2
          exact ⟨rfl, Or.inr ⟨HX2.out, rfl⟩, HK.out⟩
      · obtain rfl : k = n := by omega
        go_wp2
        go_ret
        exact ⟨Or.inl ⟨l, z, a, cap, HF.out.trans HN.out, rfl, HI.out⟩, HK.out⟩
  · have HX2 : Hid (outsAll R s i = none) := by unfold Hid outsAll; rw [if_pos hq]
    have HK1 := hid k1
    clear hq k1
    unfold lack
    go_wp2
    exact ⟨rfl, Or.inr ⟨HX2.out, rfl⟩, HK1.out⟩

end Go.Proofs.YtogebppolkfldaaGreatDoor.Rd

namespace Go.Proofs.YtogebppolkfldaaGreatDoor.Rd
open Go.RowKit Go.Proofs.YtogebppolkfldaaGreatDoor.Mem Go.Proofs.YtogebppolkfldaaGreatDoor.Sec
set_option linter.unusedVariables false

theorem ir_cells {w : World} {B : Nat} {v : Value} {l : List Int} (h : Ir w B v l) (h0 : 0 < l.length) : ∃ g off cap, v = .slice (some ⟨g, off, none⟩) l.length cap ∧ B ≤ g ∧ g < w.heap.size ∧ ∀ i x, l[i]? = some x → w.cell? ⟨g, off + i, none⟩ = some (.int .i64 x) := by
  obtain ⟨a, cap, rfl, hW⟩ := h.w
  obtain ⟨g, off, rfl, hB, c0, _⟩ := hW 0 h0
  refine ⟨g, off, cap, rfl, hB, World.block_lt_of_cell? w _ c0, fun i x hi => ?_⟩
  obtain ⟨hi8, hv⟩ := List.getElem?_eq_some_iff.1 hi
  obtain ⟨g1, off1, e1, _, c1, _⟩ := hW i hi8
  cases e1
  rw [c1, ← hv]
  simp [List.getD, List.getElem?_eq_getElem hi8]

theorem cell_kept {S : Nat → Prop} {w w' : World} {g o : Nat} {v : Value} (h : w.cell? ⟨g, o, none⟩ = some v) (k : Kept S w w') (hn : ¬ S g) : w'.cell? ⟨g, o, none⟩ = some v := by
  rw [cell_block (p := ⟨g, o, none⟩) (k.block g (World.block_lt_of_cell? w _ h) hn)]; exact h

/-- Of what can't be, anything. -/
theorem dead (f : FuncId) (args : Array Value) (w : World) (v : Value) (hf : False) : Calls Tryz.prog f args w fun e w' => e = .returned v ∧ w' = w := hf.elim

theorem cell_set {w : World} {g o b j : Nat} {v x : Value} (h : w.cell? ⟨g, o, none⟩ = some v) (hn : ¬ g = b) : (w.setCell ⟨b, j, none⟩ x).cell? ⟨g, o, none⟩ = some v := by
  rw [World.cell?_setCell_other _ _ _ _ (fun e => hn (by injection e; simp_all))]
  exact h

theorem cell_set5 {w : World} {g o b : Nat} {v x0 x1 x2 x3 x4 : Value} (h : w.cell? ⟨g, o, none⟩ = some v) (hn : ¬ g = b) : (((((w.setCell ⟨b, 0, none⟩ x0).setCell ⟨b, 1, none⟩ x1).setCell ⟨b, 2, none⟩ x2).setCell ⟨b, 3, none⟩ x3).setCell ⟨b, 4, none⟩ x4).cell? ⟨g, o, none⟩ = some v :=
  cell_set (cell_set (cell_set (cell_set (cell_set h hn) hn) hn) hn) hn

theorem kept_set5 (w : World) (b : Nat) (x0 x1 x2 x3 x4 : Value) : Kept (fun k => k = b) w (((((w.setCell ⟨b, 0, none⟩ x0).setCell ⟨b, 1, none⟩ x1).setCell ⟨b, 2, none⟩ x2).setCell ⟨b, 3, none⟩ x3).setCell ⟨b, 4, none⟩ x4) :=
  (((((kept_set _ _ _ _).trans (kept_set _ _ _ _)).trans (kept_set _ _ _ _)).trans (kept_set _ _ _ _)).trans (kept_set _ _ _ _)).mono (fun k _ h => by rcases h with (((h | h) | h) | h) | h <;> exact h)

set_option maxRecDepth 100000 in
set_option maxHeartbeats 2000000 in
theorem opParts (R : ByteArray → Int × Nat) (hR : Reads R) (s : ByteArray) (hs : s.size ≤ 1048576) (i : Nat) (w : World) (c : Nat) (h : Cur w c (rest s i)) (u : TypeId) (pv : Value) (hL : Lacks w u pv) (hc : 1 < c) :
    Calls Tryz.prog 167 #[.pointer (some ⟨c, 0, none⟩)] w fun e w' =>
      (∃ k v t a tx z z2, nums R s i 4 = some ([k, v, t, a], z) ∧ pieceAt R s z = some (tx, z2) ∧ e = .returned (opV k v t a tx) ∧ Moved w w' c (rest s z2)) ∨
      ((nums R s i 4 = none ∨ ∃ l z, nums R s i 4 = some (l, z) ∧ pieceAt R s z = none) ∧ e = lack u pv ∧ Kept (fun b => b = c) w w') := by
  have HR := hid hR
  have HH := hid h
  have HL := hid hL
  have hlt := h.lt
  clear hR h hL
  go_enter Tryz.func167, Tryz.ntmps167
  go_wp2_with fail
  obtain ⟨wl, hwl, ez, A0, B0⟩ := one_new w [.int .i64 0, .int .i64 0, .int .i64 0, .int .i64 0, .string ⟨#[]⟩] 63
  simp only [hwl]
  have HA := hid A0
  have HKl : Hid (Kept (fun b => b = c) w wl) := (Kept.of_below B0)
  have HLl := hid (HL.out.kept (Kept.of_below (S := fun _ => False) B0) (fun x => x))
  have HHl := hid (HH.out.below B0)
  clear hwl A0 B0
  refine (numbers R HR.out s hs i 4 (by decide) 0 (by decide) wl c HHl.out u pv HLl.out hc).mono ?_
  rintro e w1 ⟨hg, k1⟩
  have HA1 := hid (HA.out.kept k1 (by omega))
  have HL1 := hid (HLl.out.kept k1 (by omega))
  have HK1 : Hid (Kept (fun b => b = c) w w1) := (HKl.out.trans k1).mono (fun b _ x => by rcases x with x | x <;> exact x)
  have hs1 := k1.size
  clear k1 HA HLl
  cases hn : nums R s i 4 with
  | none =>
    rw [hn] at hg
    obtain rfl : e = lack u pv := hg
    have HN := hid hn
    clear hn
    unfold lack
    go_wp2
    exact ⟨rfl, Or.inr ⟨Or.inl HN.out, rfl, HK1.out⟩⟩
  | some p =>
    obtain ⟨l, z⟩ := p
    rw [hn] at hg
    obtain ⟨vv, rfl, hI, hC⟩ := hg
    rw [map_zero] at hI
    have hl := nums_len hn
    obtain ⟨g, off, cap, rfl, hgB, hgl, hcell⟩ := ir_cells hI (by omega)
    match l, hl with
    | [k, v, t, a], hl =>
    have c0 := hcell 0 k rfl
    have c1 := hcell 1 v rfl
    have c2 := hcell 2 t rfl
    have c3 := hcell 3 a rfl
    rw [Nat.add_zero] at c0
    have HN := hid hn
    have HC := hid hC
    have hgc : ¬ g = c := by omega
    clear hn hI hC hcell hl
    have e0 : w1.drew.cell? ⟨g, off, none⟩ = some (.int .i64 k) := c0
    have e1 : w1.drew.cell? ⟨g, off + 1, none⟩ = some (.int .i64 v) := c1
    have e2 : w1.drew.cell? ⟨g, off + 2, none⟩ = some (.int .i64 t) := c2
    have e3 : w1.drew.cell? ⟨g, off + 3, none⟩ = some (.int .i64 a) := c3
    have HE := hid (And.intro e0 (And.intro e1 (And.intro e2 e3)))
    clear e0 e1 e2 e3
    go_wp2_with fail
    have hP := piece R HR.out s hs z w1.drew c HC.out.drew u pv HL1.out.drew hc
    cases hp : pieceAt R s z with
    | none =>
      have hP' : Calls Tryz.prog 181 #[.pointer (some ⟨c, 0, none⟩)] w1.drew fun e w' => e = .panicked [{ v := .iface u pv, recovered := false }] ∧ Kept (fun b => b = c) w1.drew w' := hP.mono (fun e w' hh => by
        rcases hh with ⟨t, z, q, _⟩ | ⟨_, he, hk⟩
        · rw [hp] at q; cases q
        · exact ⟨he, hk⟩)
      have HQ := hid hP'
      have HNP : Hid (nums R s i 4 = none ∨ ∃ l z, nums R s i 4 = some (l, z) ∧ pieceAt R s z = none) := Or.inr ⟨_, z, HN.out, hp⟩
      have HKx : Hid (∀ w3, Kept (fun b => b = c) w1.drew w3 → Kept (fun b => b = c) w w3) := fun w3 k => (HK1.out.trans (kundrew k)).mono (fun b _ x => by rcases x with x | x <;> exact x)
      clear hP hP' hp HN
      have q0 := HA1.out.c 0 rfl
      have q1 := HA1.out.c 1 rfl
      have q2 := HA1.out.c 2 rfl
      have q3 := HA1.out.c 3 rfl
      have q4 := HA1.out.c 4 rfl
      have f0 := HA1.out.f 0
      have f1 := HA1.out.f 1
      have f2 := HA1.out.f 2
      have f3 := HA1.out.f 3
      have f4 := HA1.out.f 4
      go_region_held_law (fun w' => w'.cell? ⟨g, off, none⟩ = some (.int .i64 k) ∧ w'.cell? ⟨g, off + 1, none⟩ = some (.int .i64 v) ∧ w'.cell? ⟨g, off + 2, none⟩ = some (.int .i64 t) ∧ w'.cell? ⟨g, off + 3, none⟩ = some (.int .i64 a))
        (first | with_reducible exact HE.out | exact hf.out.elim)
        ((go_at_call 181; rcases Classical.em (Hid False) with hf | hnf; rotate_left; (refine HQ.out.mono ?_; rintro e w3 ⟨rfl, k3'⟩; exact ⟨rfl, Or.inr ⟨HNP.out, rfl, HKx.out w3 k3'⟩⟩); (refine (dead 181 #[.pointer (some ⟨c, 0, none⟩)] w1.drew (.string ⟨#[]⟩) hf.out).mono ?_; rintro e w3 ⟨rfl, rfl⟩)))
      all_goals exact hf.out.elim
    | some q =>
      obtain ⟨tx, z2⟩ := q
      have hP' : Calls Tryz.prog 181 #[.pointer (some ⟨c, 0, none⟩)] w1.drew fun e w' => e = .returned (.string tx) ∧ Moved w1.drew w' c (rest s z2) := hP.mono (fun e w' hh => by
        rcases hh with ⟨t, z', q, he, hm⟩ | ⟨q, _⟩
        · rw [hp] at q
          simp only [Option.some.injEq, Prod.mk.injEq] at q
          obtain ⟨rfl, rfl⟩ := q
          exact ⟨he, hm⟩
        · rw [hp] at q; cases q)
      have HQ := hid hP'
      have HP := hid hp
      clear hP hP' hp
      have hgA : ¬ g = w.heap.size := by omega
      have hs1' := HK1.out.size
      go_region_held_law (fun w' => w'.cell? ⟨g, off, none⟩ = some (.int .i64 k) ∧ w'.cell? ⟨g, off + 1, none⟩ = some (.int .i64 v) ∧ w'.cell? ⟨g, off + 2, none⟩ = some (.int .i64 t) ∧ w'.cell? ⟨g, off + 3, none⟩ = some (.int .i64 a))
        (first | with_reducible exact HE.out | with_reducible exact HD.out | with_reducible exact ⟨cell_set5 HD.out.1 hgA, cell_set5 HD.out.2.1 hgA, cell_set5 HD.out.2.2.1 hgA, cell_set5 HD.out.2.2.2 hgA⟩)
        ((go_at_call 181; refine HQ.out.mono ?_; rintro e w3 ⟨rfl, M3⟩; have k3 := kundrew M3.2; have HD := hid (And.intro (cell_kept c0 k3 hgc) (And.intro (cell_kept c1 k3 hgc) (And.intro (cell_kept c2 k3 hgc) (cell_kept c3 k3 hgc)))); have RB := HA1.out.kept k3 (by omega); have q0 := RB.c 0 rfl; have q1 := RB.c 1 rfl; have q2 := RB.c 2 rfl; have q3 := RB.c 3 rfl; have q4 := RB.c 4 rfl; have f0 := RB.f 0; have f1 := RB.f 1; have f2 := RB.f 2; have f3 := RB.f 3; have f4 := RB.f 4))
      have hcw : ¬ c = w.heap.size := by omega
      have HRw := hid (((((RB.set 0 (.int .i64 k)).set 1 (.int .i64 v)).set 2 (.int .i64 t)).set 3 (.int .i64 a)).set 4 (.string tx))
      have HM : Hid (Moved w (((((w3.setCell ⟨w.heap.size, 0, none⟩ (.int .i64 k)).setCell ⟨w.heap.size, 1, none⟩ (.int .i64 v)).setCell ⟨w.heap.size, 2, none⟩ (.int .i64 t)).setCell ⟨w.heap.size, 3, none⟩ (.int .i64 a)).setCell ⟨w.heap.size, 4, none⟩ (.string tx)) c (rest s z2)) :=
        ⟨cur_kept M3.1 (kept_set5 w3 w.heap.size _ _ _ _ _) hcw, ((HK1.out.trans k3).trans (kept_set5 w3 w.heap.size _ _ _ _ _)).mono (fun b hb x => by rcases x with (x | x) | x; exact x; exact x; omega)⟩
      clear M3 k3 HD RB q0 q1 q2 q3 q4 f0 f1 f2 f3 f4 c0 c1 c2 c3 HE HQ
      go_wp2
      refine bodyPost_ret (results_row rfl _ _ w.heap.size [.int .i64 k, .int .i64 v, .int .i64 t, .int .i64 a, .string tx] _ rfl HRw.out Tryz.underlying63 rfl (by kernel_rfl)) rfl ?_
      exact Or.inl ⟨k, v, t, a, tx, z, z2, HN.out, HP.out, rfl, HM.out⟩

/-- The parts of a journal's text: the numbers, the text, the outs. -/
def jnAt (R : ByteArray → Int × Nat) (s : ByteArray) : Option (List Int × ByteArray × List Ou) :=
  match nums R s 5 6 with
  | some (l, z) => match pieceAt R s z with
    | some (tx, z1) => match outsAll R s z1 with
      | some (o, _) => some (l, tx, o)
      | none => none
    | none => none
  | none => none

theorem nums_split2 {R : ByteArray → Int × Nat} {s : ByteArray} {i : Nat} : ∀ {n : Nat} {x y : Int} {z : Nat}, nums R s i 2 = some ([x, y], z) → nums R s i (n + 2) = (nums R s z n).map (fun p => (x :: y :: p.1, p.2))
  | 0, x, y, z, h => by rw [h]; rfl
  | n + 1, x, y, z, h => by
    show nums R s i ((n + 2) + 1) = _
    conv => lhs; unfold nums
    rw [nums_split2 (n := n) h]
    conv => rhs; unfold nums
    cases nums R s z n with
    | none => rfl
    | some p =>
      simp only [Option.map_some, Option.bind_some]
      split <;> simp

/-- No journal: a part lacks, or the flag is no flag. -/
def NoJn (R : ByteArray → Int × Nat) (s : ByteArray) : Prop := jnAt R s = none ∨ ∃ x f l z tx o, nums R s 5 6 = some (x :: f :: l, z) ∧ 1 < f ∧ jnAt R s = some (x :: f :: l, tx, o)

theorem jnAt_no1 {R : ByteArray → Int × Nat} {s : ByteArray} (h : nums R s 5 6 = none) : jnAt R s = none := by unfold jnAt; rw [h]
theorem jnAt_no2 {R : ByteArray → Int × Nat} {s : ByteArray} {l : List Int} {z : Nat} (h : nums R s 5 6 = some (l, z)) (h2 : pieceAt R s z = none) : jnAt R s = none := by unfold jnAt; rw [h]; simp only []; rw [h2]
theorem jnAt_no3 {R : ByteArray → Int × Nat} {s : ByteArray} {l : List Int} {z z1 : Nat} {tx : ByteArray} (h : nums R s 5 6 = some (l, z)) (h2 : pieceAt R s z = some (tx, z1)) (h3 : outsAll R s z1 = none) : jnAt R s = none := by unfold jnAt; rw [h]; simp only []; rw [h2]; simp only []; rw [h3]
theorem jnAt_yes {R : ByteArray → Int × Nat} {s : ByteArray} {l : List Int} {z z1 z2 : Nat} {tx : ByteArray} {o : List Ou} (h : nums R s 5 6 = some (l, z)) (h2 : pieceAt R s z = some (tx, z1)) (h3 : outsAll R s z1 = some (o, z2)) : jnAt R s = some (l, tx, o) := by unfold jnAt; rw [h]; simp only []; rw [h2]; simp only []; rw [h3]

theorem noJn_flag {R : ByteArray → Int × Nat} {s : ByteArray} {x : Int} {z : Nat} (h : nums R s 5 1 = some ([x], z)) (hq : (R (rest s z)).2 = 0 ∨ 1 < (R (rest s z)).1) : NoJn R s := by
  have h2 := nums_step h
  by_cases h0 : (R (rest s z)).2 = 0
  · rw [if_pos h0] at h2
    exact Or.inl (jnAt_no1 (nums_none (k := 2) h2 4))
  · rw [if_neg h0] at h2
    have h6 := nums_split2 (n := 4) h2
    have hf : 1 < (R (rest s z)).1 := by rcases hq with q | q; exact absurd q h0; exact q
    cases hn : nums R s (z + (R (rest s z)).2) 4 with
    | none => rw [hn] at h6; exact Or.inl (jnAt_no1 h6)
    | some p =>
      rw [hn] at h6
      have h6' : nums R s 5 6 = some (x :: (R (rest s z)).1 :: p.1, p.2) := h6
      cases hp : pieceAt R s p.2 with
      | none => exact Or.inl (jnAt_no2 h6' hp)
      | some q =>
        obtain ⟨tx, z1⟩ := q
        cases ho : outsAll R s z1 with
        | none => exact Or.inl (jnAt_no3 h6' hp ho)
        | some r =>
          obtain ⟨o, z2⟩ := r
          exact Or.inr ⟨x, _, p.1, p.2, tx, o, h6', hf, jnAt_yes h6' hp ho⟩

end Go.Proofs.YtogebppolkfldaaGreatDoor.Rd

namespace Go.Proofs.YtogebppolkfldaaGreatDoor.Rd
open Go.RowKit Go.Proofs.YtogebppolkfldaaGreatDoor.Mem Go.Proofs.YtogebppolkfldaaGreatDoor.Sec
set_option linter.unusedVariables false

theorem kept_set8 (w : World) (b : Nat) (x0 x1 x2 x3 x4 x5 x6 x7 : Value) : Kept (fun k => k = b) w ((((((((w.setCell ⟨b, 0, none⟩ x0).setCell ⟨b, 1, none⟩ x1).setCell ⟨b, 2, none⟩ x2).setCell ⟨b, 3, none⟩ x3).setCell ⟨b, 4, none⟩ x4).setCell ⟨b, 5, none⟩ x5).setCell ⟨b, 6, none⟩ x6).setCell ⟨b, 7, none⟩ x7) :=
  ((((kept_set5 w b x0 x1 x2 x3 x4).trans (kept_set _ _ _ _)).trans (kept_set _ _ _ _)).trans (kept_set _ _ _ _)).mono (fun k _ h => by rcases h with ((h | h) | h) | h <;> exact h)

theorem cell_set8 {w : World} {g o b : Nat} {v x0 x1 x2 x3 x4 x5 x6 x7 : Value} (h : w.cell? ⟨g, o, none⟩ = some v) (hn : ¬ g = b) : ((((((((w.setCell ⟨b, 0, none⟩ x0).setCell ⟨b, 1, none⟩ x1).setCell ⟨b, 2, none⟩ x2).setCell ⟨b, 3, none⟩ x3).setCell ⟨b, 4, none⟩ x4).setCell ⟨b, 5, none⟩ x5).setCell ⟨b, 6, none⟩ x6).setCell ⟨b, 7, none⟩ x7).cell? ⟨g, o, none⟩ = some v :=
  cell_set (cell_set (cell_set (cell_set5 h hn) hn) hn) hn

theorem row_set8 {w : World} {b : Nat} {y0 y1 y2 y3 y4 y5 y6 y7 : Value} (h : Row w b [y0, y1, y2, y3, y4, y5, y6, y7]) (x0 x1 x2 x3 x4 x5 x6 x7 : Value) : Row ((((((((w.setCell ⟨b, 0, none⟩ x0).setCell ⟨b, 1, none⟩ x1).setCell ⟨b, 2, none⟩ x2).setCell ⟨b, 3, none⟩ x3).setCell ⟨b, 4, none⟩ x4).setCell ⟨b, 5, none⟩ x5).setCell ⟨b, 6, none⟩ x6).setCell ⟨b, 7, none⟩ x7) b [x0, x1, x2, x3, x4, x5, x6, x7] :=
  (((((((h.set 0 x0).set 1 x1).set 2 x2).set 3 x3).set 4 x4).set 5 x5).set 6 x6).set 7 x7

set_option maxRecDepth 100000 in
set_option maxHeartbeats 2000000 in
theorem journalParts (R : ByteArray → Int × Nat) (hR : Reads R) (s : ByteArray) (hs : s.size ≤ 1048576) (w : World) (c : Nat) (h : Cur w c (rest s 5)) (u : TypeId) (pv : Value) (hL : Lacks w u pv) (hc : 1 < c) :
    Calls Tryz.prog 147 #[.pointer (some ⟨c, 0, none⟩)] w fun e w' =>
      ((∃ x f k v t a tx o ad cap, jnAt R s = some ([x, f, k, v, t, a], tx, o) ∧ f ≤ 1 ∧ e = .returned (jnV ⟨x, decide (f = 1), k, v, t, a, tx, o⟩ ad cap) ∧ Or2 w' w.heap.size (.slice ad o.length cap) o) ∨ (NoJn R s ∧ e = lack u pv)) ∧ Kept (fun b => b = c) w w' := by
  have HR := hid hR
  have HH := hid h
  have HL := hid hL
  have hlt := h.lt
  clear hR h hL
  have HN1 := hid (nums_step (R := R) (s := s) (i := 5) (k := 0) (l := []) (e := 5) rfl)
  go_enter Tryz.func147, Tryz.ntmps147
  go_wp2_with fail
  obtain ⟨wl, hwl, ez, A0, B0⟩ := one_new w [.int .i64 0, .bool false, .int .i64 0, .int .i64 0, .int .i64 0, .int .i64 0, .string ⟨#[]⟩, .slice none 0 0] 144
  simp only [hwl]
  have HA := hid A0
  have HKl : Hid (Kept (fun b => b = c) w wl) := (Kept.of_below B0)
  have HLl := hid (HL.out.kept (Kept.of_below (S := fun _ => False) B0) (fun x => x))
  have HHl := hid (HH.out.below B0)
  clear hwl A0 B0
  refine (number R HR.out s hs 5 wl c HHl.out u pv HLl.out).mono ?_
  rintro e w1 (⟨hq, rfl, M1⟩ | ⟨hq, rfl, hw⟩)
  rotate_left
  · have HNJ : Hid (NoJn R s) := Or.inl (jnAt_no1 (nums_none (k := 1) (by rw [HN1.out, if_pos hq]) 5))
    obtain rfl := hw.symm
    clear hq hw
    unfold lack
    go_wp2
    exact ⟨rfl, Or.inr ⟨HNJ.out, rfl⟩, HKl.out⟩
  have HN1' : Hid (nums R s 5 1 = some ([(R (rest s 5)).1], 5 + (R (rest s 5)).2)) := by rw [Hid, HN1.out, if_neg hq]; rfl
  have HC1 := hid M1.1
  have HL1 := hid (HLl.out.kept M1.2 (by omega))
  have HA1 := hid (HA.out.kept M1.2 (by omega))
  have HK1 : Hid (Kept (fun b => b = c) w w1) := (HKl.out.trans M1.2).mono (fun b _ x => by rcases x with x | x <;> exact x)
  have hs1 := M1.2.size
  clear M1 hq HN1 HA HLl
  generalize (R (rest s 5)).1 = x at *
  generalize 5 + (R (rest s 5)).2 = i1 at *
  go_wp2_with fail
  refine (flagOf R HR.out s hs i1 w1 c HC1.out u pv HL1.out hc).mono ?_
  rintro e w2 (⟨hq, hle, rfl, M2⟩ | ⟨hq, rfl, k2⟩)
  rotate_left
  · have HNJ := hid (noJn_flag HN1'.out hq)
    have HK2 : Hid (Kept (fun b => b = c) w w2) := (HK1.out.trans k2).mono (fun b _ x => by rcases x with x | x <;> exact x)
    clear hq k2
    unfold lack
    go_wp2
    exact ⟨rfl, Or.inr ⟨HNJ.out, rfl⟩, HK2.out⟩
  have h2 := nums_step HN1'.out
  rw [if_neg hq] at h2
  have HN6 := hid (nums_split2 (n := 4) h2)
  have HC2 := hid M2.1
  have HL2 := hid (HL1.out.kept M2.2 (by omega))
  have HA2 := hid (HA1.out.kept M2.2 (by omega))
  have HK2 : Hid (Kept (fun b => b = c) w w2) := (HK1.out.trans M2.2).mono (fun b _ x => by rcases x with x | x <;> exact x)
  have hs2 := M2.2.size
  have HFle := hid hle
  clear M2 hq h2 hle HA1 HL1 HC1 HN1'
  generalize (R (rest s i1)).1 = f at *
  generalize i1 + (R (rest s i1)).2 = i2 at *
  go_wp2_with fail
  refine (opParts R HR.out s hs i2 w2 c HC2.out u pv HL2.out hc).mono ?_
  rintro e w3 (⟨k, v, t, a, tx, z, z2, hn4, hpc, rfl, M3⟩ | ⟨hno, rfl, k3⟩)
  rotate_left
  · have HNJ : Hid (NoJn R s) := Or.inl (by
      rcases hno with hn | ⟨l, z, hn, hp⟩
      · exact jnAt_no1 (by rw [HN6.out, hn]; rfl)
      · exact jnAt_no2 (z := z) (by rw [HN6.out, hn]; rfl) hp)
    have HK3 : Hid (Kept (fun b => b = c) w w3) := (HK2.out.trans k3).mono (fun b _ x => by rcases x with x | x <;> exact x)
    clear hno k3
    unfold lack
    go_wp2
    exact ⟨rfl, Or.inr ⟨HNJ.out, rfl⟩, HK3.out⟩
  have HN : Hid (nums R s 5 6 = some ([x, f, k, v, t, a], z)) := by rw [Hid, HN6.out, hn4]; rfl
  have HPc := hid hpc
  have HC3 := hid M3.1
  have HL3 := hid (HL2.out.kept M3.2 (by omega))
  have HA3 := hid (HA2.out.kept M3.2 (by omega))
  have HK3 : Hid (Kept (fun b => b = c) w w3) := (HK2.out.trans M3.2).mono (fun b _ x => by rcases x with x | x <;> exact x)
  have hs3 := M3.2.size
  clear M3 hn4 hpc HN6 HA2 HL2 HC2
  unfold opV
  obtain ⟨w4, hw4, ez4, O0, B4⟩ := one_new w3 [.int .i64 k, .int .i64 v, .int .i64 t, .int .i64 a, .string tx] 63
  have HO := hid O0
  have HA4 := hid (HA3.out.below B4 HA3.out.lt)
  have HC4 := hid (HC3.out.below B4)
  have HL4 := hid (HL3.out.kept (Kept.of_below (S := fun _ => False) B4) (fun x => x))
  have HK4 : Hid (Kept (fun b => b = c) w w4) := (HK3.out.trans (Kept.of_below (S := fun _ => False) B4)).mono (fun b _ x => by rcases x with x | x; exact x; cases x)
  have o0 := O0.c 0 rfl
  have o1 := O0.c 1 rfl
  have o2 := O0.c 2 rfl
  have o3 := O0.c 3 rfl
  have o4 := O0.c 4 rfl
  clear O0 B4 HA3 HC3 HL3
  obtain ⟨dn, hdn⟩ : ∃ dn, decide (f = 1) = dn := ⟨_, rfl⟩
  have HDn := hid hdn
  rw [hdn]
  clear hdn
  go_wp2_with fail
  clear hw4
  have HE : Hid (w4.drew.cell? ⟨w3.heap.size, 0, none⟩ = some (.int .i64 k) ∧ w4.drew.cell? ⟨w3.heap.size, 1, none⟩ = some (.int .i64 v) ∧ w4.drew.cell? ⟨w3.heap.size, 2, none⟩ = some (.int .i64 t) ∧ w4.drew.cell? ⟨w3.heap.size, 3, none⟩ = some (.int .i64 a) ∧ w4.drew.cell? ⟨w3.heap.size, 4, none⟩ = some (.string tx)) := ⟨o0, o1, o2, o3, o4⟩
  have hgc : ¬ w3.heap.size = c := by omega
  have hgA : ¬ w3.heap.size = w.heap.size := by omega
  have hP := outsParts R HR.out s hs z2 w4.drew c HC4.out.drew u pv HL4.out.drew hc
  cases hp : outsAll R s z2 with
  | none =>
    have hP' : Calls Tryz.prog 168 #[.pointer (some ⟨c, 0, none⟩)] w4.drew fun e w' => e = .panicked [{ v := .iface u pv, recovered := false }] ∧ Kept (fun b => b = c) w4.drew w' := hP.mono (fun e w' ⟨hh, hk⟩ => by
      rcases hh with ⟨l, z, ad, cap, q, _⟩ | ⟨_, he⟩
      · rw [hp] at q; cases q
      · exact ⟨he, hk⟩)
    have HQ := hid hP'
    have HNJ : Hid (NoJn R s) := Or.inl (jnAt_no3 HN.out HPc.out hp)
    have HKx : Hid (∀ w5, Kept (fun b => b = c) w4.drew w5 → Kept (fun b => b = c) w w5) := fun w5 k => (HK4.out.trans (kundrew k)).mono (fun b _ x => by rcases x with x | x <;> exact x)
    clear hP hP' hp HN
    have q0 := HA4.out.c 0 rfl
    have q1 := HA4.out.c 1 rfl
    have q2 := HA4.out.c 2 rfl
    have q3 := HA4.out.c 3 rfl
    have q4 := HA4.out.c 4 rfl
    have q5 := HA4.out.c 5 rfl
    have q6 := HA4.out.c 6 rfl
    have q7 := HA4.out.c 7 rfl
    have f0 := HA4.out.f 0
    have f1 := HA4.out.f 1
    have f2 := HA4.out.f 2
    have f3 := HA4.out.f 3
    have f4 := HA4.out.f 4
    have f5 := HA4.out.f 5
    have f6 := HA4.out.f 6
    have f7 := HA4.out.f 7
    go_region_held_law (fun w' => w'.cell? ⟨w3.heap.size, 0, none⟩ = some (.int .i64 k) ∧ w'.cell? ⟨w3.heap.size, 1, none⟩ = some (.int .i64 v) ∧ w'.cell? ⟨w3.heap.size, 2, none⟩ = some (.int .i64 t) ∧ w'.cell? ⟨w3.heap.size, 3, none⟩ = some (.int .i64 a) ∧ w'.cell? ⟨w3.heap.size, 4, none⟩ = some (.string tx))
      (first | with_reducible exact HE.out | exact hf.out.elim)
      ((go_at_call 168; rcases Classical.em (Hid False) with hf | hnf; rotate_left; (refine HQ.out.mono ?_; rintro e w5 ⟨rfl, k5'⟩; exact ⟨rfl, Or.inr ⟨HNJ.out, rfl⟩, HKx.out w5 k5'⟩); (refine (dead 168 #[.pointer (some ⟨c, 0, none⟩)] w4.drew (.slice none 0 0) hf.out).mono ?_; rintro e w5 ⟨rfl, rfl⟩)))
    all_goals exact hf.out.elim
  | some q =>
    obtain ⟨o, z3⟩ := q
    have hP' : Calls Tryz.prog 168 #[.pointer (some ⟨c, 0, none⟩)] w4.drew fun e w' => ∃ ad cap, e = .returned (.slice ad o.length cap) ∧ Or2 w' w4.heap.size (.slice ad o.length cap) o ∧ Kept (fun b => b = c) w4.drew w' := hP.mono (fun e w' ⟨hh, hk⟩ => by
      rcases hh with ⟨l, z, ad, cap, q, he, ho⟩ | ⟨q, _⟩
      · rw [hp] at q
        simp only [Option.some.injEq, Prod.mk.injEq] at q
        obtain ⟨rfl, rfl⟩ := q
        exact ⟨ad, cap, he, ho, hk⟩
      · rw [hp] at q; cases q)
    have HQ := hid hP'
    have HJ := hid (jnAt_yes HN.out HPc.out hp)
    clear hP hP' hp HN HPc
    go_region_held_law (fun w' => w'.cell? ⟨w3.heap.size, 0, none⟩ = some (.int .i64 k) ∧ w'.cell? ⟨w3.heap.size, 1, none⟩ = some (.int .i64 v) ∧ w'.cell? ⟨w3.heap.size, 2, none⟩ = some (.int .i64 t) ∧ w'.cell? ⟨w3.heap.size, 3, none⟩ = some (.int .i64 a) ∧ w'.cell? ⟨w3.heap.size, 4, none⟩ = some (.string tx))
      (first | with_reducible exact HE.out | with_reducible exact HD.out | with_reducible exact ⟨cell_set8 HD.out.1 hgA, cell_set8 HD.out.2.1 hgA, cell_set8 HD.out.2.2.1 hgA, cell_set8 HD.out.2.2.2.1 hgA, cell_set8 HD.out.2.2.2.2 hgA⟩)
      ((go_at_call 168; refine HQ.out.mono ?_; rintro e w5 ⟨ad, cap, rfl, hO5, k5'⟩; have k5 := kundrew k5'; have HD := hid (And.intro (cell_kept o0 k5 hgc) (And.intro (cell_kept o1 k5 hgc) (And.intro (cell_kept o2 k5 hgc) (And.intro (cell_kept o3 k5 hgc) (cell_kept o4 k5 hgc))))); have RB := HA4.out.kept k5 (by omega); have q0 := RB.c 0 rfl; have q1 := RB.c 1 rfl; have q2 := RB.c 2 rfl; have q3 := RB.c 3 rfl; have q4 := RB.c 4 rfl; have q5 := RB.c 5 rfl; have q6 := RB.c 6 rfl; have q7 := RB.c 7 rfl; have f0 := RB.f 0; have f1 := RB.f 1; have f2 := RB.f 2; have f3 := RB.f 3; have f4 := RB.f 4; have f5 := RB.f 5; have f6 := RB.f 6; have f7 := RB.f 7))
    have hs4 : w.heap.size < w4.heap.size := by omega
    have HRw := hid (row_set8 RB (.int .i64 x) (.bool dn) (.int .i64 k) (.int .i64 v) (.int .i64 t) (.int .i64 a) (.string tx) (.slice ad o.length cap))
    have HKf := hid (((HK4.out.trans k5).trans (kept_set8 w5 w.heap.size (.int .i64 x) (.bool dn) (.int .i64 k) (.int .i64 v) (.int .i64 t) (.int .i64 a) (.string tx) (.slice ad o.length cap))).mono (T := fun b => b = c) (fun b hb x => by rcases x with (x | x) | x; exact x; exact x; omega))
    have HOf := hid (RowO.mono (RowO.kept hO5 (kept_set8 w5 w.heap.size (.int .i64 x) (.bool dn) (.int .i64 k) (.int .i64 v) (.int .i64 t) (.int .i64 a) (.string tx) (.slice ad o.length cap)) (fun b hb x => by have := (RowO.lt hO5 hb).1; omega)) (Nat.le_of_lt hs4))
    clear k5 k5' HD RB q0 q1 q2 q3 q4 q5 q6 q7 f0 f1 f2 f3 f4 f5 f6 f7 o0 o1 o2 o3 o4 HE HQ hO5
    go_wp2
    refine bodyPost_ret (results_row rfl _ _ w.heap.size [.int .i64 x, .bool dn, .int .i64 k, .int .i64 v, .int .i64 t, .int .i64 a, .string tx, .slice ad o.length cap] _ rfl HRw.out Tryz.underlying144 rfl (by kernel_rfl)) rfl ?_
    refine ⟨Or.inl ⟨x, f, k, v, t, a, tx, o, ad, cap, HJ.out, HFle.out, ?_, HOf.out⟩, HKf.out⟩
    rw [HDn.out]; rfl

end Go.Proofs.YtogebppolkfldaaGreatDoor.Rd

namespace Go.Proofs.YtogebppolkfldaaGreatDoor.Rd
open Go.RowKit Go.Proofs.YtogebppolkfldaaGreatDoor.Mem Go.Proofs.YtogebppolkfldaaGreatDoor.Sec
set_option linter.unusedVariables false

def JZ : Jn := ⟨0, false, 0, 0, 0, 0, ⟨#[]⟩, []⟩

/-- What a journal's sector is read as. -/
def readJn (R : ByteArray → Int × Nat) (s : ByteArray) : Option Jn :=
  match jnAt R s with
  | some ([x, f, k, v, t, a], tx, o) => if Jn.show ⟨x, decide (f = 1), k, v, t, a, tx, o⟩ = s then some ⟨x, decide (f = 1), k, v, t, a, tx, o⟩ else none
  | _ => none

theorem readJn_yes {R : ByteArray → Int × Nat} {s : ByteArray} {x f k v t a : Int} {tx : ByteArray} {o : List Ou} (h : jnAt R s = some ([x, f, k, v, t, a], tx, o)) : readJn R s = if Jn.show ⟨x, decide (f = 1), k, v, t, a, tx, o⟩ = s then some ⟨x, decide (f = 1), k, v, t, a, tx, o⟩ else none := by unfold readJn; rw [h]
theorem readJn_no {R : ByteArray → Int × Nat} {s : ByteArray} (h : jnAt R s = none) : readJn R s = none := by unfold readJn; rw [h]

theorem readJn_short (R : ByteArray → Int × Nat) (hR : Reads R) (s : ByteArray) (h : s.size ≤ 5) (hs : s.size ≤ 1048576) : readJn R s = none := readJn_no (jnAt_no1 (nums_short R hR s h hs 5))

theorem outsAll_len {R : ByteArray → Int × Nat} {s : ByteArray} {i : Nat} {l : List Ou} {z : Nat} (h : outsAll R s i = some (l, z)) : l.length ≤ 8 ∧ ∀ x ∈ l, x.text.size ≤ s.size := by
  unfold outsAll at h
  split at h
  · cases h
  · rename_i hn
    have := outsAt_len h
    exact ⟨by rw [this.1]; omega, this.2⟩

theorem jnAt_small {R : ByteArray → Int × Nat} {s : ByteArray} {l : List Int} {tx : ByteArray} {o : List Ou} (h : jnAt R s = some (l, tx, o)) : tx.size ≤ s.size ∧ o.length ≤ 8 ∧ ∀ x ∈ o, x.text.size ≤ s.size := by
  unfold jnAt at h
  split at h
  · split at h
    · split at h
      · rename_i hp _ _ _ ho
        simp only [Option.some.injEq, Prod.mk.injEq] at h
        obtain ⟨_, rfl, rfl⟩ := h
        exact ⟨pieceAt_size hp, outsAll_len ho⟩
      · cases h
    · cases h
  · cases h

set_option maxRecDepth 100000 in
set_option maxHeartbeats 1000000 in
theorem jcatch_some (p q : Nat) (u : TypeId) (pv : Value) (older : List PanicEntry) (w : World) (a0 a1 a2 a3 a4 a5 a6 a7 b0 : Value) (hp : Row w p [a0, a1, a2, a3, a4, a5, a6, a7]) (hq : Row w q [b0]) (hpq : p ≠ q) :
    CallsD Tryz.prog 166 #[.pointer (some ⟨p, 0, none⟩), .pointer (some ⟨q, 0, none⟩)] (.panicking ({ v := .iface u pv, recovered := false } :: older)) w fun e u' w' =>
      e = .returned (.tuple #[]) ∧ u' = .panicking ({ v := .iface u pv, recovered := true } :: older) ∧ Row w' p [.int .i64 0, .bool false, .int .i64 0, .int .i64 0, .int .i64 0, .int .i64 0, .string ⟨#[]⟩, .slice none 0 0] ∧ Row w' q [.bool false] ∧ Kept (fun b => b = p ∨ b = q) w w' := by
  refine callsD_of_wpS Tryz.func166 rfl fun c₀ cs hu => ?_
  obtain ⟨wl, hwl, ez, Z0, B0⟩ := one_new w [.int .i64 0, .bool false, .int .i64 0, .int .i64 0, .int .i64 0, .int .i64 0, .string ⟨#[]⟩, .slice none 0 0] 144
  have hpl := hp.lt
  have hql := hq.lt
  have P0 := hp.below B0 hp.lt
  have Q0 := hq.below B0 hq.lt
  have z0 := Z0.c 0 rfl
  have z1 := Z0.c 1 rfl
  have z2 := Z0.c 2 rfl
  have z3 := Z0.c 3 rfl
  have z4 := Z0.c 4 rfl
  have z5 := Z0.c 5 rfl
  have z6 := Z0.c 6 rfl
  have z7 := Z0.c 7 rfl
  have p0 := P0.c 0 rfl
  have p1 := P0.c 1 rfl
  have p2 := P0.c 2 rfl
  have p3 := P0.c 3 rfl
  have p4 := P0.c 4 rfl
  have p5 := P0.c 5 rfl
  have p6 := P0.c 6 rfl
  have p7 := P0.c 7 rfl
  have q0 := Q0.c 0 rfl
  have f0 := P0.f 0
  have f1 := P0.f 1
  have f2 := P0.f 2
  have f3 := P0.f 3
  have f4 := P0.f 4
  have f5 := P0.f 5
  have f6 := P0.f 6
  have f7 := P0.f 7
  have g0 := Q0.f 0
  have HP := hid ((row_set8 P0 (.int .i64 0) (.bool false) (.int .i64 0) (.int .i64 0) (.int .i64 0) (.int .i64 0) (.string ⟨#[]⟩) (.slice none 0 0)).other (p := ⟨q, 0, none⟩) (by show p ≠ q; exact hpq) (.bool false))
  have HQ := hid ((Q0.kept (kept_set8 wl p (.int .i64 0) (.bool false) (.int .i64 0) (.int .i64 0) (.int .i64 0) (.int .i64 0) (.string ⟨#[]⟩) (.slice none 0 0)) (fun e => hpq e.symm)).set 0 (.bool false))
  have HK : Hid (Kept (fun b => b = p ∨ b = q) w (((((((((wl.setCell ⟨p, 0, none⟩ (.int .i64 0)).setCell ⟨p, 1, none⟩ (.bool false)).setCell ⟨p, 2, none⟩ (.int .i64 0)).setCell ⟨p, 3, none⟩ (.int .i64 0)).setCell ⟨p, 4, none⟩ (.int .i64 0)).setCell ⟨p, 5, none⟩ (.int .i64 0)).setCell ⟨p, 6, none⟩ (.string ⟨#[]⟩)).setCell ⟨p, 7, none⟩ (.slice none 0 0)).setCell ⟨q, 0, none⟩ (.bool false))) :=
    (((Kept.of_below (S := fun _ => False) B0).trans (kept_set8 wl p (.int .i64 0) (.bool false) (.int .i64 0) (.int .i64 0) (.int .i64 0) (.int .i64 0) (.string ⟨#[]⟩) (.slice none 0 0))).trans (kept_set _ _ _ _)).mono (fun b _ x => by rcases x with (x | x) | x; cases x; exact Or.inl x; exact Or.inr x)
  clear hp hq P0 Q0 Z0 B0
  apply wpS_seq
  apply wpS_region
  simp [wpOpsS, go_sem, recoverD, hu, Tryz.ntmps166, Exit.thenS]
  refine wpS_cond (t := true) (by simp [Act.eval, Array.replicate]) ?_
  simp only [if_true]
  refine wpS_of_wp ?_
  go_wp2
  simp [bodyPostS, results, Tryz.results166]
  exact ⟨HP.out, HQ.out, HK.out⟩

set_option maxRecDepth 100000 in
set_option maxHeartbeats 1000000 in
theorem jcatch_none (p q : Addr) (w : World) :
    CallsD Tryz.prog 166 #[.pointer (some p), .pointer (some q)] .returning w fun e u' w' => e = .returned (.tuple #[]) ∧ u' = .returning ∧ w' = w := by
  refine callsD_of_wpS Tryz.func166 rfl fun c₀ cs hu => ?_
  apply wpS_seq
  apply wpS_region
  simp [wpOpsS, go_sem, recoverD, hu, Tryz.ntmps166, Exit.thenS]
  refine wpS_cond (t := false) (by simp [Act.eval, Array.replicate]) ?_
  simp only [Bool.false_eq_true, if_false]
  refine wpS_of_wp (wp_skip ?_)
  cases c₀
  simp_all [bodyPostS, results, Tryz.results166]

/-- What is read, and what is told of it. -/
def JnIs (R : ByteArray → Int × Nat) (s : ByteArray) (J : Jn) (ok : Bool) : Prop := readJn R s = some J ∧ J.outs.length ≤ 8 ∧ ok = true ∨ readJn R s = none ∧ J = JZ ∧ ok = false

/-- What both sides answer: a list of its own, or none. -/
def JnOut (R : ByteArray → Int × Nat) (s : ByteArray) (w w' : World) (r : Ending) : Prop :=
  ∃ J ad cap ok, JnIs R s J ok ∧ r = .returned (.tuple #[jnV J ad cap, .bool ok]) ∧ Or2 w' w.heap.size (.slice ad J.outs.length cap) J.outs ∧ Below w.heap.size w w'

theorem jnone_row (w : World) (B : Nat) (b : Option Addr) : Or2 w B (.slice b JZ.outs.length 0) JZ.outs := Or.inl ⟨b, rfl, rfl, rfl⟩

set_option maxRecDepth 100000 in
set_option maxHeartbeats 4000000 in
theorem readKindJn (R : ByteArray → Int × Nat) (hR : Reads R) (s : ByteArray) (hs : s.size ≤ 1048576) (hnv : NoJn R s → readJn R s = none) (w : World) (u : TypeId) (pv : Value) (hL : Lacks w u pv) (T : Sums w) :
    Calls Tryz.prog 146 #[.string s, .func (.func 147) #[] #[], .func (.func 148) #[] #[]] w fun e w' => JnOut R s w w' e := by
  have hmf : ∀ (fn : Fn) (first cap : Array Value) (w : World), (Instr.makeFunc fn first cap).run Tryz.prog w = .ok (.func fn first cap) w := fun _ _ _ _ => rfl
  have HR := hid hR
  have HNV := hid hnv
  clear hnv
  have HL := hid hL
  have HT := hid T
  clear hR hL T
  go_enter_defers Tryz.func146, Tryz.ntmps146
  go_wp2_with fail
  obtain ⟨wc, hwc, ec, A0, B0, C0, K0⟩ := three_any w [.int .i64 0, .bool false, .int .i64 0, .int .i64 0, .int .i64 0, .int .i64 0, .string ⟨#[]⟩, .slice none 0 0] [.bool false] [.string s] 144 4 192
  simp only [hwc]
  clear hwc
  have HA := hid A0
  have HBq := hid B0
  have HKc := hid K0
  have HLc := hid (HL.out.kept (Kept.of_below (S := fun _ => False) K0) (fun x => x))
  have HCu : Hid (Cur wc (w.heap.size + 1 + 1) s) := C0
  have hgl := HL.out.lt
  clear A0 B0 C0 K0
  by_cases h5 : (s.size : Int) < 5
  · have HN := hid (readJn_short R HR.out s (by omega) hs)
    refine (take_no wc (w.heap.size + 1 + 1) s 5 HCu.out h5 u pv HLc.out).mono ?_
    rintro e w1 ⟨rfl, hw⟩
    obtain rfl := hw.symm
    unfold lack
    go_wp2
    refine leaves_cons (f := 166) (args := #[.pointer (some ⟨w.heap.size, 0, none⟩), .pointer (some ⟨w.heap.size + 1, 0, none⟩)]) (by simp) (by simp [go_sem]) ?_
    refine (jcatch_some w.heap.size (w.heap.size + 1) u pv [] _ _ _ _ _ _ _ _ _ _ HA.out HBq.out (by omega)).mono ?_
    rintro e u' w2 ⟨rfl, rfl, RA, RB, k2⟩
    refine ⟨_, results_two rfl _ w2 w.heap.size (w.heap.size + 1) _ _ rfl rfl (load_row RA Tryz.underlying144 rfl (by kernel_rfl)) (load_bool RB), ?_⟩
    exact ⟨JZ, none, 0, false, Or.inr ⟨HN.out, rfl, rfl⟩, rfl, jnone_row _ _ _, HKc.out.trans (k2.below HKc.out.size (fun b hb x => by rcases x with x | x <;> omega))⟩
  · have h5n : 5 ≤ s.size := by omega
    have HRR : Hid (s.extract 5 s.size = rest s 5) := rfl
    refine (take_yes wc (w.heap.size + 1 + 1) s 5 HCu.out h5n hs).mono ?_
    rintro e w1 ⟨rfl, hw⟩
    have M1 : Moved wc w1 (w.heap.size + 1 + 1) (rest s 5) := by rw [hw, ← HRR.out]; exact moved_set HCu.out _
    have HA1 := hid (HA.out.kept M1.2 (by omega))
    have HB1 := hid (HBq.out.kept M1.2 (by omega))
    have HL1 := hid (HLc.out.kept M1.2 (by omega))
    have HM1 := hid M1
    clear hw M1
    go_wp2_with fail
    refine (journalParts R HR.out s hs w1 (w.heap.size + 1 + 1) HM1.out.1 u pv HL1.out (by omega)).mono ?_
    rintro e w2 ⟨hg, k2⟩
    have HA2 := hid (HA1.out.kept k2 (by omega))
    have HB2 := hid (HB1.out.kept k2 (by omega))
    have k12 : Kept (fun b => b = w.heap.size + 1 + 1) wc w2 := (HM1.out.2.trans k2).mono (fun b _ x => by rcases x with x | x <;> exact x)
    have HBw : Hid (Below w.heap.size w w2) := HKc.out.trans (k12.below HKc.out.size (fun b hb x => by omega))
    have HT2 := hid (HT.out.below HBw.out)
    have hs2 : w.heap.size + 1 + 1 < w2.heap.size := by have := k12.size; omega
    have hs1 : w.heap.size + 1 + 1 < w1.heap.size := HM1.out.1.lt
    clear k2 k12 HM1 HL1 HA1 HB1
    rcases hg with ⟨x, f, k, v, t, a, tx, o, ad, cap, hn, hf1, rfl, hO⟩ | ⟨hn, rfl⟩
    · have HRd := hid (readJn_yes hn)
      have hsm := jnAt_small hn
      have ho8 := hsm.2.1
      have HSm : Hid (Jn.Small ⟨x, decide (f = 1), k, v, t, a, tx, o⟩) := ⟨Nat.le_trans hsm.1 hs, by show o.length ≤ _; omega, fun y hy => Nat.le_trans (hsm.2.2 y hy) hs⟩
      obtain ⟨dn, hdn⟩ : ∃ dn, decide (f = 1) = dn := ⟨_, rfl⟩
      rw [hdn] at HRd HSm ⊢
      clear hdn hf1 hn hsm
      have HO := hid hO
      have hrb : ∀ b, rb (.slice ad o.length cap) = some b → w1.heap.size ≤ b := fun b hb => (RowO.lt HO.out hb).1
      obtain ⟨ad', cap', ea, hW⟩ := hO.w
      cases ea
      have HS2 := hid (Wr.sl hW)
      clear hO hW
      have HV : Hid (jnV ⟨x, dn, k, v, t, a, tx, o⟩ ad cap = .agg #[.int .i64 x, .bool dn, .int .i64 k, .int .i64 v, .int .i64 t, .int .i64 a, .string tx, .slice ad o.length cap]) := rfl
      rw [HV.out]
      go_wp2_with fail
      obtain ⟨w3, hw3, ez3, D3, B3⟩ := one_new w2 [.int .i64 x, .bool dn, .int .i64 k, .int .i64 v, .int .i64 t, .int .i64 a, .string tx, .slice ad o.length cap] 144
      simp only [hw3]
      have HA3 := hid (HA2.out.below B3 HA2.out.lt)
      have HB3 := hid (HB2.out.below B3 HB2.out.lt)
      have HD3 := hid D3
      have HO3 := hid (RowO.below HO.out B3)
      have HS3 : Hid (Ous w3 ad o) := Sl.below HS2.out B3
      have HBw3 := hid (HBw.out.trans (B3.mono HBw.out.size))
      have HT3 := hid (HT2.out.below B3)
      clear hw3 D3 B3 HA2 HB2 HBw HT2 HO HS2
      refine (iShowJournal w3 ⟨x, dn, k, v, t, a, tx, o⟩ ad cap HS3.out HSm.out HT3.out).mono ?_
      rintro e w4 ⟨rfl, b4⟩
      have HA4 := hid (HA3.out.below b4 HA3.out.lt)
      have HB4 := hid (HB3.out.below b4 HB3.out.lt)
      have HD4 := hid (HD3.out.below b4 HD3.out.lt)
      have HO4 := hid (RowO.below HO3.out b4)
      have HBw4 := hid (HBw3.out.trans (b4.mono HBw3.out.size))
      clear b4 HA3 HB3 HD3 HBw3 HT3 HO3 HS3
      have a0 := HA4.out.c 0 rfl
      have a1 := HA4.out.c 1 rfl
      have a2 := HA4.out.c 2 rfl
      have a3 := HA4.out.c 3 rfl
      have a4 := HA4.out.c 4 rfl
      have a5 := HA4.out.c 5 rfl
      have a6 := HA4.out.c 6 rfl
      have a7 := HA4.out.c 7 rfl
      have fa0 := HA4.out.f 0
      have fa1 := HA4.out.f 1
      have fa2 := HA4.out.f 2
      have fa3 := HA4.out.f 3
      have fa4 := HA4.out.f 4
      have fa5 := HA4.out.f 5
      have fa6 := HA4.out.f 6
      have fa7 := HA4.out.f 7
      have q0 := HB4.out.c 0 rfl
      have d0 := HD4.out.c 0 rfl
      have d1 := HD4.out.c 1 rfl
      have d2 := HD4.out.c 2 rfl
      have d3 := HD4.out.c 3 rfl
      have d4 := HD4.out.c 4 rfl
      have d5 := HD4.out.c 5 rfl
      have d6 := HD4.out.c 6 rfl
      have d7 := HD4.out.c 7 rfl
      have fq := HB4.out.f 0
      by_cases hsh : Jn.show ⟨x, dn, k, v, t, a, tx, o⟩ = s
      · have HN2 : Hid (readJn R s = some ⟨x, dn, k, v, t, a, tx, o⟩) := by rw [Hid, HRd.out, if_pos hsh]
        have hne := Own.eqS_yes hsh
        generalize Jn.show ⟨x, dn, k, v, t, a, tx, o⟩ = sh at *
        have HRA := hid ((row_set8 HA4.out (.int .i64 x) (.bool dn) (.int .i64 k) (.int .i64 v) (.int .i64 t) (.int .i64 a) (.string tx) (.slice ad o.length cap)).other (p := ⟨w.heap.size + 1, 0, none⟩) (by show w.heap.size ≠ w.heap.size + 1; omega) (.bool true))
        have HRB := hid ((HB4.out.kept (kept_set8 w4 w.heap.size (.int .i64 x) (.bool dn) (.int .i64 k) (.int .i64 v) (.int .i64 t) (.int .i64 a) (.string tx) (.slice ad o.length cap)) (by omega)).set 0 (.bool true))
        have HKK : Hid (Kept (fun b => b = w.heap.size ∨ b = w.heap.size + 1) w4 (((((((((w4.setCell ⟨w.heap.size, 0, none⟩ (.int .i64 x)).setCell ⟨w.heap.size, 1, none⟩ (.bool dn)).setCell ⟨w.heap.size, 2, none⟩ (.int .i64 k)).setCell ⟨w.heap.size, 3, none⟩ (.int .i64 v)).setCell ⟨w.heap.size, 4, none⟩ (.int .i64 t)).setCell ⟨w.heap.size, 5, none⟩ (.int .i64 a)).setCell ⟨w.heap.size, 6, none⟩ (.string tx)).setCell ⟨w.heap.size, 7, none⟩ (.slice ad o.length cap)).setCell ⟨w.heap.size + 1, 0, none⟩ (.bool true))) := ((kept_set8 w4 w.heap.size (.int .i64 x) (.bool dn) (.int .i64 k) (.int .i64 v) (.int .i64 t) (.int .i64 a) (.string tx) (.slice ad o.length cap)).trans (kept_set _ _ _ _))
        have HBf := hid (HBw4.out.trans (HKK.out.below HBw4.out.size (fun b hb x => by rcases x with x | x <;> omega)))
        have HIf := hid (RowO.mono (B' := w.heap.size) (RowO.kept HO4.out HKK.out (fun b hb x => by have := hrb b hb; rcases x with x | x <;> omega)) (by omega))
        clear HO4 HBw4 HKK HA4 HB4 HD4 HRd HSm
        go_wp2
        refine leaves_cons (f := 166) (args := #[.pointer (some ⟨w.heap.size, 0, none⟩), .pointer (some ⟨w.heap.size + 1, 0, none⟩)]) (by simp) (by simp [go_sem]) ?_
        refine (jcatch_none ⟨w.heap.size, 0, none⟩ ⟨w.heap.size + 1, 0, none⟩ _).mono ?_
        rintro e u' w5 ⟨rfl, rfl, rfl⟩
        refine ⟨_, results_two rfl _ _ w.heap.size (w.heap.size + 1) _ _ rfl rfl (load_row HRA.out Tryz.underlying144 rfl (by kernel_rfl)) (load_bool HRB.out), ?_⟩
        exact ⟨⟨x, dn, k, v, t, a, tx, o⟩, ad, cap, true, Or.inl ⟨HN2.out, ho8, rfl⟩, rfl, HIf.out, HBf.out⟩
      · have HN2 : Hid (readJn R s = none) := by rw [Hid, HRd.out, if_neg hsh]
        have hne := Own.eqS_no hsh
        generalize Jn.show ⟨x, dn, k, v, t, a, tx, o⟩ = sh at *
        have HRA := hid ((row_set8 HA4.out (.int .i64 0) (.bool false) (.int .i64 0) (.int .i64 0) (.int .i64 0) (.int .i64 0) (.string ⟨#[]⟩) (.slice none 0 0)).other (p := ⟨w.heap.size + 1, 0, none⟩) (by show w.heap.size ≠ w.heap.size + 1; omega) (.bool false))
        have HRB := hid ((HB4.out.kept (kept_set8 w4 w.heap.size (.int .i64 0) (.bool false) (.int .i64 0) (.int .i64 0) (.int .i64 0) (.int .i64 0) (.string ⟨#[]⟩) (.slice none 0 0)) (by omega)).set 0 (.bool false))
        have HKK : Hid (Kept (fun b => b = w.heap.size ∨ b = w.heap.size + 1) w4 (((((((((w4.setCell ⟨w.heap.size, 0, none⟩ (.int .i64 0)).setCell ⟨w.heap.size, 1, none⟩ (.bool false)).setCell ⟨w.heap.size, 2, none⟩ (.int .i64 0)).setCell ⟨w.heap.size, 3, none⟩ (.int .i64 0)).setCell ⟨w.heap.size, 4, none⟩ (.int .i64 0)).setCell ⟨w.heap.size, 5, none⟩ (.int .i64 0)).setCell ⟨w.heap.size, 6, none⟩ (.string ⟨#[]⟩)).setCell ⟨w.heap.size, 7, none⟩ (.slice none 0 0)).setCell ⟨w.heap.size + 1, 0, none⟩ (.bool false))) := ((kept_set8 w4 w.heap.size (.int .i64 0) (.bool false) (.int .i64 0) (.int .i64 0) (.int .i64 0) (.int .i64 0) (.string ⟨#[]⟩) (.slice none 0 0)).trans (kept_set _ _ _ _))
        have HBf := hid (HBw4.out.trans (HKK.out.below HBw4.out.size (fun b hb x => by rcases x with x | x <;> omega)))
        clear HO4 HBw4 HKK HA4 HB4 HD4 HRd HSm
        go_wp2
        refine leaves_cons (f := 166) (args := #[.pointer (some ⟨w.heap.size, 0, none⟩), .pointer (some ⟨w.heap.size + 1, 0, none⟩)]) (by simp) (by simp [go_sem]) ?_
        refine (jcatch_none ⟨w.heap.size, 0, none⟩ ⟨w.heap.size + 1, 0, none⟩ _).mono ?_
        rintro e u' w5 ⟨rfl, rfl, rfl⟩
        refine ⟨_, results_two rfl _ _ w.heap.size (w.heap.size + 1) _ _ rfl rfl (load_row HRA.out Tryz.underlying144 rfl (by kernel_rfl)) (load_bool HRB.out), ?_⟩
        exact ⟨JZ, none, 0, false, Or.inr ⟨HN2.out, rfl, rfl⟩, rfl, jnone_row _ _ _, HBf.out⟩
    · have HN : Hid (readJn R s = none) := HNV.out hn
      clear hn
      unfold lack
      go_wp2
      refine leaves_cons (f := 166) (args := #[.pointer (some ⟨w.heap.size, 0, none⟩), .pointer (some ⟨w.heap.size + 1, 0, none⟩)]) (by simp) (by simp [go_sem]) ?_
      refine (jcatch_some w.heap.size (w.heap.size + 1) u pv [] _ _ _ _ _ _ _ _ _ _ HA2.out HB2.out (by omega)).mono ?_
      rintro e u' w3 ⟨rfl, rfl, RA, RB, k3⟩
      refine ⟨_, results_two rfl _ w3 w.heap.size (w.heap.size + 1) _ _ rfl rfl (load_row RA Tryz.underlying144 rfl (by kernel_rfl)) (load_bool RB), ?_⟩
      exact ⟨JZ, none, 0, false, Or.inr ⟨HN.out, rfl, rfl⟩, rfl, jnone_row _ _ _, HBw.out.trans (k3.below HBw.out.size (fun b hb x => by rcases x with x | x <;> omega))⟩

/-- A struct out of its own block, and a slot. -/
theorem jresults_one {P : Program} {fn : Func} {p q : Tmp} {ty : TypeId} (h : fn.results = #[.cell p ty, .tmp q]) (tmps : Array Value) (w : World) (g : Nat) (v b : Value)
    (hp : tmps.getD p undef = .pointer (some ⟨g, 0, none⟩)) (hq : tmps.getD q undef = b) (h1 : (loadVar ty ⟨g, 0, none⟩).run P w = .ok v w) :
    (results fn tmps).run P w = .ok (.tuple #[v, b]) w := by
  rw [results_cell_tmp h, hp, hq]
  simp [asAddr, h1]

set_option maxRecDepth 100000 in
set_option maxHeartbeats 2000000 in
theorem iReadJournal (R : ByteArray → Int × Nat) (hR : Reads R) (s : ByteArray) (hs : s.size ≤ 1048576) (hnv : NoJn R s → readJn R s = none) (w : World) (u : TypeId) (pv : Value) (hL : Lacks w u pv) (T : Sums w) :
    Calls Tryz.prog 117 #[.string s] w fun e w' => JnOut R s w w' e := by
  have HR := hid hR
  have HNV := hid hnv
  clear hnv
  have HL := hid hL
  have HT := hid T
  clear hR hL T
  go_enter Tryz.func117, Tryz.ntmps117
  go_wp2_with fail
  obtain ⟨wc, hwc, ec, A0, K0⟩ := one_new w [.int .i64 0, .bool false, .int .i64 0, .int .i64 0, .int .i64 0, .int .i64 0, .string ⟨#[]⟩, .slice none 0 0] 144
  simp only [hwc]
  clear hwc
  have HA := hid A0
  have HK := hid K0
  clear A0 K0
  refine (readKindJn R HR.out s hs HNV.out wc u pv (HL.out.kept (Kept.of_below (S := fun _ => False) HK.out) (fun x => x)) (HT.out.below HK.out)).mono ?_
  rintro r w1 ⟨J, ad, cap, ok, hi, rfl, hO, b1⟩
  have HIs := hid hi
  have HO := hid hO
  have HA1 := hid (HA.out.below b1 HA.out.lt)
  have HB1 := hid (HK.out.trans (b1.mono HK.out.size))
  clear hi hO b1 HA
  have HV : Hid (jnV J ad cap = .agg #[.int .i64 J.txn, .bool J.done, .int .i64 J.kind, .int .i64 J.vol, .int .i64 J.to, .int .i64 J.at_, .string J.text, .slice ad J.outs.length cap]) := rfl
  rw [HV.out]
  have a0 := HA1.out.c 0 rfl
  have a1 := HA1.out.c 1 rfl
  have a2 := HA1.out.c 2 rfl
  have a3 := HA1.out.c 3 rfl
  have a4 := HA1.out.c 4 rfl
  have a5 := HA1.out.c 5 rfl
  have a6 := HA1.out.c 6 rfl
  have a7 := HA1.out.c 7 rfl
  have f0 := HA1.out.f 0
  have f1 := HA1.out.f 1
  have f2 := HA1.out.f 2
  have f3 := HA1.out.f 3
  have f4 := HA1.out.f 4
  have f5 := HA1.out.f 5
  have f6 := HA1.out.f 6
  have f7 := HA1.out.f 7
  have HRA := hid (row_set8 HA1.out (.int .i64 J.txn) (.bool J.done) (.int .i64 J.kind) (.int .i64 J.vol) (.int .i64 J.to) (.int .i64 J.at_) (.string J.text) (.slice ad J.outs.length cap))
  have HKK := hid (kept_set8 w1 w.heap.size (.int .i64 J.txn) (.bool J.done) (.int .i64 J.kind) (.int .i64 J.vol) (.int .i64 J.to) (.int .i64 J.at_) (.string J.text) (.slice ad J.outs.length cap))
  have HBf := hid (HB1.out.trans (HKK.out.below HB1.out.size (fun b hb x => by omega)))
  have HIf := hid (RowO.mono (B' := w.heap.size) (RowO.kept HO.out HKK.out (fun b hb x => by have := (RowO.lt HO.out hb).1; omega)) (by omega))
  clear HKK HO
  go_wp2
  refine bodyPost_ret (jresults_one rfl _ _ w.heap.size _ _ rfl rfl (load_row HRA.out Tryz.underlying144 rfl (by kernel_rfl))) rfl ?_
  exact ⟨J, ad, cap, ok, HIs.out, rfl, HIf.out, HBf.out⟩

end Go.Proofs.YtogebppolkfldaaGreatDoor.Rd

namespace Go.Proofs.YtogebppolkfldaaGreatDoor.Rd
open Go.RowKit Go.Proofs.YtogebppolkfldaaGreatDoor.Mem Go.Proofs.YtogebppolkfldaaGreatDoor.Sec
set_option linter.unusedVariables false

set_option maxRecDepth 100000 in
set_option maxHeartbeats 1000000 in
theorem l4VarsNeg (s : ByteArray) (w : World) :
    Calls Tryz.prog 45 #[.string s, .int .i64 (-1), .int .i64 1] w fun e w' => ∃ v, e = .returned (.tuple #[v, .int .i64 (-1)]) ∧ Below w.heap.size w w' := by
  go_enter Tryz.func45, Tryz.ntmps45
  go_wp2
  go_loopw [1, 8, 9] (fun z v j wr => z = .int .i64 (-1) ∧ j = .int .i64 0 ∧ Hid (Below w.heap.size w wr)) (fun _ _ _ _ => 0)
  case atStart => exact ⟨rfl, rfl, (Below.refl _ _).alloc (Nat.le_refl _) _⟩
  case round =>
    obtain ⟨rfl, rfl, HB⟩ := hrel
    go_wp2
    go_ret2
    exact ⟨_, rfl, HB.out⟩

theorem nums_1 (R : ByteArray → Int × Nat) (s : ByteArray) (i : Nat) : nums R s i 1 = if (R (rest s i)).2 = 0 then none else some ([(R (rest s i)).1], i + (R (rest s i)).2) := by
  rw [nums_step (R := R) (s := s) (i := i) (k := 0) (l := []) (e := i) rfl]
  rfl

theorem ext_rest (s : ByteArray) (i n : Nat) : (rest s i).extract 0 n = s.extract i (min s.size (i + n)) := by
  unfold rest
  apply ByteArray.ext
  simp [ByteArray.data_extract, Array.extract_extract]
  congr 1
  have : s.data.size = s.size := rfl
  omega

/-- What l4Take gives. -/
def TakeGive (e : Ending) : Option (ByteArray × Nat) → Prop
  | some (t, z) => e = .returned (.tuple #[.string t, .int .i64 (z : Int)])
  | none => e = .returned (.tuple #[.string ⟨#[]⟩, .int .i64 (-1)])

set_option maxRecDepth 100000 in
set_option maxHeartbeats 1000000 in
theorem l4TakeNeg (s : ByteArray) (w : World) :
    Calls Tryz.prog 108 #[.string s, .int .i64 (-1)] w fun e w' => TakeGive e none ∧ Below w.heap.size w w' := by
  go_enter Tryz.func108, Tryz.ntmps108
  go_wp2_with fail
  refine (l4VarsNeg s w).mono ?_
  rintro e w1 ⟨v, rfl, b1⟩
  have HB := hid b1
  clear b1
  go_wp2
  go_ret2
  exact ⟨rfl, HB.out⟩

set_option maxRecDepth 100000 in
set_option maxHeartbeats 2000000 in
theorem l4Take (R : ByteArray → Int × Nat) (hR : Reads R) (s : ByteArray) (hs : s.size ≤ 1048576) (i : Nat) (hi : i ≤ 1048576) (w : World) :
    Calls Tryz.prog 108 #[.string s, .int .i64 (i : Int)] w fun e w' => TakeGive e (pieceAt R s i) ∧ Below w.heap.size w w' := by
  have hRV := hR (rest s i) (by rw [rest_size]; unfold maxLen; omega)
  have hle := hRV.le
  have hx0 := hRV.x0
  have hx1 := hRV.x1
  rw [rest_size] at hle
  have HR := hid hR
  clear hR hRV
  go_enter Tryz.func108, Tryz.ntmps108
  go_wp2_with fail
  refine (l4Vars R HR.out s hs i 1 hi (by decide) w).mono ?_
  rintro e w1 ⟨hg, b1⟩
  have HB := hid b1
  clear b1
  by_cases hq : (R (rest s i)).2 = 0
  · have hn : nums R s i 1 = none := by rw [nums_1, if_pos hq]
    have HP : Hid (pieceAt R s i = none) := by unfold Hid pieceAt; rw [if_pos hq]
    rw [hn] at hg
    obtain ⟨v, rfl⟩ := hg
    clear hn hq hle hx0 hx1
    go_wp2
    go_ret2
    exact ⟨by rw [HP.out]; rfl, HB.out⟩
  · have hn : nums R s i 1 = some ([(R (rest s i)).1], i + (R (rest s i)).2) := by rw [nums_1, if_neg hq]
    obtain ⟨n, hnn⟩ : ∃ n : Nat, (R (rest s i)).1 = (n : Int) := Int.eq_ofNat_of_zero_le hx0
    have HP : Hid (pieceAt R s i = if ((rest s (i + (R (rest s i)).2)).size : Int) < (n : Int) then none else some ((rest s (i + (R (rest s i)).2)).extract 0 n, i + (R (rest s i)).2 + n)) := by
      unfold Hid pieceAt; rw [if_neg hq, hnn, Int.toNat_natCast]
    rw [hn, hnn] at hg
    rw [hnn] at hx1
    obtain ⟨v, rfl, hI⟩ := hg
    have hz : i + (R (rest s i)).2 ≤ s.size := by omega
    clear hn hnn hq hle hx0
    generalize i + (R (rest s i)).2 = z at *
    obtain ⟨g, off, cap, rfl, _, hgl, hcell⟩ := ir_cells hI (by simp)
    have c0 := hcell 0 n rfl
    rw [Nat.add_zero] at c0
    have hrs : (rest s z).size = s.size - z := rest_size s z
    rw [hrs] at HP
    clear hI hcell hrs
    have hz0 : ¬ ((z : Int) < 0) := by omega
    have hsub : IntKind.i64.wrap ((s.size : Int) - (z : Int)) = (s.size : Int) - (z : Int) := by rw [IntWalk.i64_left, IntWalk.wrap64_in _ (by omega)]
    by_cases hlt : (s.size : Int) - (z : Int) < (n : Int)
    · have HN : Hid (pieceAt R s i = none) := by rw [Hid, HP.out, if_pos (by omega)]
      go_wp2
      go_ret2
      exact ⟨by rw [HN.out]; rfl, HB.out⟩
    · have HN : Hid (pieceAt R s i = some ((rest s z).extract 0 n, z + n)) := by rw [Hid, HP.out, if_neg (by omega)]
      have hadd : IntKind.i64.wrap ((z : Int) + (n : Int)) = ((z + n : Nat) : Int) := by rw [IntWalk.i64_left, IntWalk.wrap64_in _ (by omega)]; omega
      have hzn : z + n ≤ s.size := by omega
      have hsl : ∀ wx : World, (Instr.slice 9 (.string s) (some (.int .i64 (z : Int))) (some (.int .i64 ((z + n : Nat) : Int))) none).run Tryz.prog wx = .ok (.string ((rest s z).extract 0 n)) wx := fun wx => by
        have h1 := run_slice_string (P := Tryz.prog) wx 9 s .i64 .i64 (z : Int) ((z + n : Nat) : Int) Tryz.underlying9 (by omega) (by omega) (by omega)
        rw [ext_rest, Nat.min_eq_right hzn]
        rw [Int.toNat_natCast, Int.toNat_natCast] at h1
        exact h1
      generalize (rest s z).extract 0 n = tx at *
      obtain ⟨y, hy⟩ : ∃ y : Nat, y = z + n := ⟨_, rfl⟩
      rw [← hy] at HN hadd hsl
      have hy0 : ¬ ((y : Int) < 0) := by omega
      clear HP hlt hy hx1
      go_wp2
      go_region
      all_goals (go_wp2; go_ret2; exact ⟨by rw [HN.out]; rfl, HB.out.drew⟩)

end Go.Proofs.YtogebppolkfldaaGreatDoor.Rd

namespace Go.Proofs.YtogebppolkfldaaGreatDoor.Rd
open Go.RowKit Go.Proofs.YtogebppolkfldaaGreatDoor.Mem Go.Proofs.YtogebppolkfldaaGreatDoor.Sec
set_option linter.unusedVariables false

/-- 'append' on an owned row, as one step of a region that draws its order. -/
theorem step_app_jn {P : Program} (t e : TypeId) (z : Value) (k bytes : Nat) (ht : P.underlying t = some (.slice e)) (hinfo : (P.info? e).map (fun i => (i.zero, i.size, i.bytes)) = some (some z, k, bytes)) (hzs : z.cells.size = k) (hk : 0 < k) (hby : bytes ≤ 1048576)
    {ops : Array Oper} {o : Oper} {a : Act} {w : World} {K : Act → World → Prop} {Q : Exit → Act → World → Prop} {E : Prop} (hgd : o.guard = none) (s x : Operand)
    (ho : o.op = .call { callee := .builtin .append, args := #[s, x], argTypes := #[t, t] })
    (B : Nat) (v : Value) (n : Nat) (xs : List Value) (hs : a.eval s = v) (h : RowO w B e k v n xs) (ad : Addr) (m c : Nat) (news : List Value) (hx : a.eval x = .slice (some ad) m c) (hl : news.length = m * k) (hS : Sl w (some ad) (m * k) (fun i => news.getD i undef)) (h1 : ∀ u ∈ news, u.oneCell' = true)
    (hm : n + m ≤ 1048576) (hB : B ≤ w.heap.size)
    (hK : ∀ v' w', RowO w' B e k v' (n + m) (xs ++ news) → Kept (fun b => rb v = some b) w w' → K (a.put o.dst v') w') :
    if Region.wanted o (yielded ops a.tmps) = true then Oper.wp P o a w K Q else E := by
  have hw : Region.wanted o (yielded ops a.tmps) = true := by simp [Region.wanted, hgd]
  rw [if_pos hw]
  obtain ⟨v', w', hr, h2, h3, h4⟩ := run_app (P := P) w B t o.type e z k bytes ht hinfo hzs hk v n xs h ad m c news hl hS h1 hm hby hB
  unfold Oper.wp execOp
  simp only [ho, resolve, invoke, builtin, Sem.run_bind, Sem.run_pure, Result.andThen_ok, List.map_toArray, List.map_cons, List.map_nil, hs, hx, hr]
  exact hK v' w' h2 h3

/-- A journal under way: its box at G, its list of its own behind it. -/
structure JnWay (w1 wr : World) (G : Nat) (x : Int) (dn : Bool) (k v t a : Int) (tx : ByteArray) (p : Option Addr) (d : Nat) (l : List Ou) : Prop where
  box : Row wr G [.int .i64 x, .bool dn, .int .i64 k, .int .i64 v, .int .i64 t, .int .i64 a, .string tx, .slice p l.length d]
  row : Or2 wr (G + 1) (.slice p l.length d) l
  bel : Below G w1 wr
  sz : G + 1 ≤ wr.heap.size

theorem JnWay.move {w1 wr : World} {G : Nat} {x : Int} {dn : Bool} {k v t a : Int} {tx : ByteArray} {p : Option Addr} {d : Nat} {l : List Ou} {w2 : World} (h : JnWay w1 wr G x dn k v t a tx p d l) (b : Below wr.heap.size wr w2) : JnWay w1 w2 G x dn k v t a tx p d l :=
  ⟨h.box.below b h.box.lt, RowO.below h.row b, h.bel.trans (b.mono (by have := h.sz; omega)), Nat.le_trans h.sz b.size⟩

theorem JnWay.rowA {w1 wr : World} {G : Nat} {x : Int} {dn : Bool} {k v t a : Int} {tx : ByteArray} {p : Option Addr} {d : Nat} {l : List Ou} (h : JnWay w1 wr G x dn k v t a tx p d l) (y : Int) (s : ByteArray) :
    RowO ((wr.drew).alloc (.cells #[.int .i64 y, .string s] 180)) (G + 1) 180 2 (.slice p l.length d) l.length (oc l) :=
  RowO.below h.row ⟨rfl, rfl, rfl, by simp, fun k hk => heap_alloc_old wr.drew _ hk⟩

theorem JnWay.szA {w1 wr : World} {G : Nat} {x : Int} {dn : Bool} {k v t a : Int} {tx : ByteArray} {p : Option Addr} {d : Nat} {l : List Ou} (h : JnWay w1 wr G x dn k v t a tx p d l) (y : Int) (s : ByteArray) : G + 1 ≤ ((wr.drew).alloc (.cells #[.int .i64 y, .string s] 180)).heap.size := by
  have := h.sz
  simp
  omega

theorem JnWay.after {w1 wr : World} {G : Nat} {x : Int} {dn : Bool} {k v t a : Int} {tx : ByteArray} {p : Option Addr} {d : Nat} {l : List Ou} {w' : World} {y : Int} {s : ByteArray} (h : JnWay w1 wr G x dn k v t a tx p d l)
    (kk : Kept (fun b => rb (.slice p l.length d) = some b) ((wr.drew).alloc (.cells #[.int .i64 y, .string s] 180)) w') : Row w' G [.int .i64 x, .bool dn, .int .i64 k, .int .i64 v, .int .i64 t, .int .i64 a, .string tx, .slice p l.length d] := by
  have hal : Below wr.heap.size wr ((wr.drew).alloc (.cells #[.int .i64 y, .string s] 180)) := ⟨rfl, rfl, rfl, by simp, fun k hk => heap_alloc_old wr.drew _ hk⟩
  have hnb : ¬ rb (.slice p l.length d) = some G := fun e => by have := (RowO.lt h.row e).1; omega
  exact (h.box.below hal h.box.lt).kept kk hnb

theorem JnWay.step {w1 wr : World} {G : Nat} {x : Int} {dn : Bool} {k v t a : Int} {tx : ByteArray} {p : Option Addr} {d : Nat} {l : List Ou} {w' : World} {p' : Option Addr} {d' : Nat} {y : Int} {s : ByteArray} (h : JnWay w1 wr G x dn k v t a tx p d l)
    (r : RowO w' (G + 1) 180 2 (.slice p' (l.length + 1) d') (l.length + 1) (oc l ++ [.int .i64 y, .string s])) (kk : Kept (fun b => rb (.slice p l.length d) = some b) ((wr.drew).alloc (.cells #[.int .i64 y, .string s] 180)) w') :
    JnWay w1 (w'.setCell ⟨G, 7, none⟩ (.slice p' (l.length + 1) d')) G x dn k v t a tx p' d' (l ++ [⟨y, s⟩]) := by
  have hal : Below wr.heap.size wr ((wr.drew).alloc (.cells #[.int .i64 y, .string s] 180)) := ⟨rfl, rfl, rfl, by simp, fun k hk => heap_alloc_old wr.drew _ hk⟩
  have b1 := (h.after kk).set 7 (.slice p' (l.length + 1) d')
  have hl : (l ++ [(⟨y, s⟩ : Ou)]).length = l.length + 1 := by simp
  refine ⟨?_, ?_, ?_, ?_⟩
  · rw [hl]; exact b1
  · have r2 : RowO (w'.setCell ⟨G, 7, none⟩ (.slice p' (l.length + 1) d')) (G + 1) 180 2 (.slice p' (l.length + 1) d') (l.length + 1) (oc l ++ [.int .i64 y, .string s]) :=
      RowO.kept r (kept_set w' G 7 _) (fun b hb e => by subst e; have := (RowO.lt r hb).1; omega)
    unfold Or2
    rw [hl, ← oc_app]
    exact r2
  · have k0 : Below G wr w' := by
      have k1 : Below G wr ((wr.drew).alloc (.cells #[.int .i64 y, .string s] 180)) := hal.mono (by have := h.sz; omega)
      exact k1.trans (kk.below (by have := h.sz; have := hal.size; omega) (fun b hb e => by have := (RowO.lt h.row e).1; omega))
    exact below_set (h.bel.trans k0) G 7 _ (Nat.le_refl _)
  · have := h.sz
    have := hal.size
    have := kk.size
    simp
    omega

theorem jn_start (w1 : World) (x : Int) (dn : Bool) (k v t a : Int) (tx : ByteArray) : JnWay w1 ((w1.alloc (.cells #[.int .i64 x, .bool dn, .int .i64 k, .int .i64 v, .int .i64 t, .int .i64 a, .string tx, .slice none 0 0] 144)).drew) w1.heap.size x dn k v t a tx none 0 [] := by
  have b : Below w1.heap.size w1 (w1.alloc (.cells #[.int .i64 x, .bool dn, .int .i64 k, .int .i64 v, .int .i64 t, .int .i64 a, .string tx, .slice none 0 0] 144)).drew := ((Below.refl _ _).alloc (Nat.le_refl _) _).drew
  obtain ⟨ty, e⟩ := Row.new w1 [.int .i64 x, .bool dn, .int .i64 k, .int .i64 v, .int .i64 t, .int .i64 a, .string tx, .slice none 0 0] 144
  exact ⟨⟨ty, e⟩, Or.inl ⟨none, rfl, rfl, rfl⟩, b, by show _ ≤ (w1.alloc _).heap.size; simp⟩

theorem upd {w : World} {p : Addr} {v : Value} {o : Obj} (h : w.cell? p = some v) : (w.alloc o).drew.cell? p = some v := (((Below.refl _ w).alloc (Nat.le_refl _) o).cell (World.block_lt_of_cell? w _ h)).trans h

theorem pieceAt_end {R : ByteArray → Int × Nat} (hR : Reads R) {s : ByteArray} (hs : s.size ≤ 1048576) {i : Nat} {t : ByteArray} {z : Nat} (h : pieceAt R s i = some (t, z)) : z ≤ 1048576 := by
  unfold pieceAt at h
  split at h
  · cases h
  · rename_i hq
    split at h
    · cases h
    · rename_i hlt
      simp only [Option.some.injEq, Prod.mk.injEq] at h
      obtain ⟨_, rfl⟩ := h
      have h1 := (hR (rest s i) (by rw [rest_size]; unfold maxLen; omega))
      have h2 := h1.le
      have h3 := h1.x0
      rw [rest_size] at h2 hlt
      omega

set_option maxRecDepth 100000 in
set_option maxHeartbeats 4000000 in
theorem sReadJournal (R : ByteArray → Int × Nat) (hR : Reads R) (s : ByteArray) (hs : s.size ≤ 1048576) (w : World) :
    Calls Tryz.prog 73 #[.string s] w fun e w' => JnOut R s w w' e := by
  have HR := hid hR
  clear hR
  go_enter Tryz.func73, Tryz.ntmps73
  go_wp2_with fail
  obtain ⟨wc, hwc, ec, A0, K0⟩ := one_new w [.int .i64 0, .bool false, .int .i64 0, .int .i64 0, .int .i64 0, .int .i64 0, .string ⟨#[]⟩, .slice none 0 0] 144
  simp only [hwc]
  clear hwc
  have HA := hid A0
  have HK := hid K0
  clear A0 K0
  refine (l4Vars R HR.out s hs 5 6 (by decide) (by decide) wc).mono ?_
  rintro e w1 ⟨hg, b1⟩
  have HA1 := hid (HA.out.below b1 HA.out.lt)
  have HB1 := hid (HK.out.trans (b1.mono HK.out.size))
  clear b1 HA HK
  cases hn : nums R s 5 6 with
  | none =>
    rw [hn] at hg
    obtain ⟨vv, rfl⟩ := hg
    have HNo : Hid (readJn R s = none) := readJn_no (jnAt_no1 hn)
    clear hn
    go_wp2_with fail
    refine (l4TakeNeg s w1).mono ?_
    rintro e w2 ⟨hg2, b2⟩
    obtain rfl : e = _ := hg2
    have HA2 := hid (HA1.out.below b2 HA1.out.lt)
    have HB2 := hid (HB1.out.trans (b2.mono HB1.out.size))
    clear b2
    go_wp2_with fail
    refine (l4VarsNeg s w2).mono ?_
    rintro e w3 ⟨v3, rfl, b3⟩
    have HA3 := hid (HA2.out.below b3 HA2.out.lt)
    have HB3 := hid (HB2.out.trans (b3.mono HB2.out.size))
    clear b3
    have a0 := HA3.out.c 0 rfl
    have a1 := HA3.out.c 1 rfl
    have a2 := HA3.out.c 2 rfl
    have a3 := HA3.out.c 3 rfl
    have a4 := HA3.out.c 4 rfl
    have a5 := HA3.out.c 5 rfl
    have a6 := HA3.out.c 6 rfl
    have a7 := HA3.out.c 7 rfl
    have f0 := HA3.out.f 0
    have f1 := HA3.out.f 1
    have f2 := HA3.out.f 2
    have f3 := HA3.out.f 3
    have f4 := HA3.out.f 4
    have f5 := HA3.out.f 5
    have f6 := HA3.out.f 6
    have f7 := HA3.out.f 7
    have HRA := hid (row_set8 HA3.out (.int .i64 0) (.bool false) (.int .i64 0) (.int .i64 0) (.int .i64 0) (.int .i64 0) (.string ⟨#[]⟩) (.slice none 0 0))
    have HBf := hid (HB3.out.trans ((kept_set8 w3 w.heap.size (.int .i64 0) (.bool false) (.int .i64 0) (.int .i64 0) (.int .i64 0) (.int .i64 0) (.string ⟨#[]⟩) (.slice none 0 0)).below HB3.out.size (fun b hb x => by omega)))
    go_wp2
    refine bodyPost_ret (jresults_one rfl _ _ w.heap.size _ _ rfl rfl (load_row HRA.out Tryz.underlying144 rfl (by kernel_rfl))) rfl ?_
    exact ⟨JZ, none, 0, false, Or.inr ⟨HNo.out, rfl, rfl⟩, rfl, jnone_row _ _ _, HBf.out⟩
  | some pr =>
    obtain ⟨l0, z⟩ := pr
    rw [hn] at hg
    obtain ⟨vv, rfl, hI⟩ := hg
    have hl0 := nums_len hn
    have hzs : z ≤ 1048576 := by
      by_cases h5 : 5 ≤ s.size
      · exact Nat.le_trans (nums_le HR.out (by unfold maxLen; omega) h5 hn) hs
      · exfalso
        have := nums_short R HR.out s (by omega) hs 5
        rw [this] at hn; cases hn
    obtain ⟨gL, offL, capL, rfl, _, hgLl, hcL⟩ := ir_cells hI (by omega)
    match l0, hl0 with
    | [x, f, k, v, t, a], hl0 =>
    have HCL := hid hcL
    have HN := hid hn
    have hz0 : (0 : Int) ≤ (z : Int) := by omega
    clear hn hI hl0 hcL
    go_wp2_with fail
    refine (l4Take R HR.out s hs z hzs w1).mono ?_
    rintro e w2 ⟨hg2, b2⟩
    have HA2 := hid (HA1.out.below b2 HA1.out.lt)
    have HB2 := hid (HB1.out.trans (b2.mono HB1.out.size))
    have HCL2 : Hid (∀ i y, [x, f, k, v, t, a][i]? = some y → w2.cell? ⟨gL, offL + i, none⟩ = some (.int .i64 y)) := fun i y hy => (b2.cell hgLl).trans (HCL.out i y hy)
    have hgL2 : gL < w2.heap.size := Nat.lt_of_lt_of_le hgLl b2.size
    clear b2 HCL hgLl
    cases hp : pieceAt R s z with
    | none =>
      rw [hp] at hg2
      obtain rfl : e = _ := hg2
      have HNo : Hid (readJn R s = none) := readJn_no (jnAt_no2 HN.out hp)
      clear hp
      go_wp2_with fail
      refine (l4VarsNeg s w2).mono ?_
      rintro e w3 ⟨v3, rfl, b3⟩
      have HA3 := hid (HA2.out.below b3 HA2.out.lt)
      have HB3 := hid (HB2.out.trans (b3.mono HB2.out.size))
      clear b3
      have a0 := HA3.out.c 0 rfl
      have a1 := HA3.out.c 1 rfl
      have a2 := HA3.out.c 2 rfl
      have a3 := HA3.out.c 3 rfl
      have a4 := HA3.out.c 4 rfl
      have a5 := HA3.out.c 5 rfl
      have a6 := HA3.out.c 6 rfl
      have a7 := HA3.out.c 7 rfl
      have f0 := HA3.out.f 0
      have f1 := HA3.out.f 1
      have f2 := HA3.out.f 2
      have f3 := HA3.out.f 3
      have f4 := HA3.out.f 4
      have f5 := HA3.out.f 5
      have f6 := HA3.out.f 6
      have f7 := HA3.out.f 7
      have HRA := hid (row_set8 HA3.out (.int .i64 0) (.bool false) (.int .i64 0) (.int .i64 0) (.int .i64 0) (.int .i64 0) (.string ⟨#[]⟩) (.slice none 0 0))
      have HBf := hid (HB3.out.trans ((kept_set8 w3 w.heap.size (.int .i64 0) (.bool false) (.int .i64 0) (.int .i64 0) (.int .i64 0) (.int .i64 0) (.string ⟨#[]⟩) (.slice none 0 0)).below HB3.out.size (fun b hb x => by omega)))
      go_wp2
      refine bodyPost_ret (jresults_one rfl _ _ w.heap.size _ _ rfl rfl (load_row HRA.out Tryz.underlying144 rfl (by kernel_rfl))) rfl ?_
      exact ⟨JZ, none, 0, false, Or.inr ⟨HNo.out, rfl, rfl⟩, rfl, jnone_row _ _ _, HBf.out⟩
    | some pq =>
      obtain ⟨tx, z1⟩ := pq
      rw [hp] at hg2
      obtain rfl : e = _ := hg2
      have HPc := hid hp
      have hz1s : z1 ≤ 1048576 := pieceAt_end HR.out hs hp
      clear hp
      go_wp2_with fail
      refine (l4Vars R HR.out s hs z1 1 hz1s (by decide) w2).mono ?_
      rintro e w3 ⟨hg3, b3⟩
      have HA3 := hid (HA2.out.below b3 HA2.out.lt)
      have HB3 := hid (HB2.out.trans (b3.mono HB2.out.size))
      have HCL3 : Hid (∀ i y, [x, f, k, v, t, a][i]? = some y → w3.cell? ⟨gL, offL + i, none⟩ = some (.int .i64 y)) := fun i y hy => (b3.cell hgL2).trans (HCL2.out i y hy)
      have hgL3 : gL < w3.heap.size := Nat.lt_of_lt_of_le hgL2 b3.size
      clear b3 HCL2 hgL2 HA1 HB1 HA2 HB2
      by_cases hq : (R (rest s z1)).2 = 0
      · have hn1 : nums R s z1 1 = none := by rw [nums_1, if_pos hq]
        rw [hn1] at hg3
        obtain ⟨v3, rfl⟩ := hg3
        have HNo : Hid (readJn R s = none) := readJn_no (jnAt_no3 HN.out HPc.out (by unfold outsAll; rw [if_pos (Or.inl hq)]))
        clear hn1 hq
        have a0 := HA3.out.c 0 rfl
        have a1 := HA3.out.c 1 rfl
        have a2 := HA3.out.c 2 rfl
        have a3 := HA3.out.c 3 rfl
        have a4 := HA3.out.c 4 rfl
        have a5 := HA3.out.c 5 rfl
        have a6 := HA3.out.c 6 rfl
        have a7 := HA3.out.c 7 rfl
        have f0 := HA3.out.f 0
        have f1 := HA3.out.f 1
        have f2 := HA3.out.f 2
        have f3 := HA3.out.f 3
        have f4 := HA3.out.f 4
        have f5 := HA3.out.f 5
        have f6 := HA3.out.f 6
        have f7 := HA3.out.f 7
        have HRA := hid (row_set8 HA3.out (.int .i64 0) (.bool false) (.int .i64 0) (.int .i64 0) (.int .i64 0) (.int .i64 0) (.string ⟨#[]⟩) (.slice none 0 0))
        have HBf := hid (HB3.out.trans ((kept_set8 w3 w.heap.size (.int .i64 0) (.bool false) (.int .i64 0) (.int .i64 0) (.int .i64 0) (.int .i64 0) (.string ⟨#[]⟩) (.slice none 0 0)).below HB3.out.size (fun b hb x => by omega)))
        go_wp2
        refine bodyPost_ret (jresults_one rfl _ _ w.heap.size _ _ rfl rfl (load_row HRA.out Tryz.underlying144 rfl (by kernel_rfl))) rfl ?_
        exact ⟨JZ, none, 0, false, Or.inr ⟨HNo.out, rfl, rfl⟩, rfl, jnone_row _ _ _, HBf.out⟩
      have hn1 : nums R s z1 1 = some ([(R (rest s z1)).1], z1 + (R (rest s z1)).2) := by rw [nums_1, if_neg hq]
      rw [hn1] at hg3
      obtain ⟨v3, rfl, hI3⟩ := hg3
      have hRV1 := HR.out (rest s z1) (by rw [rest_size]; unfold maxLen; omega)
      obtain ⟨n, hnn⟩ : ∃ n : Nat, (R (rest s z1)).1 = (n : Int) := Int.eq_ofNat_of_zero_le hRV1.x0
      have hn49 : (n : Int) ≤ 562949953421311 := by rw [← hnn]; exact hRV1.x1
      obtain ⟨gN, offN, capN, rfl, _, hgNl, hcN⟩ := ir_cells hI3 (by simp)
      have cN := hcN 0 _ rfl
      rw [Nat.add_zero] at cN
      have HOA : Hid (outsAll R s z1 = if 8 < (n : Int) then none else outsAt R s (z1 + (R (rest s z1)).2) n) := by
        unfold Hid outsAll
        rw [hnn, Int.toNat_natCast]
        by_cases h8 : 8 < (n : Int)
        · rw [if_pos (Or.inr h8), if_pos h8]
        · rw [if_neg (by omega), if_neg h8]
      have hz2s : z1 + (R (rest s z1)).2 ≤ 1048576 := by have := hRV1.le; rw [rest_size] at this; omega
      rw [hnn] at cN
      clear hn1 hq hRV1 hI3 hcN hnn
      generalize z1 + (R (rest s z1)).2 = z2 at *
      have hz20 : (0 : Int) ≤ (z2 : Int) := by omega
      by_cases h8 : 8 < (n : Int)
      · have HNo : Hid (readJn R s = none) := readJn_no (jnAt_no3 HN.out HPc.out (by rw [HOA.out, if_pos h8]))
        clear HOA
        have a0 := HA3.out.c 0 rfl
        have a1 := HA3.out.c 1 rfl
        have a2 := HA3.out.c 2 rfl
        have a3 := HA3.out.c 3 rfl
        have a4 := HA3.out.c 4 rfl
        have a5 := HA3.out.c 5 rfl
        have a6 := HA3.out.c 6 rfl
        have a7 := HA3.out.c 7 rfl
        have f0 := HA3.out.f 0
        have f1 := HA3.out.f 1
        have f2 := HA3.out.f 2
        have f3 := HA3.out.f 3
        have f4 := HA3.out.f 4
        have f5 := HA3.out.f 5
        have f6 := HA3.out.f 6
        have f7 := HA3.out.f 7
        have HRA := hid (row_set8 HA3.out (.int .i64 0) (.bool false) (.int .i64 0) (.int .i64 0) (.int .i64 0) (.int .i64 0) (.string ⟨#[]⟩) (.slice none 0 0))
        have HBf := hid (HB3.out.trans ((kept_set8 w3 w.heap.size (.int .i64 0) (.bool false) (.int .i64 0) (.int .i64 0) (.int .i64 0) (.int .i64 0) (.string ⟨#[]⟩) (.slice none 0 0)).below HB3.out.size (fun b hb x => by omega)))
        go_wp2
        refine bodyPost_ret (jresults_one rfl _ _ w.heap.size _ _ rfl rfl (load_row HRA.out Tryz.underlying144 rfl (by kernel_rfl))) rfl ?_
        exact ⟨JZ, none, 0, false, Or.inr ⟨HNo.out, rfl, rfl⟩, rfl, jnone_row _ _ _, HBf.out⟩
      have HOA2 : Hid (outsAll R s z1 = outsAt R s z2 n) := by rw [Hid, HOA.out, if_neg h8]
      obtain ⟨dn, hdn⟩ : ∃ dn, (f == 1) = dn := ⟨_, rfl⟩
      have HDn : Hid (decide (f = 1) = dn) := by rw [Hid, ← hdn]; rfl
      clear HOA
      have c0 := HCL3.out 0 x rfl
      have c1 := HCL3.out 1 f rfl
      have c2 := HCL3.out 2 k rfl
      have c3 := HCL3.out 3 v rfl
      have c4 := HCL3.out 4 t rfl
      have c5 := HCL3.out 5 a rfl
      rw [Nat.add_zero] at c0
      have HE : Hid (w3.drew.cell? ⟨gL, offL, none⟩ = some (.int .i64 x) ∧ w3.drew.cell? ⟨gL, offL + 1, none⟩ = some (.int .i64 f) ∧ w3.drew.cell? ⟨gL, offL + 2, none⟩ = some (.int .i64 k) ∧ w3.drew.cell? ⟨gL, offL + 3, none⟩ = some (.int .i64 v) ∧ w3.drew.cell? ⟨gL, offL + 4, none⟩ = some (.int .i64 t) ∧ w3.drew.cell? ⟨gL, offL + 5, none⟩ = some (.int .i64 a)) := ⟨c0, c1, c2, c3, c4, c5⟩
      go_wp2
      go_region_held_law (fun w' => w'.cell? ⟨gL, offL, none⟩ = some (.int .i64 x) ∧ w'.cell? ⟨gL, offL + 1, none⟩ = some (.int .i64 f) ∧ w'.cell? ⟨gL, offL + 2, none⟩ = some (.int .i64 k) ∧ w'.cell? ⟨gL, offL + 3, none⟩ = some (.int .i64 v) ∧ w'.cell? ⟨gL, offL + 4, none⟩ = some (.int .i64 t) ∧ w'.cell? ⟨gL, offL + 5, none⟩ = some (.int .i64 a))
        (first | with_reducible exact HE.out | with_reducible exact ⟨upd c0, upd c1, upd c2, upd c3, upd c4, upd c5⟩ | go_keep)
        (fail)
      obtain ⟨wq, hwq⟩ : ∃ wq, (w3.alloc (.cells #[.int .i64 x, .bool dn, .int .i64 k, .int .i64 v, .int .i64 t, .int .i64 a, .string tx, .slice none 0 0] 144)).drew = wq := ⟨_, rfl⟩
      have HV : Hid (JnWay w3 wq w3.heap.size x dn k v t a tx none 0 []) := by
        rw [← hwq]
        exact jn_start w3 x dn k v t a tx
      simp only [hwq]
      clear hwq c0 c1 c2 c3 c4 c5 HE HCL3 hdn h8
      have hwb : w.heap.size < w3.heap.size := HA3.out.lt
      go_wp2
      go_loopw [5, 9] (fun at_ i wr => ∃ (j zz : Nat) (p : Option Addr) (d : Nat) (l : List Ou), j ≤ n ∧ i = .int .i64 (j : Int) ∧ at_ = .int .i64 (zz : Int) ∧ zz ≤ 1048576 ∧ Hid (outsAt R s z2 j = some (l, zz)) ∧ Hid (JnWay w3 wr w3.heap.size x dn k v t a tx p d l)) (fun _ i _ => n - (intOf i).toNat)
      case atStart => exact ⟨0, z2, none, 0, [], Nat.zero_le _, rfl, rfl, hz2s, rfl, HV⟩
      case round =>
        obtain ⟨j, zz, p, d, l, hj, rfl, rfl, hzz, HOs, HW⟩ := hrel
        clear HV
        have hsr : w3.heap.size < wr.heap.size := HW.out.sz
        have HAr := hid (HA3.out.below HW.out.bel hwb)
        have HBr := hid (HB3.out.trans (HW.out.bel.mono (by omega)))
        have cNr : wr.cell? ⟨gN, offN, none⟩ = some (.int .i64 (n : Int)) := (HW.out.bel.cell hgNl).trans cN
        by_cases hlt : j < n
        · have HST := hid (outsAt_step HOs.out)
          have HOn : Hid (outsAt R s z2 (j + 1) = none → readJn R s = none) := fun hz => by
            refine readJn_no (jnAt_no3 HN.out HPc.out ?_)
            rw [HOA2.out]
            have := outsAt_none hz (n - (j + 1))
            rwa [show j + 1 + (n - (j + 1)) = n by omega] at this
          go_wp2_with fail
          refine (l4Vars R HR.out s hs zz 1 hzz (by decide) wr).mono ?_
          rintro e w4 ⟨hg4, b4⟩
          have HW4 := hid (HW.out.move b4)
          have HA4 := hid (HAr.out.below b4 HAr.out.lt)
          have HB4 := hid (HBr.out.trans (b4.mono HBr.out.size))
          have hs4 := b4.size
          clear b4 cNr
          by_cases hq : (R (rest s zz)).2 = 0
          · have hn1 : nums R s zz 1 = none := by rw [nums_1, if_pos hq]
            rw [hn1] at hg4
            obtain ⟨v4, rfl⟩ := hg4
            have HNo := hid (HOn.out (by rw [HST.out, if_pos hq]))
            clear hn1 hq
            go_wp2_with fail
            refine (l4TakeNeg s w4).mono ?_
            rintro e w5 ⟨hg5, b5⟩
            obtain rfl : e = _ := hg5
            have HA5 := hid (HA4.out.below b5 HA4.out.lt)
            have HB5 := hid (HB4.out.trans (b5.mono HB4.out.size))
            clear b5
            have a0 := HA5.out.c 0 rfl
            have a1 := HA5.out.c 1 rfl
            have a2 := HA5.out.c 2 rfl
            have a3 := HA5.out.c 3 rfl
            have a4 := HA5.out.c 4 rfl
            have a5 := HA5.out.c 5 rfl
            have a6 := HA5.out.c 6 rfl
            have a7 := HA5.out.c 7 rfl
            have f0 := HA5.out.f 0
            have f1 := HA5.out.f 1
            have f2 := HA5.out.f 2
            have f3 := HA5.out.f 3
            have f4 := HA5.out.f 4
            have f5 := HA5.out.f 5
            have f6 := HA5.out.f 6
            have f7 := HA5.out.f 7
            have HRA := hid (row_set8 HA5.out (.int .i64 0) (.bool false) (.int .i64 0) (.int .i64 0) (.int .i64 0) (.int .i64 0) (.string ⟨#[]⟩) (.slice none 0 0))
            have HBf := hid (HB5.out.trans ((kept_set8 w5 w.heap.size (.int .i64 0) (.bool false) (.int .i64 0) (.int .i64 0) (.int .i64 0) (.int .i64 0) (.string ⟨#[]⟩) (.slice none 0 0)).below HB5.out.size (fun b hb x => by omega)))
            go_wp2
            refine bodyPost_ret (jresults_one rfl _ _ w.heap.size _ _ rfl rfl (load_row HRA.out Tryz.underlying144 rfl (by kernel_rfl))) rfl ?_
            exact ⟨JZ, none, 0, false, Or.inr ⟨HNo.out, rfl, rfl⟩, rfl, jnone_row _ _ _, HBf.out⟩
          have hn1 : nums R s zz 1 = some ([(R (rest s zz)).1], zz + (R (rest s zz)).2) := by rw [nums_1, if_neg hq]
          rw [hn1] at hg4
          obtain ⟨v4, rfl, hI4⟩ := hg4
          have hRV1 := HR.out (rest s zz) (by rw [rest_size]; unfold maxLen; omega)
          have hz3s : zz + (R (rest s zz)).2 ≤ 1048576 := by have := hRV1.le; rw [rest_size] at this; omega
          have HST2 : Hid (outsAt R s z2 (j + 1) = (pieceAt R s (zz + (R (rest s zz)).2)).map fun q => (l ++ [⟨(R (rest s zz)).1, q.1⟩], q.2)) := by rw [Hid, HST.out, if_neg hq]
          obtain ⟨gK, offK, capK, rfl, _, hgKl, hcK⟩ := ir_cells hI4 (by simp)
          have cK := hcK 0 _ rfl
          rw [Nat.add_zero] at cK
          clear hn1 hq hRV1 hI4 hcK HST
          generalize (R (rest s zz)).1 = y at *
          generalize zz + (R (rest s zz)).2 = z3 at *
          have hz30 : (0 : Int) ≤ (z3 : Int) := by omega
          go_wp2_with fail
          refine (l4Take R HR.out s hs z3 hz3s w4).mono ?_
          rintro e w5 ⟨hg5, b5⟩
          have HW5 := hid (HW4.out.move b5)
          have HA5 := hid (HA4.out.below b5 HA4.out.lt)
          have HB5 := hid (HB4.out.trans (b5.mono HB4.out.size))
          have cK5 : w5.cell? ⟨gK, offK, none⟩ = some (.int .i64 y) := (b5.cell hgKl).trans cK
          have hgK5 : gK < w5.heap.size := Nat.lt_of_lt_of_le hgKl b5.size
          clear b5 cK hgKl HW4 HA4 HB4 HW
          cases hp : pieceAt R s z3 with
          | none =>
            rw [hp] at hg5
            obtain rfl : e = _ := hg5
            have HNo := hid (HOn.out (by rw [HST2.out, hp]; rfl))
            clear hp
            have a0 := HA5.out.c 0 rfl
            have a1 := HA5.out.c 1 rfl
            have a2 := HA5.out.c 2 rfl
            have a3 := HA5.out.c 3 rfl
            have a4 := HA5.out.c 4 rfl
            have a5 := HA5.out.c 5 rfl
            have a6 := HA5.out.c 6 rfl
            have a7 := HA5.out.c 7 rfl
            have f0 := HA5.out.f 0
            have f1 := HA5.out.f 1
            have f2 := HA5.out.f 2
            have f3 := HA5.out.f 3
            have f4 := HA5.out.f 4
            have f5 := HA5.out.f 5
            have f6 := HA5.out.f 6
            have f7 := HA5.out.f 7
            have HRA := hid (row_set8 HA5.out (.int .i64 0) (.bool false) (.int .i64 0) (.int .i64 0) (.int .i64 0) (.int .i64 0) (.string ⟨#[]⟩) (.slice none 0 0))
            have HBf := hid (HB5.out.trans ((kept_set8 w5 w.heap.size (.int .i64 0) (.bool false) (.int .i64 0) (.int .i64 0) (.int .i64 0) (.int .i64 0) (.string ⟨#[]⟩) (.slice none 0 0)).below HB5.out.size (fun b hb x => by omega)))
            go_wp2
            refine bodyPost_ret (jresults_one rfl _ _ w.heap.size _ _ rfl rfl (load_row HRA.out Tryz.underlying144 rfl (by kernel_rfl))) rfl ?_
            exact ⟨JZ, none, 0, false, Or.inr ⟨HNo.out, rfl, rfl⟩, rfl, jnone_row _ _ _, HBf.out⟩
          | some pq =>
            obtain ⟨tt, z4⟩ := pq
            rw [hp] at hg5
            obtain rfl : e = _ := hg5
            have HOs2 : Hid (outsAt R s z2 (j + 1) = some (l ++ [⟨y, tt⟩], z4)) := by rw [Hid, HST2.out, hp]; rfl
            have hz4s : z4 ≤ 1048576 := pieceAt_end HR.out hs hp
            have hz40 : (0 : Int) ≤ (z4 : Int) := by omega
            have hlL : l.length + 1 ≤ 1048576 := by have := (outsAt_len HOs.out).1; omega
            have q7 := HW5.out.box.c 7 rfl
            have hG5 : w3.heap.size < w5.heap.size := HW5.out.sz
            clear hp HST2 HOn
            go_wp2
            go_region_law ((refine step_app_jn 64 180 (.agg #[.int .i64 0, .string ByteArray.empty]) 2 24 Tryz.underlying64 infoOut rfl (by decide) (by decide) (by rfl) (.tmp 84) (.tmp 90) (by rfl) (w3.heap.size + 1) (.slice p l.length d) l.length (oc l) (by rfl) (HW5.out.rowA y tt) ⟨w5.heap.size, 0, none⟩ 1 1 [.int .i64 y, .string tt] (by rfl) rfl (one_out w5.drew y tt) (by intro u hu; simp at hu; rcases hu with rfl | rfl <;> rfl) hlL (HW5.out.szA y tt) ?_; intro v' w' r kk; obtain ⟨p', d', e', _⟩ := r.wr; subst e'; have hb' := HW5.out.after kk; have g7 := hb'.c 7 rfl; have gf := hb'.f 7; have HS := hid (HW5.out.step r kk); clear hb'))
            all_goals (go_wp2; exact ⟨⟨j + 1, z4, p', d', l ++ [⟨y, tt⟩], by omega, by go_num, rfl, hz4s, HOs2, HS⟩, by simp [intOf]; omega⟩)
        · obtain rfl : j = n := by omega
          have HJ : Hid (jnAt R s = some ([x, f, k, v, t, a], tx, l)) := jnAt_yes HN.out HPc.out (HOA2.out.trans HOs.out)
          have hsm := jnAt_small HJ.out
          have ho8 := hsm.2.1
          have HSm : Hid (Jn.Small ⟨x, dn, k, v, t, a, tx, l⟩) := ⟨Nat.le_trans hsm.1 hs, by show l.length ≤ _; omega, fun y hy => Nat.le_trans (hsm.2.2 y hy) hs⟩
          have HRd : Hid (readJn R s = if Jn.show ⟨x, dn, k, v, t, a, tx, l⟩ = s then some ⟨x, dn, k, v, t, a, tx, l⟩ else none) := by rw [Hid, readJn_yes HJ.out, HDn.out]
          have HSr : Hid (Ous wr p l) := by
            obtain ⟨a', cap', ea, hW⟩ := Or2.w HW.out.row
            cases ea
            exact Wr.sl hW
          have HZ := hid HW.out.box
          have HO := hid HW.out.row
          clear hsm HJ HOs
          have q0 := HZ.out.c 0 rfl
          have q1 := HZ.out.c 1 rfl
          have q2 := HZ.out.c 2 rfl
          have q3 := HZ.out.c 3 rfl
          have q4 := HZ.out.c 4 rfl
          have q5 := HZ.out.c 5 rfl
          have q6 := HZ.out.c 6 rfl
          have q7 := HZ.out.c 7 rfl
          go_wp2_with fail
          refine (sShowJournal wr ⟨x, dn, k, v, t, a, tx, l⟩ p d HSr.out HSm.out).mono ?_
          rintro e w5 ⟨rfl, b5⟩
          have HA5 := hid (HAr.out.below b5 HAr.out.lt)
          have HZ5 := hid (HZ.out.below b5 HZ.out.lt)
          have HO5 := hid (RowO.below HO.out b5)
          have HB5 := hid (HBr.out.trans (b5.mono HBr.out.size))
          clear b5 HAr HZ HO HBr HSr HSm HW q0 q1 q2 q3 q4 q5 q6 q7 cNr
          have q0 := HZ5.out.c 0 rfl
          have q1 := HZ5.out.c 1 rfl
          have q2 := HZ5.out.c 2 rfl
          have q3 := HZ5.out.c 3 rfl
          have q4 := HZ5.out.c 4 rfl
          have q5 := HZ5.out.c 5 rfl
          have q6 := HZ5.out.c 6 rfl
          have q7 := HZ5.out.c 7 rfl
          by_cases hsh : Jn.show ⟨x, dn, k, v, t, a, tx, l⟩ = s
          · have HN2 : Hid (readJn R s = some ⟨x, dn, k, v, t, a, tx, l⟩) := by rw [Hid, HRd.out, if_pos hsh]
            have hne := Own.eqS_yes hsh
            generalize Jn.show ⟨x, dn, k, v, t, a, tx, l⟩ = sh at *
            have a0 := HA5.out.c 0 rfl
            have a1 := HA5.out.c 1 rfl
            have a2 := HA5.out.c 2 rfl
            have a3 := HA5.out.c 3 rfl
            have a4 := HA5.out.c 4 rfl
            have a5 := HA5.out.c 5 rfl
            have a6 := HA5.out.c 6 rfl
            have a7 := HA5.out.c 7 rfl
            have f0 := HA5.out.f 0
            have f1 := HA5.out.f 1
            have f2 := HA5.out.f 2
            have f3 := HA5.out.f 3
            have f4 := HA5.out.f 4
            have f5 := HA5.out.f 5
            have f6 := HA5.out.f 6
            have f7 := HA5.out.f 7
            have HRA := hid (row_set8 HA5.out (.int .i64 x) (.bool dn) (.int .i64 k) (.int .i64 v) (.int .i64 t) (.int .i64 a) (.string tx) (.slice p l.length d))
            have HKK := hid (kept_set8 w5 w.heap.size (.int .i64 x) (.bool dn) (.int .i64 k) (.int .i64 v) (.int .i64 t) (.int .i64 a) (.string tx) (.slice p l.length d))
            have HBf := hid (HB5.out.trans (HKK.out.below HB5.out.size (fun b hb x => by omega)))
            have HIf := hid (RowO.mono (B' := w.heap.size) (RowO.kept HO5.out HKK.out (fun b hb x => by have := (RowO.lt HO5.out hb).1; omega)) (by omega))
            clear HKK HO5 HB5 HA5 HZ5 HRd
            go_wp2
            refine bodyPost_ret (jresults_one rfl _ _ w.heap.size _ _ rfl rfl (load_row HRA.out Tryz.underlying144 rfl (by kernel_rfl))) rfl ?_
            exact ⟨⟨x, dn, k, v, t, a, tx, l⟩, p, d, true, Or.inl ⟨HN2.out, ho8, rfl⟩, rfl, HIf.out, HBf.out⟩
          · have HNo : Hid (readJn R s = none) := by rw [Hid, HRd.out, if_neg hsh]
            have hne := Own.eqS_no hsh
            generalize Jn.show ⟨x, dn, k, v, t, a, tx, l⟩ = sh at *
            clear HO5 HRd
            have a0 := HA5.out.c 0 rfl
            have a1 := HA5.out.c 1 rfl
            have a2 := HA5.out.c 2 rfl
            have a3 := HA5.out.c 3 rfl
            have a4 := HA5.out.c 4 rfl
            have a5 := HA5.out.c 5 rfl
            have a6 := HA5.out.c 6 rfl
            have a7 := HA5.out.c 7 rfl
            have f0 := HA5.out.f 0
            have f1 := HA5.out.f 1
            have f2 := HA5.out.f 2
            have f3 := HA5.out.f 3
            have f4 := HA5.out.f 4
            have f5 := HA5.out.f 5
            have f6 := HA5.out.f 6
            have f7 := HA5.out.f 7
            have HRA := hid (row_set8 HA5.out (.int .i64 0) (.bool false) (.int .i64 0) (.int .i64 0) (.int .i64 0) (.int .i64 0) (.string ⟨#[]⟩) (.slice none 0 0))
            have HBf := hid (HB5.out.trans ((kept_set8 w5 w.heap.size (.int .i64 0) (.bool false) (.int .i64 0) (.int .i64 0) (.int .i64 0) (.int .i64 0) (.string ⟨#[]⟩) (.slice none 0 0)).below HB5.out.size (fun b hb x => by omega)))
            go_wp2
            refine bodyPost_ret (jresults_one rfl _ _ w.heap.size _ _ rfl rfl (load_row HRA.out Tryz.underlying144 rfl (by kernel_rfl))) rfl ?_
            exact ⟨JZ, none, 0, false, Or.inr ⟨HNo.out, rfl, rfl⟩, rfl, jnone_row _ _ _, HBf.out⟩

end Go.Proofs.YtogebppolkfldaaGreatDoor.Rd

namespace Go.Proofs.YtogebppolkfldaaGreatDoor.Rd
open Go.RowKit Go.Proofs.YtogebppolkfldaaGreatDoor.Mem Go.Proofs.YtogebppolkfldaaGreatDoor.Sec
open Go.Proofs.YtogebppolkfldaaGreatDoor.Var (bl varS)
set_option linter.unusedVariables false

theorem two_steps {R : ByteArray → Int × Nat} {s : ByteArray} {i n : Nat} {x f : Int} {l : List Int} {z : Nat} (h : nums R s i (n + 2) = some (x :: f :: l, z)) :
    ∃ k1 k2, R (rest s i) = (x, k1) ∧ R (rest s (i + k1)) = (f, k2) ∧ k1 ≠ 0 ∧ k2 ≠ 0 := by
  have s1 := nums_step (R := R) (s := s) (i := i) (k := 0) (l := []) (e := i) rfl
  by_cases q1 : (R (rest s i)).2 = 0
  · rw [if_pos q1] at s1
    have := nums_none (k := 1) s1 (n + 1)
    rw [show 1 + (n + 1) = n + 2 by omega] at this
    rw [this] at h
    cases h
  rw [if_neg q1] at s1
  have s2 := nums_step s1
  by_cases q2 : (R (rest s (i + (R (rest s i)).2))).2 = 0
  · rw [if_pos q2] at s2
    have := nums_none (k := 2) s2 n
    rw [show 2 + n = n + 2 by omega] at this
    rw [this] at h
    cases h
  rw [if_neg q2] at s2
  have h7 := nums_split2 (n := n) s2
  rw [h] at h7
  cases hn : nums R s (i + (R (rest s i)).2 + (R (rest s (i + (R (rest s i)).2))).2) n with
  | none => rw [hn] at h7; cases h7
  | some p =>
    rw [hn] at h7
    simp only [Option.map_some, Option.some.injEq, Prod.mk.injEq, List.cons.injEq] at h7
    obtain ⟨⟨rfl, rfl, _⟩, _⟩ := h7
    exact ⟨_, _, rfl, rfl, q1, q2⟩

theorem jvr_of {x : Int} (h0 : 0 ≤ x) (h1 : x ≤ 562949953421311) : vr x = varS x := by unfold vr; rw [if_pos ⟨h0, h1⟩]

theorem jflag_bytes (on : Bool) : ∃ c : UInt8, flag on = ⟨#[c]⟩ ∧ c.toNat ≤ 1 := by
  cases on
  · exact ⟨0, by decide, by decide⟩
  · exact ⟨1, by decide, by decide⟩

theorem no_flagJn (R : ByteArray → Int × Nat) (hR : Reads R) (hT : ∀ s : ByteArray, s.size ≤ maxLen → Tx s (R s)) (s : ByteArray) (hs : s.size ≤ 1048576) : NoJn R s → readJn R s = none := by
  rintro (h | ⟨x, f, l, z, tx, o, h, hf, hj⟩)
  · exact readJn_no h
  have hl := nums_len h
  match l, hl with
  | [k, v, t, a], _ =>
  rw [readJn_yes hj, if_neg]
  intro hsh
  obtain ⟨k1, k2, e1, e2, q1, q2⟩ := two_steps (n := 4) h
  have hb : ∀ i, (rest s i).size ≤ maxLen := fun i => by rw [rest_size]; unfold maxLen; omega
  have r1 := hR _ (hb 5)
  have t1 := (hT _ (hb 5)).1
  have t2 := (hT _ (hb (5 + k1))).2
  rw [e1] at r1 t1
  rw [e2] at t2
  have z1 : (vr x).size = k1 := by rw [jvr_of r1.x0 r1.x1, t1 q1]; have := r1.le; simp at this ⊢; omega
  by_cases hv : Jn.ok ⟨x, decide (f = 1), k, v, t, a, tx, o⟩ = true
  · obtain ⟨c, hc, hc1⟩ := jflag_bytes (decide (f = 1))
    rw [← jn_yes hv] at hsh
    unfold summed Jn.head at hsh
    simp only [] at hsh
    rw [hc] at hsh
    obtain ⟨V, hV⟩ : ∃ V, vr k ++ (vr v ++ (vr t ++ (vr a ++ (Go.Proofs.YtogebppolkfldaaGreatDoor.Sec.piece tx ++ (vr (o.length : Int) ++ outsS o))))) = V := ⟨_, rfl⟩
    generalize hX : Go.Proofs.YtogebppolkfldaaGreatDoor.Fix.fxS (crc _) 4 = A at hsh
    have hA4 : A.size = 4 := by rw [← hX, Go.Proofs.YtogebppolkfldaaGreatDoor.Fix.fxS_size]
    have hs2 : (A ++ ⟨#[106]⟩ ++ vr x) ++ (⟨#[c]⟩ ++ V) = s := by rw [← hsh, ← hV]; simp only [ByteArray.append_assoc]
    have hr := rest_app (A ++ ⟨#[106]⟩ ++ vr x) (⟨#[c]⟩ ++ V) (5 + k1) (by simp only [ByteArray.size_append, hA4, z1]; rfl)
    rw [hs2] at hr
    rw [hr] at t2
    have hg : (bl (⟨#[c]⟩ ++ V)).getD 0 0 = (c.toNat : Int) := by simp [bl]
    rw [hg] at t2
    have := t2 q2 (by omega)
    simp at this
    omega
  · rw [jn_no (by simpa using hv)] at hsh
    have hk := r1.le
    rw [rest_size, ← hsh] at hk
    have h0 : (⟨#[]⟩ : ByteArray).size = 0 := rfl
    rw [h0] at hk
    have : k1 ≤ 0 - 5 := hk
    omega

end Go.Proofs.YtogebppolkfldaaGreatDoor.Rd
