/-
  Plain: which sectors are a pool's. Each Read, as it is asked by PoolOk: is it read; on both sides. Condition for impl: the table of sixteen sums and the error of a part that lacks stand in their variables.
  Which worlds are right, and what shows that one isn't. No condition.
  How many live hosts hold a lease: which leases are live, and what the lease of a sector is; a text that is read as a volume is read as no group. No condition.
  An element of a list that is loaded whole and put into a box of its own: three operations in a plain region, however long the struct is. At any program. No condition.
  The walk of impl.HostOk and of what it calls. No condition but texts and lists of at most 2^20.
  The walk of impl.hasNoCall. No condition but lists of at most 2^20.
  The walk of impl.isFallen. No condition but lists of at most 2^20.
  The walk of impl.hasRightCall. No condition but texts and lists of at most 2^20.
  The walk of impl.HostOk. No condition but texts and lists of at most 2^20.
  The walks of impl.isHost, impl.fitsSector, impl.isSector and impl.DiskOk: each answers what it should, and nothing that was there is changed. No condition.
  The walks of impl.areHosts, impl.areEvents and impl.areReplies. No condition but lists of at most 2^20.
  The walk of impl.areHosts. No condition but lists of at most 2^20.
  The walk of impl.DiskOk: it answers whether the disk is right, and nothing that was there is changed. No condition.
  The walk of spec.PoolOk. No condition but texts and lists of at most 2^20.
  The walk of impl.PoolOk. Condition: the tables of sixteen sums and of the kinds' sizes and the error of a part that lacks stand in their variables.
  The walk of impl.WorldOk. Condition: lists and texts of at most 2^20; the tables of sixteen sums and of the kinds' sizes and the error of a part that lacks stand in their variables.
  The walk of spec.HostOk. No condition but texts and lists of at most 2^20.
-/
import Derived.Test.YtogebppolkfldaaGreatDoorJoin3
import Derived.Test.YtogebppolkfldaaGreatDoorRdGroup4
import Derived.Test.YtogebppolkfldaaGreatDoorRdVol4
import Derived.Test.YtogebppolkfldaaGreatDoorSectorWalks
import Derived.Test.YtogebppolkfldaaGreatDoorJoin2
import Derived.Test.YtogebppolkfldaaGreatDoorSecRows
import Derived.Test.YtogebppolkfldaaGreatDoorJoin1
import Derived.Test.YtogebppolkfldaaGreatDoorQuietB
namespace Go.Proofs.YtogebppolkfldaaGreatDoor.Pk
open Go.RowKit Go.Proofs.YtogebppolkfldaaGreatDoor.Mem Go.Proofs.YtogebppolkfldaaGreatDoor.Sec Go.Proofs.YtogebppolkfldaaGreatDoor.Rd
set_option linter.unusedVariables false

/-- Is a text a sector of its kind. -/
def secOk (R : ByteArray → Int × Nat) (k : Nat) (s : ByteArray) : Bool :=
  match k with
  | 0 => (readHost R s).isSome
  | 1 => (readJn R s).isSome
  | 2 => (readFrees R s).isSome
  | 3 => (readVol R s).isSome
  | 4 => (readGroup R s).isSome
  | _ => decide ((s.size : Int) ≤ 16)

def kindOf (i : Nat) : Nat := if i < 3 then 0 else if i < 6 then 1 else if i < 9 then 2 else if i < 13 then 3 else if i < 16 then 4 else 5

/-- Are texts a pool's sectors. -/
def poolOk (R : ByteArray → Int × Nat) (l : List ByteArray) : Bool := decide (l.length = 34) && (List.range 34).all fun i => secOk R (kindOf i) (l.getD i ByteArray.empty)

theorem pool_no1 {R : ByteArray → Int × Nat} {l : List ByteArray} (h : ¬ l.length = 34) : poolOk R l = false := by unfold poolOk; rw [decide_eq_false h]; rfl
theorem pool_no2 {R : ByteArray → Int × Nat} {l : List ByteArray} (i : Nat) (hi : i < 34) (h : secOk R (kindOf i) (l.getD i ByteArray.empty) = false) : poolOk R l = false := by
  unfold poolOk
  have : ((List.range 34).all fun i => secOk R (kindOf i) (l.getD i ByteArray.empty)) = false := by
    rw [List.all_eq_false]
    exact ⟨i, List.mem_range.2 hi, by rw [h]; decide⟩
  rw [this, Bool.and_false]
theorem pool_yes {R : ByteArray → Int × Nat} {l : List ByteArray} (hl : l.length = 34) (h : ∀ i, i < 34 → secOk R (kindOf i) (l.getD i ByteArray.empty) = true) : poolOk R l = true := by
  unfold poolOk
  rw [decide_eq_true hl, Bool.true_and, List.all_eq_true]
  intro i hi
  exact h i (List.mem_range.1 hi)

theorem sHost (R : ByteArray → Int × Nat) (hR : Reads R) (s : ByteArray) (hs : s.size ≤ 1048576) (w : World) :
    Calls Tryz.prog 72 #[.string s] w fun e w' => ∃ b x y : Int, e = .returned (.tuple #[.agg #[.int .i64 b, .int .i64 x, .int .i64 y], .bool (secOk R 0 s)]) ∧ Below w.heap.size w w' := by
  refine (sReadHost R hR s hs w).mono ?_
  rintro e w' ⟨h, b⟩
  unfold secOk
  rcases h with ⟨x, y, z, h, rfl⟩ | ⟨h, rfl⟩
  · exact ⟨x, y, z, by rw [h]; rfl, b⟩
  · exact ⟨0, 0, 0, by rw [h]; rfl, b⟩

theorem iHost (R : ByteArray → Int × Nat) (hR : Reads R) (hT : ∀ s : ByteArray, s.size ≤ maxLen → Tx s (R s)) (s : ByteArray) (hs : s.size ≤ 1048576) (w : World) (u : TypeId) (pv : Value) (hL : Lacks w u pv) (T : Sums w) :
    Calls Tryz.prog 116 #[.string s] w fun e w' => ∃ b x y : Int, e = .returned (.tuple #[.agg #[.int .i64 b, .int .i64 x, .int .i64 y], .bool (secOk R 0 s)]) ∧ Below w.heap.size w w' := by
  refine (iReadHost R hR s hs w u pv hL T).mono ?_
  rintro e w' ⟨h, b⟩
  unfold secOk
  rcases h with ⟨x, y, z, h, rfl⟩ | ⟨h, rfl⟩
  · exact ⟨x, y, z, by rw [h]; rfl, b⟩
  · exact ⟨0, 0, 0, by rw [h]; rfl, b⟩

theorem sJournal (R : ByteArray → Int × Nat) (hR : Reads R) (s : ByteArray) (hs : s.size ≤ 1048576) (w : World) :
    Calls Tryz.prog 73 #[.string s] w fun e w' => ∃ (J : Jn) (a : Option Addr) (cap : Nat), e = .returned (.tuple #[.agg #[.int .i64 J.txn, .bool J.done, .int .i64 J.kind, .int .i64 J.vol, .int .i64 J.to, .int .i64 J.at_, .string J.text, .slice a J.outs.length cap], .bool (secOk R 1 s)]) ∧ Below w.heap.size w w' := by
  refine (sReadJournal R hR s hs w).mono ?_
  rintro e w' ⟨J, a, cap, ok, hi, rfl, _, b⟩
  unfold secOk
  rcases hi with ⟨h, _, rfl⟩ | ⟨h, _, rfl⟩
  · exact ⟨J, a, cap, by rw [h]; rfl, b⟩
  · exact ⟨J, a, cap, by rw [h]; rfl, b⟩

theorem iJournal (R : ByteArray → Int × Nat) (hR : Reads R) (hT : ∀ s : ByteArray, s.size ≤ maxLen → Tx s (R s)) (s : ByteArray) (hs : s.size ≤ 1048576) (w : World) (u : TypeId) (pv : Value) (hL : Lacks w u pv) (T : Sums w) :
    Calls Tryz.prog 117 #[.string s] w fun e w' => ∃ (J : Jn) (a : Option Addr) (cap : Nat), e = .returned (.tuple #[.agg #[.int .i64 J.txn, .bool J.done, .int .i64 J.kind, .int .i64 J.vol, .int .i64 J.to, .int .i64 J.at_, .string J.text, .slice a J.outs.length cap], .bool (secOk R 1 s)]) ∧ Below w.heap.size w w' := by
  refine (iReadJournal R hR s hs (no_flagJn R hR hT s hs) w u pv hL T).mono ?_
  rintro e w' ⟨J, a, cap, ok, hi, rfl, _, b⟩
  unfold secOk
  rcases hi with ⟨h, _, rfl⟩ | ⟨h, _, rfl⟩
  · exact ⟨J, a, cap, by rw [h]; rfl, b⟩
  · exact ⟨J, a, cap, by rw [h]; rfl, b⟩

theorem sFrees (R : ByteArray → Int × Nat) (hR : Reads R) (s : ByteArray) (hs : s.size ≤ 1048576) (w : World) :
    Calls Tryz.prog 74 #[.string s] w fun e w' => ∃ v : Value, e = .returned (.tuple #[v, .bool (secOk R 2 s)]) ∧ Below w.heap.size w w' := by
  refine (sReadFrees R hR s hs w).mono ?_
  rintro e w' ⟨v, l, ok, hi, rfl, _, b⟩
  unfold secOk
  rcases hi with ⟨h, rfl⟩ | ⟨h, _, rfl⟩
  · exact ⟨v, by rw [h]; rfl, b⟩
  · exact ⟨v, by rw [h]; rfl, b⟩

theorem iFrees (R : ByteArray → Int × Nat) (hR : Reads R) (hT : ∀ s : ByteArray, s.size ≤ maxLen → Tx s (R s)) (s : ByteArray) (hs : s.size ≤ 1048576) (w : World) (u : TypeId) (pv : Value) (hL : Lacks w u pv) (T : Sums w) :
    Calls Tryz.prog 118 #[.string s] w fun e w' => ∃ v : Value, e = .returned (.tuple #[v, .bool (secOk R 2 s)]) ∧ Below w.heap.size w w' := by
  refine (iReadFrees R hR s hs w u pv hL T).mono ?_
  rintro e w' ⟨v, l, ok, hi, rfl, _, b⟩
  unfold secOk
  rcases hi with ⟨h, rfl⟩ | ⟨h, _, rfl⟩
  · exact ⟨v, by rw [h]; rfl, b⟩
  · exact ⟨v, by rw [h]; rfl, b⟩

theorem sVol (R : ByteArray → Int × Nat) (hR : Reads R) (s : ByteArray) (hs : s.size ≤ 1048576) (w : World) :
    Calls Tryz.prog 16 #[.string s] w fun e w' => ∃ (h p : Int) (on : Bool) (a : Option Addr) (m cap : Nat), e = .returned (.tuple #[.agg #[.int .i64 h, .int .i64 p, .bool on, .slice a m cap], .bool (secOk R 3 s)]) ∧ Below w.heap.size w w' := by
  refine (sReadVol R hR s hs w).mono ?_
  rintro r w' ⟨h, p, on, l, a, cap, ok, hi, rfl, _, b⟩
  unfold secOk
  rcases hi with ⟨q, _, rfl⟩ | ⟨q, _, _, _, _, rfl⟩
  · exact ⟨h, p, on, a, l.length, cap, by rw [q]; rfl, b⟩
  · exact ⟨h, p, on, a, l.length, cap, by rw [q]; rfl, b⟩

theorem iVol (R : ByteArray → Int × Nat) (hR : Reads R) (hT : ∀ s : ByteArray, s.size ≤ maxLen → Tx s (R s)) (s : ByteArray) (hs : s.size ≤ 1048576) (w : World) (u : TypeId) (pv : Value) (hL : Lacks w u pv) (T : Sums w) :
    Calls Tryz.prog 62 #[.string s] w fun e w' => ∃ (h p : Int) (on : Bool) (a : Option Addr) (m cap : Nat), e = .returned (.tuple #[.agg #[.int .i64 h, .int .i64 p, .bool on, .slice a m cap], .bool (secOk R 3 s)]) ∧ Below w.heap.size w w' := by
  refine (iReadVol R hR s hs (no_flag R hR hT s hs) w u pv hL T).mono ?_
  rintro r w' ⟨h, p, on, l, a, cap, ok, hi, rfl, _, b⟩
  unfold secOk
  rcases hi with ⟨q, _, rfl⟩ | ⟨q, _, _, _, _, rfl⟩
  · exact ⟨h, p, on, a, l.length, cap, by rw [q]; rfl, b⟩
  · exact ⟨h, p, on, a, l.length, cap, by rw [q]; rfl, b⟩

theorem sGroup (R : ByteArray → Int × Nat) (hR : Reads R) (s : ByteArray) (hs : s.size ≤ 1048576) (w : World) :
    Calls Tryz.prog 17 #[.string s] w fun e w' => ∃ (h p : Int) (a : Option Addr) (m cap : Nat), e = .returned (.tuple #[.agg #[.int .i64 h, .int .i64 p, .slice a m cap], .bool (secOk R 4 s)]) ∧ Below w.heap.size w w' := by
  refine (sReadGroup R hR s hs w).mono ?_
  rintro r w' ⟨h, p, l, a, cap, ok, hi, rfl, _, b⟩
  unfold secOk
  rcases hi with ⟨q, _, rfl⟩ | ⟨q, _, _, _, rfl⟩
  · exact ⟨h, p, a, l.length, cap, by rw [q]; rfl, b⟩
  · exact ⟨h, p, a, l.length, cap, by rw [q]; rfl, b⟩

theorem iGroup (R : ByteArray → Int × Nat) (hR : Reads R) (hT : ∀ s : ByteArray, s.size ≤ maxLen → Tx s (R s)) (s : ByteArray) (hs : s.size ≤ 1048576) (w : World) (u : TypeId) (pv : Value) (hL : Lacks w u pv) (T : Sums w) :
    Calls Tryz.prog 63 #[.string s] w fun e w' => ∃ (h p : Int) (a : Option Addr) (m cap : Nat), e = .returned (.tuple #[.agg #[.int .i64 h, .int .i64 p, .slice a m cap], .bool (secOk R 4 s)]) ∧ Below w.heap.size w w' := by
  refine (iReadGroup R hR s hs w u pv hL T).mono ?_
  rintro r w' ⟨h, p, l, a, cap, ok, hi, rfl, _, b⟩
  unfold secOk
  rcases hi with ⟨q, _, rfl⟩ | ⟨q, _, _, _, rfl⟩
  · exact ⟨h, p, a, l.length, cap, by rw [q]; rfl, b⟩
  · exact ⟨h, p, a, l.length, cap, by rw [q]; rfl, b⟩

theorem sec0 (m : Nat) (h : m < 3) : Sector.sectorOf 0 (m : Int) = ((0 + m : Nat) : Int) := by
  have h1 := Sector.yes 0 (m : Int) (by decide) (by omega) (by show (m : Int) < 3; omega)
  have h2 : Sector.S 0 = 0 := by decide
  rw [h2] at h1
  have h3 : Sector.sectorOf 0 (m : Int) = (m : Int) + 0 := h1
  rw [h3]; omega
theorem kind0 (m : Nat) (h : m < 3) : kindOf (0 + m) = 0 := by unfold kindOf; rw [if_pos (by omega)]

theorem sec1 (m : Nat) (h : m < 3) : Sector.sectorOf 1 (m : Int) = ((3 + m : Nat) : Int) := by
  have h1 := Sector.yes 1 (m : Int) (by decide) (by omega) (by show (m : Int) < 3; omega)
  have h2 : Sector.S 1 = 3 := by decide
  rw [h2] at h1
  have h3 : Sector.sectorOf 1 (m : Int) = (m : Int) + 3 := h1
  rw [h3]; omega
theorem kind1 (m : Nat) (h : m < 3) : kindOf (3 + m) = 1 := by unfold kindOf; rw [if_neg (by omega)]; rw [if_pos (by omega)]

theorem sec2 (m : Nat) (h : m < 3) : Sector.sectorOf 2 (m : Int) = ((6 + m : Nat) : Int) := by
  have h1 := Sector.yes 2 (m : Int) (by decide) (by omega) (by show (m : Int) < 3; omega)
  have h2 : Sector.S 2 = 6 := by decide
  rw [h2] at h1
  have h3 : Sector.sectorOf 2 (m : Int) = (m : Int) + 6 := h1
  rw [h3]; omega
theorem kind2 (m : Nat) (h : m < 3) : kindOf (6 + m) = 2 := by unfold kindOf; rw [if_neg (by omega)]; rw [if_neg (by omega)]; rw [if_pos (by omega)]

theorem sec3 (m : Nat) (h : m < 4) : Sector.sectorOf 3 (m : Int) = ((9 + m : Nat) : Int) := by
  have h1 := Sector.yes 3 (m : Int) (by decide) (by omega) (by show (m : Int) < 4; omega)
  have h2 : Sector.S 3 = 9 := by decide
  rw [h2] at h1
  have h3 : Sector.sectorOf 3 (m : Int) = (m : Int) + 9 := h1
  rw [h3]; omega
theorem kind3 (m : Nat) (h : m < 4) : kindOf (9 + m) = 3 := by unfold kindOf; rw [if_neg (by omega)]; rw [if_neg (by omega)]; rw [if_neg (by omega)]; rw [if_pos (by omega)]

theorem sec4 (m : Nat) (h : m < 3) : Sector.sectorOf 4 (m : Int) = ((13 + m : Nat) : Int) := by
  have h1 := Sector.yes 4 (m : Int) (by decide) (by omega) (by show (m : Int) < 3; omega)
  have h2 : Sector.S 4 = 13 := by decide
  rw [h2] at h1
  have h3 : Sector.sectorOf 4 (m : Int) = (m : Int) + 13 := h1
  rw [h3]; omega
theorem kind4 (m : Nat) (h : m < 3) : kindOf (13 + m) = 4 := by unfold kindOf; rw [if_neg (by omega)]; rw [if_neg (by omega)]; rw [if_neg (by omega)]; rw [if_neg (by omega)]; rw [if_pos (by omega)]

theorem sec5 (m : Nat) (h : m < 18) : Sector.sectorOf 5 (m : Int) = ((16 + m : Nat) : Int) := by
  have h1 := Sector.yes 5 (m : Int) (by decide) (by omega) (by show (m : Int) < 18; omega)
  have h2 : Sector.S 5 = 16 := by decide
  rw [h2] at h1
  have h3 : Sector.sectorOf 5 (m : Int) = (m : Int) + 16 := h1
  rw [h3]; omega
theorem kind5 (m : Nat) (h : m < 18) : kindOf (16 + m) = 5 := by unfold kindOf; rw [if_neg (by omega)]; rw [if_neg (by omega)]; rw [if_neg (by omega)]; rw [if_neg (by omega)]; rw [if_neg (by omega)]

set_option maxRecDepth 100000 in
set_option maxHeartbeats 1000000 in
theorem isSectorOf (R : ByteArray → Int × Nat) (hR : Reads R) (hT : ∀ s : ByteArray, s.size ≤ maxLen → Tx s (R s)) (k : Nat) (hk : k < 6) (s : ByteArray) (hs : s.size ≤ 1048576) (w : World) (u : TypeId) (pv : Value) (hL : Lacks w u pv) (T : Sums w) :
    Calls Tryz.prog 91 #[.int .i64 (k : Int), .string s] w fun e w' => e = .returned (.bool (secOk R k s)) ∧ Below w.heap.size w w' := by
  have HR := hid hR
  have HTx := hid hT
  have HL := hid hL
  have HT := hid T
  have hc : k = 0 ∨ k = 1 ∨ k = 2 ∨ k = 3 ∨ k = 4 ∨ k = 5 := by omega
  clear hR hT hL T hk
  rcases hc with rfl | rfl | rfl | rfl | rfl | rfl
  · go_enter Tryz.func91, Tryz.ntmps91
    go_wp2_with fail
    refine (iHost R HR.out HTx.out s hs w u pv HL.out HT.out).mono ?_
    rintro e w1 ⟨b, x, y, rfl, b1⟩
    have HB := hid b1
    clear b1
    generalize hq : secOk R 0 s = q
    have HQ := hid hq
    clear hq
    go_wp2
    go_ret
    exact ⟨by rw [HQ.out]; rfl, HB.out⟩
  · go_enter Tryz.func91, Tryz.ntmps91
    go_wp2_with fail
    refine (iJournal R HR.out HTx.out s hs w u pv HL.out HT.out).mono ?_
    rintro e w1 ⟨J, a, cap, rfl, b1⟩
    have HB := hid b1
    clear b1
    generalize hq : secOk R 1 s = q
    have HQ := hid hq
    clear hq
    go_wp2
    go_ret
    exact ⟨by rw [HQ.out]; rfl, HB.out⟩
  · go_enter Tryz.func91, Tryz.ntmps91
    go_wp2_with fail
    refine (iFrees R HR.out HTx.out s hs w u pv HL.out HT.out).mono ?_
    rintro e w1 ⟨v, rfl, b1⟩
    have HB := hid b1
    clear b1
    generalize hq : secOk R 2 s = q
    have HQ := hid hq
    clear hq
    go_wp2
    go_ret
    exact ⟨by rw [HQ.out]; rfl, HB.out⟩
  · go_enter Tryz.func91, Tryz.ntmps91
    go_wp2_with fail
    refine (iVol R HR.out HTx.out s hs w u pv HL.out HT.out).mono ?_
    rintro e w1 ⟨h, p, on, a, m, cap, rfl, b1⟩
    have HB := hid b1
    clear b1
    generalize hq : secOk R 3 s = q
    have HQ := hid hq
    clear hq
    go_wp2
    go_ret
    exact ⟨by rw [HQ.out]; rfl, HB.out⟩
  · go_enter Tryz.func91, Tryz.ntmps91
    go_wp2_with fail
    refine (iGroup R HR.out HTx.out s hs w u pv HL.out HT.out).mono ?_
    rintro e w1 ⟨h, p, a, m, cap, rfl, b1⟩
    have HB := hid b1
    clear b1
    generalize hq : secOk R 4 s = q
    have HQ := hid hq
    clear hq
    go_wp2
    go_ret
    exact ⟨by rw [HQ.out]; rfl, HB.out⟩
  · have HQ : Hid (secOk R 5 s = decide ((s.size : Int) ≤ 16)) := rfl
    go_enter Tryz.func91, Tryz.ntmps91
    go_wp2
    go_ret
    exact ⟨by rw [HQ.out]; rfl, Below.refl _ _⟩

end Go.Proofs.YtogebppolkfldaaGreatDoor.Pk

namespace Go.Proofs.YtogebppolkfldaaGreatDoor.Pl
open Go.RowKit Go.Proofs.YtogebppolkfldaaGreatDoor.Mem Go.Proofs.YtogebppolkfldaaGreatDoor.Sec Go.Proofs.YtogebppolkfldaaGreatDoor.Pk
set_option linter.unusedVariables false

/-- Is the host the one of its place, right, and no newer than the disk says. -/
def hoIs (ep : List Int) (i : Nat) (H : Ho) : Bool := decide (H.id = (i : Int)) && (H.ok && !(H.up && decide (ep.getD i 0 < H.ep)))
def hostsOk (hs : List Ho) (ep : List Int) : Bool := decide (hs.length = 3) && (List.range 3).all fun i => hoIs ep i (hs.getD i Ho.none)
def evOk (e : Ev) : Bool := decide (0 ≤ e.h ∧ e.h < 3) && (decide (1 ≤ e.x ∧ e.x ≤ 1000000) && (opRight e.k e.v e.t e.a e.s && decide (e.k ≤ 6)))
def rpOk (n : Nat) (r : Rp) : Bool := decide (0 ≤ r.h ∧ r.h < 3) && (opRight r.k r.v r.t r.a r.s && (decide (0 ≤ r.c ∧ r.c ≤ 6) && (decide ((r.d.size : Int) ≤ 700) && decide (0 ≤ r.m ∧ r.m ≤ (n : Int)))))
def evsOk (l : List Ev) : Bool := decide (l.length ≤ 400) && l.all evOk
def rpsOk (n : Nat) (l : List Rp) : Bool := decide (l.length ≤ 400) && l.all (rpOk n)
def seenOk (l : List Int) : Bool := decide (l.length = 3) && between 0 1000000 l
/-- Is a world right. -/
def Wd.ok (R : ByteArray → Int × Nat) (X : Wd) : Bool := X.D.right && (poolOk R X.D.sec && (hostsOk X.hs X.D.ep && (seenOk X.seen && (evsOk X.log && rpsOk X.log.length X.rep))))

theorem all_false {α : Type} (l : List α) (p : α → Bool) (d : α) (k : Nat) (hk : k < l.length) (h : p (l.getD k d) = false) : l.all p = false := by
  rw [List.all_eq_false]
  refine ⟨l.getD k d, ?_, by rw [h]; decide⟩
  rw [List.getD, List.getElem?_eq_getElem hk]
  exact List.getElem_mem hk
theorem all_true {α : Type} (l : List α) (p : α → Bool) (d : α) (h : ∀ j, j < l.length → p (l.getD j d) = true) : l.all p = true := by
  rw [List.all_eq_true]
  intro x hx
  obtain ⟨j, hj, rfl⟩ := List.getElem_of_mem hx
  have := h j hj
  rwa [List.getD, List.getElem?_eq_getElem hj] at this

theorem hosts_no1 {hs : List Ho} {ep : List Int} (h : ¬ hs.length = 3) : hostsOk hs ep = false := by unfold hostsOk; rw [decide_eq_false h]; rfl
theorem hosts_no2 {hs : List Ho} {ep : List Int} (i : Nat) (hi : i < 3) (h : hoIs ep i (hs.getD i Ho.none) = false) : hostsOk hs ep = false := by
  unfold hostsOk
  have : ((List.range 3).all fun i => hoIs ep i (hs.getD i Ho.none)) = false := by
    rw [List.all_eq_false]
    exact ⟨i, List.mem_range.2 hi, by rw [h]; decide⟩
  rw [this, Bool.and_false]
theorem hosts_yes {hs : List Ho} {ep : List Int} (h3 : hs.length = 3) (h : ∀ i, i < 3 → hoIs ep i (hs.getD i Ho.none) = true) : hostsOk hs ep = true := by
  unfold hostsOk
  rw [decide_eq_true h3, Bool.true_and, List.all_eq_true]
  exact fun i hi => h i (List.mem_range.1 hi)
theorem hosts_len {hs : List Ho} {ep : List Int} (h : hostsOk hs ep = true) : hs.length = 3 := by
  unfold hostsOk at h
  simp only [Bool.and_eq_true, decide_eq_true_eq] at h
  exact h.1
theorem hosts_at {hs : List Ho} {ep : List Int} (h : hostsOk hs ep = true) (i : Nat) (hi : i < 3) : hoIs ep i (hs.getD i Ho.none) = true := by
  unfold hostsOk at h
  simp only [Bool.and_eq_true] at h
  exact List.all_eq_true.1 h.2 i (List.mem_range.2 hi)

theorem evs_no1 {l : List Ev} (h : 400 < (l.length : Int)) : evsOk l = false := by unfold evsOk; rw [decide_eq_false (by omega)]; rfl
theorem evs_no2 {l : List Ev} (k : Nat) (hk : k < l.length) (h : evOk (l.getD k Ev.none) = false) : evsOk l = false := by unfold evsOk; rw [all_false l evOk Ev.none k hk h, Bool.and_false]
theorem evs_yes {l : List Ev} (h1 : (l.length : Int) ≤ 400) (h : ∀ j, j < l.length → evOk (l.getD j Ev.none) = true) : evsOk l = true := by unfold evsOk; rw [all_true l evOk Ev.none h, decide_eq_true (by omega)]; rfl
theorem rps_no1 {n : Nat} {l : List Rp} (h : 400 < (l.length : Int)) : rpsOk n l = false := by unfold rpsOk; rw [decide_eq_false (by omega)]; rfl
theorem rps_no2 {n : Nat} {l : List Rp} (k : Nat) (hk : k < l.length) (h : rpOk n (l.getD k Rp.none) = false) : rpsOk n l = false := by unfold rpsOk; rw [all_false l (rpOk n) Rp.none k hk h, Bool.and_false]
theorem rps_yes {n : Nat} {l : List Rp} (h1 : (l.length : Int) ≤ 400) (h : ∀ j, j < l.length → rpOk n (l.getD j Rp.none) = true) : rpsOk n l = true := by unfold rpsOk; rw [all_true l (rpOk n) Rp.none h, decide_eq_true (by omega)]; rfl
theorem seen_no1 {l : List Int} (h : ¬ l.length = 3) : seenOk l = false := by unfold seenOk; rw [decide_eq_false h]; rfl

theorem ok_no1 {R : ByteArray → Int × Nat} {X : Wd} (h : X.D.right = false) : X.ok R = false := by unfold Wd.ok; rw [h]; rfl
theorem ok_no2 {R : ByteArray → Int × Nat} {X : Wd} (h : poolOk R X.D.sec = false) : X.ok R = false := by unfold Wd.ok; rw [h]; simp
theorem ok_no3 {R : ByteArray → Int × Nat} {X : Wd} (h : hostsOk X.hs X.D.ep = false) : X.ok R = false := by unfold Wd.ok; rw [h]; simp
theorem ok_no4 {R : ByteArray → Int × Nat} {X : Wd} (h : seenOk X.seen = false) : X.ok R = false := by unfold Wd.ok; rw [h]; simp
theorem ok_no5 {R : ByteArray → Int × Nat} {X : Wd} (h : evsOk X.log = false) : X.ok R = false := by unfold Wd.ok; rw [h]; simp
theorem ok_no6 {R : ByteArray → Int × Nat} {X : Wd} (h : rpsOk X.log.length X.rep = false) : X.ok R = false := by unfold Wd.ok; rw [h]; simp
theorem ok_yes {R : ByteArray → Int × Nat} {X : Wd} (h1 : X.D.right = true) (h2 : poolOk R X.D.sec = true) (h3 : hostsOk X.hs X.D.ep = true) (h4 : seenOk X.seen = true) (h5 : evsOk X.log = true) (h6 : rpsOk X.log.length X.rep = true) : X.ok R = true := by unfold Wd.ok; rw [h1, h2, h3, h4, h5, h6]; rfl
theorem ok_parts {R : ByteArray → Int × Nat} {X : Wd} (h : X.ok R = true) : X.D.right = true ∧ poolOk R X.D.sec = true ∧ hostsOk X.hs X.D.ep = true ∧ seenOk X.seen = true ∧ evsOk X.log = true ∧ rpsOk X.log.length X.rep = true := by
  unfold Wd.ok at h
  simpa only [Bool.and_eq_true] using h

theorem right_ep {D : Dk} (h : D.right = true) : D.ep.length = 3 := by
  unfold Dk.right at h
  exact (of_decide_eq_true h).2.2.1

end Go.Proofs.YtogebppolkfldaaGreatDoor.Pl

namespace Go.Proofs.YtogebppolkfldaaGreatDoor.Hd
open Go.RowKit Go.Proofs.YtogebppolkfldaaGreatDoor.Mem Go.Proofs.YtogebppolkfldaaGreatDoor.Sec Go.Proofs.YtogebppolkfldaaGreatDoor.Rd Go.Proofs.YtogebppolkfldaaGreatDoor.Pk Go.Proofs.YtogebppolkfldaaGreatDoor.Pl
set_option linter.unusedVariables false

def liveAt (X : Wd) (i : Nat) : Bool := (X.hs.getD i Ho.none).up && decide ((X.hs.getD i Ho.none).ep = X.D.ep.getD i 0)
def keyAt (X : Wd) (i : Nat) : LK := ((i : Int), (X.hs.getD i Ho.none).ep)
/-- The leases that the first n hosts know as their own, those that live. -/
def leasesTo (X : Wd) (n : Nat) : List LK := ((List.range n).filter (liveAt X)).map (keyAt X)

theorem leases_len (X : Wd) (n : Nat) : (leasesTo X n).length ≤ n := by
  unfold leasesTo
  rw [List.length_map]
  have := List.length_filter_le (liveAt X) (List.range n)
  rw [List.length_range] at this
  exact this
theorem leases_yes {X : Wd} {n : Nat} (h : liveAt X n = true) : leasesTo X (n + 1) = leasesTo X n ++ [keyAt X n] := by
  unfold leasesTo
  rw [List.range_succ, List.filter_append, List.map_append]
  simp [h]
theorem leases_no {X : Wd} {n : Nat} (h : liveAt X n = false) : leasesTo X (n + 1) = leasesTo X n := by
  unfold leasesTo
  rw [List.range_succ, List.filter_append, List.map_append]
  simp [h]
theorem count_yes {X : Wd} {n : Nat} (h : liveAt X n = true) {x : LK} (e : x = keyAt X n) : (leasesTo X (n + 1)).count x = (leasesTo X n).count x + 1 := by
  rw [leases_yes h, count_more, if_pos e.symm]
theorem count_no1 {X : Wd} {n : Nat} (h : liveAt X n = false) (x : LK) : (leasesTo X (n + 1)).count x = (leasesTo X n).count x := by rw [leases_no h]
theorem count_no2 {X : Wd} {n : Nat} {x : LK} (e : ¬ x = keyAt X n) : (leasesTo X (n + 1)).count x = (leasesTo X n).count x := by
  cases h : liveAt X n
  · rw [leases_no h]
  · rw [leases_yes h, count_more, if_neg (fun q => e q.symm)]
    rfl

/-- The lease of a sector of its kind. -/
def leaseOf (R : ByteArray → Int × Nat) (k : Int) (s : ByteArray) : LK :=
  if k = 3 then (match readVol R s with | some (h, e, _, _) => (h, e) | none => (0, 0)) else (match readGroup R s with | some (h, e, _) => (h, e) | none => (0, 0))
/-- How many hold it. -/
def held (R : ByteArray → Int × Nat) (X : Wd) (k i : Int) : Int :=
  if X.ok R = true ∧ (k = 3 ∨ k = 4) ∧ 0 ≤ Sector.sectorOf k i then ((leasesTo X 3).count (leaseOf R k (X.D.sec.getD (Sector.sectorOf k i).toNat ByteArray.empty)) : Int) else 0

theorem held_no1 {R : ByteArray → Int × Nat} {X : Wd} (h : X.ok R = false) (k i : Int) : held R X k i = 0 := if_neg (fun x => by rw [h] at x; exact absurd x.1 (by decide))
theorem held_no2 {R : ByteArray → Int × Nat} {X : Wd} {k : Int} (h3 : ¬ k = 3) (h4 : ¬ k = 4) (i : Int) : held R X k i = 0 := if_neg (fun x => by rcases x.2.1 with h | h; exact h3 h; exact h4 h)
theorem held_no3 {R : ByteArray → Int × Nat} {X : Wd} {k i : Int} (h : Sector.sectorOf k i < 0) : held R X k i = 0 := if_neg (fun x => by have := x.2.2; omega)
theorem sec3_in {i : Int} (h : 0 ≤ Sector.sectorOf 3 i) : ∃ m : Nat, i = (m : Int) ∧ m < 4 := by
  unfold Sector.sectorOf at h
  split at h
  · rename_i q
    obtain ⟨m, rfl⟩ := Int.eq_ofNat_of_zero_le q.2.1
    have hm := q.2.2
    have : Sector.many.getD (3 : Int).toNat 0 = 4 := by decide
    rw [this] at hm
    exact ⟨m, rfl, by omega⟩
  · omega
theorem sec4_in {i : Int} (h : 0 ≤ Sector.sectorOf 4 i) : ∃ m : Nat, i = (m : Int) ∧ m < 3 := by
  unfold Sector.sectorOf at h
  split at h
  · rename_i q
    obtain ⟨m, rfl⟩ := Int.eq_ofNat_of_zero_le q.2.1
    have hm := q.2.2
    have : Sector.many.getD (4 : Int).toNat 0 = 3 := by decide
    rw [this] at hm
    exact ⟨m, rfl, by omega⟩
  · omega
theorem held_vol {R : ByteArray → Int × Nat} {X : Wd} (h : X.ok R = true) (m : Nat) (hm : m < 4) {a e : Int} {on : Bool} {l : List Int} (q : readVol R (X.D.sec.getD (9 + m) ByteArray.empty) = some (a, e, on, l)) : held R X 3 (m : Int) = ((leasesTo X 3).count (a, e) : Int) := by
  unfold held
  rw [sec3 m hm, if_pos ⟨h, Or.inl rfl, by omega⟩]
  unfold leaseOf
  rw [if_pos rfl, show ((9 + m : Nat) : Int).toNat = 9 + m by omega, q]
theorem held_group {R : ByteArray → Int × Nat} {X : Wd} (h : X.ok R = true) (m : Nat) (hm : m < 3) {a e : Int} {l : List Int} (q : readGroup R (X.D.sec.getD (13 + m) ByteArray.empty) = some (a, e, l)) : held R X 4 (m : Int) = ((leasesTo X 3).count (a, e) : Int) := by
  unfold held
  rw [sec4 m hm, if_pos ⟨h, Or.inr rfl, by omega⟩]
  unfold leaseOf
  rw [if_neg (by decide), show ((13 + m : Nat) : Int).toNat = 13 + m by omega, q]

theorem pool_at {R : ByteArray → Int × Nat} {l : List ByteArray} (h : poolOk R l = true) (i : Nat) (hi : i < 34) : secOk R (kindOf i) (l.getD i ByteArray.empty) = true := by
  unfold poolOk at h
  simp only [Bool.and_eq_true] at h
  exact List.all_eq_true.1 h.2 i (List.mem_range.2 hi)
theorem vol_at {R : ByteArray → Int × Nat} {l : List ByteArray} (h : poolOk R l = true) (i : Nat) (hi : i < 4) : ∃ x, readVol R (l.getD (9 + i) ByteArray.empty) = some x := by
  have := pool_at h (9 + i) (by omega)
  rw [kind3 i hi] at this
  exact Option.isSome_iff_exists.1 this
theorem group_at {R : ByteArray → Int × Nat} {l : List ByteArray} (h : poolOk R l = true) (i : Nat) (hi : i < 3) : ∃ x, readGroup R (l.getD (13 + i) ByteArray.empty) = some x := by
  have := pool_at h (13 + i) (by omega)
  rw [kind4 i hi] at this
  exact Option.isSome_iff_exists.1 this

/-- The fifth byte of a text that is read as a volume. -/
theorem vol_tag {R : ByteArray → Int × Nat} (hR : Reads R) {s : ByteArray} (hs : s.size ≤ 1048576) {x : Int × Int × Bool × List Int} (q : readVol R s = some x) : ∃ Y, rest s 4 = ⟨#[118]⟩ ++ Y := by
  by_cases hz : s.size ≤ 5
  · rw [readVol_short R hR s hz hs] at q; cases q
  unfold readVol at q
  split at q
  · rename_i a e f l _ _
    split at q
    · rename_i hsh
      by_cases hv : volOk (a - 1) e (decide (f = 1)) (l.map (· + -1)) = true
      · rw [← vol_yes hv] at hsh
        unfold summed showLs at hsh
        obtain ⟨A, hA⟩ : ∃ A, Go.Proofs.YtogebppolkfldaaGreatDoor.Fix.fxS (crc (⟨#[118]⟩ ++ (vr (a - 1 + 1) ++ vr e) ++ flag (decide (f = 1)) ++ vrs (-1) (l.map (· + -1)))) 4 = A := ⟨_, rfl⟩
        have hA4 : A.size = 4 := by rw [← hA, Go.Proofs.YtogebppolkfldaaGreatDoor.Fix.fxS_size]
        rw [hA] at hsh
        refine ⟨(vr (a - 1 + 1) ++ vr e) ++ flag (decide (f = 1)) ++ vrs (-1) (l.map (· + -1)), ?_⟩
        rw [← hsh]
        have := rest_app A (⟨#[118]⟩ ++ (vr (a - 1 + 1) ++ vr e) ++ flag (decide (f = 1)) ++ vrs (-1) (l.map (· + -1))) 4 hA4.symm
        rw [this]
        simp only [ByteArray.append_assoc]
      · rw [vol_no (by simpa using hv)] at hsh
        rw [← hsh] at hz
        exact absurd (show (⟨#[]⟩ : ByteArray).size ≤ 5 by decide) hz
    · cases q
  · cases q

theorem group_tag {R : ByteArray → Int × Nat} (hR : Reads R) {s : ByteArray} (hs : s.size ≤ 1048576) {x : Int × Int × List Int} (q : readGroup R s = some x) : ∃ Y, rest s 4 = ⟨#[103]⟩ ++ Y := by
  by_cases hz : s.size ≤ 5
  · rw [readGroup_short R hR s hz hs] at q; cases q
  unfold readGroup at q
  split at q
  · rename_i a e l _ _
    split at q
    · rename_i hsh
      by_cases hv : groupOk (a - 1) e l = true
      · rw [← group_yes hv] at hsh
        unfold summed showLs at hsh
        obtain ⟨A, hA⟩ : ∃ A, Go.Proofs.YtogebppolkfldaaGreatDoor.Fix.fxS (crc (⟨#[103]⟩ ++ (vr (a - 1 + 1) ++ vr e) ++ vrs 0 l)) 4 = A := ⟨_, rfl⟩
        have hA4 : A.size = 4 := by rw [← hA, Go.Proofs.YtogebppolkfldaaGreatDoor.Fix.fxS_size]
        rw [hA] at hsh
        refine ⟨(vr (a - 1 + 1) ++ vr e) ++ vrs 0 l, ?_⟩
        rw [← hsh]
        have := rest_app A (⟨#[103]⟩ ++ (vr (a - 1 + 1) ++ vr e) ++ vrs 0 l) 4 hA4.symm
        rw [this]
        simp only [ByteArray.append_assoc]
      · rw [group_no (by simpa using hv)] at hsh
        rw [← hsh] at hz
        exact absurd (show (⟨#[]⟩ : ByteArray).size ≤ 5 by decide) hz
    · cases q
  · cases q

theorem no_both {R : ByteArray → Int × Nat} (hR : Reads R) {s : ByteArray} (hs : s.size ≤ 1048576) {x : Int × Int × Bool × List Int} {y : Int × Int × List Int} (h : readVol R s = some x) (k : readGroup R s = some y) : False := by
  obtain ⟨A, hA⟩ := vol_tag hR hs h
  obtain ⟨B, hB⟩ := group_tag hR hs k
  rw [hA] at hB
  have := congrArg (fun b : ByteArray => b.data.toList.getD 0 0) hB
  simp at this
theorem no_group {R : ByteArray → Int × Nat} (hR : Reads R) {s : ByteArray} (hs : s.size ≤ 1048576) {x : Int × Int × Bool × List Int} (h : readVol R s = some x) : readGroup R s = none := by
  cases k : readGroup R s with
  | none => rfl
  | some y => exact (no_both hR hs h k).elim
theorem no_vol {R : ByteArray → Int × Nat} (hR : Reads R) {s : ByteArray} (hs : s.size ≤ 1048576) {y : Int × Int × List Int} (k : readGroup R s = some y) : readVol R s = none := by
  cases h : readVol R s with
  | none => rfl
  | some x => exact (no_both hR hs h k).elim

end Go.Proofs.YtogebppolkfldaaGreatDoor.Hd

namespace Go.Proofs.YtogebppolkfldaaGreatDoor.Pl
open Go.RowKit Go.Proofs.YtogebppolkfldaaGreatDoor.Mem
set_option linter.unusedVariables false

theorem wpList_elem {P : Program} {ops : Array Oper} {rest : List Oper} {o0 o1 o2 : Oper} {a : Act} {w : World} {Q : Exit → Act → World → Prop} (g0 : o0.guard = none) (g1 : o1.guard = none) (g2 : o2.guard = none)
    (ty0 : TypeId) (x0 : Operand) (p0 : o0.op = .load ty0 x0) (b o : Nat) (e0 : a.eval x0 = .pointer (some ⟨b, o, none⟩)) (cs : List Value) (hr : w.rangeAt b o cs) (d0 : TypeDesc) (u0 : P.underlying ty0 = some d0) (k0 : d0.isRow = true) (n0 : (P.info? ty0).map (·.size) = some cs.length)
    (zs : List Value) (ty1 : TypeId) (al : ∀ (ρ : Operand → Value) w, (execOp ρ o1).run P w = .ok (.value (.pointer (some ⟨w.heap.size, 0, none⟩))) (w.alloc (.cells zs.toArray ty1)))
    (ty2 : TypeId) (x2 y2 : Operand) (p2 : o2.op = .store ty2 x2 y2) (i2 : (P.info? ty2).map (·.size) = some zs.length) (hl : cs.length = zs.length) (h1 : cs.all (·.oneCell') = true)
    (e2 : ((a.put o0.dst (.agg cs.toArray)).put o1.dst (.pointer (some ⟨w.heap.size, 0, none⟩))).eval x2 = .pointer (some ⟨w.heap.size, 0, none⟩)) (e3 : ((a.put o0.dst (.agg cs.toArray)).put o1.dst (.pointer (some ⟨w.heap.size, 0, none⟩))).eval y2 = .agg cs.toArray)
    (h : ∀ wz, Row wz w.heap.size cs → Below w.heap.size w wz → wpList P ops Q rest (((a.put o0.dst (.agg cs.toArray)).put o1.dst (.pointer (some ⟨w.heap.size, 0, none⟩))).put o2.dst undef) wz) :
    wpList P ops Q (o0 :: o1 :: o2 :: rest) a w := by
  refine wpList_load_mid g0 ty0 x0 p0 b o e0 cs d0 hr u0 k0 n0 ?_
  refine wpList_plain g1 (fun K hK => ?_)
  unfold Oper.wp
  rw [al, Oper.upon_value]
  refine hK _ _ ?_
  have hn := Row.new w zs ty1
  refine wpList_store_row g2 ty2 x2 y2 p2 w.heap.size e2 zs cs e3 hn hl (by rw [i2, hl]) h1 ?_
  have hrow := puts_row hn 0 cs
  rw [listed_all cs zs 0 (by omega)] at hrow
  exact h _ hrow (puts_below ((Below.refl _ w).alloc (Nat.le_refl _) _) (Nat.le_refl _) 0 cs)

/-- The same with an assignment between. -/
theorem wpList_elemA {P : Program} {ops : Array Oper} {rest : List Oper} {o0 o1 oa o2 : Oper} {a : Act} {w : World} {Q : Exit → Act → World → Prop} (g0 : o0.guard = none) (g1 : o1.guard = none) (ga : oa.guard = none) (g2 : o2.guard = none)
    (ty0 : TypeId) (x0 : Operand) (p0 : o0.op = .load ty0 x0) (b o : Nat) (e0 : a.eval x0 = .pointer (some ⟨b, o, none⟩)) (cs : List Value) (hr : w.rangeAt b o cs) (d0 : TypeDesc) (u0 : P.underlying ty0 = some d0) (k0 : d0.isRow = true) (n0 : (P.info? ty0).map (·.size) = some cs.length)
    (zs : List Value) (ty1 : TypeId) (al : ∀ (ρ : Operand → Value) w, (execOp ρ o1).run P w = .ok (.value (.pointer (some ⟨w.heap.size, 0, none⟩))) (w.alloc (.cells zs.toArray ty1)))
    (va : Value) (ra : ∀ w', (execOp ((a.put o0.dst (.agg cs.toArray)).put o1.dst (.pointer (some ⟨w.heap.size, 0, none⟩))).eval oa).run P w' = .ok (.value va) w')
    (ty2 : TypeId) (x2 y2 : Operand) (p2 : o2.op = .store ty2 x2 y2) (i2 : (P.info? ty2).map (·.size) = some zs.length) (hl : cs.length = zs.length) (h1 : cs.all (·.oneCell') = true)
    (e2 : (((a.put o0.dst (.agg cs.toArray)).put o1.dst (.pointer (some ⟨w.heap.size, 0, none⟩))).put oa.dst va).eval x2 = .pointer (some ⟨w.heap.size, 0, none⟩)) (e3 : (((a.put o0.dst (.agg cs.toArray)).put o1.dst (.pointer (some ⟨w.heap.size, 0, none⟩))).put oa.dst va).eval y2 = .agg cs.toArray)
    (h : ∀ wz, Row wz w.heap.size cs → Below w.heap.size w wz → wpList P ops Q rest ((((a.put o0.dst (.agg cs.toArray)).put o1.dst (.pointer (some ⟨w.heap.size, 0, none⟩))).put oa.dst va).put o2.dst undef) wz) :
    wpList P ops Q (o0 :: o1 :: oa :: o2 :: rest) a w := by
  refine wpList_load_mid g0 ty0 x0 p0 b o e0 cs d0 hr u0 k0 n0 ?_
  refine wpList_plain g1 (fun K hK => ?_)
  unfold Oper.wp
  rw [al, Oper.upon_value]
  refine hK _ _ ?_
  refine wpList_plain ga (fun K hK => ?_)
  unfold Oper.wp
  rw [ra, Oper.upon_value]
  refine hK _ _ ?_
  have hn := Row.new w zs ty1
  refine wpList_store_row g2 ty2 x2 y2 p2 w.heap.size e2 zs cs e3 hn hl (by rw [i2, hl]) h1 ?_
  have hrow := puts_row hn 0 cs
  rw [listed_all cs zs 0 (by omega)] at hrow
  exact h _ hrow (puts_below ((Below.refl _ w).alloc (Nat.le_refl _) _) (Nat.le_refl _) 0 cs)

end Go.Proofs.YtogebppolkfldaaGreatDoor.Pl

namespace Go.Proofs.YtogebppolkfldaaGreatDoor.Pl
open Go.RowKit Go.Proofs.YtogebppolkfldaaGreatDoor.Mem Go.Proofs.YtogebppolkfldaaGreatDoor.Sec
set_option linter.unusedVariables false

set_option maxHeartbeats 400000 in
theorem iIsHost (x : Int) (w : World) :
    Calls Tryz.prog 89 #[.int .i64 x] w fun e w' => e = .returned (.bool (decide (0 ≤ x ∧ x < 3))) ∧ w' = w := by
  by_cases h1 : 0 ≤ x
  · by_cases h2 : x < 3
    · rw [decide_eq_true (And.intro h1 h2)]
      go_enter Tryz.func89, Tryz.ntmps89
      go_wp2
      go_ret
      exact ⟨rfl, rfl⟩
    · rw [decide_eq_false (fun h => h2 h.2)]
      go_enter Tryz.func89, Tryz.ntmps89
      go_wp2
      go_ret
      exact ⟨rfl, rfl⟩
  · rw [decide_eq_false (fun h => h1 h.1)]
    go_enter Tryz.func89, Tryz.ntmps89
    go_wp2
    go_ret
    exact ⟨rfl, rfl⟩

set_option maxRecDepth 100000 in
set_option maxHeartbeats 4000000 in
theorem iKeptPlan (w : World) (cd bk : Int) (tx : ByteArray) (p : Option Addr) (c : Nat) (l : List Ou) (S : Ous w p l) (htx : tx.size ≤ 1048576) (hl : l.length ≤ 1048576) (he : ∀ x ∈ l, x.text.size ≤ 1048576) :
    Calls Tryz.prog 153 #[plnV cd bk tx p l.length c] w fun e w' => e = .returned (.bool (keptPlan cd bk tx l)) ∧ Below w.heap.size w w' := by
  unfold plnV
  have HQ : Hid (keptPlan cd bk tx l = (decide (cd = 0) && (decide (-1 ≤ bk ∧ bk ≤ 17) && (decide ((tx.size : Int) ≤ 16) && (decide (l.length ≤ 8) && outsOk l))))) := rfl
  generalize keptPlan cd bk tx l = q at *
  have HS := hid S
  have HL := hid hl
  have HE := hid he
  clear S hl he
  obtain ⟨wa, hwa, ez, A0, B0⟩ := one_new w [.int .i64 cd, .int .i64 bk, .string tx, .slice p l.length c] 66
  have k0 := A0.c 0 rfl
  have k1 := A0.c 1 rfl
  have k2 := A0.c 2 rfl
  have k3 := A0.c 3 rfl
  have HB := hid B0
  clear A0 B0 ez
  go_enter Tryz.func153, Tryz.ntmps153
  by_cases f1 : cd = 0
  rotate_left
  · rw [decide_eq_false f1, Bool.false_and] at HQ
    have f1' := beq_no f1
    go_wp2
    go_ret
    exact ⟨by rw [HQ.out]; rfl, HB.out⟩
  subst f1
  rw [decide_eq_true rfl, Bool.true_and] at HQ
  go_wp2_with fail
  try simp only [hwa]
  clear hwa
  by_cases f2 : -1 ≤ bk ∧ bk ≤ 17
  rotate_left
  · have f2' := decide_eq_false f2
    rw [f2', Bool.false_and] at HQ
    refine (f2' ▸ isFrom bk (-1) 17 _).mono ?_
    rintro r w7 ⟨rfl, hw⟩
    obtain rfl := hw.symm
    clear f2
    go_wp2
    go_ret
    exact ⟨by rw [HQ.out]; rfl, HB.out⟩
  have f2' := decide_eq_true f2
  rw [f2', Bool.true_and] at HQ
  refine (f2' ▸ isFrom bk (-1) 17 _).mono ?_
  rintro r w7 ⟨rfl, hw⟩
  obtain rfl := hw.symm
  clear f2 f2'
  by_cases f3 : (tx.size : Int) ≤ 16
  rotate_left
  · rw [decide_eq_false f3, Bool.false_and] at HQ
    have f3' := decide_eq_false f3
    go_wp2
    go_ret
    exact ⟨by rw [HQ.out]; rfl, HB.out⟩
  rw [decide_eq_true f3, Bool.true_and] at HQ
  go_wp2_with fail
  refine (areOuts wa p c l (HS.out.below HB.out) HL.out HE.out).mono ?_
  rintro r w8 ⟨rfl, b8⟩
  have HB8 := hid (HB.out.trans (b8.mono HB.out.size))
  clear b8
  go_wp2
  go_ret
  exact ⟨by rw [HQ.out]; rfl, HB8.out⟩

end Go.Proofs.YtogebppolkfldaaGreatDoor.Pl

namespace Go.Proofs.YtogebppolkfldaaGreatDoor.Pl
open Go.RowKit Go.Proofs.YtogebppolkfldaaGreatDoor.Mem Go.Proofs.YtogebppolkfldaaGreatDoor.Sec
set_option linter.unusedVariables false

set_option maxRecDepth 100000 in
set_option maxHeartbeats 8000000 in
theorem iNoCall (w : World) (H : Ho) (p : Option Addr) (c : Nat) (hl : H.l.length ≤ 1048576) :
    Calls Tryz.prog 120 #[hoV H p c] w fun r w' => r = .returned (.bool H.idle) ∧ Below w.heap.size w w' := by
  obtain ⟨id, ep, up, rd, bz, k, v, t, a, s, pc, cd, bk, tx, l, txn⟩ := H
  have HL : Hid (l.length ≤ 1048576) := hl
  clear hl
  have HQ : Hid (Ho.idle ⟨id, ep, up, rd, bz, k, v, t, a, s, pc, cd, bk, tx, l, txn⟩ = (decide (k = 0 ∧ v = 0 ∧ t = 0 ∧ a = 0 ∧ s = ⟨#[]⟩) && (decide (pc = 0) && zeroPlan cd bk tx l))) := rfl
  generalize Ho.idle ⟨id, ep, up, rd, bz, k, v, t, a, s, pc, cd, bk, tx, l, txn⟩ = q at *
  unfold hoV
  try simp only []
  obtain ⟨wa, hwa, ez, A0, B0⟩ := one_new w [.int .i64 id, .int .i64 ep, .bool up, .bool rd, .bool bz, .int .i64 k, .int .i64 v, .int .i64 t, .int .i64 a, .string s, .int .i64 pc, .int .i64 cd, .int .i64 bk, .string tx, .slice p l.length c, .int .i64 txn] 68
  have HA := hid A0
  have HB := hid B0
  clear B0 ez
  have k0 := A0.c 0 rfl
  have k1 := A0.c 1 rfl
  have k2 := A0.c 2 rfl
  have k3 := A0.c 3 rfl
  have k4 := A0.c 4 rfl
  have k5 := A0.c 5 rfl
  have k6 := A0.c 6 rfl
  have k7 := A0.c 7 rfl
  have k8 := A0.c 8 rfl
  have k9 := A0.c 9 rfl
  have k10 := A0.c 10 rfl
  have k11 := A0.c 11 rfl
  have k12 := A0.c 12 rfl
  have k13 := A0.c 13 rfl
  have k14 := A0.c 14 rfl
  have k15 := A0.c 15 rfl
  clear A0
  have hgl := guardOpT
  go_enter Tryz.func120, Tryz.ntmps120
  cases hz : decide (k = 0 ∧ v = 0 ∧ t = 0 ∧ a = 0 ∧ s = ⟨#[]⟩) with
  | false =>
    rw [hz, Bool.false_and] at HQ
    have heq := eql_is hz
    clear hz
    go_wp2
    go_ret
    exact ⟨by rw [HQ.out]; rfl, HB.out⟩
  | true =>
    rw [hz, Bool.true_and] at HQ
    have heq := eql_is hz
    clear hz
    by_cases e2 : pc = 0
    rotate_left
    · rw [decide_eq_false e2, Bool.false_and] at HQ
      have e2' := beq_no e2
      go_wp2
      go_ret
      exact ⟨by rw [HQ.out]; rfl, HB.out⟩
    subst e2
    rw [decide_eq_true rfl, Bool.true_and] at HQ
    go_wp2_with fail
    try simp only [hwa]
    clear hwa
    refine (iZeroPlan _ cd bk tx p c l HL.out).mono ?_
    rintro r w4 ⟨rfl, b4⟩
    have HB4 := hid (HB.out.trans (b4.mono HB.out.size))
    clear b4 heq
    go_wp2
    go_ret
    exact ⟨by rw [HQ.out]; rfl, HB4.out⟩

end Go.Proofs.YtogebppolkfldaaGreatDoor.Pl

namespace Go.Proofs.YtogebppolkfldaaGreatDoor.Pl
open Go.RowKit Go.Proofs.YtogebppolkfldaaGreatDoor.Mem Go.Proofs.YtogebppolkfldaaGreatDoor.Sec
set_option linter.unusedVariables false

set_option maxRecDepth 100000 in
set_option maxHeartbeats 8000000 in
theorem iFallen (w : World) (H : Ho) (p : Option Addr) (c : Nat) (hl : H.l.length ≤ 1048576) :
    Calls Tryz.prog 119 #[hoV H p c] w fun r w' => r = .returned (.bool H.down) ∧ Below w.heap.size w w' := by
  obtain ⟨id, ep, up, rd, bz, k, v, t, a, s, pc, cd, bk, tx, l, txn⟩ := H
  have HL : Hid (l.length ≤ 1048576) := hl
  clear hl
  obtain ⟨I, hI⟩ : ∃ I, Ho.idle ⟨id, ep, up, rd, bz, k, v, t, a, s, pc, cd, bk, tx, l, txn⟩ = I := ⟨_, rfl⟩
  have HI := hid hI
  have HQ : Hid (Ho.down ⟨id, ep, up, rd, bz, k, v, t, a, s, pc, cd, bk, tx, l, txn⟩ = (decide (ep = 0) && (!rd && (!bz && (decide (txn = 0) && Ho.idle ⟨id, ep, up, rd, bz, k, v, t, a, s, pc, cd, bk, tx, l, txn⟩))))) := rfl
  generalize Ho.down ⟨id, ep, up, rd, bz, k, v, t, a, s, pc, cd, bk, tx, l, txn⟩ = q at *
  unfold hoV
  try simp only []
  obtain ⟨wa, hwa, ez, A0, B0⟩ := one_new w [.int .i64 id, .int .i64 ep, .bool up, .bool rd, .bool bz, .int .i64 k, .int .i64 v, .int .i64 t, .int .i64 a, .string s, .int .i64 pc, .int .i64 cd, .int .i64 bk, .string tx, .slice p l.length c, .int .i64 txn] 68
  have HA := hid A0
  have HB := hid B0
  clear B0 ez
  have k0 := A0.c 0 rfl
  have k1 := A0.c 1 rfl
  have k2 := A0.c 2 rfl
  have k3 := A0.c 3 rfl
  have k4 := A0.c 4 rfl
  have k5 := A0.c 5 rfl
  have k6 := A0.c 6 rfl
  have k7 := A0.c 7 rfl
  have k8 := A0.c 8 rfl
  have k9 := A0.c 9 rfl
  have k10 := A0.c 10 rfl
  have k11 := A0.c 11 rfl
  have k12 := A0.c 12 rfl
  have k13 := A0.c 13 rfl
  have k14 := A0.c 14 rfl
  have k15 := A0.c 15 rfl
  clear A0
  have hgl := guardOpT
  go_enter Tryz.func119, Tryz.ntmps119
  rw [HI.out] at HQ
  clear hI
  by_cases e1 : ep = 0
  rotate_left
  · rw [decide_eq_false e1, Bool.false_and] at HQ
    have e1' := beq_no e1
    go_wp2
    go_ret
    exact ⟨by rw [HQ.out]; rfl, HB.out⟩
  subst e1
  rw [decide_eq_true rfl, Bool.true_and] at HQ
  cases rd with
  | true =>
    simp only [Bool.not_true, Bool.false_and] at HQ
    go_wp2
    go_ret
    exact ⟨by rw [HQ.out]; rfl, HB.out⟩
  | false =>
    simp only [Bool.not_false, Bool.true_and] at HQ
    cases bz with
    | true =>
      simp only [Bool.not_true, Bool.false_and] at HQ
      go_wp2
      go_ret
      exact ⟨by rw [HQ.out]; rfl, HB.out⟩
    | false =>
      simp only [Bool.not_false, Bool.true_and] at HQ
      by_cases e3 : txn = 0
      rotate_left
      · rw [decide_eq_false e3, Bool.false_and] at HQ
        have e3' := beq_no e3
        go_wp2
        go_ret
        exact ⟨by rw [HQ.out]; rfl, HB.out⟩
      subst e3
      rw [decide_eq_true rfl, Bool.true_and] at HQ
      go_wp2_with fail
      try simp only [hwa]
      clear hwa
      refine (iNoCall wa ⟨id, 0, up, false, false, k, v, t, a, s, pc, cd, bk, tx, l, 0⟩ p c HL.out).mono ?_
      rintro r w4 ⟨rfl, b4⟩
      have HB4 := hid (HB.out.trans (b4.mono HB.out.size))
      rw [HI.out]
      clear b4
      go_wp2
      go_ret
      exact ⟨by rw [HQ.out]; rfl, HB4.out⟩

end Go.Proofs.YtogebppolkfldaaGreatDoor.Pl

namespace Go.Proofs.YtogebppolkfldaaGreatDoor.Pl
open Go.RowKit Go.Proofs.YtogebppolkfldaaGreatDoor.Mem Go.Proofs.YtogebppolkfldaaGreatDoor.Sec
set_option linter.unusedVariables false

set_option maxRecDepth 100000 in
set_option maxHeartbeats 8000000 in
theorem iRightCall (w : World) (H : Ho) (p : Option Addr) (c : Nat) (S : Ous w p H.l) (hu : H.Upto 1048576) :
    Calls Tryz.prog 121 #[hoV H p c] w fun r w' => r = .returned (.bool H.busy) ∧ Below w.heap.size w w' := by
  obtain ⟨id, ep, up, rd, bz, k, v, t, a, s, pc, cd, bk, tx, l, txn⟩ := H
  have HS : Hid (Ous w p l) := S
  have hs : s.size ≤ 1048576 := hu.s
  have htx : tx.size ≤ 1048576 := hu.tx
  have HL : Hid (l.length ≤ 1048576) := hu.l
  have HE : Hid (∀ x ∈ l, x.text.size ≤ 1048576) := hu.each
  clear S hu
  have HZK := hid (@zero_kept cd bk tx l)
  have HQ : Hid (Ho.busy ⟨id, ep, up, rd, bz, k, v, t, a, s, pc, cd, bk, tx, l, txn⟩ = (opRight k v t a s && (decide (0 ≤ pc ∧ pc ≤ 20) && (!(decide (1 ≤ pc ∧ pc ≤ 3) && decide (1000000 ≤ txn)) && (if pc = 0 then zeroPlan cd bk tx l else keptPlan cd bk tx l))))) := rfl
  generalize Ho.busy ⟨id, ep, up, rd, bz, k, v, t, a, s, pc, cd, bk, tx, l, txn⟩ = q at *
  unfold hoV
  try simp only []
  obtain ⟨wa, hwa, ez, A0, B0⟩ := one_new w [.int .i64 id, .int .i64 ep, .bool up, .bool rd, .bool bz, .int .i64 k, .int .i64 v, .int .i64 t, .int .i64 a, .string s, .int .i64 pc, .int .i64 cd, .int .i64 bk, .string tx, .slice p l.length c, .int .i64 txn] 68
  have HA := hid A0
  have HB := hid B0
  clear B0 ez
  have k0 := A0.c 0 rfl
  have k1 := A0.c 1 rfl
  have k2 := A0.c 2 rfl
  have k3 := A0.c 3 rfl
  have k4 := A0.c 4 rfl
  have k5 := A0.c 5 rfl
  have k6 := A0.c 6 rfl
  have k7 := A0.c 7 rfl
  have k8 := A0.c 8 rfl
  have k9 := A0.c 9 rfl
  have k10 := A0.c 10 rfl
  have k11 := A0.c 11 rfl
  have k12 := A0.c 12 rfl
  have k13 := A0.c 13 rfl
  have k14 := A0.c 14 rfl
  have k15 := A0.c 15 rfl
  clear A0
  have hgl := guardOpT
  go_enter Tryz.func121, Tryz.ntmps121
  go_wp2_with fail
  try simp only [hwa]
  clear hwa
  cases hz : opRight k v t a s with
  | false =>
    rw [hz, Bool.false_and] at HQ
    have ho := iOpOk k v t a s wa hs
    rw [hz] at ho
    refine ho.mono ?_
    rintro r w4 ⟨rfl, b4⟩
    have HB4 := hid (HB.out.trans (b4.mono HB.out.size))
    clear b4 hz ho
    go_wp2
    go_ret
    exact ⟨by rw [HQ.out]; rfl, HB4.out⟩
  | true =>
    rw [hz, Bool.true_and] at HQ
    have ho := iOpOk k v t a s wa hs
    rw [hz] at ho
    refine ho.mono ?_
    rintro r w4 ⟨rfl, b4⟩
    have HB4 := hid (HB.out.trans (b4.mono HB.out.size))
    have HA4 := hid (HA.out.below b4 HA.out.lt)
    clear b4 hz ho k0 k1 k2 k3 k4 k5 k6 k7 k8 k9 k10 k11 k12 k13 k14 k15
    have k10 := HA4.out.c 10 rfl
    have k11 := HA4.out.c 11 rfl
    have k12 := HA4.out.c 12 rfl
    have k13 := HA4.out.c 13 rfl
    have k14 := HA4.out.c 14 rfl
    have k15 := HA4.out.c 15 rfl
    go_wp2_with fail
    by_cases c3 : 0 ≤ pc ∧ pc ≤ 20
    rotate_left
    · have c3' := decide_eq_false c3
      rw [c3', Bool.false_and] at HQ
      refine (c3' ▸ isFrom pc 0 20 _).mono ?_
      rintro r w5 ⟨rfl, hw⟩
      obtain rfl := hw.symm
      clear c3
      go_wp2
      go_ret
      exact ⟨by rw [HQ.out]; rfl, HB4.out⟩
    have c3' := decide_eq_true c3
    rw [c3', Bool.true_and] at HQ
    refine (c3' ▸ isFrom pc 0 20 _).mono ?_
    rintro r w5 ⟨rfl, hw⟩
    obtain rfl := hw.symm
    clear c3 c3'
    go_wp2_with fail
    have hkp := iKeptPlan w4 cd bk tx p c l (HS.out.below HB4.out) htx HL.out HE.out
    cases hk : keptPlan cd bk tx l with
    | false =>
      have hif : (if pc = 0 then zeroPlan cd bk tx l else keptPlan cd bk tx l) = false := by
        split
        · cases hzz : zeroPlan cd bk tx l with
          | false => rfl
          | true => rw [HZK.out hzz] at hk; cases hk
        · exact hk
      rw [hif, Bool.and_false] at HQ
      rw [hk] at hkp
      refine hkp.mono ?_
      rintro r w6 ⟨rfl, b6⟩
      have HB6 := hid (HB4.out.trans (b6.mono HB4.out.size))
      clear b6 hkp hk hif
      go_wp2
      go_ret
      exact ⟨by rw [HQ.out]; rfl, HB6.out⟩
    | true =>
      rw [hk] at hkp HQ
      refine hkp.mono ?_
      rintro r w6 ⟨rfl, b6⟩
      have HB6 := hid (HB4.out.trans (b6.mono HB4.out.size))
      have HA6 := hid (HA4.out.below b6 HA4.out.lt)
      clear b6 hkp hk k10 k11 k12 k13 k14 k15 HZK
      have k10 := HA6.out.c 10 rfl
      have k11 := HA6.out.c 11 rfl
      have k12 := HA6.out.c 12 rfl
      have k13 := HA6.out.c 13 rfl
      have k14 := HA6.out.c 14 rfl
      have k15 := HA6.out.c 15 rfl
      by_cases e6 : pc = 0
      · subst e6
        rw [if_pos rfl] at HQ
        have hzc := iZeroPlan w6 cd bk tx p c l HL.out
        go_wp2_with fail
        cases hzp : zeroPlan cd bk tx l with
        | false =>
          rw [hzp, Bool.and_false] at HQ
          rw [hzp] at hzc
          refine hzc.mono ?_
          rintro r w7 ⟨rfl, b7⟩
          have HB7 := hid (HB6.out.trans (b7.mono HB6.out.size))
          clear b7 hzc hzp
          go_wp2
          go_ret
          exact ⟨by rw [HQ.out]; rfl, HB7.out⟩
        | true =>
          rw [hzp, Bool.and_true] at HQ
          rw [hzp] at hzc
          refine hzc.mono ?_
          rintro r w7 ⟨rfl, b7⟩
          have HB7 := hid (HB6.out.trans (b7.mono HB6.out.size))
          have HA7 := hid (HA6.out.below b7 HA6.out.lt)
          clear b7 hzc hzp k10 k11 k12 k13 k14 k15
          have k10 := HA7.out.c 10 rfl
          have k15 := HA7.out.c 15 rfl
          have hd0 : decide (1 ≤ (0 : Int) ∧ (0 : Int) ≤ 3) = false := by decide
          rw [hd0, Bool.false_and] at HQ
          simp only [Bool.not_false] at HQ
          by_cases c5 : txn < 1000000
          · have c5' := decide_eq_true c5
            go_wp2
            go_ret
            exact ⟨by rw [HQ.out]; rfl, HB7.out⟩
          · have c5' := decide_eq_false c5
            go_wp2_with fail
            refine (hd0 ▸ isFrom 0 1 3 _).mono ?_
            rintro r w8 ⟨rfl, hw⟩
            obtain rfl := hw.symm
            go_wp2
            go_ret
            exact ⟨by rw [HQ.out]; rfl, HB7.out⟩
      · rw [if_neg e6, Bool.and_true] at HQ
        have e6' := beq_no e6
        by_cases c5 : txn < 1000000
        · have c5' := decide_eq_true c5
          rw [decide_eq_false (show ¬ 1000000 ≤ txn by omega), Bool.and_false] at HQ
          simp only [Bool.not_false] at HQ
          go_wp2
          go_ret
          exact ⟨by rw [HQ.out]; rfl, HB6.out⟩
        · have c5' := decide_eq_false c5
          rw [decide_eq_true (show 1000000 ≤ txn by omega), Bool.and_true] at HQ
          go_wp2_with fail
          refine (isFrom pc 1 3 _).mono ?_
          rintro r w8 ⟨rfl, hw⟩
          obtain rfl := hw.symm
          generalize decide (1 ≤ pc ∧ pc ≤ 3) = z at *
          clear c5 e6
          go_wp2
          go_ret
          exact ⟨by rw [HQ.out]; rfl, HB6.out⟩

end Go.Proofs.YtogebppolkfldaaGreatDoor.Pl

namespace Go.Proofs.YtogebppolkfldaaGreatDoor.Pl
open Go.RowKit Go.Proofs.YtogebppolkfldaaGreatDoor.Mem Go.Proofs.YtogebppolkfldaaGreatDoor.Sec
set_option linter.unusedVariables false

set_option maxRecDepth 100000 in
set_option maxHeartbeats 8000000 in
theorem iHostOk (w : World) (H : Ho) (p : Option Addr) (c : Nat) (S : Ous w p H.l) (hu : H.Upto 1048576) :
    Calls Tryz.prog 92 #[hoV H p c] w fun r w' => r = .returned (.bool H.ok) ∧ Below w.heap.size w w' := by
  obtain ⟨id, ep, up, rd, bz, k, v, t, a, s, pc, cd, bk, tx, l, txn⟩ := H
  have HS : Hid (Ous w p l) := S
  have HU : Hid (Ho.Upto 1048576 ⟨id, ep, up, rd, bz, k, v, t, a, s, pc, cd, bk, tx, l, txn⟩) := hu
  clear S hu
  obtain ⟨qidle, hidle⟩ : ∃ I, Ho.idle ⟨id, ep, up, rd, bz, k, v, t, a, s, pc, cd, bk, tx, l, txn⟩ = I := ⟨_, rfl⟩
  have Hidle := hid hidle
  obtain ⟨qdown, hdown⟩ : ∃ I, Ho.down ⟨id, ep, up, rd, bz, k, v, t, a, s, pc, cd, bk, tx, l, txn⟩ = I := ⟨_, rfl⟩
  have Hdown := hid hdown
  obtain ⟨qbusy, hbusy⟩ : ∃ I, Ho.busy ⟨id, ep, up, rd, bz, k, v, t, a, s, pc, cd, bk, tx, l, txn⟩ = I := ⟨_, rfl⟩
  have Hbusy := hid hbusy
  have HQ : Hid (Ho.ok ⟨id, ep, up, rd, bz, k, v, t, a, s, pc, cd, bk, tx, l, txn⟩ = (decide (0 ≤ id ∧ id < 3) && (if up = true then decide (1 ≤ ep ∧ ep ≤ 100000) && (decide (0 ≤ txn ∧ txn ≤ 1000000) && (if bz = true then Ho.busy ⟨id, ep, up, rd, bz, k, v, t, a, s, pc, cd, bk, tx, l, txn⟩ else Ho.idle ⟨id, ep, up, rd, bz, k, v, t, a, s, pc, cd, bk, tx, l, txn⟩)) else Ho.down ⟨id, ep, up, rd, bz, k, v, t, a, s, pc, cd, bk, tx, l, txn⟩))) := rfl
  generalize Ho.ok ⟨id, ep, up, rd, bz, k, v, t, a, s, pc, cd, bk, tx, l, txn⟩ = q at *
  unfold hoV
  try simp only []
  obtain ⟨wa, hwa, ez, A0, B0⟩ := one_new w [.int .i64 id, .int .i64 ep, .bool up, .bool rd, .bool bz, .int .i64 k, .int .i64 v, .int .i64 t, .int .i64 a, .string s, .int .i64 pc, .int .i64 cd, .int .i64 bk, .string tx, .slice p l.length c, .int .i64 txn] 68
  have HA := hid A0
  have HB := hid B0
  clear B0 ez
  have k0 := A0.c 0 rfl
  have k1 := A0.c 1 rfl
  have k2 := A0.c 2 rfl
  have k3 := A0.c 3 rfl
  have k4 := A0.c 4 rfl
  have k5 := A0.c 5 rfl
  have k6 := A0.c 6 rfl
  have k7 := A0.c 7 rfl
  have k8 := A0.c 8 rfl
  have k9 := A0.c 9 rfl
  have k10 := A0.c 10 rfl
  have k11 := A0.c 11 rfl
  have k12 := A0.c 12 rfl
  have k13 := A0.c 13 rfl
  have k14 := A0.c 14 rfl
  have k15 := A0.c 15 rfl
  clear A0
  have hgl := guardOpT
  go_enter Tryz.func92, Tryz.ntmps92
  rw [Hidle.out, Hdown.out, Hbusy.out] at HQ
  clear hidle hdown hbusy
  go_wp2_with fail
  try simp only [hwa]
  clear hwa
  by_cases c0 : 0 ≤ id ∧ id < 3
  rotate_left
  · have c0' := decide_eq_false c0
    rw [c0', Bool.false_and] at HQ
    refine (c0' ▸ iIsHost id _).mono ?_
    rintro r w1 ⟨rfl, hw⟩
    obtain rfl := hw.symm
    clear c0
    go_wp2
    go_ret
    exact ⟨by rw [HQ.out]; rfl, HB.out⟩
  have c0' := decide_eq_true c0
  rw [c0', Bool.true_and] at HQ
  refine (c0' ▸ iIsHost id _).mono ?_
  rintro r w1 ⟨rfl, hw⟩
  obtain rfl := hw.symm
  clear c0 c0'
  cases up with
  | false =>
    simp only [Bool.false_eq_true, if_false] at HQ
    go_wp2_with fail
    refine (iFallen wa ⟨id, ep, false, rd, bz, k, v, t, a, s, pc, cd, bk, tx, l, txn⟩ p c HU.out.l).mono ?_
    rintro r w4 ⟨rfl, b4⟩
    rw [Hdown.out]
    have HB4 := hid (HB.out.trans (b4.mono HB.out.size))
    clear b4
    go_wp2
    go_ret
    exact ⟨by rw [HQ.out]; rfl, HB4.out⟩
  | true =>
    simp only [if_true] at HQ
    go_wp2_with fail
    by_cases c1 : 1 ≤ ep ∧ ep ≤ 100000
    rotate_left
    · have c1' := decide_eq_false c1
      rw [c1', Bool.false_and] at HQ
      refine (c1' ▸ isFrom ep 1 100000 _).mono ?_
      rintro r w2 ⟨rfl, hw⟩
      obtain rfl := hw.symm
      clear c1
      go_wp2
      go_ret
      exact ⟨by rw [HQ.out]; rfl, HB.out⟩
    have c1' := decide_eq_true c1
    rw [c1', Bool.true_and] at HQ
    refine (c1' ▸ isFrom ep 1 100000 _).mono ?_
    rintro r w2 ⟨rfl, hw⟩
    obtain rfl := hw.symm
    clear c1 c1'
    go_wp2_with fail
    by_cases c2 : 0 ≤ txn ∧ txn ≤ 1000000
    rotate_left
    · have c2' := decide_eq_false c2
      rw [c2', Bool.false_and] at HQ
      refine (c2' ▸ isFrom txn 0 1000000 _).mono ?_
      rintro r w3 ⟨rfl, hw⟩
      obtain rfl := hw.symm
      clear c2
      go_wp2
      go_ret
      exact ⟨by rw [HQ.out]; rfl, HB.out⟩
    have c2' := decide_eq_true c2
    rw [c2', Bool.true_and] at HQ
    refine (c2' ▸ isFrom txn 0 1000000 _).mono ?_
    rintro r w3 ⟨rfl, hw⟩
    obtain rfl := hw.symm
    clear c2 c2'
    cases bz with
    | false =>
      simp only [Bool.false_eq_true, if_false] at HQ
      go_wp2_with fail
      refine (iNoCall wa ⟨id, ep, true, rd, false, k, v, t, a, s, pc, cd, bk, tx, l, txn⟩ p c HU.out.l).mono ?_
      rintro r w4 ⟨rfl, b4⟩
      rw [Hidle.out]
      have HB4 := hid (HB.out.trans (b4.mono HB.out.size))
      clear b4
      go_wp2
      go_ret
      exact ⟨by rw [HQ.out]; rfl, HB4.out⟩
    | true =>
      simp only [if_true] at HQ
      go_wp2_with fail
      refine (iRightCall wa ⟨id, ep, true, rd, true, k, v, t, a, s, pc, cd, bk, tx, l, txn⟩ p c (HS.out.below HB.out) HU.out).mono ?_
      rintro r w4 ⟨rfl, b4⟩
      rw [Hbusy.out]
      have HB4 := hid (HB.out.trans (b4.mono HB.out.size))
      clear b4
      go_wp2
      go_ret
      exact ⟨by rw [HQ.out]; rfl, HB4.out⟩

end Go.Proofs.YtogebppolkfldaaGreatDoor.Pl

namespace Go.Proofs.YtogebppolkfldaaGreatDoor.Mem
open Go.RowKit
set_option linter.unusedVariables false

set_option maxHeartbeats 400000 in
theorem isHost (x : Int) (w : World) :
    Calls Tryz.prog 89 #[.int .i64 x] w fun e w' => e = .returned (.bool (decide (0 ≤ x ∧ x < 3))) ∧ w' = w := by
  by_cases h1 : 0 ≤ x
  · by_cases h2 : x < 3
    · rw [decide_eq_true (And.intro h1 h2)]
      go_enter Tryz.func89, Tryz.ntmps89
      go_wp2
      go_ret
      exact ⟨rfl, rfl⟩
    · rw [decide_eq_false (fun h => h2 h.2)]
      go_enter Tryz.func89, Tryz.ntmps89
      go_wp2
      go_ret
      exact ⟨rfl, rfl⟩
  · rw [decide_eq_false (fun h => h1 h.1)]
    go_enter Tryz.func89, Tryz.ntmps89
    go_wp2
    go_ret
    exact ⟨rfl, rfl⟩

set_option maxHeartbeats 400000 in
theorem fitsSector (t : ByteArray) (w : World) :
    Calls Tryz.prog 88 #[.string t] w fun e w' => e = .returned (.bool (decide ((t.size : Int) ≤ 700))) ∧ w' = w := by
  go_enter Tryz.func88, Tryz.ntmps88
  go_wp2
  go_ret
  exact ⟨rfl, rfl⟩

set_option maxHeartbeats 400000 in
theorem isSector (w : World) (v1 v2 v3 : Value) (a : Option Addr) (n c : Nat) (hv : v1 = .slice a n c) (x : Int) :
    Calls Tryz.prog 90 #[.agg #[v1, v2, v3], .int .i64 x] w fun e w' => e = .returned (.bool (decide (0 ≤ x ∧ x < (n : Int)))) ∧ Below w.heap.size w w' := by
  subst hv
  have B0 := ((Below.refl w.heap.size w).alloc (Nat.le_refl _) (.cells #[.slice a n c, v2, v3] 36))
  by_cases h1 : 0 ≤ x
  · by_cases h2 : x < n
    · rw [decide_eq_true (And.intro h1 h2)]
      have HB := hid B0
      clear B0
      go_enter Tryz.func90, Tryz.ntmps90
      go_wp2
      go_ret
      exact ⟨rfl, HB.out⟩
    · rw [decide_eq_false (fun h => h2 h.2)]
      have HB := hid B0
      clear B0
      go_enter Tryz.func90, Tryz.ntmps90
      go_wp2
      go_ret
      exact ⟨rfl, HB.out⟩
  · rw [decide_eq_false (fun h => h1 h.1)]
    have HB := hid B0
    clear B0
    go_enter Tryz.func90, Tryz.ntmps90
    go_wp2
    go_ret
    exact ⟨rfl, HB.out⟩

end Go.Proofs.YtogebppolkfldaaGreatDoor.Mem

namespace Go.Proofs.YtogebppolkfldaaGreatDoor.Pl
open Go.RowKit Go.Proofs.YtogebppolkfldaaGreatDoor.Mem Go.Proofs.YtogebppolkfldaaGreatDoor.Sec
set_option linter.unusedVariables false

/-- Event k, as a range of cells. -/
theorem Evs.range {w : World} {a : Option Addr} {l : List Ev} (h : Evs w a l) (k : Nat) (hk : k < l.length) : ∃ b off, a = some ⟨b, off, none⟩ ∧ w.rangeAt b (off + k * 7) (l.getD k Ev.none).cells := by
  obtain ⟨b, off, rfl, _⟩ := h (k * 7 + 0) (by omega)
  refine ⟨b, off, rfl, fun j v hv => ?_⟩
  have hj : j < 7 := by
    have := (List.getElem?_eq_some_iff.1 hv).1
    simpa [Ev.cells] using this
  obtain ⟨b1, off1, e1, h1⟩ := h (k * 7 + j) (by omega)
  cases e1
  rw [evcell_at l k j hj, List.getD, hv] at h1
  rw [Nat.add_assoc]
  exact h1

set_option maxRecDepth 100000 in
set_option maxHeartbeats 2000000 in
theorem iEvents (w : World) (a : Option Addr) (cap : Nat) (l : List Ev) (S : Evs w a l) (hl : l.length ≤ 1048576) (hz : ∀ x ∈ l, x.s.size ≤ 1048576) :
    Calls Tryz.prog 57 #[.slice a l.length cap] w fun e w' => e = .returned (.bool (evsOk l)) ∧ Below w.heap.size w w' := by
  have HS := hid S
  have Hz : Hid (∀ k, (l.getD k Ev.none).s.size ≤ 1048576) := fun k => by
    by_cases h : k < l.length
    · exact hz _ (by simp [List.getD, h])
    · simp [List.getD, h, Ev.none]
  clear S hz
  by_cases hg : 400 < (l.length : Int)
  · rw [evs_no1 hg]
    go_enter Tryz.func57, Tryz.ntmps57
    go_wp2
    go_ret
    exact ⟨rfl, Below.refl _ _⟩
  have HG := hid (show (l.length : Int) ≤ 400 by omega)
  go_enter Tryz.func57, Tryz.ntmps57
  go_wp2
  go_loopw [10] (fun i wr => ∃ k : Nat, k ≤ l.length ∧ i = .int .i64 (k : Int) ∧ Hid (∀ j, j < k → evOk (l.getD j Ev.none) = true) ∧ Hid (Below w.heap.size w wr)) (fun i _ => l.length - (intOf i).toNat)
  case atStart => exact ⟨0, Nat.zero_le _, rfl, fun j hj => by omega, Below.refl _ _⟩
  case round =>
    obtain ⟨k, hk, rfl, HI, HB⟩ := hrel
    by_cases hlt : k < l.length
    · obtain ⟨b, off, rfl, hrg⟩ := (show Evs wr a l from Sl.below HS.out HB.out).range k hlt
      have HZ := Hz.out k
      generalize hx : l.getD k Ev.none = x at hrg HZ
      have HX := hid hx
      clear hx
      obtain ⟨xh, xx, xk, xv, xt, xa, xs⟩ := x
      replace HZ := hid (show xs.size ≤ 1048576 from HZ)
      have HRG := hid hrg
      clear hrg
      go_upto_region 5 with fail
      apply wp_region_lit
      iterate 3 go_step
      refine wpList_elem rfl rfl rfl 107 _ rfl b (off + k * 7) rfl _ HRG.out _ Tryz.underlying107 rfl (by kernel_rfl) [.int .i64 0, .int .i64 0, .int .i64 0, .int .i64 0, .int .i64 0, .int .i64 0, .string ⟨#[]⟩] 107 (fun ρ w => by unfold execOp; simp [go_sem]) 107 _ _ rfl (by kernel_rfl) rfl rfl rfl rfl ?_
      intro wz R0 B0
      have HRz := hid R0
      have HBz := hid B0
      clear R0 B0
      have c0 := HRz.out.c 0 rfl
      have c1 := HRz.out.c 1 rfl
      have c2 := HRz.out.c 2 rfl
      have c3 := HRz.out.c 3 rfl
      have c4 := HRz.out.c 4 rfl
      have c5 := HRz.out.c 5 rfl
      have c6 := HRz.out.c 6 rfl
      go_wp2_with fail
      refine (iIsHost xh _).mono ?_
      rintro e w20 ⟨rfl, hw⟩
      subst hw
      by_cases h0 : 0 ≤ xh ∧ xh < 3
      rotate_left
      · rw [decide_eq_false (show ¬ (0 ≤ xh ∧ xh < 3) by omega)]
        have HQ := hid h0
        go_wp2
        go_ret
        exact ⟨by rw [evs_no2 k hlt (by rw [HX.out]; unfold evOk; simp only []; rw [decide_eq_false (show ¬ (0 ≤ xh ∧ xh < 3) by have := HQ.out; omega)]; simp)]; rfl, HB.out.trans (HBz.out.mono HB.out.size)⟩
      rw [decide_eq_true h0]
      have HP0 := hid h0
      clear h0
      go_wp2_with fail
      refine (Sec.isFrom xx 1 1000000 _).mono ?_
      rintro e w21 ⟨rfl, hw⟩
      subst hw
      by_cases h1 : 1 ≤ xx ∧ xx ≤ 1000000
      rotate_left
      · rw [decide_eq_false (show ¬ (1 ≤ xx ∧ xx ≤ 1000000) by omega)]
        have HQ := hid h1
        go_wp2
        go_ret
        exact ⟨by rw [evs_no2 k hlt (by rw [HX.out]; unfold evOk; simp only []; rw [decide_eq_false (show ¬ (1 ≤ xx ∧ xx ≤ 1000000) by have := HQ.out; omega)]; simp)]; rfl, HB.out.trans (HBz.out.mono HB.out.size)⟩
      rw [decide_eq_true h1]
      have HP1 := hid h1
      clear h1
      go_wp2_with fail
      refine (iOpOk xk xv xt xa xs _ HZ.out).mono ?_
      rintro e w22 ⟨rfl, hb⟩
      replace HBz := hid (HBz.out.trans (hb.mono HBz.out.size))
      replace HRz := hid (HRz.out.below hb HRz.out.lt)
      clear c2 c3 c4 c5 c6
      have c2 := HRz.out.c 2 rfl
      clear hb
      cases h2 : opRight xk xv xt xa xs
      · have HQ := hid h2
        go_wp2
        go_ret
        exact ⟨by rw [evs_no2 k hlt (by rw [HX.out]; unfold evOk; simp only []; rw [HQ.out]; simp)]; rfl, HB.out.trans (HBz.out.mono HB.out.size)⟩
      have HP2 := hid h2
      clear h2
      by_cases h3 : xk ≤ 6
      rotate_left
      · have HQ := hid h3
        go_wp2
        go_ret
        exact ⟨by rw [evs_no2 k hlt (by rw [HX.out]; unfold evOk; simp only []; rw [decide_eq_false (show ¬ (xk ≤ 6) by have := HQ.out; omega)]; simp)]; rfl, HB.out.trans (HBz.out.mono HB.out.size)⟩
      have HP3 := hid h3
      go_wp2
      refine ⟨⟨k + 1, by omega, by go_num, ?_, HB.out.trans (HBz.out.mono HB.out.size)⟩, by simp [intOf]; omega⟩
      intro j hj
      by_cases hjk : j = k
      · subst hjk
        rw [HX.out]
        unfold evOk
        simp only []
        rw [decide_eq_true HP0.out, decide_eq_true HP1.out, HP2.out, decide_eq_true HP3.out]
        rfl
      · exact HI.out j (by omega)
    · obtain rfl : k = l.length := by omega
      go_wp2
      go_ret
      exact ⟨by rw [evs_yes HG.out HI.out]; rfl, HB.out⟩

set_option maxRecDepth 100000 in
set_option maxHeartbeats 2000000 in
theorem iReplies (w : World) (a : Option Addr) (cap n : Nat) (l : List Rp) (S : Rps w a l) (hl : l.length ≤ 1048576) (hn : n ≤ 1048576) (hz : ∀ x ∈ l, x.s.size ≤ 1048576 ∧ x.d.size ≤ 1048576) :
    Calls Tryz.prog 58 #[.slice a l.length cap, .int .i64 (n : Int)] w fun e w' => e = .returned (.bool (rpsOk n l)) ∧ Below w.heap.size w w' := by
  have HS := hid S
  have Hz : Hid (∀ k, (l.getD k Rp.none).s.size ≤ 1048576 ∧ (l.getD k Rp.none).d.size ≤ 1048576) := fun k => by
    by_cases h : k < l.length
    · exact hz _ (by simp [List.getD, h])
    · simp [List.getD, h, Rp.none]
  clear S hz
  by_cases hg : 400 < (l.length : Int)
  · rw [rps_no1 hg]
    go_enter Tryz.func58, Tryz.ntmps58
    go_wp2
    go_ret
    exact ⟨rfl, Below.refl _ _⟩
  have HG := hid (show (l.length : Int) ≤ 400 by omega)
  go_enter Tryz.func58, Tryz.ntmps58
  go_wp2
  go_loopw [12] (fun i wr => ∃ k : Nat, k ≤ l.length ∧ i = .int .i64 (k : Int) ∧ Hid (∀ j, j < k → rpOk n (l.getD j Rp.none) = true) ∧ Hid (Below w.heap.size w wr)) (fun i _ => l.length - (intOf i).toNat)
  case atStart => exact ⟨0, Nat.zero_le _, rfl, fun j hj => by omega, Below.refl _ _⟩
  case round =>
    obtain ⟨k, hk, rfl, HI, HB⟩ := hrel
    by_cases hlt : k < l.length
    · obtain ⟨b, off, rfl, hrg⟩ := (show Rps wr a l from Sl.below HS.out HB.out).range k hlt
      have HZ := Hz.out k
      generalize hx : l.getD k Rp.none = x at hrg HZ
      have HX := hid hx
      clear hx
      obtain ⟨xh, xk, xv, xt, xa, xs, xc, xd, xm⟩ := x
      have HZd := hid (show xd.size ≤ 1048576 from HZ.2)
      replace HZ := hid (show xs.size ≤ 1048576 from HZ.1)
      have HRG := hid hrg
      clear hrg
      go_upto_region 5 with fail
      apply wp_region_lit
      iterate 3 go_step
      refine wpList_elem rfl rfl rfl 111 _ rfl b (off + k * 9) rfl _ HRG.out _ Tryz.underlying111 rfl (by kernel_rfl) [.int .i64 0, .int .i64 0, .int .i64 0, .int .i64 0, .int .i64 0, .string ⟨#[]⟩, .int .i64 0, .string ⟨#[]⟩, .int .i64 0] 111 (fun ρ w => by unfold execOp; simp [go_sem]) 111 _ _ rfl (by kernel_rfl) rfl rfl rfl rfl ?_
      intro wz R0 B0
      have HRz := hid R0
      have HBz := hid B0
      clear R0 B0
      have c0 := HRz.out.c 0 rfl
      have c1 := HRz.out.c 1 rfl
      have c2 := HRz.out.c 2 rfl
      have c3 := HRz.out.c 3 rfl
      have c4 := HRz.out.c 4 rfl
      have c5 := HRz.out.c 5 rfl
      have c6 := HRz.out.c 6 rfl
      have c7 := HRz.out.c 7 rfl
      have c8 := HRz.out.c 8 rfl
      go_wp2_with fail
      refine (iIsHost xh _).mono ?_
      rintro e w20 ⟨rfl, hw⟩
      subst hw
      by_cases h0 : 0 ≤ xh ∧ xh < 3
      rotate_left
      · rw [decide_eq_false (show ¬ (0 ≤ xh ∧ xh < 3) by omega)]
        have HQ := hid h0
        go_wp2
        go_ret
        exact ⟨by rw [rps_no2 k hlt (by rw [HX.out]; unfold rpOk; simp only []; rw [decide_eq_false (show ¬ (0 ≤ xh ∧ xh < 3) by have := HQ.out; omega)]; simp)]; rfl, HB.out.trans (HBz.out.mono HB.out.size)⟩
      rw [decide_eq_true h0]
      have HP0 := hid h0
      clear h0
      go_wp2_with fail
      refine (iOpOk xk xv xt xa xs _ HZ.out).mono ?_
      rintro e w21 ⟨rfl, hb⟩
      replace HBz := hid (HBz.out.trans (hb.mono HBz.out.size))
      replace HRz := hid (HRz.out.below hb HRz.out.lt)
      clear c1 c2 c3 c4 c5 c6 c7 c8
      have c6 := HRz.out.c 6 rfl
      have c7 := HRz.out.c 7 rfl
      have c8 := HRz.out.c 8 rfl
      clear hb
      cases h1 : opRight xk xv xt xa xs
      · have HQ := hid h1
        go_wp2
        go_ret
        exact ⟨by rw [rps_no2 k hlt (by rw [HX.out]; unfold rpOk; simp only []; rw [HQ.out]; simp)]; rfl, HB.out.trans (HBz.out.mono HB.out.size)⟩
      have HP1 := hid h1
      clear h1
      go_wp2_with fail
      refine (Sec.isFrom xc 0 6 _).mono ?_
      rintro e w22 ⟨rfl, hw⟩
      subst hw
      by_cases h2 : 0 ≤ xc ∧ xc ≤ 6
      rotate_left
      · rw [decide_eq_false (show ¬ (0 ≤ xc ∧ xc ≤ 6) by omega)]
        have HQ := hid h2
        go_wp2
        go_ret
        exact ⟨by rw [rps_no2 k hlt (by rw [HX.out]; unfold rpOk; simp only []; rw [decide_eq_false (show ¬ (0 ≤ xc ∧ xc ≤ 6) by have := HQ.out; omega)]; simp)]; rfl, HB.out.trans (HBz.out.mono HB.out.size)⟩
      rw [decide_eq_true h2]
      have HP2 := hid h2
      clear h2
      go_wp2_with fail
      refine (Mem.fitsSector xd _).mono ?_
      rintro e w23 ⟨rfl, hw⟩
      subst hw
      by_cases h3 : (xd.size : Int) ≤ 700
      rotate_left
      · rw [decide_eq_false (show ¬ ((xd.size : Int) ≤ 700) by omega)]
        have HQ := hid h3
        go_wp2
        go_ret
        exact ⟨by rw [rps_no2 k hlt (by rw [HX.out]; unfold rpOk; simp only []; rw [decide_eq_false (show ¬ ((xd.size : Int) ≤ 700) by have := HQ.out; omega)]; simp)]; rfl, HB.out.trans (HBz.out.mono HB.out.size)⟩
      rw [decide_eq_true h3]
      have HP3 := hid h3
      clear h3
      go_wp2_with fail
      refine (Sec.isFrom xm 0 (n : Int) _).mono ?_
      rintro e w24 ⟨rfl, hw⟩
      subst hw
      by_cases h4 : 0 ≤ xm ∧ xm ≤ (n : Int)
      rotate_left
      · rw [decide_eq_false (show ¬ (0 ≤ xm ∧ xm ≤ (n : Int)) by omega)]
        have HQ := hid h4
        go_wp2
        go_ret
        exact ⟨by rw [rps_no2 k hlt (by rw [HX.out]; unfold rpOk; simp only []; rw [decide_eq_false (show ¬ (0 ≤ xm ∧ xm ≤ (n : Int)) by have := HQ.out; omega)]; simp)]; rfl, HB.out.trans (HBz.out.mono HB.out.size)⟩
      rw [decide_eq_true h4]
      have HP4 := hid h4
      clear h4
      go_wp2
      refine ⟨⟨k + 1, by omega, by go_num, ?_, HB.out.trans (HBz.out.mono HB.out.size)⟩, by simp [intOf]; omega⟩
      intro j hj
      by_cases hjk : j = k
      · subst hjk
        rw [HX.out]
        unfold rpOk
        simp only []
        rw [decide_eq_true HP0.out, HP1.out, decide_eq_true HP2.out, decide_eq_true HP3.out, decide_eq_true HP4.out]
        rfl
      · exact HI.out j (by omega)
    · obtain rfl : k = l.length := by omega
      go_wp2
      go_ret
      exact ⟨by rw [rps_yes HG.out HI.out]; rfl, HB.out⟩

end Go.Proofs.YtogebppolkfldaaGreatDoor.Pl

namespace Go.Proofs.YtogebppolkfldaaGreatDoor.Pl
open Go.RowKit Go.Proofs.YtogebppolkfldaaGreatDoor.Mem Go.Proofs.YtogebppolkfldaaGreatDoor.Sec Go.Proofs.YtogebppolkfldaaGreatDoor.Rg
set_option linter.unusedVariables false

theorem call_iHostOk (vs : Array Value) (w : World) : (callFunc 92 vs).run Tryz.prog w = .ok (.enter 92 vs) w := by simp [go_sem]

set_option maxRecDepth 100000 in
set_option maxHeartbeats 4000000 in
theorem iHosts (w : World) (a e : Option Addr) (cap ec : Nat) (L : List Hx) (ep : List Int) (S : Hos w a L) (T : Ints w e ep) (hl : L.length ≤ 1048576) (hu : ∀ x ∈ L, x.H.Upto 1048576) (he : ep.length = 3) :
    Calls Tryz.prog 55 #[.slice a L.length cap, .slice e ep.length ec] w fun e w' => e = .returned (.bool (hostsOk (L.map (·.H)) ep)) ∧ Below w.heap.size w w' := by
  have HS := hid S
  have HT := hid T
  have Hu := hid hu
  clear S hu
  by_cases hg : L.length = 3
  rotate_left
  · rw [hosts_no1 (by rw [List.length_map]; exact hg)]
    have hb : ((L.length : Int) != 3) = true := by simp; omega
    go_enter Tryz.func55, Tryz.ntmps55
    go_wp2
    go_ret
    exact ⟨rfl, Below.refl _ _⟩
  have HG := hid hg
  have HLM : Hid (∀ j, j < 3 → (L.map (·.H)).getD j Ho.none = (L.getD j Hx.none).H) := fun j hj => by
    have hj' : j < L.length := by omega
    simp [List.getD, hj']
  rw [hg]
  clear hg hl
  rw [he]
  obtain ⟨eb, eo, rfl, _⟩ := T 0 (by omega)
  have HEP := hid he
  clear T he
  go_enter Tryz.func55, Tryz.ntmps55
  go_wp2
  go_loopw [12] (fun i wr => ∃ k : Nat, k ≤ 3 ∧ i = .int .i64 (k : Int) ∧ Hid (∀ j, j < k → hoIs ep j ((L.map (·.H)).getD j Ho.none) = true) ∧ Hid (Below w.heap.size w wr)) (fun i _ => 3 - (intOf i).toNat)
  case atStart => exact ⟨0, Nat.zero_le _, rfl, fun j hj => by omega, Below.refl _ _⟩
  case round =>
    obtain ⟨k, hk, rfl, HI, HB⟩ := hrel
    by_cases hlt : k < 3
    · obtain ⟨b, off, rfl, hrg, hou⟩ := (HS.out.below HB.out).range k (by rw [HG.out]; exact hlt)
      have HZ := hid (Hu.out (L.getD k Hx.none) (by have := HG.out; simp [List.getD, show k < L.length by omega]))
      have HX : Hid ((L.getD k Hx.none).H = (L.map (·.H)).getD k Ho.none) := (HLM.out k hlt).symm
      have hce := (Sl.below HT.out HB.out) k (by rw [HEP.out]; exact hlt)
      obtain ⟨eb', eo', ee, hce⟩ := hce
      cases ee
      replace hce : wr.cell? ⟨eb, eo + k, none⟩ = some (.int .i64 (ep.getD k 0)) := hce
      generalize hE : ep.getD k 0 = E at hce
      have HE := hid hE
      clear hE
      generalize L.getD k Hx.none = x at hrg hou HZ HX
      have HRG := hid hrg
      have HOU := hid hou
      have HCE := hid hce
      clear hrg hou hce
      go_upto_region 5 with fail
      apply wp_region_lit
      iterate 6 go_step
      refine wpList_elemA rfl rfl rfl rfl 68 _ rfl b (off + k * 16) rfl x.cells HRG.out _ Tryz.underlying68 rfl (by rw [hx_len]; kernel_rfl) [.int .i64 0, .int .i64 0, .bool false, .bool false, .bool false, .int .i64 0, .int .i64 0, .int .i64 0, .int .i64 0, .string ⟨#[]⟩, .int .i64 0, .int .i64 0, .int .i64 0, .string ⟨#[]⟩, .slice none 0 0, .int .i64 0] 68 (fun ρ w => by unfold execOp; simp [go_sem]) (.int .i64 (k : Int)) (fun w' => by unfold execOp; simp [go_sem, Act.put, Act.eval]) 68 _ _ rfl (by kernel_rfl) rfl rfl rfl rfl ?_
      intro wz R0 B0
      have HRz := hid R0
      have HBz := hid B0
      replace HCE := hid (Rg.cell_later HCE.out HBz.out)
      clear R0 B0
      have hk3 : (k : Int) < 3 := by omega
      simp only [Act.put, List.setIfInBounds_toArray, List.set_cons_zero, List.set_cons_succ]
      generalize Value.agg x.cells.toArray = V0
      go_upto_region 6 with fail
      have HOK := hid (fun (u : World) (hu : Below wz.heap.size wz u) => iHostOk u x.H x.p x.c (Sl.below (Sl.below HOU.out HBz.out) hu) HZ.out)
      rw [← Hx.val] at HOK
      cases hok : x.H.ok
      · rw [hok] at HOK
        have HQ := hid hok
        clear hok
        refine region_grow (val := fun i => [.agg (List.toArray x.cells), .bool false, .bool true, .bool true, undef, undef, undef, undef, .bool true, .bool true, undef, undef, undef, undef, undef, undef, undef, undef, undef, undef, undef, .bool true].getD i undef) (sp := fun _ => none) true (by kernel_rfl) (by kernel_rfl) [some 17, some 18, some 19, some 20, some 21, some 22, some 23, some 24, some 25, some 26, some 27, some 28, some 29, some 30, some 31, some 32, some 33, some 34, some 35, some 36, some 37, some 38] (by kernel_rfl) (fun _ _ h => by cases h) ?_ (fun v w hb hG => ?_)
        · refine ⟨gVal rfl (.inl ⟨rfl, rfl⟩) rfl (fun Lb v act wy K => Rg.run_load_at 68 (.tmp 6) rfl _ _ ((K.off (x := .tmp 6) (by kernel_rfl)).trans rfl) _ (rangeAt_below (Rg.range_of_row HRz.out) K.bel) _ Tryz.underlying68 rfl (by rw [hx_len]; kernel_rfl)), ?_⟩
          refine ⟨gCall rfl (.inl ⟨rfl, rfl⟩) 92 #[.tmp 17] _ (fun _ => #[.agg (List.toArray x.cells)]) rfl call_iHostOk (fun Lb v act wy K => by
            have e1 : act.eval (.tmp 17) = .agg (List.toArray x.cells) := K.at_val 0 (by kernel_rfl) (by kernel_rfl) rfl
            simp only [List.map_toArray, List.map_cons, List.map_nil, e1]) (fun v w hb hs => (HOK.out w hb).mono (fun e w' ⟨h1, h2⟩ => ⟨_, h1, h2, rfl⟩)), ?_⟩
          refine ⟨gVal rfl (.inl ⟨rfl, rfl⟩) rfl (fun Lb v act wy K => by
            have e1 : act.eval (.tmp 18) = .bool false := K.at_val 1 (by kernel_rfl) (by kernel_rfl) rfl
            show (execOp act.eval _).run Tryz.prog wy = .ok (.value (.bool true)) wy
            generalize act.eval = ρ at e1 ⊢
            unfold execOp
            simp [go_sem, e1]), ?_⟩
          refine ⟨gVal rfl (.inl ⟨rfl, rfl⟩) rfl (fun Lb v act wy K => by
            have e1 : act.eval (.tmp 19) = .bool true := K.at_val 2 (by kernel_rfl) (by kernel_rfl) rfl
            exact run_move _ rfl e1), ?_⟩
          refine ⟨gSkip rfl (.inr ⟨3, false, 20, rfl, (by kernel_rfl), (by kernel_rfl), rfl, rfl⟩) rfl rfl, ?_⟩
          refine ⟨gSkip rfl (.inr ⟨3, false, 20, rfl, (by kernel_rfl), (by kernel_rfl), rfl, rfl⟩) rfl rfl, ?_⟩
          refine ⟨gSkip rfl (.inr ⟨3, false, 20, rfl, (by kernel_rfl), (by kernel_rfl), rfl, rfl⟩) rfl rfl, ?_⟩
          refine ⟨gSkip rfl (.inr ⟨3, false, 20, rfl, (by kernel_rfl), (by kernel_rfl), rfl, rfl⟩) rfl rfl, ?_⟩
          refine ⟨gVal rfl (.inl ⟨rfl, rfl⟩) rfl (fun Lb v act wy K => by
            have e1 : act.eval (.tmp 20) = .bool true := K.at_val 3 (by kernel_rfl) (by kernel_rfl) rfl
            have ec : act.eval (.const (.bool true)) = .bool true := rfl
            show (execOp act.eval _).run Tryz.prog wy = .ok (.value (.bool true)) wy
            generalize act.eval = ρ at e1 ec ⊢
            unfold execOp
            simp [go_sem, e1, ec]), ?_⟩
          refine ⟨gVal rfl (.inl ⟨rfl, rfl⟩) rfl (fun Lb v act wy K => by
            have e1 : act.eval (.tmp 25) = .bool true := K.at_val 8 (by kernel_rfl) (by kernel_rfl) rfl
            exact run_move _ rfl e1), ?_⟩
          refine ⟨gSkip rfl (.inr ⟨9, false, 26, rfl, (by kernel_rfl), (by kernel_rfl), rfl, rfl⟩) rfl rfl, ?_⟩
          refine ⟨gSkip rfl (.inr ⟨9, false, 26, rfl, (by kernel_rfl), (by kernel_rfl), rfl, rfl⟩) rfl rfl, ?_⟩
          refine ⟨gSkip rfl (.inr ⟨9, false, 26, rfl, (by kernel_rfl), (by kernel_rfl), rfl, rfl⟩) rfl rfl, ?_⟩
          refine ⟨gSkip rfl (.inr ⟨12, true, 29, rfl, (by kernel_rfl), (by kernel_rfl), rfl, rfl⟩) rfl rfl, ?_⟩
          refine ⟨gSkip rfl (.inr ⟨12, true, 29, rfl, (by kernel_rfl), (by kernel_rfl), rfl, rfl⟩) rfl rfl, ?_⟩
          refine ⟨gSkip rfl (.inr ⟨12, true, 29, rfl, (by kernel_rfl), (by kernel_rfl), rfl, rfl⟩) rfl rfl, ?_⟩
          refine ⟨gSkip rfl (.inr ⟨12, true, 29, rfl, (by kernel_rfl), (by kernel_rfl), rfl, rfl⟩) rfl rfl, ?_⟩
          refine ⟨gSkip rfl (.inr ⟨12, true, 29, rfl, (by kernel_rfl), (by kernel_rfl), rfl, rfl⟩) rfl rfl, ?_⟩
          refine ⟨gSkip rfl (.inr ⟨12, true, 29, rfl, (by kernel_rfl), (by kernel_rfl), rfl, rfl⟩) rfl rfl, ?_⟩
          refine ⟨gSkip rfl (.inr ⟨12, true, 29, rfl, (by kernel_rfl), (by kernel_rfl), rfl, rfl⟩) rfl rfl, ?_⟩
          refine ⟨gSkip rfl (.inr ⟨9, false, 26, rfl, (by kernel_rfl), (by kernel_rfl), rfl, rfl⟩) rfl rfl, ?_⟩
          refine ⟨gVal rfl (.inl ⟨rfl, rfl⟩) rfl (fun Lb v act wy K => by
            have e1 : act.eval (.tmp 26) = .bool true := K.at_val 9 (by kernel_rfl) (by kernel_rfl) rfl
            have ec : act.eval (.const (.bool true)) = .bool true := rfl
            show (execOp act.eval _).run Tryz.prog wy = .ok (.value (.bool true)) wy
            generalize act.eval = ρ at e1 ec ⊢
            unfold execOp
            simp [go_sem, e1, ec]), ?_⟩
          exact trivial
        have e21 : v 21 = .bool true := hG 21 (by show 21 < 22; decide)
        have HU := hid (HBz.out.trans (hb.mono HBz.out.size))
        clear hG hb
        simp only [putsAll, Act.put, List.setIfInBounds_toArray, List.set_cons_zero, List.set_cons_succ, e21]
        clear e21
        go_wp2
        go_ret
        exact ⟨by rw [hosts_no2 k hlt (by unfold hoIs; rw [← HX.out]; rw [HQ.out]; simp)]; rfl, HB.out.trans (HU.out.mono HB.out.size)⟩

      rw [hok] at HOK
      have HI1 := hid hok
      clear hok
      by_cases hid0 : x.H.id = (k : Int)
      rotate_left
      · have HQ := hid hid0
        refine region_grow (val := fun i => [.agg (List.toArray x.cells), .bool true, .bool false, .bool false, .pointer (some ⟨wr.heap.size, 0, none⟩), .int .i64 x.H.id, .int .i64 (k : Int), .bool true, .bool true, .bool true, undef, undef, undef, undef, undef, undef, undef, undef, undef, undef, undef, .bool true].getD i undef) (sp := fun _ => none) true (by kernel_rfl) (by kernel_rfl) [some 17, some 18, some 19, some 20, some 21, some 22, some 23, some 24, some 25, some 26, some 27, some 28, some 29, some 30, some 31, some 32, some 33, some 34, some 35, some 36, some 37, some 38] (by kernel_rfl) (fun _ _ h => by cases h) ?_ (fun v w hb hG => ?_)
        · refine ⟨gVal rfl (.inl ⟨rfl, rfl⟩) rfl (fun Lb v act wy K => Rg.run_load_at 68 (.tmp 6) rfl _ _ ((K.off (x := .tmp 6) (by kernel_rfl)).trans rfl) _ (rangeAt_below (Rg.range_of_row HRz.out) K.bel) _ Tryz.underlying68 rfl (by rw [hx_len]; kernel_rfl)), ?_⟩
          refine ⟨gCall rfl (.inl ⟨rfl, rfl⟩) 92 #[.tmp 17] _ (fun _ => #[.agg (List.toArray x.cells)]) rfl call_iHostOk (fun Lb v act wy K => by
            have e1 : act.eval (.tmp 17) = .agg (List.toArray x.cells) := K.at_val 0 (by kernel_rfl) (by kernel_rfl) rfl
            simp only [List.map_toArray, List.map_cons, List.map_nil, e1]) (fun v w hb hs => (HOK.out w hb).mono (fun e w' ⟨h1, h2⟩ => ⟨_, h1, h2, rfl⟩)), ?_⟩
          refine ⟨gVal rfl (.inl ⟨rfl, rfl⟩) rfl (fun Lb v act wy K => by
            have e1 : act.eval (.tmp 18) = .bool true := K.at_val 1 (by kernel_rfl) (by kernel_rfl) rfl
            show (execOp act.eval _).run Tryz.prog wy = .ok (.value (.bool false)) wy
            generalize act.eval = ρ at e1 ⊢
            unfold execOp
            simp [go_sem, e1]), ?_⟩
          refine ⟨gVal rfl (.inl ⟨rfl, rfl⟩) rfl (fun Lb v act wy K => by
            have e1 : act.eval (.tmp 19) = .bool false := K.at_val 2 (by kernel_rfl) (by kernel_rfl) rfl
            exact run_move _ rfl e1), ?_⟩
          refine ⟨gVal rfl (.inr ⟨3, false, 20, rfl, (by kernel_rfl), (by kernel_rfl), rfl, rfl⟩) rfl (fun Lb v act wy K => by
            have e1 : act.eval (.tmp 6) = .pointer (some ⟨wr.heap.size, 0, none⟩) := (K.off (x := .tmp 6) (by kernel_rfl)).trans rfl
            show (execOp act.eval _).run Tryz.prog wy = .ok (.value (.pointer (some ⟨wr.heap.size, 0, none⟩))) wy
            generalize act.eval = ρ at e1 ⊢
            unfold execOp
            simp [go_sem, e1]), ?_⟩
          refine ⟨gVal rfl (.inr ⟨3, false, 20, rfl, (by kernel_rfl), (by kernel_rfl), rfl, rfl⟩) rfl (fun Lb v act wy K => by
            have e1 : act.eval (.tmp 21) = .pointer (some ⟨wr.heap.size, 0, none⟩) := K.at_val 4 (by kernel_rfl) (by kernel_rfl) rfl
            have e2 := Rg.cell_later (HRz.out.c 0 rfl) K.bel
            show (execOp act.eval _).run Tryz.prog wy = .ok (.value (.int .i64 x.H.id)) wy
            generalize act.eval = ρ at e1 ⊢
            unfold execOp
            simp [go_sem, e1, e2]), ?_⟩
          refine ⟨gVal rfl (.inr ⟨3, false, 20, rfl, (by kernel_rfl), (by kernel_rfl), rfl, rfl⟩) rfl (fun Lb v act wy K => by
            have e1 : act.eval (.tmp 5) = .int .i64 (k : Int) := (K.off (x := .tmp 5) (by kernel_rfl)).trans rfl
            exact run_move _ rfl e1), ?_⟩
          refine ⟨gVal rfl (.inr ⟨3, false, 20, rfl, (by kernel_rfl), (by kernel_rfl), rfl, rfl⟩) rfl (fun Lb v act wy K => by
            have e1 : act.eval (.tmp 22) = .int .i64 x.H.id := K.at_val 5 (by kernel_rfl) (by kernel_rfl) rfl
            have e2 : act.eval (.tmp 23) = .int .i64 (k : Int) := K.at_val 6 (by kernel_rfl) (by kernel_rfl) rfl
            show (execOp act.eval _).run Tryz.prog wy = .ok (.value (.bool true)) wy
            generalize act.eval = ρ at e1 e2 ⊢
            unfold execOp
            simp [go_sem, e1, e2, HQ.out]), ?_⟩
          refine ⟨gVal rfl (.inl ⟨rfl, rfl⟩) rfl (fun Lb v act wy K => by
            have e1 : act.eval (.tmp 20) = .bool false := K.at_val 3 (by kernel_rfl) (by kernel_rfl) rfl
            have e2 : act.eval (.tmp 24) = .bool true := K.at_val 7 (by kernel_rfl) (by kernel_rfl) rfl
            show (execOp act.eval _).run Tryz.prog wy = .ok (.value (.bool true)) wy
            generalize act.eval = ρ at e1 e2 ⊢
            unfold execOp
            simp [go_sem, e1, e2]), ?_⟩
          refine ⟨gVal rfl (.inl ⟨rfl, rfl⟩) rfl (fun Lb v act wy K => by
            have e1 : act.eval (.tmp 25) = .bool true := K.at_val 8 (by kernel_rfl) (by kernel_rfl) rfl
            exact run_move _ rfl e1), ?_⟩
          refine ⟨gSkip rfl (.inr ⟨9, false, 26, rfl, (by kernel_rfl), (by kernel_rfl), rfl, rfl⟩) rfl rfl, ?_⟩
          refine ⟨gSkip rfl (.inr ⟨9, false, 26, rfl, (by kernel_rfl), (by kernel_rfl), rfl, rfl⟩) rfl rfl, ?_⟩
          refine ⟨gSkip rfl (.inr ⟨9, false, 26, rfl, (by kernel_rfl), (by kernel_rfl), rfl, rfl⟩) rfl rfl, ?_⟩
          refine ⟨gSkip rfl (.inr ⟨12, true, 29, rfl, (by kernel_rfl), (by kernel_rfl), rfl, rfl⟩) rfl rfl, ?_⟩
          refine ⟨gSkip rfl (.inr ⟨12, true, 29, rfl, (by kernel_rfl), (by kernel_rfl), rfl, rfl⟩) rfl rfl, ?_⟩
          refine ⟨gSkip rfl (.inr ⟨12, true, 29, rfl, (by kernel_rfl), (by kernel_rfl), rfl, rfl⟩) rfl rfl, ?_⟩
          refine ⟨gSkip rfl (.inr ⟨12, true, 29, rfl, (by kernel_rfl), (by kernel_rfl), rfl, rfl⟩) rfl rfl, ?_⟩
          refine ⟨gSkip rfl (.inr ⟨12, true, 29, rfl, (by kernel_rfl), (by kernel_rfl), rfl, rfl⟩) rfl rfl, ?_⟩
          refine ⟨gSkip rfl (.inr ⟨12, true, 29, rfl, (by kernel_rfl), (by kernel_rfl), rfl, rfl⟩) rfl rfl, ?_⟩
          refine ⟨gSkip rfl (.inr ⟨12, true, 29, rfl, (by kernel_rfl), (by kernel_rfl), rfl, rfl⟩) rfl rfl, ?_⟩
          refine ⟨gSkip rfl (.inr ⟨9, false, 26, rfl, (by kernel_rfl), (by kernel_rfl), rfl, rfl⟩) rfl rfl, ?_⟩
          refine ⟨gVal rfl (.inl ⟨rfl, rfl⟩) rfl (fun Lb v act wy K => by
            have e1 : act.eval (.tmp 26) = .bool true := K.at_val 9 (by kernel_rfl) (by kernel_rfl) rfl
            have ec : act.eval (.const (.bool true)) = .bool true := rfl
            show (execOp act.eval _).run Tryz.prog wy = .ok (.value (.bool true)) wy
            generalize act.eval = ρ at e1 ec ⊢
            unfold execOp
            simp [go_sem, e1, ec]), ?_⟩
          exact trivial
        have e21 : v 21 = .bool true := hG 21 (by show 21 < 22; decide)
        have HU := hid (HBz.out.trans (hb.mono HBz.out.size))
        clear hG hb
        simp only [putsAll, Act.put, List.setIfInBounds_toArray, List.set_cons_zero, List.set_cons_succ, e21]
        clear e21
        go_wp2
        go_ret
        exact ⟨by rw [hosts_no2 k hlt (by unfold hoIs; rw [← HX.out]; rw [decide_eq_false HQ.out]; rfl)]; rfl, HB.out.trans (HU.out.mono HB.out.size)⟩

      have HI0 := hid hid0
      cases hup : x.H.up
      · have HUP : Hid (wz.cell? ⟨wr.heap.size, 2, none⟩ = some (.bool false)) := by have := HRz.out.c 2 rfl; rw [hup] at this; exact this
        have HQ := hid hup
        clear hup
        refine region_grow (val := fun i => [.agg (List.toArray x.cells), .bool true, .bool false, .bool false, .pointer (some ⟨wr.heap.size, 0, none⟩), .int .i64 x.H.id, .int .i64 (k : Int), .bool false, .bool false, .bool false, .pointer (some ⟨wr.heap.size, 2, none⟩), .bool false, .bool false, undef, undef, undef, undef, undef, undef, undef, .bool false, .bool false].getD i undef) (sp := fun _ => none) true (by kernel_rfl) (by kernel_rfl) [some 17, some 18, some 19, some 20, some 21, some 22, some 23, some 24, some 25, some 26, some 27, some 28, some 29, some 30, some 31, some 32, some 33, some 34, some 35, some 36, some 37, some 38] (by kernel_rfl) (fun _ _ h => by cases h) ?_ (fun v w hb hG => ?_)
        · refine ⟨gVal rfl (.inl ⟨rfl, rfl⟩) rfl (fun Lb v act wy K => Rg.run_load_at 68 (.tmp 6) rfl _ _ ((K.off (x := .tmp 6) (by kernel_rfl)).trans rfl) _ (rangeAt_below (Rg.range_of_row HRz.out) K.bel) _ Tryz.underlying68 rfl (by rw [hx_len]; kernel_rfl)), ?_⟩
          refine ⟨gCall rfl (.inl ⟨rfl, rfl⟩) 92 #[.tmp 17] _ (fun _ => #[.agg (List.toArray x.cells)]) rfl call_iHostOk (fun Lb v act wy K => by
            have e1 : act.eval (.tmp 17) = .agg (List.toArray x.cells) := K.at_val 0 (by kernel_rfl) (by kernel_rfl) rfl
            simp only [List.map_toArray, List.map_cons, List.map_nil, e1]) (fun v w hb hs => (HOK.out w hb).mono (fun e w' ⟨h1, h2⟩ => ⟨_, h1, h2, rfl⟩)), ?_⟩
          refine ⟨gVal rfl (.inl ⟨rfl, rfl⟩) rfl (fun Lb v act wy K => by
            have e1 : act.eval (.tmp 18) = .bool true := K.at_val 1 (by kernel_rfl) (by kernel_rfl) rfl
            show (execOp act.eval _).run Tryz.prog wy = .ok (.value (.bool false)) wy
            generalize act.eval = ρ at e1 ⊢
            unfold execOp
            simp [go_sem, e1]), ?_⟩
          refine ⟨gVal rfl (.inl ⟨rfl, rfl⟩) rfl (fun Lb v act wy K => by
            have e1 : act.eval (.tmp 19) = .bool false := K.at_val 2 (by kernel_rfl) (by kernel_rfl) rfl
            exact run_move _ rfl e1), ?_⟩
          refine ⟨gVal rfl (.inr ⟨3, false, 20, rfl, (by kernel_rfl), (by kernel_rfl), rfl, rfl⟩) rfl (fun Lb v act wy K => by
            have e1 : act.eval (.tmp 6) = .pointer (some ⟨wr.heap.size, 0, none⟩) := (K.off (x := .tmp 6) (by kernel_rfl)).trans rfl
            show (execOp act.eval _).run Tryz.prog wy = .ok (.value (.pointer (some ⟨wr.heap.size, 0, none⟩))) wy
            generalize act.eval = ρ at e1 ⊢
            unfold execOp
            simp [go_sem, e1]), ?_⟩
          refine ⟨gVal rfl (.inr ⟨3, false, 20, rfl, (by kernel_rfl), (by kernel_rfl), rfl, rfl⟩) rfl (fun Lb v act wy K => by
            have e1 : act.eval (.tmp 21) = .pointer (some ⟨wr.heap.size, 0, none⟩) := K.at_val 4 (by kernel_rfl) (by kernel_rfl) rfl
            have e2 := Rg.cell_later (HRz.out.c 0 rfl) K.bel
            show (execOp act.eval _).run Tryz.prog wy = .ok (.value (.int .i64 x.H.id)) wy
            generalize act.eval = ρ at e1 ⊢
            unfold execOp
            simp [go_sem, e1, e2]), ?_⟩
          refine ⟨gVal rfl (.inr ⟨3, false, 20, rfl, (by kernel_rfl), (by kernel_rfl), rfl, rfl⟩) rfl (fun Lb v act wy K => by
            have e1 : act.eval (.tmp 5) = .int .i64 (k : Int) := (K.off (x := .tmp 5) (by kernel_rfl)).trans rfl
            exact run_move _ rfl e1), ?_⟩
          refine ⟨gVal rfl (.inr ⟨3, false, 20, rfl, (by kernel_rfl), (by kernel_rfl), rfl, rfl⟩) rfl (fun Lb v act wy K => by
            have e1 : act.eval (.tmp 22) = .int .i64 x.H.id := K.at_val 5 (by kernel_rfl) (by kernel_rfl) rfl
            have e2 : act.eval (.tmp 23) = .int .i64 (k : Int) := K.at_val 6 (by kernel_rfl) (by kernel_rfl) rfl
            show (execOp act.eval _).run Tryz.prog wy = .ok (.value (.bool false)) wy
            generalize act.eval = ρ at e1 e2 ⊢
            unfold execOp
            simp [go_sem, e1, e2, HI0.out]), ?_⟩
          refine ⟨gVal rfl (.inl ⟨rfl, rfl⟩) rfl (fun Lb v act wy K => by
            have e1 : act.eval (.tmp 20) = .bool false := K.at_val 3 (by kernel_rfl) (by kernel_rfl) rfl
            have e2 : act.eval (.tmp 24) = .bool false := K.at_val 7 (by kernel_rfl) (by kernel_rfl) rfl
            show (execOp act.eval _).run Tryz.prog wy = .ok (.value (.bool false)) wy
            generalize act.eval = ρ at e1 e2 ⊢
            unfold execOp
            simp [go_sem, e1, e2]), ?_⟩
          refine ⟨gVal rfl (.inl ⟨rfl, rfl⟩) rfl (fun Lb v act wy K => by
            have e1 : act.eval (.tmp 25) = .bool false := K.at_val 8 (by kernel_rfl) (by kernel_rfl) rfl
            exact run_move _ rfl e1), ?_⟩
          refine ⟨gVal rfl (.inr ⟨9, false, 26, rfl, (by kernel_rfl), (by kernel_rfl), rfl, rfl⟩) rfl (fun Lb v act wy K => by
            have e1 : act.eval (.tmp 6) = .pointer (some ⟨wr.heap.size, 0, none⟩) := (K.off (x := .tmp 6) (by kernel_rfl)).trans rfl
            show (execOp act.eval _).run Tryz.prog wy = .ok (.value (.pointer (some ⟨wr.heap.size, 2, none⟩))) wy
            generalize act.eval = ρ at e1 ⊢
            unfold execOp
            simp [go_sem, e1]), ?_⟩
          refine ⟨gVal rfl (.inr ⟨9, false, 26, rfl, (by kernel_rfl), (by kernel_rfl), rfl, rfl⟩) rfl (fun Lb v act wy K => by
            have e1 : act.eval (.tmp 27) = .pointer (some ⟨wr.heap.size, 2, none⟩) := K.at_val 10 (by kernel_rfl) (by kernel_rfl) rfl
            have e2 := Rg.cell_later (HUP.out) K.bel
            show (execOp act.eval _).run Tryz.prog wy = .ok (.value (.bool false)) wy
            generalize act.eval = ρ at e1 ⊢
            unfold execOp
            simp [go_sem, e1, e2]), ?_⟩
          refine ⟨gVal rfl (.inr ⟨9, false, 26, rfl, (by kernel_rfl), (by kernel_rfl), rfl, rfl⟩) rfl (fun Lb v act wy K => by
            have e1 : act.eval (.tmp 28) = .bool false := K.at_val 11 (by kernel_rfl) (by kernel_rfl) rfl
            exact run_move _ rfl e1), ?_⟩
          refine ⟨gSkip rfl (.inr ⟨12, true, 29, rfl, (by kernel_rfl), (by kernel_rfl), rfl, rfl⟩) rfl rfl, ?_⟩
          refine ⟨gSkip rfl (.inr ⟨12, true, 29, rfl, (by kernel_rfl), (by kernel_rfl), rfl, rfl⟩) rfl rfl, ?_⟩
          refine ⟨gSkip rfl (.inr ⟨12, true, 29, rfl, (by kernel_rfl), (by kernel_rfl), rfl, rfl⟩) rfl rfl, ?_⟩
          refine ⟨gSkip rfl (.inr ⟨12, true, 29, rfl, (by kernel_rfl), (by kernel_rfl), rfl, rfl⟩) rfl rfl, ?_⟩
          refine ⟨gSkip rfl (.inr ⟨12, true, 29, rfl, (by kernel_rfl), (by kernel_rfl), rfl, rfl⟩) rfl rfl, ?_⟩
          refine ⟨gSkip rfl (.inr ⟨12, true, 29, rfl, (by kernel_rfl), (by kernel_rfl), rfl, rfl⟩) rfl rfl, ?_⟩
          refine ⟨gSkip rfl (.inr ⟨12, true, 29, rfl, (by kernel_rfl), (by kernel_rfl), rfl, rfl⟩) rfl rfl, ?_⟩
          refine ⟨gVal rfl (.inr ⟨9, false, 26, rfl, (by kernel_rfl), (by kernel_rfl), rfl, rfl⟩) rfl (fun Lb v act wy K => by
            have e1 : act.eval (.tmp 29) = .bool false := K.at_val 12 (by kernel_rfl) (by kernel_rfl) rfl
            have ec : act.eval (.const (.bool false)) = .bool false := rfl
            show (execOp act.eval _).run Tryz.prog wy = .ok (.value (.bool false)) wy
            generalize act.eval = ρ at e1 ec ⊢
            unfold execOp
            simp [go_sem, e1, ec]), ?_⟩
          refine ⟨gVal rfl (.inl ⟨rfl, rfl⟩) rfl (fun Lb v act wy K => by
            have e1 : act.eval (.tmp 26) = .bool false := K.at_val 9 (by kernel_rfl) (by kernel_rfl) rfl
            have e2 : act.eval (.tmp 37) = .bool false := K.at_val 20 (by kernel_rfl) (by kernel_rfl) rfl
            show (execOp act.eval _).run Tryz.prog wy = .ok (.value (.bool false)) wy
            generalize act.eval = ρ at e1 e2 ⊢
            unfold execOp
            simp [go_sem, e1, e2]), ?_⟩
          exact trivial
        have e21 : v 21 = .bool false := hG 21 (by show 21 < 22; decide)
        have HU := hid (HBz.out.trans (hb.mono HBz.out.size))
        clear hG hb
        simp only [putsAll, Act.put, List.setIfInBounds_toArray, List.set_cons_zero, List.set_cons_succ, e21]
        clear e21
        go_wp2
        refine ⟨⟨k + 1, by omega, by go_num, ?_, HB.out.trans (HU.out.mono HB.out.size)⟩, by simp [intOf]; omega⟩
        intro j hj
        by_cases hjk : j = k
        · subst hjk
          unfold hoIs
          rw [← HX.out, decide_eq_true HI0.out, HI1.out]
          rw [HQ.out]; rfl
        · exact HI.out j (by omega)

      have HUP : Hid (wz.cell? ⟨wr.heap.size, 2, none⟩ = some (.bool true)) := by have := HRz.out.c 2 rfl; rw [hup] at this; exact this
      have HI2 := hid hup
      clear hup
      by_cases hep : E < x.H.ep
      · have HQ := hid hep
        refine region_grow (val := fun i => [.agg (List.toArray x.cells), .bool true, .bool false, .bool false, .pointer (some ⟨wr.heap.size, 0, none⟩), .int .i64 x.H.id, .int .i64 (k : Int), .bool false, .bool false, .bool false, .pointer (some ⟨wr.heap.size, 2, none⟩), .bool true, .bool true, .pointer (some ⟨wr.heap.size, 1, none⟩), .int .i64 x.H.ep, .slice (some ⟨eb, eo, none⟩) 3 ec, .int .i64 (k : Int), .pointer (some ⟨eb, eo + k, none⟩), .int .i64 E, .bool true, .bool true, .bool true].getD i undef) (sp := fun _ => none) true (by kernel_rfl) (by kernel_rfl) [some 17, some 18, some 19, some 20, some 21, some 22, some 23, some 24, some 25, some 26, some 27, some 28, some 29, some 30, some 31, some 32, some 33, some 34, some 35, some 36, some 37, some 38] (by kernel_rfl) (fun _ _ h => by cases h) ?_ (fun v w hb hG => ?_)
        · refine ⟨gVal rfl (.inl ⟨rfl, rfl⟩) rfl (fun Lb v act wy K => Rg.run_load_at 68 (.tmp 6) rfl _ _ ((K.off (x := .tmp 6) (by kernel_rfl)).trans rfl) _ (rangeAt_below (Rg.range_of_row HRz.out) K.bel) _ Tryz.underlying68 rfl (by rw [hx_len]; kernel_rfl)), ?_⟩
          refine ⟨gCall rfl (.inl ⟨rfl, rfl⟩) 92 #[.tmp 17] _ (fun _ => #[.agg (List.toArray x.cells)]) rfl call_iHostOk (fun Lb v act wy K => by
            have e1 : act.eval (.tmp 17) = .agg (List.toArray x.cells) := K.at_val 0 (by kernel_rfl) (by kernel_rfl) rfl
            simp only [List.map_toArray, List.map_cons, List.map_nil, e1]) (fun v w hb hs => (HOK.out w hb).mono (fun e w' ⟨h1, h2⟩ => ⟨_, h1, h2, rfl⟩)), ?_⟩
          refine ⟨gVal rfl (.inl ⟨rfl, rfl⟩) rfl (fun Lb v act wy K => by
            have e1 : act.eval (.tmp 18) = .bool true := K.at_val 1 (by kernel_rfl) (by kernel_rfl) rfl
            show (execOp act.eval _).run Tryz.prog wy = .ok (.value (.bool false)) wy
            generalize act.eval = ρ at e1 ⊢
            unfold execOp
            simp [go_sem, e1]), ?_⟩
          refine ⟨gVal rfl (.inl ⟨rfl, rfl⟩) rfl (fun Lb v act wy K => by
            have e1 : act.eval (.tmp 19) = .bool false := K.at_val 2 (by kernel_rfl) (by kernel_rfl) rfl
            exact run_move _ rfl e1), ?_⟩
          refine ⟨gVal rfl (.inr ⟨3, false, 20, rfl, (by kernel_rfl), (by kernel_rfl), rfl, rfl⟩) rfl (fun Lb v act wy K => by
            have e1 : act.eval (.tmp 6) = .pointer (some ⟨wr.heap.size, 0, none⟩) := (K.off (x := .tmp 6) (by kernel_rfl)).trans rfl
            show (execOp act.eval _).run Tryz.prog wy = .ok (.value (.pointer (some ⟨wr.heap.size, 0, none⟩))) wy
            generalize act.eval = ρ at e1 ⊢
            unfold execOp
            simp [go_sem, e1]), ?_⟩
          refine ⟨gVal rfl (.inr ⟨3, false, 20, rfl, (by kernel_rfl), (by kernel_rfl), rfl, rfl⟩) rfl (fun Lb v act wy K => by
            have e1 : act.eval (.tmp 21) = .pointer (some ⟨wr.heap.size, 0, none⟩) := K.at_val 4 (by kernel_rfl) (by kernel_rfl) rfl
            have e2 := Rg.cell_later (HRz.out.c 0 rfl) K.bel
            show (execOp act.eval _).run Tryz.prog wy = .ok (.value (.int .i64 x.H.id)) wy
            generalize act.eval = ρ at e1 ⊢
            unfold execOp
            simp [go_sem, e1, e2]), ?_⟩
          refine ⟨gVal rfl (.inr ⟨3, false, 20, rfl, (by kernel_rfl), (by kernel_rfl), rfl, rfl⟩) rfl (fun Lb v act wy K => by
            have e1 : act.eval (.tmp 5) = .int .i64 (k : Int) := (K.off (x := .tmp 5) (by kernel_rfl)).trans rfl
            exact run_move _ rfl e1), ?_⟩
          refine ⟨gVal rfl (.inr ⟨3, false, 20, rfl, (by kernel_rfl), (by kernel_rfl), rfl, rfl⟩) rfl (fun Lb v act wy K => by
            have e1 : act.eval (.tmp 22) = .int .i64 x.H.id := K.at_val 5 (by kernel_rfl) (by kernel_rfl) rfl
            have e2 : act.eval (.tmp 23) = .int .i64 (k : Int) := K.at_val 6 (by kernel_rfl) (by kernel_rfl) rfl
            show (execOp act.eval _).run Tryz.prog wy = .ok (.value (.bool false)) wy
            generalize act.eval = ρ at e1 e2 ⊢
            unfold execOp
            simp [go_sem, e1, e2, HI0.out]), ?_⟩
          refine ⟨gVal rfl (.inl ⟨rfl, rfl⟩) rfl (fun Lb v act wy K => by
            have e1 : act.eval (.tmp 20) = .bool false := K.at_val 3 (by kernel_rfl) (by kernel_rfl) rfl
            have e2 : act.eval (.tmp 24) = .bool false := K.at_val 7 (by kernel_rfl) (by kernel_rfl) rfl
            show (execOp act.eval _).run Tryz.prog wy = .ok (.value (.bool false)) wy
            generalize act.eval = ρ at e1 e2 ⊢
            unfold execOp
            simp [go_sem, e1, e2]), ?_⟩
          refine ⟨gVal rfl (.inl ⟨rfl, rfl⟩) rfl (fun Lb v act wy K => by
            have e1 : act.eval (.tmp 25) = .bool false := K.at_val 8 (by kernel_rfl) (by kernel_rfl) rfl
            exact run_move _ rfl e1), ?_⟩
          refine ⟨gVal rfl (.inr ⟨9, false, 26, rfl, (by kernel_rfl), (by kernel_rfl), rfl, rfl⟩) rfl (fun Lb v act wy K => by
            have e1 : act.eval (.tmp 6) = .pointer (some ⟨wr.heap.size, 0, none⟩) := (K.off (x := .tmp 6) (by kernel_rfl)).trans rfl
            show (execOp act.eval _).run Tryz.prog wy = .ok (.value (.pointer (some ⟨wr.heap.size, 2, none⟩))) wy
            generalize act.eval = ρ at e1 ⊢
            unfold execOp
            simp [go_sem, e1]), ?_⟩
          refine ⟨gVal rfl (.inr ⟨9, false, 26, rfl, (by kernel_rfl), (by kernel_rfl), rfl, rfl⟩) rfl (fun Lb v act wy K => by
            have e1 : act.eval (.tmp 27) = .pointer (some ⟨wr.heap.size, 2, none⟩) := K.at_val 10 (by kernel_rfl) (by kernel_rfl) rfl
            have e2 := Rg.cell_later (HUP.out) K.bel
            show (execOp act.eval _).run Tryz.prog wy = .ok (.value (.bool true)) wy
            generalize act.eval = ρ at e1 ⊢
            unfold execOp
            simp [go_sem, e1, e2]), ?_⟩
          refine ⟨gVal rfl (.inr ⟨9, false, 26, rfl, (by kernel_rfl), (by kernel_rfl), rfl, rfl⟩) rfl (fun Lb v act wy K => by
            have e1 : act.eval (.tmp 28) = .bool true := K.at_val 11 (by kernel_rfl) (by kernel_rfl) rfl
            exact run_move _ rfl e1), ?_⟩
          refine ⟨gVal rfl (.inr ⟨12, true, 29, rfl, (by kernel_rfl), (by kernel_rfl), rfl, rfl⟩) rfl (fun Lb v act wy K => by
            have e1 : act.eval (.tmp 6) = .pointer (some ⟨wr.heap.size, 0, none⟩) := (K.off (x := .tmp 6) (by kernel_rfl)).trans rfl
            show (execOp act.eval _).run Tryz.prog wy = .ok (.value (.pointer (some ⟨wr.heap.size, 1, none⟩))) wy
            generalize act.eval = ρ at e1 ⊢
            unfold execOp
            simp [go_sem, e1]), ?_⟩
          refine ⟨gVal rfl (.inr ⟨12, true, 29, rfl, (by kernel_rfl), (by kernel_rfl), rfl, rfl⟩) rfl (fun Lb v act wy K => by
            have e1 : act.eval (.tmp 30) = .pointer (some ⟨wr.heap.size, 1, none⟩) := K.at_val 13 (by kernel_rfl) (by kernel_rfl) rfl
            have e2 := Rg.cell_later (HRz.out.c 1 rfl) K.bel
            show (execOp act.eval _).run Tryz.prog wy = .ok (.value (.int .i64 x.H.ep)) wy
            generalize act.eval = ρ at e1 ⊢
            unfold execOp
            simp [go_sem, e1, e2]), ?_⟩
          refine ⟨gVal rfl (.inr ⟨12, true, 29, rfl, (by kernel_rfl), (by kernel_rfl), rfl, rfl⟩) rfl (fun Lb v act wy K => by
            have e1 : act.eval (.tmp 1) = .slice (some ⟨eb, eo, none⟩) 3 ec := (K.off (x := .tmp 1) (by kernel_rfl)).trans rfl
            exact run_move _ rfl e1), ?_⟩
          refine ⟨gVal rfl (.inr ⟨12, true, 29, rfl, (by kernel_rfl), (by kernel_rfl), rfl, rfl⟩) rfl (fun Lb v act wy K => by
            have e1 : act.eval (.tmp 5) = .int .i64 (k : Int) := (K.off (x := .tmp 5) (by kernel_rfl)).trans rfl
            exact run_move _ rfl e1), ?_⟩
          refine ⟨gVal rfl (.inr ⟨12, true, 29, rfl, (by kernel_rfl), (by kernel_rfl), rfl, rfl⟩) rfl (fun Lb v act wy K => by
            have e1 : act.eval (.tmp 32) = .slice (some ⟨eb, eo, none⟩) 3 ec := K.at_val 15 (by kernel_rfl) (by kernel_rfl) rfl
            have e2 : act.eval (.tmp 33) = .int .i64 (k : Int) := K.at_val 16 (by kernel_rfl) (by kernel_rfl) rfl
            show (execOp act.eval _).run Tryz.prog wy = .ok (.value (.pointer (some ⟨eb, eo + k, none⟩))) wy
            generalize act.eval = ρ at e1 e2 ⊢
            unfold execOp
            simp [go_sem, e1, e2, hk3]), ?_⟩
          refine ⟨gVal rfl (.inr ⟨12, true, 29, rfl, (by kernel_rfl), (by kernel_rfl), rfl, rfl⟩) rfl (fun Lb v act wy K => by
            have e1 : act.eval (.tmp 34) = .pointer (some ⟨eb, eo + k, none⟩) := K.at_val 17 (by kernel_rfl) (by kernel_rfl) rfl
            have e2 := Rg.cell_later (HCE.out) K.bel
            show (execOp act.eval _).run Tryz.prog wy = .ok (.value (.int .i64 E)) wy
            generalize act.eval = ρ at e1 ⊢
            unfold execOp
            simp [go_sem, e1, e2]), ?_⟩
          refine ⟨gVal rfl (.inr ⟨12, true, 29, rfl, (by kernel_rfl), (by kernel_rfl), rfl, rfl⟩) rfl (fun Lb v act wy K => by
            have e1 : act.eval (.tmp 31) = .int .i64 x.H.ep := K.at_val 14 (by kernel_rfl) (by kernel_rfl) rfl
            have e2 : act.eval (.tmp 35) = .int .i64 E := K.at_val 18 (by kernel_rfl) (by kernel_rfl) rfl
            show (execOp act.eval _).run Tryz.prog wy = .ok (.value (.bool true)) wy
            generalize act.eval = ρ at e1 e2 ⊢
            unfold execOp
            simp [go_sem, e1, e2, HQ.out]), ?_⟩
          refine ⟨gVal rfl (.inr ⟨9, false, 26, rfl, (by kernel_rfl), (by kernel_rfl), rfl, rfl⟩) rfl (fun Lb v act wy K => by
            have e1 : act.eval (.tmp 29) = .bool true := K.at_val 12 (by kernel_rfl) (by kernel_rfl) rfl
            have e2 : act.eval (.tmp 36) = .bool true := K.at_val 19 (by kernel_rfl) (by kernel_rfl) rfl
            show (execOp act.eval _).run Tryz.prog wy = .ok (.value (.bool true)) wy
            generalize act.eval = ρ at e1 e2 ⊢
            unfold execOp
            simp [go_sem, e1, e2]), ?_⟩
          refine ⟨gVal rfl (.inl ⟨rfl, rfl⟩) rfl (fun Lb v act wy K => by
            have e1 : act.eval (.tmp 26) = .bool false := K.at_val 9 (by kernel_rfl) (by kernel_rfl) rfl
            have e2 : act.eval (.tmp 37) = .bool true := K.at_val 20 (by kernel_rfl) (by kernel_rfl) rfl
            show (execOp act.eval _).run Tryz.prog wy = .ok (.value (.bool true)) wy
            generalize act.eval = ρ at e1 e2 ⊢
            unfold execOp
            simp [go_sem, e1, e2]), ?_⟩
          exact trivial
        have e21 : v 21 = .bool true := hG 21 (by show 21 < 22; decide)
        have HU := hid (HBz.out.trans (hb.mono HBz.out.size))
        clear hG hb
        simp only [putsAll, Act.put, List.setIfInBounds_toArray, List.set_cons_zero, List.set_cons_succ, e21]
        clear e21
        go_wp2
        go_ret
        exact ⟨by rw [hosts_no2 k hlt (by unfold hoIs; rw [← HX.out]; rw [HI2.out, HE.out, decide_eq_true HQ.out]; simp)]; rfl, HB.out.trans (HU.out.mono HB.out.size)⟩

      have HQ := hid hep
      refine region_grow (val := fun i => [.agg (List.toArray x.cells), .bool true, .bool false, .bool false, .pointer (some ⟨wr.heap.size, 0, none⟩), .int .i64 x.H.id, .int .i64 (k : Int), .bool false, .bool false, .bool false, .pointer (some ⟨wr.heap.size, 2, none⟩), .bool true, .bool true, .pointer (some ⟨wr.heap.size, 1, none⟩), .int .i64 x.H.ep, .slice (some ⟨eb, eo, none⟩) 3 ec, .int .i64 (k : Int), .pointer (some ⟨eb, eo + k, none⟩), .int .i64 E, .bool false, .bool false, .bool false].getD i undef) (sp := fun _ => none) true (by kernel_rfl) (by kernel_rfl) [some 17, some 18, some 19, some 20, some 21, some 22, some 23, some 24, some 25, some 26, some 27, some 28, some 29, some 30, some 31, some 32, some 33, some 34, some 35, some 36, some 37, some 38] (by kernel_rfl) (fun _ _ h => by cases h) ?_ (fun v w hb hG => ?_)
      · refine ⟨gVal rfl (.inl ⟨rfl, rfl⟩) rfl (fun Lb v act wy K => Rg.run_load_at 68 (.tmp 6) rfl _ _ ((K.off (x := .tmp 6) (by kernel_rfl)).trans rfl) _ (rangeAt_below (Rg.range_of_row HRz.out) K.bel) _ Tryz.underlying68 rfl (by rw [hx_len]; kernel_rfl)), ?_⟩
        refine ⟨gCall rfl (.inl ⟨rfl, rfl⟩) 92 #[.tmp 17] _ (fun _ => #[.agg (List.toArray x.cells)]) rfl call_iHostOk (fun Lb v act wy K => by
          have e1 : act.eval (.tmp 17) = .agg (List.toArray x.cells) := K.at_val 0 (by kernel_rfl) (by kernel_rfl) rfl
          simp only [List.map_toArray, List.map_cons, List.map_nil, e1]) (fun v w hb hs => (HOK.out w hb).mono (fun e w' ⟨h1, h2⟩ => ⟨_, h1, h2, rfl⟩)), ?_⟩
        refine ⟨gVal rfl (.inl ⟨rfl, rfl⟩) rfl (fun Lb v act wy K => by
          have e1 : act.eval (.tmp 18) = .bool true := K.at_val 1 (by kernel_rfl) (by kernel_rfl) rfl
          show (execOp act.eval _).run Tryz.prog wy = .ok (.value (.bool false)) wy
          generalize act.eval = ρ at e1 ⊢
          unfold execOp
          simp [go_sem, e1]), ?_⟩
        refine ⟨gVal rfl (.inl ⟨rfl, rfl⟩) rfl (fun Lb v act wy K => by
          have e1 : act.eval (.tmp 19) = .bool false := K.at_val 2 (by kernel_rfl) (by kernel_rfl) rfl
          exact run_move _ rfl e1), ?_⟩
        refine ⟨gVal rfl (.inr ⟨3, false, 20, rfl, (by kernel_rfl), (by kernel_rfl), rfl, rfl⟩) rfl (fun Lb v act wy K => by
          have e1 : act.eval (.tmp 6) = .pointer (some ⟨wr.heap.size, 0, none⟩) := (K.off (x := .tmp 6) (by kernel_rfl)).trans rfl
          show (execOp act.eval _).run Tryz.prog wy = .ok (.value (.pointer (some ⟨wr.heap.size, 0, none⟩))) wy
          generalize act.eval = ρ at e1 ⊢
          unfold execOp
          simp [go_sem, e1]), ?_⟩
        refine ⟨gVal rfl (.inr ⟨3, false, 20, rfl, (by kernel_rfl), (by kernel_rfl), rfl, rfl⟩) rfl (fun Lb v act wy K => by
          have e1 : act.eval (.tmp 21) = .pointer (some ⟨wr.heap.size, 0, none⟩) := K.at_val 4 (by kernel_rfl) (by kernel_rfl) rfl
          have e2 := Rg.cell_later (HRz.out.c 0 rfl) K.bel
          show (execOp act.eval _).run Tryz.prog wy = .ok (.value (.int .i64 x.H.id)) wy
          generalize act.eval = ρ at e1 ⊢
          unfold execOp
          simp [go_sem, e1, e2]), ?_⟩
        refine ⟨gVal rfl (.inr ⟨3, false, 20, rfl, (by kernel_rfl), (by kernel_rfl), rfl, rfl⟩) rfl (fun Lb v act wy K => by
          have e1 : act.eval (.tmp 5) = .int .i64 (k : Int) := (K.off (x := .tmp 5) (by kernel_rfl)).trans rfl
          exact run_move _ rfl e1), ?_⟩
        refine ⟨gVal rfl (.inr ⟨3, false, 20, rfl, (by kernel_rfl), (by kernel_rfl), rfl, rfl⟩) rfl (fun Lb v act wy K => by
          have e1 : act.eval (.tmp 22) = .int .i64 x.H.id := K.at_val 5 (by kernel_rfl) (by kernel_rfl) rfl
          have e2 : act.eval (.tmp 23) = .int .i64 (k : Int) := K.at_val 6 (by kernel_rfl) (by kernel_rfl) rfl
          show (execOp act.eval _).run Tryz.prog wy = .ok (.value (.bool false)) wy
          generalize act.eval = ρ at e1 e2 ⊢
          unfold execOp
          simp [go_sem, e1, e2, HI0.out]), ?_⟩
        refine ⟨gVal rfl (.inl ⟨rfl, rfl⟩) rfl (fun Lb v act wy K => by
          have e1 : act.eval (.tmp 20) = .bool false := K.at_val 3 (by kernel_rfl) (by kernel_rfl) rfl
          have e2 : act.eval (.tmp 24) = .bool false := K.at_val 7 (by kernel_rfl) (by kernel_rfl) rfl
          show (execOp act.eval _).run Tryz.prog wy = .ok (.value (.bool false)) wy
          generalize act.eval = ρ at e1 e2 ⊢
          unfold execOp
          simp [go_sem, e1, e2]), ?_⟩
        refine ⟨gVal rfl (.inl ⟨rfl, rfl⟩) rfl (fun Lb v act wy K => by
          have e1 : act.eval (.tmp 25) = .bool false := K.at_val 8 (by kernel_rfl) (by kernel_rfl) rfl
          exact run_move _ rfl e1), ?_⟩
        refine ⟨gVal rfl (.inr ⟨9, false, 26, rfl, (by kernel_rfl), (by kernel_rfl), rfl, rfl⟩) rfl (fun Lb v act wy K => by
          have e1 : act.eval (.tmp 6) = .pointer (some ⟨wr.heap.size, 0, none⟩) := (K.off (x := .tmp 6) (by kernel_rfl)).trans rfl
          show (execOp act.eval _).run Tryz.prog wy = .ok (.value (.pointer (some ⟨wr.heap.size, 2, none⟩))) wy
          generalize act.eval = ρ at e1 ⊢
          unfold execOp
          simp [go_sem, e1]), ?_⟩
        refine ⟨gVal rfl (.inr ⟨9, false, 26, rfl, (by kernel_rfl), (by kernel_rfl), rfl, rfl⟩) rfl (fun Lb v act wy K => by
          have e1 : act.eval (.tmp 27) = .pointer (some ⟨wr.heap.size, 2, none⟩) := K.at_val 10 (by kernel_rfl) (by kernel_rfl) rfl
          have e2 := Rg.cell_later (HUP.out) K.bel
          show (execOp act.eval _).run Tryz.prog wy = .ok (.value (.bool true)) wy
          generalize act.eval = ρ at e1 ⊢
          unfold execOp
          simp [go_sem, e1, e2]), ?_⟩
        refine ⟨gVal rfl (.inr ⟨9, false, 26, rfl, (by kernel_rfl), (by kernel_rfl), rfl, rfl⟩) rfl (fun Lb v act wy K => by
          have e1 : act.eval (.tmp 28) = .bool true := K.at_val 11 (by kernel_rfl) (by kernel_rfl) rfl
          exact run_move _ rfl e1), ?_⟩
        refine ⟨gVal rfl (.inr ⟨12, true, 29, rfl, (by kernel_rfl), (by kernel_rfl), rfl, rfl⟩) rfl (fun Lb v act wy K => by
          have e1 : act.eval (.tmp 6) = .pointer (some ⟨wr.heap.size, 0, none⟩) := (K.off (x := .tmp 6) (by kernel_rfl)).trans rfl
          show (execOp act.eval _).run Tryz.prog wy = .ok (.value (.pointer (some ⟨wr.heap.size, 1, none⟩))) wy
          generalize act.eval = ρ at e1 ⊢
          unfold execOp
          simp [go_sem, e1]), ?_⟩
        refine ⟨gVal rfl (.inr ⟨12, true, 29, rfl, (by kernel_rfl), (by kernel_rfl), rfl, rfl⟩) rfl (fun Lb v act wy K => by
          have e1 : act.eval (.tmp 30) = .pointer (some ⟨wr.heap.size, 1, none⟩) := K.at_val 13 (by kernel_rfl) (by kernel_rfl) rfl
          have e2 := Rg.cell_later (HRz.out.c 1 rfl) K.bel
          show (execOp act.eval _).run Tryz.prog wy = .ok (.value (.int .i64 x.H.ep)) wy
          generalize act.eval = ρ at e1 ⊢
          unfold execOp
          simp [go_sem, e1, e2]), ?_⟩
        refine ⟨gVal rfl (.inr ⟨12, true, 29, rfl, (by kernel_rfl), (by kernel_rfl), rfl, rfl⟩) rfl (fun Lb v act wy K => by
          have e1 : act.eval (.tmp 1) = .slice (some ⟨eb, eo, none⟩) 3 ec := (K.off (x := .tmp 1) (by kernel_rfl)).trans rfl
          exact run_move _ rfl e1), ?_⟩
        refine ⟨gVal rfl (.inr ⟨12, true, 29, rfl, (by kernel_rfl), (by kernel_rfl), rfl, rfl⟩) rfl (fun Lb v act wy K => by
          have e1 : act.eval (.tmp 5) = .int .i64 (k : Int) := (K.off (x := .tmp 5) (by kernel_rfl)).trans rfl
          exact run_move _ rfl e1), ?_⟩
        refine ⟨gVal rfl (.inr ⟨12, true, 29, rfl, (by kernel_rfl), (by kernel_rfl), rfl, rfl⟩) rfl (fun Lb v act wy K => by
          have e1 : act.eval (.tmp 32) = .slice (some ⟨eb, eo, none⟩) 3 ec := K.at_val 15 (by kernel_rfl) (by kernel_rfl) rfl
          have e2 : act.eval (.tmp 33) = .int .i64 (k : Int) := K.at_val 16 (by kernel_rfl) (by kernel_rfl) rfl
          show (execOp act.eval _).run Tryz.prog wy = .ok (.value (.pointer (some ⟨eb, eo + k, none⟩))) wy
          generalize act.eval = ρ at e1 e2 ⊢
          unfold execOp
          simp [go_sem, e1, e2, hk3]), ?_⟩
        refine ⟨gVal rfl (.inr ⟨12, true, 29, rfl, (by kernel_rfl), (by kernel_rfl), rfl, rfl⟩) rfl (fun Lb v act wy K => by
          have e1 : act.eval (.tmp 34) = .pointer (some ⟨eb, eo + k, none⟩) := K.at_val 17 (by kernel_rfl) (by kernel_rfl) rfl
          have e2 := Rg.cell_later (HCE.out) K.bel
          show (execOp act.eval _).run Tryz.prog wy = .ok (.value (.int .i64 E)) wy
          generalize act.eval = ρ at e1 ⊢
          unfold execOp
          simp [go_sem, e1, e2]), ?_⟩
        refine ⟨gVal rfl (.inr ⟨12, true, 29, rfl, (by kernel_rfl), (by kernel_rfl), rfl, rfl⟩) rfl (fun Lb v act wy K => by
          have e1 : act.eval (.tmp 31) = .int .i64 x.H.ep := K.at_val 14 (by kernel_rfl) (by kernel_rfl) rfl
          have e2 : act.eval (.tmp 35) = .int .i64 E := K.at_val 18 (by kernel_rfl) (by kernel_rfl) rfl
          show (execOp act.eval _).run Tryz.prog wy = .ok (.value (.bool false)) wy
          generalize act.eval = ρ at e1 e2 ⊢
          unfold execOp
          simp [go_sem, e1, e2, HQ.out]), ?_⟩
        refine ⟨gVal rfl (.inr ⟨9, false, 26, rfl, (by kernel_rfl), (by kernel_rfl), rfl, rfl⟩) rfl (fun Lb v act wy K => by
          have e1 : act.eval (.tmp 29) = .bool true := K.at_val 12 (by kernel_rfl) (by kernel_rfl) rfl
          have e2 : act.eval (.tmp 36) = .bool false := K.at_val 19 (by kernel_rfl) (by kernel_rfl) rfl
          show (execOp act.eval _).run Tryz.prog wy = .ok (.value (.bool false)) wy
          generalize act.eval = ρ at e1 e2 ⊢
          unfold execOp
          simp [go_sem, e1, e2]), ?_⟩
        refine ⟨gVal rfl (.inl ⟨rfl, rfl⟩) rfl (fun Lb v act wy K => by
          have e1 : act.eval (.tmp 26) = .bool false := K.at_val 9 (by kernel_rfl) (by kernel_rfl) rfl
          have e2 : act.eval (.tmp 37) = .bool false := K.at_val 20 (by kernel_rfl) (by kernel_rfl) rfl
          show (execOp act.eval _).run Tryz.prog wy = .ok (.value (.bool false)) wy
          generalize act.eval = ρ at e1 e2 ⊢
          unfold execOp
          simp [go_sem, e1, e2]), ?_⟩
        exact trivial
      have e21 : v 21 = .bool false := hG 21 (by show 21 < 22; decide)
      have HU := hid (HBz.out.trans (hb.mono HBz.out.size))
      clear hG hb
      simp only [putsAll, Act.put, List.setIfInBounds_toArray, List.set_cons_zero, List.set_cons_succ, e21]
      clear e21
      go_wp2
      refine ⟨⟨k + 1, by omega, by go_num, ?_, HB.out.trans (HU.out.mono HB.out.size)⟩, by simp [intOf]; omega⟩
      intro j hj
      by_cases hjk : j = k
      · subst hjk
        unfold hoIs
        rw [← HX.out, decide_eq_true HI0.out, HI1.out]
        rw [HI2.out, HE.out, decide_eq_false (show ¬ (E < x.H.ep) by have := HQ.out; omega)]; rfl
      · exact HI.out j (by omega)

    · obtain rfl : k = 3 := by omega
      go_wp2
      go_ret
      exact ⟨by rw [hosts_yes (by rw [List.length_map]; exact HG.out) HI.out]; rfl, HB.out⟩

end Go.Proofs.YtogebppolkfldaaGreatDoor.Pl

namespace Go.Proofs.YtogebppolkfldaaGreatDoor.Mem
open Go.RowKit
set_option linter.unusedVariables false

set_option maxRecDepth 100000 in
set_option maxHeartbeats 2000000 in
theorem implDiskOk (w : World) (v : Value) (D : Dk) (h : DkR w v D) (hd : D.Held) :
    Calls Tryz.prog 53 #[v] w fun e w' => e = .returned (.bool D.right) ∧ Below w.heap.size w w' := by
  obtain ⟨a1, c1, a2, c2, a3, c3, rfl, s1, s2, s3⟩ := h
  obtain ⟨l1, l2, l3⟩ := D
  have HS1 := hid s1
  have HS2 := hid s2
  have HS3 := hid s3
  have d1 : l1.length ≤ 9223372036854775807 := hd.h1
  have d2 : l2.length ≤ 9223372036854775807 := hd.h2
  have d3 : l3.length ≤ 9223372036854775807 := hd.h3
  have HD := hid hd
  clear s1 s2 s3 hd
  simp only []
  have no : ¬ (Dk.mk l1 l2 l3).Right → (Dk.mk l1 l2 l3).right = false := Dk.right_no
  have yes : (Dk.mk l1 l2 l3).Right → (Dk.mk l1 l2 l3).right = true := Dk.right_yes
  generalize (Dk.mk l1 l2 l3).right = q at *
  have HN := hid no
  have HY := hid yes
  clear no yes
  go_enter Tryz.func53, Tryz.ntmps53
  obtain ⟨w1, hwb, ez, A0, B0⟩ := one_new w [.slice a1 l1.length c1, .slice a2 l2.length c2, .slice a3 l3.length c3] 36
  have HB := hid B0
  have HA := hid A0
  have k1 := A0.c 1 rfl
  have k2 := A0.c 2 rfl
  have k0 := A0.c 0 rfl
  clear A0 B0
  by_cases g1 : (l1.length : Int) < 1
  · have HN := hid (HN.out (by intro x; have := x.n1; simp only [] at *; omega))
    go_wp2
    go_ret
    exact ⟨by rw [HN.out]; rfl, HB.out⟩
  by_cases g1b : 40 < (l1.length : Int)
  · have HN := hid (HN.out (by intro x; have := x.n2; simp only [] at *; omega))
    go_wp2
    go_ret
    exact ⟨by rw [HN.out]; rfl, HB.out⟩
  by_cases g2 : ¬ (l2.length : Int) = 3
  · have HN := hid (HN.out (by intro x; have := x.e3; simp only [] at *; omega))
    go_wp2
    go_ret
    exact ⟨by rw [HN.out]; rfl, HB.out⟩
  replace g2 := Classical.not_not.mp g2
  by_cases g3 : 40 < (l3.length : Int)
  · have HN := hid (HN.out (by intro x; have := x.p40; simp only [] at *; omega))
    go_wp2
    go_ret
    exact ⟨by rw [HN.out]; rfl, HB.out⟩
  go_wp2
  clear hwb
  go_loop [34] (fun i => ∃ k : Nat, k ≤ l1.length ∧ i = .int .i64 (k : Int) ∧ Hid (∀ j, j < k → ((l1.getD j ByteArray.empty).size : Int) ≤ 700)) (fun i => l1.length - (intOf i).toNat)
  case atStart => exact ⟨0, Nat.zero_le _, rfl, fun j hj => by omega⟩
  case round =>
    obtain ⟨k, hk, rfl, HJ⟩ := hrel
    by_cases hlt : k < l1.length
    · obtain ⟨b, off, rfl, hc⟩ := (HS1.out.below HB.out) k hlt
      replace hc : w1.cell? ⟨b, off + k, none⟩ = some (.string (l1.getD k ByteArray.empty)) := hc
      generalize hx : l1.getD k ByteArray.empty = x at hc
      have HX := hid hx
      clear hx
      go_wp2_with fail
      refine (fitsSector x w1).mono ?_
      rintro e w1' ⟨rfl, hw⟩
      subst hw
      by_cases hn : (x.size : Int) ≤ 700
      · have hn' := decide_eq_true hn
        go_wp2
        exact ⟨⟨k + 1, by omega, by go_num, fun j hj => by
          by_cases h : j = k
          · subst h; rw [HX.out]; exact hn
          · exact HJ.out j (by omega)⟩, by simp [intOf]; omega⟩
      · have hn' := decide_eq_false hn
        have HN := hid (HN.out (by intro q; have := q.s k hlt; simp only [HX.out] at this; exact hn this))
        clear hn
        go_wp2
        go_ret
        exact ⟨by rw [HN.out]; rfl, HB.out⟩
    obtain rfl : k = l1.length := by omega
    go_wp2
    go_loop [45] (fun i => ∃ k : Nat, k ≤ l2.length ∧ i = .int .i64 (k : Int) ∧ Hid (∀ j, j < k → 1 ≤ l2.getD j 0 ∧ l2.getD j 0 ≤ 100000)) (fun i => l2.length - (intOf i).toNat)
    case atStart => exact ⟨0, Nat.zero_le _, rfl, fun j hj => by omega⟩
    case round =>
      obtain ⟨k, hk, rfl, HE⟩ := hrel
      by_cases hlt : k < l2.length
      · obtain ⟨b, off, rfl, hc⟩ := (HS2.out.below HB.out) k hlt
        replace hc : w1.cell? ⟨b, off + k, none⟩ = some (.int .i64 (l2.getD k 0)) := hc
        generalize hx : l2.getD k 0 = x at hc
        have HX := hid hx
        clear hx
        by_cases hn : x < 1
        · have HN := hid (HN.out (by intro q; have := q.e k hlt; simp only [HX.out] at this; omega))
          go_wp2
          go_ret
          exact ⟨by rw [HN.out]; rfl, HB.out⟩
        by_cases hm : 100000 < x
        · have HN := hid (HN.out (by intro q; have := q.e k hlt; simp only [HX.out] at this; omega))
          go_wp2
          go_ret
          exact ⟨by rw [HN.out]; rfl, HB.out⟩
        go_wp2
        exact ⟨⟨k + 1, by omega, by go_num, fun j hj => by
          by_cases h : j = k
          · subst h; rw [HX.out]; omega
          · exact HE.out j (by omega)⟩, by simp [intOf]; omega⟩
      obtain rfl : k = l2.length := by omega
      go_wp2
      go_loopw [59] (fun i wr => ∃ k : Nat, k ≤ l3.length ∧ i = .int .i64 (k : Int) ∧ Hid (∀ j, j < k → (l3.getD j Wt.none).okIn (Dk.mk l1 l2 l3)) ∧ Hid (Below w1.heap.size w1 wr)) (fun i _ => l3.length - (intOf i).toNat)
      case atStart => exact ⟨0, Nat.zero_le _, rfl, fun j hj => by omega, Below.refl _ _⟩
      case round =>
        obtain ⟨k, hk, rfl, HP, HB'⟩ := hrel
        have A0 := HA.out.below HB'.out HA.out.lt
        have HBw := hid (HB.out.trans (HB'.out.mono HB.out.size))
        have m0 := A0.c 0 rfl
        have m1 := A0.c 1 rfl
        have m2 := A0.c 2 rfl
        by_cases hlt : k < l3.length
        · obtain ⟨b, off, rfl, x0, x1, x2, x3⟩ := Wts.at_ (HS3.out.below HBw.out) k hlt
          generalize hx : l3.getD k Wt.none = x at x0 x1 x2 x3
          have HX := hid hx
          clear hx
          have HA' := hid A0
          clear A0
          obtain ⟨xh, xe, xs, xt⟩ := x
          simp only [] at x0 x1 x2 x3
          go_wp2
          obtain ⟨wa, hwa, ea, R0, B0⟩ := one_new wr [.int .i64 xh, .int .i64 xe, .int .i64 xs, .string xt] 138
          simp only [hwa]
          clear hwa
          have HB1 := hid (HB'.out.trans (B0.mono HB'.out.size))
          have HBw1 := hid (HB.out.trans (HB1.out.mono HB.out.size))
          replace m0 := (HA'.out.below B0 HA'.out.lt).c 0 rfl
          replace m1 := (HA'.out.below B0 HA'.out.lt).c 1 rfl
          replace m2 := (HA'.out.below B0 HA'.out.lt).c 2 rfl
          have y0 := R0.c 0 rfl
          have y1 := R0.c 1 rfl
          have y2 := R0.c 2 rfl
          have y3 := R0.c 3 rfl
          clear x0 x1 x2 x3 k0 k1 k2 B0 R0 ea
          by_cases q1 : ¬ (0 ≤ xh ∧ xh < 3)
          · have q1' := decide_eq_false q1
            have HN := hid (HN.out (by intro q; have := (q.p k hlt).1; simp only [HX.out] at this; exact q1 this))
            clear q1
            go_quiet ((go_at_call 89; refine Calls.quiet_of_same (isHost _ _)))
            go_wp2
            go_ret
            exact ⟨by rw [HN.out]; rfl, below_drewN HBw1.out _⟩
          replace q1 := Classical.not_not.mp q1
          have q1' := decide_eq_true q1
          have HQ1 := hid q1
          obtain ⟨n, rfl⟩ : ∃ n : Nat, xh = (n : Int) := Int.eq_ofNat_of_zero_le q1.1
          have hn3 : (n : Int) < 3 := q1.2
          clear q1
          obtain ⟨b2, o2, rfl, hc⟩ := (HS2.out.below HBw1.out) n (by omega)
          replace hc : wa.cell? ⟨b2, o2 + n, none⟩ = some (.int .i64 (l2.getD n 0)) := hc
          generalize hy : l2.getD n 0 = y at hc
          have HYE := hid hy
          clear hy
          by_cases q2 : ¬ xe = y
          · have q2' := decide_eq_false q2
            have HN := hid (HN.out (by intro q; have := (q.p k hlt).2.1; simp only [HX.out, Int.toNat_natCast, HYE.out] at this; exact q2 this))
            go_quiet ((go_at_call 89; refine Calls.quiet_of_same (isHost _ _)))
            go_wp2
            go_ret
            exact ⟨by rw [HN.out]; rfl, below_drewN HBw1.out _⟩
          obtain rfl := Classical.not_not.mp q2
          clear q2
          replace m0 := BW.cell m0
          replace m1 := BW.cell m1
          replace m2 := BW.cell m2
          replace y0 := BW.cell y0
          replace y1 := BW.cell y1
          replace y2 := BW.cell y2
          replace y3 := BW.cell y3
          replace hc := BW.cell hc
          have hne : Nonempty (BW wa) := ⟨⟨wa, Below.refl _ _⟩⟩
          have q0 : (0 : Int) ≤ (n : Int) := Int.natCast_nonneg n
          have q00 : (n : Int) < (l2.length : Int) := by omega
          by_cases q3 : ¬ (0 ≤ xs ∧ xs < (l1.length : Int))
          · have q3' := decide_eq_false q3
            have HN := hid (HN.out (by intro q; have := (q.p k hlt).2.2.1; have := (q.p k hlt).2.2.2.1; simp only [HX.out] at *; exact q3 ⟨by assumption, by assumption⟩))
            clear q3
            refine wp_region_bw (by kernel_rfl) (by kernel_rfl) ?_
            repeat (go_big_quiet_step (first
              | (go_at_call 89; refine bw_same (isHost _ _))
              | (go_at_call 88; refine bw_same (fitsSector _ _))
              | (go_at_call 90; refine bw_below (isSector _ _ _ _ _ _ _ rfl _))))
            refine wpQuiet_nil ?_
            intro _ hw'
            obtain ⟨u, hw''⟩ := hw'
            subst hw''
            go_wp2
            go_ret
            exact ⟨by rw [HN.out]; rfl, HBw1.out.trans (u.bel.mono HBw1.out.size)⟩
          replace q3 := Classical.not_not.mp q3
          have q3' := decide_eq_true q3
          have HQ3 := hid q3
          clear q3
          by_cases q5 : ¬ (xt.size : Int) ≤ 700
          · have q5' := decide_eq_false q5
            have HN := hid (HN.out (by intro q; have := (q.p k hlt).2.2.2.2; simp only [HX.out] at this; exact q5 this))
            clear q5
            refine wp_region_bw (by kernel_rfl) (by kernel_rfl) ?_
            repeat (go_big_quiet_step (first
              | (go_at_call 89; refine bw_same (isHost _ _))
              | (go_at_call 88; refine bw_same (fitsSector _ _))
              | (go_at_call 90; refine bw_below (isSector _ _ _ _ _ _ _ rfl _))))
            refine wpQuiet_nil ?_
            intro _ hw'
            obtain ⟨u, hw''⟩ := hw'
            subst hw''
            go_wp2
            go_ret
            exact ⟨by rw [HN.out]; rfl, HBw1.out.trans (u.bel.mono HBw1.out.size)⟩
          replace q5 := Classical.not_not.mp q5
          have q5' := decide_eq_true q5
          have HQ5 := hid q5
          clear q5
          refine wp_region_bw (by kernel_rfl) (by kernel_rfl) ?_
          repeat (go_big_quiet_step (first
            | (go_at_call 89; refine bw_same (isHost _ _))
            | (go_at_call 88; refine bw_same (fitsSector _ _))
            | (go_at_call 90; refine bw_below (isSector _ _ _ _ _ _ _ rfl _))))
          refine wpQuiet_nil ?_
          intro _ hw'
          obtain ⟨u, hw''⟩ := hw'
          subst hw''
          go_wp2
          exact ⟨⟨k + 1, by omega, by go_num, fun j hj => by
            by_cases h : j = k
            · subst h
              rw [HX.out]
              exact ⟨HQ1.out, by simpa using HYE.out.symm, HQ3.out.1, HQ3.out.2, HQ5.out⟩
            · exact HP.out j (by omega), HB1.out.trans (u.bel.mono HB1.out.size)⟩, by simp [intOf]; omega⟩
        obtain rfl : k = l3.length := by omega
        have HY := hid (HY.out ⟨by show 1 ≤ l1.length; omega, by show l1.length ≤ 40; omega, by show l2.length = 3; omega, by show l3.length ≤ 40; omega, HJ.out, HE.out, HP.out⟩)
        go_wp2
        go_ret
        exact ⟨by rw [HY.out]; rfl, HBw.out⟩

end Go.Proofs.YtogebppolkfldaaGreatDoor.Mem

namespace Go.Proofs.YtogebppolkfldaaGreatDoor.Pk
open Go.RowKit Go.Proofs.YtogebppolkfldaaGreatDoor.Mem Go.Proofs.YtogebppolkfldaaGreatDoor.Sec Go.Proofs.YtogebppolkfldaaGreatDoor.Rd
set_option linter.unusedVariables false

theorem lit3 : ((3 : Nat) : Int) = 3 := rfl
theorem lit4 : ((4 : Nat) : Int) = 4 := rfl

theorem getD_size {l : List ByteArray} {n : Nat} (h : ∀ s ∈ l, s.size ≤ n) (i : Nat) : (l.getD i ByteArray.empty).size ≤ n := by
  rw [List.getD]
  cases hi : l[i]? with
  | none => exact Nat.zero_le _
  | some s => exact h s (List.mem_of_getElem? hi)

/-- Every cell of a slice of thirty-four texts, in every world in which nothing that was there has turned. -/
theorem cells34 {w : World} {b o : Nat} {l : List ByteArray} (S : Strs w (some ⟨b, o, none⟩) l) (h : l.length = 34) (w' : World) (k : Below w.heap.size w w') (i : Nat) (hi : i < 34) : w'.cell? ⟨b, o + i, none⟩ = some (.string (l.getD i ByteArray.empty)) := by
  obtain ⟨b', o', e, hc⟩ := (Sl.below S k) i (by omega)
  cases e
  exact hc

set_option maxRecDepth 100000 in
set_option maxHeartbeats 4000000 in
theorem sPoolOk (R : ByteArray → Int × Nat) (hR : Reads R) (w : World) (a : Option Addr) (cap : Nat) (l : List ByteArray) (S : Strs w a l) (hl : l.length ≤ 1048576) (hz : ∀ s ∈ l, s.size ≤ 1048576) :
    Calls Tryz.prog 40 #[.slice a l.length cap] w fun e w' => e = .returned (.bool (poolOk R l)) ∧ Below w.heap.size w w' := by
  have HR := hid hR
  have HZ := hid (getD_size hz)
  have N1 := hid (@pool_no1 R l)
  have N2 := hid (@pool_no2 R l)
  have NY := hid (@pool_yes R l)
  have HS := hid S
  clear hR hz S
  generalize poolOk R l = q at *
  by_cases h34 : l.length = 34
  rotate_left
  · have hb : ((l.length : Int) != 34) = true := by simp; omega
    have HF := hid (N1.out h34)
    clear N1 N2 NY
    go_enter Tryz.func40, Tryz.ntmps40
    go_wp2
    go_ret
    exact ⟨by rw [HF.out]; rfl, Below.refl _ _⟩
  obtain ⟨b, o, rfl, _⟩ := HS.out 0 (by omega)
  have HCell := hid (cells34 HS.out h34)
  have H34 := hid h34
  have hlen : (l.length : Int) = 34 := by omega
  rw [h34]
  clear h34 N1 HS hl hlen
  go_enter Tryz.func40, Tryz.ntmps40
  go_wp2
  go_loopw [3] (fun i wr => ∃ m : Nat, m ≤ 3 ∧ i = .int .i64 (m : Int) ∧ Hid (∀ j, j < m → secOk R (kindOf (0 + j)) (l.getD (0 + j) ByteArray.empty) = true ∧ secOk R (kindOf (3 + j)) (l.getD (3 + j) ByteArray.empty) = true ∧ secOk R (kindOf (6 + j)) (l.getD (6 + j) ByteArray.empty) = true) ∧ Hid (Below w.heap.size w wr)) (fun i _ => 3 - (intOf i).toNat)
  case atStart => exact ⟨0, Nat.zero_le _, rfl, fun j hj => by omega, Below.refl _ _⟩
  case round =>
    obtain ⟨m, hmm, rfl, HI, HB⟩ := hrel
    by_cases hlt : m < 3
    · have hm0 : m < 3 := hlt
      have hm1 : m < 3 := hlt
      have hm2 : m < 3 := hlt
      go_wp2_with fail
      refine (Sector.spec_sector 0 (m : Int) wr).mono ?_
      rintro e wsa ⟨rfl, bs⟩
      have HBsa := hid (HB.out.trans (bs.mono HB.out.size))
      clear bs
      rw [sec0 m hm0]
      obtain ⟨pa, hpa⟩ : ∃ p : Nat, p = 0 + m := ⟨_, rfl⟩
      have HPa := hid hpa
      have hla : (pa : Int) < 34 := by omega
      have hca := HCell.out wsa HBsa.out pa (by omega)
      have hza := HZ.out pa
      have HOa : Hid (kindOf pa = 0) := by rw [Hid, hpa]; exact kind0 m hm0
      rw [← hpa]
      clear hpa
      obtain ⟨sa, hsa⟩ : ∃ s, s = l.getD pa ByteArray.empty := ⟨_, rfl⟩
      have HSta := hid hsa
      rw [← hsa] at hca hza
      clear hsa
      go_wp2_with fail
      refine (sHost R HR.out sa hza wsa).mono ?_
      rintro e wa ⟨x0, x1, x2, rfl, b2⟩
      have HBa := hid (HBsa.out.trans (b2.mono HBsa.out.size))
      have HQa : Hid (secOk R (kindOf pa) (l.getD pa ByteArray.empty) = secOk R 0 sa) := by rw [Hid, HOa.out, HSta.out]
      clear b2 hca hza
      generalize secOk R 0 sa = qa at *
      obtain ⟨wba, hwba, eba, _, BB⟩ := one_new wa [.int .i64 x0, .int .i64 x1, .int .i64 x2] 140
      have HBba := hid (HBa.out.trans (BB.mono HBa.out.size))
      clear BB
      go_wp2_with fail
      refine (Sector.spec_sector 1 (m : Int) wba).mono ?_
      rintro e wsb ⟨rfl, bs⟩
      have HBsb := hid (HBba.out.trans (bs.mono HBba.out.size))
      clear bs
      rw [sec1 m hm1]
      obtain ⟨pb, hpb⟩ : ∃ p : Nat, p = 3 + m := ⟨_, rfl⟩
      have HPb := hid hpb
      have hlb : (pb : Int) < 34 := by omega
      have hcb := HCell.out wsb HBsb.out pb (by omega)
      have hzb := HZ.out pb
      have HOb : Hid (kindOf pb = 1) := by rw [Hid, hpb]; exact kind1 m hm1
      rw [← hpb]
      clear hpb
      obtain ⟨sb, hsb⟩ : ∃ s, s = l.getD pb ByteArray.empty := ⟨_, rfl⟩
      have HStb := hid hsb
      rw [← hsb] at hcb hzb
      clear hsb
      go_wp2_with fail
      refine (sJournal R HR.out sb hzb wsb).mono ?_
      rintro e wb ⟨J, ja, jc, rfl, b2⟩
      have HBb := hid (HBsb.out.trans (b2.mono HBsb.out.size))
      have HQb : Hid (secOk R (kindOf pb) (l.getD pb ByteArray.empty) = secOk R 1 sb) := by rw [Hid, HOb.out, HStb.out]
      clear b2 hcb hzb
      generalize secOk R 1 sb = qb at *
      obtain ⟨wbb, hwbb, ebb, _, BB⟩ := one_new wb [.int .i64 J.txn, .bool J.done, .int .i64 J.kind, .int .i64 J.vol, .int .i64 J.to, .int .i64 J.at_, .string J.text, .slice ja J.outs.length jc] 144
      have HBbb := hid (HBb.out.trans (BB.mono HBb.out.size))
      clear BB
      go_wp2_with fail
      refine (Sector.spec_sector 2 (m : Int) wbb).mono ?_
      rintro e wsc ⟨rfl, bs⟩
      have HBsc := hid (HBbb.out.trans (bs.mono HBbb.out.size))
      clear bs
      rw [sec2 m hm2]
      obtain ⟨pc, hpc⟩ : ∃ p : Nat, p = 6 + m := ⟨_, rfl⟩
      have HPc := hid hpc
      have hlc : (pc : Int) < 34 := by omega
      have hcc := HCell.out wsc HBsc.out pc (by omega)
      have hzc := HZ.out pc
      have HOc : Hid (kindOf pc = 2) := by rw [Hid, hpc]; exact kind2 m hm2
      rw [← hpc]
      clear hpc
      obtain ⟨sc, hsc⟩ : ∃ s, s = l.getD pc ByteArray.empty := ⟨_, rfl⟩
      have HStc := hid hsc
      rw [← hsc] at hcc hzc
      clear hsc
      go_wp2_with fail
      refine (sFrees R HR.out sc hzc wsc).mono ?_
      rintro e wc ⟨fv, rfl, b2⟩
      have HBc := hid (HBsc.out.trans (b2.mono HBsc.out.size))
      have HQc : Hid (secOk R (kindOf pc) (l.getD pc ByteArray.empty) = secOk R 2 sc) := by rw [Hid, HOc.out, HStc.out]
      clear b2 hcc hzc
      generalize secOk R 2 sc = qc at *

      cases qa with
      | false =>
        have HF := hid (N2.out pa (by omega) (HQa.out.trans rfl))
        clear N2 NY
        go_wp2
        go_ret
        exact ⟨by rw [HF.out]; rfl, HBc.out⟩
      | true =>
        cases qb with
        | false =>
          have HF := hid (N2.out pb (by omega) (HQb.out.trans rfl))
          clear N2 NY
          go_wp2
          go_ret
          exact ⟨by rw [HF.out]; rfl, HBc.out⟩
        | true =>
          cases qc with
          | false =>
            have HF := hid (N2.out pc (by omega) (HQc.out.trans rfl))
            clear N2 NY
            go_wp2
            go_ret
            exact ⟨by rw [HF.out]; rfl, HBc.out⟩
          | true =>
            have HI2 : Hid (∀ j, j < m + 1 → secOk R (kindOf (0 + j)) (l.getD (0 + j) ByteArray.empty) = true ∧ secOk R (kindOf (3 + j)) (l.getD (3 + j) ByteArray.empty) = true ∧ secOk R (kindOf (6 + j)) (l.getD (6 + j) ByteArray.empty) = true) := fun j hj => by
              by_cases h : j = m
              · subst h
                refine ⟨?_, ?_, ?_⟩
                · rw [← HPa.out]; exact HQa.out
                · rw [← HPb.out]; exact HQb.out
                · rw [← HPc.out]; exact HQc.out
              · exact HI.out j (by omega)
            go_wp2
            exact ⟨⟨m + 1, by omega, by go_num, HI2, HBc⟩, by simp [intOf]; omega⟩
    · obtain rfl : m = 3 := by omega
      obtain ⟨wo1, hwo⟩ : ∃ wo, wo = wr := ⟨_, rfl⟩
      subst hwo
      have HI1 := HI
      have HBo1 := HB
      clear HI HB hlt hmm
      simp only [lit3]
      go_wp2
      go_loopw [10] (fun i wr => ∃ m : Nat, m ≤ 4 ∧ i = .int .i64 (m : Int) ∧ Hid (∀ j, j < m → secOk R (kindOf (9 + j)) (l.getD (9 + j) ByteArray.empty) = true) ∧ Hid (Below w.heap.size w wr)) (fun i _ => 4 - (intOf i).toNat)
      case atStart => exact ⟨0, Nat.zero_le _, rfl, fun j hj => by omega, HBo1⟩
      case round =>
        obtain ⟨m, hmm, rfl, HI, HB⟩ := hrel
        by_cases hlt : m < 4
        · have hm3 : m < 4 := hlt
          go_wp2_with fail
          refine (Sector.spec_sector 3 (m : Int) wr).mono ?_
          rintro e wsa ⟨rfl, bs⟩
          have HBsa := hid (HB.out.trans (bs.mono HB.out.size))
          clear bs
          rw [sec3 m hm3]
          obtain ⟨pa, hpa⟩ : ∃ p : Nat, p = 9 + m := ⟨_, rfl⟩
          have HPa := hid hpa
          have hla : (pa : Int) < 34 := by omega
          have hca := HCell.out wsa HBsa.out pa (by omega)
          have hza := HZ.out pa
          have HOa : Hid (kindOf pa = 3) := by rw [Hid, hpa]; exact kind3 m hm3
          rw [← hpa]
          clear hpa
          obtain ⟨sa, hsa⟩ : ∃ s, s = l.getD pa ByteArray.empty := ⟨_, rfl⟩
          have HSta := hid hsa
          rw [← hsa] at hca hza
          clear hsa
          go_wp2_with fail
          refine (sVol R HR.out sa hza wsa).mono ?_
          rintro e wa ⟨h0, h1, on, va, vm, vc, rfl, b2⟩
          have HBa := hid (HBsa.out.trans (b2.mono HBsa.out.size))
          have HQa : Hid (secOk R (kindOf pa) (l.getD pa ByteArray.empty) = secOk R 3 sa) := by rw [Hid, HOa.out, HSta.out]
          clear b2 hca hza
          generalize secOk R 3 sa = qa at *
          obtain ⟨wba, hwba, eba, _, BB⟩ := one_new wa [.int .i64 h0, .int .i64 h1, .bool on, .slice va vm vc] 55
          have HBba := hid (HBa.out.trans (BB.mono HBa.out.size))
          clear BB

          cases qa with
          | false =>
            have HF := hid (N2.out pa (by omega) (HQa.out.trans rfl))
            clear N2 NY
            go_wp2
            go_ret
            exact ⟨by rw [HF.out]; rfl, HBba.out⟩
          | true =>
            have HI2 : Hid (∀ j, j < m + 1 → secOk R (kindOf (9 + j)) (l.getD (9 + j) ByteArray.empty) = true) := fun j hj => by
              by_cases h : j = m
              · subst h; rw [← HPa.out]; exact HQa.out
              · exact HI.out j (by omega)
            go_wp2
            exact ⟨⟨m + 1, by omega, by go_num, HI2, HBba⟩, by simp [intOf]; omega⟩
        · obtain rfl : m = 4 := by omega
          obtain ⟨wo2, hwo⟩ : ∃ wo, wo = wr := ⟨_, rfl⟩
          subst hwo
          have HI2 := HI
          have HBo2 := HB
          clear HI HB hlt hmm
          simp only [lit4]
          go_wp2
          go_loopw [13] (fun i wr => ∃ m : Nat, m ≤ 3 ∧ i = .int .i64 (m : Int) ∧ Hid (∀ j, j < m → secOk R (kindOf (13 + j)) (l.getD (13 + j) ByteArray.empty) = true) ∧ Hid (Below w.heap.size w wr)) (fun i _ => 3 - (intOf i).toNat)
          case atStart => exact ⟨0, Nat.zero_le _, rfl, fun j hj => by omega, HBo2⟩
          case round =>
            obtain ⟨m, hmm, rfl, HI, HB⟩ := hrel
            by_cases hlt : m < 3
            · have hm4 : m < 3 := hlt
              go_wp2_with fail
              refine (Sector.spec_sector 4 (m : Int) wr).mono ?_
              rintro e wsa ⟨rfl, bs⟩
              have HBsa := hid (HB.out.trans (bs.mono HB.out.size))
              clear bs
              rw [sec4 m hm4]
              obtain ⟨pa, hpa⟩ : ∃ p : Nat, p = 13 + m := ⟨_, rfl⟩
              have HPa := hid hpa
              have hla : (pa : Int) < 34 := by omega
              have hca := HCell.out wsa HBsa.out pa (by omega)
              have hza := HZ.out pa
              have HOa : Hid (kindOf pa = 4) := by rw [Hid, hpa]; exact kind4 m hm4
              rw [← hpa]
              clear hpa
              obtain ⟨sa, hsa⟩ : ∃ s, s = l.getD pa ByteArray.empty := ⟨_, rfl⟩
              have HSta := hid hsa
              rw [← hsa] at hca hza
              clear hsa
              go_wp2_with fail
              refine (sGroup R HR.out sa hza wsa).mono ?_
              rintro e wa ⟨h0, h1, va, vm, vc, rfl, b2⟩
              have HBa := hid (HBsa.out.trans (b2.mono HBsa.out.size))
              have HQa : Hid (secOk R (kindOf pa) (l.getD pa ByteArray.empty) = secOk R 4 sa) := by rw [Hid, HOa.out, HSta.out]
              clear b2 hca hza
              generalize secOk R 4 sa = qa at *
              obtain ⟨wba, hwba, eba, _, BB⟩ := one_new wa [.int .i64 h0, .int .i64 h1, .slice va vm vc] 59
              have HBba := hid (HBa.out.trans (BB.mono HBa.out.size))
              clear BB

              cases qa with
              | false =>
                have HF := hid (N2.out pa (by omega) (HQa.out.trans rfl))
                clear N2 NY
                go_wp2
                go_ret
                exact ⟨by rw [HF.out]; rfl, HBba.out⟩
              | true =>
                have HI2 : Hid (∀ j, j < m + 1 → secOk R (kindOf (13 + j)) (l.getD (13 + j) ByteArray.empty) = true) := fun j hj => by
                  by_cases h : j = m
                  · subst h; rw [← HPa.out]; exact HQa.out
                  · exact HI.out j (by omega)
                go_wp2
                exact ⟨⟨m + 1, by omega, by go_num, HI2, HBba⟩, by simp [intOf]; omega⟩
            · obtain rfl : m = 3 := by omega
              obtain ⟨wo3, hwo⟩ : ∃ wo, wo = wr := ⟨_, rfl⟩
              subst hwo
              have HI3 := HI
              have HBo3 := HB
              clear HI HB hlt hmm
              simp only [lit3]
              go_wp2
              go_loopw [16] (fun i wr => ∃ m : Nat, m ≤ 18 ∧ i = .int .i64 (m : Int) ∧ Hid (∀ j, j < m → secOk R (kindOf (16 + j)) (l.getD (16 + j) ByteArray.empty) = true) ∧ Hid (Below w.heap.size w wr)) (fun i _ => 18 - (intOf i).toNat)
              case atStart => exact ⟨0, Nat.zero_le _, rfl, fun j hj => by omega, HBo3⟩
              case round =>
                obtain ⟨m, hmm, rfl, HI, HB⟩ := hrel
                by_cases hlt : m < 18
                · have hm5 : m < 18 := hlt
                  go_wp2_with fail
                  refine (Sector.spec_sector 5 (m : Int) wr).mono ?_
                  rintro e wsa ⟨rfl, bs⟩
                  have HBsa := hid (HB.out.trans (bs.mono HB.out.size))
                  clear bs
                  rw [sec5 m hm5]
                  obtain ⟨pa, hpa⟩ : ∃ p : Nat, p = 16 + m := ⟨_, rfl⟩
                  have HPa := hid hpa
                  have hla : (pa : Int) < 34 := by omega
                  have hca := HCell.out wsa HBsa.out pa (by omega)
                  have hza := HZ.out pa
                  have HOa : Hid (kindOf pa = 5) := by rw [Hid, hpa]; exact kind5 m hm5
                  rw [← hpa]
                  clear hpa
                  obtain ⟨sa, hsa⟩ : ∃ s, s = l.getD pa ByteArray.empty := ⟨_, rfl⟩
                  have HSta := hid hsa
                  rw [← hsa] at hca hza
                  clear hsa

                  have HQa : Hid (secOk R (kindOf pa) (l.getD pa ByteArray.empty) = decide ((sa.size : Int) ≤ 16)) := by rw [Hid, HOa.out, HSta.out]; rfl
                  by_cases h16 : (sa.size : Int) ≤ 16
                  · have HI2 : Hid (∀ j, j < m + 1 → secOk R (kindOf (16 + j)) (l.getD (16 + j) ByteArray.empty) = true) := fun j hj => by
                      by_cases h : j = m
                      · subst h; rw [← HPa.out, HQa.out, decide_eq_true h16]
                      · exact HI.out j (by omega)
                    go_wp2
                    exact ⟨⟨m + 1, by omega, by go_num, HI2, HBsa⟩, by simp [intOf]; omega⟩
                  · have HF := hid (N2.out pa (by omega) (by rw [HQa.out, decide_eq_false h16]))
                    clear N2 NY
                    go_wp2
                    go_ret
                    exact ⟨by rw [HF.out]; rfl, HBsa.out⟩
                · obtain rfl : m = 18 := by omega
                  have HF := hid (NY.out H34.out (fun i hi => by
                    by_cases c0 : i < 3
                    · have := (HI1.out i c0).1; rwa [Nat.zero_add] at this
                    by_cases c1 : i < 6
                    · have := (HI1.out (i - 3) (by omega)).2.1; rwa [show 3 + (i - 3) = i by omega] at this
                    by_cases c2 : i < 9
                    · have := (HI1.out (i - 6) (by omega)).2.2; rwa [show 6 + (i - 6) = i by omega] at this
                    by_cases c3 : i < 13
                    · have := HI2.out (i - 9) (by omega); rwa [show 9 + (i - 9) = i by omega] at this
                    by_cases c4 : i < 16
                    · have := HI3.out (i - 13) (by omega); rwa [show 13 + (i - 13) = i by omega] at this
                    · have := HI.out (i - 16) (by omega); rwa [show 16 + (i - 16) = i by omega] at this))
                  clear N2 NY
                  go_wp2
                  go_ret
                  exact ⟨by rw [HF.out]; rfl, HB.out⟩

end Go.Proofs.YtogebppolkfldaaGreatDoor.Pk

namespace Go.Proofs.YtogebppolkfldaaGreatDoor.Pk
open Go.RowKit Go.Proofs.YtogebppolkfldaaGreatDoor.Mem Go.Proofs.YtogebppolkfldaaGreatDoor.Sec Go.Proofs.YtogebppolkfldaaGreatDoor.Rd
set_option linter.unusedVariables false

theorem kinds_below {w w' : World} (T : Sector.Kinds w) (hg : 0 < w.heap.size) (b : Below w.heap.size w w') : Sector.Kinds w' := fun k hk => by
  rw [b.cell (p := ⟨0, k, none⟩) hg]; exact T k hk

def off : Nat → Nat
  | 0 => 0
  | 1 => 3
  | 2 => 6
  | 3 => 9
  | 4 => 13
  | 5 => 16
  | _ => 34

theorem idx0 (w : World) : (Instr.index 164 (.agg #[.int .i64 3, .int .i64 3, .int .i64 3, .int .i64 4, .int .i64 3, .int .i64 18]) (.int .i64 0)).run Tryz.prog w = .ok (.int .i64 3) w := by kernel_rfl
theorem idx1 (w : World) : (Instr.index 164 (.agg #[.int .i64 3, .int .i64 3, .int .i64 3, .int .i64 4, .int .i64 3, .int .i64 18]) (.int .i64 1)).run Tryz.prog w = .ok (.int .i64 3) w := by kernel_rfl
theorem idx2 (w : World) : (Instr.index 164 (.agg #[.int .i64 3, .int .i64 3, .int .i64 3, .int .i64 4, .int .i64 3, .int .i64 18]) (.int .i64 2)).run Tryz.prog w = .ok (.int .i64 3) w := by kernel_rfl
theorem idx3 (w : World) : (Instr.index 164 (.agg #[.int .i64 3, .int .i64 3, .int .i64 3, .int .i64 4, .int .i64 3, .int .i64 18]) (.int .i64 3)).run Tryz.prog w = .ok (.int .i64 4) w := by kernel_rfl
theorem idx4 (w : World) : (Instr.index 164 (.agg #[.int .i64 3, .int .i64 3, .int .i64 3, .int .i64 4, .int .i64 3, .int .i64 18]) (.int .i64 4)).run Tryz.prog w = .ok (.int .i64 3) w := by kernel_rfl
theorem idx5 (w : World) : (Instr.index 164 (.agg #[.int .i64 3, .int .i64 3, .int .i64 3, .int .i64 4, .int .i64 3, .int .i64 18]) (.int .i64 5)).run Tryz.prog w = .ok (.int .i64 18) w := by kernel_rfl
theorem il0 : ((0 : Nat) : Int) = 0 := rfl
theorem il1 : ((1 : Nat) : Int) = 1 := rfl
theorem il2 : ((2 : Nat) : Int) = 2 := rfl
theorem il3 : ((3 : Nat) : Int) = 3 := rfl
theorem il4 : ((4 : Nat) : Int) = 4 := rfl
theorem il5 : ((5 : Nat) : Int) = 5 := rfl

set_option maxRecDepth 100000 in
set_option maxHeartbeats 4000000 in
theorem iPoolOk (R : ByteArray → Int × Nat) (hR : Reads R) (hT : ∀ s : ByteArray, s.size ≤ maxLen → Tx s (R s)) (w : World) (a : Option Addr) (cap : Nat) (l : List ByteArray) (S : Strs w a l) (hl : l.length ≤ 1048576) (hz : ∀ s ∈ l, s.size ≤ 1048576) (u : TypeId) (pv : Value) (hL : Lacks w u pv) (T : Sums w) (K : Sector.Kinds w) (hg : 0 < w.heap.size) :
    Calls Tryz.prog 54 #[.slice a l.length cap] w fun e w' => e = .returned (.bool (poolOk R l)) ∧ Below w.heap.size w w' := by
  have HR := hid hR
  have HTx := hid hT
  have HL := hid hL
  have HT := hid T
  have HK := hid K
  have HG := hid hg
  have HZ := hid (getD_size hz)
  have N1 := hid (@pool_no1 R l)
  have N2 := hid (@pool_no2 R l)
  have NY := hid (@pool_yes R l)
  have HS := hid S
  have g0 : w.cell? ⟨0, 0, none⟩ = some (.int .i64 3) := K 0 (by decide)
  have g1 : w.cell? ⟨0, 1, none⟩ = some (.int .i64 3) := K 1 (by decide)
  have g2 : w.cell? ⟨0, 2, none⟩ = some (.int .i64 3) := K 2 (by decide)
  have g3 : w.cell? ⟨0, 3, none⟩ = some (.int .i64 4) := K 3 (by decide)
  have g4 : w.cell? ⟨0, 4, none⟩ = some (.int .i64 3) := K 4 (by decide)
  have g5 : w.cell? ⟨0, 5, none⟩ = some (.int .i64 18) := K 5 (by decide)
  clear hR hz S hT hL T K hg
  generalize poolOk R l = q at *
  by_cases h34 : l.length = 34
  rotate_left
  · have hb : ((l.length : Int) != 34) = true := by simp; omega
    have HF := hid (N1.out h34)
    clear N1 N2 NY
    go_enter Tryz.func54, Tryz.ntmps54
    go_wp2
    go_ret
    exact ⟨by rw [HF.out]; rfl, Below.refl _ _⟩
  obtain ⟨b, o, rfl, _⟩ := HS.out 0 (by omega)
  have HCell := hid (cells34 HS.out h34)
  have H34 := hid h34
  rw [h34]
  clear h34 N1 HS hl
  go_enter Tryz.func54, Tryz.ntmps54
  go_wp2
  clear g0 g1 g2 g3 g4 g5
  go_loopw [10] (fun i wr => ∃ k : Nat, k ≤ 6 ∧ i = .int .i64 (k : Int) ∧ Hid (∀ j, j < off k → secOk R (kindOf (j)) (l.getD (j) ByteArray.empty) = true) ∧ Hid (Below w.heap.size w wr)) (fun i _ => 6 - (intOf i).toNat)
  case atStart => exact ⟨0, Nat.zero_le _, rfl, fun j hj => absurd hj (Nat.not_lt_zero _), Below.refl _ _⟩
  case round =>
    obtain ⟨k, hk, rfl, HI, HBr⟩ := hrel
    by_cases hlt : k < 6
    · obtain ⟨wo, hwo⟩ : ∃ wo, wo = wr := ⟨_, rfl⟩
      subst hwo
      have hc : k = 0 ∨ k = 1 ∨ k = 2 ∨ k = 3 ∨ k = 4 ∨ k = 5 := by omega
      clear hlt hk
      rcases hc with rfl | rfl | rfl | rfl | rfl | rfl
      · simp only [il0]
        have hix := idx0
        go_wp2
        clear hix
        go_loopw [15] (fun i wr => ∃ m : Nat, m ≤ 3 ∧ i = .int .i64 (m : Int) ∧ Hid (∀ j, j < 0 + m → secOk R (kindOf (j)) (l.getD (j) ByteArray.empty) = true) ∧ Hid (Below w.heap.size w wr)) (fun i _ => 3 - (intOf i).toNat)
        case atStart => exact ⟨0, Nat.zero_le _, rfl, HI, HBr⟩
        case round =>
          obtain ⟨m, hm, rfl, HI', HB'⟩ := hrel
          by_cases hlt : m < 3
          · have HKd := hid (kind0 m hlt)
            go_wp2_with fail
            refine (Sector.impl_sector 0 (m : Int) wr (kinds_below HK.out HG.out HB'.out)).mono ?_
            rintro e w1 ⟨rfl, hw1⟩
            obtain rfl := hw1.symm
            rw [sec0 m hlt]
            obtain ⟨p, hp⟩ : ∃ p : Nat, p = 0 + m := ⟨_, rfl⟩
            have HP := hid hp
            have hl : (p : Int) < 34 := by omega
            have hc := HCell.out wr HB'.out p (by omega)
            have hz := HZ.out p
            rw [← hp] at HKd HI' ⊢
            obtain ⟨sa, hsa⟩ : ∃ s, s = l.getD p ByteArray.empty := ⟨_, rfl⟩
            have HSa := hid hsa
            rw [← hsa] at hc hz
            clear hp hsa
            go_wp2_with fail
            refine (isSectorOf R HR.out HTx.out 0 (by decide) sa hz wr u pv (HL.out.kept (Kept.of_below (S := fun _ => False) HB'.out) (fun x => x)) (HT.out.below HB'.out)).mono ?_
            rintro e w2 ⟨rfl, b2⟩
            have HB2 := hid (HB'.out.trans (b2.mono HB'.out.size))
            have HQ : Hid (secOk R (kindOf p) (l.getD p ByteArray.empty) = secOk R 0 sa) := by rw [Hid, HKd.out, HSa.out]
            clear b2 hc hz
            generalize secOk R 0 sa = z at *
            cases z with
            | false =>
              have HF := hid (N2.out p (by omega) HQ.out)
              clear N2 NY
              go_wp2
              go_ret
              exact ⟨by rw [HF.out]; rfl, HB2.out⟩
            | true =>
              have HI2 : Hid (∀ j, j < 0 + (m + 1) → secOk R (kindOf (j)) (l.getD (j) ByteArray.empty) = true) := fun j hj => by
                have hpm := HP.out
                by_cases h : j = p
                · subst h; exact HQ.out
                · exact HI'.out j (by omega)
              go_wp2
              exact ⟨⟨m + 1, by omega, by go_num, HI2, HB2⟩, by simp [intOf]; omega⟩
          · obtain rfl : m = 3 := by omega
            go_wp2
            exact ⟨⟨0 + 1, by decide, by go_num, HI', HB'⟩, by simp [intOf]⟩
      · simp only [il1]
        have hix := idx1
        go_wp2
        clear hix
        go_loopw [15] (fun i wr => ∃ m : Nat, m ≤ 3 ∧ i = .int .i64 (m : Int) ∧ Hid (∀ j, j < 3 + m → secOk R (kindOf (j)) (l.getD (j) ByteArray.empty) = true) ∧ Hid (Below w.heap.size w wr)) (fun i _ => 3 - (intOf i).toNat)
        case atStart => exact ⟨0, Nat.zero_le _, rfl, HI, HBr⟩
        case round =>
          obtain ⟨m, hm, rfl, HI', HB'⟩ := hrel
          by_cases hlt : m < 3
          · have HKd := hid (kind1 m hlt)
            go_wp2_with fail
            refine (Sector.impl_sector 1 (m : Int) wr (kinds_below HK.out HG.out HB'.out)).mono ?_
            rintro e w1 ⟨rfl, hw1⟩
            obtain rfl := hw1.symm
            rw [sec1 m hlt]
            obtain ⟨p, hp⟩ : ∃ p : Nat, p = 3 + m := ⟨_, rfl⟩
            have HP := hid hp
            have hl : (p : Int) < 34 := by omega
            have hc := HCell.out wr HB'.out p (by omega)
            have hz := HZ.out p
            rw [← hp] at HKd HI' ⊢
            obtain ⟨sa, hsa⟩ : ∃ s, s = l.getD p ByteArray.empty := ⟨_, rfl⟩
            have HSa := hid hsa
            rw [← hsa] at hc hz
            clear hp hsa
            go_wp2_with fail
            refine (isSectorOf R HR.out HTx.out 1 (by decide) sa hz wr u pv (HL.out.kept (Kept.of_below (S := fun _ => False) HB'.out) (fun x => x)) (HT.out.below HB'.out)).mono ?_
            rintro e w2 ⟨rfl, b2⟩
            have HB2 := hid (HB'.out.trans (b2.mono HB'.out.size))
            have HQ : Hid (secOk R (kindOf p) (l.getD p ByteArray.empty) = secOk R 1 sa) := by rw [Hid, HKd.out, HSa.out]
            clear b2 hc hz
            generalize secOk R 1 sa = z at *
            cases z with
            | false =>
              have HF := hid (N2.out p (by omega) HQ.out)
              clear N2 NY
              go_wp2
              go_ret
              exact ⟨by rw [HF.out]; rfl, HB2.out⟩
            | true =>
              have HI2 : Hid (∀ j, j < 3 + (m + 1) → secOk R (kindOf (j)) (l.getD (j) ByteArray.empty) = true) := fun j hj => by
                have hpm := HP.out
                by_cases h : j = p
                · subst h; exact HQ.out
                · exact HI'.out j (by omega)
              go_wp2
              exact ⟨⟨m + 1, by omega, by go_num, HI2, HB2⟩, by simp [intOf]; omega⟩
          · obtain rfl : m = 3 := by omega
            go_wp2
            exact ⟨⟨1 + 1, by decide, by go_num, HI', HB'⟩, by simp [intOf]⟩
      · simp only [il2]
        have hix := idx2
        go_wp2
        clear hix
        go_loopw [15] (fun i wr => ∃ m : Nat, m ≤ 3 ∧ i = .int .i64 (m : Int) ∧ Hid (∀ j, j < 6 + m → secOk R (kindOf (j)) (l.getD (j) ByteArray.empty) = true) ∧ Hid (Below w.heap.size w wr)) (fun i _ => 3 - (intOf i).toNat)
        case atStart => exact ⟨0, Nat.zero_le _, rfl, HI, HBr⟩
        case round =>
          obtain ⟨m, hm, rfl, HI', HB'⟩ := hrel
          by_cases hlt : m < 3
          · have HKd := hid (kind2 m hlt)
            go_wp2_with fail
            refine (Sector.impl_sector 2 (m : Int) wr (kinds_below HK.out HG.out HB'.out)).mono ?_
            rintro e w1 ⟨rfl, hw1⟩
            obtain rfl := hw1.symm
            rw [sec2 m hlt]
            obtain ⟨p, hp⟩ : ∃ p : Nat, p = 6 + m := ⟨_, rfl⟩
            have HP := hid hp
            have hl : (p : Int) < 34 := by omega
            have hc := HCell.out wr HB'.out p (by omega)
            have hz := HZ.out p
            rw [← hp] at HKd HI' ⊢
            obtain ⟨sa, hsa⟩ : ∃ s, s = l.getD p ByteArray.empty := ⟨_, rfl⟩
            have HSa := hid hsa
            rw [← hsa] at hc hz
            clear hp hsa
            go_wp2_with fail
            refine (isSectorOf R HR.out HTx.out 2 (by decide) sa hz wr u pv (HL.out.kept (Kept.of_below (S := fun _ => False) HB'.out) (fun x => x)) (HT.out.below HB'.out)).mono ?_
            rintro e w2 ⟨rfl, b2⟩
            have HB2 := hid (HB'.out.trans (b2.mono HB'.out.size))
            have HQ : Hid (secOk R (kindOf p) (l.getD p ByteArray.empty) = secOk R 2 sa) := by rw [Hid, HKd.out, HSa.out]
            clear b2 hc hz
            generalize secOk R 2 sa = z at *
            cases z with
            | false =>
              have HF := hid (N2.out p (by omega) HQ.out)
              clear N2 NY
              go_wp2
              go_ret
              exact ⟨by rw [HF.out]; rfl, HB2.out⟩
            | true =>
              have HI2 : Hid (∀ j, j < 6 + (m + 1) → secOk R (kindOf (j)) (l.getD (j) ByteArray.empty) = true) := fun j hj => by
                have hpm := HP.out
                by_cases h : j = p
                · subst h; exact HQ.out
                · exact HI'.out j (by omega)
              go_wp2
              exact ⟨⟨m + 1, by omega, by go_num, HI2, HB2⟩, by simp [intOf]; omega⟩
          · obtain rfl : m = 3 := by omega
            go_wp2
            exact ⟨⟨2 + 1, by decide, by go_num, HI', HB'⟩, by simp [intOf]⟩
      · simp only [il3]
        have hix := idx3
        go_wp2
        clear hix
        go_loopw [15] (fun i wr => ∃ m : Nat, m ≤ 4 ∧ i = .int .i64 (m : Int) ∧ Hid (∀ j, j < 9 + m → secOk R (kindOf (j)) (l.getD (j) ByteArray.empty) = true) ∧ Hid (Below w.heap.size w wr)) (fun i _ => 4 - (intOf i).toNat)
        case atStart => exact ⟨0, Nat.zero_le _, rfl, HI, HBr⟩
        case round =>
          obtain ⟨m, hm, rfl, HI', HB'⟩ := hrel
          by_cases hlt : m < 4
          · have HKd := hid (kind3 m hlt)
            go_wp2_with fail
            refine (Sector.impl_sector 3 (m : Int) wr (kinds_below HK.out HG.out HB'.out)).mono ?_
            rintro e w1 ⟨rfl, hw1⟩
            obtain rfl := hw1.symm
            rw [sec3 m hlt]
            obtain ⟨p, hp⟩ : ∃ p : Nat, p = 9 + m := ⟨_, rfl⟩
            have HP := hid hp
            have hl : (p : Int) < 34 := by omega
            have hc := HCell.out wr HB'.out p (by omega)
            have hz := HZ.out p
            rw [← hp] at HKd HI' ⊢
            obtain ⟨sa, hsa⟩ : ∃ s, s = l.getD p ByteArray.empty := ⟨_, rfl⟩
            have HSa := hid hsa
            rw [← hsa] at hc hz
            clear hp hsa
            go_wp2_with fail
            refine (isSectorOf R HR.out HTx.out 3 (by decide) sa hz wr u pv (HL.out.kept (Kept.of_below (S := fun _ => False) HB'.out) (fun x => x)) (HT.out.below HB'.out)).mono ?_
            rintro e w2 ⟨rfl, b2⟩
            have HB2 := hid (HB'.out.trans (b2.mono HB'.out.size))
            have HQ : Hid (secOk R (kindOf p) (l.getD p ByteArray.empty) = secOk R 3 sa) := by rw [Hid, HKd.out, HSa.out]
            clear b2 hc hz
            generalize secOk R 3 sa = z at *
            cases z with
            | false =>
              have HF := hid (N2.out p (by omega) HQ.out)
              clear N2 NY
              go_wp2
              go_ret
              exact ⟨by rw [HF.out]; rfl, HB2.out⟩
            | true =>
              have HI2 : Hid (∀ j, j < 9 + (m + 1) → secOk R (kindOf (j)) (l.getD (j) ByteArray.empty) = true) := fun j hj => by
                have hpm := HP.out
                by_cases h : j = p
                · subst h; exact HQ.out
                · exact HI'.out j (by omega)
              go_wp2
              exact ⟨⟨m + 1, by omega, by go_num, HI2, HB2⟩, by simp [intOf]; omega⟩
          · obtain rfl : m = 4 := by omega
            go_wp2
            exact ⟨⟨3 + 1, by decide, by go_num, HI', HB'⟩, by simp [intOf]⟩
      · simp only [il4]
        have hix := idx4
        go_wp2
        clear hix
        go_loopw [15] (fun i wr => ∃ m : Nat, m ≤ 3 ∧ i = .int .i64 (m : Int) ∧ Hid (∀ j, j < 13 + m → secOk R (kindOf (j)) (l.getD (j) ByteArray.empty) = true) ∧ Hid (Below w.heap.size w wr)) (fun i _ => 3 - (intOf i).toNat)
        case atStart => exact ⟨0, Nat.zero_le _, rfl, HI, HBr⟩
        case round =>
          obtain ⟨m, hm, rfl, HI', HB'⟩ := hrel
          by_cases hlt : m < 3
          · have HKd := hid (kind4 m hlt)
            go_wp2_with fail
            refine (Sector.impl_sector 4 (m : Int) wr (kinds_below HK.out HG.out HB'.out)).mono ?_
            rintro e w1 ⟨rfl, hw1⟩
            obtain rfl := hw1.symm
            rw [sec4 m hlt]
            obtain ⟨p, hp⟩ : ∃ p : Nat, p = 13 + m := ⟨_, rfl⟩
            have HP := hid hp
            have hl : (p : Int) < 34 := by omega
            have hc := HCell.out wr HB'.out p (by omega)
            have hz := HZ.out p
            rw [← hp] at HKd HI' ⊢
            obtain ⟨sa, hsa⟩ : ∃ s, s = l.getD p ByteArray.empty := ⟨_, rfl⟩
            have HSa := hid hsa
            rw [← hsa] at hc hz
            clear hp hsa
            go_wp2_with fail
            refine (isSectorOf R HR.out HTx.out 4 (by decide) sa hz wr u pv (HL.out.kept (Kept.of_below (S := fun _ => False) HB'.out) (fun x => x)) (HT.out.below HB'.out)).mono ?_
            rintro e w2 ⟨rfl, b2⟩
            have HB2 := hid (HB'.out.trans (b2.mono HB'.out.size))
            have HQ : Hid (secOk R (kindOf p) (l.getD p ByteArray.empty) = secOk R 4 sa) := by rw [Hid, HKd.out, HSa.out]
            clear b2 hc hz
            generalize secOk R 4 sa = z at *
            cases z with
            | false =>
              have HF := hid (N2.out p (by omega) HQ.out)
              clear N2 NY
              go_wp2
              go_ret
              exact ⟨by rw [HF.out]; rfl, HB2.out⟩
            | true =>
              have HI2 : Hid (∀ j, j < 13 + (m + 1) → secOk R (kindOf (j)) (l.getD (j) ByteArray.empty) = true) := fun j hj => by
                have hpm := HP.out
                by_cases h : j = p
                · subst h; exact HQ.out
                · exact HI'.out j (by omega)
              go_wp2
              exact ⟨⟨m + 1, by omega, by go_num, HI2, HB2⟩, by simp [intOf]; omega⟩
          · obtain rfl : m = 3 := by omega
            go_wp2
            exact ⟨⟨4 + 1, by decide, by go_num, HI', HB'⟩, by simp [intOf]⟩
      · simp only [il5]
        have hix := idx5
        go_wp2
        clear hix
        go_loopw [15] (fun i wr => ∃ m : Nat, m ≤ 18 ∧ i = .int .i64 (m : Int) ∧ Hid (∀ j, j < 16 + m → secOk R (kindOf (j)) (l.getD (j) ByteArray.empty) = true) ∧ Hid (Below w.heap.size w wr)) (fun i _ => 18 - (intOf i).toNat)
        case atStart => exact ⟨0, Nat.zero_le _, rfl, HI, HBr⟩
        case round =>
          obtain ⟨m, hm, rfl, HI', HB'⟩ := hrel
          by_cases hlt : m < 18
          · have HKd := hid (kind5 m hlt)
            go_wp2_with fail
            refine (Sector.impl_sector 5 (m : Int) wr (kinds_below HK.out HG.out HB'.out)).mono ?_
            rintro e w1 ⟨rfl, hw1⟩
            obtain rfl := hw1.symm
            rw [sec5 m hlt]
            obtain ⟨p, hp⟩ : ∃ p : Nat, p = 16 + m := ⟨_, rfl⟩
            have HP := hid hp
            have hl : (p : Int) < 34 := by omega
            have hc := HCell.out wr HB'.out p (by omega)
            have hz := HZ.out p
            rw [← hp] at HKd HI' ⊢
            obtain ⟨sa, hsa⟩ : ∃ s, s = l.getD p ByteArray.empty := ⟨_, rfl⟩
            have HSa := hid hsa
            rw [← hsa] at hc hz
            clear hp hsa
            go_wp2_with fail
            refine (isSectorOf R HR.out HTx.out 5 (by decide) sa hz wr u pv (HL.out.kept (Kept.of_below (S := fun _ => False) HB'.out) (fun x => x)) (HT.out.below HB'.out)).mono ?_
            rintro e w2 ⟨rfl, b2⟩
            have HB2 := hid (HB'.out.trans (b2.mono HB'.out.size))
            have HQ : Hid (secOk R (kindOf p) (l.getD p ByteArray.empty) = secOk R 5 sa) := by rw [Hid, HKd.out, HSa.out]
            clear b2 hc hz
            generalize secOk R 5 sa = z at *
            cases z with
            | false =>
              have HF := hid (N2.out p (by omega) HQ.out)
              clear N2 NY
              go_wp2
              go_ret
              exact ⟨by rw [HF.out]; rfl, HB2.out⟩
            | true =>
              have HI2 : Hid (∀ j, j < 16 + (m + 1) → secOk R (kindOf (j)) (l.getD (j) ByteArray.empty) = true) := fun j hj => by
                have hpm := HP.out
                by_cases h : j = p
                · subst h; exact HQ.out
                · exact HI'.out j (by omega)
              go_wp2
              exact ⟨⟨m + 1, by omega, by go_num, HI2, HB2⟩, by simp [intOf]; omega⟩
          · obtain rfl : m = 18 := by omega
            go_wp2
            exact ⟨⟨5 + 1, by decide, by go_num, HI', HB'⟩, by simp [intOf]⟩
    · obtain rfl : k = 6 := by omega
      have HF := hid (NY.out H34.out (fun i hi => HI.out i hi))
      clear N2 NY
      go_wp2
      go_ret
      exact ⟨by rw [HF.out]; rfl, HBr.out⟩

end Go.Proofs.YtogebppolkfldaaGreatDoor.Pk

namespace Go.Proofs.YtogebppolkfldaaGreatDoor.Pl
open Go.RowKit Go.Proofs.YtogebppolkfldaaGreatDoor.Mem Go.Proofs.YtogebppolkfldaaGreatDoor.Sec Go.Proofs.YtogebppolkfldaaGreatDoor.Rd Go.Proofs.YtogebppolkfldaaGreatDoor.Pk
set_option linter.unusedVariables false

/-- The listed variables stand. -/
structure Laid (w : World) : Prop where
  l : ∃ u pv, Lacks w u pv
  t : Sums w
  k : Sector.Kinds w
  g : 0 < w.heap.size

theorem Laid.below {w w' : World} (h : Laid w) (b : Below w.heap.size w w') : Laid w' := by
  obtain ⟨⟨u, pv, hl⟩, ht, hk, hg⟩ := h
  exact ⟨⟨u, pv, hl.kept (Kept.of_below (S := fun _ => False) b) (fun x => x)⟩, ht.below b, kinds_below hk hg b, Nat.lt_of_lt_of_le hg b.size⟩

theorem iPool (R : ByteArray → Int × Nat) (hR : Reads R) (hT : ∀ s : ByteArray, s.size ≤ maxLen → Tx s (R s)) (w : World) (a : Option Addr) (cap : Nat) (l : List ByteArray) (S : Strs w a l) (hl : l.length ≤ 1048576) (hz : ∀ s ∈ l, s.size ≤ 1048576) (hL : Laid w) :
    Calls Tryz.prog 54 #[.slice a l.length cap] w fun e w' => e = .returned (.bool (poolOk R l)) ∧ Below w.heap.size w w' := by
  obtain ⟨⟨u, pv, hl'⟩, ht, hk, hg⟩ := hL
  exact iPoolOk R hR hT w a cap l S hl hz u pv hl' ht hk hg

set_option maxRecDepth 100000 in
set_option maxHeartbeats 4000000 in
theorem iWorldOk (R : ByteArray → Int × Nat) (hR : Reads R) (hT : ∀ s : ByteArray, s.size ≤ maxLen → Tx s (R s)) (w : World) (v : Value) (X : Wd) (h : WdR w v X) (hs : X.Small) (hd : X.D.Held) (hL : Laid w) :
    Calls Tryz.prog 23 #[v] w fun e w' => e = .returned (.bool (X.ok R)) ∧ Below w.heap.size w w' := by
  obtain ⟨a1, c1, a2, c2, a3, c3, a4, c4, a5, c5, a6, c6, a7, c7, L, rfl, hm, s1, s2, s3, s4, s5, s6, s7⟩ := h
  have HD := hid (show DkR w (.agg #[.slice a1 X.D.sec.length c1, .slice a2 X.D.ep.length c2, .slice a3 X.D.pe.length c3]) X.D from ⟨a1, c1, a2, c2, a3, c3, rfl, s1, s2, s3⟩)
  have HS1 := hid s1
  have HS2 := hid s2
  have HS4 := hid s4
  have HS5 := hid s5
  have HS6 := hid s6
  have HS7 := hid s7
  have HSM := hid hs
  have HDH := hid hd
  have HLA := hid hL
  have HM := hid hm
  have HRR := hid hR
  have HTT := hid hT
  have HLl : Hid (L.length ≤ 1048576) := by have := hs.h; rw [← hm, List.length_map] at this; exact this
  have HLx : Hid (∀ x ∈ L, x.H.Upto 1048576) := fun x hx => hs.hh _ (by rw [← hm]; exact List.mem_map_of_mem hx)
  clear s1 s2 s3 s4 s5 s6 s7 hm hs hd hL hR hT
  obtain ⟨wa, hwa, ez, A0, B0⟩ := one_new w [.slice a1 X.D.sec.length c1, .slice a2 X.D.ep.length c2, .slice a3 X.D.pe.length c3, .slice a4 L.length c4, .slice a5 X.log.length c5, .slice a6 X.seen.length c6, .slice a7 X.rep.length c7] 41
  have k0 := A0.c 0 rfl
  have k1 := A0.c 1 rfl
  have k2 := A0.c 2 rfl
  have HA := hid A0
  have HB := hid B0
  clear A0 B0 ez
  go_enter Tryz.func23, Tryz.ntmps23
  go_wp2_with fail
  try simp only [hwa]
  clear hwa k0 k1 k2
  refine (implDiskOk wa _ X.D (HD.out.below HB.out) HDH.out).mono ?_
  rintro e w1 ⟨rfl, b1⟩
  have HA1 := hid (HA.out.below b1 HA.out.lt)
  have HB1 := hid (HB.out.trans (b1.mono HB.out.size))
  clear b1 HA HB
  cases hq1 : X.D.right
  · have HQ := hid hq1
    clear hq1
    go_wp2
    go_ret
    exact ⟨by rw [ok_no1 HQ.out]; rfl, HB1.out⟩
  have HQ1 := hid hq1
  clear hq1
  have k := HA1.out.c 0 rfl
  go_wp2_with fail
  clear k
  refine (iPool R HRR.out HTT.out w1 a1 c1 X.D.sec (Sl.below HS1.out HB1.out) HSM.out.d1 HSM.out.dt (HLA.out.below HB1.out)).mono ?_
  rintro e w2 ⟨rfl, b2⟩
  have HA2 := hid (HA1.out.below b2 HA1.out.lt)
  have HB2 := hid (HB1.out.trans (b2.mono HB1.out.size))
  clear b2 HA1 HB1
  cases hq2 : poolOk R X.D.sec
  · have HQ := hid hq2
    clear hq2
    go_wp2
    go_ret
    exact ⟨by rw [ok_no2 HQ.out]; rfl, HB2.out⟩
  have HQ2 := hid hq2
  clear hq2
  have k := HA2.out.c 3 rfl
  have m := HA2.out.c 1 rfl
  go_wp2_with fail
  clear k m
  refine (iHosts w2 a4 a2 c4 c2 L X.D.ep (HS4.out.below HB2.out) (Sl.below HS2.out HB2.out) HLl.out HLx.out (right_ep HQ1.out)).mono ?_
  rintro e w3 ⟨rfl, b3⟩
  have HA3 := hid (HA2.out.below b3 HA2.out.lt)
  have HB3 := hid (HB2.out.trans (b3.mono HB2.out.size))
  clear b3 HA2 HB2
  rw [HM.out]
  cases hq3 : hostsOk X.hs X.D.ep
  · have HQ := hid hq3
    clear hq3
    go_wp2
    go_ret
    exact ⟨by rw [ok_no3 HQ.out]; rfl, HB3.out⟩
  have HQ3 := hid hq3
  clear hq3
  have k := HA3.out.c 5 rfl
  by_cases hq4 : X.seen.length = 3
  rotate_left
  · have hb : ((X.seen.length : Int) != 3) = true := by simp; omega
    have HQ := hid hq4
    clear hq4
    go_wp2
    go_ret
    exact ⟨by rw [ok_no4 (seen_no1 HQ.out)]; rfl, HB3.out⟩
  have hb : ((X.seen.length : Int) != 3) = false := by simp; omega
  have HQ4 := hid hq4
  clear hq4
  go_wp2_with fail
  clear k hb
  refine (areFrom w3 a6 c6 X.seen 0 1000000 (Sl.below HS6.out HB3.out) HSM.out.s).mono ?_
  rintro e w4 ⟨rfl, hw⟩
  subst hw
  cases hq5 : between 0 1000000 X.seen
  · have HQ := hid hq5
    clear hq5
    go_wp2
    go_ret
    exact ⟨by rw [ok_no4 (show seenOk X.seen = false by unfold seenOk; rw [HQ.out, Bool.and_false])]; rfl, HB3.out⟩
  have HQ5 : Hid (seenOk X.seen = true) := by unfold seenOk; rw [hq5, HQ4.out]; rfl
  clear hq5
  have k := HA3.out.c 4 rfl
  go_wp2_with fail
  clear k
  refine (iEvents _ a5 c5 X.log (Sl.below HS5.out HB3.out) HSM.out.e HSM.out.et).mono ?_
  rintro e w5 ⟨rfl, b5⟩
  have HA5 := hid (HA3.out.below b5 HA3.out.lt)
  have HB5 := hid (HB3.out.trans (b5.mono HB3.out.size))
  clear b5 HA3 HB3
  cases hq6 : evsOk X.log
  · have HQ := hid hq6
    clear hq6
    go_wp2
    go_ret
    exact ⟨by rw [ok_no5 HQ.out]; rfl, HB5.out⟩
  have HQ6 := hid hq6
  clear hq6
  have k := HA5.out.c 4 rfl
  have m := HA5.out.c 6 rfl
  go_wp2_with fail
  clear k m
  refine (iReplies w5 a7 c7 X.log.length X.rep (Sl.below HS7.out HB5.out) HSM.out.r HSM.out.e HSM.out.rt).mono ?_
  rintro e w6 ⟨rfl, b6⟩
  have HB6 := hid (HB5.out.trans (b6.mono HB5.out.size))
  clear b6
  have HE : Hid (rpsOk X.log.length X.rep = X.ok R) := by
    cases hq : rpsOk X.log.length X.rep
    · exact (ok_no6 hq).symm
    · exact (ok_yes HQ1.out HQ2.out HQ3.out HQ5.out HQ6.out hq).symm
  rw [HE.out]
  go_wp2
  go_ret
  exact ⟨rfl, HB6.out⟩

end Go.Proofs.YtogebppolkfldaaGreatDoor.Pl

namespace Go.Proofs.YtogebppolkfldaaGreatDoor.Pl
open Go.RowKit Go.Proofs.YtogebppolkfldaaGreatDoor.Mem Go.Proofs.YtogebppolkfldaaGreatDoor.Sec
set_option linter.unusedVariables false

set_option maxRecDepth 100000 in
set_option maxHeartbeats 8000000 in
theorem sHostOk (w : World) (H : Ho) (p : Option Addr) (c : Nat) (S : Ous w p H.l) (hu : H.Upto 1048576) :
    Calls Tryz.prog 41 #[hoV H p c] w fun r w' => r = .returned (.bool H.ok) ∧ Below w.heap.size w w' := by
  obtain ⟨id, ep, up, rd, bz, k, v, t, a, s, pc, cd, bk, tx, l, txn⟩ := H
  have HS : Hid (Ous w p l) := S
  have hs : s.size ≤ 1048576 := hu.s
  have htx : tx.size ≤ 1048576 := hu.tx
  have HL : Hid (l.length ≤ 1048576) := hu.l
  have HE : Hid (∀ x ∈ l, x.text.size ≤ 1048576) := hu.each
  clear S hu
  have HQ : Hid (Ho.ok ⟨id, ep, up, rd, bz, k, v, t, a, s, pc, cd, bk, tx, l, txn⟩ = (decide (0 ≤ id ∧ id < 3) && (if up = true then decide (1 ≤ ep ∧ ep ≤ 100000) && (decide (0 ≤ txn ∧ txn ≤ 1000000) && (if bz = true then (opRight k v t a s && (decide (0 ≤ pc ∧ pc ≤ 20) && (!(decide (1 ≤ pc ∧ pc ≤ 3) && decide (1000000 ≤ txn)) && (if pc = 0 then zeroPlan cd bk tx l else keptPlan cd bk tx l)))) else (decide (k = 0 ∧ v = 0 ∧ t = 0 ∧ a = 0 ∧ s = ⟨#[]⟩) && (decide (pc = 0) && zeroPlan cd bk tx l)))) else (decide (ep = 0) && (!rd && (!bz && (decide (txn = 0) && (decide (k = 0 ∧ v = 0 ∧ t = 0 ∧ a = 0 ∧ s = ⟨#[]⟩) && (decide (pc = 0) && zeroPlan cd bk tx l))))))))) := rfl
  generalize Ho.ok ⟨id, ep, up, rd, bz, k, v, t, a, s, pc, cd, bk, tx, l, txn⟩ = q at *
  unfold hoV
  try simp only []
  obtain ⟨wa, hwa, ez, A0, B0⟩ := one_new w [.int .i64 id, .int .i64 ep, .bool up, .bool rd, .bool bz, .int .i64 k, .int .i64 v, .int .i64 t, .int .i64 a, .string s, .int .i64 pc, .int .i64 cd, .int .i64 bk, .string tx, .slice p l.length c, .int .i64 txn] 68
  have HA := hid A0
  have HB := hid B0
  clear B0 ez
  have k0 := A0.c 0 rfl
  have k1 := A0.c 1 rfl
  have k2 := A0.c 2 rfl
  have k3 := A0.c 3 rfl
  have k4 := A0.c 4 rfl
  have k5 := A0.c 5 rfl
  have k6 := A0.c 6 rfl
  have k7 := A0.c 7 rfl
  have k8 := A0.c 8 rfl
  have k9 := A0.c 9 rfl
  have k10 := A0.c 10 rfl
  have k11 := A0.c 11 rfl
  have k12 := A0.c 12 rfl
  have k13 := A0.c 13 rfl
  have k14 := A0.c 14 rfl
  have k15 := A0.c 15 rfl
  clear A0
  have hgl := guardOpT
  go_enter Tryz.func41, Tryz.ntmps41
  go_wp2_with fail
  try simp only [hwa]
  clear hwa
  by_cases c0 : 0 ≤ id ∧ id < 3
  rotate_left
  · have c0' := decide_eq_false c0
    rw [c0', Bool.false_and] at HQ
    refine (c0' ▸ l3Host id _).mono ?_
    rintro r w1 ⟨rfl, hw⟩
    obtain rfl := hw.symm
    clear c0
    go_wp2
    go_ret
    exact ⟨by rw [HQ.out]; rfl, HB.out⟩
  have c0' := decide_eq_true c0
  rw [c0', Bool.true_and] at HQ
  refine (c0' ▸ l3Host id _).mono ?_
  rintro r w1 ⟨rfl, hw⟩
  obtain rfl := hw.symm
  clear c0 c0'
  cases up with
  | false =>
    simp only [Bool.false_eq_true, if_false] at HQ
    by_cases e1 : ep = 0
    rotate_left
    · rw [decide_eq_false e1, Bool.false_and] at HQ
      have e1' := beq_no e1
      go_wp2
      go_ret
      exact ⟨by rw [HQ.out]; rfl, HB.out⟩
    subst e1
    rw [decide_eq_true rfl, Bool.true_and] at HQ
    cases rd with
    | true =>
      simp only [Bool.not_true, Bool.false_and] at HQ
      go_wp2
      go_ret
      exact ⟨by rw [HQ.out]; rfl, HB.out⟩
    | false =>
      simp only [Bool.not_false, Bool.true_and] at HQ
      cases bz with
      | true =>
        simp only [Bool.not_true, Bool.false_and] at HQ
        go_wp2
        go_ret
        exact ⟨by rw [HQ.out]; rfl, HB.out⟩
      | false =>
        simp only [Bool.not_false, Bool.true_and] at HQ
        cases hz : decide (k = 0 ∧ v = 0 ∧ t = 0 ∧ a = 0 ∧ s = ⟨#[]⟩) with
        | false =>
          rw [hz, Bool.false_and, Bool.and_false] at HQ
          have heq := eql_is hz
          clear hz
          go_wp2
          go_ret
          exact ⟨by rw [HQ.out]; rfl, HB.out⟩
        | true =>
          rw [hz, Bool.true_and] at HQ
          have heq := eql_is hz
          clear hz
          by_cases e2 : pc = 0
          rotate_left
          · rw [decide_eq_false e2, Bool.false_and, Bool.and_false] at HQ
            have e2' := beq_no e2
            go_wp2
            go_ret
            exact ⟨by rw [HQ.out]; rfl, HB.out⟩
          subst e2
          rw [decide_eq_true rfl, Bool.true_and] at HQ
          go_wp2_with fail
          cases hzp : zeroPlan cd bk tx l with
          | false =>
            have HZ := hid (sZeroPlan wa cd bk tx p c l HL.out)
            rw [hzp] at HZ
            refine HZ.out.mono ?_
            rintro r w2 ⟨rfl, bzw2⟩
            have HBw2 := hid (HB.out.trans (bzw2.mono HB.out.size))
            have HAw2 := hid (HA.out.below bzw2 HA.out.lt)
            clear bzw2 HZ
            rw [hzp, Bool.and_false] at HQ
            clear hzp heq
            go_wp2
            go_ret
            exact ⟨by rw [HQ.out]; rfl, HBw2.out⟩
          | true =>
            have HZ := hid (sZeroPlan wa cd bk tx p c l HL.out)
            rw [hzp] at HZ
            refine HZ.out.mono ?_
            rintro r w2 ⟨rfl, bzw2⟩
            have HBw2 := hid (HB.out.trans (bzw2.mono HB.out.size))
            have HAw2 := hid (HA.out.below bzw2 HA.out.lt)
            clear bzw2 HZ
            rw [hzp, Bool.and_true] at HQ
            clear hzp heq k0 k1 k2 k3 k4 k5 k6 k7 k8 k9 k10 k11 k12 k13 k14 k15
            have k15 := HAw2.out.c 15 rfl
            by_cases e3 : txn = 0
            · subst e3
              rw [decide_eq_true rfl] at HQ
              go_wp2
              go_ret
              exact ⟨by rw [HQ.out]; rfl, HBw2.out⟩
            · rw [decide_eq_false e3] at HQ
              have e3' := beq_no e3
              go_wp2
              go_ret
              exact ⟨by rw [HQ.out]; rfl, HBw2.out⟩
  | true =>
    simp only [if_true] at HQ
    go_wp2_with fail
    by_cases c1 : 1 ≤ ep ∧ ep ≤ 100000
    rotate_left
    · have c1' := decide_eq_false c1
      rw [c1', Bool.false_and] at HQ
      refine (c1' ▸ l1In ep 1 100000 _).mono ?_
      rintro r w2 ⟨rfl, hw⟩
      obtain rfl := hw.symm
      clear c1
      go_wp2
      go_ret
      exact ⟨by rw [HQ.out]; rfl, HB.out⟩
    have c1' := decide_eq_true c1
    rw [c1', Bool.true_and] at HQ
    refine (c1' ▸ l1In ep 1 100000 _).mono ?_
    rintro r w2 ⟨rfl, hw⟩
    obtain rfl := hw.symm
    clear c1 c1'
    go_wp2_with fail
    by_cases c2 : 0 ≤ txn ∧ txn ≤ 1000000
    rotate_left
    · have c2' := decide_eq_false c2
      rw [c2', Bool.false_and] at HQ
      refine (c2' ▸ l1In txn 0 1000000 _).mono ?_
      rintro r w3 ⟨rfl, hw⟩
      obtain rfl := hw.symm
      clear c2
      go_wp2
      go_ret
      exact ⟨by rw [HQ.out]; rfl, HB.out⟩
    have c2' := decide_eq_true c2
    rw [c2', Bool.true_and] at HQ
    refine (c2' ▸ l1In txn 0 1000000 _).mono ?_
    rintro r w3 ⟨rfl, hw⟩
    obtain rfl := hw.symm
    clear c2 c2'
    cases bz with
    | false =>
      simp only [Bool.false_eq_true, if_false] at HQ
      cases hz : decide (k = 0 ∧ v = 0 ∧ t = 0 ∧ a = 0 ∧ s = ⟨#[]⟩) with
      | false =>
        rw [hz, Bool.false_and] at HQ
        have heq := eql_is hz
        clear hz
        go_wp2
        go_ret
        exact ⟨by rw [HQ.out]; rfl, HB.out⟩
      | true =>
        rw [hz, Bool.true_and] at HQ
        have heq := eql_is hz
        clear hz
        by_cases e2 : pc = 0
        rotate_left
        · rw [decide_eq_false e2, Bool.false_and] at HQ
          have e2' := beq_no e2
          go_wp2
          go_ret
          exact ⟨by rw [HQ.out]; rfl, HB.out⟩
        subst e2
        rw [decide_eq_true rfl, Bool.true_and] at HQ
        go_wp2_with fail
        refine (sZeroPlan _ cd bk tx p c l HL.out).mono ?_
        rintro r w4 ⟨rfl, b4⟩
        have HB4 := hid (HB.out.trans (b4.mono HB.out.size))
        clear b4 heq
        go_wp2
        go_ret
        exact ⟨by rw [HQ.out]; rfl, HB4.out⟩
    | true =>
      simp only [if_true] at HQ
      go_wp2_with fail
      cases hz : opRight k v t a s with
      | false =>
        rw [hz, Bool.false_and] at HQ
        have ho := sOpOk k v t a s wa hs
        rw [hz] at ho
        refine ho.mono ?_
        rintro r w4 ⟨rfl, b4⟩
        have HB4 := hid (HB.out.trans (b4.mono HB.out.size))
        clear b4 hz ho
        go_wp2
        go_ret
        exact ⟨by rw [HQ.out]; rfl, HB4.out⟩
      | true =>
        rw [hz, Bool.true_and] at HQ
        have ho := sOpOk k v t a s wa hs
        rw [hz] at ho
        refine ho.mono ?_
        rintro r w4 ⟨rfl, b4⟩
        have HB4 := hid (HB.out.trans (b4.mono HB.out.size))
        have HA4 := hid (HA.out.below b4 HA.out.lt)
        clear b4 hz ho k0 k1 k2 k3 k4 k5 k6 k7 k8 k9 k10 k11 k12 k13 k14 k15
        have k10 := HA4.out.c 10 rfl
        have k11 := HA4.out.c 11 rfl
        have k12 := HA4.out.c 12 rfl
        have k13 := HA4.out.c 13 rfl
        have k14 := HA4.out.c 14 rfl
        have k15 := HA4.out.c 15 rfl
        go_wp2_with fail
        by_cases c3 : 0 ≤ pc ∧ pc ≤ 20
        rotate_left
        · have c3' := decide_eq_false c3
          rw [c3', Bool.false_and] at HQ
          refine (c3' ▸ l1In pc 0 20 _).mono ?_
          rintro r w5 ⟨rfl, hw⟩
          obtain rfl := hw.symm
          clear c3
          go_wp2
          go_ret
          exact ⟨by rw [HQ.out]; rfl, HB4.out⟩
        have c3' := decide_eq_true c3
        rw [c3', Bool.true_and] at HQ
        refine (c3' ▸ l1In pc 0 20 _).mono ?_
        rintro r w5 ⟨rfl, hw⟩
        obtain rfl := hw.symm
        clear c3 c3'
        go_wp2_with fail
        by_cases c4 : 1 ≤ pc ∧ pc ≤ 3
        · have c4' := decide_eq_true c4
          rw [c4', Bool.true_and] at HQ
          refine (c4' ▸ l1In pc 1 3 _).mono ?_
          rintro r w6 ⟨rfl, hw⟩
          obtain rfl := hw.symm
          by_cases c5 : 1000000 ≤ txn
          · rw [decide_eq_true c5] at HQ
            simp only [Bool.not_true, Bool.false_and] at HQ
            clear c4
            go_wp2
            go_ret
            exact ⟨by rw [HQ.out]; rfl, HB4.out⟩
          · rw [decide_eq_false c5] at HQ
            simp only [Bool.not_false, Bool.true_and] at HQ
            have c5' : decide (txn ≥ 1000000) = false := decide_eq_false c5
            have e6 : ¬ pc = 0 := by omega
            clear c4 c4'
            rw [if_neg e6] at HQ
            have e6' := beq_no e6
            have HK := hid HQ.out
            unfold keptPlan at HK
            by_cases f1 : cd = 0
            rotate_left
            · rw [decide_eq_false f1, Bool.false_and] at HK
              have f1' := beq_no f1
              have HQ := hid HK.out
              go_wp2
              go_ret
              exact ⟨by rw [HQ.out]; rfl, HB4.out⟩
            subst f1
            rw [decide_eq_true rfl, Bool.true_and] at HK
            go_wp2_with fail
            by_cases f2 : -1 ≤ bk ∧ bk ≤ 17
            rotate_left
            · have f2' := decide_eq_false f2
              rw [f2', Bool.false_and] at HK
              have HQ := hid HK.out
              refine (f2' ▸ l1In bk (-1) 17 _).mono ?_
              rintro r w7 ⟨rfl, hw⟩
              obtain rfl := hw.symm
              clear f2
              go_wp2
              go_ret
              exact ⟨by rw [HQ.out]; rfl, HB4.out⟩
            have f2' := decide_eq_true f2
            rw [f2', Bool.true_and] at HK
            refine (f2' ▸ l1In bk (-1) 17 _).mono ?_
            rintro r w7 ⟨rfl, hw⟩
            obtain rfl := hw.symm
            clear f2 f2'
            by_cases f3 : (tx.size : Int) ≤ 16
            rotate_left
            · rw [decide_eq_false f3, Bool.false_and] at HK
              have HQ := hid HK.out
              have f3' := decide_eq_false f3
              go_wp2
              go_ret
              exact ⟨by rw [HQ.out]; rfl, HB4.out⟩
            rw [decide_eq_true f3, Bool.true_and] at HK
            have HQ := hid HK.out
            go_wp2_with fail
            refine (sOuts w4 p c l (HS.out.below HB4.out) HL.out HE.out).mono ?_
            rintro r w8 ⟨rfl, b8⟩
            have HB8 := hid (HB4.out.trans (b8.mono HB4.out.size))
            clear b8
            go_wp2
            go_ret
            exact ⟨by rw [HQ.out]; rfl, HB8.out⟩
        · have c4' := decide_eq_false c4
          rw [c4', Bool.false_and] at HQ
          simp only [Bool.not_false, Bool.true_and] at HQ
          refine (c4' ▸ l1In pc 1 3 _).mono ?_
          rintro r w6 ⟨rfl, hw⟩
          obtain rfl := hw.symm
          clear c4 c4'
          by_cases e6 : pc = 0
          · subst e6
            rw [if_pos rfl] at HQ
            go_wp2_with fail
            refine (sZeroPlan _ cd bk tx p c l HL.out).mono ?_
            rintro r w7 ⟨rfl, b7⟩
            have HB7 := hid (HB4.out.trans (b7.mono HB4.out.size))
            clear b7
            go_wp2
            go_ret
            exact ⟨by rw [HQ.out]; rfl, HB7.out⟩
          rw [if_neg e6] at HQ
          have e6' := beq_no e6
          have HK := hid HQ.out
          unfold keptPlan at HK
          by_cases f1 : cd = 0
          rotate_left
          · rw [decide_eq_false f1, Bool.false_and] at HK
            have f1' := beq_no f1
            have HQ := hid HK.out
            go_wp2
            go_ret
            exact ⟨by rw [HQ.out]; rfl, HB4.out⟩
          subst f1
          rw [decide_eq_true rfl, Bool.true_and] at HK
          go_wp2_with fail
          by_cases f2 : -1 ≤ bk ∧ bk ≤ 17
          rotate_left
          · have f2' := decide_eq_false f2
            rw [f2', Bool.false_and] at HK
            have HQ := hid HK.out
            refine (f2' ▸ l1In bk (-1) 17 _).mono ?_
            rintro r w7 ⟨rfl, hw⟩
            obtain rfl := hw.symm
            clear f2
            go_wp2
            go_ret
            exact ⟨by rw [HQ.out]; rfl, HB4.out⟩
          have f2' := decide_eq_true f2
          rw [f2', Bool.true_and] at HK
          refine (f2' ▸ l1In bk (-1) 17 _).mono ?_
          rintro r w7 ⟨rfl, hw⟩
          obtain rfl := hw.symm
          clear f2 f2'
          by_cases f3 : (tx.size : Int) ≤ 16
          rotate_left
          · rw [decide_eq_false f3, Bool.false_and] at HK
            have HQ := hid HK.out
            have f3' := decide_eq_false f3
            go_wp2
            go_ret
            exact ⟨by rw [HQ.out]; rfl, HB4.out⟩
          rw [decide_eq_true f3, Bool.true_and] at HK
          have HQ := hid HK.out
          go_wp2_with fail
          refine (sOuts w4 p c l (HS.out.below HB4.out) HL.out HE.out).mono ?_
          rintro r w8 ⟨rfl, b8⟩
          have HB8 := hid (HB4.out.trans (b8.mono HB4.out.size))
          clear b8
          go_wp2
          go_ret
          exact ⟨by rw [HQ.out]; rfl, HB8.out⟩

end Go.Proofs.YtogebppolkfldaaGreatDoor.Pl
