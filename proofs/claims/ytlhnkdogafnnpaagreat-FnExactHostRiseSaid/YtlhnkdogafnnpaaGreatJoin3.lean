/-
  The walks of laws.szStringS, laws.szIntS, laws.szWrite, laws.szWriteS and laws.szDisk: where they leave a number that isn't below 0, all lengths are at most what was left. No condition but texts that Go can hold.
  Plain facts on a slice of bytes that a call owns: one more byte appended, and its conversion to a text. No condition.
  The walks of laws.eqStringS, laws.eqIntS, laws.eqWrite, laws.eqWriteS and laws.eqDisk: they tell whether two lists, writes or disks are the same. No condition.
  The walks of laws.eqWriteS and laws.eqDisk: they tell whether two lists of writes or disks are the same. No condition.
  The walk of spec.DiskOk: it tells whether a disk is right. No condition but lengths that Go can hold.
  The walks of spec.l3There, spec.l3Peek and spec.Peek: what a host sees. No condition but lengths that Go can hold.
  The walk of spec.l3Put: one write more on a disk of the call's own, or a refusal. No condition but three epochs and lengths of at most 2^19.
  The walk of spec.l3Swap: a sector of a disk of the call's own is another text, at once, or a refusal. No condition but three epochs and lengths of at most 2^19.
  The walk of spec.l3Without: a list of writes without one of them, in a row of its own. No condition but a length of at most 2^19.
  The walk of spec.l3Land: one write under way lands on a disk of the call's own, or a refusal. No condition but writes to sectors of the disk and lengths of at most 2^19.
  The walk of spec.l3Fence: a host's epoch is one more on a disk of the call's own, and its writes are gone, or a refusal. No condition but three epochs and lengths of at most 2^19.
  The walk of spec.l3Flush: all writes of a host land on a disk of the call's own, in order, or a refusal. No condition but three epochs, writes to sectors of the disk, and lengths of at most 2^19.
  Plain: what stays while a function works on a disk of its own. No condition.
  The walk of spec.l3Fence once more, with a word on what it leaves alone, and that a disk which it does not fence is handed back as it was. No condition but sizes.
  A region that draws its order, whose operations read and whose callees read or lay new blocks alone, walked once. No condition.
  Lists of sectors with texts in memory: right ones, sizes, laid anew, compared. No condition but lists of at most 2^20.
-/
import Derived.Test.YtlhnkdogafnnpaaGreatJoin2
import Derived.WalkKit
import Derived.Laws.BytesArg
import Derived.Outline
import Derived.Deep.QuietTactic
import Derived.BigQuiet
import Derived.RegionTactic
import Derived.BigRegion
import Derived.Deep.RegionWith
import Derived.Deep.RegionHeldLaw
import Derived.Laws.ResultCell
import Derived.Test.YtlhnkdogafnnpaaGreatJoin1
import Derived.Test.YtlhnkdogafnnpaaGreatRows
import Derived.Laws.StructEq
import Derived.WalkSpells
import Derived.WalkLawsBesides
namespace Go.Proofs.YtlhnkdogafnnpaaGreat.Mem
open Go.RowKit
set_option linter.unusedVariables false

/-- What is left: a number below 0, or one not above what was, and all fits. -/
def FitS (r left : Int) (l : List ByteArray) : Prop := r < 0 ∨ (0 ≤ r ∧ r ≤ left ∧ (l.length : Int) ≤ left ∧ ∀ s ∈ l, (s.size : Int) ≤ left)
def FitN (r left : Int) (n : Nat) : Prop := r < 0 ∨ (0 ≤ r ∧ r ≤ left ∧ (n : Int) ≤ left)
def FitW (r left : Int) (l : List Wt) : Prop := r < 0 ∨ (0 ≤ r ∧ r ≤ left ∧ (l.length : Int) ≤ left ∧ ∀ s ∈ l, (s.text.size : Int) ≤ left)

set_option maxRecDepth 100000 in
set_option maxHeartbeats 1000000 in
theorem szStringS (w : World) (a : Option Addr) (cap : Nat) (l : List ByteArray) (left : Int) (S : Strs w a l) (hl : l.length ≤ maxLen) (hs : ∀ s ∈ l, s.size ≤ maxLen) (h0 : 0 ≤ left) (h1 : left ≤ 1048576) :
    Calls Tryz.prog 18 #[.slice a l.length cap, .int .i64 left] w fun e w' => ∃ r, e = .returned (.int .i64 r) ∧ w' = w ∧ FitS r left l := by
  unfold maxLen at hl hs
  have HS := hid S
  have Hs := hid hs
  clear S hs
  by_cases hb : left < (l.length : Int)
  · go_enter Tryz.func18, Tryz.ntmps18
    go_wp2
    go_ret
    exact ⟨_, rfl, rfl, Or.inl (by decide)⟩
  · go_enter Tryz.func18, Tryz.ntmps18
    go_wp2
    go_loop [1, 5] (fun x i => ∃ (k : Nat) (m : Int), k ≤ l.length ∧ i = .int .i64 (k : Int) ∧ x = .int .i64 m ∧ 0 ≤ m ∧ m ≤ left ∧ Hid (∀ j, j < k → ((l.getD j ByteArray.empty).size : Int) ≤ left)) (fun _ i => l.length - (intOf i).toNat)
    case atStart => exact ⟨0, _, Nat.zero_le _, rfl, rfl, by omega, by omega, fun j hj => by omega⟩
    case round =>
      obtain ⟨k, m, hk, rfl, rfl, hm0, hm1, HJ⟩ := hrel
      by_cases hlt : k < l.length
      · obtain ⟨b, off, rfl, hc⟩ := HS.out k hlt
        replace hc : w.cell? ⟨b, off + k, none⟩ = some (.string (l.getD k ByteArray.empty)) := hc
        have hx2 : (l.getD k ByteArray.empty).size ≤ 9223372036854775807 := by
          rw [List.getD, List.getElem?_eq_getElem hlt]; exact Hs.out _ (List.getElem_mem hlt)
        generalize hx : l.getD k ByteArray.empty = x at hc hx2
        have HX := hid hx
        clear hx
        by_cases hneg : m < (x.size : Int)
        · go_wp2
          go_ret
          exact ⟨_, rfl, rfl, Or.inl (by decide)⟩
        · go_wp2
          go_round
          case rel => exact ⟨k + 1, m - x.size, by omega, by go_num, rfl, by omega, by omega, fun j hj => by
            by_cases h : j = k
            · subst h; rw [HX.out]; omega
            · exact HJ.out j (by omega)⟩
          case measure => simp [intOf]; omega
      · obtain rfl : k = l.length := by omega
        go_wp2
        go_ret
        refine ⟨_, rfl, rfl, Or.inr ⟨hm0, hm1, by omega, fun s hs => ?_⟩⟩
        obtain ⟨j, hj, rfl⟩ := List.getElem_of_mem hs
        have := HJ.out j hj
        rwa [List.getD, List.getElem?_eq_getElem hj] at this

set_option maxHeartbeats 1000000 in
theorem szIntS (w : World) (a : Option Addr) (cap n : Nat) (left : Int) (hl : n ≤ maxLen) (h0 : 0 ≤ left) (h1 : left ≤ 1048576) :
    Calls Tryz.prog 19 #[.slice a n cap, .int .i64 left] w fun e w' => ∃ r, e = .returned (.int .i64 r) ∧ w' = w ∧ FitN r left n := by
  unfold maxLen at hl
  by_cases hb : left < (n : Int)
  · go_enter Tryz.func19, Tryz.ntmps19
    go_wp2
    go_ret
    exact ⟨_, rfl, rfl, Or.inl (by decide)⟩
  · go_enter Tryz.func19, Tryz.ntmps19
    go_wp2
    go_ret
    exact ⟨_, rfl, rfl, Or.inr ⟨by omega, by omega, by omega⟩⟩

set_option maxHeartbeats 1000000 in
theorem szWrite (w : World) (x : Wt) (left : Int) (hl : x.text.size ≤ maxLen) (h0 : 0 ≤ left) (h1 : left ≤ 1048576) :
    Calls Tryz.prog 51 #[x.val, .int .i64 left] w fun e w' => ∃ r, e = .returned (.int .i64 r) ∧ Below w.heap.size w w' ∧ FitN r left x.text.size := by
  unfold maxLen at hl
  obtain ⟨xh, xe, xs, xt⟩ := x
  unfold Wt.val
  replace hl : xt.size ≤ 2 ^ 63 - 1 := hl
  by_cases hb : left < (xt.size : Int)
  · go_enter Tryz.func51, Tryz.ntmps51
    go_wp2
    go_ret
    exact ⟨_, rfl, by go_grown, Or.inl (by decide)⟩
  · go_enter Tryz.func51, Tryz.ntmps51
    go_wp2
    go_ret
    exact ⟨_, rfl, by go_grown, Or.inr ⟨by omega, by omega, by show (xt.size : Int) ≤ left; omega⟩⟩

set_option maxRecDepth 100000 in
set_option maxHeartbeats 1000000 in
theorem szWriteS (w : World) (a : Option Addr) (cap : Nat) (l : List Wt) (left : Int) (S : Wts w a l) (hl : l.length ≤ maxLen) (hs : ∀ s ∈ l, s.text.size ≤ maxLen) (h0 : 0 ≤ left) (h1 : left ≤ 1048576) :
    Calls Tryz.prog 20 #[.slice a l.length cap, .int .i64 left] w fun e w' => ∃ r, e = .returned (.int .i64 r) ∧ Below w.heap.size w w' ∧ FitW r left l := by
  unfold maxLen at hl
  have HS := hid S
  have Hs := hid hs
  clear S hs
  by_cases hb : left < (l.length : Int)
  · go_enter Tryz.func20, Tryz.ntmps20
    go_wp2
    go_ret
    exact ⟨_, rfl, Below.refl _ _, Or.inl (by decide)⟩
  · go_enter Tryz.func20, Tryz.ntmps20
    go_wp2
    go_loopw [1, 5] (fun x i wr => ∃ (k : Nat) (m : Int), k ≤ l.length ∧ i = .int .i64 (k : Int) ∧ x = .int .i64 m ∧ 0 ≤ m ∧ m ≤ left ∧ Hid (∀ j, j < k → ((l.getD j Wt.none).text.size : Int) ≤ left) ∧ Hid (Below w.heap.size w wr)) (fun _ i _ => l.length - (intOf i).toNat)
    case atStart => exact ⟨0, _, Nat.zero_le _, rfl, rfl, by omega, by omega, fun j hj => by omega, Below.refl _ _⟩
    case round =>
      obtain ⟨k, m, hk, rfl, rfl, hm0, hm1, HJ, HB⟩ := hrel
      by_cases hlt : k < l.length
      · obtain ⟨b, off, rfl, c0, c1, c2, c3⟩ := Wts.at_ (HS.out.below HB.out) k hlt
        have Hx2 : Hid ((l.getD k Wt.none).text.size ≤ maxLen) := by
          show (l.getD k Wt.none).text.size ≤ maxLen
          rw [List.getD, List.getElem?_eq_getElem hlt]; exact Hs.out _ (List.getElem_mem hlt)
        generalize hx : l.getD k Wt.none = x at c0 c1 c2 c3 Hx2
        have HX := hid hx
        clear hx
        go_wp2_with fail
        refine (szWrite _ x m Hx2.out hm0 (by omega)).mono ?_
        rintro e w1 ⟨r, rfl, hb1, hf⟩
        have HB1 := hid (HB.out.trans (hb1.mono HB.out.size))
        have HF := hid hf
        clear hb1 hf c0 c1 c2 c3
        by_cases hneg : r < 0
        · go_wp2
          go_ret
          exact ⟨_, rfl, HB1.out, Or.inl (by decide)⟩
        · obtain ⟨q0, q1, q2⟩ : 0 ≤ r ∧ r ≤ m ∧ (x.text.size : Int) ≤ m := by
            rcases HF.out with h | h
            · omega
            · exact h
          go_wp2
          go_roundw
          case rel => exact ⟨k + 1, r, by omega, by go_num, rfl, by omega, by omega, fun j hj => by
            by_cases h : j = k
            · subst h; rw [HX.out]; omega
            · exact HJ.out j (by omega), HB1⟩
          case measure => simp [intOf]; omega
      · obtain rfl : k = l.length := by omega
        go_wp2
        go_ret
        refine ⟨_, rfl, HB.out, Or.inr ⟨hm0, hm1, by omega, fun s hs => ?_⟩⟩
        obtain ⟨j, hj, rfl⟩ := List.getElem_of_mem hs
        have := HJ.out j hj
        rwa [List.getD, List.getElem?_eq_getElem hj] at this

/-- The sizes that Go can hold. -/
structure Dk.Held (D : Dk) : Prop where
  h1 : D.sec.length ≤ maxLen
  h2 : D.ep.length ≤ maxLen
  h3 : D.pe.length ≤ maxLen
  t1 : ∀ s ∈ D.sec, s.size ≤ maxLen
  t3 : ∀ x ∈ D.pe, x.text.size ≤ maxLen

/-- The sizes that the laws look at. -/
structure Dk.Small (D : Dk) (m : Int) : Prop where
  h1 : (D.sec.length : Int) ≤ m
  h2 : (D.ep.length : Int) ≤ m
  h3 : (D.pe.length : Int) ≤ m
  t1 : ∀ s ∈ D.sec, (s.size : Int) ≤ m
  t3 : ∀ x ∈ D.pe, (x.text.size : Int) ≤ m

def FitD (r left : Int) (D : Dk) : Prop := r < 0 ∨ (0 ≤ r ∧ r ≤ left ∧ D.Small left)

set_option maxRecDepth 100000 in
set_option maxHeartbeats 1000000 in
theorem szDisk (w : World) (v : Value) (D : Dk) (left : Int) (h : DkR w v D) (hd : D.Held) (h0 : 0 ≤ left) (h1 : left ≤ 1048576) :
    Calls Tryz.prog 5 #[v, .int .i64 left] w fun e w' => ∃ r, e = .returned (.int .i64 r) ∧ Below w.heap.size w w' ∧ FitD r left D := by
  obtain ⟨a1, c1, a2, c2, a3, c3, rfl, s1, s2, s3⟩ := h
  have HS1 := hid s1
  have HS2 := hid s2
  have HS3 := hid s3
  have HD := hid hd
  clear s1 s2 s3 hd
  go_enter Tryz.func5, Tryz.ntmps5
  go_wp2_with fail
  obtain ⟨w1, hw1, _, A0, B0⟩ := one_new w [.slice a1 D.sec.length c1, .slice a2 D.ep.length c2, .slice a3 D.pe.length c3] 33
  simp only [hw1]
  clear hw1
  refine (szStringS w1 a1 c1 D.sec left (HS1.out.below B0) HD.out.h1 HD.out.t1 h0 h1).mono ?_
  rintro e w1' ⟨r1, rfl, hw, hf⟩
  subst hw
  have HF1 := hid hf
  have HB := hid B0
  have HA := hid A0
  have ca := A0.c 1 rfl
  clear hf B0 A0
  by_cases hn1 : r1 < 0
  · go_wp2
    go_ret
    exact ⟨_, rfl, HB.out, Or.inl (by decide)⟩
  obtain ⟨p0, p1, p2, p3⟩ : 0 ≤ r1 ∧ r1 ≤ left ∧ (D.sec.length : Int) ≤ left ∧ ∀ s ∈ D.sec, (s.size : Int) ≤ left := by
    rcases HF1.out with h | h
    · omega
    · exact h
  have HP3 := hid p3
  clear p3
  go_wp2_with fail
  refine (szIntS w1' a2 c2 D.ep.length r1 HD.out.h2 p0 (by omega)).mono ?_
  rintro e w2 ⟨r2, rfl, hw, hf⟩
  subst hw
  have HF2 := hid hf
  have cb := HA.out.c 2 rfl
  clear hf ca
  by_cases hn2 : r2 < 0
  · go_wp2
    go_ret
    exact ⟨_, rfl, HB.out, Or.inl (by decide)⟩
  obtain ⟨q0, q1, q2⟩ : 0 ≤ r2 ∧ r2 ≤ r1 ∧ (D.ep.length : Int) ≤ r1 := by
    rcases HF2.out with h | h
    · omega
    · exact h
  go_wp2_with fail
  refine (szWriteS w2 a3 c3 D.pe r2 (HS3.out.below HB.out) HD.out.h3 HD.out.t3 q0 (by omega)).mono ?_
  rintro e w3 ⟨r3, rfl, hb3, hf⟩
  have HF3 := hid hf
  have HB3 := hid (HB.out.trans (hb3.mono HB.out.size))
  clear hf hb3 cb
  by_cases hn3 : r3 < 0
  · go_wp2
    go_ret
    exact ⟨_, rfl, HB3.out, Or.inl (by decide)⟩
  obtain ⟨t0, t1, t2, t3⟩ : 0 ≤ r3 ∧ r3 ≤ r2 ∧ (D.pe.length : Int) ≤ r2 ∧ ∀ s ∈ D.pe, (s.text.size : Int) ≤ r2 := by
    rcases HF3.out with h | h
    · omega
    · exact h
  have HT3 := hid t3
  clear t3
  go_wp2
  go_ret
  exact ⟨_, rfl, HB3.out, Or.inr ⟨by omega, by omega, ⟨p2, by omega, by omega, HP3.out, fun x hx => by have := HT3.out x hx; omega⟩⟩⟩

end Go.Proofs.YtlhnkdogafnnpaaGreat.Mem

namespace Go.Proofs.YtlhnkdogafnnpaaGreat.Own
open Go.RowKit

theorem hid {p : Prop} (h : p) : Hid p := h

/-- An owned row is not a block below its base. -/
theorem own_ne {w : World} {base cb : Nat} {e : TypeId} {size : Nat} {v : Value} {n : Nat} {xs : List Value} (h : w.ownsRow base e size v n xs) (hcb : cb < base) : v.ownBlock = none ∨ v.ownBlock ≠ some cb :=
  Or.inr (fun e => by have := (h.lt cb e).1; omega)

/-- A conversion of an owned row of bytes to a text. -/
theorem conv_own {P : Program} {w : World} {base g n cap : Nat} {l : List Int} (t : TypeId) (ht : P.underlying t = some (.slice 5)) (h5 : P.underlying 5 = some (.int .u8)) (h9 : P.underlying 9 = some .string)
    (h : w.ownsRow base 5 1 (.slice (some ⟨g, 0, none⟩) n cap) n (l.map (.int .u8))) (hl : l.length = n) :
    (convert t 9 (.slice (some ⟨g, 0, none⟩) n cap)).run P w = .ok (.string (strOfNums l)) w :=
  run_convert_bytes_arg w t 5 ht h5 g 0 n cap l hl (fun i hi => by
    have hi' : i < l.length := by omega
    rw [Nat.zero_add, h.cellAt i (by omega)]
    simp [List.getD, hi']) 9 h9

/-- The same, whatever the value is. -/
theorem conv_any {P : Program} {w : World} {base n : Nat} {v : Value} {l : List Int} (t : TypeId) (ht : P.underlying t = some (.slice 5)) (h5 : P.underlying 5 = some (.int .u8)) (h9 : P.underlying 9 = some .string)
    (h : w.ownsRow base 5 1 v n (l.map (.int .u8))) (hl : l.length = n) :
    (convert t 9 v).run P w = .ok (.string (strOfNums l)) w := by
  rcases h.2 with ⟨rfl, rfl⟩ | ⟨g, cap, cur, rfl, _⟩
  · rw [run_convert_bytes_nil w t 5 ht h5 0 0 9 h9, List.eq_nil_of_length_eq_zero hl]
    rfl
  · exact conv_own t ht h5 h9 h hl

/-- 'append(s, y)' on an owned row of bytes: the row is one byte longer, and below base all is as it was. -/
theorem wpList_app1 {P : Program} (t : TypeId) (ht : P.underlying t = some (.slice 5)) (hinfo : (P.info? 5).map (fun i => (i.zero, i.size, i.bytes)) = some (some (.int .u8 0), 1, 1))
    {ops : Array Oper} {rest : List Oper} {o : Oper} {a : Act} {Q : Exit → Act → World → Prop} (wr : World) (y : Int) (hgd : o.guard = none) (s x : Operand)
    (ho : o.op = .call { callee := .builtin .append, args := #[s, x], argTypes := #[t, t] })
    (base : Nat) (v : Value) (n : Nat) (l : List Int) (hs : a.eval s = v) (hown : wr.ownsRow base 5 1 v n (l.map (.int .u8)))
    (hx : a.eval x = .slice (some ⟨wr.heap.size, 0, none⟩) 1 1) (hn : n + 1 ≤ 140737488355328) (hbase : base ≤ wr.heap.size)
    (h : ∀ v' w', w'.ownsRow base 5 1 v' (n + 1) ((l ++ [y]).map (.int .u8)) → Below base wr w' → wpList P ops Q rest (a.put o.dst v') w') :
    wpList P ops Q (o :: rest) a (wr.alloc (.cells #[.int .u8 y] 5)) := by
  obtain ⟨i5, j1, j2, j3, j4⟩ := info_parts hinfo
  refine wpList_append_own _ hgd s x t ho base 5 i5 (.int .u8 0) 1 1 ht j1 j2 j3 j4 rfl (by decide) v n _ hs (hown.alloc _) ⟨wr.heap.size, 0, none⟩ 1 1 [.int .u8 y] hx rfl ?_ ?_ ?_ ?_ ?_ ?_
  · intro j u hj
    match j, hj with
    | 0, hj => simp at hj; subst hj; simp [Addr.add]
  · intro u hu; simp at hu; subst hu; rfl
  · unfold maxLen; omega
  · omega
  · simp; omega
  · intro v' w' hown' hgr _
    refine h v' w' (by simpa using hown') ?_
    refine ((Below.refl base wr).alloc hbase _).grown hgr (by simp; omega) (fun k hk => ?_)
    exact (hown.lt k hk).1

/-- An append of bytes on an owned row, as one step of a region that draws its order. -/
theorem step_app {P : Program} (t : TypeId) (ht : P.underlying t = some (.slice 5)) (hinfo : (P.info? 5).map (fun i => (i.zero, i.size, i.bytes)) = some (some (.int .u8 0), 1, 1))
    {ops : Array Oper} {o : Oper} {a : Act} {w : World} {K : Act → World → Prop} {Q : Exit → Act → World → Prop} {E : Prop} (hgd : o.guard = none) (s x : Operand)
    (ho : o.op = .call { callee := .builtin .append, args := #[s, x], argTypes := #[t, t] })
    (base : Nat) (v : Value) (n : Nat) (l news : List Int) (ad : Addr) (m : Nat) (hs : a.eval s = v) (hx : a.eval x = .slice (some ad) m m) (hm : news.length = m) (hown : w.ownsRow base 5 1 v n (l.map (.int .u8)))
    (hc : ∀ j u, (news.map (Value.int .u8))[j]? = some u → w.cell? (ad.add j) = some u) (hn : n + m ≤ 140737488355328) (hbase : base ≤ w.heap.size)
    (hK : ∀ v' w', w'.ownsRow base 5 1 v' (n + m) ((l ++ news).map (.int .u8)) → Below base w w' → K (a.put o.dst v') w') :
    if Region.wanted o (yielded ops a.tmps) = true then Oper.wp P o a w K Q else E := by
  have hw : Region.wanted o (yielded ops a.tmps) = true := by simp [Region.wanted, hgd]
  rw [if_pos hw]
  obtain ⟨i5, j1, j2, j3, j4⟩ := info_parts hinfo
  obtain ⟨v', w', hrun, r1, r2, _⟩ := run_append_own (P := P) w base t o.type 5 i5 (.int .u8 0) 1 1 ht j1 j2 j3 j4 rfl (by decide) v n _ hown ad m m (news.map (Value.int .u8)) (by simp [hm]) hc
    (by intro u hu; obtain ⟨y, _, rfl⟩ := List.mem_map.1 hu; rfl) (by unfold maxLen; omega) (by omega) hbase
  unfold Oper.wp
  simp [execOp, ho, resolve, invoke, builtin, hs, hx, hrun, Result.andThen]
  refine hK v' w' (by simpa using r1) ((Below.refl base w).grown r2 hbase (fun k hk => (hown.lt k hk).1))

/-- The two cells of a new block of two bytes. -/
theorem two_cells (w : World) (a b : Int) : ∀ j u, ([a, b].map (Value.int .u8))[j]? = some u → (w.alloc (.cells #[.int .u8 a, .int .u8 b] 5)).cell? ((⟨w.heap.size, 0, none⟩ : Addr).add j) = some u := by
  intro j u hj
  match j, hj with
  | 0, hj => simp at hj; subst hj; simp [Addr.add]
  | 1, hj => simp at hj; subst hj; simp [Addr.add]

theorem eqS_yes {a b : ByteArray} (h : a = b) : (a.toList == b.toList) = true := by rw [h]; simp
theorem eqS_no {a b : ByteArray} (h : a ≠ b) : (a.toList == b.toList) = false := by
  rw [beq_eq_false_iff_ne]
  intro e
  rw [ByteArray.toList_eq, ByteArray.toList_eq] at e
  exact h (ByteArray.ext (Array.toList_inj.1 e))

theorem ret_str {a b : ByteArray} (h : a = b) : Ending.returned (.string a) = .returned (.string b) := by rw [h]

end Go.Proofs.YtlhnkdogafnnpaaGreat.Own

namespace Go.Proofs.YtlhnkdogafnnpaaGreat.Mem
open Go.RowKit Classical
set_option linter.unusedVariables false

theorem getD_ext {α : Type} {l m : List α} (d : α) (hl : l.length = m.length) (h : ∀ j, j < l.length → l.getD j d = m.getD j d) : l = m := by
  apply List.ext_getElem hl
  intro i h1 h2
  have := h i h1
  rwa [List.getD, List.getElem?_eq_getElem h1, List.getD, List.getElem?_eq_getElem h2] at this

set_option maxRecDepth 100000 in
set_option maxHeartbeats 1000000 in
theorem eqStringS (w : World) (a b : Option Addr) (ca cb : Nat) (l m : List ByteArray) (S : Strs w a l) (T : Strs w b m) (hl : l.length ≤ maxLen) (hm : m.length ≤ maxLen) :
    Calls Tryz.prog 39 #[.slice a l.length ca, .slice b m.length cb] w fun e w' => e = .returned (.bool (decide (l = m))) ∧ Below w.heap.size w w' := by
  unfold maxLen at hl hm
  have HS := hid S
  have HT := hid T
  clear S T
  by_cases hne : l.length = m.length
  · have Hne := hid hne
    rw [← hne]
    clear hne hm
    generalize hq : decide (l = m) = q
    have HQ := hid hq
    clear hq
    go_enter Tryz.func39, Tryz.ntmps39
    go_wp2
    go_loopw [5] (fun i wr => ∃ k : Nat, k ≤ l.length ∧ i = .int .i64 (k : Int) ∧ Hid (∀ j, j < k → l.getD j ByteArray.empty = m.getD j ByteArray.empty) ∧ Hid (Below w.heap.size w wr)) (fun i _ => l.length - (intOf i).toNat)
    case atStart => exact ⟨0, Nat.zero_le _, rfl, fun j hj => by omega, Below.refl _ _⟩
    case round =>
      obtain ⟨k, hk, rfl, HJ, HB⟩ := hrel
      by_cases hlt : k < l.length
      · obtain ⟨b1, o1, rfl, hc1⟩ := (HS.out.below HB.out) k hlt
        obtain ⟨b2, o2, rfl, hc2⟩ := (HT.out.below HB.out) k (Hne.out ▸ hlt)
        replace hc1 : wr.cell? ⟨b1, o1 + k, none⟩ = some (.string (l.getD k ByteArray.empty)) := hc1
        replace hc2 : wr.cell? ⟨b2, o2 + k, none⟩ = some (.string (m.getD k ByteArray.empty)) := hc2
        generalize hx : l.getD k ByteArray.empty = x at hc1
        generalize hy : m.getD k ByteArray.empty = y at hc2
        have HX := hid hx
        have HY := hid hy
        clear hx hy
        by_cases he : x = y
        · have he' := Own.eqS_yes he
          have HE := hid he
          clear he
          go_wp2
          go_quiet (fail)
          go_wp2
          exact ⟨⟨k + 1, by omega, by go_num, fun j hj => by
            by_cases h : j = k
            · subst h; rw [HX.out, HY.out]; exact HE.out
            · exact HJ.out j (by omega), below_drewN HB.out nq⟩, by simp [intOf]; omega⟩
        · have he' := Own.eqS_no he
          have HE := hid he
          clear he
          go_wp2
          go_quiet (fail)
          go_wp2
          go_ret
          refine ⟨?_, below_drewN HB.out nq⟩
          rw [← HQ.out, decide_eq_false (fun e => HE.out (by rw [← HX.out, ← HY.out, e]))]
          rfl
      · obtain rfl : k = l.length := by omega
        go_wp2
        go_ret
        refine ⟨?_, HB.out⟩
        rw [← HQ.out, decide_eq_true (getD_ext ByteArray.empty Hne.out HJ.out)]
        rfl
  · have hne' : ¬ (l.length : Int) = (m.length : Int) := by omega
    have HQ := hid (decide_eq_false (p := l = m) (fun e => hne (by rw [e])))
    rw [HQ.out]
    go_enter Tryz.func39, Tryz.ntmps39
    go_wp2
    go_ret
    exact ⟨rfl, Below.refl _ _⟩

set_option maxRecDepth 100000 in
set_option maxHeartbeats 1000000 in
theorem eqIntS (w : World) (a b : Option Addr) (ca cb : Nat) (l m : List Int) (S : Ints w a l) (T : Ints w b m) (hl : l.length ≤ maxLen) (hm : m.length ≤ maxLen) :
    Calls Tryz.prog 40 #[.slice a l.length ca, .slice b m.length cb] w fun e w' => e = .returned (.bool (decide (l = m))) ∧ Below w.heap.size w w' := by
  unfold maxLen at hl hm
  have HS := hid S
  have HT := hid T
  clear S T
  by_cases hne : l.length = m.length
  · have Hne := hid hne
    rw [← hne]
    clear hne hm
    generalize hq : decide (l = m) = q
    have HQ := hid hq
    clear hq
    go_enter Tryz.func40, Tryz.ntmps40
    go_wp2
    go_loopw [5] (fun i wr => ∃ k : Nat, k ≤ l.length ∧ i = .int .i64 (k : Int) ∧ Hid (∀ j, j < k → l.getD j 0 = m.getD j 0) ∧ Hid (Below w.heap.size w wr)) (fun i _ => l.length - (intOf i).toNat)
    case atStart => exact ⟨0, Nat.zero_le _, rfl, fun j hj => by omega, Below.refl _ _⟩
    case round =>
      obtain ⟨k, hk, rfl, HJ, HB⟩ := hrel
      by_cases hlt : k < l.length
      · obtain ⟨b1, o1, rfl, hc1⟩ := (HS.out.below HB.out) k hlt
        obtain ⟨b2, o2, rfl, hc2⟩ := (HT.out.below HB.out) k (Hne.out ▸ hlt)
        replace hc1 : wr.cell? ⟨b1, o1 + k, none⟩ = some (.int .i64 (l.getD k 0)) := hc1
        replace hc2 : wr.cell? ⟨b2, o2 + k, none⟩ = some (.int .i64 (m.getD k 0)) := hc2
        generalize hx : l.getD k 0 = x at hc1
        generalize hy : m.getD k 0 = y at hc2
        have HX := hid hx
        have HY := hid hy
        clear hx hy
        by_cases he : x = y
        · have HE := hid he
          go_wp2
          go_quiet (fail)
          go_wp2
          exact ⟨⟨k + 1, by omega, by go_num, fun j hj => by
            by_cases h : j = k
            · subst h; rw [HX.out, HY.out]; exact HE.out
            · exact HJ.out j (by omega), below_drewN HB.out nq⟩, by simp [intOf]; omega⟩
        · have HE := hid he
          go_wp2
          go_quiet (fail)
          go_wp2
          go_ret
          refine ⟨?_, below_drewN HB.out nq⟩
          rw [← HQ.out, decide_eq_false (fun e => HE.out (by rw [← HX.out, ← HY.out, e]))]
          rfl
      · obtain rfl : k = l.length := by omega
        go_wp2
        go_ret
        refine ⟨?_, HB.out⟩
        rw [← HQ.out, decide_eq_true (getD_ext 0 Hne.out HJ.out)]
        rfl
  · have hne' : ¬ (l.length : Int) = (m.length : Int) := by omega
    have HQ := hid (decide_eq_false (p := l = m) (fun e => hne (by rw [e])))
    rw [HQ.out]
    go_enter Tryz.func40, Tryz.ntmps40
    go_wp2
    go_ret
    exact ⟨rfl, Below.refl _ _⟩

set_option maxRecDepth 100000 in
set_option maxHeartbeats 1000000 in
theorem eqWrite (w : World) (x y : Wt) : Calls Tryz.prog 70 #[x.val, y.val] w fun e w' => e = .returned (.bool (decide (x = y))) ∧ Below w.heap.size w w' := by
  generalize hq : decide (x = y) = q
  have HQ := hid hq
  clear hq
  obtain ⟨xh, xe, xs, xt⟩ := x
  obtain ⟨yh, ye, ys, yt⟩ := y
  simp only [Wt.val]
  by_cases h1 : xh = yh
  · by_cases h2 : xe = ye
    · by_cases h3 : xs = ys
      · by_cases h4 : xt = yt
        · have h4' := Own.eqS_yes h4
          have HE := hid (HQ.out.symm.trans (decide_eq_true (by rw [h1, h2, h3, h4])))
          clear h4 HQ
          go_enter Tryz.func70, Tryz.ntmps70
          go_wp2
          go_ret
          exact ⟨by rw [HE.out]; rfl, by go_grown⟩
        · have h4' := Own.eqS_no h4
          have HE := hid (HQ.out.symm.trans (decide_eq_false (fun e => h4 (by injection e))))
          clear h4 HQ
          go_enter Tryz.func70, Tryz.ntmps70
          go_wp2
          go_ret
          exact ⟨by rw [HE.out]; rfl, by go_grown⟩
      · have HE := hid (HQ.out.symm.trans (decide_eq_false (fun e => h3 (by injection e))))
        clear HQ
        go_enter Tryz.func70, Tryz.ntmps70
        go_wp2
        go_ret
        exact ⟨by rw [HE.out]; rfl, by go_grown⟩
    · have HE := hid (HQ.out.symm.trans (decide_eq_false (fun e => h2 (by injection e))))
      clear HQ
      go_enter Tryz.func70, Tryz.ntmps70
      go_wp2
      go_ret
      exact ⟨by rw [HE.out]; rfl, by go_grown⟩
  · have HE := hid (HQ.out.symm.trans (decide_eq_false (fun e => h1 (by injection e))))
    clear HQ
    go_enter Tryz.func70, Tryz.ntmps70
    go_wp2
    go_ret
    exact ⟨by rw [HE.out]; rfl, by go_grown⟩

end Go.Proofs.YtlhnkdogafnnpaaGreat.Mem

namespace Go.Proofs.YtlhnkdogafnnpaaGreat.Mem
open Go.RowKit Classical
set_option linter.unusedVariables false

set_option maxRecDepth 100000 in
set_option maxHeartbeats 1000000 in
theorem eqWriteS (w : World) (a b : Option Addr) (ca cb : Nat) (l m : List Wt) (S : Wts w a l) (T : Wts w b m) (hl : l.length ≤ maxLen) (hm : m.length ≤ maxLen) :
    Calls Tryz.prog 41 #[.slice a l.length ca, .slice b m.length cb] w fun e w' => e = .returned (.bool (decide (l = m))) ∧ Below w.heap.size w w' := by
  unfold maxLen at hl hm
  have HS := hid S
  have HT := hid T
  clear S T
  by_cases hne : l.length = m.length
  · have Hne := hid hne
    rw [← hne]
    clear hne hm
    generalize hq : decide (l = m) = q
    have HQ := hid hq
    clear hq
    go_enter Tryz.func41, Tryz.ntmps41
    go_wp2
    go_loopw [5] (fun i wr => ∃ k : Nat, k ≤ l.length ∧ i = .int .i64 (k : Int) ∧ Hid (∀ j, j < k → l.getD j Wt.none = m.getD j Wt.none) ∧ Hid (Below w.heap.size w wr)) (fun i _ => l.length - (intOf i).toNat)
    case atStart => exact ⟨0, Nat.zero_le _, rfl, fun j hj => by omega, Below.refl _ _⟩
    case round =>
      obtain ⟨k, hk, rfl, HJ, HB⟩ := hrel
      by_cases hlt : k < l.length
      · obtain ⟨b1, o1, rfl, c0, c1, c2, c3⟩ := Wts.at_ (HS.out.below HB.out) k hlt
        obtain ⟨b2, o2, rfl, d0, d1, d2, d3⟩ := Wts.at_ (HT.out.below HB.out) k (Hne.out ▸ hlt)
        generalize hx : l.getD k Wt.none = x at c0 c1 c2 c3
        generalize hy : m.getD k Wt.none = y at d0 d1 d2 d3
        have HX := hid hx
        have HY := hid hy
        clear hx hy
        by_cases he : x = y
        · have he' := decide_eq_true he
          have HE := hid he
          clear he
          go_wp2
          go_region_with (go_at_call 70; refine (eqWrite _ x y).mono ?_; rintro e w1 ⟨rfl, hb1⟩)
          all_goals (have HB1 := hid (HB.out.drew.trans (hb1.mono HB.out.size)); clear hb1 c0 c1 c2 c3 d0 d1 d2 d3; go_wp2)
          all_goals exact ⟨⟨k + 1, by omega, by go_num, fun j hj => by
            by_cases h : j = k
            · subst h; rw [HX.out, HY.out]; exact HE.out
            · exact HJ.out j (by omega), HB1⟩, by simp [intOf]; omega⟩
        · have he' := decide_eq_false he
          have HE := hid he
          clear he
          go_wp2
          go_region_with (go_at_call 70; refine (eqWrite _ x y).mono ?_; rintro e w1 ⟨rfl, hb1⟩)
          all_goals (have HB1 := hid (HB.out.drew.trans (hb1.mono HB.out.size)); clear hb1 c0 c1 c2 c3 d0 d1 d2 d3; go_wp2)
          all_goals go_ret
          all_goals (refine ⟨?_, HB1.out⟩; rw [← HQ.out, decide_eq_false (fun e => HE.out (by rw [← HX.out, ← HY.out, e]))]; rfl)
      · obtain rfl : k = l.length := by omega
        go_wp2
        go_ret
        refine ⟨?_, HB.out⟩
        rw [← HQ.out, decide_eq_true (getD_ext Wt.none Hne.out HJ.out)]
        rfl
  · have hne' : ¬ (l.length : Int) = (m.length : Int) := by omega
    have HQ := hid (decide_eq_false (p := l = m) (fun e => hne (by rw [e])))
    rw [HQ.out]
    go_enter Tryz.func41, Tryz.ntmps41
    go_wp2
    go_ret
    exact ⟨rfl, Below.refl _ _⟩

set_option maxRecDepth 100000 in
set_option maxHeartbeats 1000000 in
theorem eqDisk (w : World) (v u : Value) (D E : Dk) (h : DkR w v D) (k : DkR w u E) (hd : D.Held) (he : E.Held) :
    Calls Tryz.prog 11 #[v, u] w fun e w' => e = .returned (.bool (decide (D = E))) ∧ Below w.heap.size w w' := by
  obtain ⟨a1, c1, a2, c2, a3, c3, rfl, s1, s2, s3⟩ := h
  obtain ⟨b1, d1, b2, d2, b3, d3, rfl, t1, t2, t3⟩ := k
  obtain ⟨l1, l2, l3⟩ := D
  obtain ⟨m1, m2, m3⟩ := E
  generalize hq : decide (Dk.mk l1 l2 l3 = Dk.mk m1 m2 m3) = q
  have HQ := hid hq
  have HS1 := hid s1
  have HS2 := hid s2
  have HS3 := hid s3
  have HT1 := hid t1
  have HT2 := hid t2
  have HT3 := hid t3
  have HD := hid hd
  have HE := hid he
  clear s1 s2 s3 t1 t2 t3 hd he hq
  simp only []
  go_enter Tryz.func11, Tryz.ntmps11
  go_wp2_with fail
  obtain ⟨wc, hwc, _, A0, R0, B0⟩ := two_new w [.slice a1 l1.length c1, .slice a2 l2.length c2, .slice a3 l3.length c3] [.slice b1 m1.length d1, .slice b2 m2.length d2, .slice b3 m3.length d3] 44 44
  simp only [hwc]
  clear hwc
  refine (eqStringS wc a1 b1 c1 d1 l1 m1 (HS1.out.below B0) (HT1.out.below B0) HD.out.h1 HE.out.h1).mono ?_
  rintro e w1 ⟨rfl, hb1⟩
  replace A0 := A0.below hb1 A0.lt
  replace R0 := R0.below hb1 R0.lt
  replace B0 := B0.trans (hb1.mono B0.size)
  by_cases h1 : ¬ l1 = m1
  · have h1' := decide_eq_false h1
    have HX := hid (HQ.out.symm.trans (decide_eq_false (fun e => h1 (by injection e))))
    have HB := hid B0
    clear h1 A0 R0 B0 hb1 HQ
    go_wp2
    go_ret
    exact ⟨by rw [HX.out]; rfl, HB.out⟩
  replace h1 := Classical.not_not.mp h1
  have h1' := decide_eq_true h1
  have H1 := hid h1
  have ca := A0.c 1 rfl
  have cb := R0.c 1 rfl
  have HA := hid A0
  have HR := hid R0
  have HB := hid B0
  clear h1 A0 R0 B0 hb1
  go_wp2_with fail
  refine (eqIntS w1 a2 b2 c2 d2 l2 m2 (HS2.out.below HB.out) (HT2.out.below HB.out) HD.out.h2 HE.out.h2).mono ?_
  rintro e w2 ⟨rfl, hb2⟩
  have A0 := HA.out.below hb2 HA.out.lt
  have R0 := HR.out.below hb2 HR.out.lt
  have B0 := HB.out.trans (hb2.mono HB.out.size)
  clear HA HR HB ca cb
  by_cases h2 : ¬ l2 = m2
  · have h2' := decide_eq_false h2
    have HX := hid (HQ.out.symm.trans (decide_eq_false (fun e => h2 (by injection e))))
    have HB := hid B0
    clear h2 A0 R0 B0 hb2 HQ
    go_wp2
    go_ret
    exact ⟨by rw [HX.out]; rfl, HB.out⟩
  replace h2 := Classical.not_not.mp h2
  have h2' := decide_eq_true h2
  have H2 := hid h2
  have ca := A0.c 2 rfl
  have cb := R0.c 2 rfl
  have HB := hid B0
  clear h2 A0 R0 B0 hb2
  go_wp2_with fail
  refine (eqWriteS w2 a3 b3 c3 d3 l3 m3 (HS3.out.below HB.out) (HT3.out.below HB.out) HD.out.h3 HE.out.h3).mono ?_
  rintro e w3 ⟨rfl, hb3⟩
  have HB3 := hid (HB.out.trans (hb3.mono HB.out.size))
  clear HB ca cb hb3
  by_cases h3 : l3 = m3
  · have h3' := decide_eq_true h3
    have HX := hid (HQ.out.symm.trans (decide_eq_true (by rw [H1.out, H2.out, h3])))
    clear h3 HQ
    go_wp2
    go_ret
    exact ⟨by rw [HX.out]; rfl, HB3.out⟩
  · have h3' := decide_eq_false h3
    have HX := hid (HQ.out.symm.trans (decide_eq_false (fun e => h3 (by injection e))))
    clear h3 HQ
    go_wp2
    go_ret
    exact ⟨by rw [HX.out]; rfl, HB3.out⟩

end Go.Proofs.YtlhnkdogafnnpaaGreat.Mem

namespace Go.Proofs.YtlhnkdogafnnpaaGreat.Mem
open Go.RowKit
set_option linter.unusedVariables false

/-- A write is one of the disk's. -/
def Wt.okIn (D : Dk) (x : Wt) : Prop := (0 ≤ x.host ∧ x.host < 3) ∧ x.epoch = D.ep.getD x.host.toNat 0 ∧ 0 ≤ x.sector ∧ x.sector < (D.sec.length : Int) ∧ (x.text.size : Int) ≤ 700

/-- A disk is right. -/
structure Dk.Right (D : Dk) : Prop where
  n1 : 1 ≤ D.sec.length
  n2 : D.sec.length ≤ 40
  e3 : D.ep.length = 3
  p40 : D.pe.length ≤ 40
  s : ∀ j, j < D.sec.length → ((D.sec.getD j ByteArray.empty).size : Int) ≤ 700
  e : ∀ j, j < D.ep.length → 1 ≤ D.ep.getD j 0 ∧ D.ep.getD j 0 ≤ 100000
  p : ∀ j, j < D.pe.length → (D.pe.getD j Wt.none).okIn D

def Dk.right (D : Dk) : Bool := decide (1 ≤ D.sec.length ∧ D.sec.length ≤ 40 ∧ D.ep.length = 3 ∧ D.pe.length ≤ 40 ∧ (∀ j, j < D.sec.length → ((D.sec.getD j ByteArray.empty).size : Int) ≤ 700) ∧ (∀ j, j < D.ep.length → 1 ≤ D.ep.getD j 0 ∧ D.ep.getD j 0 ≤ 100000) ∧
  ∀ j, j < D.pe.length → (0 ≤ (D.pe.getD j Wt.none).host ∧ (D.pe.getD j Wt.none).host < 3) ∧ (D.pe.getD j Wt.none).epoch = D.ep.getD (D.pe.getD j Wt.none).host.toNat 0 ∧ 0 ≤ (D.pe.getD j Wt.none).sector ∧ (D.pe.getD j Wt.none).sector < (D.sec.length : Int) ∧ ((D.pe.getD j Wt.none).text.size : Int) ≤ 700)
theorem Dk.right_yes {D : Dk} (h : D.Right) : D.right = true := decide_eq_true ⟨h.n1, h.n2, h.e3, h.p40, h.s, h.e, h.p⟩
theorem Dk.right_no {D : Dk} (h : ¬ D.Right) : D.right = false := decide_eq_false (fun ⟨a, b, c, d, e, f, g⟩ => h ⟨a, b, c, d, e, f, g⟩)

set_option maxHeartbeats 400000 in
theorem l1In (x lo hi : Int) (w : World) :
    Calls Tryz.prog 54 #[.int .i64 x, .int .i64 lo, .int .i64 hi] w fun e w' => e = .returned (.bool (decide (lo ≤ x ∧ x ≤ hi))) ∧ w' = w := by
  by_cases h1 : lo ≤ x
  · by_cases h2 : x ≤ hi
    · rw [decide_eq_true (And.intro h1 h2)]
      go_enter Tryz.func54, Tryz.ntmps54
      go_wp2
      go_ret
      exact ⟨rfl, rfl⟩
    · rw [decide_eq_false (fun h => h2 h.2)]
      go_enter Tryz.func54, Tryz.ntmps54
      go_wp2
      go_ret
      exact ⟨rfl, rfl⟩
  · rw [decide_eq_false (fun h => h1 h.1)]
    go_enter Tryz.func54, Tryz.ntmps54
    go_wp2
    go_ret
    exact ⟨rfl, rfl⟩

set_option maxHeartbeats 400000 in
theorem l3Host (x : Int) (w : World) :
    Calls Tryz.prog 52 #[.int .i64 x] w fun e w' => e = .returned (.bool (decide (0 ≤ x ∧ x < 3))) ∧ w' = w := by
  by_cases h1 : 0 ≤ x
  · by_cases h2 : x < 3
    · rw [decide_eq_true (And.intro h1 h2)]
      go_enter Tryz.func52, Tryz.ntmps52
      go_wp2
      go_ret
      exact ⟨rfl, rfl⟩
    · rw [decide_eq_false (fun h => h2 h.2)]
      go_enter Tryz.func52, Tryz.ntmps52
      go_wp2
      go_ret
      exact ⟨rfl, rfl⟩
  · rw [decide_eq_false (fun h => h1 h.1)]
    go_enter Tryz.func52, Tryz.ntmps52
    go_wp2
    go_ret
    exact ⟨rfl, rfl⟩

set_option maxRecDepth 100000 in
set_option maxHeartbeats 2000000 in
theorem diskOk (w : World) (v : Value) (D : Dk) (h : DkR w v D) (hd : D.Held) :
    Calls Tryz.prog 22 #[v] w fun e w' => e = .returned (.bool D.right) ∧ Below w.heap.size w w' := by
  obtain ⟨a1, c1, a2, c2, a3, c3, rfl, s1, s2, s3⟩ := h
  obtain ⟨l1, l2, l3⟩ := D
  have HS1 := hid s1
  have HS2 := hid s2
  have HS3 := hid s3
  have d1 : l1.length ≤ 9223372036854775807 := hd.h1
  have d2 : l2.length ≤ 9223372036854775807 := hd.h2
  have d3 : l3.length ≤ 9223372036854775807 := hd.h3
  have HD := hid hd
  clear s1 s2 s3 hd
  simp only []
  have no : ¬ (Dk.mk l1 l2 l3).Right → (Dk.mk l1 l2 l3).right = false := Dk.right_no
  have yes : (Dk.mk l1 l2 l3).Right → (Dk.mk l1 l2 l3).right = true := Dk.right_yes
  generalize (Dk.mk l1 l2 l3).right = q at *
  have HN := hid no
  have HY := hid yes
  clear no yes
  go_enter Tryz.func22, Tryz.ntmps22
  go_wp2_with fail
  obtain ⟨wb, hwb, ez, A0, B0⟩ := one_new w [.slice a1 l1.length c1, .slice a2 l2.length c2, .slice a3 l3.length c3] 44
  simp only [hwb]
  clear hwb
  refine (l1In l1.length 1 40 wb).mono ?_
  rintro e w1 ⟨rfl, hw⟩
  subst hw
  have HB := hid B0
  have HA := hid A0
  have k1 := A0.c 1 rfl
  have k2 := A0.c 2 rfl
  have k0 := A0.c 0 rfl
  clear A0 B0
  by_cases g1 : ¬ (1 ≤ (l1.length : Int) ∧ (l1.length : Int) ≤ 40)
  · have g1' := decide_eq_false g1
    have HN := hid (HN.out (by intro x; have := x.n1; have := x.n2; simp only [] at *; omega))
    clear g1
    go_wp2
    go_ret
    exact ⟨by rw [HN.out]; rfl, HB.out⟩
  replace g1 := Classical.not_not.mp g1
  have g1' := decide_eq_true g1
  obtain ⟨g1a, g1b⟩ := g1
  by_cases g2 : ¬ (l2.length : Int) = 3
  · have HN := hid (HN.out (by intro x; have := x.e3; simp only [] at *; omega))
    go_wp2
    go_ret
    exact ⟨by rw [HN.out]; rfl, HB.out⟩
  replace g2 := Classical.not_not.mp g2
  by_cases g3 : 40 < (l3.length : Int)
  · have HN := hid (HN.out (by intro x; have := x.p40; simp only [] at *; omega))
    go_wp2
    go_ret
    exact ⟨by rw [HN.out]; rfl, HB.out⟩
  go_wp2
  go_loop [3] (fun i => ∃ k : Nat, k ≤ l1.length ∧ i = .int .i64 (k : Int) ∧ Hid (∀ j, j < k → ((l1.getD j ByteArray.empty).size : Int) ≤ 700)) (fun i => l1.length - (intOf i).toNat)
  case atStart => exact ⟨0, Nat.zero_le _, rfl, fun j hj => by omega⟩
  case round =>
    obtain ⟨k, hk, rfl, HJ⟩ := hrel
    by_cases hlt : k < l1.length
    · obtain ⟨b, off, rfl, hc⟩ := (HS1.out.below HB.out) k hlt
      replace hc : w1.cell? ⟨b, off + k, none⟩ = some (.string (l1.getD k ByteArray.empty)) := hc
      generalize hx : l1.getD k ByteArray.empty = x at hc
      have HX := hid hx
      clear hx
      by_cases hn : 700 < (x.size : Int)
      · have HN := hid (HN.out (by intro q; have := q.s k hlt; simp only [HX.out] at this; omega))
        go_wp2
        go_ret
        exact ⟨by rw [HN.out]; rfl, HB.out⟩
      · go_wp2
        go_round
        case rel => exact ⟨k + 1, by omega, by go_num, fun j hj => by
          by_cases h : j = k
          · subst h; rw [HX.out]; omega
          · exact HJ.out j (by omega)⟩
        case measure => simp [intOf]; omega
    obtain rfl : k = l1.length := by omega
    go_wp2
    go_loop [4] (fun i => ∃ k : Nat, k ≤ l2.length ∧ i = .int .i64 (k : Int) ∧ Hid (∀ j, j < k → 1 ≤ l2.getD j 0 ∧ l2.getD j 0 ≤ 100000)) (fun i => l2.length - (intOf i).toNat)
    case atStart => exact ⟨0, Nat.zero_le _, rfl, fun j hj => by omega⟩
    case round =>
      obtain ⟨k, hk, rfl, HE⟩ := hrel
      by_cases hlt : k < l2.length
      · obtain ⟨b, off, rfl, hc⟩ := (HS2.out.below HB.out) k hlt
        replace hc : w1.cell? ⟨b, off + k, none⟩ = some (.int .i64 (l2.getD k 0)) := hc
        generalize hx : l2.getD k 0 = x at hc
        have HX := hid hx
        clear hx
        go_wp2_with fail
        refine (l1In x 1 100000 w1).mono ?_
        rintro e w1' ⟨rfl, hw⟩
        subst hw
        by_cases hn : 1 ≤ x ∧ x ≤ 100000
        · have hn' := decide_eq_true hn
          have HX2 := hid hn
          clear hn
          go_wp2
          exact ⟨⟨k + 1, by omega, by go_num, fun j hj => by
            by_cases h : j = k
            · subst h; rw [HX.out]; exact HX2.out
            · exact HE.out j (by omega)⟩, by simp [intOf]; omega⟩
        · have hn' := decide_eq_false hn
          have HN := hid (HN.out (by intro q; have := q.e k hlt; simp only [HX.out] at this; exact hn this))
          clear hn
          go_wp2
          go_ret
          exact ⟨by rw [HN.out]; rfl, HB.out⟩
      obtain rfl : k = l2.length := by omega
      go_wp2
      go_loopw [5] (fun i wr => ∃ k : Nat, k ≤ l3.length ∧ i = .int .i64 (k : Int) ∧ Hid (∀ j, j < k → (l3.getD j Wt.none).okIn (Dk.mk l1 l2 l3)) ∧ Hid (Below w1.heap.size w1 wr)) (fun i _ => l3.length - (intOf i).toNat)
      case atStart => exact ⟨0, Nat.zero_le _, rfl, fun j hj => by omega, Below.refl _ _⟩
      case round =>
        obtain ⟨k, hk, rfl, HP, HB'⟩ := hrel
        have A0 := HA.out.below HB'.out HA.out.lt
        have HBw := hid (HB.out.trans (HB'.out.mono HB.out.size))
        have m0 := A0.c 0 rfl
        have m1 := A0.c 1 rfl
        have m2 := A0.c 2 rfl
        by_cases hlt : k < l3.length
        · obtain ⟨b, off, rfl, x0, x1, x2, x3⟩ := Wts.at_ (HS3.out.below HBw.out) k hlt
          generalize hx : l3.getD k Wt.none = x at x0 x1 x2 x3
          have HX := hid hx
          clear hx
          have HA' := hid A0
          clear A0
          obtain ⟨xh, xe, xs, xt⟩ := x
          simp only [] at x0 x1 x2 x3
          go_wp2
          obtain ⟨wa, hwa, ea, R0, B0⟩ := one_new wr [.int .i64 xh, .int .i64 xe, .int .i64 xs, .string xt] 87
          simp only [hwa]
          clear hwa
          have HB1 := hid (HB'.out.trans (B0.mono HB'.out.size))
          have HBw1 := hid (HB.out.trans (HB1.out.mono HB.out.size))
          replace m0 := (HA'.out.below B0 HA'.out.lt).c 0 rfl
          replace m1 := (HA'.out.below B0 HA'.out.lt).c 1 rfl
          have y0 := R0.c 0 rfl
          have y1 := R0.c 1 rfl
          have y2 := R0.c 2 rfl
          have y3 := R0.c 3 rfl
          clear m2 x0 x1 x2 x3 k0 k1 k2 B0 R0 ea
          by_cases q1 : ¬ (0 ≤ xh ∧ xh < 3)
          · have q1' := decide_eq_false q1
            have HN := hid (HN.out (by intro q; have := (q.p k hlt).1; simp only [HX.out] at this; exact q1 this))
            clear q1
            go_quiet ((go_at_call 52; refine Calls.quiet_of_same (l3Host _ _)))
            go_wp2
            go_ret
            exact ⟨by rw [HN.out]; rfl, below_drewN HBw1.out _⟩
          replace q1 := Classical.not_not.mp q1
          have q1' := decide_eq_true q1
          have HQ1 := hid q1
          obtain ⟨n, rfl⟩ : ∃ n : Nat, xh = (n : Int) := Int.eq_ofNat_of_zero_le q1.1
          have hn3 : (n : Int) < 3 := q1.2
          clear q1
          obtain ⟨b2, o2, rfl, hc⟩ := (HS2.out.below HBw1.out) n (by omega)
          replace hc : wa.cell? ⟨b2, o2 + n, none⟩ = some (.int .i64 (l2.getD n 0)) := hc
          generalize hy : l2.getD n 0 = y at hc
          have HYE := hid hy
          clear hy
          by_cases q2 : ¬ xe = y
          · have q2' := decide_eq_false q2
            have HN := hid (HN.out (by intro q; have := (q.p k hlt).2.1; simp only [HX.out, Int.toNat_natCast, HYE.out] at this; exact q2 this))
            go_quiet ((go_at_call 52; refine Calls.quiet_of_same (l3Host _ _)))
            go_wp2
            go_ret
            exact ⟨by rw [HN.out]; rfl, below_drewN HBw1.out _⟩
          obtain rfl := Classical.not_not.mp q2
          clear q2
          by_cases q3 : xs < 0
          · have q3' := decide_eq_true q3
            have HN := hid (HN.out (by intro q; have := (q.p k hlt).2.2.1; simp only [HX.out] at this; omega))
            go_quiet ((go_at_call 52; refine Calls.quiet_of_same (l3Host _ _)))
            go_wp2
            go_ret
            exact ⟨by rw [HN.out]; rfl, below_drewN HBw1.out _⟩
          have q3' := decide_eq_false q3
          by_cases q4 : (l1.length : Int) ≤ xs
          · have q4' := decide_eq_true q4
            have HN := hid (HN.out (by intro q; have := (q.p k hlt).2.2.2.1; simp only [HX.out] at this; omega))
            go_quiet ((go_at_call 52; refine Calls.quiet_of_same (l3Host _ _)))
            go_wp2
            go_ret
            exact ⟨by rw [HN.out]; rfl, below_drewN HBw1.out _⟩
          have q4' := decide_eq_false q4
          by_cases q5 : 700 < (xt.size : Int)
          · have q5' := decide_eq_true q5
            have HN := hid (HN.out (by intro q; have := (q.p k hlt).2.2.2.2; simp only [HX.out] at this; omega))
            go_quiet ((go_at_call 52; refine Calls.quiet_of_same (l3Host _ _)))
            go_wp2
            go_ret
            exact ⟨by rw [HN.out]; rfl, below_drewN HBw1.out _⟩
          have q5' := decide_eq_false q5
          go_quiet ((go_at_call 52; refine Calls.quiet_of_same (l3Host _ _)))
          go_wp2
          exact ⟨⟨k + 1, by omega, by go_num, fun j hj => by
            by_cases h : j = k
            · subst h
              rw [HX.out]
              exact ⟨HQ1.out, by simpa using HYE.out.symm, by show 0 ≤ xs; omega, by show xs < (l1.length : Int); omega, by show (xt.size : Int) ≤ 700; omega⟩
            · exact HP.out j (by omega), below_drewN HB1.out _⟩, by simp [intOf]; omega⟩
        obtain rfl : k = l3.length := by omega
        have HY := hid (HY.out ⟨by show 1 ≤ l1.length; omega, by show l1.length ≤ 40; omega, by show l2.length = 3; omega, by show l3.length ≤ 40; omega, HJ.out, HE.out, HP.out⟩)
        go_wp2
        go_ret
        exact ⟨by rw [HY.out]; rfl, HBw.out⟩

end Go.Proofs.YtlhnkdogafnnpaaGreat.Mem

namespace Go.Proofs.YtlhnkdogafnnpaaGreat.Mem
open Go.RowKit Classical
set_option linter.unusedVariables false

/-- There is such a host and such a sector. -/
def Dk.There (D : Dk) (h s : Int) : Prop := (0 ≤ h ∧ h < 3) ∧ 0 ≤ s ∧ s < (D.sec.length : Int)

/-- What a host sees of a sector behind the first k writes under way. -/
def Dk.see (D : Dk) (h s : Int) : Nat → ByteArray
  | 0 => D.sec.getD s.toNat ByteArray.empty
  | k + 1 => if (D.pe.getD k Wt.none).host = h ∧ (D.pe.getD k Wt.none).sector = s then (D.pe.getD k Wt.none).text else D.see h s k

/-- What Peek answers. -/
def Dk.peek (D : Dk) (h s : Int) : ByteArray × Bool := if D.right = true ∧ (0 ≤ h ∧ h < 3) ∧ 0 ≤ s ∧ s < (D.sec.length : Int) then (D.see h s D.pe.length, true) else (ByteArray.empty, false)

end Go.Proofs.YtlhnkdogafnnpaaGreat.Mem

namespace Go.Proofs.YtlhnkdogafnnpaaGreat.Mem
open Go.RowKit Classical
set_option linter.unusedVariables false

/-- The blocks of a disk's rows that have room. -/
def DkB (v : Value) (b : Nat) : Prop := ∃ v1 v2 v3, v = .agg #[v1, v2, v3] ∧ (rb v1 = some b ∨ rb v2 = some b ∨ rb v3 = some b)

theorem DkO.lt {w : World} {B : Nat} {v : Value} {D : Dk} (h : DkO w B v D) {b : Nat} (hb : DkB v b) : B ≤ b ∧ b < w.heap.size := by
  obtain ⟨v1, v2, v3, rfl, r1, r2, r3, _, _⟩ := h
  obtain ⟨_, _, _, e, hb⟩ := hb
  cases e
  rcases hb with hb | hb | hb
  · exact r1.lt hb
  · exact r2.lt hb
  · exact r3.lt hb

theorem DkO.kept {S : Nat → Prop} {w w' : World} {B : Nat} {v : Value} {D : Dk} (h : DkO w B v D) (k : Kept S w w') (hn : ∀ b, DkB v b → ¬ S b) : DkO w' B v D := by
  obtain ⟨v1, v2, v3, rfl, r1, r2, r3, f1, f2⟩ := h
  exact ⟨v1, v2, v3, rfl, r1.kept k (fun b hb => hn b ⟨_, _, _, rfl, Or.inl hb⟩), r2.kept k (fun b hb => hn b ⟨_, _, _, rfl, Or.inr (Or.inl hb)⟩), r3.kept k (fun b hb => hn b ⟨_, _, _, rfl, Or.inr (Or.inr hb)⟩), f1, f2⟩

theorem DkO.read {w : World} {B : Nat} {v : Value} {D : Dk} (h : DkO w B v D) : DkR w v D := h.w.read

/-- A struct out of its own block, and one temporary, handed back. -/
theorem results_row2 {P : Program} {fn : Func} {p u : Tmp} {ty : TypeId} (h : fn.results = #[.cell p ty, .tmp u]) (tmps : Array Value) (w : World) (g : Nat) (xs : List Value) (d : TypeDesc)
    (hp : tmps.getD p undef = .pointer (some ⟨g, 0, none⟩)) (hr : Row w g xs)
    (hu : P.underlying ty = some d) (hd : (match d with | .struct _ | .array _ _ => true | _ => false) = true) (hi : (P.info? ty).map (·.size) = some xs.length) :
    (results fn tmps).run P w = .ok (.tuple #[.agg xs.toArray, tmps.getD u undef]) w := by
  obtain ⟨t, hb⟩ := hr
  rw [results_cell_tmp h, hp]
  have hl := run_loadVar_row (P := P) w g t ty xs.toArray (0, 0) d hb hu hd (by simpa using hi)
  simp [asAddr, Result.andThen, hl]

/-- What Put makes of a right disk. -/
def Dk.put (D : Dk) (h e s : Int) (t : ByteArray) : Dk × Int :=
  if ((0 ≤ h ∧ h < 3) ∧ 0 ≤ s ∧ s < (D.sec.length : Int)) ∧ (t.size : Int) ≤ 700 then (if D.ep.getD h.toNat 0 = e then (if (D.pe.length : Int) < 40 then (⟨D.sec, D.ep, D.pe ++ [⟨h, e, s, t⟩]⟩, 0) else (D, 3)) else (D, 2)) else (D, 1)

/-- The sizes of a disk on which spec's own functions work. -/
structure Dk.Fit (D : Dk) : Prop where
  h1 : D.sec.length ≤ 524288
  h2 : D.ep.length = 3
  h3 : D.pe.length ≤ 524288

/-- The end of a function that hands its own disk back: the disk is laid into the result's block. -/
theorem put_end {w w2 : World} {B : Nat} {v1 v2 v3 : Value} {D : Dk} (hw : w.heap.size + 1 < w2.heap.size) (hb : Below B w w2) (hB : B ≤ w.heap.size) (O : DkO w2 B (.agg #[v1, v2, v3]) D) (hl : ∀ b, DkB (.agg #[v1, v2, v3]) b → b ≠ w.heap.size + 1) (R : Row w2 (w.heap.size + 1) [.slice none 0 0, .slice none 0 0, .slice none 0 0]) :
    DkO (((w2.setCell ⟨w.heap.size + 1, 0, none⟩ v1).setCell ⟨w.heap.size + 1, 1, none⟩ v2).setCell ⟨w.heap.size + 1, 2, none⟩ v3) B (.agg #[v1, v2, v3]) D ∧
    Below B w (((w2.setCell ⟨w.heap.size + 1, 0, none⟩ v1).setCell ⟨w.heap.size + 1, 1, none⟩ v2).setCell ⟨w.heap.size + 1, 2, none⟩ v3) ∧
    Row (((w2.setCell ⟨w.heap.size + 1, 0, none⟩ v1).setCell ⟨w.heap.size + 1, 1, none⟩ v2).setCell ⟨w.heap.size + 1, 2, none⟩ v3) (w.heap.size + 1) [v1, v2, v3] :=
  ⟨O.kept (kept3 w2 (w.heap.size + 1) v1 v2 v3) hl, below_set (below_set (below_set hb _ _ _ (by omega)) _ _ _ (by omega)) _ _ _ (by omega), ((R.set 0 v1).set 1 v2).set 2 v3⟩

theorem wCells_snoc (l : List Wt) (x : Wt) : wCells (l ++ [x]) = wCells l ++ x.cells := by
  unfold wCells
  rw [List.flatMap_append]
  simp

/-- A disk whose third list was appended to. -/
theorem DkO.more {w1 wa w2 : World} {B : Nat} {v1 v2 v3 v3' : Value} {D : Dk} {l : List Wt} (O : DkO w1 B (.agg #[v1, v2, v3]) D) (b' : Below w1.heap.size w1 wa) (k : Kept (fun b => rb v3 = some b) wa w2)
    (r : RowO w2 B 87 4 v3' l.length (wCells l)) (hi : rb v3' = none ∨ rb v3' = rb v3 ∨ (rb v3' = some wa.heap.size ∧ wa.heap.size < w2.heap.size)) : DkO w2 B (.agg #[v1, v2, v3']) ⟨D.sec, D.ep, l⟩ := by
  have hlt := fun b hb => O.lt (b := b) hb
  obtain ⟨_, _, _, e, r1, r2, r3, f1, f2⟩ := O
  cases e
  have far : ∀ b, (rb v1 = some b ∨ rb v2 = some b) → rb v3' ≠ some b := fun b hb hx => by
    have hb' : b < w1.heap.size := (hlt b ⟨_, _, _, rfl, by rcases hb with h | h; exact Or.inl h; exact Or.inr (Or.inl h)⟩).2
    rcases hi with h | h | h
    · rw [h] at hx; cases hx
    · rw [h] at hx
      rcases hb with hb | hb
      · exact (f1 b hb).2 hx
      · exact f2 b hb hx
    · rw [h.1] at hx
      cases hx
      have := b'.size
      omega
  refine ⟨v1, v2, v3', rfl, (r1.below b').kept k (fun b h1 h3 => (f1 b h1).2 h3), (r2.below b').kept k (fun b h2 h3 => f2 b h2 h3), r, fun b hb => ⟨(f1 b hb).1, far b (Or.inl hb)⟩, fun b hb => far b (Or.inr hb)⟩

theorem DkO.more1 {w1 wa w2 : World} {B : Nat} {v1 v2 v3 v3' : Value} {D : Dk} {x : Wt} (O : DkO w1 B (.agg #[v1, v2, v3]) D) (b : Below w1.heap.size w1 wa) (k : Kept (fun b => rb v3 = some b) wa w2)
    (r : RowO w2 B 87 4 v3' (D.pe.length + 1) (wCells D.pe ++ x.cells)) (hi : rb v3' = none ∨ rb v3' = rb v3 ∨ (rb v3' = some wa.heap.size ∧ wa.heap.size < w2.heap.size)) : DkO w2 B (.agg #[v1, v2, v3']) ⟨D.sec, D.ep, D.pe ++ [x]⟩ := by
  rw [← wCells_snoc] at r
  exact O.more b k (by rw [List.length_append]; exact r) hi

/-- Where the blocks of a disk lie whose third list was appended to. -/
theorem more_far {w wa w2 : World} {B n : Nat} {v1 v2 v3 v3' : Value} {D : Dk} (O : DkO w B (.agg #[v1, v2, v3]) D) (hn : w.heap.size ≤ n) (hw : n < wa.heap.size) (hi : rb v3' = none ∨ rb v3' = rb v3 ∨ (rb v3' = some wa.heap.size ∧ wa.heap.size < w2.heap.size)) :
    ∀ b, DkB (.agg #[v1, v2, v3']) b → b ≠ n := by
  rintro b ⟨_, _, _, e, hb⟩ rfl
  cases e
  rcases hb with hb | hb | hb
  · have := (O.lt ⟨_, _, _, rfl, Or.inl hb⟩).2; omega
  · have := (O.lt ⟨_, _, _, rfl, Or.inr (Or.inl hb)⟩).2; omega
  · rcases hi with h | h | h
    · rw [h] at hb; cases hb
    · rw [h] at hb
      have := (O.lt ⟨_, _, _, rfl, Or.inr (Or.inr hb)⟩).2; omega
    · rw [h.1] at hb; cases hb; omega

theorem sl_lit (w : World) (cs : List Value) (t : TypeId) (m : Nat) (h : cs.length = m) : Sl (w.alloc (.cells cs.toArray t)) (some ⟨w.heap.size, 0, none⟩) m (fun i => cs.getD i undef) :=
  (wr_new w cs.toArray t m _ (fun i hi => by
    have hi' : i < cs.length := by omega
    rw [List.getElem?_toArray, List.getElem?_eq_getElem hi', List.getD_eq_getElem?_getD, List.getElem?_eq_getElem hi']
    rfl)).sl

end Go.Proofs.YtlhnkdogafnnpaaGreat.Mem

namespace Go.Proofs.YtlhnkdogafnnpaaGreat.Mem
open Go.RowKit Classical
set_option linter.unusedVariables false

/-- A write of the host to the sector is under way. -/
def Dk.Under (D : Dk) (h s : Int) : Prop := ∃ j, j < D.pe.length ∧ (D.pe.getD j Wt.none).host = h ∧ (D.pe.getD j Wt.none).sector = s

/-- What Swap makes of a right disk. -/
def Dk.swap (D : Dk) (h e s : Int) (old t : ByteArray) : Dk × Int :=
  if ((0 ≤ h ∧ h < 3) ∧ 0 ≤ s ∧ s < (D.sec.length : Int)) ∧ (t.size : Int) ≤ 700 ∧ (old.size : Int) ≤ 700 then (if D.ep.getD h.toNat 0 = e then (if D.sec.getD s.toNat ByteArray.empty = old ∧ ¬ ∃ j, j < D.pe.length ∧ (D.pe.getD j Wt.none).host = h ∧ (D.pe.getD j Wt.none).sector = s then (⟨D.sec.set s.toNat t, D.ep, D.pe⟩, 0) else (D, 4)) else (D, 2)) else (D, 1)

/-- A cell of an owned row is stored. -/
theorem RowO.set {w : World} {B : Nat} {e : TypeId} {k : Nat} {g n cap : Nat} {xs : List Value} (h : RowO w B e k (.slice (some ⟨g, 0, none⟩) n cap) n xs) (i : Nat) (hi : i < n * k) (u : Value) :
    RowO (w.setCell ⟨g, i, none⟩ u) B e k (.slice (some ⟨g, 0, none⟩) n cap) n (xs.set i u) := by
  rcases h with ⟨_, _, rfl, _⟩ | ⟨h, hc⟩
  · omega
  · exact Or.inr ⟨(h.stored i u).1, hc⟩

theorem sCells_set (l : List ByteArray) (i : Nat) (t : ByteArray) : sCells (l.set i t) = (sCells l).set i (.string t) := by unfold sCells; rw [List.map_set]

/-- An owned row that isn't empty begins its block. -/
theorem RowO.form {w : World} {B : Nat} {e : TypeId} {k : Nat} {v : Value} {n : Nat} {xs : List Value} (h : RowO w B e k v n xs) (hn : 0 < n) : ∃ g c, v = .slice (some ⟨g, 0, none⟩) n (c + 1) := by
  rcases h with ⟨_, _, rfl, _⟩ | ⟨h, a, c, e⟩
  · omega
  · rcases h.2 with ⟨e', _⟩ | ⟨g, cap, cur, e', _⟩
    · rw [e] at e'; cases e'
    · rw [e] at e'
      cases e'
      exact ⟨g, c, e⟩

/-- A sector of a disk of the call's own is stored. -/
theorem DkO.setSec {w : World} {B : Nat} {v2 v3 : Value} {g n cap i : Nat} {D : Dk} (O : DkO w B (.agg #[.slice (some ⟨g, 0, none⟩) n (cap + 1), v2, v3]) D) (hi : i < D.sec.length) (t : ByteArray) :
    DkO (w.setCell ⟨g, i, none⟩ (.string t)) B (.agg #[.slice (some ⟨g, 0, none⟩) n (cap + 1), v2, v3]) ⟨D.sec.set i t, D.ep, D.pe⟩ := by
  obtain ⟨_, _, _, e, r1, r2, r3, f1, f2⟩ := O
  cases e
  have hn : n = D.sec.length := by
    obtain ⟨_, _, e, _⟩ := r1.wr
    cases e; rfl
  subst hn
  refine ⟨_, _, _, rfl, ?_, r2.kept (kept_set w g i _) (fun b hb e => ?_), r3.kept (kept_set w g i _) (fun b hb e => ?_), f1, f2⟩
  · have h := r1.set i (by omega) (.string t)
    rw [← sCells_set] at h
    show RowO _ _ _ _ _ (D.sec.set i t).length _
    rw [List.length_set]
    exact h
  · subst e; exact (f1 b rfl).1 hb
  · subst e; exact (f1 b rfl).2 hb

end Go.Proofs.YtlhnkdogafnnpaaGreat.Mem

namespace Go.Proofs.YtlhnkdogafnnpaaGreat.Mem
open Go.RowKit
set_option linter.unusedVariables false

/-- 'append' on an empty slice without room, at the list of a plain region's operations. -/
theorem wpList_app_empty {P : Program} (t e : TypeId) (z : Value) (k bytes : Nat) (ht : P.underlying t = some (.slice e)) (hinfo : (P.info? e).map (fun i => (i.zero, i.size, i.bytes)) = some (some z, k, bytes)) (hzs : z.cells.size = k) (hk : 0 < k) (hby : bytes ≤ 1048576)
    {ops : Array Oper} {rest : List Oper} {o : Oper} {a : Act} {Q : Exit → Act → World → Prop} (w : World) (hgd : o.guard = none) (s x : Operand)
    (ho : o.op = .call { callee := .builtin .append, args := #[s, x], argTypes := #[t, t] })
    (b : Option Addr) (hs : a.eval s = .slice b 0 0) (ad : Option Addr) (m c : Nat) (news : List Value) (hx : a.eval x = .slice ad m c) (hl : news.length = m * k) (hS : Sl w ad (m * k) (fun i => news.getD i undef)) (h1 : ∀ u ∈ news, u.oneCell' = true) (hm : m ≤ 1048576)
    (hK : ∀ v' w', RowO w' w.heap.size e k v' m news → Below w.heap.size w w' → wpList P ops Q rest (a.put o.dst v') w') :
    wpList P ops Q (o :: rest) a w := by
  refine wpList_plain hgd fun K hK' => ?_
  obtain ⟨v', w', hr, h2, h3, _, _⟩ := run_app_empty (P := P) w t o.type e z k bytes ht hinfo hzs hk b ad m c news hl hS h1 hm hby
  unfold Oper.wp execOp
  simp only [ho, resolve, invoke, builtin, Sem.run_bind, Sem.run_pure, Result.andThen_ok, List.map_toArray, List.map_cons, List.map_nil, hs, hx, hr]
  exact hK' _ _ (hK v' w' h2 h3)

theorem wcell_take (l : List Wt) (n i : Nat) (h : i < n * 4) : wcell (l.take n) i = wcell l i := by
  unfold wcell
  have : i / 4 < n := by omega
  simp [List.getD_eq_getElem?_getD, this]
theorem wcell_drop (l : List Wt) (n i : Nat) : wcell (l.drop n) i = wcell l (n * 4 + i) := by
  unfold wcell
  rw [show (n * 4 + i) / 4 = n + i / 4 by omega, show (n * 4 + i) % 4 = i % 4 by omega]
  simp [List.getD_eq_getElem?_getD, List.getElem?_drop]

theorem wts_take {w : World} {a : Option Addr} {l : List Wt} (h : Wts w a l) (n : Nat) (hn : n ≤ l.length) : Sl w a (n * 4) (fun i => (wCells (l.take n)).getD i undef) := fun i hi => by
  obtain ⟨b, off, e, hc⟩ := h i (by omega)
  refine ⟨b, off, e, ?_⟩
  show _ = some ((wCells (l.take n)).getD i undef)
  rw [wCells_at _ _ (by rw [List.length_take]; omega), wcell_take l n i hi]
  exact hc
theorem wts_drop {w : World} {b off : Nat} {l : List Wt} (h : Wts w (some ⟨b, off, none⟩) l) (n : Nat) (hn : n ≤ l.length) : Sl w (some ⟨b, off + n * 4, none⟩) ((l.length - n) * 4) (fun i => (wCells (l.drop n)).getD i undef) := fun i hi => by
  obtain ⟨b', off', e, hc⟩ := h (n * 4 + i) (by omega)
  cases e
  refine ⟨b, off + n * 4, rfl, ?_⟩
  show _ = some ((wCells (l.drop n)).getD i undef)
  rw [wCells_at _ _ (by rw [List.length_drop]; omega), wcell_drop l n i, Nat.add_assoc]
  exact hc

theorem wCells_append (l m : List Wt) : wCells (l ++ m) = wCells l ++ wCells m := by unfold wCells; rw [List.flatMap_append]

end Go.Proofs.YtlhnkdogafnnpaaGreat.Mem

namespace Go.Proofs.YtlhnkdogafnnpaaGreat.Mem
open Go.RowKit Classical
set_option linter.unusedVariables false

/-- Write i may land: it is there, and none of the same host to the same sector stands ahead of it. -/
def Dk.CanLand (D : Dk) (i : Int) : Prop := 0 ≤ i ∧ i < (D.pe.length : Int) ∧ ∀ j, j < i.toNat → ¬ ((D.pe.getD j Wt.none).host = (D.pe.getD i.toNat Wt.none).host ∧ (D.pe.getD j Wt.none).sector = (D.pe.getD i.toNat Wt.none).sector)

/-- What Land makes of a right disk. -/
def Dk.land (D : Dk) (i : Int) : Dk × Bool :=
  if 0 ≤ i ∧ i < (D.pe.length : Int) ∧ ∀ j, j < i.toNat → ¬ ((D.pe.getD j Wt.none).host = (D.pe.getD i.toNat Wt.none).host ∧ (D.pe.getD j Wt.none).sector = (D.pe.getD i.toNat Wt.none).sector) then (⟨D.sec.set (D.pe.getD i.toNat Wt.none).sector.toNat (D.pe.getD i.toNat Wt.none).text, D.ep, D.pe.eraseIdx i.toNat⟩, true) else (D, false)

/-- A disk whose third list is another row that was laid behind. -/
theorem DkO.swapped {w w2 : World} {B : Nat} {v1 v2 v3 v3' : Value} {D : Dk} {l : List Wt} (O : DkO w B (.agg #[v1, v2, v3]) D) (b : Below w.heap.size w w2) (hB : B ≤ w.heap.size) (r : RowO w2 w.heap.size 87 4 v3' l.length (wCells l)) : DkO w2 B (.agg #[v1, v2, v3']) ⟨D.sec, D.ep, l⟩ := by
  have hlt := fun b hb => O.lt (b := b) hb
  obtain ⟨_, _, _, e, r1, r2, r3, f1, f2⟩ := O
  cases e
  refine ⟨v1, v2, v3', rfl, r1.below b, r2.below b, r.mono hB, fun b h => ⟨(f1 b h).1, fun h3 => ?_⟩, fun b h h3 => ?_⟩
  · have := (hlt b ⟨_, _, _, rfl, Or.inl h⟩).2; have := (r.lt h3).1; omega
  · have := (hlt b ⟨_, _, _, rfl, Or.inr (Or.inl h)⟩).2; have := (r.lt h3).1; omega

theorem RowO.cap {w : World} {B : Nat} {e : TypeId} {k : Nat} {a : Option Addr} {n c : Nat} {xs : List Value} (h : RowO w B e k (.slice a n c) n xs) : n ≤ c ∧ c ≤ maxLen := by
  rcases h with ⟨_, e, rfl, _⟩ | ⟨h, _⟩
  · cases e; exact ⟨Nat.le_refl _, Nat.zero_le _⟩
  · rcases h.2 with ⟨e, _⟩ | ⟨g, cap, cur, e, _, _, h1, h2, _⟩
    · cases e; exact ⟨Nat.le_refl _, Nat.zero_le _⟩
    · cases e; exact ⟨h1, h2⟩

/-- Where the blocks of a disk lie whose third list was laid behind. -/
theorem swapped_far {w w2 : World} {B n z : Nat} {v1 v2 v3 v3' : Value} {D : Dk} {k : Nat} {e : TypeId} {m : Nat} {xs : List Value} (O : DkO w B (.agg #[v1, v2, v3]) D) (hn : w.heap.size ≤ n) (r : RowO w2 z e k v3' m xs) (hz : n < z) :
    ∀ b, DkB (.agg #[v1, v2, v3']) b → b ≠ n := by
  rintro b ⟨_, _, _, e, hb⟩ rfl
  cases e
  rcases hb with hb | hb | hb
  · have := (O.lt ⟨_, _, _, rfl, Or.inl hb⟩).2; omega
  · have := (O.lt ⟨_, _, _, rfl, Or.inr (Or.inl hb)⟩).2; omega
  · have := (r.lt hb).1; omega

end Go.Proofs.YtlhnkdogafnnpaaGreat.Mem

namespace Go.Proofs.YtlhnkdogafnnpaaGreat.Mem
open Go.RowKit
set_option linter.unusedVariables false

/-- The writes of other hosts. -/
def others (l : List Wt) (h : Int) : List Wt := l.filter (fun x => decide (x.host ≠ h))

theorem take_more (l : List Wt) (k : Nat) (h : k < l.length) : l.take (k + 1) = l.take k ++ [l.getD k Wt.none] := by
  rw [List.take_add_one, List.getElem?_eq_getElem h, List.getD_eq_getElem?_getD, List.getElem?_eq_getElem h]
  rfl
theorem others_no (l : List Wt) (h : Int) (k : Nat) (hk : k < l.length) (he : (l.getD k Wt.none).host = h) : others (l.take (k + 1)) h = others (l.take k) h := by
  unfold others
  rw [take_more l k hk, List.filter_append]
  generalize l.getD k Wt.none = y at he ⊢
  simp [he]
theorem others_yes (l : List Wt) (h : Int) (k : Nat) (hk : k < l.length) (he : ¬ (l.getD k Wt.none).host = h) : others (l.take (k + 1)) h = others (l.take k) h ++ [l.getD k Wt.none] := by
  unfold others
  rw [take_more l k hk, List.filter_append]
  generalize l.getD k Wt.none = y at he ⊢
  simp [he]
theorem others_le (l : List Wt) (h : Int) (k : Nat) : (others (l.take k) h).length ≤ l.length := by
  unfold others
  exact Nat.le_trans (List.length_filter_le _ _) (by rw [List.length_take]; omega)

/-- What Fence makes of a right disk. -/
def Dk.fence (D : Dk) (h : Int) : Dk × Bool :=
  if (0 ≤ h ∧ h < 3) ∧ D.ep.getD h.toNat 0 < 100000 then (⟨D.sec, D.ep.set h.toNat (D.ep.getD h.toNat 0 + 1), others D.pe h⟩, true) else (D, false)

theorem iCells_set (l : List Int) (i : Nat) (z : Int) : iCells (l.set i z) = (iCells l).set i (.int .i64 z) := by unfold iCells; rw [List.map_set]

/-- An epoch of a disk of the call's own is stored. -/
theorem DkO.setEp {w : World} {B : Nat} {v1 v3 : Value} {g n cap i : Nat} {D : Dk} (O : DkO w B (.agg #[v1, .slice (some ⟨g, 0, none⟩) n (cap + 1), v3]) D) (hi : i < D.ep.length) (z : Int) :
    DkO (w.setCell ⟨g, i, none⟩ (.int .i64 z)) B (.agg #[v1, .slice (some ⟨g, 0, none⟩) n (cap + 1), v3]) ⟨D.sec, D.ep.set i z, D.pe⟩ := by
  obtain ⟨_, _, _, e, r1, r2, r3, f1, f2⟩ := O
  cases e
  have hn : n = D.ep.length := by
    obtain ⟨_, _, e, _⟩ := r2.wr
    cases e; rfl
  subst hn
  refine ⟨_, _, _, rfl, r1.kept (kept_set w g i _) (fun b hb e => ?_), ?_, r3.kept (kept_set w g i _) (fun b hb e => ?_), f1, f2⟩
  · subst e; exact (f1 b hb).1 rfl
  · have h := r2.set i (by omega) (.int .i64 z)
    rw [← iCells_set] at h
    show RowO _ _ _ _ _ (D.ep.set i z).length _
    rw [List.length_set]
    exact h
  · subst e; exact f2 b rfl hb

set_option maxRecDepth 100000 in
set_option maxHeartbeats 2000000 in
theorem l3Fence (w : World) (B : Nat) (v : Value) (D : Dk) (x : Int) (O : DkO w B v D) (hB : B ≤ w.heap.size) (hf : D.Fit) (hd : D.Held) (he : ∀ j, j < D.ep.length → 1 ≤ D.ep.getD j 0) :
    Calls Tryz.prog 57 #[v, .int .i64 x] w fun e w' => ∃ v', e = .returned (.tuple #[v', .bool (D.fence x).2]) ∧ DkO w' B v' (D.fence x).1 ∧ Below B w w' := by
  have HO := hid O
  have HF := hid hf
  obtain ⟨v1, v2, v3, rfl, r1, r2, r3, _, _⟩ := O
  obtain ⟨a1, c1, e1, _⟩ := r1.wr
  obtain ⟨a2, c2, e2, i2⟩ := r2.wr
  obtain ⟨a3, c3, e3, _⟩ := r3.wr
  subst e1; subst e2; subst e3
  have d3 : D.pe.length ≤ 9223372036854775807 := hd.h3
  have HEp := hid he
  clear r1 r2 r3 hd hf i2 he
  have hp : D.fence x = if (0 ≤ x ∧ x < 3) ∧ D.ep.getD x.toNat 0 < 100000 then (⟨D.sec, D.ep.set x.toNat (D.ep.getD x.toNat 0 + 1), others D.pe x⟩, true) else (D, false) := rfl
  generalize D.fence x = P at *
  have HP := hid hp
  clear hp
  obtain ⟨P1, P2⟩ := P
  simp only []
  go_enter Tryz.func57, Tryz.ntmps57
  go_wp2_with fail
  obtain ⟨wb, hwb, ez, A0, R0, B0⟩ := two_new w [.slice a1 D.sec.length c1, .slice a2 D.ep.length c2, .slice a3 D.pe.length c3] [.slice none 0 0, .slice none 0 0, .slice none 0 0] 44 44
  simp only [hwb]
  have hz : w.heap.size + 1 < wb.heap.size := R0.lt
  clear hwb ez
  refine (l3Host x wb).mono ?_
  rintro e w1 ⟨rfl, hw⟩
  subst hw
  have HO1 := hid (HO.out.below B0)
  have k0 := A0.c 0 rfl
  have k1 := A0.c 1 rfl
  have k2 := A0.c 2 rfl
  have HA := hid A0
  have HR := hid R0
  have HB := hid B0
  have m0 := HR.out.c 0 rfl
  have m1 := HR.out.c 1 rfl
  have m2 := HR.out.c 2 rfl
  have f0 := HR.out.f 0
  have f1 := HR.out.f 1
  have f2 := HR.out.f 2
  have HL := hid (show ∀ b, DkB (.agg #[.slice a1 D.sec.length c1, .slice a2 D.ep.length c2, .slice a3 D.pe.length c3]) b → b ≠ w.heap.size + 1 from fun b hb => by have := (HO.out.lt hb).2; omega)
  have HE := hid (put_end hz (HB.out.mono hB) hB HO1.out HL.out HR.out)
  clear A0 R0 B0
  by_cases g1 : ¬ (0 ≤ x ∧ x < 3)
  · have g1' := decide_eq_false g1
    have HP1 := hid (HP.out.trans (if_neg (fun z => g1 z.1)))
    clear g1
    go_wp2
    refine bodyPost_ret (results_row2 rfl _ _ (w.heap.size + 1) [.slice a1 D.sec.length c1, .slice a2 D.ep.length c2, .slice a3 D.pe.length c3] _ rfl HE.out.2.2 Tryz.underlying44 rfl (by kernel_rfl)) rfl ?_
    cases HP1.out
    exact ⟨_, rfl, HE.out.1, HE.out.2.1⟩
  replace g1 := Classical.not_not.mp g1
  have g1' := decide_eq_true g1
  have HG1 := hid g1
  have hx3 := g1.2
  obtain ⟨n, rfl⟩ : ∃ n : Nat, x = (n : Int) := Int.eq_ofNat_of_zero_le g1.1
  have hnl : n < D.ep.length := by have := HF.out.h2; have := g1.2; omega
  clear g1
  obtain ⟨_, _, _, ev, _, r2, _⟩ := HO1.out
  cases ev
  obtain ⟨b2, c2', ef⟩ := r2.form (by omega)
  cases ef
  clear r2
  obtain ⟨_, _, _, _, _, _, ev, _, i2, _⟩ := HO1.out.w
  cases ev
  obtain ⟨_, _, ef, _, hc, hz2⟩ := i2 n hnl
  cases ef
  replace hc : w1.cell? ⟨b2, 0 + n, none⟩ = some (.int .i64 (D.ep.getD n 0)) := hc
  rw [Nat.zero_add] at hc hz2
  have hy1 := HEp.out n hnl
  generalize hy : D.ep.getD n 0 = y at hc hy1
  have HY := hid hy
  clear hy i2
  by_cases g2 : 100000 ≤ y
  · have HP1 := hid (HP.out.trans (if_neg (fun z => by have := z.2; rw [Int.toNat_natCast, HY.out] at this; omega)))
    go_wp2
    refine bodyPost_ret (results_row2 rfl _ _ (w.heap.size + 1) [.slice a1 D.sec.length c1, .slice (some ⟨b2, 0, none⟩) D.ep.length (c2' + 1), .slice a3 D.pe.length c3] _ rfl HE.out.2.2 Tryz.underlying44 rfl (by kernel_rfl)) rfl ?_
    cases HP1.out
    exact ⟨_, rfl, HE.out.1, HE.out.2.1⟩
  have g2' := decide_eq_false g2
  have HP1 := hid (HP.out.trans (if_pos ⟨HG1.out, by rw [Int.toNat_natCast, HY.out]; omega⟩))
  rw [Int.toNat_natCast, HY.out] at HP1
  have hb0 : b2 < w.heap.size := (HO.out.lt ⟨_, _, _, rfl, Or.inr (Or.inl rfl)⟩).2
  have hb1 : B ≤ b2 := (HO.out.lt ⟨_, _, _, rfl, Or.inr (Or.inl rfl)⟩).1
  have hne0 : b2 ≠ w.heap.size := by omega
  have hne1 : b2 ≠ w.heap.size + 1 := by omega
  have hne2 : w.heap.size ≠ b2 := by omega
  have hne3 : w.heap.size + 1 ≠ b2 := by omega
  have hy0 : y + 1 ≤ 9223372036854775807 := by omega
  clear HE m0 m1 m2 f0 f1 f2
  go_wp2
  go_region
  have HO2 := hid ((HO1.out.setEp hnl (y + 1)).below (Below.refl _ (w1.setCell ⟨b2, n, none⟩ (.int .i64 (y + 1)))).drew)
  have HA2 := hid ((HA.out.other (p := ⟨b2, n, none⟩) hne2 (.int .i64 (y + 1))).below (Below.refl _ _).drew (HA.out.other (p := ⟨b2, n, none⟩) hne2 (.int .i64 (y + 1))).lt)
  have HR2 := hid ((HR.out.other (p := ⟨b2, n, none⟩) hne3 (.int .i64 (y + 1))).below (Below.refl _ _).drew (HR.out.other (p := ⟨b2, n, none⟩) hne3 (.int .i64 (y + 1))).lt)
  have HB2 := hid ((below_set (HB.out.mono hB) b2 n (.int .i64 (y + 1)) hb1).drew)
  generalize (w1.setCell ⟨b2, n, none⟩ (.int .i64 (y + 1))).drew = wx at *
  have hzx : w.heap.size + 1 < wx.heap.size := HR2.out.lt
  have hBx : B ≤ wx.heap.size := by omega
  obtain ⟨_, _, _, ev, _, _, r3, _⟩ := HO2.out
  cases ev
  obtain ⟨_, _, ev, wr3⟩ := r3.wr
  cases ev
  have HI3 : Hid (Wts wx a3 D.pe) := wr3.sl.congr (fun i hi => wCells_at _ i hi)
  clear r3 wr3 hc hz2 k0 k1 k2
  go_wp2
  go_loopw [6, 7] (fun l i wr => ∃ k : Nat, k ≤ D.pe.length ∧ i = .int .i64 (k : Int) ∧ Hid (RowO wr wx.heap.size 87 4 l (others (D.pe.take k) n).length (wCells (others (D.pe.take k) n))) ∧ Hid (Below wx.heap.size wx wr)) (fun _ i _ => D.pe.length - (intOf i).toNat)
  case atStart => exact ⟨0, Nat.zero_le _, rfl, Or.inl ⟨_, rfl, rfl, rfl⟩, (Below.refl _ _).alloc (Nat.le_refl _) _⟩
  case round =>
    obtain ⟨k, hk, rfl, HRo, HBr⟩ := hrel
    have HA3 := hid (HA2.out.below HBr.out HA2.out.lt)
    have k2 := HA3.out.c 2 rfl
    obtain ⟨p, d, el, _⟩ := HRo.out.wr
    subst el
    by_cases hlt : k < D.pe.length
    · obtain ⟨b3, o3, rfl, x0, x1, x2, x3⟩ := Wts.at_ (HI3.out.below HBr.out) k hlt
      have hol := others_le D.pe n k
      have HOL := hid hol
      clear hol
      have HY1 := hid (others_yes D.pe n k hlt)
      have HN1 := hid (others_no D.pe n k hlt)
      generalize hu : D.pe.getD k Wt.none = u at x0 x1 x2 x3 HY1 HN1
      have HU := hid hu
      clear hu
      by_cases h1 : u.host = (n : Int)
      · have HE1 := hid (HN1.out h1)
        go_wp2
        exact ⟨⟨k + 1, by omega, by go_num, by rw [HE1.out]; exact HRo, HBr⟩, by simp [intOf]; omega⟩
      · have HE1 := hid (HY1.out h1)
        have hpl : (others (D.pe.take k) n).length + 1 ≤ 1048576 := by have := HOL.out; have := HF.out.h3; omega
        have HRa : Hid (∀ o, RowO (wr.alloc o) wx.heap.size 87 4 (.slice p (others (D.pe.take k) n).length d) (others (D.pe.take k) n).length (wCells (others (D.pe.take k) n))) := fun o => HRo.out.below ((Below.refl _ _).alloc (Nat.le_refl _) o)
        have HBa := hid (show ∀ o, wx.heap.size ≤ (wr.alloc o).heap.size from fun o => by have := lt_alloc wr o; have := HBr.out.size; omega)
        generalize others (D.pe.take k) n = ol at *
        go_wp2_with (at_builtin; refine wpList_app 42 87 Wt.none.val 4 40 Tryz.underlying42 infoW rfl (by decide) (by decide) _ rfl (.tmp 46) (.tmp 52) rfl wx.heap.size _ ol.length (wCells ol) rfl (HRa.out _) ⟨wr.heap.size, 0, none⟩ 1 1 u.cells rfl rfl (sl_lit wr u.cells 87 4 rfl) (by intro z hz; exact wCells_one [u] z (by simpa [wCells] using hz)) hpl (HBa.out _) ?_; intro v3' w2 r3' kk hi; obtain ⟨p3, d3', e3, _⟩ := r3'.wr; subst e3; have HR3 := hid r3'; have HB3 := hid ((HBr.out.alloc HBr.out.size _).trans (kk.below (HBa.out _) (fun b hb e => by have := ((HRa.out (.cells #[] 0)).lt e).1; omega))); clear r3' kk hi)
        exact ⟨⟨k + 1, by omega, by go_num, by rw [HE1.out, wCells_snoc, List.length_append]; exact HR3, HB3⟩, by simp [intOf]; omega⟩
    obtain rfl : k = D.pe.length := by omega
    have HT := hid (show others D.pe n = others (D.pe.take D.pe.length) n by rw [List.take_length])
    rw [HT.out] at HP1
    generalize others (D.pe.take D.pe.length) n = ol at *
    have HR3 := hid (HR2.out.below HBr.out HR2.out.lt)
    have HO3 := hid (HO2.out.swapped HBr.out hBx HRo.out)
    have HB3 := hid (HB2.out.trans (HBr.out.mono hBx))
    have F0 := hid (swapped_far HO.out (Nat.le_refl _) HRo.out (by omega))
    have F1 := hid (swapped_far HO.out (Nat.le_succ _) HRo.out hzx)
    have hz4 : w.heap.size + 1 < wr.heap.size := HR3.out.lt
    have k0 := HA3.out.c 0 rfl
    have k1 := HA3.out.c 1 rfl
    have k3 := HA3.out.f 2
    have m0 := HR3.out.c 0 rfl
    have m1 := HR3.out.c 1 rfl
    have m2 := HR3.out.c 2 rfl
    have f0 := HR3.out.f 0
    have f1 := HR3.out.f 1
    have f2 := HR3.out.f 2
    go_wp2
    have E := put_end (w2 := wr.setCell ⟨w.heap.size, 2, none⟩ (.slice p ol.length d)) (by simpa using hz4) (below_set HB3.out w.heap.size 2 _ hB) hB (HO3.out.kept (kept_set wr w.heap.size 2 _) F0.out) F1.out (HR3.out.other (by show w.heap.size + 1 ≠ w.heap.size; omega) _)
    refine bodyPost_ret (results_row2 rfl _ _ (w.heap.size + 1) [.slice a1 D.sec.length c1, .slice (some ⟨b2, 0, none⟩) D.ep.length (c2' + 1), .slice p ol.length d] _ rfl E.2.2 Tryz.underlying44 rfl (by kernel_rfl)) rfl ?_
    cases HP1.out
    exact ⟨_, rfl, E.1, E.2.1⟩

end Go.Proofs.YtlhnkdogafnnpaaGreat.Mem

namespace Go.Proofs.YtlhnkdogafnnpaaGreat.Mem
open Go.RowKit
set_option linter.unusedVariables false

/-- The sectors behind the writes of a host that stand in l, landed in order. -/
def lands (s : List ByteArray) (l : List Wt) (h : Int) : List ByteArray := l.foldl (fun s x => if x.host = h then s.set x.sector.toNat x.text else s) s

theorem lands_length (s : List ByteArray) (l : List Wt) (h : Int) : (lands s l h).length = s.length := by
  unfold lands
  induction l generalizing s with
  | nil => rfl
  | cons x l ih =>
    rw [List.foldl_cons, ih]
    split
    · rw [List.length_set]
    · rfl
theorem lands_more (s : List ByteArray) (l : List Wt) (h : Int) (k : Nat) (hk : k < l.length) : lands s (l.take (k + 1)) h = if (l.getD k Wt.none).host = h then (lands s (l.take k) h).set (l.getD k Wt.none).sector.toNat (l.getD k Wt.none).text else lands s (l.take k) h := by
  unfold lands
  rw [take_more l k hk, List.foldl_append]
  rfl

/-- What Flush makes of a right disk. -/
def Dk.flush (D : Dk) (h e : Int) : Dk × Int :=
  if 0 ≤ h ∧ h < 3 then (if D.ep.getD h.toNat 0 = e then (⟨lands D.sec D.pe h, D.ep, others D.pe h⟩, 0) else (D, 2)) else (D, 1)

/-- A disk whose third list is another row, which lies behind the first two. -/
theorem DkO.third {w : World} {B z : Nat} {v1 v2 v3 v3' : Value} {D : Dk} {l : List Wt} (O : DkO w B (.agg #[v1, v2, v3]) D) (r : RowO w z 87 4 v3' l.length (wCells l)) (hz : B ≤ z) (far : ∀ b, rb v1 = some b ∨ rb v2 = some b → b < z) : DkO w B (.agg #[v1, v2, v3']) ⟨D.sec, D.ep, l⟩ := by
  obtain ⟨_, _, _, e, r1, r2, r3, f1, f2⟩ := O
  cases e
  refine ⟨v1, v2, v3', rfl, r1, r2, r.mono hz, fun b h => ⟨(f1 b h).1, fun h3 => ?_⟩, fun b h h3 => ?_⟩
  · have := far b (Or.inl h); have := (r.lt h3).1; omega
  · have := far b (Or.inr h); have := (r.lt h3).1; omega

end Go.Proofs.YtlhnkdogafnnpaaGreat.Mem

namespace Go.Proofs.YtlhnkdogafnnpaaGreat.Mem
open Go.RowKit
set_option linter.unusedVariables false

theorem kept_new {S : Nat → Prop} {w x : World} (h : Kept S w x) {g : Nat} (hg : w.heap.size ≤ g) (i : Nat) (v : Value) : Kept S w (x.setCell ⟨g, i, none⟩ v) :=
  (h.trans (kept_set x g i v)).mono (fun b hb e => by rcases e with e | e; exact e; omega)
theorem kept_in {S : Nat → Prop} {w x : World} (h : Kept S w x) {g : Nat} (hg : S g) (i : Nat) (v : Value) : Kept S w (x.setCell ⟨g, i, none⟩ v) :=
  (h.trans (kept_set x g i v)).mono (fun b hb e => by rcases e with e | e; exact e; rw [e]; exact hg)
theorem kept_below {S : Nat → Prop} {w x y : World} (h : Kept S w x) (b : Below x.heap.size x y) : Kept S w y :=
  (h.trans (Kept.of_below (S := fun _ => False) b)).mono (fun b hb e => by rcases e with e | e; exact e; exact e.elim)
theorem kept_drew {S : Nat → Prop} {w x : World} (h : Kept S w x) : Kept S w x.drew := kept_below h (Below.refl _ x).drew
theorem kept_more {S T : Nat → Prop} {w x y : World} (h : Kept S w x) (k : Kept T x y) (hT : ∀ b, b < w.heap.size → T b → S b) : Kept S w y :=
  (h.trans k).mono (fun b hb e => by rcases e with e | e; exact e; exact hT b hb e)
theorem kept_end {S : Nat → Prop} {w x : World} (h : Kept S w x) {g : Nat} (hg : w.heap.size ≤ g) (a b c : Value) : Kept S w (((x.setCell ⟨g, 0, none⟩ a).setCell ⟨g, 1, none⟩ b).setCell ⟨g, 2, none⟩ c) :=
  kept_new (kept_new (kept_new h hg 0 a) hg 1 b) hg 2 c

end Go.Proofs.YtlhnkdogafnnpaaGreat.Mem

namespace Go.Proofs.YtlhnkdogafnnpaaGreat.Mem
open Go.RowKit Classical
set_option linter.unusedVariables false

set_option maxRecDepth 100000 in
set_option maxHeartbeats 2000000 in
theorem l3FenceV (w : World) (B : Nat) (v : Value) (D : Dk) (x : Int) (O : DkO w B v D) (hB : B ≤ w.heap.size) (hf : D.Fit) (hd : D.Held) (he : ∀ j, j < D.ep.length → 1 ≤ D.ep.getD j 0) :
    Calls Tryz.prog 57 #[v, .int .i64 x] w fun e w' => ∃ v', e = .returned (.tuple #[v', .bool (D.fence x).2]) ∧ DkO w' B v' (D.fence x).1 ∧ Below B w w' ∧ Kept (DkB v) w w' ∧ ((D.fence x).2 = false → v' = v) ∧ (∀ b, DkB v' b → DkB v b ∨ w.heap.size ≤ b) := by
  have HO := hid O
  have HF := hid hf
  obtain ⟨v1, v2, v3, rfl, r1, r2, r3, _, _⟩ := O
  obtain ⟨a1, c1, e1, _⟩ := r1.wr
  obtain ⟨a2, c2, e2, i2⟩ := r2.wr
  obtain ⟨a3, c3, e3, _⟩ := r3.wr
  subst e1; subst e2; subst e3
  have d3 : D.pe.length ≤ 9223372036854775807 := hd.h3
  have HEp := hid he
  clear r1 r2 r3 hd hf i2 he
  have hp : D.fence x = if (0 ≤ x ∧ x < 3) ∧ D.ep.getD x.toNat 0 < 100000 then (⟨D.sec, D.ep.set x.toNat (D.ep.getD x.toNat 0 + 1), others D.pe x⟩, true) else (D, false) := rfl
  generalize D.fence x = P at *
  have HP := hid hp
  clear hp
  obtain ⟨P1, P2⟩ := P
  simp only []
  go_enter Tryz.func57, Tryz.ntmps57
  go_wp2_with fail
  obtain ⟨wb, hwb, ez, A0, R0, B0⟩ := two_new w [.slice a1 D.sec.length c1, .slice a2 D.ep.length c2, .slice a3 D.pe.length c3] [.slice none 0 0, .slice none 0 0, .slice none 0 0] 44 44
  simp only [hwb]
  have hz : w.heap.size + 1 < wb.heap.size := R0.lt
  clear hwb ez
  refine (l3Host x wb).mono ?_
  rintro e w1 ⟨rfl, hw⟩
  subst hw
  have HO1 := hid (HO.out.below B0)
  have k0 := A0.c 0 rfl
  have k1 := A0.c 1 rfl
  have k2 := A0.c 2 rfl
  have HA := hid A0
  have HR := hid R0
  have HB := hid B0
  have m0 := HR.out.c 0 rfl
  have m1 := HR.out.c 1 rfl
  have m2 := HR.out.c 2 rfl
  have f0 := HR.out.f 0
  have f1 := HR.out.f 1
  have f2 := HR.out.f 2
  have HL := hid (show ∀ b, DkB (.agg #[.slice a1 D.sec.length c1, .slice a2 D.ep.length c2, .slice a3 D.pe.length c3]) b → b ≠ w.heap.size + 1 from fun b hb => by have := (HO.out.lt hb).2; omega)
  have HE := hid (put_end hz (HB.out.mono hB) hB HO1.out HL.out HR.out)
  clear A0 R0 B0
  by_cases g1 : ¬ (0 ≤ x ∧ x < 3)
  · have g1' := decide_eq_false g1
    have HP1 := hid (HP.out.trans (if_neg (fun z => g1 z.1)))
    clear g1
    go_wp2
    refine bodyPost_ret (results_row2 rfl _ _ (w.heap.size + 1) [.slice a1 D.sec.length c1, .slice a2 D.ep.length c2, .slice a3 D.pe.length c3] _ rfl HE.out.2.2 Tryz.underlying44 rfl (by kernel_rfl)) rfl ?_
    cases HP1.out
    exact ⟨_, rfl, HE.out.1, HE.out.2.1, kept_end (Kept.of_below HB.out) (Nat.le_succ _) _ _ _, fun _ => rfl, fun b hb => .inl hb⟩
  replace g1 := Classical.not_not.mp g1
  have g1' := decide_eq_true g1
  have HG1 := hid g1
  have hx3 := g1.2
  obtain ⟨n, rfl⟩ : ∃ n : Nat, x = (n : Int) := Int.eq_ofNat_of_zero_le g1.1
  have hnl : n < D.ep.length := by have := HF.out.h2; have := g1.2; omega
  clear g1
  obtain ⟨_, _, _, ev, _, r2, _⟩ := HO1.out
  cases ev
  obtain ⟨b2, c2', ef⟩ := r2.form (by omega)
  cases ef
  clear r2
  obtain ⟨_, _, _, _, _, _, ev, _, i2, _⟩ := HO1.out.w
  cases ev
  obtain ⟨_, _, ef, _, hc, hz2⟩ := i2 n hnl
  cases ef
  replace hc : w1.cell? ⟨b2, 0 + n, none⟩ = some (.int .i64 (D.ep.getD n 0)) := hc
  rw [Nat.zero_add] at hc hz2
  have hy1 := HEp.out n hnl
  generalize hy : D.ep.getD n 0 = y at hc hy1
  have HY := hid hy
  clear hy i2
  by_cases g2 : 100000 ≤ y
  · have HP1 := hid (HP.out.trans (if_neg (fun z => by have := z.2; rw [Int.toNat_natCast, HY.out] at this; omega)))
    go_wp2
    refine bodyPost_ret (results_row2 rfl _ _ (w.heap.size + 1) [.slice a1 D.sec.length c1, .slice (some ⟨b2, 0, none⟩) D.ep.length (c2' + 1), .slice a3 D.pe.length c3] _ rfl HE.out.2.2 Tryz.underlying44 rfl (by kernel_rfl)) rfl ?_
    cases HP1.out
    exact ⟨_, rfl, HE.out.1, HE.out.2.1, kept_end (Kept.of_below HB.out) (Nat.le_succ _) _ _ _, fun _ => rfl, fun b hb => .inl hb⟩
  have g2' := decide_eq_false g2
  have HP1 := hid (HP.out.trans (if_pos ⟨HG1.out, by rw [Int.toNat_natCast, HY.out]; omega⟩))
  rw [Int.toNat_natCast, HY.out] at HP1
  have hb0 : b2 < w.heap.size := (HO.out.lt ⟨_, _, _, rfl, Or.inr (Or.inl rfl)⟩).2
  have hb1 : B ≤ b2 := (HO.out.lt ⟨_, _, _, rfl, Or.inr (Or.inl rfl)⟩).1
  have hne0 : b2 ≠ w.heap.size := by omega
  have hne1 : b2 ≠ w.heap.size + 1 := by omega
  have hne2 : w.heap.size ≠ b2 := by omega
  have hne3 : w.heap.size + 1 ≠ b2 := by omega
  have hy0 : y + 1 ≤ 9223372036854775807 := by omega
  clear HE m0 m1 m2 f0 f1 f2
  go_wp2
  go_region
  have HO2 := hid ((HO1.out.setEp hnl (y + 1)).below (Below.refl _ (w1.setCell ⟨b2, n, none⟩ (.int .i64 (y + 1)))).drew)
  have HA2 := hid ((HA.out.other (p := ⟨b2, n, none⟩) hne2 (.int .i64 (y + 1))).below (Below.refl _ _).drew (HA.out.other (p := ⟨b2, n, none⟩) hne2 (.int .i64 (y + 1))).lt)
  have HR2 := hid ((HR.out.other (p := ⟨b2, n, none⟩) hne3 (.int .i64 (y + 1))).below (Below.refl _ _).drew (HR.out.other (p := ⟨b2, n, none⟩) hne3 (.int .i64 (y + 1))).lt)
  have HB2 := hid ((below_set (HB.out.mono hB) b2 n (.int .i64 (y + 1)) hb1).drew)
  have HK2 := hid (kept_drew (kept_in (S := DkB (.agg #[.slice a1 D.sec.length c1, .slice (some ⟨b2, 0, none⟩) D.ep.length (c2' + 1), .slice a3 D.pe.length c3])) (Kept.of_below HB.out) ⟨_, _, _, rfl, Or.inr (Or.inl rfl)⟩ n (.int .i64 (y + 1))))
  generalize (w1.setCell ⟨b2, n, none⟩ (.int .i64 (y + 1))).drew = wx at *
  have hzx : w.heap.size + 1 < wx.heap.size := HR2.out.lt
  have hBx : B ≤ wx.heap.size := by omega
  obtain ⟨_, _, _, ev, _, _, r3, _⟩ := HO2.out
  cases ev
  obtain ⟨_, _, ev, wr3⟩ := r3.wr
  cases ev
  have HI3 : Hid (Wts wx a3 D.pe) := wr3.sl.congr (fun i hi => wCells_at _ i hi)
  clear r3 wr3 hc hz2 k0 k1 k2
  go_wp2
  go_loopw [6, 7] (fun l i wr => ∃ k : Nat, k ≤ D.pe.length ∧ i = .int .i64 (k : Int) ∧ Hid (RowO wr wx.heap.size 87 4 l (others (D.pe.take k) n).length (wCells (others (D.pe.take k) n))) ∧ Hid (Below wx.heap.size wx wr)) (fun _ i _ => D.pe.length - (intOf i).toNat)
  case atStart => exact ⟨0, Nat.zero_le _, rfl, Or.inl ⟨_, rfl, rfl, rfl⟩, (Below.refl _ _).alloc (Nat.le_refl _) _⟩
  case round =>
    obtain ⟨k, hk, rfl, HRo, HBr⟩ := hrel
    have HA3 := hid (HA2.out.below HBr.out HA2.out.lt)
    have k2 := HA3.out.c 2 rfl
    obtain ⟨p, d, el, _⟩ := HRo.out.wr
    subst el
    by_cases hlt : k < D.pe.length
    · obtain ⟨b3, o3, rfl, x0, x1, x2, x3⟩ := Wts.at_ (HI3.out.below HBr.out) k hlt
      have hol := others_le D.pe n k
      have HOL := hid hol
      clear hol
      have HY1 := hid (others_yes D.pe n k hlt)
      have HN1 := hid (others_no D.pe n k hlt)
      generalize hu : D.pe.getD k Wt.none = u at x0 x1 x2 x3 HY1 HN1
      have HU := hid hu
      clear hu
      by_cases h1 : u.host = (n : Int)
      · have HE1 := hid (HN1.out h1)
        go_wp2
        exact ⟨⟨k + 1, by omega, by go_num, by rw [HE1.out]; exact HRo, HBr⟩, by simp [intOf]; omega⟩
      · have HE1 := hid (HY1.out h1)
        have hpl : (others (D.pe.take k) n).length + 1 ≤ 1048576 := by have := HOL.out; have := HF.out.h3; omega
        have HRa : Hid (∀ o, RowO (wr.alloc o) wx.heap.size 87 4 (.slice p (others (D.pe.take k) n).length d) (others (D.pe.take k) n).length (wCells (others (D.pe.take k) n))) := fun o => HRo.out.below ((Below.refl _ _).alloc (Nat.le_refl _) o)
        have HBa := hid (show ∀ o, wx.heap.size ≤ (wr.alloc o).heap.size from fun o => by have := lt_alloc wr o; have := HBr.out.size; omega)
        generalize others (D.pe.take k) n = ol at *
        go_wp2_with (at_builtin; refine wpList_app 42 87 Wt.none.val 4 40 Tryz.underlying42 infoW rfl (by decide) (by decide) _ rfl (.tmp 46) (.tmp 52) rfl wx.heap.size _ ol.length (wCells ol) rfl (HRa.out _) ⟨wr.heap.size, 0, none⟩ 1 1 u.cells rfl rfl (sl_lit wr u.cells 87 4 rfl) (by intro z hz; exact wCells_one [u] z (by simpa [wCells] using hz)) hpl (HBa.out _) ?_; intro v3' w2 r3' kk hi; obtain ⟨p3, d3', e3, _⟩ := r3'.wr; subst e3; have HR3 := hid r3'; have HB3 := hid ((HBr.out.alloc HBr.out.size _).trans (kk.below (HBa.out _) (fun b hb e => by have := ((HRa.out (.cells #[] 0)).lt e).1; omega))); clear r3' kk hi)
        exact ⟨⟨k + 1, by omega, by go_num, by rw [HE1.out, wCells_snoc, List.length_append]; exact HR3, HB3⟩, by simp [intOf]; omega⟩
    obtain rfl : k = D.pe.length := by omega
    have HT := hid (show others D.pe n = others (D.pe.take D.pe.length) n by rw [List.take_length])
    rw [HT.out] at HP1
    generalize others (D.pe.take D.pe.length) n = ol at *
    have HR3 := hid (HR2.out.below HBr.out HR2.out.lt)
    have HO3 := hid (HO2.out.swapped HBr.out hBx HRo.out)
    have HB3 := hid (HB2.out.trans (HBr.out.mono hBx))
    have F0 := hid (swapped_far HO.out (Nat.le_refl _) HRo.out (by omega))
    have F1 := hid (swapped_far HO.out (Nat.le_succ _) HRo.out hzx)
    have hz4 : w.heap.size + 1 < wr.heap.size := HR3.out.lt
    have k0 := HA3.out.c 0 rfl
    have k1 := HA3.out.c 1 rfl
    have k3 := HA3.out.f 2
    have m0 := HR3.out.c 0 rfl
    have m1 := HR3.out.c 1 rfl
    have m2 := HR3.out.c 2 rfl
    have f0 := HR3.out.f 0
    have f1 := HR3.out.f 1
    have f2 := HR3.out.f 2
    go_wp2
    have E := put_end (w2 := wr.setCell ⟨w.heap.size, 2, none⟩ (.slice p ol.length d)) (by simpa using hz4) (below_set HB3.out w.heap.size 2 _ hB) hB (HO3.out.kept (kept_set wr w.heap.size 2 _) F0.out) F1.out (HR3.out.other (by show w.heap.size + 1 ≠ w.heap.size; omega) _)
    refine bodyPost_ret (results_row2 rfl _ _ (w.heap.size + 1) [.slice a1 D.sec.length c1, .slice (some ⟨b2, 0, none⟩) D.ep.length (c2' + 1), .slice p ol.length d] _ rfl E.2.2 Tryz.underlying44 rfl (by kernel_rfl)) rfl ?_
    cases HP1.out
    exact ⟨_, rfl, E.1, E.2.1, kept_end (kept_new (kept_below HK2.out HBr.out) (Nat.le_refl _) 2 _) (Nat.le_succ _) _ _ _, fun h => (by cases h), fun b hb => by
      obtain ⟨_, _, _, e, hb⟩ := hb
      cases e
      rcases hb with hb | hb | hb
      · exact .inl ⟨_, _, _, rfl, .inl hb⟩
      · exact .inl ⟨_, _, _, rfl, .inr (.inl hb)⟩
      · exact .inr (by have := (HRo.out.lt hb).1; omega)⟩

end Go.Proofs.YtlhnkdogafnnpaaGreat.Mem

namespace Go.Proofs.YtlhnkdogafnnpaaGreat.Mem
open Go.RowKit

/-- A world in which nothing that was there in wa has turned. -/
structure BW (wa : World) : Type where
  val : World
  bel : Below wa.heap.size wa val

theorem BW.cell {wa : World} {p : Addr} {v : Value} (h : wa.cell? p = some v) (u : BW wa) : u.val.cell? p = some v :=
  (u.bel.cell (World.block_lt_of_cell? wa _ h)).trans h

theorem wp_region_bw {P : Program} {id : Nat} {Q : Exit → Act → World → Prop} {a : Act} {wa : World} {l : List Oper} (hm : P.follows .mixedOrders = true) (hB : Region.lexB .any l.toArray = true)
    (h : wpQuiet P l.toArray (fun w' => ∃ u : BW wa, w' = u.val) (fun a' => ∀ w', (∃ u : BW wa, w' = u.val) → Q .normal a' w') l a) : (Code.region id l.toArray true).wp P Q a wa :=
  wp_region_quiet (C := fun w' => ∃ u : BW wa, w' = u.val) hm hB ⟨⟨wa.drew, (Below.refl _ wa).drew⟩, rfl⟩ (by simpa using h)

theorem bw_same {P : Program} {f : FuncId} {args : Array Value} {wa : World} {u : BW wa} {v : Value} (h : Calls P f args u.val fun e w' => e = .returned v ∧ w' = u.val) :
    Calls P f args u.val fun e w'' => e = .returned v ∧ ∃ u' : BW wa, w'' = u'.val := h.mono fun _ _ ⟨he, hm⟩ => ⟨he, u, hm⟩

theorem bw_below {P : Program} {f : FuncId} {args : Array Value} {wa : World} {u : BW wa} {v : Value} (h : Calls P f args u.val fun e w' => e = .returned v ∧ Below u.val.heap.size u.val w') :
    Calls P f args u.val fun e w'' => e = .returned v ∧ ∃ u' : BW wa, w'' = u'.val := h.mono fun _ w' ⟨he, hm⟩ => ⟨he, ⟨w', u.bel.trans (hm.mono u.bel.size)⟩, rfl⟩

end Go.Proofs.YtlhnkdogafnnpaaGreat.Mem

namespace Go.Proofs.YtlhnkdogafnnpaaGreat.Sec
open Go.RowKit Go.Proofs.YtlhnkdogafnnpaaGreat.Mem
set_option linter.unusedVariables false

set_option maxHeartbeats 400000 in
theorem isFrom (x lo hi : Int) (w : World) :
    Calls Tryz.prog 62 #[.int .i64 x, .int .i64 lo, .int .i64 hi] w fun e w' => e = .returned (.bool (decide (lo ≤ x ∧ x ≤ hi))) ∧ w' = w := by
  by_cases h1 : lo ≤ x
  · by_cases h2 : x ≤ hi
    · rw [decide_eq_true (And.intro h1 h2)]
      go_enter Tryz.func62, Tryz.ntmps62
      go_wp2
      go_ret
      exact ⟨rfl, rfl⟩
    · rw [decide_eq_false (fun h => h2 h.2)]
      go_enter Tryz.func62, Tryz.ntmps62
      go_wp2
      go_ret
      exact ⟨rfl, rfl⟩
  · rw [decide_eq_false (fun h => h1 h.1)]
    go_enter Tryz.func62, Tryz.ntmps62
    go_wp2
    go_ret
    exact ⟨rfl, rfl⟩

/-- A sector that a journal writes. -/
structure Ou where
  sec : Int
  text : ByteArray

def Ou.none : Ou := ⟨0, ByteArray.empty⟩

def Ou.cells (x : Ou) : List Value := [.int .i64 x.sec, .string x.text]

/-- Cell i of a list of them, two cells each. -/
def ocell (l : List Ou) (i : Nat) : Value := (l.getD (i / 2) Ou.none).cells.getD (i % 2) undef

def Ous (w : World) (a : Option Addr) (l : List Ou) : Prop := Sl w a (l.length * 2) (ocell l)

def OusW (w : World) (B : Nat) (a : Option Addr) (l : List Ou) : Prop := Wr w B a (l.length * 2) (ocell l)

theorem ocell_at (l : List Ou) (k j : Nat) (hj : j < 2) : ocell l (k * 2 + j) = (l.getD k Ou.none).cells.getD j undef := by
  unfold ocell
  rw [show (k * 2 + j) / 2 = k by omega, show (k * 2 + j) % 2 = j by omega]

theorem Ous.at_ {w : World} {a : Option Addr} {l : List Ou} (h : Ous w a l) (k : Nat) (hk : k < l.length) : ∃ b off, a = some ⟨b, off, none⟩ ∧
    w.cell? ⟨b, off + k * 2, none⟩ = some (.int .i64 (l.getD k Ou.none).sec) ∧ w.cell? ⟨b, off + k * 2 + 1, none⟩ = some (.string (l.getD k Ou.none).text) := by
  obtain ⟨b, off, rfl, h0⟩ := h (k * 2 + 0) (by omega)
  obtain ⟨b1, off1, e1, h1⟩ := h (k * 2 + 1) (by omega)
  cases e1
  rw [ocell_at l k _ (by omega)] at h0 h1
  exact ⟨b, off, rfl, h0, by rw [Nat.add_assoc]; exact h1⟩

/-- Number i of the list is right. -/
def outAt (l : List Ou) (i : Nat) : Prop := (0 ≤ (l.getD i Ou.none).sec ∧ (l.getD i Ou.none).sec ≤ 33) ∧ (0 < i → (l.getD (i - 1) Ou.none).sec < (l.getD i Ou.none).sec) ∧ ((l.getD i Ou.none).text.size : Int) ≤ 60

theorem outAt_dec (l : List Ou) : Nonempty (DecidablePred (outAt l)) := ⟨fun i => by unfold outAt; exact inferInstance⟩

def outsOk (l : List Ou) : Bool := (List.range l.length).all fun i => decide (0 ≤ (l.getD i Ou.none).sec ∧ (l.getD i Ou.none).sec ≤ 33) && decide (0 < i → (l.getD (i - 1) Ou.none).sec < (l.getD i Ou.none).sec) && decide (((l.getD i Ou.none).text.size : Int) ≤ 60)

theorem outsOk_iff (l : List Ou) : outsOk l = true ↔ ∀ i, i < l.length → outAt l i := by
  unfold outsOk outAt
  rw [List.all_eq_true]
  constructor
  · intro h i hi
    have := h i (List.mem_range.2 hi)
    rw [Bool.and_eq_true, Bool.and_eq_true] at this
    exact ⟨of_decide_eq_true this.1.1, of_decide_eq_true this.1.2, of_decide_eq_true this.2⟩
  · intro h i hi
    obtain ⟨a, b, c⟩ := h i (List.mem_range.1 hi)
    rw [Bool.and_eq_true, Bool.and_eq_true]
    exact ⟨⟨decide_eq_true a, decide_eq_true b⟩, decide_eq_true c⟩

theorem outsOk_no {l : List Ou} (i : Nat) (hi : i < l.length) (h : ¬ outAt l i) : outsOk l = false := by
  cases e : outsOk l with
  | false => rfl
  | true => exact absurd ((outsOk_iff l).1 e i hi) h

/-- The lowest sector that may follow the first k. -/
def low (l : List Ou) (k : Nat) : Int := if k = 0 then 0 else (l.getD (k - 1) Ou.none).sec + 1

theorem low_iff (l : List Ou) (k : Nat) (h : ∀ i, i < k → outAt l i) : (low l k ≤ (l.getD k Ou.none).sec ∧ (l.getD k Ou.none).sec ≤ 33) ↔ ((0 ≤ (l.getD k Ou.none).sec ∧ (l.getD k Ou.none).sec ≤ 33) ∧ (0 < k → (l.getD (k - 1) Ou.none).sec < (l.getD k Ou.none).sec)) := by
  unfold low
  by_cases hk : k = 0
  · subst hk; simp
  · rw [if_neg hk]
    have := (h (k - 1) (by omega)).1
    constructor
    · intro x; exact ⟨by omega, fun _ => by omega⟩
    · intro x; have := x.2 (by omega); omega

theorem low_bd (l : List Ou) (k : Nat) (h : ∀ i, i < k → outAt l i) : 0 ≤ low l k ∧ low l k ≤ 34 := by
  unfold low
  by_cases hk : k = 0
  · rw [if_pos hk]; omega
  · rw [if_neg hk]
    have := (h (k - 1) (by omega)).1
    omega

theorem low_succ (l : List Ou) (k : Nat) : low l (k + 1) = (l.getD k Ou.none).sec + 1 := rfl

theorem outs_step {l : List Ou} {k : Nat} (h : ∀ i, i < k → outAt l i) (hk : outAt l k) : ∀ i, i < k + 1 → outAt l i := fun i hi => by
  by_cases e : i = k
  · rw [e]; exact hk
  · exact h i (by omega)

set_option maxRecDepth 100000 in
set_option maxHeartbeats 1000000 in
theorem areOuts (w : World) (a : Option Addr) (cap : Nat) (l : List Ou) (S : Ous w a l) (hl : l.length ≤ 1048576) (hs : ∀ x ∈ l, x.text.size ≤ 1048576) :
    Calls Tryz.prog 84 #[.slice a l.length cap] w fun e w' => e = .returned (.bool (decide (l.length ≤ 8) && outsOk l)) ∧ Below w.heap.size w w' := by
  have HS := hid S
  have Hs : Hid (∀ k, (l.getD k Ou.none).text.size ≤ 1048576) := fun k => by
    by_cases h : k < l.length
    · exact hs _ (by simp [List.getD, h])
    · simp [List.getD, h, Ou.none]
  clear S hs
  by_cases hg : 8 < (l.length : Int)
  · have hg' : decide (l.length ≤ 8) = false := decide_eq_false (by omega)
    rw [hg']
    clear hg'
    go_enter Tryz.func84, Tryz.ntmps84
    go_wp2
    go_ret
    exact ⟨rfl, Below.refl _ _⟩
  have hg' : decide (l.length ≤ 8) = true := decide_eq_true (by omega)
  rw [hg', Bool.true_and]
  clear hg'
  have HZ := hid (low_succ l)
  go_enter Tryz.func84, Tryz.ntmps84
  go_wp2
  go_loopw [3, 11] (fun lo i wr => ∃ k : Nat, k ≤ l.length ∧ i = .int .i64 (k : Int) ∧ lo = .int .i64 (low l k) ∧ Hid (∀ i, i < k → outAt l i) ∧ Hid (Below w.heap.size w wr)) (fun _ i _ => l.length - (intOf i).toNat)
  case atStart => exact ⟨0, Nat.zero_le _, rfl, rfl, fun i hi => by omega, Below.refl _ _⟩
  case round =>
    obtain ⟨k, hk, rfl, rfl, HK, HB⟩ := hrel
    by_cases hlt : k < l.length
    · obtain ⟨b, off, rfl, c0, c1⟩ := Ous.at_ (HS.out.below HB.out) k hlt
      have HI := hid (low_iff l k HK.out)
      have hbd := low_bd l k HK.out
      have hsz := Hs.out k
      have HN := hid (outsOk_no k hlt)
      have HST := hid (fun h => outs_step (k := k) HK.out h)
      have HLS := hid (low_succ l k)
      have HAt : Hid (outAt l k ↔ ((0 ≤ (l.getD k Ou.none).sec ∧ (l.getD k Ou.none).sec ≤ 33) ∧ (0 < k → (l.getD (k - 1) Ou.none).sec < (l.getD k Ou.none).sec)) ∧ ((l.getD k Ou.none).text.size : Int) ≤ 60) := by
        unfold outAt
        exact ⟨fun x => ⟨⟨x.1, x.2.1⟩, x.2.2⟩, fun x => ⟨x.1.1, x.1.2, x.2⟩⟩
      rw [← HI.out] at HAt
      generalize l.getD k Ou.none = x at c0 c1 hsz HAt HLS
      clear HI
      obtain ⟨xs, xt⟩ := x
      simp only [] at c0 c1 hsz HAt HLS
      generalize low l k = lo at *
      go_wp2_with fail
      obtain ⟨wo, hwo, ez, O0, B0⟩ := one_new wr [.int .i64 xs, .string xt] 105
      simp only [hwo]
      have d0 := O0.c 0 rfl
      have d1 := O0.c 1 rfl
      have HBo := hid (HB.out.trans (B0.mono HB.out.size))
      clear hwo O0 B0 c0 c1
      by_cases c : lo ≤ xs ∧ xs ≤ 33
      · have c' := decide_eq_true c
        refine (c' ▸ isFrom xs lo 33 _).mono ?_
        rintro e w1 ⟨rfl, hw⟩
        obtain rfl := hw.symm
        by_cases h60 : 60 < (xt.size : Int)
        · have HR := hid (HN.out (fun x => by have := (HAt.out.1 x).2; omega))
          clear c
          go_wp2
          go_ret
          exact ⟨by rw [HR.out]; rfl, HBo.out⟩
        · have HR := hid (HST.out (HAt.out.2 ⟨c, by omega⟩))
          have hx33 : xs ≤ 33 := c.2
          have hx0 : 0 ≤ xs := by omega
          clear c
          go_wp2
          exact ⟨⟨k + 1, by omega, by go_num, by rw [HLS.out], HR, HBo⟩, by simp [intOf]; omega⟩
      · have c' := decide_eq_false c
        have HR := hid (HN.out (fun x => c (HAt.out.1 x).1))
        clear c
        refine (c' ▸ isFrom xs lo 33 _).mono ?_
        rintro e w1 ⟨rfl, hw⟩
        obtain rfl := hw.symm
        go_wp2
        go_ret
        exact ⟨by rw [HR.out]; rfl, HBo.out⟩
    · obtain rfl : k = l.length := by omega
      have HR := hid ((outsOk_iff l).2 HK.out)
      go_wp2
      go_ret
      exact ⟨by rw [HR.out]; rfl, HB.out⟩

set_option maxRecDepth 100000 in
set_option maxHeartbeats 1000000 in
theorem szOut (w : World) (xs : Int) (s : ByteArray) (left : Int) (hl : s.size ≤ maxLen) (h0 : 0 ≤ left) (h1 : left ≤ 1048576) :
    Calls Tryz.prog 74 #[.agg #[.int .i64 xs, .string s], .int .i64 left] w fun e w' => ∃ r, e = .returned (.int .i64 r) ∧ Below w.heap.size w w' ∧ FitN r left s.size := by
  unfold maxLen at hl
  by_cases hb : left < (s.size : Int)
  · go_enter Tryz.func74, Tryz.ntmps74
    go_wp2
    go_ret
    exact ⟨_, rfl, by go_grown, Or.inl (by decide)⟩
  · go_enter Tryz.func74, Tryz.ntmps74
    go_wp2
    go_ret
    exact ⟨_, rfl, by go_grown, Or.inr ⟨by omega, by omega, by omega⟩⟩

/-- What is left: a number below 0, or one not above what was, and all fits. -/
def FitO (r left : Int) (l : List Ou) : Prop := r < 0 ∨ (0 ≤ r ∧ r ≤ left ∧ (l.length : Int) ≤ left ∧ ∀ x ∈ l, (x.text.size : Int) ≤ left)

set_option maxRecDepth 100000 in
set_option maxHeartbeats 1000000 in
theorem szOutS (w : World) (a : Option Addr) (cap : Nat) (l : List Ou) (left : Int) (S : Ous w a l) (hl : l.length ≤ maxLen) (hs : ∀ x ∈ l, x.text.size ≤ maxLen) (h0 : 0 ≤ left) (h1 : left ≤ 1048576) :
    Calls Tryz.prog 50 #[.slice a l.length cap, .int .i64 left] w fun e w' => ∃ r, e = .returned (.int .i64 r) ∧ Below w.heap.size w w' ∧ FitO r left l := by
  unfold maxLen at hl
  have HS := hid S
  have Hs := hid hs
  clear S hs
  by_cases hb : left < (l.length : Int)
  · go_enter Tryz.func50, Tryz.ntmps50
    go_wp2
    go_ret
    exact ⟨_, rfl, Below.refl _ _, Or.inl (by decide)⟩
  go_enter Tryz.func50, Tryz.ntmps50
  go_wp2
  go_loopw [1, 5] (fun z i wr => ∃ (k : Nat) (m : Int), k ≤ l.length ∧ i = .int .i64 (k : Int) ∧ z = .int .i64 m ∧ 0 ≤ m ∧ m ≤ left ∧ Hid (∀ j, j < k → ((l.getD j Ou.none).text.size : Int) ≤ left) ∧ Hid (Below w.heap.size w wr)) (fun _ i _ => l.length - (intOf i).toNat)
  case atStart => exact ⟨0, left - l.length, Nat.zero_le _, rfl, rfl, by omega, by omega, fun j hj => by omega, Below.refl _ _⟩
  case round =>
    obtain ⟨k, m, hk, rfl, rfl, hm0, hm1, HJ, HB⟩ := hrel
    by_cases hlt : k < l.length
    · obtain ⟨b, off, rfl, c0, c1⟩ := Ous.at_ (HS.out.below HB.out) k hlt
      have hx : (l.getD k Ou.none).text.size ≤ maxLen := Hs.out _ (by simp [List.getD, hlt])
      generalize hq : l.getD k Ou.none = x at c0 c1 hx
      have HX := hid hq
      clear hq
      obtain ⟨xs, xt⟩ := x
      simp only [] at c0 c1 hx
      go_wp2_with fail
      refine (szOut wr xs xt m hx hm0 (by omega)).mono ?_
      rintro e w1 ⟨r, rfl, b1, hf⟩
      have HB1 := hid (HB.out.trans (b1.mono HB.out.size))
      have HF := hid hf
      clear b1 hf c0 c1 hx
      by_cases hr : r < 0
      · go_wp2
        go_ret
        exact ⟨_, rfl, HB1.out, Or.inl (by decide)⟩
      · have hf : 0 ≤ r ∧ r ≤ m ∧ (xt.size : Int) ≤ m := by
          rcases HF.out with h | h
          · omega
          · exact h
        have hf1 := hf.1
        have hf2 := hf.2.1
        have HF2 := hid hf.2.2
        clear hf HF
        go_wp2
        exact ⟨⟨k + 1, r, by omega, by go_num, rfl, hf1, by omega, fun j hj => by
          by_cases h : j = k
          · subst h; rw [HX.out]; have := HF2.out; show (xt.size : Int) ≤ left; omega
          · exact HJ.out j (by omega), HB1⟩, by simp [intOf]; omega⟩
    · obtain rfl : k = l.length := by omega
      go_wp2
      go_ret
      refine ⟨_, rfl, HB.out, Or.inr ⟨hm0, hm1, by omega, fun x hx => ?_⟩⟩
      obtain ⟨j, hj, rfl⟩ := List.getElem_of_mem hx
      have := HJ.out j hj
      rwa [List.getD, List.getElem?_eq_getElem hj] at this

set_option maxRecDepth 100000 in
set_option maxHeartbeats 1000000 in
theorem toOut (w : World) (x : Int) (s : ByteArray) : Calls Tryz.prog 76 #[.agg #[.int .i64 x, .string s]] w fun e w' => e = .returned (.agg #[.int .i64 x, .string s]) ∧ Below w.heap.size w w' := by
  go_enter Tryz.func76, Tryz.ntmps76
  go_wp2
  go_returns
  exact ⟨rfl, by go_grown⟩

theorem infoO : (Tryz.prog.info? 105).map (fun i => (i.zero, i.size, i.bytes)) = some (some (.agg #[.int .i64 0, .string ByteArray.empty]), 2, 24) := by kernel_rfl

/-- What stands in the new row behind k rounds. -/
def partO (l : List Ou) (k : Nat) (i : Nat) : Value := if i < k * 2 then ocell l i else Ou.none.cells.getD (i % 2) undef

theorem set2 {w : World} {B b : Nat} {m : Nat} {f : Nat → Value} (h : Wr w B (some ⟨b, 0, none⟩) m f) (k : Nat) (hk : k * 2 + 2 ≤ m) (v0 v1 : Value) :
    Wr ((w.setCell ⟨b, k * 2, none⟩ v0).setCell ⟨b, k * 2 + 1, none⟩ v1) B (some ⟨b, 0, none⟩) m (fun j => if j / 2 = k then [v0, v1].getD (j % 2) undef else f j) := by
  have h0 := h.set (k * 2) (by omega) v0
  have h1 := h0.set (k * 2 + 1) (by omega) v1
  simp only [Nat.zero_add] at h1
  refine h1.congr (fun j _ => ?_)
  by_cases hj : j / 2 = k
  · have : j = k * 2 ∨ j = k * 2 + 1 := by omega
    rcases this with rfl | rfl
    · rw [if_neg (by omega), if_pos rfl, if_pos (by omega), show k * 2 % 2 = 0 by omega]; rfl
    · rw [if_pos rfl, if_pos (by omega), show (k * 2 + 1) % 2 = 1 by omega]; rfl
  · rw [if_neg (by omega), if_neg (by omega), if_neg hj]

theorem partO_succ (l : List Ou) (k : Nat) (j : Nat) : (if j / 2 = k then [Value.int .i64 (l.getD k Ou.none).sec, .string (l.getD k Ou.none).text].getD (j % 2) undef else partO l k j) = partO l (k + 1) j := by
  unfold partO
  by_cases h : j / 2 = k
  · rw [if_pos h, if_pos (by omega)]
    unfold ocell
    rw [h]; rfl
  · by_cases h2 : j < k * 2
    · rw [if_neg h, if_pos h2, if_pos (by omega)]
    · rw [if_neg h, if_neg h2, if_neg (by omega)]

theorem wr_two {w : World} {B b : Nat} {m : Nat} {f : Nat → Value} (h : Wr w B (some ⟨b, 0, none⟩) m f) (k : Nat) (hk : k * 2 + 2 ≤ m) :
    (∃ v, w.cell? ⟨b, k * 2, none⟩ = some v) ∧ (∃ v, w.cell? ⟨b, k * 2 + 1, none⟩ = some v) ∧ w.frozen? ⟨b, k * 2, none⟩ = false ∧ w.frozen? ⟨b, k * 2 + 1, none⟩ = false := by
  obtain ⟨_, _, e0, _, h0, z0⟩ := h (k * 2) (by omega)
  obtain ⟨_, _, e1, _, h1, z1⟩ := h (k * 2 + 1) (by omega)
  cases e0; cases e1
  rw [Nat.zero_add] at h0 h1 z0 z1
  exact ⟨⟨_, h0⟩, ⟨_, h1⟩, z0, z1⟩

set_option maxRecDepth 100000 in
set_option maxHeartbeats 1000000 in
theorem toOutS (w : World) (a : Option Addr) (cap : Nat) (l : List Ou) (S : Ous w a l) (hl : l.length ≤ 1048576) :
    Calls Tryz.prog 58 #[.slice a l.length cap] w fun e w' => ∃ g, e = .returned (.slice (some ⟨g, 0, none⟩) l.length l.length) ∧ w.heap.size ≤ g ∧ g < w'.heap.size ∧ OusW w' w.heap.size (some ⟨g, 0, none⟩) l ∧ Below w.heap.size w w' := by
  have hmk := make_rows (P := Tryz.prog) 37 105 (.agg #[.int .i64 0, .string ByteArray.empty]) 2 24 Tryz.underlying37 infoO .i64 .i64 l.length (by omega) (by omega)
  have HS := hid S
  have hw0 := wr_new w (madeCells (Value.agg #[.int .i64 0, .string ByteArray.empty]).cells (l.length * 2)) 105 (l.length * 2) (partO l 0) (fun i hi => by
    simp [madeCells, hi, partO, Ou.none, Ou.cells, Value.cells]
    have : i % 2 = 0 ∨ i % 2 = 1 := by omega
    rcases this with h | h <;> simp [h])
  generalize madeCells (Value.agg #[.int .i64 0, .string ByteArray.empty]).cells (l.length * 2) = cur at hmk hw0
  have HW := hid hw0
  clear S hw0
  go_enter Tryz.func58, Tryz.ntmps58
  go_wp2
  go_loopw [4] (fun i wr => ∃ k : Nat, k ≤ l.length ∧ i = .int .i64 (k : Int) ∧ w.heap.size < wr.heap.size ∧ Hid (Wr wr w.heap.size (some ⟨w.heap.size, 0, none⟩) (l.length * 2) (partO l k)) ∧ Hid (Below w.heap.size w wr)) (fun i _ => l.length - (intOf i).toNat)
  case atStart => exact ⟨0, Nat.zero_le _, rfl, lt_alloc _ _, HW, (Below.refl _ _).alloc (Nat.le_refl _) _⟩
  case round =>
    obtain ⟨k, hk, rfl, hsz, HW', HB⟩ := hrel
    by_cases hlt : k < l.length
    · obtain ⟨b, off, rfl, c0, c1⟩ := Ous.at_ (HS.out.below HB.out) k hlt
      generalize hx : l.getD k Ou.none = x at c0 c1
      have HX := hid hx
      clear hx
      obtain ⟨xs, xt⟩ := x
      simp only [] at c0 c1
      go_wp2_with fail
      refine (toOut _ xs xt).mono ?_
      rintro e w1 ⟨rfl, hb1⟩
      have HW1 := hid (HW'.out.below hb1)
      have HB1 := hid (HB.out.trans (hb1.mono (Nat.le_of_lt hsz)))
      have hsz1 : w.heap.size < w1.heap.size := Nat.lt_of_lt_of_le hsz hb1.size
      obtain ⟨⟨u0, d0⟩, ⟨u1, d1⟩, z0, z1⟩ := wr_two HW1.out k (by omega)
      clear hb1 c0 c1
      go_wp2
      refine ⟨⟨k + 1, by omega, by go_num, by simpa using hsz1, ?_, (HB1.out.setCell (Nat.le_refl _) _).setCell (Nat.le_refl _) _⟩, by simp [intOf]; omega⟩
      exact (set2 HW1.out k (by omega) _ _).congr (fun j _ => by rw [← partO_succ, HX.out])
    · obtain rfl : k = l.length := by omega
      go_wp2
      go_ret
      exact ⟨_, rfl, Nat.le_refl _, hsz, HW'.out.congr (fun i hi => by simp [partO, hi]), HB.out⟩

set_option maxRecDepth 100000 in
set_option maxHeartbeats 1000000 in
theorem eqOut (w : World) (x : Int) (s : ByteArray) : Calls Tryz.prog 81 #[.agg #[.int .i64 x, .string s], .agg #[.int .i64 x, .string s]] w fun e w' => e = .returned (.bool true) ∧ Below w.heap.size w w' := by
  go_enter Tryz.func81, Tryz.ntmps81
  go_wp2
  go_ret
  exact ⟨rfl, by go_grown⟩

set_option maxRecDepth 100000 in
set_option maxHeartbeats 1000000 in
theorem eqOutS (w : World) (a b : Option Addr) (ca cb : Nat) (l : List Ou) (S : Ous w a l) (T : Ous w b l) (hl : l.length ≤ maxLen) :
    Calls Tryz.prog 69 #[.slice a l.length ca, .slice b l.length cb] w fun e w' => e = .returned (.bool true) ∧ Below w.heap.size w w' := by
  unfold maxLen at hl
  have HS := hid S
  have HT := hid T
  clear S T
  go_enter Tryz.func69, Tryz.ntmps69
  go_wp2
  go_loopw [5] (fun i wr => ∃ k : Nat, k ≤ l.length ∧ i = .int .i64 (k : Int) ∧ Hid (Below w.heap.size w wr)) (fun i _ => l.length - (intOf i).toNat)
  case atStart => exact ⟨0, Nat.zero_le _, rfl, Below.refl _ _⟩
  case round =>
    obtain ⟨k, hk, rfl, HB⟩ := hrel
    by_cases hlt : k < l.length
    · obtain ⟨b1, o1, rfl, c0, c1⟩ := Ous.at_ (HS.out.below HB.out) k hlt
      obtain ⟨b2, o2, rfl, d0, d1⟩ := Ous.at_ (HT.out.below HB.out) k hlt
      generalize l.getD k Ou.none = x at c0 c1 d0 d1
      obtain ⟨xs, xt⟩ := x
      simp only [] at c0 c1 d0 d1
      have hne : Nonempty (BW wr) := ⟨⟨wr, Below.refl _ _⟩⟩
      replace c0 := BW.cell c0
      replace c1 := BW.cell c1
      replace d0 := BW.cell d0
      replace d1 := BW.cell d1
      go_wp2
      refine wp_region_bw (by kernel_rfl) (by kernel_rfl) ?_
      repeat (go_big_quiet_step (first
        | (go_at_call 81; refine bw_below (eqOut _ xs xt))))
      refine wpQuiet_nil ?_
      intro _ hw'
      obtain ⟨u, rfl⟩ := hw'
      have HU := hid (HB.out.trans (u.bel.mono HB.out.size))
      clear c0 c1 d0 d1
      go_wp2
      exact ⟨⟨k + 1, by omega, by go_num, HU⟩, by simp [intOf]; omega⟩
    · obtain rfl : k = l.length := by omega
      go_wp2
      go_ret
      exact ⟨rfl, HB.out⟩

end Go.Proofs.YtlhnkdogafnnpaaGreat.Sec
