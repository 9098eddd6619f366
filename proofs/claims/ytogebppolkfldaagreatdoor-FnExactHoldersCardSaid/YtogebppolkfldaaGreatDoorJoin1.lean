/-
  What append makes of a row that a call owns where what is appended may be no slice at all. No condition.
  A tally of leases: what was met, each lease once, and how often. No condition.
  Plain: a journal's text; lists of sectors with texts in memory. No condition.
  The walks of spec.l4Piece, impl.showPiece, spec.l4OpOk and impl.isJournalOp. No condition but texts of at most 2^20 bytes.
  The walks of impl.areOuts, impl.isJournal and spec.l4JournalOk. No condition but texts and lists of at most 2^20.
  The walks of impl.isJournal and spec.l4JournalOk: both answer whether a journal is right. No condition but texts and lists of at most 2^20.
  The walk of spec.l4JournalOk: it answers whether a journal is right. No condition but texts and lists of at most 2^20.
  The walks of spec.ShowJournal, impl.showOp and impl.showOuts. No condition but texts and lists of at most 2^20.
  The walks of impl.showOp, impl.showOuts and impl.ShowJournal. Condition for the last: the table of sixteen sums holds what the program's text lays.
  The walks of impl.showOuts and impl.ShowJournal. Condition for the last: the table of sixteen sums holds what the program's text lays.
  The walks of laws.toWrite, laws.toWriteS and laws.toDisk: a disk laid anew. No condition but lengths of at most 2^20.
  The walks of laws.szStringS, laws.szIntS, laws.szWrite, laws.szWriteS and laws.szDisk: where they leave a number that isn't below 0, all lengths are at most what was left. No condition but texts that Go can hold.
  The walks of laws.eqStringS, laws.eqIntS, laws.eqWrite, laws.eqWriteS and laws.eqDisk: they tell whether two lists, writes or disks are the same. No condition.
  The walks of the laws' helpers for journals: sizes, and a journal laid anew. No condition but texts and lists that Go can hold.
  The walks of laws.toOp, laws.toOut, laws.toOutS and laws.toJournal: a journal laid anew. No condition but lists of at most 2^20.
  The walks of laws.eqOp, laws.eqOut, laws.eqOutS and laws.eqJournal at two that are alike. No condition but lists that Go can hold.
  The walks of laws.markText, laws.markStringS, laws.markIntS, laws.heldStringS and laws.heldIntS: marks are laid into a slice, one after the other, and found there again. No condition but slices that may be written and numbers that are not too great.
  The walks of laws.markOutS, laws.heldOutS, laws.markJournal and laws.heldJournal: marks are laid into a list of outs and found there again. No condition but lists that may be written.
  Lists of sectors with texts in memory, and their marks: in a seat that holds chapter 4's texts they stand there. No condition.
  The walks of impl.namedParts, impl.highestVol, spec.l5Vol and small parts beside them; calls compared. No condition.
  The walk of spec.OpOk: which calls are right. No condition.
  The walk of spec.OpOk at calls that name a place, a copy, nothing; and whole. No condition but texts of at most 2^20 bytes.
  The walk of impl.OpOk: which calls are right. No condition but texts of at most 2^20 bytes.
  A call that comes in as an argument, and the walk of laws.FnExactOpOk: the law answers true, and nothing that was there is changed. No condition.
  Plain: cells stored one behind the other. No condition.
-/
import Derived.Test.YtogebppolkfldaaGreatDoorAppRow
import Derived.Test.YtogebppolkfldaaGreatDoorRdNum
import Derived.Test.YtogebppolkfldaaGreatDoorSecRows
import Derived.Test.YtogebppolkfldaaGreatDoorSecLease2
import Derived.Laws.StructEq
import Derived.RegionTactic
import Derived.BigRegion
import Derived.Deep.RegionWith
import Derived.Deep.RegionHeldLaw
import Derived.Test.YtogebppolkfldaaGreatDoorToRows
import Derived.Test.YtogebppolkfldaaGreatDoorOwn
import Derived.Outline
import Derived.Deep.QuietTactic
import Derived.BigQuiet
import Derived.Laws.BytesArg
import Derived.Test.YtogebppolkfldaaGreatDoorQuietB
import Derived.Test.YtogebppolkfldaaGreatDoorRows
import Derived.ProofKit
import Derived.OpenShut
import Derived.ShutString
import Derived.Lib.SmallJoins
import Derived.Deep.Strs
import Derived.Deep.Slices
import Derived.Carry
import Derived.Test.YtogebppolkfldaaGreatDoorMem
namespace Go.Proofs.YtogebppolkfldaaGreatDoor.Mem
open Go.RowKit
set_option linter.unusedVariables false

/-- 'append' of nothing on an owned row. -/
theorem run_app_none {P : Program} (w : World) (B : Nat) (t ty e : TypeId) (z : Value) (k bytes : Nat) (ht : P.underlying t = some (.slice e)) (hinfo : (P.info? e).map (fun i => (i.zero, i.size, i.bytes)) = some (some z, k, bytes)) (hzs : z.cells.size = k) (hk : 0 < k)
    (v : Value) (n : Nat) (xs : List Value) (h : RowO w B e k v n xs) (c : Nat) :
    (Builtin.append_ #[t, t] ty #[v, .slice none 0 c]).run P w = .ok v w := by
  obtain ⟨i, hi, hzz⟩ := Option.map_eq_some_iff.1 hinfo
  simp only [Prod.mk.injEq] at hzz
  obtain ⟨hz, rfl, rfl⟩ := hzz
  have hs := src_of (P := P) (w := w) (a := none) (m := 0) (c := c) (news := []) ht (by simp) hk (fun i hi => by omega) (fun u hu => by simp at hu)
  rcases h with ⟨b, rfl, rfl, rfl⟩ | ⟨h, a, c', rfl⟩
  · cases b with
    | none => simp [Builtin.append_, run_underlying ht, sizeOf, typeInfo, hi, hs.cells, Builtin.lenOf]
    | some ad => simp [Builtin.append_, run_underlying ht, sizeOf, typeInfo, hi, hs.cells, Builtin.lenOf, storeCells]
  · obtain ⟨hl, h⟩ := h
    rcases h with ⟨e, _⟩ | ⟨g, cap, cur, e, hB, hg, hn, hm, hsz, htk⟩
    · cases e
    · cases e
      simp [Builtin.append_, run_underlying ht, sizeOf, typeInfo, hi, hs.cells, Builtin.lenOf, storeCells, hn]

/-- 'append' on an owned row, at the list of a plain region's operations; what is appended may be no slice at all. -/
theorem wpList_appO {P : Program} (t e : TypeId) (z : Value) (k bytes : Nat) (ht : P.underlying t = some (.slice e)) (hinfo : (P.info? e).map (fun i => (i.zero, i.size, i.bytes)) = some (some z, k, bytes)) (hzs : z.cells.size = k) (hk : 0 < k) (hby : bytes ≤ 1048576)
    {ops : Array Oper} {rest : List Oper} {o : Oper} {a : Act} {Q : Exit → Act → World → Prop} (w : World) (hgd : o.guard = none) (s x : Operand)
    (ho : o.op = .call { callee := .builtin .append, args := #[s, x], argTypes := #[t, t] })
    (B : Nat) (v : Value) (n : Nat) (xs : List Value) (hs : a.eval s = v) (h : RowO w B e k v n xs) (ad : Option Addr) (m c : Nat) (news : List Value) (hx : a.eval x = .slice ad m c) (hl : news.length = m * k) (hS : Sl w ad (m * k) (fun i => news.getD i undef)) (h1 : ∀ u ∈ news, u.oneCell' = true)
    (hm : n + m ≤ 1048576) (hB : B ≤ w.heap.size)
    (hK : ∀ v' w', RowO w' B e k v' (n + m) (xs ++ news) → Kept (fun b => rb v = some b) w w' → (rb v' = none ∨ rb v' = rb v ∨ (rb v' = some w.heap.size ∧ w.heap.size < w'.heap.size)) → wpList P ops Q rest (a.put o.dst v') w') :
    wpList P ops Q (o :: rest) a w := by
  cases ad with
  | some ad => exact wpList_app t e z k bytes ht hinfo hzs hk hby w hgd s x ho B v n xs hs h ad m c news hx hl hS h1 hm hB hK
  | none =>
    have hm0 : m = 0 := by
      rcases Nat.eq_zero_or_pos m with h | h
      · exact h
      · obtain ⟨_, _, e, _⟩ := hS 0 (Nat.mul_pos h hk)
        cases e
    subst hm0
    have hn0 : news = [] := List.eq_nil_of_length_eq_zero (by simpa using hl)
    subst hn0
    refine wpList_plain hgd fun K hK' => ?_
    have hr := run_app_none (P := P) w B t o.type e z k bytes ht hinfo hzs hk v n xs h c
    unfold Oper.wp execOp
    simp only [ho, resolve, invoke, builtin, Sem.run_bind, Sem.run_pure, Result.andThen_ok, List.map_toArray, List.map_cons, List.map_nil, hs, hx, hr]
    exact hK' _ _ (hK v w (by simpa using h) (Kept.refl _ _) (Or.inr (Or.inl rfl)))

end Go.Proofs.YtogebppolkfldaaGreatDoor.Mem

namespace Go.Proofs.YtogebppolkfldaaGreatDoor.Hd
open Go.RowKit Go.Proofs.YtogebppolkfldaaGreatDoor.Mem Go.Proofs.YtogebppolkfldaaGreatDoor.Rd
set_option linter.unusedVariables false

abbrev LK := Int × Int
abbrev Tal := List (LK × Int)
def lkc (L : List LK) : List Value := L.flatMap fun p => [.int .i64 p.1, .int .i64 p.2]
def tcs (T : Tal) : List Value := T.flatMap fun p => [.int .i64 p.1.1, .int .i64 p.1.2, .int .i64 p.2]

theorem lkc_length (T : List LK) : (lkc T).length = T.length * 2 := by
  induction T with
  | nil => rfl
  | cons x T ih =>
    show ([Value.int .i64 x.1, .int .i64 x.2] ++ lkc T).length = _
    rw [List.length_append, ih]
    simp; omega
theorem lkc_at (T : List LK) (i : Nat) (h : i < T.length) : (lkc T).getD (i * 2) undef = .int .i64 (T.getD i (0, 0)).1 ∧ (lkc T).getD (i * 2 + 1) undef = .int .i64 (T.getD i (0, 0)).2 := by
  induction T generalizing i with
  | nil => simp at h
  | cons x T ih =>
    cases i with
    | zero => exact ⟨rfl, rfl⟩
    | succ i =>
      have h2 := ih i (by simpa using h)
      rw [show (i + 1) * 2 = i * 2 + 2 by omega]
      exact h2
theorem lkc_more (T : List LK) (p : LK) : lkc (T ++ [p]) = lkc T ++ [.int .i64 p.1, .int .i64 p.2] := by simp [lkc]
theorem tcs_length (T : Tal) : (tcs T).length = T.length * 3 := by
  induction T with
  | nil => rfl
  | cons x T ih =>
    show ([Value.int .i64 x.1.1, .int .i64 x.1.2, .int .i64 x.2] ++ tcs T).length = _
    rw [List.length_append, ih]
    simp; omega
theorem tcs_at (T : Tal) (i : Nat) (h : i < T.length) : (tcs T).getD (i * 3) undef = .int .i64 (T.getD i ((0, 0), 0)).1.1 ∧ (tcs T).getD (i * 3 + 1) undef = .int .i64 (T.getD i ((0, 0), 0)).1.2 ∧ (tcs T).getD (i * 3 + 2) undef = .int .i64 (T.getD i ((0, 0), 0)).2 := by
  induction T generalizing i with
  | nil => simp at h
  | cons x T ih =>
    cases i with
    | zero => exact ⟨rfl, rfl, rfl⟩
    | succ i =>
      have h2 := ih i (by simpa using h)
      rw [show (i + 1) * 3 = i * 3 + 3 by omega]
      exact h2
theorem tcs_more (T : Tal) (p : LK × Int) : tcs (T ++ [p]) = tcs T ++ [.int .i64 p.1.1, .int .i64 p.1.2, .int .i64 p.2] := by simp [tcs]
theorem tcs_set (T : Tal) (i : Nat) (h : i < T.length) (n : Int) : (tcs T).set (i * 3 + 2) (.int .i64 n) = tcs (T.set i ((T.getD i ((0, 0), 0)).1, n)) := by
  induction T generalizing i with
  | nil => simp at h
  | cons x T ih =>
    cases i with
    | zero => rfl
    | succ i =>
      have h2 := ih i (by simpa using h)
      rw [show (i + 1) * 3 + 2 = (i * 3 + 2) + 3 by omega]
      show Value.int .i64 x.1.1 :: Value.int .i64 x.1.2 :: Value.int .i64 x.2 :: (tcs T).set (i * 3 + 2) (.int .i64 n) = _
      rw [h2]
      rfl

/-- The place of a thing in a tally, or that it has none. -/
def PlaceIs (T : Tal) (x : LK) (z : Int) : Prop := (∃ i : Nat, i < T.length ∧ z = (i : Int) ∧ (T.getD i ((0, 0), 0)).1 = x) ∨ (z = -1 ∧ ∀ j, j < T.length → (T.getD j ((0, 0), 0)).1 ≠ x)

/-- A tally is one of a list. -/
structure TalIs (T : Tal) (L : List LK) : Prop where
  len : T.length ≤ L.length
  key : ∀ i j, i < T.length → j < T.length → (T.getD i ((0, 0), 0)).1 = (T.getD j ((0, 0), 0)).1 → i = j
  num : ∀ i, i < T.length → (T.getD i ((0, 0), 0)).2 = (L.count (T.getD i ((0, 0), 0)).1 : Int)
  all : ∀ x ∈ L, ∃ i, i < T.length ∧ (T.getD i ((0, 0), 0)).1 = x

theorem tal_nil : TalIs [] [] := ⟨Nat.le_refl _, fun i j h => by simp at h, fun i h => by simp at h, fun x h => by simp at h⟩

theorem getD_set {α : Type} (T : List α) (i j : Nat) (p d : α) (hi : i < T.length) : (T.set i p).getD j d = if i = j then p else T.getD j d := by
  simp only [List.getD, List.getElem?_set]
  by_cases h : i = j
  · subst h; simp [hi]
  · simp [h]

theorem count_more (L : List LK) (x y : LK) : (L ++ [x]).count y = L.count y + (if x = y then 1 else 0) := by
  rw [List.count_append]
  congr 1
  by_cases h : x = y
  · subst h; simp
  · simp [h]

theorem tal_found {T : Tal} {L : List LK} (h : TalIs T L) {x : LK} {i : Nat} (hi : i < T.length) (hx : (T.getD i ((0, 0), 0)).1 = x) : TalIs (T.set i ((T.getD i ((0, 0), 0)).1, (T.getD i ((0, 0), 0)).2 + 1)) (L ++ [x]) := by
  have hk : ∀ j, ((T.set i ((T.getD i ((0, 0), 0)).1, (T.getD i ((0, 0), 0)).2 + 1)).getD j ((0, 0), 0)).1 = (T.getD j ((0, 0), 0)).1 := fun j => by
    rw [getD_set T i j _ _ hi]
    split
    · rename_i e; rw [e]
    · rfl
  refine ⟨?_, ?_, ?_, ?_⟩
  · rw [List.length_set, List.length_append]
    have := h.len
    omega
  · intro a b ha hb e
    rw [List.length_set] at ha hb
    rw [hk, hk] at e
    exact h.key a b ha hb e
  · intro j hj
    rw [List.length_set] at hj
    rw [hk, count_more, getD_set T i j _ _ hi]
    by_cases e : i = j
    · subst e
      rw [if_pos rfl, if_pos hx.symm]
      show (T.getD i ((0, 0), 0)).2 + 1 = _
      rw [h.num i hi]
      omega
    · rw [if_neg e, if_neg (fun e2 => e (h.key i j hi hj (by rw [hx, e2]))), h.num j hj]
      simp
  · intro y hy
    rw [List.length_set]
    rcases List.mem_append.1 hy with hy | hy
    · obtain ⟨j, hj, e⟩ := h.all y hy
      exact ⟨j, hj, by rw [hk]; exact e⟩
    · obtain rfl : y = x := by simpa using hy
      exact ⟨i, hi, by rw [hk]; exact hx⟩

theorem tal_new {T : Tal} {L : List LK} (h : TalIs T L) {x : LK} (hx : ∀ j, j < T.length → (T.getD j ((0, 0), 0)).1 ≠ x) : TalIs (T ++ [(x, 1)]) (L ++ [x]) := by
  have hg : ∀ j, j < T.length → (T ++ [(x, 1)]).getD j ((0, 0), 0) = T.getD j ((0, 0), 0) := fun j hj => by
    simp [List.getD, List.getElem?_append_left hj]
  have hl : (T ++ [(x, (1 : Int))]).getD T.length ((0, 0), 0) = (x, 1) := by simp [List.getD]
  have hn : L.count x = 0 := List.count_eq_zero.2 (fun hm => by
    obtain ⟨j, hj, e⟩ := h.all x hm
    exact hx j hj e)
  refine ⟨?_, ?_, ?_, ?_⟩
  · simp only [List.length_append, List.length_cons, List.length_nil]
    have := h.len
    omega
  · intro a b ha hb e
    simp only [List.length_append, List.length_cons, List.length_nil] at ha hb
    by_cases h1 : a < T.length <;> by_cases h2 : b < T.length
    · rw [hg a h1, hg b h2] at e
      exact h.key a b h1 h2 e
    · obtain rfl : b = T.length := by omega
      rw [hg a h1, hl] at e
      exact absurd e (hx a h1)
    · obtain rfl : a = T.length := by omega
      rw [hg b h2, hl] at e
      exact absurd e.symm (hx b h2)
    · omega
  · intro j hj
    simp only [List.length_append, List.length_cons, List.length_nil] at hj
    by_cases h1 : j < T.length
    · rw [hg j h1, count_more, if_neg (fun e => hx j h1 e.symm), h.num j h1]
      simp
    · obtain rfl : j = T.length := by omega
      rw [hl, count_more, hn]
      simp
  · intro y hy
    simp only [List.length_append, List.length_cons, List.length_nil]
    rcases List.mem_append.1 hy with hy | hy
    · obtain ⟨j, hj, e⟩ := h.all y hy
      exact ⟨j, by omega, by rw [hg j hj]; exact e⟩
    · obtain rfl : y = x := by simpa using hy
      exact ⟨T.length, by omega, by rw [hl]⟩

theorem tal_in {T : Tal} {L : List LK} (h : TalIs T L) {x : LK} {i : Nat} (hi : i < T.length) (hx : (T.getD i ((0, 0), 0)).1 = x) : (T.getD i ((0, 0), 0)).2 = (L.count x : Int) := by rw [h.num i hi, hx]
theorem tal_out {T : Tal} {L : List LK} (h : TalIs T L) {x : LK} (hx : ∀ j, j < T.length → (T.getD j ((0, 0), 0)).1 ≠ x) : L.count x = 0 := List.count_eq_zero.2 (fun hm => by
  obtain ⟨j, hj, e⟩ := h.all x hm
  exact hx j hj e)

/-- A tally in memory: read. -/
def TalS (w : World) (a : Option Addr) (T : Tal) : Prop := Sl w a (T.length * 3) (fun i => (tcs T).getD i undef)
/-- A tally of the call's own. -/
def TalO (w : World) (B : Nat) (v : Value) (T : Tal) : Prop := RowO w B 126 3 v T.length (tcs T)
/-- A list of leases, read, and one of the call's own. -/
def LksS (w : World) (a : Option Addr) (L : List LK) : Prop := Sl w a (L.length * 2) (fun i => (lkc L).getD i undef)
def LksO (w : World) (B : Nat) (v : Value) (L : List LK) : Prop := RowO w B 53 2 v L.length (lkc L)

theorem TalO.s {w : World} {B : Nat} {v : Value} {T : Tal} (h : TalO w B v T) : ∃ a cap, v = .slice a T.length cap ∧ TalS w a T := by
  obtain ⟨a, cap, e, hw⟩ := RowO.wr h
  exact ⟨a, cap, e, hw.sl⟩
theorem LksO.s {w : World} {B : Nat} {v : Value} {L : List LK} (h : LksO w B v L) : ∃ a cap, v = .slice a L.length cap ∧ LksS w a L := by
  obtain ⟨a, cap, e, hw⟩ := RowO.wr h
  exact ⟨a, cap, e, hw.sl⟩

set_option maxRecDepth 100000 in
set_option maxHeartbeats 1000000 in
theorem placeFn (p : LK) (q : Int) (x : LK) (c : Nat) (w : World) (h : Row w c [.int .i64 x.1, .int .i64 x.2]) :
    Calls Tryz.prog 96 #[.agg #[.int .i64 p.1, .int .i64 p.2, .int .i64 q], .pointer (some ⟨c, 0, none⟩)] w fun e w' => e = .returned (.bool (decide (p = x))) ∧ Below w.heap.size w w' := by
  obtain ⟨p1, p2⟩ := p
  obtain ⟨x1, x2⟩ := x
  obtain ⟨wa, hwa, ez, A0, B0⟩ := one_new w [.int .i64 p1, .int .i64 p2, .int .i64 q] 126
  have c0 := (h.below B0 h.lt).c 0 rfl
  have c1 := (h.below B0 h.lt).c 1 rfl
  have a0 := A0.c 0 rfl
  have a1 := A0.c 1 rfl
  have HB := hid B0
  clear A0 B0 ez h
  go_enter Tryz.func96, Tryz.ntmps96
  go_wp2_with fail
  all_goals (try simp only [hwa])
  all_goals (try go_wp2)
  all_goals go_ret
  all_goals (first | exact ⟨rfl, HB.out⟩ | (refine ⟨?_, HB.out⟩; simp [*]))

set_option maxRecDepth 100000 in
set_option maxHeartbeats 1000000 in
theorem indexFunc (T : Tal) (x : LK) (a : Option Addr) (cap c : Nat) (w : World) (S : TalS w a T) (h : Row w c [.int .i64 x.1, .int .i64 x.2]) (hl : T.length ≤ 1000) :
    Calls Tryz.prog 95 #[.slice a T.length cap, .func (.func 96) #[] #[.pointer (some ⟨c, 0, none⟩)]] w fun e w' => ∃ z, e = .returned (.int .i64 z) ∧ PlaceIs T x z ∧ Below w.heap.size w w' := by
  have HS := hid S
  have HC := hid h
  clear S h
  go_enter Tryz.func95, Tryz.ntmps95
  go_wp2
  go_loopw [8] (fun i wr => ∃ k : Nat, k ≤ T.length ∧ i = .int .i64 (k : Int) ∧ Hid (∀ j, j < k → (T.getD j ((0, 0), 0)).1 ≠ x) ∧ Hid (Below w.heap.size w wr)) (fun i _ => T.length - (intOf i).toNat)
  case atStart => exact ⟨0, Nat.zero_le _, rfl, fun j hj => by omega, Below.refl _ _⟩
  case round =>
    obtain ⟨k, hk, rfl, HN, HB⟩ := hrel
    by_cases hlt : k < T.length
    · obtain ⟨b, off, rfl, c0⟩ := (Sl.below HS.out HB.out) (k * 3) (by omega)
      obtain ⟨b1, off1, e1, c1⟩ := (Sl.below HS.out HB.out) (k * 3 + 1) (by omega)
      obtain ⟨b2, off2, e2, c2⟩ := (Sl.below HS.out HB.out) (k * 3 + 2) (by omega)
      cases e1
      cases e2
      replace c0 := c0.trans (congrArg some (tcs_at T k hlt).1)
      replace c1 := c1.trans (congrArg some (tcs_at T k hlt).2.1)
      replace c2 := c2.trans (congrArg some (tcs_at T k hlt).2.2)
      rw [← Nat.add_assoc] at c1 c2
      have HR : Hid (Row wr c [.int .i64 x.1, .int .i64 x.2]) := HC.out.below HB.out HC.out.lt
      obtain ⟨q, hq⟩ : ∃ q, T.getD k ((0, 0), 0) = q := ⟨_, rfl⟩
      have HQ := hid hq
      rw [hq] at c0 c1 c2
      clear hq
      obtain ⟨⟨q1, q2⟩, q3⟩ := q
      simp only [] at c0 c1 c2
      go_wp2_with fail
      refine (placeFn (q1, q2) q3 x c wr HR.out).mono ?_
      rintro e w1 ⟨rfl, b1⟩
      have HB1 := hid (HB.out.trans (b1.mono HB.out.size))
      clear b1
      by_cases hx : (q1, q2) = x
      · have HX : Hid (PlaceIs T x (k : Int)) := Or.inl ⟨k, hlt, rfl, by rw [HQ.out]; exact hx⟩
        rw [decide_eq_true hx]
        go_wp2
        go_ret
        exact ⟨_, rfl, HX.out, HB1.out⟩
      · have HX : Hid (∀ j, j < k + 1 → (T.getD j ((0, 0), 0)).1 ≠ x) := fun j hj => by
          by_cases e : j = k
          · subst e; rw [HQ.out]; exact hx
          · exact HN.out j (by omega)
        rw [decide_eq_false hx]
        go_wp2
        exact ⟨⟨k + 1, by omega, by go_num, HX, HB1⟩, by simp [intOf]; omega⟩
    · obtain rfl : k = T.length := by omega
      go_wp2
      go_ret
      exact ⟨_, rfl, Or.inr ⟨rfl, HN.out⟩, HB.out⟩

set_option maxRecDepth 100000 in
set_option maxHeartbeats 1000000 in
theorem place (T : Tal) (x : LK) (a : Option Addr) (cap : Nat) (w : World) (S : TalS w a T) (hl : T.length ≤ 1000) :
    Calls Tryz.prog 60 #[.slice a T.length cap, .agg #[.int .i64 x.1, .int .i64 x.2]] w fun e w' => ∃ z, e = .returned (.int .i64 z) ∧ PlaceIs T x z ∧ Below w.heap.size w w' := by
  have hmf : ∀ (fn : Fn) (first cap : Array Value) (w : World), (Instr.makeFunc fn first cap).run Tryz.prog w = .ok (.func fn first cap) w := fun _ _ _ _ => rfl
  obtain ⟨wa, hwa, ez, A0, B0⟩ := one_new w [.int .i64 x.1, .int .i64 x.2] 53
  have HS : Hid (TalS wa a T) := Sl.below S B0
  have HA := hid A0
  have HB := hid B0
  clear A0 B0 ez S
  go_enter Tryz.func60, Tryz.ntmps60
  go_wp2_with fail
  try simp only [hwa]
  go_wp2_with fail
  refine (indexFunc T x a cap w.heap.size wa HS.out HA.out hl).mono ?_
  rintro e w1 ⟨z, rfl, hz, b1⟩
  have HZ := hid hz
  have HB1 := hid (HB.out.trans (b1.mono HB.out.size))
  clear hz b1
  go_wp2
  go_ret
  exact ⟨_, rfl, HZ.out, HB1.out⟩

set_option maxRecDepth 100000 in
set_option maxHeartbeats 1000000 in
theorem timesOf (T : Tal) (L : List LK) (x : LK) (a : Option Addr) (cap : Nat) (w : World) (S : TalS w a T) (hl : T.length ≤ 1000) (hT : TalIs T L) :
    Calls Tryz.prog 27 #[.slice a T.length cap, .agg #[.int .i64 x.1, .int .i64 x.2]] w fun e w' => e = .returned (.int .i64 (L.count x : Int)) ∧ Below w.heap.size w w' := by
  have HT := hid hT
  obtain ⟨wa, hwa, ez, A0, B0⟩ := one_new w [.int .i64 x.1, .int .i64 x.2] 53
  have HS : Hid (TalS wa a T) := Sl.below S B0
  have a0 := A0.c 0 rfl
  have a1 := A0.c 1 rfl
  have HB0 := hid B0
  clear A0 B0 ez S hT
  go_enter Tryz.func27, Tryz.ntmps27
  go_wp2_with fail
  try simp only [hwa]
  go_wp2_with fail
  refine (place T x a cap _ HS.out hl).mono ?_
  rintro e w1 ⟨z, rfl, hz, b1⟩
  have HB := hid (HB0.out.trans (b1.mono HB0.out.size))
  have HS1 : Hid (TalS w1 a T) := Sl.below HS.out b1
  clear b1 HS HB0
  rcases hz with ⟨i, hi, rfl, hx⟩ | ⟨rfl, hx⟩
  · obtain ⟨b, off, rfl, c1⟩ := HS1.out (i * 3 + 2) (by omega)
    replace c1 := c1.trans (congrArg some (tcs_at T i hi).2.2)
    rw [← Nat.add_assoc] at c1
    have HN := hid (tal_in HT.out hi hx)
    generalize (T.getD i ((0, 0), 0)).2 = n at *
    clear hx
    go_wp2
    go_ret
    exact ⟨by rw [← HN.out]; rfl, HB.out⟩
  · have HN := hid (tal_out HT.out hx)
    clear hx
    go_wp2
    go_ret
    exact ⟨by rw [HN.out]; rfl, HB.out⟩

theorem infoMeet : (Tryz.prog.info? 126).map (fun i => (i.zero, i.size, i.bytes)) = some (some (.agg #[.int .i64 0, .int .i64 0, .int .i64 0]), 3, 24) := by kernel_rfl
theorem infoLease : (Tryz.prog.info? 53).map (fun i => (i.zero, i.size, i.bytes)) = some (some (.agg #[.int .i64 0, .int .i64 0]), 2, 16) := by kernel_rfl

theorem three_row (w : World) (x y z : Int) : Sl (w.alloc (.cells #[.int .i64 x, .int .i64 y, .int .i64 z] 126)) (some ⟨w.heap.size, 0, none⟩) (1 * 3) (fun i => [Value.int .i64 x, .int .i64 y, .int .i64 z].getD i undef) :=
  (wr_new w #[.int .i64 x, .int .i64 y, .int .i64 z] _ 3 _ (fun i hi => by
    rcases i with _ | _ | _ | i
    · rfl
    · rfl
    · rfl
    · omega)).sl

theorem rowO_form {w : World} {B : Nat} {e : TypeId} {k : Nat} {v : Value} {n : Nat} {xs : List Value} (h : RowO w B e k v n xs) (hn : 0 < n) : ∃ g c, v = .slice (some ⟨g, 0, none⟩) n (c + 1) := by
  rcases h with ⟨_, _, rfl, _⟩ | ⟨h, a, c, e⟩
  · omega
  · rcases h.2 with ⟨e', _⟩ | ⟨g, cap, cur, e', _⟩
    · rw [e] at e'; cases e'
    · rw [e] at e'
      cases e'
      exact ⟨g, c, e⟩

theorem rowO_set {w : World} {B : Nat} {e : TypeId} {k : Nat} {g n cap : Nat} {xs : List Value} (h : RowO w B e k (.slice (some ⟨g, 0, none⟩) n cap) n xs) (i : Nat) (hi : i < n * k) (u : Value) :
    RowO (w.setCell ⟨g, i, none⟩ u) B e k (.slice (some ⟨g, 0, none⟩) n cap) n (xs.set i u) := by
  rcases h with ⟨_, _, rfl, _⟩ | ⟨h, hc⟩
  · omega
  · exact Or.inr ⟨(h.stored i u).1, hc⟩

end Go.Proofs.YtogebppolkfldaaGreatDoor.Hd

namespace Go.Proofs.YtogebppolkfldaaGreatDoor.Sec
open Go.RowKit Go.Proofs.YtogebppolkfldaaGreatDoor.Mem
set_option linter.unusedVariables false

/-- A sector that a journal writes. -/
structure Ou where
  sec : Int
  text : ByteArray

def Ou.none : Ou := ⟨0, ByteArray.empty⟩
def Ou.cells (x : Ou) : List Value := [.int .i64 x.sec, .string x.text]

/-- A journal. -/
structure Jn where
  txn : Int
  done : Bool
  kind : Int
  vol : Int
  to : Int
  at_ : Int
  text : ByteArray
  outs : List Ou

/-- Cell i of a list of them, two cells each. -/
def ocell (l : List Ou) (i : Nat) : Value := (l.getD (i / 2) Ou.none).cells.getD (i % 2) undef
def Ous (w : World) (a : Option Addr) (l : List Ou) : Prop := Sl w a (l.length * 2) (ocell l)
def OusW (w : World) (B : Nat) (a : Option Addr) (l : List Ou) : Prop := Wr w B a (l.length * 2) (ocell l)

theorem ocell_at (l : List Ou) (k j : Nat) (hj : j < 2) : ocell l (k * 2 + j) = (l.getD k Ou.none).cells.getD j undef := by
  unfold ocell
  rw [show (k * 2 + j) / 2 = k by omega, show (k * 2 + j) % 2 = j by omega]

theorem Ous.at_ {w : World} {a : Option Addr} {l : List Ou} (h : Ous w a l) (k : Nat) (hk : k < l.length) : ∃ b off, a = some ⟨b, off, none⟩ ∧
    w.cell? ⟨b, off + k * 2, none⟩ = some (.int .i64 (l.getD k Ou.none).sec) ∧ w.cell? ⟨b, off + k * 2 + 1, none⟩ = some (.string (l.getD k Ou.none).text) := by
  obtain ⟨b, off, rfl, h0⟩ := h (k * 2 + 0) (by omega)
  obtain ⟨b1, off1, e1, h1⟩ := h (k * 2 + 1) (by omega)
  cases e1
  rw [ocell_at l k _ (by omega)] at h0 h1
  exact ⟨b, off, rfl, h0, by rw [Nat.add_assoc]; exact h1⟩

/-- Number i of the list is right. -/
def outAt (l : List Ou) (i : Nat) : Prop := (0 ≤ (l.getD i Ou.none).sec ∧ (l.getD i Ou.none).sec ≤ 33) ∧ (0 < i → (l.getD (i - 1) Ou.none).sec < (l.getD i Ou.none).sec) ∧ ((l.getD i Ou.none).text.size : Int) ≤ 60

theorem outAt_dec (l : List Ou) : Nonempty (DecidablePred (outAt l)) := ⟨fun i => by unfold outAt; exact inferInstance⟩

def outsOk (l : List Ou) : Bool := (List.range l.length).all fun i => decide (0 ≤ (l.getD i Ou.none).sec ∧ (l.getD i Ou.none).sec ≤ 33) && decide (0 < i → (l.getD (i - 1) Ou.none).sec < (l.getD i Ou.none).sec) && decide (((l.getD i Ou.none).text.size : Int) ≤ 60)

theorem outsOk_iff (l : List Ou) : outsOk l = true ↔ ∀ i, i < l.length → outAt l i := by
  unfold outsOk outAt
  rw [List.all_eq_true]
  constructor
  · intro h i hi
    have := h i (List.mem_range.2 hi)
    rw [Bool.and_eq_true, Bool.and_eq_true] at this
    exact ⟨of_decide_eq_true this.1.1, of_decide_eq_true this.1.2, of_decide_eq_true this.2⟩
  · intro h i hi
    obtain ⟨a, b, c⟩ := h i (List.mem_range.1 hi)
    rw [Bool.and_eq_true, Bool.and_eq_true]
    exact ⟨⟨decide_eq_true a, decide_eq_true b⟩, decide_eq_true c⟩

theorem outsOk_no {l : List Ou} (i : Nat) (hi : i < l.length) (h : ¬ outAt l i) : outsOk l = false := by
  cases e : outsOk l with
  | false => rfl
  | true => exact absurd ((outsOk_iff l).1 e i hi) h

def opOk (kind vol to at_ : Int) (text : ByteArray) : Bool := decide (1 ≤ kind ∧ kind ≤ 20) && between 0 99 [vol, to, at_] && decide ((text.size : Int) ≤ 16)

def opNone (kind vol to at_ : Int) (text : ByteArray) : Prop := kind = 0 ∧ vol = 0 ∧ to = 0 ∧ at_ = 0 ∧ text.size = 0

def Jn.ok (J : Jn) : Bool :=
  if J.done then decide (0 ≤ J.txn ∧ J.txn ≤ 1000000) && (decide (J.kind = 0 ∧ J.vol = 0 ∧ J.to = 0 ∧ J.at_ = 0 ∧ J.text.size = 0) && decide (J.outs.length = 0))
  else decide (1 ≤ J.txn ∧ J.txn ≤ 1000000) && (opOk J.kind J.vol J.to J.at_ J.text && (decide (1 ≤ J.outs.length ∧ J.outs.length ≤ 8) && outsOk J.outs))

def piece (s : ByteArray) : ByteArray := vr (s.size : Int) ++ s

/-- The texts of sectors, one behind the other. -/
def outsS (l : List Ou) : ByteArray := l.foldl (fun s x => s ++ vr x.sec ++ piece x.text) ⟨#[]⟩

def Jn.head (J : Jn) : ByteArray := ⟨#[106]⟩ ++ vr J.txn ++ flag J.done ++ vr J.kind ++ vr J.vol ++ vr J.to ++ vr J.at_ ++ piece J.text ++ vr (J.outs.length : Int)
def Jn.show (J : Jn) : ByteArray := if J.ok then summed (J.head ++ outsS J.outs) else ⟨#[]⟩

theorem piece_size (s : ByteArray) : (piece s).size ≤ 7 + s.size := by
  have := vr_size (s.size : Int)
  unfold piece; rw [ByteArray.size_append]; omega

theorem outsS_take (l : List Ou) (k : Nat) (h : k < l.length) : outsS (l.take (k + 1)) = outsS (l.take k) ++ vr (l.getD k Ou.none).sec ++ piece (l.getD k Ou.none).text := by
  unfold outsS
  rw [List.take_add_one, List.foldl_append]
  simp [List.getD, h]

theorem outsS_size (l : List Ou) (hl : l.length ≤ 8) (h : ∀ i, i < l.length → ((l.getD i Ou.none).text.size : Int) ≤ 60) (k : Nat) (hk : k ≤ l.length) : (outsS (l.take k)).size ≤ 74 * k := by
  induction k with
  | zero => simp [outsS]; rfl
  | succ k ih =>
    have h1 := ih (by omega)
    have h2 := vr_size (l.getD k Ou.none).sec
    have h3 := piece_size (l.getD k Ou.none).text
    have h4 := h k (by omega)
    rw [outsS_take l k (by omega), ByteArray.size_append, ByteArray.size_append]
    omega

theorem head_size (J : Jn) (h : J.text.size ≤ 16) : J.head.size ≤ 100 := by
  have h0 := vr_size J.txn
  have h1 := vr_size J.kind
  have h2 := vr_size J.vol
  have h3 := vr_size J.to
  have h4 := vr_size J.at_
  have h5 := piece_size J.text
  have h6 := vr_size (J.outs.length : Int)
  have h7 : (flag J.done).size ≤ 7 := vr_size _
  unfold Jn.head
  simp only [ByteArray.size_append]
  have : (⟨#[106]⟩ : ByteArray).size = 1 := rfl
  omega

end Go.Proofs.YtogebppolkfldaaGreatDoor.Sec

namespace Go.Proofs.YtogebppolkfldaaGreatDoor.Sec
open Go.RowKit Go.Proofs.YtogebppolkfldaaGreatDoor.Mem
set_option linter.unusedVariables false

set_option maxHeartbeats 400000 in
theorem l4Piece (s : ByteArray) (w : World) (hs : s.size ≤ 1048576) : Calls Tryz.prog 139 #[.string s] w fun e w' => e = .returned (.string (piece s)) ∧ Below w.heap.size w w' := by
  have HD : Hid (vr (s.size : Int) ++ s = piece s) := rfl
  have hv := vr_size (s.size : Int)
  go_enter Tryz.func139, Tryz.ntmps139
  go_wp2_with fail
  refine (sVar (s.size : Int) _).mono ?_
  rintro e w1 ⟨rfl, b1⟩
  have HB := hid b1
  clear b1
  go_wp2
  go_ret
  exact ⟨Own.ret_str HD.out, HB.out⟩

set_option maxHeartbeats 400000 in
theorem showPiece (s : ByteArray) (w : World) (hs : s.size ≤ 1048576) : Calls Tryz.prog 183 #[.string s] w fun e w' => e = .returned (.string (piece s)) ∧ Below w.heap.size w w' := by
  have HD : Hid (vr (s.size : Int) ++ s = piece s) := rfl
  have hv := vr_size (s.size : Int)
  go_enter Tryz.func183, Tryz.ntmps183
  go_wp2_with fail
  refine (iVar (s.size : Int) _).mono ?_
  rintro e w1 ⟨rfl, b1⟩
  have HB := hid b1
  clear b1
  go_wp2
  go_ret
  exact ⟨Own.ret_str HD.out, HB.out⟩

/-- A call's value. -/
def opV (kind vol to at_ : Int) (text : ByteArray) : Value := .agg #[.int .i64 kind, .int .i64 vol, .int .i64 to, .int .i64 at_, .string text]

theorem op_no0 {k v t a : Int} {s : ByteArray} (h : ¬ (1 ≤ k ∧ k ≤ 20)) : opOk k v t a s = false := by unfold opOk; rw [decide_eq_false h]; rfl
theorem three {v t a : Int} : between 0 99 [v, t, a] = (decide (0 ≤ v ∧ v ≤ 99) && (decide (0 ≤ t ∧ t ≤ 99) && (decide (0 ≤ a ∧ a ≤ 99) && true))) := rfl
theorem op_no1 {k v t a : Int} {s : ByteArray} (h : between 0 99 [v, t, a] = false) : opOk k v t a s = false := by unfold opOk; rw [h, Bool.and_false]; rfl
theorem op_yes {k v t a : Int} {s : ByteArray} (h : 1 ≤ k ∧ k ≤ 20) (h1 : between 0 99 [v, t, a] = true) : opOk k v t a s = decide ((s.size : Int) ≤ 16) := by unfold opOk; rw [decide_eq_true h, h1]; rfl

set_option maxRecDepth 100000 in
set_option maxHeartbeats 1000000 in
theorem l4OpOk (k v t a : Int) (s : ByteArray) (w : World) (hs : s.size ≤ 1048576) :
    Calls Tryz.prog 163 #[opV k v t a s] w fun e w' => e = .returned (.bool (opOk k v t a s)) ∧ Below w.heap.size w w' := by
  unfold opV
  obtain ⟨wa, hwa, ez, A0, B0⟩ := one_new w [.int .i64 k, .int .i64 v, .int .i64 t, .int .i64 a, .string s] 63
  have k0 := A0.c 0 rfl
  have k1 := A0.c 1 rfl
  have k2 := A0.c 2 rfl
  have k3 := A0.c 3 rfl
  have k4 := A0.c 4 rfl
  have HB := hid B0
  clear A0 B0
  go_enter Tryz.func163, Tryz.ntmps163
  go_wp2_with fail
  by_cases c0 : 1 ≤ k ∧ k ≤ 20
  · have c0' := decide_eq_true c0
    have HC0 := hid c0
    clear c0
    refine (c0' ▸ l1In k 1 20 _).mono ?_
    rintro e w1 ⟨rfl, hw⟩
    obtain rfl := hw.symm
    go_wp2_with fail
    by_cases c1 : 0 ≤ v ∧ v ≤ 99
    · have c1' := decide_eq_true c1
      refine (c1' ▸ l1In v 0 99 _).mono ?_
      rintro e w1 ⟨rfl, hw⟩
      obtain rfl := hw.symm
      go_wp2_with fail
      by_cases c2 : 0 ≤ t ∧ t ≤ 99
      · have c2' := decide_eq_true c2
        refine (c2' ▸ l1In t 0 99 _).mono ?_
        rintro e w1 ⟨rfl, hw⟩
        obtain rfl := hw.symm
        go_wp2_with fail
        by_cases c3 : 0 ≤ a ∧ a ≤ 99
        · have c3' := decide_eq_true c3
          have HY : Hid (opOk k v t a s = decide ((s.size : Int) ≤ 16)) := op_yes HC0.out (by rw [three, c1', c2', c3']; rfl)
          clear c1 c2 c3
          refine (c3' ▸ l1In a 0 99 _).mono ?_
          rintro e w1 ⟨rfl, hw⟩
          obtain rfl := hw.symm
          go_wp2
          go_ret
          exact ⟨by rw [HY.out]; rfl, HB.out⟩
        · have c3' := decide_eq_false c3
          have HN : Hid (opOk k v t a s = false) := op_no1 (by rw [three, c3', c2', c1']; rfl)
          clear c1 c2 c3
          refine (c3' ▸ l1In a 0 99 _).mono ?_
          rintro e w1 ⟨rfl, hw⟩
          obtain rfl := hw.symm
          go_wp2
          go_ret
          exact ⟨by rw [HN.out]; rfl, HB.out⟩
      · have c2' := decide_eq_false c2
        have HN : Hid (opOk k v t a s = false) := op_no1 (by rw [three, c2', c1']; rfl)
        clear c1 c2
        refine (c2' ▸ l1In t 0 99 _).mono ?_
        rintro e w1 ⟨rfl, hw⟩
        obtain rfl := hw.symm
        go_wp2
        go_ret
        exact ⟨by rw [HN.out]; rfl, HB.out⟩
    · have c1' := decide_eq_false c1
      have HN : Hid (opOk k v t a s = false) := op_no1 (by rw [three, c1']; rfl)
      clear c1
      refine (c1' ▸ l1In v 0 99 _).mono ?_
      rintro e w1 ⟨rfl, hw⟩
      obtain rfl := hw.symm
      go_wp2
      go_ret
      exact ⟨by rw [HN.out]; rfl, HB.out⟩
  · have c0' := decide_eq_false c0
    have HN : Hid (opOk k v t a s = false) := op_no0 c0
    clear c0
    refine (c0' ▸ l1In k 1 20 _).mono ?_
    rintro e w1 ⟨rfl, hw⟩
    obtain rfl := hw.symm
    go_wp2
    go_ret
    exact ⟨by rw [HN.out]; rfl, HB.out⟩

theorem ints_new (w : World) (l : List Int) : Ints (w.alloc (.cells (l.map (Value.int .i64)).toArray 3)) (some ⟨w.heap.size, 0, none⟩) l :=
  (wr_new w _ 3 l.length (fun i => .int .i64 (l.getD i 0)) (fun i hi => by simp [List.getD, hi])).sl

set_option maxRecDepth 100000 in
set_option maxHeartbeats 1000000 in
theorem isJournalOp (k v t a : Int) (s : ByteArray) (w : World) (hs : s.size ≤ 1048576) :
    Calls Tryz.prog 182 #[opV k v t a s] w fun e w' => e = .returned (.bool (opOk k v t a s)) ∧ Below w.heap.size w w' := by
  unfold opV
  obtain ⟨wa, hwa, ez, A0, B0⟩ := one_new w [.int .i64 k, .int .i64 v, .int .i64 t, .int .i64 a, .string s] 63
  have k0 := A0.c 0 rfl
  have k1 := A0.c 1 rfl
  have k2 := A0.c 2 rfl
  have k3 := A0.c 3 rfl
  have k4 := A0.c 4 rfl
  have HA := hid A0
  have HB := hid B0
  clear A0 B0
  go_enter Tryz.func182, Tryz.ntmps182
  go_wp2_with fail
  obtain ⟨wb, hwb⟩ : ∃ wb, wa.alloc (.cells ([v, t, a].map (Value.int .i64)).toArray 3) = wb := ⟨_, rfl⟩
  have HI := hid (ints_new wa [v, t, a])
  have b2 : Below wa.heap.size wa (wa.alloc (.cells ([v, t, a].map (Value.int .i64)).toArray 3)) := (Below.refl _ _).alloc (Nat.le_refl _) _
  rw [hwb] at b2 HI
  rw [ez] at HI
  simp only [List.map_cons, List.map_nil] at hwb
  simp only [hwb]
  have HB2 := hid (HB.out.trans (b2.mono HB.out.size))
  replace k4 := (HA.out.below b2 HA.out.lt).c 4 rfl
  clear b2 hwb hwa k0 k1 k2 k3 HA
  by_cases c0 : 1 ≤ k ∧ k ≤ 20
  · have c0' := decide_eq_true c0
    have HC0 := hid c0
    clear c0
    refine (c0' ▸ isFrom k 1 20 _).mono ?_
    rintro e w1 ⟨rfl, hw⟩
    obtain rfl := hw.symm
    go_wp2_with fail
    refine (areFrom wb _ 3 [v, t, a] 0 99 HI.out (show 3 ≤ 1048576 by decide)).mono ?_
    rintro e w1 ⟨rfl, hw⟩
    obtain rfl := hw.symm
    cases hz : between 0 99 [v, t, a] with
    | true =>
      have HY := hid (op_yes (s := s) HC0.out hz)
      clear hz
      go_wp2
      go_ret
      exact ⟨by rw [HY.out]; rfl, HB2.out⟩
    | false =>
      have HN := hid (op_no1 (k := k) (s := s) hz)
      clear hz
      go_wp2
      go_ret
      exact ⟨by rw [HN.out]; rfl, HB2.out⟩
  · have c0' := decide_eq_false c0
    have HN : Hid (opOk k v t a s = false) := op_no0 c0
    clear c0
    refine (c0' ▸ isFrom k 1 20 _).mono ?_
    rintro e w1 ⟨rfl, hw⟩
    obtain rfl := hw.symm
    go_wp2
    go_ret
    exact ⟨by rw [HN.out]; rfl, HB2.out⟩

end Go.Proofs.YtogebppolkfldaaGreatDoor.Sec

namespace Go.Proofs.YtogebppolkfldaaGreatDoor.Sec
open Go.RowKit Go.Proofs.YtogebppolkfldaaGreatDoor.Mem
set_option linter.unusedVariables false

/-- The lowest sector that may follow the first k. -/
def low (l : List Ou) (k : Nat) : Int := if k = 0 then 0 else (l.getD (k - 1) Ou.none).sec + 1

theorem low_iff (l : List Ou) (k : Nat) (h : ∀ i, i < k → outAt l i) : (low l k ≤ (l.getD k Ou.none).sec ∧ (l.getD k Ou.none).sec ≤ 33) ↔ ((0 ≤ (l.getD k Ou.none).sec ∧ (l.getD k Ou.none).sec ≤ 33) ∧ (0 < k → (l.getD (k - 1) Ou.none).sec < (l.getD k Ou.none).sec)) := by
  unfold low
  by_cases hk : k = 0
  · subst hk; simp
  · rw [if_neg hk]
    have := (h (k - 1) (by omega)).1
    constructor
    · intro x; exact ⟨by omega, fun _ => by omega⟩
    · intro x; have := x.2 (by omega); omega

theorem low_bd (l : List Ou) (k : Nat) (h : ∀ i, i < k → outAt l i) : 0 ≤ low l k ∧ low l k ≤ 34 := by
  unfold low
  by_cases hk : k = 0
  · rw [if_pos hk]; omega
  · rw [if_neg hk]
    have := (h (k - 1) (by omega)).1
    omega

theorem low_succ (l : List Ou) (k : Nat) : low l (k + 1) = (l.getD k Ou.none).sec + 1 := rfl

theorem outs_step {l : List Ou} {k : Nat} (h : ∀ i, i < k → outAt l i) (hk : outAt l k) : ∀ i, i < k + 1 → outAt l i := fun i hi => by
  by_cases e : i = k
  · rw [e]; exact hk
  · exact h i (by omega)

set_option maxRecDepth 100000 in
set_option maxHeartbeats 1000000 in
theorem areOuts (w : World) (a : Option Addr) (cap : Nat) (l : List Ou) (S : Ous w a l) (hl : l.length ≤ 1048576) (hs : ∀ x ∈ l, x.text.size ≤ 1048576) :
    Calls Tryz.prog 174 #[.slice a l.length cap] w fun e w' => e = .returned (.bool (decide (l.length ≤ 8) && outsOk l)) ∧ Below w.heap.size w w' := by
  have HS := hid S
  have Hs : Hid (∀ k, (l.getD k Ou.none).text.size ≤ 1048576) := fun k => by
    by_cases h : k < l.length
    · exact hs _ (by simp [List.getD, h])
    · simp [List.getD, h, Ou.none]
  clear S hs
  by_cases hg : 8 < (l.length : Int)
  · have hg' : decide (l.length ≤ 8) = false := decide_eq_false (by omega)
    rw [hg']
    clear hg'
    go_enter Tryz.func174, Tryz.ntmps174
    go_wp2
    go_ret
    exact ⟨rfl, Below.refl _ _⟩
  have hg' : decide (l.length ≤ 8) = true := decide_eq_true (by omega)
  rw [hg', Bool.true_and]
  clear hg'
  have HZ := hid (low_succ l)
  go_enter Tryz.func174, Tryz.ntmps174
  go_wp2
  go_loopw [3, 11] (fun lo i wr => ∃ k : Nat, k ≤ l.length ∧ i = .int .i64 (k : Int) ∧ lo = .int .i64 (low l k) ∧ Hid (∀ i, i < k → outAt l i) ∧ Hid (Below w.heap.size w wr)) (fun _ i _ => l.length - (intOf i).toNat)
  case atStart => exact ⟨0, Nat.zero_le _, rfl, rfl, fun i hi => by omega, Below.refl _ _⟩
  case round =>
    obtain ⟨k, hk, rfl, rfl, HK, HB⟩ := hrel
    by_cases hlt : k < l.length
    · obtain ⟨b, off, rfl, c0, c1⟩ := Ous.at_ (HS.out.below HB.out) k hlt
      have HI := hid (low_iff l k HK.out)
      have hbd := low_bd l k HK.out
      have hsz := Hs.out k
      have HN := hid (outsOk_no k hlt)
      have HST := hid (fun h => outs_step (k := k) HK.out h)
      have HLS := hid (low_succ l k)
      have HAt : Hid (outAt l k ↔ ((0 ≤ (l.getD k Ou.none).sec ∧ (l.getD k Ou.none).sec ≤ 33) ∧ (0 < k → (l.getD (k - 1) Ou.none).sec < (l.getD k Ou.none).sec)) ∧ ((l.getD k Ou.none).text.size : Int) ≤ 60) := by
        unfold outAt
        exact ⟨fun x => ⟨⟨x.1, x.2.1⟩, x.2.2⟩, fun x => ⟨x.1.1, x.1.2, x.2⟩⟩
      rw [← HI.out] at HAt
      generalize l.getD k Ou.none = x at c0 c1 hsz HAt HLS
      clear HI
      obtain ⟨xs, xt⟩ := x
      simp only [] at c0 c1 hsz HAt HLS
      generalize low l k = lo at *
      go_wp2_with fail
      obtain ⟨wo, hwo, ez, O0, B0⟩ := one_new wr [.int .i64 xs, .string xt] 180
      simp only [hwo]
      have d0 := O0.c 0 rfl
      have d1 := O0.c 1 rfl
      have HBo := hid (HB.out.trans (B0.mono HB.out.size))
      clear hwo O0 B0 c0 c1
      by_cases c : lo ≤ xs ∧ xs ≤ 33
      · have c' := decide_eq_true c
        refine (c' ▸ isFrom xs lo 33 _).mono ?_
        rintro e w1 ⟨rfl, hw⟩
        obtain rfl := hw.symm
        by_cases h60 : 60 < (xt.size : Int)
        · have HR := hid (HN.out (fun x => by have := (HAt.out.1 x).2; omega))
          clear c
          go_wp2
          go_ret
          exact ⟨by rw [HR.out]; rfl, HBo.out⟩
        · have HR := hid (HST.out (HAt.out.2 ⟨c, by omega⟩))
          have hx33 : xs ≤ 33 := c.2
          have hx0 : 0 ≤ xs := by omega
          clear c
          go_wp2
          exact ⟨⟨k + 1, by omega, by go_num, by rw [HLS.out], HR, HBo⟩, by simp [intOf]; omega⟩
      · have c' := decide_eq_false c
        have HR := hid (HN.out (fun x => c (HAt.out.1 x).1))
        clear c
        refine (c' ▸ isFrom xs lo 33 _).mono ?_
        rintro e w1 ⟨rfl, hw⟩
        obtain rfl := hw.symm
        go_wp2
        go_ret
        exact ⟨by rw [HR.out]; rfl, HBo.out⟩
    · obtain rfl : k = l.length := by omega
      have HR := hid ((outsOk_iff l).2 HK.out)
      go_wp2
      go_ret
      exact ⟨by rw [HR.out]; rfl, HB.out⟩

theorem stOp : Tryz.prog.underlying 63 = some (.struct (Tryz.prog.fieldsOf 63)) := by kernel_rfl
theorem heldOp : Tryz.prog.stoodInHeld 63 = false := by kernel_rfl
theorem guardOp : Tryz.prog.eqGuardType Tryz.prog.depth 63 = false := by kernel_rfl

theorem eql_op (k v t a : Int) (s : ByteArray) (w : World) : (binOp .eql 63 (.agg #[.int .i64 k, .int .i64 v, .int .i64 t, .int .i64 a, .string s]) (.agg #[.int .i64 0, .int .i64 0, .int .i64 0, .int .i64 0, .string ⟨#[]⟩])).run Tryz.prog w = .ok (.bool (decide (k = 0 ∧ v = 0 ∧ t = 0 ∧ a = 0 ∧ s.size = 0))) w := by
  rw [run_eql_struct, run_equalIn_agg w 9999 63 _ _ stOp heldOp]
  unfold Program.fieldsOf
  rw [Tryz.underlying63]
  by_cases h5 : s.size = 0
  · obtain rfl : s = ⟨#[]⟩ := by
      apply ByteArray.ext
      have : s.data.size = 0 := h5
      exact Array.eq_empty_of_size_eq_zero this
    by_cases h1 : k = 0 <;> by_cases h2 : v = 0 <;> by_cases h3 : t = 0 <;> by_cases h4 : a = 0 <;> simp [Op.eqFields, part, go_sem, h1, h2, h3, h4, Tryz.underlying3]
  · have hne : ¬ s.toList = [] := fun e => h5 (by
      rw [ByteArray.toList_eq] at e
      show s.data.size = 0
      rw [← Array.length_toList, e]; rfl)
    by_cases h1 : k = 0 <;> by_cases h2 : v = 0 <;> by_cases h3 : t = 0 <;> by_cases h4 : a = 0 <;> simp [Op.eqFields, part, go_sem, h1, h2, h3, h4, h5, hne, Tryz.underlying3]

end Go.Proofs.YtogebppolkfldaaGreatDoor.Sec

namespace Go.Proofs.YtogebppolkfldaaGreatDoor.Sec
open Go.RowKit Go.Proofs.YtogebppolkfldaaGreatDoor.Mem
set_option linter.unusedVariables false

/-- A journal's cells, its list at a. -/
def Jn.cells (J : Jn) (a : Option Addr) (cap : Nat) : List Value := [.int .i64 J.txn, .bool J.done, .int .i64 J.kind, .int .i64 J.vol, .int .i64 J.to, .int .i64 J.at_, .string J.text, .slice a J.outs.length cap]
def jnV (J : Jn) (a : Option Addr) (cap : Nat) : Value := .agg (J.cells a cap).toArray

/-- All of it is of a size that the law lets by. -/
structure Jn.Small (J : Jn) : Prop where
  text : J.text.size ≤ 1048576
  outs : J.outs.length ≤ 1048576
  each : ∀ x ∈ J.outs, x.text.size ≤ 1048576

theorem jok_done {J : Jn} (h : J.done = true) : J.ok = (decide (0 ≤ J.txn ∧ J.txn ≤ 1000000) && (decide (J.kind = 0 ∧ J.vol = 0 ∧ J.to = 0 ∧ J.at_ = 0 ∧ J.text.size = 0) && decide (J.outs.length = 0))) := by unfold Jn.ok; rw [if_pos h]
theorem jok_not {J : Jn} (h : J.done = false) : J.ok = (decide (1 ≤ J.txn ∧ J.txn ≤ 1000000) && (opOk J.kind J.vol J.to J.at_ J.text && (decide (1 ≤ J.outs.length ∧ J.outs.length ≤ 8) && outsOk J.outs))) := by unfold Jn.ok; rw [if_neg (by rw [h]; decide)]

set_option maxRecDepth 100000 in
set_option maxHeartbeats 2000000 in
theorem isJournal (w : World) (J : Jn) (a : Option Addr) (cap : Nat) (S : Ous w a J.outs) (hs : J.Small) :
    Calls Tryz.prog 169 #[jnV J a cap] w fun r w' => r = .returned (.bool J.ok) ∧ Below w.heap.size w w' := by
  unfold jnV
  obtain ⟨txn, dn, k, v, t, at_, s, l⟩ := J
  have z1 : s.size ≤ 1048576 := hs.text
  have z2 : l.length ≤ 1048576 := hs.outs
  have HS := hid S
  have HSm := hid hs
  clear S hs
  cases dn with
  | true =>
    have HE := hid (jok_done (J := ⟨txn, true, k, v, t, at_, s, l⟩) rfl)
    simp only [] at HE
    generalize (Jn.mk txn true k v t at_ s l).ok = q at *
    unfold Jn.cells
    simp only []
    obtain ⟨wa, hwa, ez, A0, B0⟩ := one_new w [.int .i64 txn, .bool true, .int .i64 k, .int .i64 v, .int .i64 t, .int .i64 at_, .string s, .slice a l.length cap] 144
    have k0 := A0.c 0 rfl
    have k1 := A0.c 1 rfl
    have k2 := A0.c 2 rfl
    have k3 := A0.c 3 rfl
    have k4 := A0.c 4 rfl
    have k5 := A0.c 5 rfl
    have k6 := A0.c 6 rfl
    have k7 := A0.c 7 rfl
    have HB := hid B0
    have hgo := guardOp
    clear A0 B0
    go_enter Tryz.func169, Tryz.ntmps169
    go_wp2_with fail
    by_cases c0 : 0 ≤ txn ∧ txn ≤ 1000000
    · have c0' := decide_eq_true c0
      rw [c0', Bool.true_and] at HE
      clear c0
      refine (c0' ▸ isFrom txn 0 1000000 _).mono ?_
      rintro r w1 ⟨rfl, hw⟩
      obtain rfl := hw.symm
      have heq := eql_op k v t at_ s
      by_cases c1 : k = 0 ∧ v = 0 ∧ t = 0 ∧ at_ = 0 ∧ s.size = 0
      · rw [decide_eq_true c1] at HE
        simp only [decide_eq_true c1] at heq
        clear c1
        by_cases c2 : (l.length : Int) = 0
        · have HQ : Hid (q = true) := by rw [Hid, HE.out, decide_eq_true (show l.length = 0 by omega)]; rfl
          have c2' : ((l.length : Int) == 0) = true := by simpa using c2
          clear c2
          go_wp2
          go_ret
          exact ⟨by rw [HQ.out]; rfl, HB.out⟩
        · have HQ : Hid (q = false) := by rw [Hid, HE.out, decide_eq_false (show ¬ l.length = 0 by omega)]; rfl
          have c2' : ((l.length : Int) == 0) = false := by simpa using c2
          clear c2
          go_wp2
          go_ret
          exact ⟨by rw [HQ.out]; rfl, HB.out⟩
      · rw [decide_eq_false c1] at HE
        simp only [decide_eq_false c1] at heq
        clear c1
        go_wp2
        go_ret
        exact ⟨by rw [HE.out]; rfl, HB.out⟩
    · have c0' := decide_eq_false c0
      rw [c0', Bool.false_and] at HE
      clear c0
      refine (c0' ▸ isFrom txn 0 1000000 _).mono ?_
      rintro r w1 ⟨rfl, hw⟩
      obtain rfl := hw.symm
      go_wp2
      go_ret
      exact ⟨by rw [HE.out]; rfl, HB.out⟩
  | false =>
    have HE := hid (jok_not (J := ⟨txn, false, k, v, t, at_, s, l⟩) rfl)
    simp only [] at HE
    have Hs3 : Hid (∀ x ∈ l, x.text.size ≤ 1048576) := HSm.out.each
    generalize (Jn.mk txn false k v t at_ s l).ok = q at *
    unfold Jn.cells
    simp only []
    obtain ⟨wa, hwa, ez, A0, B0⟩ := one_new w [.int .i64 txn, .bool false, .int .i64 k, .int .i64 v, .int .i64 t, .int .i64 at_, .string s, .slice a l.length cap] 144
    have k0 := A0.c 0 rfl
    have k1 := A0.c 1 rfl
    have k2 := A0.c 2 rfl
    have k3 := A0.c 3 rfl
    have k4 := A0.c 4 rfl
    have k5 := A0.c 5 rfl
    have k6 := A0.c 6 rfl
    have k7 := A0.c 7 rfl
    have HA := hid A0
    have HB := hid B0
    clear A0 B0
    go_enter Tryz.func169, Tryz.ntmps169
    go_wp2_with fail
    by_cases c0 : 1 ≤ txn ∧ txn ≤ 1000000
    · have c0' := decide_eq_true c0
      rw [c0', Bool.true_and] at HE
      clear c0
      refine (c0' ▸ isFrom txn 1 1000000 _).mono ?_
      rintro r w1 ⟨rfl, hw⟩
      obtain rfl := hw.symm
      go_wp2_with fail
      refine (isJournalOp k v t at_ s _ z1).mono ?_
      rintro r w2 ⟨rfl, b2⟩
      replace k7 := (HA.out.below b2 HA.out.lt).c 7 rfl
      have HB2 := hid (HB.out.trans (b2.mono HB.out.size))
      clear b2 hwa k0 k1 k2 k3 k4 k5 k6 HA
      cases hz : opOk k v t at_ s with
      | true =>
        rw [hz, Bool.true_and] at HE
        clear hz
        by_cases c2 : 0 < (l.length : Int)
        · go_wp2_with fail
          refine (areOuts w2 a cap l (HS.out.below HB2.out) z2 Hs3.out).mono ?_
          rintro r w3 ⟨rfl, b3⟩
          have HB3 := hid (HB2.out.trans (b3.mono HB2.out.size))
          have HQ : Hid (q = (decide (l.length ≤ 8) && outsOk l)) := by
            rw [Hid, HE.out]
            congr 1
            exact decide_eq_decide.2 ⟨fun x => x.2, fun x => ⟨by omega, x⟩⟩
          generalize (decide (l.length ≤ 8) && outsOk l) = z at *
          clear b3
          go_wp2
          go_ret
          exact ⟨by rw [HQ.out]; rfl, HB3.out⟩
        · have HQ : Hid (q = false) := by rw [Hid, HE.out, decide_eq_false (show ¬ (1 ≤ l.length ∧ l.length ≤ 8) by omega)]; rfl
          go_wp2
          go_ret
          exact ⟨by rw [HQ.out]; rfl, HB2.out⟩
      | false =>
        rw [hz, Bool.false_and] at HE
        clear hz
        go_wp2
        go_ret
        exact ⟨by rw [HE.out]; rfl, HB2.out⟩
    · have c0' := decide_eq_false c0
      rw [c0', Bool.false_and] at HE
      clear c0
      refine (c0' ▸ isFrom txn 1 1000000 _).mono ?_
      rintro r w1 ⟨rfl, hw⟩
      obtain rfl := hw.symm
      go_wp2
      go_ret
      exact ⟨by rw [HE.out]; rfl, HB.out⟩

end Go.Proofs.YtogebppolkfldaaGreatDoor.Sec

namespace Go.Proofs.YtogebppolkfldaaGreatDoor.Sec
open Go.RowKit Go.Proofs.YtogebppolkfldaaGreatDoor.Mem
set_option linter.unusedVariables false

set_option maxRecDepth 100000 in
set_option maxHeartbeats 2000000 in
theorem jnOk_done (w : World) (txn k v t at_ : Int) (s : ByteArray) (l : List Ou) (a : Option Addr) (cap : Nat) (z1 : s.size ≤ 1048576) (z2 : l.length ≤ 1048576) :
    Calls Tryz.prog 138 #[jnV ⟨txn, true, k, v, t, at_, s, l⟩ a cap] w fun r w' => r = .returned (.bool (Jn.mk txn true k v t at_ s l).ok) ∧ Below w.heap.size w w' := by
  unfold jnV
  have HE := hid (jok_done (J := ⟨txn, true, k, v, t, at_, s, l⟩) rfl)
  simp only [] at HE
  generalize (Jn.mk txn true k v t at_ s l).ok = q at *
  unfold Jn.cells
  simp only []
  obtain ⟨wa, hwa, ez, A0, B0⟩ := one_new w [.int .i64 txn, .bool true, .int .i64 k, .int .i64 v, .int .i64 t, .int .i64 at_, .string s, .slice a l.length cap] 144
  have k0 := A0.c 0 rfl
  have k1 := A0.c 1 rfl
  have k2 := A0.c 2 rfl
  have k3 := A0.c 3 rfl
  have k4 := A0.c 4 rfl
  have k5 := A0.c 5 rfl
  have k6 := A0.c 6 rfl
  have k7 := A0.c 7 rfl
  have HB := hid B0
  have hgo := guardOp
  clear A0 B0
  go_enter Tryz.func138, Tryz.ntmps138
  go_wp2_with fail
  by_cases c0 : 0 ≤ txn ∧ txn ≤ 1000000
  · have c0' := decide_eq_true c0
    rw [c0', Bool.true_and] at HE
    clear c0
    refine (c0' ▸ l1In txn 0 1000000 _).mono ?_
    rintro r w1 ⟨rfl, hw⟩
    obtain rfl := hw.symm
    have heq := eql_op k v t at_ s
    by_cases c1 : k = 0 ∧ v = 0 ∧ t = 0 ∧ at_ = 0 ∧ s.size = 0
    · rw [decide_eq_true c1] at HE
      simp only [decide_eq_true c1] at heq
      clear c1
      by_cases c2 : (l.length : Int) = 0
      · have HQ : Hid (q = true) := by rw [Hid, HE.out, decide_eq_true (show l.length = 0 by omega)]; rfl
        have c2' : ((l.length : Int) == 0) = true := by simpa using c2
        clear c2
        go_wp2
        go_ret
        exact ⟨by rw [HQ.out]; rfl, HB.out⟩
      · have HQ : Hid (q = false) := by rw [Hid, HE.out, decide_eq_false (show ¬ l.length = 0 by omega)]; rfl
        have c2' : ((l.length : Int) == 0) = false := by simpa using c2
        clear c2
        go_wp2
        go_ret
        exact ⟨by rw [HQ.out]; rfl, HB.out⟩
    · rw [decide_eq_false c1] at HE
      simp only [decide_eq_false c1] at heq
      clear c1
      go_wp2
      go_ret
      exact ⟨by rw [HE.out]; rfl, HB.out⟩
  · have c0' := decide_eq_false c0
    rw [c0', Bool.false_and] at HE
    clear c0
    refine (c0' ▸ l1In txn 0 1000000 _).mono ?_
    rintro r w1 ⟨rfl, hw⟩
    obtain rfl := hw.symm
    go_wp2
    go_ret
    exact ⟨by rw [HE.out]; rfl, HB.out⟩

set_option maxRecDepth 100000 in
set_option maxHeartbeats 4000000 in
theorem jnOk_not (w : World) (txn k v t at_ : Int) (s : ByteArray) (l : List Ou) (a : Option Addr) (cap : Nat) (S : Ous w a l) (z1 : s.size ≤ 1048576) (z2 : l.length ≤ 1048576) (z3 : ∀ x ∈ l, x.text.size ≤ 1048576) :
    Calls Tryz.prog 138 #[jnV ⟨txn, false, k, v, t, at_, s, l⟩ a cap] w fun r w' => r = .returned (.bool (Jn.mk txn false k v t at_ s l).ok) ∧ Below w.heap.size w w' := by
  unfold jnV
  have HE := hid (jok_not (J := ⟨txn, false, k, v, t, at_, s, l⟩) rfl)
  simp only [] at HE
  have HS := hid S
  have Hs : Hid (∀ k, (l.getD k Ou.none).text.size ≤ 1048576) := fun k => by
    by_cases h : k < l.length
    · exact z3 _ (by simp [List.getD, h])
    · simp [List.getD, h, Ou.none]
  clear S z3
  generalize (Jn.mk txn false k v t at_ s l).ok = q at *
  unfold Jn.cells
  simp only []
  obtain ⟨wa, hwa, ez, A0, B0⟩ := one_new w [.int .i64 txn, .bool false, .int .i64 k, .int .i64 v, .int .i64 t, .int .i64 at_, .string s, .slice a l.length cap] 144
  have k0 := A0.c 0 rfl
  have k1 := A0.c 1 rfl
  have k2 := A0.c 2 rfl
  have k3 := A0.c 3 rfl
  have k4 := A0.c 4 rfl
  have k5 := A0.c 5 rfl
  have k6 := A0.c 6 rfl
  have k7 := A0.c 7 rfl
  have HA := hid A0
  have HB := hid B0
  clear A0 B0
  go_enter Tryz.func138, Tryz.ntmps138
  go_wp2_with fail
  by_cases c0 : 0 ≤ txn ∧ txn ≤ 1000000
  · have c0' := decide_eq_true c0
    refine (c0' ▸ l1In txn 0 1000000 _).mono ?_
    rintro r w1 ⟨rfl, hw⟩
    obtain rfl := hw.symm
    by_cases c1 : txn < 1
    · have HQ : Hid (q = false) := by rw [Hid, HE.out, decide_eq_false (show ¬ (1 ≤ txn ∧ txn ≤ 1000000) by omega)]; rfl
      clear c0
      go_wp2
      go_ret
      exact ⟨by rw [HQ.out]; rfl, HB.out⟩
    rw [decide_eq_true (show 1 ≤ txn ∧ txn ≤ 1000000 by omega), Bool.true_and] at HE
    have c1d : decide (txn < 1) = false := decide_eq_false c1
    clear c0
    go_wp2_with fail
    refine (l4OpOk k v t at_ s _ z1).mono ?_
    rintro r w2 ⟨rfl, b2⟩
    have HA2 := hid (HA.out.below b2 HA.out.lt)
    replace k7 := HA2.out.c 7 rfl
    have HB2 := hid (HB.out.trans (b2.mono HB.out.size))
    clear b2 hwa k0 k1 k2 k3 k4 k5 k6 HA
    cases hz : opOk k v t at_ s with
    | false =>
      rw [hz, Bool.false_and] at HE
      clear hz
      go_wp2
      go_ret
      exact ⟨by rw [HE.out]; rfl, HB2.out⟩
    | true =>
      rw [hz, Bool.true_and] at HE
      clear hz
      go_wp2_with fail
      by_cases c2 : 1 ≤ (l.length : Int) ∧ (l.length : Int) ≤ 8
      · have c2' := decide_eq_true c2
        rw [decide_eq_true (show 1 ≤ l.length ∧ l.length ≤ 8 by omega), Bool.true_and] at HE
        have hl8 : l.length ≤ 8 := by omega
        clear c2
        refine (c2' ▸ l1In (l.length : Int) 1 8 _).mono ?_
        rintro r w3 ⟨rfl, hw⟩
        obtain rfl := hw.symm
        go_wp2
        go_loopw [3] (fun i wr => ∃ k : Nat, k ≤ l.length ∧ i = .int .i64 (k : Int) ∧ Hid (∀ i, i < k → outAt l i) ∧ Hid (Below w2.heap.size w2 wr)) (fun i _ => l.length - (intOf i).toNat)
        case atStart => exact ⟨0, Nat.zero_le _, rfl, fun i hi => by omega, Below.refl _ _⟩
        case round =>
          obtain ⟨i, hi, rfl, HK, HBr⟩ := hrel
          have HBw := hid (HB2.out.trans (HBr.out.mono HB2.out.size))
          have m7 := (HA2.out.below HBr.out HA2.out.lt).c 7 rfl
          by_cases hlt : i < l.length
          · obtain ⟨b, off, rfl, e0, e1⟩ := Ous.at_ (HS.out.below HBw.out) i hlt
            have hsz := Hs.out i
            have HN := hid (outsOk_no i hlt)
            have HST := hid (fun h => outs_step (k := i) HK.out h)
            have HAt : Hid (outAt l i ↔ ((0 ≤ (l.getD i Ou.none).sec ∧ (l.getD i Ou.none).sec ≤ 33) ∧ (0 < i → (l.getD (i - 1) Ou.none).sec < (l.getD i Ou.none).sec)) ∧ ((l.getD i Ou.none).text.size : Int) ≤ 60) := by
              unfold outAt
              exact ⟨fun x => ⟨⟨x.1, x.2.1⟩, x.2.2⟩, fun x => ⟨x.1.1, x.1.2, x.2⟩⟩
            generalize l.getD i Ou.none = x at e0 e1 hsz HAt
            obtain ⟨xs, xt⟩ := x
            simp only [] at e0 e1 hsz HAt
            have hne : Nonempty (BW wr) := ⟨⟨wr, Below.refl _ _⟩⟩
            replace e0 := BW.cell e0
            replace e1 := BW.cell e1
            have n7 := BW.cell m7
            clear k7
            by_cases d0 : 0 ≤ xs ∧ xs ≤ 33
            · have d0' := decide_eq_true d0
              cases i with
              | zero =>
                simp only [Nat.zero_mul, Nat.add_zero] at e0 e1
                by_cases h60 : 60 < (xt.size : Int)
                · have HR := hid (HN.out (fun x => by have := (HAt.out.1 x).2; omega))
                  clear d0
                  go_wp2
                  refine wp_region_bw (by kernel_rfl) (by kernel_rfl) ?_
                  repeat (go_big_quiet_step (first
                    | (go_at_call 42; refine bw_same (v := .bool true) (d0' ▸ l1In xs 0 33 _))))
                  refine wpQuiet_nil ?_
                  intro _ hw'
                  obtain ⟨u, rfl⟩ := hw'
                  have HU := hid (HBw.out.trans (u.bel.mono HBw.out.size))
                  have HUr := hid (HBr.out.trans (u.bel.mono HBr.out.size))
                  clear e0 e1 n7 m7 
                  go_wp2
                  go_ret
                  exact ⟨by rw [HE.out, HR.out]; rfl, HU.out⟩
                · have HR := hid (HST.out (HAt.out.2 ⟨⟨d0, fun h => by omega⟩, by omega⟩))
                  clear d0
                  go_wp2
                  refine wp_region_bw (by kernel_rfl) (by kernel_rfl) ?_
                  repeat (go_big_quiet_step (first
                    | (go_at_call 42; refine bw_same (v := .bool true) (d0' ▸ l1In xs 0 33 _))))
                  refine wpQuiet_nil ?_
                  intro _ hw'
                  obtain ⟨u, rfl⟩ := hw'
                  have HU := hid (HBw.out.trans (u.bel.mono HBw.out.size))
                  have HUr := hid (HBr.out.trans (u.bel.mono HBr.out.size))
                  clear e0 e1 n7 m7 
                  go_wp2
                  exact ⟨⟨1, by omega, by go_num, HR, HUr⟩, by simp [intOf]; omega⟩
              | succ m =>
                obtain ⟨b', off', eb, p0, _⟩ := Ous.at_ (HS.out.below HBw.out) m (by omega)
                cases eb
                rw [show m + 1 - 1 = m from rfl] at HAt
                generalize (l.getD m Ou.none).sec = ys at p0 HAt
                replace p0 := BW.cell p0
                have hm0 : (0 : Int) < ((m + 1 : Nat) : Int) := by omega
                have hm1 : ((m + 1 : Nat) : Int) - 1 = (m : Int) := by omega
                have hm2 : (m : Int) < (l.length : Int) := by omega
                by_cases d1 : xs ≤ ys
                · have HR := hid (HN.out (fun x => by have := (HAt.out.1 x).1.2 (by omega); omega))
                  clear d0
                  go_wp2
                  refine wp_region_bw (by kernel_rfl) (by kernel_rfl) ?_
                  repeat (go_big_quiet_step (first
                    | (go_at_call 42; refine bw_same (v := .bool true) (d0' ▸ l1In xs 0 33 _))))
                  refine wpQuiet_nil ?_
                  intro _ hw'
                  obtain ⟨u, rfl⟩ := hw'
                  have HU := hid (HBw.out.trans (u.bel.mono HBw.out.size))
                  have HUr := hid (HBr.out.trans (u.bel.mono HBr.out.size))
                  clear e0 e1 n7 m7 p0
                  go_wp2
                  go_ret
                  exact ⟨by rw [HE.out, HR.out]; rfl, HU.out⟩
                have d1' : decide (xs ≤ ys) = false := decide_eq_false d1
                by_cases h60 : 60 < (xt.size : Int)
                · have HR := hid (HN.out (fun x => by have := (HAt.out.1 x).2; omega))
                  clear d0
                  go_wp2
                  refine wp_region_bw (by kernel_rfl) (by kernel_rfl) ?_
                  repeat (go_big_quiet_step (first
                    | (go_at_call 42; refine bw_same (v := .bool true) (d0' ▸ l1In xs 0 33 _))))
                  refine wpQuiet_nil ?_
                  intro _ hw'
                  obtain ⟨u, rfl⟩ := hw'
                  have HU := hid (HBw.out.trans (u.bel.mono HBw.out.size))
                  have HUr := hid (HBr.out.trans (u.bel.mono HBr.out.size))
                  clear e0 e1 n7 m7 p0
                  go_wp2
                  go_ret
                  exact ⟨by rw [HE.out, HR.out]; rfl, HU.out⟩
                · have HR := hid (HST.out (HAt.out.2 ⟨⟨d0, fun h => by omega⟩, by omega⟩))
                  clear d0
                  go_wp2
                  refine wp_region_bw (by kernel_rfl) (by kernel_rfl) ?_
                  repeat (go_big_quiet_step (first
                    | (go_at_call 42; refine bw_same (v := .bool true) (d0' ▸ l1In xs 0 33 _))))
                  refine wpQuiet_nil ?_
                  intro _ hw'
                  obtain ⟨u, rfl⟩ := hw'
                  have HU := hid (HBw.out.trans (u.bel.mono HBw.out.size))
                  have HUr := hid (HBr.out.trans (u.bel.mono HBr.out.size))
                  clear e0 e1 n7 m7 p0
                  go_wp2
                  exact ⟨⟨m + 1 + 1, by omega, by go_num, HR, HUr⟩, by simp [intOf]; omega⟩
            · have d0' := decide_eq_false d0
              have HR := hid (HN.out (fun x => d0 (HAt.out.1 x).1.1))
              clear d0
              go_wp2
              refine wp_region_bw (by kernel_rfl) (by kernel_rfl) ?_
              repeat (go_big_quiet_step (first
                | (go_at_call 42; refine bw_same (v := .bool false) (d0' ▸ l1In xs 0 33 _))))
              refine wpQuiet_nil ?_
              intro _ hw'
              obtain ⟨u, rfl⟩ := hw'
              have HU := hid (HBw.out.trans (u.bel.mono HBw.out.size))
              have HUr := hid (HBr.out.trans (u.bel.mono HBr.out.size))
              clear e0 e1 n7 m7 
              go_wp2
              go_ret
              exact ⟨by rw [HE.out, HR.out]; rfl, HU.out⟩
          · obtain rfl : i = l.length := by omega
            have HR := hid ((outsOk_iff l).2 HK.out)
            go_wp2
            go_ret
            exact ⟨by rw [HE.out, HR.out]; rfl, HBw.out⟩
      · have c2' := decide_eq_false c2
        rw [decide_eq_false (show ¬ (1 ≤ l.length ∧ l.length ≤ 8) by omega), Bool.false_and] at HE
        clear c2
        refine (c2' ▸ l1In (l.length : Int) 1 8 _).mono ?_
        rintro r w3 ⟨rfl, hw⟩
        obtain rfl := hw.symm
        go_wp2
        go_ret
        exact ⟨by rw [HE.out]; rfl, HB2.out⟩
  · have c0' := decide_eq_false c0
    have HQ : Hid (q = false) := by rw [Hid, HE.out, decide_eq_false (show ¬ (1 ≤ txn ∧ txn ≤ 1000000) by omega)]; rfl
    clear c0
    refine (c0' ▸ l1In txn 0 1000000 _).mono ?_
    rintro r w1 ⟨rfl, hw⟩
    obtain rfl := hw.symm
    go_wp2
    go_ret
    exact ⟨by rw [HQ.out]; rfl, HB.out⟩

theorem l4JournalOk (w : World) (J : Jn) (a : Option Addr) (cap : Nat) (S : Ous w a J.outs) (hs : J.Small) :
    Calls Tryz.prog 138 #[jnV J a cap] w fun r w' => r = .returned (.bool J.ok) ∧ Below w.heap.size w w' := by
  obtain ⟨txn, dn, k, v, t, at_, s, l⟩ := J
  cases dn
  · exact jnOk_not w txn k v t at_ s l a cap S hs.text hs.outs hs.each
  · exact jnOk_done w txn k v t at_ s l a cap hs.text hs.outs

end Go.Proofs.YtogebppolkfldaaGreatDoor.Sec

namespace Go.Proofs.YtogebppolkfldaaGreatDoor.Sec
open Go.RowKit Go.Proofs.YtogebppolkfldaaGreatDoor.Mem
set_option linter.unusedVariables false

/-- What a right journal's parts are bounded by. -/
structure Jn.Fine (J : Jn) : Prop where
  text : J.text.size ≤ 16
  outs : J.outs.length ≤ 8
  each : ∀ i, i < J.outs.length → ((J.outs.getD i Ou.none).text.size : Int) ≤ 60
  kind : 0 ≤ J.kind ∧ J.kind ≤ 99
  vol : 0 ≤ J.vol ∧ J.vol ≤ 99
  to : 0 ≤ J.to ∧ J.to ≤ 99
  at_ : 0 ≤ J.at_ ∧ J.at_ ≤ 99

theorem Jn.fine {J : Jn} (h : J.ok = true) : J.Fine := by
  cases hd : J.done with
  | true =>
    rw [jok_done hd, Bool.and_eq_true, Bool.and_eq_true] at h
    obtain ⟨h1, h2, h3⟩ := h
    have a := of_decide_eq_true h2
    have b := of_decide_eq_true h3
    exact ⟨by omega, by omega, fun i hi => by omega, by omega, by omega, by omega, by omega⟩
  | false =>
    rw [jok_not hd, Bool.and_eq_true, Bool.and_eq_true, Bool.and_eq_true] at h
    obtain ⟨h1, h2, h3, h4⟩ := h
    unfold opOk at h2
    rw [Bool.and_eq_true, Bool.and_eq_true, three, Bool.and_eq_true, Bool.and_eq_true, Bool.and_eq_true] at h2
    obtain ⟨⟨a, b, c, d, _⟩, e⟩ := h2
    have a' := of_decide_eq_true a
    have b' := of_decide_eq_true b
    have c' := of_decide_eq_true c
    have d' := of_decide_eq_true d
    have e' := of_decide_eq_true e
    have l' := of_decide_eq_true h3
    exact ⟨by omega, by omega, fun i hi => ((outsOk_iff _).1 h4 i hi).2.2, by omega, by omega, by omega, by omega⟩

theorem jn_no {J : Jn} (h : J.ok = false) : J.show = ⟨#[]⟩ := by unfold Jn.show; rw [h]; rfl
theorem jn_yes {J : Jn} (h : J.ok = true) : summed (J.head ++ outsS J.outs) = J.show := by unfold Jn.show; rw [h]; rfl

theorem jn_size {J : Jn} (h : J.Fine) : (J.head ++ outsS J.outs).size ≤ 1048576 := by
  have h1 := head_size J h.text
  have h2 := outsS_size J.outs h.outs h.each J.outs.length (Nat.le_refl _)
  rw [List.take_length] at h2
  have := h.outs
  rw [ByteArray.size_append]; omega

set_option maxRecDepth 100000 in
set_option maxHeartbeats 4000000 in
theorem sShowJournal (w : World) (J : Jn) (a : Option Addr) (cap : Nat) (S : Ous w a J.outs) (hs : J.Small) :
    Calls Tryz.prog 109 #[jnV J a cap] w fun r w' => r = .returned (.string J.show) ∧ Below w.heap.size w w' := by
  have HS := hid S
  have HSm := hid hs
  clear S hs
  obtain ⟨txn, dn, k, v, t, at_, s, l⟩ := J
  have HV : Hid (jnV ⟨txn, dn, k, v, t, at_, s, l⟩ a cap = .agg #[.int .i64 txn, .bool dn, .int .i64 k, .int .i64 v, .int .i64 t, .int .i64 at_, .string s, .slice a l.length cap]) := rfl
  rw [HV.out]
  obtain ⟨wa, hwa, ez, A0, B0⟩ := one_new w [.int .i64 txn, .bool dn, .int .i64 k, .int .i64 v, .int .i64 t, .int .i64 at_, .string s, .slice a l.length cap] 144
  have k0 := A0.c 0 rfl
  have k1 := A0.c 1 rfl
  have k2 := A0.c 2 rfl
  have k3 := A0.c 3 rfl
  have k4 := A0.c 4 rfl
  have k5 := A0.c 5 rfl
  have k6 := A0.c 6 rfl
  have k7 := A0.c 7 rfl
  have HA := hid A0
  have HB := hid B0
  clear A0 B0
  go_enter Tryz.func109, Tryz.ntmps109
  go_wp2_with fail
  refine (l4JournalOk wa ⟨txn, dn, k, v, t, at_, s, l⟩ a cap (HS.out.below HB.out) HSm.out).mono ?_
  rintro r w2 ⟨rfl, b2⟩
  have HA2 := hid (HA.out.below b2 HA.out.lt)
  have HB2 := hid (HB.out.trans (b2.mono HB.out.size))
  clear b2 hwa HA k0 k1 k2 k3 k4 k5 k6 k7
  cases hf : (Jn.mk txn dn k v t at_ s l).ok with
  | false =>
    have HN := hid (jn_no hf)
    clear hf
    go_wp2
    go_ret
    exact ⟨Own.ret_str HN.out.symm, HB2.out⟩
  | true =>
    have HY := hid (jn_yes hf)
    have HF := hid (Jn.fine hf)
    have HZ := hid (jn_size HF.out)
    have HO := hid (outsS_size l HF.out.outs HF.out.each)
    have HL8 : Hid (l.length ≤ 8) := HF.out.outs
    have HE : Hid (∀ i, i < l.length → ((l.getD i Ou.none).text.size : Int) ≤ 60) := HF.out.each
    have zt : s.size ≤ 16 := HF.out.text
    have z0 := vr_size txn
    have z1 := vr_size k
    have z2 := vr_size v
    have z3 := vr_size t
    have z4 := vr_size at_
    have z5 := piece_size s
    have z6 := vr_size (l.length : Int)
    have z7 : (flag dn).size ≤ 7 := vr_size _
    have HH := hid (head_size ⟨txn, dn, k, v, t, at_, s, l⟩ zt)
    have HD : Hid ((⟨#[106]⟩ : ByteArray) ++ vr txn ++ flag dn ++ vr k ++ vr v ++ vr t ++ vr at_ ++ piece s ++ vr (l.length : Int) = (Jn.mk txn dn k v t at_ s l).head) := rfl
    clear hf
    go_wp2
    have k0 := BW.cell (HA2.out.c 0 rfl)
    have k1 := BW.cell (HA2.out.c 1 rfl)
    have k2 := BW.cell (HA2.out.c 2 rfl)
    have k3 := BW.cell (HA2.out.c 3 rfl)
    have k4 := BW.cell (HA2.out.c 4 rfl)
    have k5 := BW.cell (HA2.out.c 5 rfl)
    have k6 := BW.cell (HA2.out.c 6 rfl)
    have k7 := BW.cell (HA2.out.c 7 rfl)
    have hne : Nonempty (BW w2) := ⟨⟨w2, Below.refl _ _⟩⟩
    refine wp_region_bw (by kernel_rfl) (by kernel_rfl) ?_
    repeat (go_big_quiet_step (first
      | (go_at_call 82; refine bw_below (sVar _ _))
      | (go_at_call 81; refine bw_below (l4Flag dn _))
      | (go_at_call 139; refine bw_below (l4Piece s _ (by omega)))))
    refine wpQuiet_nil ?_
    intro w3 hw'
    obtain ⟨u, hu⟩ := hw'
    have b3 := u.bel
    rw [← hu] at b3
    clear hu
    have HA3 := hid (HA2.out.below b3 HA2.out.lt)
    have HB3 := hid (HB2.out.trans (b3.mono HB2.out.size))
    clear b3 k0 k1 k2 k3 k4 k5 k6 k7 HA2 hne
    rw [HD.out]
    generalize (Jn.mk txn dn k v t at_ s l).head = p at *
    have zp := HH.out
    clear z0 z1 z2 z3 z4 z5 z6 z7
    go_wp2
    go_loopw [3, 4] (fun s i wr => ∃ k : Nat, k ≤ l.length ∧ i = .int .i64 (k : Int) ∧ s = .string (p ++ outsS (l.take k)) ∧ Hid (Below w3.heap.size w3 wr)) (fun _ i _ => l.length - (intOf i).toNat)
    case atStart => exact ⟨0, Nat.zero_le _, rfl, by rw [show outsS (l.take 0) = ⟨#[]⟩ from rfl, append_empty], Below.refl _ _⟩
    case round =>
      obtain ⟨i, hi, rfl, rfl, HBr⟩ := hrel
      have HBw := hid (HB3.out.trans (HBr.out.mono HB3.out.size))
      have m7 := (HA3.out.below HBr.out HA3.out.lt).c 7 rfl
      by_cases hlt : i < l.length
      · obtain ⟨b, off, rfl, e0, e1⟩ := Ous.at_ (HS.out.below HBw.out) i hlt
        have hsz := HE.out i hlt
        have HT := hid (outsS_take l i hlt)
        have hz := HO.out i (by omega)
        have h8 := HL8.out
        generalize l.getD i Ou.none = x at e0 e1 hsz HT
        obtain ⟨xs, xt⟩ := x
        simp only [] at e0 e1 hsz HT
        generalize outsS (l.take i) = o at *
        have hps : (p ++ o).size ≤ 1000 := by rw [ByteArray.size_append]; omega
        have HAs : Hid (p ++ o ++ vr xs ++ piece xt = p ++ (o ++ vr xs ++ piece xt)) := by rw [Hid, append_assoc, append_assoc, append_assoc]
        generalize p ++ o = q at *
        have y1 := vr_size xs
        have y2 := piece_size xt
        have hne : Nonempty (BW wr) := ⟨⟨wr, Below.refl _ _⟩⟩
        replace e0 := BW.cell e0
        replace e1 := BW.cell e1
        have n7 := BW.cell m7
        go_wp2
        refine wp_region_bw (by kernel_rfl) (by kernel_rfl) ?_
        repeat (go_big_quiet_step (first
          | (go_at_call 82; refine bw_below (sVar _ _))
          | (go_at_call 139; refine bw_below (l4Piece xt _ (by omega)))))
        refine wpQuiet_nil ?_
        intro _ hw'
        obtain ⟨u, rfl⟩ := hw'
        have HUr := hid (HBr.out.trans (u.bel.mono HBr.out.size))
        clear e0 e1 n7 m7
        go_wp2
        exact ⟨⟨i + 1, by omega, by go_num, by rw [HT.out, ← HAs.out], HUr⟩, by simp [intOf]; omega⟩
      · obtain rfl : i = l.length := by omega
        have HE2 : Hid (outsS (l.take l.length) = outsS l) := by rw [Hid, List.take_length]
        rw [HE2.out]
        generalize p ++ outsS l = q at *
        go_wp2_with fail
        refine (l4Sum q _ HZ.out).mono ?_
        rintro r w4 ⟨rfl, b4⟩
        have HB4 := hid (HBw.out.trans (b4.mono HBw.out.size))
        clear b4 m7
        go_wp2
        go_ret
        exact ⟨Own.ret_str HY.out, HB4.out⟩

end Go.Proofs.YtogebppolkfldaaGreatDoor.Sec

namespace Go.Proofs.YtogebppolkfldaaGreatDoor.Sec
open Go.RowKit Go.Proofs.YtogebppolkfldaaGreatDoor.Mem
set_option linter.unusedVariables false

def opS (k v t a : Int) (s : ByteArray) : ByteArray := vrs 0 [k, v, t, a] ++ piece s

theorem four_bd {k v t a : Int} (hk : 0 ≤ k ∧ k ≤ 99) (hv : 0 ≤ v ∧ v ≤ 99) (ht : 0 ≤ t ∧ t ≤ 99) (ha : 0 ≤ a ∧ a ≤ 99) : ∀ i, i < [k, v, t, a].length → -1 ≤ [k, v, t, a].getD i 0 ∧ [k, v, t, a].getD i 0 ≤ 1000000 := by
  intro i hi
  have : i = 0 ∨ i = 1 ∨ i = 2 ∨ i = 3 := by simp at hi; omega
  rcases this with rfl | rfl | rfl | rfl <;> simp <;> omega

theorem box5_below {wa w1 w2 : World} {g : Nat} {x0 x1 x2 x3 x4 : Value} (hg : g < wa.heap.size) (b : Below w1.heap.size w1 w2) (h : w1.cell? ⟨g, 0, none⟩ = some x0 ∧ w1.cell? ⟨g, 1, none⟩ = some x1 ∧ w1.cell? ⟨g, 2, none⟩ = some x2 ∧ w1.cell? ⟨g, 3, none⟩ = some x3 ∧ w1.cell? ⟨g, 4, none⟩ = some x4 ∧ Below wa.heap.size wa w1) :
    w2.cell? ⟨g, 0, none⟩ = some x0 ∧ w2.cell? ⟨g, 1, none⟩ = some x1 ∧ w2.cell? ⟨g, 2, none⟩ = some x2 ∧ w2.cell? ⟨g, 3, none⟩ = some x3 ∧ w2.cell? ⟨g, 4, none⟩ = some x4 ∧ Below wa.heap.size wa w2 := by
  obtain ⟨a0, a1, a2, a3, a4, bl⟩ := h
  have hl : g < w1.heap.size := Nat.lt_of_lt_of_le hg bl.size
  have c := fun j => b.cell (p := ⟨g, j, none⟩) hl
  exact ⟨(c 0).trans a0, (c 1).trans a1, (c 2).trans a2, (c 3).trans a3, (c 4).trans a4, bl.trans (b.mono bl.size)⟩

theorem box5_alloc {wa w1 : World} {g : Nat} {x0 x1 x2 x3 x4 : Value} (hg : g < wa.heap.size) (h : w1.cell? ⟨g, 0, none⟩ = some x0 ∧ w1.cell? ⟨g, 1, none⟩ = some x1 ∧ w1.cell? ⟨g, 2, none⟩ = some x2 ∧ w1.cell? ⟨g, 3, none⟩ = some x3 ∧ w1.cell? ⟨g, 4, none⟩ = some x4 ∧ Below wa.heap.size wa w1) (o : Obj) :
    (w1.alloc o).cell? ⟨g, 0, none⟩ = some x0 ∧ (w1.alloc o).cell? ⟨g, 1, none⟩ = some x1 ∧ (w1.alloc o).cell? ⟨g, 2, none⟩ = some x2 ∧ (w1.alloc o).cell? ⟨g, 3, none⟩ = some x3 ∧ (w1.alloc o).cell? ⟨g, 4, none⟩ = some x4 ∧ Below wa.heap.size wa (w1.alloc o) :=
  box5_below hg ((Below.refl _ _).alloc (Nat.le_refl _) o) h

set_option maxRecDepth 100000 in
set_option maxHeartbeats 2000000 in
theorem showOp (k v t a : Int) (s : ByteArray) (w : World) (hs : s.size ≤ 16) (hk : 0 ≤ k ∧ k ≤ 99) (hv : 0 ≤ v ∧ v ≤ 99) (ht : 0 ≤ t ∧ t ≤ 99) (ha : 0 ≤ a ∧ a ≤ 99) :
    Calls Tryz.prog 170 #[opV k v t a s] w fun e w' => e = .returned (.string (opS k v t a s)) ∧ Below w.heap.size w w' := by
  have HBd := hid (four_bd hk hv ht ha)
  have HD : Hid (vrs 0 [k, v, t, a] ++ piece s = opS k v t a s) := rfl
  have zp := piece_size s
  have zv : (vrs 0 [k, v, t, a]).size ≤ 28 := by have := vrs_size 0 [k, v, t, a]; simpa using this
  unfold opV
  obtain ⟨wa, hwa, ez, A0, B0⟩ := one_new w [.int .i64 k, .int .i64 v, .int .i64 t, .int .i64 a, .string s] 63
  have k0 := A0.c 0 rfl
  have k1 := A0.c 1 rfl
  have k2 := A0.c 2 rfl
  have k3 := A0.c 3 rfl
  have k4 := A0.c 4 rfl
  have HA := hid A0
  have HB := hid B0
  have hwn : ∀ w : World, (Instr.buildSlice 23 4 #[(0, .int .i64 k), (1, .int .i64 v), (2, .int .i64 t), (3, .int .i64 a)]).run Tryz.prog w = .ok (.slice (some ⟨w.heap.size, 0, none⟩) 4 4) (w.alloc (.cells #[.int .i64 k, .int .i64 v, .int .i64 t, .int .i64 a] 3)) := fun _ => by kernel_rfl
  clear A0 B0 hk hv ht ha
  go_enter Tryz.func170, Tryz.ntmps170
  go_wp2
  have Q0 := hid (show wa.drew.cell? ⟨w.heap.size, 0, none⟩ = some (.int .i64 k) ∧ wa.drew.cell? ⟨w.heap.size, 1, none⟩ = some (.int .i64 v) ∧ wa.drew.cell? ⟨w.heap.size, 2, none⟩ = some (.int .i64 t) ∧ wa.drew.cell? ⟨w.heap.size, 3, none⟩ = some (.int .i64 a) ∧ wa.drew.cell? ⟨w.heap.size, 4, none⟩ = some (.string s) ∧ Below wa.heap.size wa wa.drew from ⟨k0, k1, k2, k3, k4, (Below.refl _ wa).drew⟩)
  have hg : w.heap.size < wa.heap.size := by omega
  have QA := hid (show (wa.alloc (.cells #[.int .i64 k, .int .i64 v, .int .i64 t, .int .i64 a] 3)).drew.cell? ⟨w.heap.size, 0, none⟩ = some (.int .i64 k) ∧ (wa.alloc (.cells #[.int .i64 k, .int .i64 v, .int .i64 t, .int .i64 a] 3)).drew.cell? ⟨w.heap.size, 1, none⟩ = some (.int .i64 v) ∧ (wa.alloc (.cells #[.int .i64 k, .int .i64 v, .int .i64 t, .int .i64 a] 3)).drew.cell? ⟨w.heap.size, 2, none⟩ = some (.int .i64 t) ∧ (wa.alloc (.cells #[.int .i64 k, .int .i64 v, .int .i64 t, .int .i64 a] 3)).drew.cell? ⟨w.heap.size, 3, none⟩ = some (.int .i64 a) ∧ (wa.alloc (.cells #[.int .i64 k, .int .i64 v, .int .i64 t, .int .i64 a] 3)).drew.cell? ⟨w.heap.size, 4, none⟩ = some (.string s) ∧ Below wa.heap.size wa (wa.alloc (.cells #[.int .i64 k, .int .i64 v, .int .i64 t, .int .i64 a] 3)).drew from
    box5_below hg ((Below.refl _ wa).alloc (Nat.le_refl _) _).drew ⟨k0, k1, k2, k3, k4, Below.refl _ wa⟩)
  have HI : Hid (Ints (wa.alloc (.cells #[.int .i64 k, .int .i64 v, .int .i64 t, .int .i64 a] 3)).drew (some ⟨wa.heap.size, 0, none⟩) [k, v, t, a]) := ints_new wa [k, v, t, a]
  rw [ez] at HI
  clear k0 k1 k2 k3 k4 hwa
  go_region_held_law (fun w' => w'.cell? ⟨w.heap.size, 0, none⟩ = some (.int .i64 k) ∧ w'.cell? ⟨w.heap.size, 1, none⟩ = some (.int .i64 v) ∧ w'.cell? ⟨w.heap.size, 2, none⟩ = some (.int .i64 t) ∧ w'.cell? ⟨w.heap.size, 3, none⟩ = some (.int .i64 a) ∧ w'.cell? ⟨w.heap.size, 4, none⟩ = some (.string s) ∧ Below wa.heap.size wa w')
    (first | with_reducible exact Q2.out | with_reducible exact Q1.out | with_reducible exact Q0.out | with_reducible assumption | with_reducible exact QA.out)
    (first
      | (go_at_call 133; refine (showNumbers _ _ 4 [k, v, t, a] 0 HI.out (by simp) (by decide) HBd.out).mono ?_; rintro e w1 ⟨rfl, b1⟩; have Q1 := hid (box5_below hg b1 QA.out); clear b1)
      | (go_at_call 183; refine (showPiece s _ (by omega)).mono ?_; rintro e w2 ⟨rfl, b2⟩; have Q2 := hid (box5_below hg b2 Q1.out); clear b2))
  all_goals (have HB2 := hid (HB.out.trans (Q2.out.2.2.2.2.2.mono HB.out.size)); clear Q0 Q1 Q2; go_wp2; go_ret; exact ⟨Own.ret_str HD.out, HB2.out⟩)

end Go.Proofs.YtogebppolkfldaaGreatDoor.Sec

namespace Go.Proofs.YtogebppolkfldaaGreatDoor.Sec
open Go.RowKit Go.Proofs.YtogebppolkfldaaGreatDoor.Mem
set_option linter.unusedVariables false

set_option maxRecDepth 100000 in
set_option maxHeartbeats 2000000 in
theorem showOuts (w : World) (a : Option Addr) (cap : Nat) (l : List Ou) (S : Ous w a l) (hl : l.length ≤ 8) (he : ∀ i, i < l.length → ((l.getD i Ou.none).text.size : Int) ≤ 60) :
    Calls Tryz.prog 171 #[.slice a l.length cap] w fun e w' => e = .returned (.string (vr (l.length : Int) ++ outsS l)) ∧ Below w.heap.size w w' := by
  have HS := hid S
  have HO := hid (outsS_size l hl he)
  have HE := hid he
  have HN := hid (Build.Bd.new w)
  have zl := vr_size (l.length : Int)
  clear S he
  go_enter Tryz.func171, Tryz.ntmps171
  go_wp2_with fail
  obtain ⟨wa, hwa⟩ : ∃ wa, w.alloc (.cells #[.pointer none, .slice none 0 0] 214) = wa := ⟨_, rfl⟩
  have HB0 : Hid (Below w.heap.size w wa) := by rw [← hwa]; exact (Below.refl _ _).alloc (Nat.le_refl _) _
  rw [hwa] at HN
  simp only [hwa]
  clear hwa
  refine (iVar (l.length : Int) _).mono ?_
  rintro e w1 ⟨rfl, b1⟩
  have HB1 := hid (HB0.out.trans (b1.mono HB0.out.size))
  have HD1 := hid (HN.out.below b1)
  clear b1 HN HB0
  go_wp2_with fail
  refine (Build.write w.heap.size w.heap.size _ (vr (l.length : Int)) w1 HD1.out (by show 0 + _ ≤ _; omega) HB1.out.size).mono ?_
  rintro e w2 ⟨rfl, hD2, b2⟩
  rw [empty_append] at hD2
  have HD2 := hid hD2
  have HB2 := hid (HB1.out.trans b2)
  clear hD2 b2 HD1 HB1
  generalize hp : vr (l.length : Int) = p at *
  have HP := hid hp
  clear hp
  go_wp2
  go_loopw [12] (fun i wr => ∃ k : Nat, k ≤ l.length ∧ i = .int .i64 (k : Int) ∧ Hid (Build.Bd w.heap.size w.heap.size (p ++ outsS (l.take k)) wr) ∧ Hid (Below w.heap.size w wr)) (fun i _ => l.length - (intOf i).toNat)
  case atStart => exact ⟨0, Nat.zero_le _, rfl, by rw [show outsS (l.take 0) = ⟨#[]⟩ from rfl, append_empty]; exact HD2, HB2⟩
  case round =>
    obtain ⟨k, hk, rfl, HD, HB⟩ := hrel
    by_cases hlt : k < l.length
    · obtain ⟨b, off, rfl, c0, c1⟩ := Ous.at_ (HS.out.below HB.out) k hlt
      have hsz := HE.out k hlt
      have HT := hid (outsS_take l k hlt)
      have hz := HO.out k (by omega)
      generalize l.getD k Ou.none = x at c0 c1 hsz HT
      obtain ⟨xs, xt⟩ := x
      simp only [] at c0 c1 hsz HT
      generalize outsS (l.take k) = o at *
      have hps : (p ++ o).size ≤ 1000 := by rw [ByteArray.size_append]; omega
      have HAs : Hid (p ++ o ++ vr xs ++ piece xt = p ++ (o ++ vr xs ++ piece xt)) := by rw [Hid, append_assoc, append_assoc, append_assoc]
      generalize p ++ o = q at *
      have y1 := vr_size xs
      have y2 := piece_size xt
      have hlb := HD.out.lt
      go_wp2_with fail
      obtain ⟨wo, hwo⟩ : ∃ wo, wr.alloc (.cells #[.int .i64 xs, .string xt] 180) = wo := ⟨_, rfl⟩
      have RO : wo.heap[wr.heap.size]? = some (.cells [Value.int .i64 xs, .string xt].toArray 180 (0, 0)) := by rw [← hwo]; exact heap_alloc_new wr _
      have B0 : Below wr.heap.size wr wo := by rw [← hwo]; exact (Below.refl _ _).alloc (Nat.le_refl _) _
      have hso : wr.heap.size < wo.heap.size := by rw [← hwo]; exact lt_alloc _ _
      simp only [hwo]
      have HBo := hid (HB.out.trans (B0.mono HB.out.size))
      have HDo := hid (HD.out.below B0)
      clear hwo B0 c0 c1
      refine (iVar xs _).mono ?_
      rintro e w3 ⟨rfl, b3⟩
      have RO3 : w3.heap[wr.heap.size]? = some (.cells [Value.int .i64 xs, .string xt].toArray 180 (0, 0)) := by rw [b3.block _ hso]; exact RO
      have HB3 := hid (HBo.out.trans (b3.mono HBo.out.size))
      have HD3 := hid (HDo.out.below b3)
      have hs3 := b3.size
      clear b3 RO
      have HR3 := hid RO3
      clear RO3
      go_wp2_with fail
      refine (Build.write_others w.heap.size w.heap.size q (vr xs) w3 HD3.out (by omega) HB3.out.size).mono ?_
      rintro e w4 ⟨rfl, hD4, b4, o4⟩
      have HR4 := hid (o4.row (by omega) (by decide) HR3.out)
      have HD4 := hid hD4
      have HB4 := hid (HB3.out.trans b4)
      have d1 : w4.cell? ⟨wr.heap.size, 1, none⟩ = some (.string xt) := by rw [cell_of_row w4 wr.heap.size 1 _ _ (0, 0) HR4.out]; rfl
      have d0 : w4.cell? ⟨wr.heap.size, 0, none⟩ = some (.int .i64 xs) := by rw [cell_of_row w4 wr.heap.size 0 _ _ (0, 0) HR4.out]; rfl
      clear hD4 b4 o4
      go_wp2_with fail
      refine (showPiece xt _ (by omega)).mono ?_
      rintro e w5 ⟨rfl, b5⟩
      have HB5 := hid (HB4.out.trans (b5.mono HB4.out.size))
      have HD5 := hid (HD4.out.below b5)
      clear b5 d0 d1
      have hqv : (q ++ vr xs).size ≤ 1007 := by rw [ByteArray.size_append]; omega
      go_wp2_with fail
      refine (Build.write w.heap.size w.heap.size (q ++ vr xs) (piece xt) w5 HD5.out (by omega) HB5.out.size).mono ?_
      rintro e w6 ⟨rfl, hD6, b6⟩
      have HD6 := hid hD6
      have HB6 := hid (HB5.out.trans b6)
      clear hD6 b6
      go_wp2
      exact ⟨⟨k + 1, by omega, by go_num, by rw [HT.out, ← HAs.out]; exact HD6, HB6⟩, by simp [intOf]; omega⟩
    · obtain rfl : k = l.length := by omega
      have HD' : Hid (Build.Bd w.heap.size w.heap.size (p ++ outsS l) wr) := by have := HD.out; rwa [List.take_length] at this
      go_wp2_with fail
      refine (Build.string w.heap.size w.heap.size (p ++ outsS l) wr HD'.out HB.out.size).mono ?_
      rintro e w1 ⟨rfl, b1⟩
      have HB1 := hid (HB.out.trans b1)
      clear b1
      go_wp2
      go_ret
      exact ⟨Own.ret_str (by rw [HP.out]), HB1.out⟩

theorem vrs4 (k v t a : Int) : vrs 0 [k, v, t, a] = vr k ++ vr v ++ vr t ++ vr a := by
  unfold vrs
  simp only [List.foldl_cons, List.foldl_nil, Int.sub_zero, empty_append]

theorem head_impl (J : Jn) : (⟨#[106]⟩ : ByteArray) ++ vr J.txn ++ flag J.done ++ opS J.kind J.vol J.to J.at_ J.text ++ (vr (J.outs.length : Int) ++ outsS J.outs) = J.head ++ outsS J.outs := by
  unfold opS Jn.head
  rw [vrs4]
  simp only [append_assoc]

set_option maxRecDepth 100000 in
set_option maxHeartbeats 4000000 in
theorem iShowJournal (w : World) (J : Jn) (a : Option Addr) (cap : Nat) (S : Ous w a J.outs) (hs : J.Small) (T : Sums w) :
    Calls Tryz.prog 148 #[jnV J a cap] w fun r w' => r = .returned (.string J.show) ∧ Below w.heap.size w w' := by
  have HS := hid S
  have HSm := hid hs
  have HT := hid T
  clear S hs T
  obtain ⟨txn, dn, k, v, t, at_, s, l⟩ := J
  have HV : Hid (jnV ⟨txn, dn, k, v, t, at_, s, l⟩ a cap = .agg #[.int .i64 txn, .bool dn, .int .i64 k, .int .i64 v, .int .i64 t, .int .i64 at_, .string s, .slice a l.length cap]) := rfl
  rw [HV.out]
  obtain ⟨wa, hwa, ez, A0, B0⟩ := one_new w [.int .i64 txn, .bool dn, .int .i64 k, .int .i64 v, .int .i64 t, .int .i64 at_, .string s, .slice a l.length cap] 144
  have k0 := A0.c 0 rfl
  have k1 := A0.c 1 rfl
  have k2 := A0.c 2 rfl
  have k3 := A0.c 3 rfl
  have k4 := A0.c 4 rfl
  have k5 := A0.c 5 rfl
  have k6 := A0.c 6 rfl
  have k7 := A0.c 7 rfl
  have HA := hid A0
  have HB := hid B0
  clear A0 B0
  go_enter Tryz.func148, Tryz.ntmps148
  go_wp2_with fail
  refine (isJournal wa ⟨txn, dn, k, v, t, at_, s, l⟩ a cap (HS.out.below HB.out) HSm.out).mono ?_
  rintro r w2 ⟨rfl, b2⟩
  have HA2 := hid (HA.out.below b2 HA.out.lt)
  have HB2 := hid (HB.out.trans (b2.mono HB.out.size))
  have HT2 := hid (HT.out.below HB2.out)
  clear b2 hwa HA k0 k1 k2 k3 k4 k5 k6 k7
  cases hf : (Jn.mk txn dn k v t at_ s l).ok with
  | false =>
    have HN := hid (jn_no hf)
    clear hf
    go_wp2
    go_ret
    exact ⟨Own.ret_str HN.out.symm, HB2.out⟩
  | true =>
    have HY := hid (jn_yes hf)
    have HF := hid (Jn.fine hf)
    have HZ := hid (jn_size HF.out)
    have HI := hid (head_impl ⟨txn, dn, k, v, t, at_, s, l⟩)
    have zo : (outsS l).size ≤ 592 := by have := outsS_size l HF.out.outs HF.out.each l.length (Nat.le_refl _); rw [List.take_length] at this; have := HF.out.outs; simp only [] at *; omega
    have z0 := vr_size txn
    have z6 := vr_size (l.length : Int)
    have z7 : (flag dn).size ≤ 7 := vr_size _
    have z8 : (opS k v t at_ s).size ≤ 51 := by
      have h1 := vrs_size 0 [k, v, t, at_]
      have h2 := piece_size s
      have h3 : s.size ≤ 16 := HF.out.text
      have h4 : [k, v, t, at_].length = 4 := rfl
      unfold opS
      rw [ByteArray.size_append]; omega
    have z9 : (vr (l.length : Int) ++ outsS l).size ≤ 599 := by rw [ByteArray.size_append]; omega
    have HZ' : Hid (((⟨#[106]⟩ : ByteArray) ++ vr txn ++ flag dn ++ opS k v t at_ s ++ (vr (l.length : Int) ++ outsS l)).size ≤ 1048576) := by
      rw [Hid, show (⟨#[106]⟩ : ByteArray) ++ vr txn ++ flag dn ++ opS k v t at_ s ++ (vr (l.length : Int) ++ outsS l) = _ from HI.out]; exact HZ.out
    have HR : Hid (summed ((⟨#[106]⟩ : ByteArray) ++ vr txn ++ flag dn ++ opS k v t at_ s ++ (vr (l.length : Int) ++ outsS l)) = (Jn.mk txn dn k v t at_ s l).show) := by
      rw [Hid, show (⟨#[106]⟩ : ByteArray) ++ vr txn ++ flag dn ++ opS k v t at_ s ++ (vr (l.length : Int) ++ outsS l) = _ from HI.out]; exact HY.out
    generalize hou : vr (l.length : Int) ++ outsS l = ou at *
    have HOu := hid hou
    clear hf hou
    go_wp2
    have k0 := BW.cell (HA2.out.c 0 rfl)
    have k1 := BW.cell (HA2.out.c 1 rfl)
    have k2 := BW.cell (HA2.out.c 2 rfl)
    have k3 := BW.cell (HA2.out.c 3 rfl)
    have k4 := BW.cell (HA2.out.c 4 rfl)
    have k5 := BW.cell (HA2.out.c 5 rfl)
    have k6 := BW.cell (HA2.out.c 6 rfl)
    have k7 := BW.cell (HA2.out.c 7 rfl)
    have hne : Nonempty (BW w2) := ⟨⟨w2, Below.refl _ _⟩⟩
    refine wp_region_bw (by kernel_rfl) (by kernel_rfl) ?_
    repeat (go_big_quiet_step (first
      | (go_at_call 159; refine bw_below (iVar _ _))
      | (go_at_call 132; refine bw_below (showFlag dn _))
      | (go_at_call 170; refine bw_below (showOp k v t at_ s _ HF.out.text HF.out.kind HF.out.vol HF.out.to HF.out.at_))
      | (go_at_call 171; refine bw_below (HOu.out ▸ showOuts _ a cap l (HS.out.below (HB2.out.trans ((BW.bel _).mono HB2.out.size))) HF.out.outs HF.out.each))
      | (go_at_call 130; refine bw_below (withSum' _ _ HZ'.out (HT2.out.below (BW.bel _))))))
    refine wpQuiet_nil ?_
    intro _ hw'
    obtain ⟨u, rfl⟩ := hw'
    have HU := hid (HB2.out.trans (u.bel.mono HB2.out.size))
    clear k0 k1 k2 k3 k4 k5 k6 k7
    go_wp2
    go_ret
    exact ⟨Own.ret_str HR.out, HU.out⟩

end Go.Proofs.YtogebppolkfldaaGreatDoor.Sec

namespace Go.Proofs.YtogebppolkfldaaGreatDoor.Mem
open Go.RowKit
set_option linter.unusedVariables false

/-- A write under way. -/
structure Wt where
  host : Int
  epoch : Int
  sector : Int
  text : ByteArray

def Wt.none : Wt := ⟨0, 0, 0, ByteArray.empty⟩
def Wt.cells (x : Wt) : List Value := [.int .i64 x.host, .int .i64 x.epoch, .int .i64 x.sector, .string x.text]
def Wt.val (x : Wt) : Value := .agg #[.int .i64 x.host, .int .i64 x.epoch, .int .i64 x.sector, .string x.text]

/-- Cell i of a list of writes, four cells each. -/
def wcell (l : List Wt) (i : Nat) : Value := (l.getD (i / 4) Wt.none).cells.getD (i % 4) undef
def Wts (w : World) (a : Option Addr) (l : List Wt) : Prop := Sl w a (l.length * 4) (wcell l)
def WtsW (w : World) (B : Nat) (a : Option Addr) (l : List Wt) : Prop := Wr w B a (l.length * 4) (wcell l)

theorem wcell_at (l : List Wt) (k j : Nat) (hj : j < 4) : wcell l (k * 4 + j) = (l.getD k Wt.none).cells.getD j undef := by
  unfold wcell
  rw [show (k * 4 + j) / 4 = k by omega, show (k * 4 + j) % 4 = j by omega]

/-- The four cells of write k. -/
theorem Wts.at_ {w : World} {a : Option Addr} {l : List Wt} (h : Wts w a l) (k : Nat) (hk : k < l.length) : ∃ b off, a = some ⟨b, off, none⟩ ∧
    w.cell? ⟨b, off + k * 4, none⟩ = some (.int .i64 (l.getD k Wt.none).host) ∧ w.cell? ⟨b, off + k * 4 + 1, none⟩ = some (.int .i64 (l.getD k Wt.none).epoch) ∧
    w.cell? ⟨b, off + k * 4 + 2, none⟩ = some (.int .i64 (l.getD k Wt.none).sector) ∧ w.cell? ⟨b, off + k * 4 + 3, none⟩ = some (.string (l.getD k Wt.none).text) := by
  obtain ⟨b, off, rfl, h0⟩ := h (k * 4 + 0) (by omega)
  obtain ⟨b1, off1, e1, h1⟩ := h (k * 4 + 1) (by omega)
  obtain ⟨b2, off2, e2, h2⟩ := h (k * 4 + 2) (by omega)
  obtain ⟨b3, off3, e3, h3⟩ := h (k * 4 + 3) (by omega)
  cases e1; cases e2; cases e3
  rw [wcell_at l k _ (by omega)] at h0 h1 h2 h3
  exact ⟨b, off, rfl, h0, by rw [Nat.add_assoc]; exact h1, by rw [Nat.add_assoc]; exact h2, by rw [Nat.add_assoc]; exact h3⟩

set_option maxRecDepth 100000 in
set_option maxHeartbeats 1000000 in
theorem toWrite (w : World) (x : Wt) : Calls Tryz.prog 85 #[x.val] w fun e w' => e = .returned x.val ∧ Below w.heap.size w w' := by
  obtain ⟨h, ep, s, t⟩ := x
  unfold Wt.val
  go_enter Tryz.func85, Tryz.ntmps85
  go_wp2
  go_returns
  exact ⟨rfl, by go_grown⟩

theorem infoW : (Tryz.prog.info? 138).map (fun i => (i.zero, i.size, i.bytes)) = some (some Wt.none.val, 4, 40) := by kernel_rfl

/-- What stands in the new row behind k rounds. -/
def partW (l : List Wt) (k : Nat) (i : Nat) : Value := if i < k * 4 then wcell l i else Wt.none.cells.getD (i % 4) undef

theorem partW_succ (l : List Wt) (k : Nat) (j : Nat) : (if j / 4 = k then [Value.int .i64 (l.getD k Wt.none).host, .int .i64 (l.getD k Wt.none).epoch, .int .i64 (l.getD k Wt.none).sector, .string (l.getD k Wt.none).text].getD (j % 4) undef else partW l k j) = partW l (k + 1) j := by
  unfold partW
  by_cases h : j / 4 = k
  · rw [if_pos h, if_pos (by omega)]
    unfold wcell
    rw [h]; rfl
  · by_cases h2 : j < k * 4
    · rw [if_neg h, if_pos h2, if_pos (by omega)]
    · rw [if_neg h, if_neg h2, if_neg (by omega)]

/-- The four cells of write k, which may be written. -/
theorem wr_at {w : World} {B b : Nat} {m : Nat} {f : Nat → Value} (h : Wr w B (some ⟨b, 0, none⟩) m f) (k : Nat) (hk : k * 4 + 4 ≤ m) :
    (∃ v, w.cell? ⟨b, k * 4, none⟩ = some v) ∧ (∃ v, w.cell? ⟨b, k * 4 + 1, none⟩ = some v) ∧ (∃ v, w.cell? ⟨b, k * 4 + 2, none⟩ = some v) ∧ (∃ v, w.cell? ⟨b, k * 4 + 3, none⟩ = some v) ∧
    w.frozen? ⟨b, k * 4, none⟩ = false ∧ w.frozen? ⟨b, k * 4 + 1, none⟩ = false ∧ w.frozen? ⟨b, k * 4 + 2, none⟩ = false ∧ w.frozen? ⟨b, k * 4 + 3, none⟩ = false := by
  obtain ⟨_, _, e0, _, h0, z0⟩ := h (k * 4) (by omega)
  obtain ⟨_, _, e1, _, h1, z1⟩ := h (k * 4 + 1) (by omega)
  obtain ⟨_, _, e2, _, h2, z2⟩ := h (k * 4 + 2) (by omega)
  obtain ⟨_, _, e3, _, h3, z3⟩ := h (k * 4 + 3) (by omega)
  cases e0; cases e1; cases e2; cases e3
  rw [Nat.zero_add] at h0 h1 h2 h3 z0 z1 z2 z3
  exact ⟨⟨_, h0⟩, ⟨_, h1⟩, ⟨_, h2⟩, ⟨_, h3⟩, z0, z1, z2, z3⟩

set_option maxRecDepth 100000 in
set_option maxHeartbeats 1000000 in
theorem toWriteS (w : World) (a : Option Addr) (cap : Nat) (l : List Wt) (S : Wts w a l) (hl : l.length ≤ 1048576) :
    Calls Tryz.prog 49 #[.slice a l.length cap] w fun e w' => ∃ g, e = .returned (.slice (some ⟨g, 0, none⟩) l.length l.length) ∧ w.heap.size ≤ g ∧ g < w'.heap.size ∧ WtsW w' w.heap.size (some ⟨g, 0, none⟩) l ∧ Below w.heap.size w w' := by
  have hmk := make_rows (P := Tryz.prog) 34 138 Wt.none.val 4 40 Tryz.underlying34 infoW .i64 .i64 l.length (by omega) (by omega)
  have HS := hid S
  have hw0 := wr_new w (madeCells Wt.none.val.cells (l.length * 4)) 138 (l.length * 4) (partW l 0) (fun i hi => by
    simp [madeCells, hi, partW, Wt.none, Wt.val, Wt.cells, Value.cells]
    have : i % 4 = 0 ∨ i % 4 = 1 ∨ i % 4 = 2 ∨ i % 4 = 3 := by omega
    rcases this with h | h | h | h <;> simp [h])
  generalize madeCells Wt.none.val.cells (l.length * 4) = cur at hmk hw0
  have HW := hid hw0
  clear S hw0
  go_enter Tryz.func49, Tryz.ntmps49
  go_wp2
  go_loopw [4] (fun i wr => ∃ k : Nat, k ≤ l.length ∧ i = .int .i64 (k : Int) ∧ w.heap.size < wr.heap.size ∧ Hid (Wr wr w.heap.size (some ⟨w.heap.size, 0, none⟩) (l.length * 4) (partW l k)) ∧ Hid (Below w.heap.size w wr)) (fun i _ => l.length - (intOf i).toNat)
  case atStart => exact ⟨0, Nat.zero_le _, rfl, lt_alloc _ _, HW, (Below.refl _ _).alloc (Nat.le_refl _) _⟩
  case round =>
    obtain ⟨k, hk, rfl, hsz, HW', HB⟩ := hrel
    by_cases hlt : k < l.length
    · obtain ⟨b, off, rfl, c0, c1, c2, c3⟩ := Wts.at_ (HS.out.below HB.out) k hlt
      generalize hx : l.getD k Wt.none = x at c0 c1 c2 c3
      have HX := hid hx
      clear hx
      go_wp2_with fail
      refine (toWrite _ x).mono ?_
      rintro e w1 ⟨rfl, hb1⟩
      have HW1 := hid (HW'.out.below hb1)
      have HB1 := hid (HB.out.trans (hb1.mono (Nat.le_of_lt hsz)))
      have hsz1 : w.heap.size < w1.heap.size := Nat.lt_of_lt_of_le hsz hb1.size
      obtain ⟨⟨u0, d0⟩, ⟨u1, d1⟩, ⟨u2, d2⟩, ⟨u3, d3⟩, z0, z1, z2, z3⟩ := wr_at HW1.out k (by omega)
      clear hb1 c0 c1 c2 c3
      unfold Wt.val
      go_wp2
      refine ⟨⟨k + 1, by omega, by go_num, by simpa using hsz1, ?_, (((HB1.out.setCell (Nat.le_refl _) _).setCell (Nat.le_refl _) _).setCell (Nat.le_refl _) _).setCell (Nat.le_refl _) _⟩, by simp [intOf]; omega⟩
      exact (HW1.out.set4 k (by omega) _ _ _ _).congr (fun j _ => by rw [← partW_succ, HX.out])
    · obtain rfl : k = l.length := by omega
      go_wp2
      go_ret
      exact ⟨_, rfl, Nat.le_refl _, hsz, HW'.out.congr (fun i hi => by simp [partW, hi]), HB.out⟩

/-- A disk. -/
structure Dk where
  sec : List ByteArray
  ep : List Int
  pe : List Wt

/-- v is the disk D in world w. -/
def DkR (w : World) (v : Value) (D : Dk) : Prop := ∃ a1 c1 a2 c2 a3 c3, v = .agg #[.slice a1 D.sec.length c1, .slice a2 D.ep.length c2, .slice a3 D.pe.length c3] ∧ Strs w a1 D.sec ∧ Ints w a2 D.ep ∧ Wts w a3 D.pe

/-- The same, in blocks from B on, no two lists in one block; they may be written. -/
def DkW (w : World) (B : Nat) (v : Value) (D : Dk) : Prop := ∃ a1 c1 a2 c2 a3 c3, v = .agg #[.slice a1 D.sec.length c1, .slice a2 D.ep.length c2, .slice a3 D.pe.length c3] ∧ StrsW w B a1 D.sec ∧ IntsW w B a2 D.ep ∧ WtsW w B a3 D.pe ∧
  (∀ b, foot a1 D.sec.length b → ¬ foot a2 D.ep.length b ∧ ¬ foot a3 (D.pe.length * 4) b) ∧ (∀ b, foot a2 D.ep.length b → ¬ foot a3 (D.pe.length * 4) b)

theorem DkR.below {w w' : World} {v : Value} {D : Dk} (h : DkR w v D) (b : Below w.heap.size w w') : DkR w' v D := by
  obtain ⟨a1, c1, a2, c2, a3, c3, e, s1, s2, s3⟩ := h
  exact ⟨a1, c1, a2, c2, a3, c3, e, Sl.below s1 b, Sl.below s2 b, Sl.below s3 b⟩

theorem DkW.read {w : World} {B : Nat} {v : Value} {D : Dk} (h : DkW w B v D) : DkR w v D := by
  obtain ⟨a1, c1, a2, c2, a3, c3, e, s1, s2, s3, _⟩ := h
  exact ⟨a1, c1, a2, c2, a3, c3, e, Wr.sl s1, Wr.sl s2, Wr.sl s3⟩

theorem DkW.below {w w' : World} {B : Nat} {v : Value} {D : Dk} (h : DkW w B v D) (b : Below w.heap.size w w') : DkW w' B v D := by
  obtain ⟨a1, c1, a2, c2, a3, c3, e, s1, s2, s3, f1, f2⟩ := h
  exact ⟨a1, c1, a2, c2, a3, c3, e, Wr.below s1 b, Wr.below s2 b, Wr.below s3 b, f1, f2⟩

set_option maxRecDepth 100000 in
set_option maxHeartbeats 1000000 in
theorem toDisk (w : World) (v : Value) (D : Dk) (h : DkR w v D) (h1 : D.sec.length ≤ 1048576) (h2 : D.ep.length ≤ 1048576) (h3 : D.pe.length ≤ 1048576) :
    Calls Tryz.prog 18 #[v] w fun e w' => ∃ v', e = .returned v' ∧ DkW w' w.heap.size v' D ∧ Below w.heap.size w w' := by
  obtain ⟨a1, c1, a2, c2, a3, c3, rfl, s1, s2, s3⟩ := h
  have HS1 := hid s1
  have HS2 := hid s2
  have HS3 := hid s3
  clear s1 s2 s3
  go_enter Tryz.func18, Tryz.ntmps18
  go_wp2_with fail
  obtain ⟨wc, hwc, e2, A0, R0, O0, B0⟩ := three_new w [.slice a1 D.sec.length c1, .slice a2 D.ep.length c2, .slice a3 D.pe.length c3] [.slice none 0 0, .slice none 0 0, .slice none 0 0] 26 36
  simp only [hwc]
  clear hwc
  refine (toStringS wc a1 c1 D.sec (HS1.out.below B0) h1).mono ?_
  rintro e w1 ⟨g1, rfl, hg1, hl1, S1, b1⟩
  replace A0 := A0.below b1 (by omega)
  replace R0 := R0.below b1 (by omega)
  replace O0 := O0.below b1 (by omega)
  replace B0 := B0.trans (b1.mono (by omega))
  have ca := A0.c 1 rfl
  have co := O0.c 0 rfl
  have fo := O0.f 0
  have HA := hid A0
  have HR := hid R0
  have HO := hid O0
  clear A0 R0 O0 b1
  go_wp2_with fail
  have A0 := HA.out.other (p := ⟨w.heap.size + 1 + 1, 0, none⟩) (by show w.heap.size ≠ w.heap.size + 1 + 1; omega) (.slice (some ⟨g1, 0, none⟩) D.sec.length D.sec.length)
  have R0 := HR.out.other (p := ⟨w.heap.size + 1 + 1, 0, none⟩) (by show w.heap.size + 1 ≠ w.heap.size + 1 + 1; omega) (.slice (some ⟨g1, 0, none⟩) D.sec.length D.sec.length)
  have O0 := HO.out.set 0 (.slice (some ⟨g1, 0, none⟩) D.sec.length D.sec.length)
  replace B0 := below_set B0 (w.heap.size + 1 + 1) 0 (.slice (some ⟨g1, 0, none⟩) D.sec.length D.sec.length) (by omega)
  replace S1 := S1.move (kept_set w1 (w.heap.size + 1 + 1) 0 (.slice (some ⟨g1, 0, none⟩) D.sec.length D.sec.length)) (fun b hb => by have := S1.foot_ge hb; omega)
  have es : (w1.setCell ⟨w.heap.size + 1 + 1, 0, none⟩ (.slice (some ⟨g1, 0, none⟩) D.sec.length D.sec.length)).heap.size = w1.heap.size := by simp
  generalize w1.setCell ⟨w.heap.size + 1 + 1, 0, none⟩ (.slice (some ⟨g1, 0, none⟩) D.sec.length D.sec.length) = w1' at *
  clear ca co fo HA HR HO
  refine (toIntS w1' a2 c2 D.ep (HS2.out.below B0) h2).mono ?_
  rintro e w2 ⟨g2, rfl, hg2, hl2, S2, b2⟩
  replace A0 := A0.below b2 A0.lt
  replace R0 := R0.below b2 R0.lt
  replace O0 := O0.below b2 O0.lt
  replace S1 := S1.below b2
  replace B0 := B0.trans (b2.mono (by omega))
  have ca := A0.c 2 rfl
  have co := O0.c 1 rfl
  have fo := O0.f 1
  have HA := hid A0
  have HR := hid R0
  have HO := hid O0
  clear A0 R0 O0 b2
  go_wp2_with fail
  have R0 := HR.out.other (p := ⟨w.heap.size + 1 + 1, 1, none⟩) (by show w.heap.size + 1 ≠ w.heap.size + 1 + 1; omega) (.slice (some ⟨g2, 0, none⟩) D.ep.length D.ep.length)
  have O0 := HO.out.set 1 (.slice (some ⟨g2, 0, none⟩) D.ep.length D.ep.length)
  replace B0 := below_set B0 (w.heap.size + 1 + 1) 1 (.slice (some ⟨g2, 0, none⟩) D.ep.length D.ep.length) (by omega)
  replace S1 := S1.move (kept_set w2 (w.heap.size + 1 + 1) 1 (.slice (some ⟨g2, 0, none⟩) D.ep.length D.ep.length)) (fun b hb => by have := S1.foot_ge hb; omega)
  replace S2 := S2.move (kept_set w2 (w.heap.size + 1 + 1) 1 (.slice (some ⟨g2, 0, none⟩) D.ep.length D.ep.length)) (fun b hb => by have := S2.foot_ge hb; omega)
  have es2 : (w2.setCell ⟨w.heap.size + 1 + 1, 1, none⟩ (.slice (some ⟨g2, 0, none⟩) D.ep.length D.ep.length)).heap.size = w2.heap.size := by simp
  generalize w2.setCell ⟨w.heap.size + 1 + 1, 1, none⟩ (.slice (some ⟨g2, 0, none⟩) D.ep.length D.ep.length) = w2' at *
  clear ca co fo HA HR HO
  refine (toWriteS w2' a3 c3 D.pe (HS3.out.below B0) h3).mono ?_
  rintro e w3 ⟨g3, rfl, hg3, hl3, S3, b3⟩
  replace R0 := R0.below b3 R0.lt
  replace O0 := O0.below b3 O0.lt
  replace S1 := S1.below b3
  replace S2 := S2.below b3
  replace B0 := B0.trans (b3.mono (by omega))
  have co0 := O0.c 0 rfl
  have co1 := O0.c 1 rfl
  have co2 := O0.c 2 rfl
  have fo := O0.f 2
  have cr0 := R0.c 0 rfl
  have cr1 := R0.c 1 rfl
  have cr2 := R0.c 2 rfl
  have fr0 := R0.f 0
  have fr1 := R0.f 1
  have fr2 := R0.f 2
  have HS1' := hid S1
  have HS2' := hid S2
  have HS3' := hid S3
  have HB := hid B0
  have HR := hid (((((R0.other (p := ⟨w.heap.size + 1 + 1, 2, none⟩) (by show w.heap.size + 1 ≠ w.heap.size + 1 + 1; omega) (.slice (some ⟨g3, 0, none⟩) D.pe.length D.pe.length)).set 0 (.slice (some ⟨g1, 0, none⟩) D.sec.length D.sec.length)).set 1 (.slice (some ⟨g2, 0, none⟩) D.ep.length D.ep.length)).set 2 (.slice (some ⟨g3, 0, none⟩) D.pe.length D.pe.length)))
  clear R0 O0 b3 S1 S2 S3 B0
  go_wp2
  refine bodyPost_ret (results_row rfl _ _ (w.heap.size + 1) [.slice (some ⟨g1, 0, none⟩) D.sec.length D.sec.length, .slice (some ⟨g2, 0, none⟩) D.ep.length D.ep.length, .slice (some ⟨g3, 0, none⟩) D.pe.length D.pe.length] _ rfl HR.out Tryz.underlying36 rfl (by kernel_rfl)) rfl ?_
  have hk : ∀ v0 v1 v2 v3, Kept (fun b => b < wc.heap.size) w3 ((((w3.setCell ⟨w.heap.size + 1 + 1, 2, none⟩ v0).setCell ⟨w.heap.size + 1, 0, none⟩ v1).setCell ⟨w.heap.size + 1, 1, none⟩ v2).setCell ⟨w.heap.size + 1, 2, none⟩ v3) := fun v0 v1 v2 v3 =>
    ((((kept_set _ _ _ _).trans (kept_set _ _ _ _)).trans (kept_set _ _ _ _)).trans (kept_set _ _ _ _)).mono (fun b _ hb => by rcases hb with ((h | h) | h) | h <;> omega)
  refine ⟨_, rfl, ⟨_, _, _, _, _, _, rfl, ?_, ?_, ?_, ?_, ?_⟩, ?_⟩
  · exact (HS1'.out.move (hk _ _ _ _) (fun b hb => by have := HS1'.out.foot_ge hb; omega)).mono (by omega)
  · exact (HS2'.out.move (hk _ _ _ _) (fun b hb => by have := HS2'.out.foot_ge hb; omega)).mono (by omega)
  · exact (HS3'.out.move (hk _ _ _ _) (fun b hb => by have := HS3'.out.foot_ge hb; omega)).mono (by omega)
  · rintro b ⟨_, o1, e1⟩
    cases e1
    exact ⟨fun ⟨_, o2, e2'⟩ => by cases e2'; omega, fun ⟨_, o2, e2'⟩ => by cases e2'; omega⟩
  · rintro b ⟨_, o1, e1⟩ ⟨_, o2, e2'⟩
    cases e1; cases e2'; omega
  · exact below_set (below_set (below_set (below_set HB.out _ _ _ (by omega)) _ _ _ (by omega)) _ _ _ (by omega)) _ _ _ (by omega)

end Go.Proofs.YtogebppolkfldaaGreatDoor.Mem

namespace Go.Proofs.YtogebppolkfldaaGreatDoor.Mem
open Go.RowKit
set_option linter.unusedVariables false

/-- What is left: a number below 0, or one not above what was, and all fits. -/
def FitS (r left : Int) (l : List ByteArray) : Prop := r < 0 ∨ (0 ≤ r ∧ r ≤ left ∧ (l.length : Int) ≤ left ∧ ∀ s ∈ l, (s.size : Int) ≤ left)
def FitN (r left : Int) (n : Nat) : Prop := r < 0 ∨ (0 ≤ r ∧ r ≤ left ∧ (n : Int) ≤ left)
def FitW (r left : Int) (l : List Wt) : Prop := r < 0 ∨ (0 ≤ r ∧ r ≤ left ∧ (l.length : Int) ≤ left ∧ ∀ s ∈ l, (s.text.size : Int) ≤ left)

set_option maxRecDepth 100000 in
set_option maxHeartbeats 1000000 in
theorem szStringS (w : World) (a : Option Addr) (cap : Nat) (l : List ByteArray) (left : Int) (S : Strs w a l) (hl : l.length ≤ maxLen) (hs : ∀ s ∈ l, s.size ≤ maxLen) (h0 : 0 ≤ left) (h1 : left ≤ 1048576) :
    Calls Tryz.prog 34 #[.slice a l.length cap, .int .i64 left] w fun e w' => ∃ r, e = .returned (.int .i64 r) ∧ w' = w ∧ FitS r left l := by
  unfold maxLen at hl hs
  have HS := hid S
  have Hs := hid hs
  clear S hs
  by_cases hb : left < (l.length : Int)
  · go_enter Tryz.func34, Tryz.ntmps34
    go_wp2
    go_ret
    exact ⟨_, rfl, rfl, Or.inl (by decide)⟩
  · go_enter Tryz.func34, Tryz.ntmps34
    go_wp2
    go_loop [1, 5] (fun x i => ∃ (k : Nat) (m : Int), k ≤ l.length ∧ i = .int .i64 (k : Int) ∧ x = .int .i64 m ∧ 0 ≤ m ∧ m ≤ left ∧ Hid (∀ j, j < k → ((l.getD j ByteArray.empty).size : Int) ≤ left)) (fun _ i => l.length - (intOf i).toNat)
    case atStart => exact ⟨0, _, Nat.zero_le _, rfl, rfl, by omega, by omega, fun j hj => by omega⟩
    case round =>
      obtain ⟨k, m, hk, rfl, rfl, hm0, hm1, HJ⟩ := hrel
      by_cases hlt : k < l.length
      · obtain ⟨b, off, rfl, hc⟩ := HS.out k hlt
        replace hc : w.cell? ⟨b, off + k, none⟩ = some (.string (l.getD k ByteArray.empty)) := hc
        have hx2 : (l.getD k ByteArray.empty).size ≤ 9223372036854775807 := by
          rw [List.getD, List.getElem?_eq_getElem hlt]; exact Hs.out _ (List.getElem_mem hlt)
        generalize hx : l.getD k ByteArray.empty = x at hc hx2
        have HX := hid hx
        clear hx
        by_cases hneg : m < (x.size : Int)
        · go_wp2
          go_ret
          exact ⟨_, rfl, rfl, Or.inl (by decide)⟩
        · go_wp2
          go_round
          case rel => exact ⟨k + 1, m - x.size, by omega, by go_num, rfl, by omega, by omega, fun j hj => by
            by_cases h : j = k
            · subst h; rw [HX.out]; omega
            · exact HJ.out j (by omega)⟩
          case measure => simp [intOf]; omega
      · obtain rfl : k = l.length := by omega
        go_wp2
        go_ret
        refine ⟨_, rfl, rfl, Or.inr ⟨hm0, hm1, by omega, fun s hs => ?_⟩⟩
        obtain ⟨j, hj, rfl⟩ := List.getElem_of_mem hs
        have := HJ.out j hj
        rwa [List.getD, List.getElem?_eq_getElem hj] at this

set_option maxHeartbeats 1000000 in
theorem szIntS (w : World) (a : Option Addr) (cap n : Nat) (left : Int) (hl : n ≤ maxLen) (h0 : 0 ≤ left) (h1 : left ≤ 1048576) :
    Calls Tryz.prog 12 #[.slice a n cap, .int .i64 left] w fun e w' => ∃ r, e = .returned (.int .i64 r) ∧ w' = w ∧ FitN r left n := by
  unfold maxLen at hl
  by_cases hb : left < (n : Int)
  · go_enter Tryz.func12, Tryz.ntmps12
    go_wp2
    go_ret
    exact ⟨_, rfl, rfl, Or.inl (by decide)⟩
  · go_enter Tryz.func12, Tryz.ntmps12
    go_wp2
    go_ret
    exact ⟨_, rfl, rfl, Or.inr ⟨by omega, by omega, by omega⟩⟩

set_option maxHeartbeats 1000000 in
theorem szWrite (w : World) (x : Wt) (left : Int) (hl : x.text.size ≤ maxLen) (h0 : 0 ≤ left) (h1 : left ≤ 1048576) :
    Calls Tryz.prog 69 #[x.val, .int .i64 left] w fun e w' => ∃ r, e = .returned (.int .i64 r) ∧ Below w.heap.size w w' ∧ FitN r left x.text.size := by
  unfold maxLen at hl
  obtain ⟨xh, xe, xs, xt⟩ := x
  unfold Wt.val
  replace hl : xt.size ≤ 2 ^ 63 - 1 := hl
  by_cases hb : left < (xt.size : Int)
  · go_enter Tryz.func69, Tryz.ntmps69
    go_wp2
    go_ret
    exact ⟨_, rfl, by go_grown, Or.inl (by decide)⟩
  · go_enter Tryz.func69, Tryz.ntmps69
    go_wp2
    go_ret
    exact ⟨_, rfl, by go_grown, Or.inr ⟨by omega, by omega, by show (xt.size : Int) ≤ left; omega⟩⟩

set_option maxRecDepth 100000 in
set_option maxHeartbeats 1000000 in
theorem szWriteS (w : World) (a : Option Addr) (cap : Nat) (l : List Wt) (left : Int) (S : Wts w a l) (hl : l.length ≤ maxLen) (hs : ∀ s ∈ l, s.text.size ≤ maxLen) (h0 : 0 ≤ left) (h1 : left ≤ 1048576) :
    Calls Tryz.prog 35 #[.slice a l.length cap, .int .i64 left] w fun e w' => ∃ r, e = .returned (.int .i64 r) ∧ Below w.heap.size w w' ∧ FitW r left l := by
  unfold maxLen at hl
  have HS := hid S
  have Hs := hid hs
  clear S hs
  by_cases hb : left < (l.length : Int)
  · go_enter Tryz.func35, Tryz.ntmps35
    go_wp2
    go_ret
    exact ⟨_, rfl, Below.refl _ _, Or.inl (by decide)⟩
  · go_enter Tryz.func35, Tryz.ntmps35
    go_wp2
    go_loopw [1, 5] (fun x i wr => ∃ (k : Nat) (m : Int), k ≤ l.length ∧ i = .int .i64 (k : Int) ∧ x = .int .i64 m ∧ 0 ≤ m ∧ m ≤ left ∧ Hid (∀ j, j < k → ((l.getD j Wt.none).text.size : Int) ≤ left) ∧ Hid (Below w.heap.size w wr)) (fun _ i _ => l.length - (intOf i).toNat)
    case atStart => exact ⟨0, _, Nat.zero_le _, rfl, rfl, by omega, by omega, fun j hj => by omega, Below.refl _ _⟩
    case round =>
      obtain ⟨k, m, hk, rfl, rfl, hm0, hm1, HJ, HB⟩ := hrel
      by_cases hlt : k < l.length
      · obtain ⟨b, off, rfl, c0, c1, c2, c3⟩ := Wts.at_ (HS.out.below HB.out) k hlt
        have Hx2 : Hid ((l.getD k Wt.none).text.size ≤ maxLen) := by
          show (l.getD k Wt.none).text.size ≤ maxLen
          rw [List.getD, List.getElem?_eq_getElem hlt]; exact Hs.out _ (List.getElem_mem hlt)
        generalize hx : l.getD k Wt.none = x at c0 c1 c2 c3 Hx2
        have HX := hid hx
        clear hx
        go_wp2_with fail
        refine (szWrite _ x m Hx2.out hm0 (by omega)).mono ?_
        rintro e w1 ⟨r, rfl, hb1, hf⟩
        have HB1 := hid (HB.out.trans (hb1.mono HB.out.size))
        have HF := hid hf
        clear hb1 hf c0 c1 c2 c3
        by_cases hneg : r < 0
        · go_wp2
          go_ret
          exact ⟨_, rfl, HB1.out, Or.inl (by decide)⟩
        · obtain ⟨q0, q1, q2⟩ : 0 ≤ r ∧ r ≤ m ∧ (x.text.size : Int) ≤ m := by
            rcases HF.out with h | h
            · omega
            · exact h
          go_wp2
          go_roundw
          case rel => exact ⟨k + 1, r, by omega, by go_num, rfl, by omega, by omega, fun j hj => by
            by_cases h : j = k
            · subst h; rw [HX.out]; omega
            · exact HJ.out j (by omega), HB1⟩
          case measure => simp [intOf]; omega
      · obtain rfl : k = l.length := by omega
        go_wp2
        go_ret
        refine ⟨_, rfl, HB.out, Or.inr ⟨hm0, hm1, by omega, fun s hs => ?_⟩⟩
        obtain ⟨j, hj, rfl⟩ := List.getElem_of_mem hs
        have := HJ.out j hj
        rwa [List.getD, List.getElem?_eq_getElem hj] at this

/-- The sizes that Go can hold. -/
structure Dk.Held (D : Dk) : Prop where
  h1 : D.sec.length ≤ maxLen
  h2 : D.ep.length ≤ maxLen
  h3 : D.pe.length ≤ maxLen
  t1 : ∀ s ∈ D.sec, s.size ≤ maxLen
  t3 : ∀ x ∈ D.pe, x.text.size ≤ maxLen

/-- The sizes that the laws look at. -/
structure Dk.Small (D : Dk) (m : Int) : Prop where
  h1 : (D.sec.length : Int) ≤ m
  h2 : (D.ep.length : Int) ≤ m
  h3 : (D.pe.length : Int) ≤ m
  t1 : ∀ s ∈ D.sec, (s.size : Int) ≤ m
  t3 : ∀ x ∈ D.pe, (x.text.size : Int) ≤ m

def FitD (r left : Int) (D : Dk) : Prop := r < 0 ∨ (0 ≤ r ∧ r ≤ left ∧ D.Small left)

set_option maxRecDepth 100000 in
set_option maxHeartbeats 1000000 in
theorem szDisk (w : World) (v : Value) (D : Dk) (left : Int) (h : DkR w v D) (hd : D.Held) (h0 : 0 ≤ left) (h1 : left ≤ 1048576) :
    Calls Tryz.prog 9 #[v, .int .i64 left] w fun e w' => ∃ r, e = .returned (.int .i64 r) ∧ Below w.heap.size w w' ∧ FitD r left D := by
  obtain ⟨a1, c1, a2, c2, a3, c3, rfl, s1, s2, s3⟩ := h
  have HS1 := hid s1
  have HS2 := hid s2
  have HS3 := hid s3
  have HD := hid hd
  clear s1 s2 s3 hd
  go_enter Tryz.func9, Tryz.ntmps9
  go_wp2_with fail
  obtain ⟨w1, hw1, _, A0, B0⟩ := one_new w [.slice a1 D.sec.length c1, .slice a2 D.ep.length c2, .slice a3 D.pe.length c3] 26
  simp only [hw1]
  clear hw1
  refine (szStringS w1 a1 c1 D.sec left (HS1.out.below B0) HD.out.h1 HD.out.t1 h0 h1).mono ?_
  rintro e w1' ⟨r1, rfl, hw, hf⟩
  subst hw
  have HF1 := hid hf
  have HB := hid B0
  have HA := hid A0
  have ca := A0.c 1 rfl
  clear hf B0 A0
  by_cases hn1 : r1 < 0
  · go_wp2
    go_ret
    exact ⟨_, rfl, HB.out, Or.inl (by decide)⟩
  obtain ⟨p0, p1, p2, p3⟩ : 0 ≤ r1 ∧ r1 ≤ left ∧ (D.sec.length : Int) ≤ left ∧ ∀ s ∈ D.sec, (s.size : Int) ≤ left := by
    rcases HF1.out with h | h
    · omega
    · exact h
  have HP3 := hid p3
  clear p3
  go_wp2_with fail
  refine (szIntS w1' a2 c2 D.ep.length r1 HD.out.h2 p0 (by omega)).mono ?_
  rintro e w2 ⟨r2, rfl, hw, hf⟩
  subst hw
  have HF2 := hid hf
  have cb := HA.out.c 2 rfl
  clear hf ca
  by_cases hn2 : r2 < 0
  · go_wp2
    go_ret
    exact ⟨_, rfl, HB.out, Or.inl (by decide)⟩
  obtain ⟨q0, q1, q2⟩ : 0 ≤ r2 ∧ r2 ≤ r1 ∧ (D.ep.length : Int) ≤ r1 := by
    rcases HF2.out with h | h
    · omega
    · exact h
  go_wp2_with fail
  refine (szWriteS w2 a3 c3 D.pe r2 (HS3.out.below HB.out) HD.out.h3 HD.out.t3 q0 (by omega)).mono ?_
  rintro e w3 ⟨r3, rfl, hb3, hf⟩
  have HF3 := hid hf
  have HB3 := hid (HB.out.trans (hb3.mono HB.out.size))
  clear hf hb3 cb
  by_cases hn3 : r3 < 0
  · go_wp2
    go_ret
    exact ⟨_, rfl, HB3.out, Or.inl (by decide)⟩
  obtain ⟨t0, t1, t2, t3⟩ : 0 ≤ r3 ∧ r3 ≤ r2 ∧ (D.pe.length : Int) ≤ r2 ∧ ∀ s ∈ D.pe, (s.text.size : Int) ≤ r2 := by
    rcases HF3.out with h | h
    · omega
    · exact h
  have HT3 := hid t3
  clear t3
  go_wp2
  go_ret
  exact ⟨_, rfl, HB3.out, Or.inr ⟨by omega, by omega, ⟨p2, by omega, by omega, HP3.out, fun x hx => by have := HT3.out x hx; omega⟩⟩⟩

end Go.Proofs.YtogebppolkfldaaGreatDoor.Mem

namespace Go.Proofs.YtogebppolkfldaaGreatDoor.Mem
open Go.RowKit Classical
set_option linter.unusedVariables false

theorem getD_ext {α : Type} {l m : List α} (d : α) (hl : l.length = m.length) (h : ∀ j, j < l.length → l.getD j d = m.getD j d) : l = m := by
  apply List.ext_getElem hl
  intro i h1 h2
  have := h i h1
  rwa [List.getD, List.getElem?_eq_getElem h1, List.getD, List.getElem?_eq_getElem h2] at this

set_option maxRecDepth 100000 in
set_option maxHeartbeats 1000000 in
theorem eqStringS (w : World) (a b : Option Addr) (ca cb : Nat) (l m : List ByteArray) (S : Strs w a l) (T : Strs w b m) (hl : l.length ≤ maxLen) (hm : m.length ≤ maxLen) :
    Calls Tryz.prog 64 #[.slice a l.length ca, .slice b m.length cb] w fun e w' => e = .returned (.bool (decide (l = m))) ∧ Below w.heap.size w w' := by
  unfold maxLen at hl hm
  have HS := hid S
  have HT := hid T
  clear S T
  by_cases hne : l.length = m.length
  · have Hne := hid hne
    rw [← hne]
    clear hne hm
    generalize hq : decide (l = m) = q
    have HQ := hid hq
    clear hq
    go_enter Tryz.func64, Tryz.ntmps64
    go_wp2
    go_loopw [5] (fun i wr => ∃ k : Nat, k ≤ l.length ∧ i = .int .i64 (k : Int) ∧ Hid (∀ j, j < k → l.getD j ByteArray.empty = m.getD j ByteArray.empty) ∧ Hid (Below w.heap.size w wr)) (fun i _ => l.length - (intOf i).toNat)
    case atStart => exact ⟨0, Nat.zero_le _, rfl, fun j hj => by omega, Below.refl _ _⟩
    case round =>
      obtain ⟨k, hk, rfl, HJ, HB⟩ := hrel
      by_cases hlt : k < l.length
      · obtain ⟨b1, o1, rfl, hc1⟩ := (HS.out.below HB.out) k hlt
        obtain ⟨b2, o2, rfl, hc2⟩ := (HT.out.below HB.out) k (Hne.out ▸ hlt)
        replace hc1 : wr.cell? ⟨b1, o1 + k, none⟩ = some (.string (l.getD k ByteArray.empty)) := hc1
        replace hc2 : wr.cell? ⟨b2, o2 + k, none⟩ = some (.string (m.getD k ByteArray.empty)) := hc2
        generalize hx : l.getD k ByteArray.empty = x at hc1
        generalize hy : m.getD k ByteArray.empty = y at hc2
        have HX := hid hx
        have HY := hid hy
        clear hx hy
        by_cases he : x = y
        · have he' := Own.eqS_yes he
          have HE := hid he
          clear he
          go_wp2
          go_quiet (fail)
          go_wp2
          exact ⟨⟨k + 1, by omega, by go_num, fun j hj => by
            by_cases h : j = k
            · subst h; rw [HX.out, HY.out]; exact HE.out
            · exact HJ.out j (by omega), below_drewN HB.out nq⟩, by simp [intOf]; omega⟩
        · have he' := Own.eqS_no he
          have HE := hid he
          clear he
          go_wp2
          go_quiet (fail)
          go_wp2
          go_ret
          refine ⟨?_, below_drewN HB.out nq⟩
          rw [← HQ.out, decide_eq_false (fun e => HE.out (by rw [← HX.out, ← HY.out, e]))]
          rfl
      · obtain rfl : k = l.length := by omega
        go_wp2
        go_ret
        refine ⟨?_, HB.out⟩
        rw [← HQ.out, decide_eq_true (getD_ext ByteArray.empty Hne.out HJ.out)]
        rfl
  · have hne' : ¬ (l.length : Int) = (m.length : Int) := by omega
    have HQ := hid (decide_eq_false (p := l = m) (fun e => hne (by rw [e])))
    rw [HQ.out]
    go_enter Tryz.func64, Tryz.ntmps64
    go_wp2
    go_ret
    exact ⟨rfl, Below.refl _ _⟩

set_option maxRecDepth 100000 in
set_option maxHeartbeats 1000000 in
theorem eqIntS (w : World) (a b : Option Addr) (ca cb : Nat) (l m : List Int) (S : Ints w a l) (T : Ints w b m) (hl : l.length ≤ maxLen) (hm : m.length ≤ maxLen) :
    Calls Tryz.prog 32 #[.slice a l.length ca, .slice b m.length cb] w fun e w' => e = .returned (.bool (decide (l = m))) ∧ Below w.heap.size w w' := by
  unfold maxLen at hl hm
  have HS := hid S
  have HT := hid T
  clear S T
  by_cases hne : l.length = m.length
  · have Hne := hid hne
    rw [← hne]
    clear hne hm
    generalize hq : decide (l = m) = q
    have HQ := hid hq
    clear hq
    go_enter Tryz.func32, Tryz.ntmps32
    go_wp2
    go_loopw [5] (fun i wr => ∃ k : Nat, k ≤ l.length ∧ i = .int .i64 (k : Int) ∧ Hid (∀ j, j < k → l.getD j 0 = m.getD j 0) ∧ Hid (Below w.heap.size w wr)) (fun i _ => l.length - (intOf i).toNat)
    case atStart => exact ⟨0, Nat.zero_le _, rfl, fun j hj => by omega, Below.refl _ _⟩
    case round =>
      obtain ⟨k, hk, rfl, HJ, HB⟩ := hrel
      by_cases hlt : k < l.length
      · obtain ⟨b1, o1, rfl, hc1⟩ := (HS.out.below HB.out) k hlt
        obtain ⟨b2, o2, rfl, hc2⟩ := (HT.out.below HB.out) k (Hne.out ▸ hlt)
        replace hc1 : wr.cell? ⟨b1, o1 + k, none⟩ = some (.int .i64 (l.getD k 0)) := hc1
        replace hc2 : wr.cell? ⟨b2, o2 + k, none⟩ = some (.int .i64 (m.getD k 0)) := hc2
        generalize hx : l.getD k 0 = x at hc1
        generalize hy : m.getD k 0 = y at hc2
        have HX := hid hx
        have HY := hid hy
        clear hx hy
        by_cases he : x = y
        · have HE := hid he
          go_wp2
          go_quiet (fail)
          go_wp2
          exact ⟨⟨k + 1, by omega, by go_num, fun j hj => by
            by_cases h : j = k
            · subst h; rw [HX.out, HY.out]; exact HE.out
            · exact HJ.out j (by omega), below_drewN HB.out nq⟩, by simp [intOf]; omega⟩
        · have HE := hid he
          go_wp2
          go_quiet (fail)
          go_wp2
          go_ret
          refine ⟨?_, below_drewN HB.out nq⟩
          rw [← HQ.out, decide_eq_false (fun e => HE.out (by rw [← HX.out, ← HY.out, e]))]
          rfl
      · obtain rfl : k = l.length := by omega
        go_wp2
        go_ret
        refine ⟨?_, HB.out⟩
        rw [← HQ.out, decide_eq_true (getD_ext 0 Hne.out HJ.out)]
        rfl
  · have hne' : ¬ (l.length : Int) = (m.length : Int) := by omega
    have HQ := hid (decide_eq_false (p := l = m) (fun e => hne (by rw [e])))
    rw [HQ.out]
    go_enter Tryz.func32, Tryz.ntmps32
    go_wp2
    go_ret
    exact ⟨rfl, Below.refl _ _⟩

set_option maxRecDepth 100000 in
set_option maxHeartbeats 1000000 in
theorem eqWrite (w : World) (x y : Wt) : Calls Tryz.prog 103 #[x.val, y.val] w fun e w' => e = .returned (.bool (decide (x = y))) ∧ Below w.heap.size w w' := by
  generalize hq : decide (x = y) = q
  have HQ := hid hq
  clear hq
  obtain ⟨xh, xe, xs, xt⟩ := x
  obtain ⟨yh, ye, ys, yt⟩ := y
  simp only [Wt.val]
  by_cases h1 : xh = yh
  · by_cases h2 : xe = ye
    · by_cases h3 : xs = ys
      · by_cases h4 : xt = yt
        · have h4' := Own.eqS_yes h4
          have HE := hid (HQ.out.symm.trans (decide_eq_true (by rw [h1, h2, h3, h4])))
          clear h4 HQ
          go_enter Tryz.func103, Tryz.ntmps103
          go_wp2
          go_ret
          exact ⟨by rw [HE.out]; rfl, by go_grown⟩
        · have h4' := Own.eqS_no h4
          have HE := hid (HQ.out.symm.trans (decide_eq_false (fun e => h4 (by injection e))))
          clear h4 HQ
          go_enter Tryz.func103, Tryz.ntmps103
          go_wp2
          go_ret
          exact ⟨by rw [HE.out]; rfl, by go_grown⟩
      · have HE := hid (HQ.out.symm.trans (decide_eq_false (fun e => h3 (by injection e))))
        clear HQ
        go_enter Tryz.func103, Tryz.ntmps103
        go_wp2
        go_ret
        exact ⟨by rw [HE.out]; rfl, by go_grown⟩
    · have HE := hid (HQ.out.symm.trans (decide_eq_false (fun e => h2 (by injection e))))
      clear HQ
      go_enter Tryz.func103, Tryz.ntmps103
      go_wp2
      go_ret
      exact ⟨by rw [HE.out]; rfl, by go_grown⟩
  · have HE := hid (HQ.out.symm.trans (decide_eq_false (fun e => h1 (by injection e))))
    clear HQ
    go_enter Tryz.func103, Tryz.ntmps103
    go_wp2
    go_ret
    exact ⟨by rw [HE.out]; rfl, by go_grown⟩

end Go.Proofs.YtogebppolkfldaaGreatDoor.Mem

namespace Go.Proofs.YtogebppolkfldaaGreatDoor.Sec
open Go.RowKit Go.Proofs.YtogebppolkfldaaGreatDoor.Mem
set_option linter.unusedVariables false

set_option maxRecDepth 100000 in
set_option maxHeartbeats 1000000 in
theorem szOp (w : World) (k v t a : Int) (s : ByteArray) (left : Int) (hl : s.size ≤ maxLen) (h0 : 0 ≤ left) (h1 : left ≤ 1048576) :
    Calls Tryz.prog 70 #[opV k v t a s, .int .i64 left] w fun e w' => ∃ r, e = .returned (.int .i64 r) ∧ Below w.heap.size w w' ∧ FitN r left s.size := by
  unfold maxLen at hl
  unfold opV
  by_cases hb : left < (s.size : Int)
  · go_enter Tryz.func70, Tryz.ntmps70
    go_wp2
    go_ret
    exact ⟨_, rfl, by go_grown, Or.inl (by decide)⟩
  · go_enter Tryz.func70, Tryz.ntmps70
    go_wp2
    go_ret
    exact ⟨_, rfl, by go_grown, Or.inr ⟨by omega, by omega, by omega⟩⟩

set_option maxRecDepth 100000 in
set_option maxHeartbeats 1000000 in
theorem szOut (w : World) (xs : Int) (s : ByteArray) (left : Int) (hl : s.size ≤ maxLen) (h0 : 0 ≤ left) (h1 : left ≤ 1048576) :
    Calls Tryz.prog 137 #[.agg #[.int .i64 xs, .string s], .int .i64 left] w fun e w' => ∃ r, e = .returned (.int .i64 r) ∧ Below w.heap.size w w' ∧ FitN r left s.size := by
  unfold maxLen at hl
  by_cases hb : left < (s.size : Int)
  · go_enter Tryz.func137, Tryz.ntmps137
    go_wp2
    go_ret
    exact ⟨_, rfl, by go_grown, Or.inl (by decide)⟩
  · go_enter Tryz.func137, Tryz.ntmps137
    go_wp2
    go_ret
    exact ⟨_, rfl, by go_grown, Or.inr ⟨by omega, by omega, by omega⟩⟩

/-- What is left: a number below 0, or one not above what was, and all fits. -/
def FitO (r left : Int) (l : List Ou) : Prop := r < 0 ∨ (0 ≤ r ∧ r ≤ left ∧ (l.length : Int) ≤ left ∧ ∀ x ∈ l, (x.text.size : Int) ≤ left)

set_option maxRecDepth 100000 in
set_option maxHeartbeats 1000000 in
theorem szOutS (w : World) (a : Option Addr) (cap : Nat) (l : List Ou) (left : Int) (S : Ous w a l) (hl : l.length ≤ maxLen) (hs : ∀ x ∈ l, x.text.size ≤ maxLen) (h0 : 0 ≤ left) (h1 : left ≤ 1048576) :
    Calls Tryz.prog 106 #[.slice a l.length cap, .int .i64 left] w fun e w' => ∃ r, e = .returned (.int .i64 r) ∧ Below w.heap.size w w' ∧ FitO r left l := by
  unfold maxLen at hl
  have HS := hid S
  have Hs := hid hs
  clear S hs
  by_cases hb : left < (l.length : Int)
  · go_enter Tryz.func106, Tryz.ntmps106
    go_wp2
    go_ret
    exact ⟨_, rfl, Below.refl _ _, Or.inl (by decide)⟩
  go_enter Tryz.func106, Tryz.ntmps106
  go_wp2
  go_loopw [1, 5] (fun z i wr => ∃ (k : Nat) (m : Int), k ≤ l.length ∧ i = .int .i64 (k : Int) ∧ z = .int .i64 m ∧ 0 ≤ m ∧ m ≤ left ∧ Hid (∀ j, j < k → ((l.getD j Ou.none).text.size : Int) ≤ left) ∧ Hid (Below w.heap.size w wr)) (fun _ i _ => l.length - (intOf i).toNat)
  case atStart => exact ⟨0, left - l.length, Nat.zero_le _, rfl, rfl, by omega, by omega, fun j hj => by omega, Below.refl _ _⟩
  case round =>
    obtain ⟨k, m, hk, rfl, rfl, hm0, hm1, HJ, HB⟩ := hrel
    by_cases hlt : k < l.length
    · obtain ⟨b, off, rfl, c0, c1⟩ := Ous.at_ (HS.out.below HB.out) k hlt
      have hx : (l.getD k Ou.none).text.size ≤ maxLen := Hs.out _ (by simp [List.getD, hlt])
      generalize hq : l.getD k Ou.none = x at c0 c1 hx
      have HX := hid hq
      clear hq
      obtain ⟨xs, xt⟩ := x
      simp only [] at c0 c1 hx
      go_wp2_with fail
      refine (szOut wr xs xt m hx hm0 (by omega)).mono ?_
      rintro e w1 ⟨r, rfl, b1, hf⟩
      have HB1 := hid (HB.out.trans (b1.mono HB.out.size))
      have HF := hid hf
      clear b1 hf c0 c1 hx
      by_cases hr : r < 0
      · go_wp2
        go_ret
        exact ⟨_, rfl, HB1.out, Or.inl (by decide)⟩
      · have hf : 0 ≤ r ∧ r ≤ m ∧ (xt.size : Int) ≤ m := by
          rcases HF.out with h | h
          · omega
          · exact h
        have hf1 := hf.1
        have hf2 := hf.2.1
        have HF2 := hid hf.2.2
        clear hf HF
        go_wp2
        exact ⟨⟨k + 1, r, by omega, by go_num, rfl, hf1, by omega, fun j hj => by
          by_cases h : j = k
          · subst h; rw [HX.out]; have := HF2.out; show (xt.size : Int) ≤ left; omega
          · exact HJ.out j (by omega), HB1⟩, by simp [intOf]; omega⟩
    · obtain rfl : k = l.length := by omega
      go_wp2
      go_ret
      refine ⟨_, rfl, HB.out, Or.inr ⟨hm0, hm1, by omega, fun x hx => ?_⟩⟩
      obtain ⟨j, hj, rfl⟩ := List.getElem_of_mem hx
      have := HJ.out j hj
      rwa [List.getD, List.getElem?_eq_getElem hj] at this

/-- All of it is of a size that Go can hold. -/
structure Jn.Held (J : Jn) : Prop where
  text : J.text.size ≤ maxLen
  outs : J.outs.length ≤ maxLen
  each : ∀ x ∈ J.outs, x.text.size ≤ maxLen

end Go.Proofs.YtogebppolkfldaaGreatDoor.Sec

namespace Go.Proofs.YtogebppolkfldaaGreatDoor.Sec
open Go.RowKit Go.Proofs.YtogebppolkfldaaGreatDoor.Mem
set_option linter.unusedVariables false

set_option maxRecDepth 100000 in
set_option maxHeartbeats 1000000 in
theorem toOp (w : World) (k v t a : Int) (s : ByteArray) : Calls Tryz.prog 86 #[opV k v t a s] w fun e w' => e = .returned (opV k v t a s) ∧ Below w.heap.size w w' := by
  unfold opV
  go_enter Tryz.func86, Tryz.ntmps86
  go_wp2
  go_returns
  exact ⟨rfl, by go_grown⟩

set_option maxRecDepth 100000 in
set_option maxHeartbeats 1000000 in
theorem toOut (w : World) (x : Int) (s : ByteArray) : Calls Tryz.prog 142 #[.agg #[.int .i64 x, .string s]] w fun e w' => e = .returned (.agg #[.int .i64 x, .string s]) ∧ Below w.heap.size w w' := by
  go_enter Tryz.func142, Tryz.ntmps142
  go_wp2
  go_returns
  exact ⟨rfl, by go_grown⟩

theorem infoO : (Tryz.prog.info? 180).map (fun i => (i.zero, i.size, i.bytes)) = some (some (.agg #[.int .i64 0, .string ByteArray.empty]), 2, 24) := by kernel_rfl

/-- What stands in the new row behind k rounds. -/
def partO (l : List Ou) (k : Nat) (i : Nat) : Value := if i < k * 2 then ocell l i else Ou.none.cells.getD (i % 2) undef

theorem set2 {w : World} {B b : Nat} {m : Nat} {f : Nat → Value} (h : Wr w B (some ⟨b, 0, none⟩) m f) (k : Nat) (hk : k * 2 + 2 ≤ m) (v0 v1 : Value) :
    Wr ((w.setCell ⟨b, k * 2, none⟩ v0).setCell ⟨b, k * 2 + 1, none⟩ v1) B (some ⟨b, 0, none⟩) m (fun j => if j / 2 = k then [v0, v1].getD (j % 2) undef else f j) := by
  have h0 := h.set (k * 2) (by omega) v0
  have h1 := h0.set (k * 2 + 1) (by omega) v1
  simp only [Nat.zero_add] at h1
  refine h1.congr (fun j _ => ?_)
  by_cases hj : j / 2 = k
  · have : j = k * 2 ∨ j = k * 2 + 1 := by omega
    rcases this with rfl | rfl
    · rw [if_neg (by omega), if_pos rfl, if_pos (by omega), show k * 2 % 2 = 0 by omega]; rfl
    · rw [if_pos rfl, if_pos (by omega), show (k * 2 + 1) % 2 = 1 by omega]; rfl
  · rw [if_neg (by omega), if_neg (by omega), if_neg hj]

theorem partO_succ (l : List Ou) (k : Nat) (j : Nat) : (if j / 2 = k then [Value.int .i64 (l.getD k Ou.none).sec, .string (l.getD k Ou.none).text].getD (j % 2) undef else partO l k j) = partO l (k + 1) j := by
  unfold partO
  by_cases h : j / 2 = k
  · rw [if_pos h, if_pos (by omega)]
    unfold ocell
    rw [h]; rfl
  · by_cases h2 : j < k * 2
    · rw [if_neg h, if_pos h2, if_pos (by omega)]
    · rw [if_neg h, if_neg h2, if_neg (by omega)]

theorem wr_two {w : World} {B b : Nat} {m : Nat} {f : Nat → Value} (h : Wr w B (some ⟨b, 0, none⟩) m f) (k : Nat) (hk : k * 2 + 2 ≤ m) :
    (∃ v, w.cell? ⟨b, k * 2, none⟩ = some v) ∧ (∃ v, w.cell? ⟨b, k * 2 + 1, none⟩ = some v) ∧ w.frozen? ⟨b, k * 2, none⟩ = false ∧ w.frozen? ⟨b, k * 2 + 1, none⟩ = false := by
  obtain ⟨_, _, e0, _, h0, z0⟩ := h (k * 2) (by omega)
  obtain ⟨_, _, e1, _, h1, z1⟩ := h (k * 2 + 1) (by omega)
  cases e0; cases e1
  rw [Nat.zero_add] at h0 h1 z0 z1
  exact ⟨⟨_, h0⟩, ⟨_, h1⟩, z0, z1⟩

set_option maxRecDepth 100000 in
set_option maxHeartbeats 1000000 in
theorem toOutS (w : World) (a : Option Addr) (cap : Nat) (l : List Ou) (S : Ous w a l) (hl : l.length ≤ 1048576) :
    Calls Tryz.prog 115 #[.slice a l.length cap] w fun e w' => ∃ g, e = .returned (.slice (some ⟨g, 0, none⟩) l.length l.length) ∧ w.heap.size ≤ g ∧ g < w'.heap.size ∧ OusW w' w.heap.size (some ⟨g, 0, none⟩) l ∧ Below w.heap.size w w' := by
  have hmk := make_rows (P := Tryz.prog) 64 180 (.agg #[.int .i64 0, .string ByteArray.empty]) 2 24 Tryz.underlying64 infoO .i64 .i64 l.length (by omega) (by omega)
  have HS := hid S
  have hw0 := wr_new w (madeCells (Value.agg #[.int .i64 0, .string ByteArray.empty]).cells (l.length * 2)) 180 (l.length * 2) (partO l 0) (fun i hi => by
    simp [madeCells, hi, partO, Ou.none, Ou.cells, Value.cells]
    have : i % 2 = 0 ∨ i % 2 = 1 := by omega
    rcases this with h | h <;> simp [h])
  generalize madeCells (Value.agg #[.int .i64 0, .string ByteArray.empty]).cells (l.length * 2) = cur at hmk hw0
  have HW := hid hw0
  clear S hw0
  go_enter Tryz.func115, Tryz.ntmps115
  go_wp2
  go_loopw [4] (fun i wr => ∃ k : Nat, k ≤ l.length ∧ i = .int .i64 (k : Int) ∧ w.heap.size < wr.heap.size ∧ Hid (Wr wr w.heap.size (some ⟨w.heap.size, 0, none⟩) (l.length * 2) (partO l k)) ∧ Hid (Below w.heap.size w wr)) (fun i _ => l.length - (intOf i).toNat)
  case atStart => exact ⟨0, Nat.zero_le _, rfl, lt_alloc _ _, HW, (Below.refl _ _).alloc (Nat.le_refl _) _⟩
  case round =>
    obtain ⟨k, hk, rfl, hsz, HW', HB⟩ := hrel
    by_cases hlt : k < l.length
    · obtain ⟨b, off, rfl, c0, c1⟩ := Ous.at_ (HS.out.below HB.out) k hlt
      generalize hx : l.getD k Ou.none = x at c0 c1
      have HX := hid hx
      clear hx
      obtain ⟨xs, xt⟩ := x
      simp only [] at c0 c1
      go_wp2_with fail
      refine (toOut _ xs xt).mono ?_
      rintro e w1 ⟨rfl, hb1⟩
      have HW1 := hid (HW'.out.below hb1)
      have HB1 := hid (HB.out.trans (hb1.mono (Nat.le_of_lt hsz)))
      have hsz1 : w.heap.size < w1.heap.size := Nat.lt_of_lt_of_le hsz hb1.size
      obtain ⟨⟨u0, d0⟩, ⟨u1, d1⟩, z0, z1⟩ := wr_two HW1.out k (by omega)
      clear hb1 c0 c1
      go_wp2
      refine ⟨⟨k + 1, by omega, by go_num, by simpa using hsz1, ?_, (HB1.out.setCell (Nat.le_refl _) _).setCell (Nat.le_refl _) _⟩, by simp [intOf]; omega⟩
      exact (set2 HW1.out k (by omega) _ _).congr (fun j _ => by rw [← partO_succ, HX.out])
    · obtain rfl : k = l.length := by omega
      go_wp2
      go_ret
      exact ⟨_, rfl, Nat.le_refl _, hsz, HW'.out.congr (fun i hi => by simp [partO, hi]), HB.out⟩

/-- Cells stored one behind the other. -/
def puts (w : World) (g : Nat) : Nat → List Value → World
  | _, [] => w
  | i, v :: vs => puts (w.setCell ⟨g, i, none⟩ v) g (i + 1) vs

def listed (xs : List Value) : Nat → List Value → List Value
  | _, [] => xs
  | i, v :: vs => listed (xs.set i v) (i + 1) vs

theorem puts_row {w : World} {g : Nat} {xs : List Value} (h : Row w g xs) (i : Nat) (vs : List Value) : Row (puts w g i vs) g (listed xs i vs) := by
  induction vs generalizing w xs i with
  | nil => exact h
  | cons v vs ih => exact ih (h.set i v) (i + 1)

theorem puts_other {w : World} {g b : Nat} {xs : List Value} (h : Row w b xs) (hb : b ≠ g) (i : Nat) (vs : List Value) : Row (puts w g i vs) b xs := by
  induction vs generalizing w i with
  | nil => exact h
  | cons v vs ih => exact ih (h.other (p := ⟨g, i, none⟩) hb v) (i + 1)

theorem puts_kept (w : World) (g i : Nat) (vs : List Value) : Kept (fun b => b = g) w (puts w g i vs) := by
  induction vs generalizing w i with
  | nil => exact Kept.refl _ _
  | cons v vs ih => exact ((kept_set w g i v).trans (ih (w.setCell ⟨g, i, none⟩ v) (i + 1))).mono (fun b _ h => by rcases h with h | h <;> exact h)

theorem puts_below {B : Nat} {w w' : World} {g : Nat} (h : Below B w w') (hg : B ≤ g) (i : Nat) (vs : List Value) : Below B w (puts w' g i vs) := by
  induction vs generalizing w' i with
  | nil => exact h
  | cons v vs ih => exact ih (below_set h g i v hg) (i + 1)

theorem puts_size (w : World) (g i : Nat) (vs : List Value) : (puts w g i vs).heap.size = w.heap.size := by
  induction vs generalizing w i with
  | nil => rfl
  | cons v vs ih => rw [puts, ih]; simp

theorem three_news (w : World) (xs ys zs : List Value) (t u : TypeId) :
    ∃ wc, ((w.alloc (.cells xs.toArray t)).alloc (.cells ys.toArray u)).alloc (.cells zs.toArray u) = wc ∧ wc.heap.size = w.heap.size + 1 + 1 + 1 ∧
      Row wc w.heap.size xs ∧ Row wc (w.heap.size + 1) ys ∧ Row wc (w.heap.size + 1 + 1) zs ∧ Below w.heap.size w wc := by
  have e0 : (w.alloc (.cells xs.toArray t)).heap.size = w.heap.size + 1 := by simp
  have e1 : ((w.alloc (.cells xs.toArray t)).alloc (.cells ys.toArray u)).heap.size = w.heap.size + 1 + 1 := by simp
  have r1 := Row.new (w.alloc (.cells xs.toArray t)) ys u
  have r2 := Row.new ((w.alloc (.cells xs.toArray t)).alloc (.cells ys.toArray u)) zs u
  rw [e0] at r1
  rw [e1] at r2
  exact ⟨_, rfl, by simp, ((Row.new w xs t).alloc _).alloc _, r1.alloc _, r2, (((Below.refl _ _).alloc (Nat.le_refl _) _).alloc (by omega) _).alloc (by omega) _⟩

end Go.Proofs.YtogebppolkfldaaGreatDoor.Sec

namespace Go.Proofs.YtogebppolkfldaaGreatDoor.Sec
open Go.RowKit Go.Proofs.YtogebppolkfldaaGreatDoor.Mem
set_option linter.unusedVariables false

set_option maxRecDepth 100000 in
set_option maxHeartbeats 1000000 in
theorem eqOp (w : World) (k v t a : Int) (s : ByteArray) : Calls Tryz.prog 104 #[opV k v t a s, opV k v t a s] w fun e w' => e = .returned (.bool true) ∧ Below w.heap.size w w' := by
  unfold opV
  go_enter Tryz.func104, Tryz.ntmps104
  go_wp2
  go_ret
  exact ⟨rfl, by go_grown⟩

set_option maxRecDepth 100000 in
set_option maxHeartbeats 1000000 in
theorem eqOut (w : World) (x : Int) (s : ByteArray) : Calls Tryz.prog 162 #[.agg #[.int .i64 x, .string s], .agg #[.int .i64 x, .string s]] w fun e w' => e = .returned (.bool true) ∧ Below w.heap.size w w' := by
  go_enter Tryz.func162, Tryz.ntmps162
  go_wp2
  go_ret
  exact ⟨rfl, by go_grown⟩

set_option maxRecDepth 100000 in
set_option maxHeartbeats 1000000 in
theorem eqOutS (w : World) (a b : Option Addr) (ca cb : Nat) (l : List Ou) (S : Ous w a l) (T : Ous w b l) (hl : l.length ≤ maxLen) :
    Calls Tryz.prog 136 #[.slice a l.length ca, .slice b l.length cb] w fun e w' => e = .returned (.bool true) ∧ Below w.heap.size w w' := by
  unfold maxLen at hl
  have HS := hid S
  have HT := hid T
  clear S T
  go_enter Tryz.func136, Tryz.ntmps136
  go_wp2
  go_loopw [5] (fun i wr => ∃ k : Nat, k ≤ l.length ∧ i = .int .i64 (k : Int) ∧ Hid (Below w.heap.size w wr)) (fun i _ => l.length - (intOf i).toNat)
  case atStart => exact ⟨0, Nat.zero_le _, rfl, Below.refl _ _⟩
  case round =>
    obtain ⟨k, hk, rfl, HB⟩ := hrel
    by_cases hlt : k < l.length
    · obtain ⟨b1, o1, rfl, c0, c1⟩ := Ous.at_ (HS.out.below HB.out) k hlt
      obtain ⟨b2, o2, rfl, d0, d1⟩ := Ous.at_ (HT.out.below HB.out) k hlt
      generalize l.getD k Ou.none = x at c0 c1 d0 d1
      obtain ⟨xs, xt⟩ := x
      simp only [] at c0 c1 d0 d1
      have hne : Nonempty (BW wr) := ⟨⟨wr, Below.refl _ _⟩⟩
      replace c0 := BW.cell c0
      replace c1 := BW.cell c1
      replace d0 := BW.cell d0
      replace d1 := BW.cell d1
      go_wp2
      refine wp_region_bw (by kernel_rfl) (by kernel_rfl) ?_
      repeat (go_big_quiet_step (first
        | (go_at_call 162; refine bw_below (eqOut _ xs xt))))
      refine wpQuiet_nil ?_
      intro _ hw'
      obtain ⟨u, rfl⟩ := hw'
      have HU := hid (HB.out.trans (u.bel.mono HB.out.size))
      clear c0 c1 d0 d1
      go_wp2
      exact ⟨⟨k + 1, by omega, by go_num, HU⟩, by simp [intOf]; omega⟩
    · obtain rfl : k = l.length := by omega
      go_wp2
      go_ret
      exact ⟨rfl, HB.out⟩

end Go.Proofs.YtogebppolkfldaaGreatDoor.Sec

namespace Go.Proofs.YtogebppolkfldaaGreatDoor.Mem
open Go.RowKit
set_option linter.unusedVariables false

/-- The digits of q, none of 0; at most f. -/
def mkF : Nat → Nat → List Int
  | 0, _ => []
  | f + 1, q => if q = 0 then [] else mkF f (q / 10) ++ [48 + ((q % 10 : Nat) : Int)]
theorem mkF_zero (f : Nat) : mkF f 0 = [] := by cases f <;> simp [mkF]
theorem mkF_pos (f q : Nat) (h : q ≠ 0) : mkF (f + 1) q = mkF f (q / 10) ++ [48 + ((q % 10 : Nat) : Int)] := by rw [mkF, if_neg h]

/-- Mark k. -/
def markS (k : Nat) : ByteArray := strOfNums (109 :: mkF 20 k)

def MInv (M : Nat) (l : List Int) (q f : Nat) : Prop := q < 10 ^ f ∧ l.length + f = 20 ∧ mkF f q ++ l = mkF 20 M

theorem minv_start (M : Nat) (h : M < 100000000000000000000) : MInv M [] M 20 := ⟨by show M < 100000000000000000000; exact h, rfl, by simp⟩
theorem minv_more {M : Nat} {l : List Int} {q f : Nat} (h : MInv M l q f) (hq : q ≠ 0) : ∃ g, f = g + 1 ∧ MInv M ((48 + (q : Int) % 10) :: l) (q / 10) g := by
  obtain ⟨h1, h2, h3⟩ := h
  cases f with
  | zero => simp at h1; omega
  | succ g =>
    refine ⟨g, rfl, by rw [Nat.pow_succ] at h1; omega, by simp; omega, ?_⟩
    rw [mkF_pos g q hq] at h3
    rw [← h3]; simp
theorem minv_end {M : Nat} {l : List Int} {f : Nat} (h : MInv M l 0 f) : l = mkF 20 M := by
  have := h.2.2
  rw [mkF_zero] at this
  exact this
theorem minv_len {M : Nat} {l : List Int} {q f : Nat} (h : MInv M l q f) : l.length ≤ 20 := by have := h.2.1; omega
theorem mstr_cons (x : Int) (l : List Int) : strOfNums [x] ++ strOfNums l = strOfNums (x :: l) := by
  apply ByteArray.ext
  simp [strOfNums, ByteArray.data_append]
theorem mstr_m (l : List Int) : (⟨#[109]⟩ : ByteArray) ++ strOfNums l = strOfNums (109 :: l) := mstr_cons 109 l
theorem mstr_one (x : Int) : (strOfNums [x]).size = 1 := rfl

/-- What stands in the slice behind j rounds of marking from k on. -/
def msS (f : Nat → Value) (k j : Nat) (i : Nat) : Value := if i < j then .string (markS (k + i)) else f i
def msI (f : Nat → Value) (k j : Nat) (i : Nat) : Value := if i < j then .int .i64 ((k + i : Nat) : Int) else f i

theorem msS_succ (f : Nat → Value) (k j : Nat) (i : Nat) : (if i = j then Value.string (markS (k + j)) else msS f k j i) = msS f k (j + 1) i := by
  unfold msS
  by_cases h : i = j
  · subst h; simp
  · by_cases h2 : i < j
    · simp [h, h2, Nat.lt_succ_of_lt h2]
    · simp [h, h2, show ¬ i < j + 1 by omega]
theorem msI_succ (f : Nat → Value) (k j : Nat) (i : Nat) : (if i = j then Value.int .i64 ((k + j : Nat) : Int) else msI f k j i) = msI f k (j + 1) i := by
  unfold msI
  by_cases h : i = j
  · subst h; simp
  · by_cases h2 : i < j
    · simp [h, h2, Nat.lt_succ_of_lt h2]
    · simp [h, h2, show ¬ i < j + 1 by omega]

end Go.Proofs.YtogebppolkfldaaGreatDoor.Mem

namespace Go.Proofs.YtogebppolkfldaaGreatDoor.Rd
open Go.RowKit Go.Proofs.YtogebppolkfldaaGreatDoor.Mem Go.Proofs.YtogebppolkfldaaGreatDoor.Sec
set_option linter.unusedVariables false

/-- The marks in a list of outs. -/
def mkO (k i : Nat) : Value := if i % 2 = 0 then .int .i64 ((k + i : Nat) : Int) else .string (markS (k + i))
def msO (f : Nat → Value) (k j i : Nat) : Value := if i < j * 2 then mkO k i else f i

theorem msO_succ (f : Nat → Value) (k j : Nat) (i : Nat) : (if i = j * 2 + 1 then Value.string (markS (k + (j * 2 + 1))) else if i = j * 2 then .int .i64 ((k + j * 2 : Nat) : Int) else msO f k j i) = msO f k (j + 1) i := by
  unfold msO
  by_cases h : i = j * 2 + 1
  · subst h
    rw [if_pos rfl, if_pos (by omega)]
    unfold mkO
    rw [if_neg (by omega)]
  · by_cases h1 : i = j * 2
    · subst h1
      rw [if_neg h, if_pos rfl, if_pos (by omega)]
      unfold mkO
      rw [if_pos (by omega)]
    · by_cases h2 : i < j * 2
      · rw [if_neg h, if_neg h1, if_pos h2, if_pos (by omega)]
      · rw [if_neg h, if_neg h1, if_neg h2, if_neg (by omega)]

end Go.Proofs.YtogebppolkfldaaGreatDoor.Rd



namespace Go.Proofs.YtogebppolkfldaaGreatDoor.Pl
open Go.RowKit Go.Proofs.YtogebppolkfldaaGreatDoor.Mem
set_option linter.unusedVariables false

/-- A call's value. -/
def opV (k v t a : Int) (s : ByteArray) : Value := .agg #[.int .i64 k, .int .i64 v, .int .i64 t, .int .i64 a, .string s]

/-- What of a call its kind names. -/
def nmv (k v : Int) : Int := if k = 6 then 0 else v
def nmt (k t : Int) : Int := if k = 5 then t else 0
def nma (k a : Int) : Int := if k = 3 ∨ k = 4 ∨ k = 7 then a else 0
def nms (k : Int) (s : ByteArray) : ByteArray := if k = 3 then s else ⟨#[]⟩

theorem bytes_no {a b : ByteArray} (h : ¬ a = b) : (a.toList == b.toList) = false := by
  simp only [beq_eq_false_iff_ne, ne_eq]
  intro e
  rw [ByteArray.toList_eq, ByteArray.toList_eq] at e
  exact h (ByteArray.ext (Array.toList_inj.1 e))

theorem stOpT : Tryz.prog.underlying 63 = some (.struct (Tryz.prog.fieldsOf 63)) := by kernel_rfl
theorem heldOpT : Tryz.prog.stoodInHeld 63 = false := by kernel_rfl
theorem guardOpT : Tryz.prog.eqGuardType Tryz.prog.depth 63 = false := by kernel_rfl

theorem equal_op (k v t a k' v' t' a' : Int) (s s' : ByteArray) (w : World) : (Op.equalIn 10000 63 (.agg #[.int .i64 k, .int .i64 v, .int .i64 t, .int .i64 a, .string s]) (.agg #[.int .i64 k', .int .i64 v', .int .i64 t', .int .i64 a', .string s'])).run Tryz.prog w = .ok (decide (k = k' ∧ v = v' ∧ t = t' ∧ a = a' ∧ s = s')) w := by
  rw [run_equalIn_agg w 9999 63 _ _ stOpT heldOpT]
  unfold Program.fieldsOf
  rw [Tryz.underlying63]
  by_cases h5 : s = s'
  · subst h5
    by_cases h1 : k = k' <;> by_cases h2 : v = v' <;> by_cases h3 : t = t' <;> by_cases h4 : a = a' <;> simp [Op.eqFields, part, go_sem, h1, h2, h3, h4, Tryz.underlying3]
  · have hne := bytes_no h5
    by_cases h1 : k = k' <;> by_cases h2 : v = v' <;> by_cases h3 : t = t' <;> by_cases h4 : a = a' <;> simp [Op.eqFields, part, go_sem, h1, h2, h3, h4, h5, hne, Tryz.underlying3]

theorem eql_op (k v t a k' v' t' a' : Int) (s s' : ByteArray) (w : World) : (binOp .eql 63 (.agg #[.int .i64 k, .int .i64 v, .int .i64 t, .int .i64 a, .string s]) (.agg #[.int .i64 k', .int .i64 v', .int .i64 t', .int .i64 a', .string s'])).run Tryz.prog w = .ok (.bool (decide (k = k' ∧ v = v' ∧ t = t' ∧ a = a' ∧ s = s'))) w := by
  rw [run_eql_struct, equal_op]
  rfl
theorem neq_op (k v t a k' v' t' a' : Int) (s s' : ByteArray) (w : World) : (binOp .neq 63 (.agg #[.int .i64 k, .int .i64 v, .int .i64 t, .int .i64 a, .string s]) (.agg #[.int .i64 k', .int .i64 v', .int .i64 t', .int .i64 a', .string s'])).run Tryz.prog w = .ok (.bool (!decide (k = k' ∧ v = v' ∧ t = t' ∧ a = a' ∧ s = s'))) w := by
  rw [run_neq_struct, equal_op]
  rfl

theorem eql_is {k v t a k' v' t' a' : Int} {s s' : ByteArray} {q : Bool} (hq : decide (k = k' ∧ v = v' ∧ t = t' ∧ a = a' ∧ s = s') = q) (w : World) : (binOp .eql 63 (.agg #[.int .i64 k, .int .i64 v, .int .i64 t, .int .i64 a, .string s]) (.agg #[.int .i64 k', .int .i64 v', .int .i64 t', .int .i64 a', .string s'])).run Tryz.prog w = .ok (.bool q) w := by
  rw [eql_op, hq]
theorem neq_is {k v t a k' v' t' a' : Int} {s s' : ByteArray} {q : Bool} (hq : decide (k = k' ∧ v = v' ∧ t = t' ∧ a = a' ∧ s = s') = q) (w : World) : (binOp .neq 63 (.agg #[.int .i64 k, .int .i64 v, .int .i64 t, .int .i64 a, .string s]) (.agg #[.int .i64 k', .int .i64 v', .int .i64 t', .int .i64 a', .string s'])).run Tryz.prog w = .ok (.bool (!q)) w := by
  rw [neq_op, hq]

set_option maxHeartbeats 400000 in
theorem isFrom (x lo hi : Int) (w : World) :
    Calls Tryz.prog 93 #[.int .i64 x, .int .i64 lo, .int .i64 hi] w fun e w' => e = .returned (.bool (decide (lo ≤ x ∧ x ≤ hi))) ∧ w' = w := by
  by_cases h1 : lo ≤ x
  · by_cases h2 : x ≤ hi
    · rw [decide_eq_true (And.intro h1 h2)]
      go_enter Tryz.func93, Tryz.ntmps93
      go_wp2
      go_ret
      exact ⟨rfl, rfl⟩
    · rw [decide_eq_false (fun h => h2 h.2)]
      go_enter Tryz.func93, Tryz.ntmps93
      go_wp2
      go_ret
      exact ⟨rfl, rfl⟩
  · rw [decide_eq_false (fun h => h1 h.1)]
    go_enter Tryz.func93, Tryz.ntmps93
    go_wp2
    go_ret
    exact ⟨rfl, rfl⟩

set_option maxHeartbeats 400000 in
theorem l3Host (x : Int) (w : World) :
    Calls Tryz.prog 43 #[.int .i64 x] w fun e w' => e = .returned (.bool (decide (0 ≤ x ∧ x < 3))) ∧ w' = w := by
  by_cases h1 : 0 ≤ x
  · by_cases h2 : x < 3
    · rw [decide_eq_true (And.intro h1 h2)]
      go_enter Tryz.func43, Tryz.ntmps43
      go_wp2
      go_ret
      exact ⟨rfl, rfl⟩
    · rw [decide_eq_false (fun h => h2 h.2)]
      go_enter Tryz.func43, Tryz.ntmps43
      go_wp2
      go_ret
      exact ⟨rfl, rfl⟩
  · rw [decide_eq_false (fun h => h1 h.1)]
    go_enter Tryz.func43, Tryz.ntmps43
    go_wp2
    go_ret
    exact ⟨rfl, rfl⟩

set_option maxHeartbeats 400000 in
theorem l5Vol (x : Int) (w : World) :
    Calls Tryz.prog 77 #[.int .i64 x] w fun e w' => e = .returned (.bool (decide (0 ≤ x ∧ x < 4))) ∧ w' = w := by
  by_cases h1 : 0 ≤ x
  · by_cases h2 : x < 4
    · rw [decide_eq_true (And.intro h1 h2)]
      go_enter Tryz.func77, Tryz.ntmps77
      go_wp2
      go_ret
      exact ⟨rfl, rfl⟩
    · rw [decide_eq_false (fun h => h2 h.2)]
      go_enter Tryz.func77, Tryz.ntmps77
      go_wp2
      go_ret
      exact ⟨rfl, rfl⟩
  · rw [decide_eq_false (fun h => h1 h.1)]
    go_enter Tryz.func77, Tryz.ntmps77
    go_wp2
    go_ret
    exact ⟨rfl, rfl⟩

/-- The highest number that Vol may be. -/
def top (k : Int) : Int := if k = 10 ∨ k = 11 ∨ k = 12 then 2 else 3

theorem beq_no {a b : Int} (h : ¬ a = b) : (a == b) = false := by simpa using h

set_option maxHeartbeats 400000 in
theorem highestVol (k : Int) (w : World) :
    Calls Tryz.prog 123 #[.int .i64 k] w fun e w' => e = .returned (.int .i64 (top k)) ∧ w' = w := by
  by_cases h0 : k = 10
  · subst h0
    go_enter Tryz.func123, Tryz.ntmps123
    go_wp2
    go_ret
    exact ⟨rfl, rfl⟩
  by_cases h1 : k = 11
  · subst h1
    go_enter Tryz.func123, Tryz.ntmps123
    go_wp2
    go_ret
    exact ⟨rfl, rfl⟩
  by_cases h2 : k = 12
  · subst h2
    go_enter Tryz.func123, Tryz.ntmps123
    go_wp2
    go_ret
    exact ⟨rfl, rfl⟩
  have HT : Hid (top k = 3) := by unfold Hid top; rw [if_neg]; omega
  have b0 := beq_no h0
  have b1 := beq_no h1
  have b2 := beq_no h2
  clear h0 h1 h2
  go_enter Tryz.func123, Tryz.ntmps123
  go_wp2
  go_ret
  exact ⟨by rw [HT.out]; rfl, rfl⟩

set_option maxRecDepth 100000 in
set_option maxHeartbeats 2000000 in
theorem namedParts (k v t a : Int) (s : ByteArray) (w : World) :
    Calls Tryz.prog 122 #[opV k v t a s] w fun e w' => e = .returned (opV k (nmv k v) (nmt k t) (nma k a) (nms k s)) ∧ Below w.heap.size w w' := by
  unfold opV
  by_cases h6 : k = 6
  · subst h6
    go_enter Tryz.func122, Tryz.ntmps122
    go_wp2
    go_returns
    exact ⟨rfl, by go_grown⟩
  by_cases h3 : k = 3
  · subst h3
    go_enter Tryz.func122, Tryz.ntmps122
    go_wp2
    go_returns
    exact ⟨rfl, by go_grown⟩
  by_cases h4 : k = 4
  · subst h4
    go_enter Tryz.func122, Tryz.ntmps122
    go_wp2
    go_returns
    exact ⟨rfl, by go_grown⟩
  by_cases h7 : k = 7
  · subst h7
    go_enter Tryz.func122, Tryz.ntmps122
    go_wp2
    go_returns
    exact ⟨rfl, by go_grown⟩
  by_cases h5 : k = 5
  · subst h5
    go_enter Tryz.func122, Tryz.ntmps122
    go_wp2
    go_returns
    exact ⟨rfl, by go_grown⟩
  have HV : Hid (nmv k v = v ∧ nmt k t = 0 ∧ nma k a = 0 ∧ nms k s = ⟨#[]⟩) := by unfold Hid nmv nmt nma nms; simp [h3, h4, h5, h6, h7]
  have b6 := beq_no h6
  have b3 := beq_no h3
  have b4 := beq_no h4
  have b7 := beq_no h7
  have b5 := beq_no h5
  clear h3 h4 h5 h6 h7
  go_enter Tryz.func122, Tryz.ntmps122
  go_wp2
  go_returns
  refine ⟨?_, by go_grown⟩
  rw [HV.out.1, HV.out.2.1, HV.out.2.2.1, HV.out.2.2.2]

end Go.Proofs.YtogebppolkfldaaGreatDoor.Pl

namespace Go.Proofs.YtogebppolkfldaaGreatDoor.Pl
open Go.RowKit Go.Proofs.YtogebppolkfldaaGreatDoor.Mem
set_option linter.unusedVariables false

/-- Are the numbers of a call within its kind's bounds. -/
def good (k v t a : Int) (s : ByteArray) : Bool :=
  if k = 1 ∨ k = 2 ∨ k = 8 ∨ k = 9 then decide (0 ≤ v ∧ v < 4)
  else if k = 3 ∨ k = 4 ∨ k = 7 then decide ((0 ≤ v ∧ v < 4) ∧ (0 ≤ a ∧ a < 4) ∧ (s.size : Int) ≤ 16)
  else if k = 5 then decide ((0 ≤ v ∧ v < 4) ∧ (0 ≤ t ∧ t < 4) ∧ ¬ v = t)
  else if k = 6 then true
  else if k = 10 ∨ k = 11 ∨ k = 12 then decide (0 ≤ v ∧ v < 3)
  else false

/-- Is a call right. -/
def opRight (k v t a : Int) (s : ByteArray) : Bool := good k v t a s && decide (k = k ∧ nmv k v = v ∧ nmt k t = t ∧ nma k a = a ∧ nms k s = s)

theorem right_yes {k v t a : Int} {s : ByteArray} (h : good k v t a s = true) : opRight k v t a s = decide (k = k ∧ nmv k v = v ∧ nmt k t = t ∧ nma k a = a ∧ nms k s = s) := by unfold opRight; rw [h]; rfl
theorem right_no {k v t a : Int} {s : ByteArray} (h : good k v t a s = false) : opRight k v t a s = false := by unfold opRight; rw [h]; rfl

set_option maxRecDepth 100000 in
set_option maxHeartbeats 4000000 in
theorem sOp_vol (k v t a : Int) (s : ByteArray) (w : World) (hs : s.size ≤ 1048576) (hk : k = 1 ∨ k = 2 ∨ k = 8 ∨ k = 9) :
    Calls Tryz.prog 44 #[opV k v t a s] w fun e w' => e = .returned (.bool (opRight k v t a s)) ∧ Below w.heap.size w w' := by
  unfold opV
  have hgo := guardOpT
  obtain ⟨q, hq⟩ : ∃ q, decide (k = k ∧ v = v ∧ (0 : Int) = t ∧ (0 : Int) = a ∧ (⟨#[]⟩ : ByteArray) = s) = q := ⟨_, rfl⟩
  have heq := eql_is hq
  have HQ : Hid (decide (k = k ∧ nmv k v = v ∧ nmt k t = t ∧ nma k a = a ∧ nms k s = s) = q) := by
    rw [Hid, ← hq]
    rcases hk with rfl | rfl | rfl | rfl <;> rfl
  clear hq
  by_cases hv : 0 ≤ v ∧ v < 4
  · have hv' := decide_eq_true hv
    have HG : Hid (good k v t a s = true) := by rcases hk with rfl | rfl | rfl | rfl <;> exact hv'
    have HR := hid ((right_yes HG.out).trans HQ.out)
    generalize opRight k v t a s = x at *
    clear hv HG HQ
    rcases hk with rfl | rfl | rfl | rfl <;> (
      go_enter Tryz.func44, Tryz.ntmps44
      go_wp2_with fail
      refine (hv' ▸ l5Vol v _).mono ?_
      rintro r w1 ⟨rfl, hw⟩
      subst hw
      go_wp2
      go_ret
      exact ⟨by rw [HR.out]; rfl, by go_grown⟩)
  · have hv' := decide_eq_false hv
    have HG : Hid (good k v t a s = false) := by rcases hk with rfl | rfl | rfl | rfl <;> exact hv'
    have HR := hid (right_no HG.out)
    generalize opRight k v t a s = x at *
    clear HG HQ heq
    clear hv
    rcases hk with rfl | rfl | rfl | rfl <;> (
      go_enter Tryz.func44, Tryz.ntmps44
      go_wp2_with fail
      refine (hv' ▸ l5Vol v _).mono ?_
      rintro r w1 ⟨rfl, hw⟩
      subst hw
      go_wp2
      go_ret
      exact ⟨by rw [HR.out]; rfl, by go_grown⟩)

set_option maxRecDepth 100000 in
set_option maxHeartbeats 4000000 in
theorem sOp_host (k v t a : Int) (s : ByteArray) (w : World) (hs : s.size ≤ 1048576) (hk : k = 12) :
    Calls Tryz.prog 44 #[opV k v t a s] w fun e w' => e = .returned (.bool (opRight k v t a s)) ∧ Below w.heap.size w w' := by
  unfold opV
  have hgo := guardOpT
  obtain ⟨q, hq⟩ : ∃ q, decide (k = k ∧ v = v ∧ (0 : Int) = t ∧ (0 : Int) = a ∧ (⟨#[]⟩ : ByteArray) = s) = q := ⟨_, rfl⟩
  have heq := eql_is hq
  have HQ : Hid (decide (k = k ∧ nmv k v = v ∧ nmt k t = t ∧ nma k a = a ∧ nms k s = s) = q) := by
    rw [Hid, ← hq]
    subst hk; rfl
  clear hq
  by_cases hv : 0 ≤ v ∧ v < 3
  · have hv' := decide_eq_true hv
    have HG : Hid (good k v t a s = true) := by subst hk; exact hv'
    have HR := hid ((right_yes HG.out).trans HQ.out)
    generalize opRight k v t a s = x at *
    clear hv HG HQ
    subst hk; (
      go_enter Tryz.func44, Tryz.ntmps44
      go_wp2_with fail
      refine (hv' ▸ l3Host v _).mono ?_
      rintro r w1 ⟨rfl, hw⟩
      subst hw
      go_wp2
      go_ret
      exact ⟨by rw [HR.out]; rfl, by go_grown⟩)
  · have hv' := decide_eq_false hv
    have HG : Hid (good k v t a s = false) := by subst hk; exact hv'
    have HR := hid (right_no HG.out)
    generalize opRight k v t a s = x at *
    clear HG HQ heq
    clear hv
    subst hk; (
      go_enter Tryz.func44, Tryz.ntmps44
      go_wp2_with fail
      refine (hv' ▸ l3Host v _).mono ?_
      rintro r w1 ⟨rfl, hw⟩
      subst hw
      go_wp2
      go_ret
      exact ⟨by rw [HR.out]; rfl, by go_grown⟩)

set_option maxRecDepth 100000 in
set_option maxHeartbeats 4000000 in
theorem sOp_group (k v t a : Int) (s : ByteArray) (w : World) (hs : s.size ≤ 1048576) (hk : k = 10 ∨ k = 11) :
    Calls Tryz.prog 44 #[opV k v t a s] w fun e w' => e = .returned (.bool (opRight k v t a s)) ∧ Below w.heap.size w w' := by
  unfold opV
  have hgo := guardOpT
  obtain ⟨q, hq⟩ : ∃ q, decide (k = k ∧ v = v ∧ (0 : Int) = t ∧ (0 : Int) = a ∧ (⟨#[]⟩ : ByteArray) = s) = q := ⟨_, rfl⟩
  have heq := eql_is hq
  have HQ : Hid (decide (k = k ∧ nmv k v = v ∧ nmt k t = t ∧ nma k a = a ∧ nms k s = s) = q) := by
    rw [Hid, ← hq]
    rcases hk with rfl | rfl <;> rfl
  clear hq
  by_cases hv : 0 ≤ v ∧ v < 3
  · have hv' := decide_eq_true hv
    have HG : Hid (good k v t a s = true) := by rcases hk with rfl | rfl <;> exact hv'
    have HR := hid ((right_yes HG.out).trans HQ.out)
    generalize opRight k v t a s = x at *
    have hv2 := hv
    clear hv hv' HG HQ
    have hv1 := hv2.1
    have hv3 := hv2.2
    clear hv2
    rcases hk with rfl | rfl <;> (
      go_enter Tryz.func44, Tryz.ntmps44
      go_wp2
      go_ret
      exact ⟨by rw [HR.out]; rfl, by go_grown⟩)
  · have hv' := decide_eq_false hv
    have HG : Hid (good k v t a s = false) := by rcases hk with rfl | rfl <;> exact hv'
    have HR := hid (right_no HG.out)
    generalize opRight k v t a s = x at *
    clear HG HQ heq
    clear hv'
    by_cases hv0 : 0 ≤ v
    · have hv1 : ¬ v < 3 := fun h => hv ⟨hv0, h⟩
      clear hv
      rcases hk with rfl | rfl <;> (
        go_enter Tryz.func44, Tryz.ntmps44
        go_wp2
        go_ret
        exact ⟨by rw [HR.out]; rfl, by go_grown⟩)
    · clear hv
      rcases hk with rfl | rfl <;> (
        go_enter Tryz.func44, Tryz.ntmps44
        go_wp2
        go_ret
        exact ⟨by rw [HR.out]; rfl, by go_grown⟩)

end Go.Proofs.YtogebppolkfldaaGreatDoor.Pl

namespace Go.Proofs.YtogebppolkfldaaGreatDoor.Pl
open Go.RowKit Go.Proofs.YtogebppolkfldaaGreatDoor.Mem
set_option linter.unusedVariables false

set_option maxRecDepth 100000 in
set_option maxHeartbeats 4000000 in
theorem sOp_write (k v t a : Int) (s : ByteArray) (w : World) (hs : s.size ≤ 1048576) (hk : k = 3) :
    Calls Tryz.prog 44 #[opV k v t a s] w fun e w' => e = .returned (.bool (opRight k v t a s)) ∧ Below w.heap.size w w' := by
  unfold opV
  have hgo := guardOpT
  obtain ⟨q, hq⟩ : ∃ q, decide (k = k ∧ v = v ∧ (0 : Int) = t ∧ a = a ∧ s = s) = q := ⟨_, rfl⟩
  have heq := eql_is hq
  have HQ : Hid (decide (k = k ∧ nmv k v = v ∧ nmt k t = t ∧ nma k a = a ∧ nms k s = s) = q) := by
    rw [Hid, ← hq]
    subst hk; rfl
  clear hq
  have HE : Hid (good k v t a s = decide ((0 ≤ v ∧ v < 4) ∧ (0 ≤ a ∧ a < 4) ∧ (s.size : Int) ≤ 16)) := by subst hk; rfl
  by_cases hv : 0 ≤ v ∧ v < 4
  · have hv' := decide_eq_true hv
    by_cases h0 : 0 ≤ a
    · by_cases h4 : a < 4
      · by_cases hl : (s.size : Int) ≤ 16
        · have HR := hid ((right_yes (HE.out.trans (decide_eq_true ⟨hv, ⟨h0, h4⟩, hl⟩))).trans HQ.out)
          generalize opRight k v t a s = x at *
          clear hv HE HQ
          subst hk; (
            go_enter Tryz.func44, Tryz.ntmps44
            go_wp2_with fail
            refine (hv' ▸ l5Vol v _).mono ?_
            rintro r w1 ⟨rfl, hw⟩
            subst hw
            go_wp2
            go_ret
            exact ⟨by rw [HR.out]; rfl, by go_grown⟩)
        · have HR := hid (right_no (HE.out.trans (decide_eq_false (fun h => hl h.2.2))))
          generalize opRight k v t a s = x at *
          clear hv HE HQ heq
          subst hk; (
            go_enter Tryz.func44, Tryz.ntmps44
            go_wp2_with fail
            refine (hv' ▸ l5Vol v _).mono ?_
            rintro r w1 ⟨rfl, hw⟩
            subst hw
            go_wp2
            go_ret
            exact ⟨by rw [HR.out]; rfl, by go_grown⟩)
      · have HR := hid (right_no (HE.out.trans (decide_eq_false (fun h => h4 h.2.1.2))))
        generalize opRight k v t a s = x at *
        clear hv HE HQ heq
        subst hk; (
          go_enter Tryz.func44, Tryz.ntmps44
          go_wp2_with fail
          refine (hv' ▸ l5Vol v _).mono ?_
          rintro r w1 ⟨rfl, hw⟩
          subst hw
          go_wp2
          go_ret
          exact ⟨by rw [HR.out]; rfl, by go_grown⟩)
    · have HR := hid (right_no (HE.out.trans (decide_eq_false (fun h => h0 h.2.1.1))))
      generalize opRight k v t a s = x at *
      clear hv HE HQ heq
      subst hk; (
        go_enter Tryz.func44, Tryz.ntmps44
        go_wp2_with fail
        refine (hv' ▸ l5Vol v _).mono ?_
        rintro r w1 ⟨rfl, hw⟩
        subst hw
        go_wp2
        go_ret
        exact ⟨by rw [HR.out]; rfl, by go_grown⟩)
  · have hv' := decide_eq_false hv
    have HR := hid (right_no (HE.out.trans (decide_eq_false (fun h => hv h.1))))
    generalize opRight k v t a s = x at *
    clear hv HE HQ heq
    subst hk; (
      go_enter Tryz.func44, Tryz.ntmps44
      go_wp2_with fail
      refine (hv' ▸ l5Vol v _).mono ?_
      rintro r w1 ⟨rfl, hw⟩
      subst hw
      go_wp2
      go_ret
      exact ⟨by rw [HR.out]; rfl, by go_grown⟩)

set_option maxRecDepth 100000 in
set_option maxHeartbeats 4000000 in
theorem sOp_place (k v t a : Int) (s : ByteArray) (w : World) (hs : s.size ≤ 1048576) (hk : k = 4 ∨ k = 7) :
    Calls Tryz.prog 44 #[opV k v t a s] w fun e w' => e = .returned (.bool (opRight k v t a s)) ∧ Below w.heap.size w w' := by
  unfold opV
  have hgo := guardOpT
  obtain ⟨q, hq⟩ : ∃ q, decide (k = k ∧ v = v ∧ (0 : Int) = t ∧ a = a ∧ (⟨#[]⟩ : ByteArray) = s) = q := ⟨_, rfl⟩
  have heq := eql_is hq
  have HQ : Hid (decide (k = k ∧ nmv k v = v ∧ nmt k t = t ∧ nma k a = a ∧ nms k s = s) = q) := by
    rw [Hid, ← hq]
    rcases hk with rfl | rfl <;> rfl
  clear hq
  have HE : Hid (good k v t a s = decide ((0 ≤ v ∧ v < 4) ∧ (0 ≤ a ∧ a < 4) ∧ (s.size : Int) ≤ 16)) := by rcases hk with rfl | rfl <;> rfl
  by_cases hv : 0 ≤ v ∧ v < 4
  · have hv' := decide_eq_true hv
    by_cases h0 : 0 ≤ a
    · by_cases h4 : a < 4
      · by_cases hl : (s.size : Int) ≤ 16
        · have HR := hid ((right_yes (HE.out.trans (decide_eq_true ⟨hv, ⟨h0, h4⟩, hl⟩))).trans HQ.out)
          generalize opRight k v t a s = x at *
          clear hv HE HQ
          rcases hk with rfl | rfl <;> (
            go_enter Tryz.func44, Tryz.ntmps44
            go_wp2_with fail
            refine (hv' ▸ l5Vol v _).mono ?_
            rintro r w1 ⟨rfl, hw⟩
            subst hw
            go_wp2
            go_ret
            exact ⟨by rw [HR.out]; rfl, by go_grown⟩)
        · have HR := hid (right_no (HE.out.trans (decide_eq_false (fun h => hl h.2.2))))
          generalize opRight k v t a s = x at *
          clear hv HE HQ heq
          rcases hk with rfl | rfl <;> (
            go_enter Tryz.func44, Tryz.ntmps44
            go_wp2_with fail
            refine (hv' ▸ l5Vol v _).mono ?_
            rintro r w1 ⟨rfl, hw⟩
            subst hw
            go_wp2
            go_ret
            exact ⟨by rw [HR.out]; rfl, by go_grown⟩)
      · have HR := hid (right_no (HE.out.trans (decide_eq_false (fun h => h4 h.2.1.2))))
        generalize opRight k v t a s = x at *
        clear hv HE HQ heq
        rcases hk with rfl | rfl <;> (
          go_enter Tryz.func44, Tryz.ntmps44
          go_wp2_with fail
          refine (hv' ▸ l5Vol v _).mono ?_
          rintro r w1 ⟨rfl, hw⟩
          subst hw
          go_wp2
          go_ret
          exact ⟨by rw [HR.out]; rfl, by go_grown⟩)
    · have HR := hid (right_no (HE.out.trans (decide_eq_false (fun h => h0 h.2.1.1))))
      generalize opRight k v t a s = x at *
      clear hv HE HQ heq
      rcases hk with rfl | rfl <;> (
        go_enter Tryz.func44, Tryz.ntmps44
        go_wp2_with fail
        refine (hv' ▸ l5Vol v _).mono ?_
        rintro r w1 ⟨rfl, hw⟩
        subst hw
        go_wp2
        go_ret
        exact ⟨by rw [HR.out]; rfl, by go_grown⟩)
  · have hv' := decide_eq_false hv
    have HR := hid (right_no (HE.out.trans (decide_eq_false (fun h => hv h.1))))
    generalize opRight k v t a s = x at *
    clear hv HE HQ heq
    rcases hk with rfl | rfl <;> (
      go_enter Tryz.func44, Tryz.ntmps44
      go_wp2_with fail
      refine (hv' ▸ l5Vol v _).mono ?_
      rintro r w1 ⟨rfl, hw⟩
      subst hw
      go_wp2
      go_ret
      exact ⟨by rw [HR.out]; rfl, by go_grown⟩)

set_option maxRecDepth 100000 in
set_option maxHeartbeats 4000000 in
theorem sOp_snap (k v t a : Int) (s : ByteArray) (w : World) (hs : s.size ≤ 1048576) (hk : k = 5) :
    Calls Tryz.prog 44 #[opV k v t a s] w fun e w' => e = .returned (.bool (opRight k v t a s)) ∧ Below w.heap.size w w' := by
  unfold opV
  have hgo := guardOpT
  obtain ⟨q, hq⟩ : ∃ q, decide (k = k ∧ v = v ∧ t = t ∧ (0 : Int) = a ∧ (⟨#[]⟩ : ByteArray) = s) = q := ⟨_, rfl⟩
  have heq := eql_is hq
  have HQ : Hid (decide (k = k ∧ nmv k v = v ∧ nmt k t = t ∧ nma k a = a ∧ nms k s = s) = q) := by
    rw [Hid, ← hq]
    subst hk; rfl
  clear hq
  have HE : Hid (good k v t a s = decide ((0 ≤ v ∧ v < 4) ∧ (0 ≤ t ∧ t < 4) ∧ ¬ v = t)) := by subst hk; rfl
  by_cases hv : 0 ≤ v ∧ v < 4
  · have hv' := decide_eq_true hv
    by_cases ht : 0 ≤ t ∧ t < 4
    · have ht' := decide_eq_true ht
      by_cases hn : v = t
      · have HR := hid (right_no (HE.out.trans (decide_eq_false (fun h => h.2.2 hn))))
        have hb : (v != t) = false := by simpa using hn
        generalize opRight k v t a s = x at *
        clear hv ht HE HQ heq hn
        subst hk
        go_enter Tryz.func44, Tryz.ntmps44
        go_wp2_with fail
        refine (hv' ▸ l5Vol v _).mono ?_
        rintro r w1 ⟨rfl, hw⟩
        subst hw
        go_wp2_with fail
        refine (ht' ▸ l5Vol t _).mono ?_
        rintro r w1 ⟨rfl, hw⟩
        subst hw
        go_wp2
        go_ret
        exact ⟨by rw [HR.out]; rfl, by go_grown⟩
      · have HR := hid ((right_yes (HE.out.trans (decide_eq_true ⟨hv, ht, hn⟩))).trans HQ.out)
        have hb : (v != t) = true := by simpa using hn
        generalize opRight k v t a s = x at *
        clear hv ht HE HQ hn
        subst hk
        go_enter Tryz.func44, Tryz.ntmps44
        go_wp2_with fail
        refine (hv' ▸ l5Vol v _).mono ?_
        rintro r w1 ⟨rfl, hw⟩
        subst hw
        go_wp2_with fail
        refine (ht' ▸ l5Vol t _).mono ?_
        rintro r w1 ⟨rfl, hw⟩
        subst hw
        go_wp2
        go_ret
        exact ⟨by rw [HR.out]; rfl, by go_grown⟩
    · have ht' := decide_eq_false ht
      have HR := hid (right_no (HE.out.trans (decide_eq_false (fun h => ht h.2.1))))
      generalize opRight k v t a s = x at *
      clear hv ht HE HQ heq
      subst hk
      go_enter Tryz.func44, Tryz.ntmps44
      go_wp2_with fail
      refine (hv' ▸ l5Vol v _).mono ?_
      rintro r w1 ⟨rfl, hw⟩
      subst hw
      go_wp2_with fail
      refine (ht' ▸ l5Vol t _).mono ?_
      rintro r w1 ⟨rfl, hw⟩
      subst hw
      go_wp2
      go_ret
      exact ⟨by rw [HR.out]; rfl, by go_grown⟩
  · have hv' := decide_eq_false hv
    have HR := hid (right_no (HE.out.trans (decide_eq_false (fun h => hv h.1))))
    generalize opRight k v t a s = x at *
    clear hv HE HQ heq
    subst hk; (
      go_enter Tryz.func44, Tryz.ntmps44
      go_wp2_with fail
      refine (hv' ▸ l5Vol v _).mono ?_
      rintro r w1 ⟨rfl, hw⟩
      subst hw
      go_wp2
      go_ret
      exact ⟨by rw [HR.out]; rfl, by go_grown⟩)

set_option maxRecDepth 100000 in
set_option maxHeartbeats 4000000 in
theorem sOp_drain (k v t a : Int) (s : ByteArray) (w : World) (hs : s.size ≤ 1048576) (hk : k = 6) :
    Calls Tryz.prog 44 #[opV k v t a s] w fun e w' => e = .returned (.bool (opRight k v t a s)) ∧ Below w.heap.size w w' := by
  unfold opV
  have hgo := guardOpT
  obtain ⟨q, hq⟩ : ∃ q, decide (k = k ∧ (0 : Int) = v ∧ (0 : Int) = t ∧ (0 : Int) = a ∧ (⟨#[]⟩ : ByteArray) = s) = q := ⟨_, rfl⟩
  have heq := eql_is hq
  have HQ : Hid (decide (k = k ∧ nmv k v = v ∧ nmt k t = t ∧ nma k a = a ∧ nms k s = s) = q) := by
    rw [Hid, ← hq]
    subst hk; rfl
  clear hq
  have HE : Hid (good k v t a s = true) := by subst hk; rfl
  have HR := hid ((right_yes HE.out).trans HQ.out)
  generalize opRight k v t a s = x at *
  clear HE HQ
  subst hk
  go_enter Tryz.func44, Tryz.ntmps44
  go_wp2
  go_ret
  exact ⟨by rw [HR.out]; rfl, by go_grown⟩

set_option maxRecDepth 100000 in
set_option maxHeartbeats 4000000 in
theorem sOpOk (k v t a : Int) (s : ByteArray) (w : World) (hs : s.size ≤ 1048576) :
    Calls Tryz.prog 44 #[opV k v t a s] w fun e w' => e = .returned (.bool (opRight k v t a s)) ∧ Below w.heap.size w w' := by
  by_cases h1 : k = 1 ∨ k = 2 ∨ k = 8 ∨ k = 9
  · exact sOp_vol k v t a s w hs h1
  by_cases h2 : k = 3
  · exact sOp_write k v t a s w hs h2
  by_cases h3 : k = 4 ∨ k = 7
  · exact sOp_place k v t a s w hs h3
  by_cases h4 : k = 5
  · exact sOp_snap k v t a s w hs h4
  by_cases h5 : k = 6
  · exact sOp_drain k v t a s w hs h5
  by_cases h6 : k = 10 ∨ k = 11
  · exact sOp_group k v t a s w hs h6
  by_cases h7 : k = 12
  · exact sOp_host k v t a s w hs h7
  have HR : Hid (opRight k v t a s = false) := right_no (by unfold good; rw [if_neg h1, if_neg (by omega), if_neg h4, if_neg h5, if_neg (by omega)])
  unfold opV
  generalize opRight k v t a s = x at *
  have b1 : (k == 1) = false := beq_no (by omega)
  have b2 : (k == 2) = false := beq_no (by omega)
  have b3 : (k == 3) = false := beq_no (by omega)
  have b4 : (k == 4) = false := beq_no (by omega)
  have b5 : (k == 5) = false := beq_no (by omega)
  have b6 : (k == 6) = false := beq_no (by omega)
  have b7 : (k == 7) = false := beq_no (by omega)
  have b8 : (k == 8) = false := beq_no (by omega)
  have b9 : (k == 9) = false := beq_no (by omega)
  have b10 : (k == 10) = false := beq_no (by omega)
  have b11 : (k == 11) = false := beq_no (by omega)
  have b12 : (k == 12) = false := beq_no (by omega)
  clear h1 h2 h3 h4 h5 h6 h7
  go_enter Tryz.func44, Tryz.ntmps44
  go_wp2
  go_ret
  exact ⟨by rw [HR.out]; rfl, by go_grown⟩

end Go.Proofs.YtogebppolkfldaaGreatDoor.Pl

namespace Go.Proofs.YtogebppolkfldaaGreatDoor.Pl
open Go.RowKit Go.Proofs.YtogebppolkfldaaGreatDoor.Mem
set_option linter.unusedVariables false

theorem right_is {k v t a : Int} {s : ByteArray} (hk : 1 ≤ k ∧ k ≤ 12) (hn : nmv k v = v ∧ nmt k t = t ∧ nma k a = a ∧ nms k s = s) (h5 : ¬ (k = 5 ∧ v = t)) :
    opRight k v t a s = (decide (0 ≤ v ∧ v ≤ top k) && (decide (0 ≤ t ∧ t ≤ 3) && (decide (0 ≤ a ∧ a ≤ 3) && decide ((s.size : Int) ≤ 16)))) := by
  obtain ⟨n1, n2, n3, n4⟩ := hn
  have he : (⟨#[]⟩ : ByteArray).size = 0 := rfl
  unfold opRight
  rw [decide_eq_true (show k = k ∧ nmv k v = v ∧ nmt k t = t ∧ nma k a = a ∧ nms k s = s from ⟨rfl, n1, n2, n3, n4⟩), Bool.and_true]
  have hc : k = 1 ∨ k = 2 ∨ k = 3 ∨ k = 4 ∨ k = 5 ∨ k = 6 ∨ k = 7 ∨ k = 8 ∨ k = 9 ∨ k = 10 ∨ k = 11 ∨ k = 12 := by omega
  rw [Bool.eq_iff_iff]
  rcases hc with rfl | rfl | rfl | rfl | rfl | rfl | rfl | rfl | rfl | rfl | rfl | rfl <;> simp [nmv, nmt, nma, nms] at n1 n2 n3 n4 <;> (try subst n4) <;> simp [good, top, he] <;> omega

theorem right_not {k v t a : Int} {s : ByteArray} (hk : ¬ (1 ≤ k ∧ k ≤ 12)) : opRight k v t a s = false :=
  right_no (by unfold good; rw [if_neg (by omega), if_neg (by omega), if_neg (by omega), if_neg (by omega), if_neg (by omega)])

theorem right_same {k v t a : Int} {s : ByteArray} (h : k = 5 ∧ v = t) : opRight k v t a s = false :=
  right_no (by obtain ⟨rfl, rfl⟩ := h; simp [good])

theorem right_part {k v t a : Int} {s : ByteArray} (h : ¬ (nmv k v = v ∧ nmt k t = t ∧ nma k a = a ∧ nms k s = s)) : opRight k v t a s = false := by
  unfold opRight
  rw [decide_eq_false (fun x => h x.2), Bool.and_false]

theorem eq_turned {k v t a : Int} {s : ByteArray} : decide (k = k ∧ v = nmv k v ∧ t = nmt k t ∧ a = nma k a ∧ s = nms k s) = decide (nmv k v = v ∧ nmt k t = t ∧ nma k a = a ∧ nms k s = s) := by
  rw [decide_eq_decide]
  exact ⟨fun h => ⟨h.2.1.symm, h.2.2.1.symm, h.2.2.2.1.symm, h.2.2.2.2.symm⟩, fun h => ⟨rfl, h.1.symm, h.2.1.symm, h.2.2.1.symm, h.2.2.2.symm⟩⟩

set_option maxRecDepth 100000 in
set_option maxHeartbeats 4000000 in
theorem iOpOk (k v t a : Int) (s : ByteArray) (w : World) (hs : s.size ≤ 1048576) :
    Calls Tryz.prog 94 #[opV k v t a s] w fun e w' => e = .returned (.bool (opRight k v t a s)) ∧ Below w.heap.size w w' := by
  unfold opV
  obtain ⟨wa, hwa, ez, A0, B0⟩ := one_new w [.int .i64 k, .int .i64 v, .int .i64 t, .int .i64 a, .string s] 63
  have HA := hid A0
  have k0 := BW.cell (A0.c 0 rfl)
  have k1 := BW.cell (A0.c 1 rfl)
  have k2 := BW.cell (A0.c 2 rfl)
  have k3 := BW.cell (A0.c 3 rfl)
  have k4 := BW.cell (A0.c 4 rfl)
  have hne : Nonempty (BW wa) := ⟨⟨wa, Below.refl _ _⟩⟩
  have HB := hid B0
  have hgo := guardOpT
  clear A0 B0
  by_cases hk : 1 ≤ k ∧ k ≤ 12
  · have hk' := decide_eq_true hk
    by_cases hn : nmv k v = v ∧ nmt k t = t ∧ nma k a = a ∧ nms k s = s
    · have heq := neq_is (eq_turned.trans (decide_eq_true hn))
      by_cases h5 : k = 5 ∧ v = t
      · have HR := hid (right_same (a := a) (s := s) h5)
        have hb5 : (k == 5) = true := by simpa using h5.1
        have hbv : (v == t) = true := by simpa using h5.2
        generalize opRight k v t a s = x at *
        clear hk hn h5
        go_enter Tryz.func94, Tryz.ntmps94
        go_wp2
        refine wp_region_bw (by kernel_rfl) (by kernel_rfl) ?_
        repeat (go_big_quiet_step (first
          | (go_at_call 93; refine bw_same (v := .bool true) (hk' ▸ isFrom k 1 12 _))
          | (go_at_call 122; refine bw_below (v := .agg #[.int .i64 k, .int .i64 (nmv k v), .int .i64 (nmt k t), .int .i64 (nma k a), .string (nms k s)]) (namedParts k v t a s _))))
        refine wpQuiet_nil ?_
        intro w3 hw'
        obtain ⟨u, hu⟩ := hw'
        have b3 := u.bel
        rw [← hu] at b3
        have HU := hid (HB.out.trans (b3.mono HB.out.size))
        have HA3 := hid (HA.out.below b3 HA.out.lt)
        clear k0 k1 k2 k3 k4 heq hwa hne hu b3 u HA
        have k0 := HA3.out.c 0 rfl
        have k1 := HA3.out.c 1 rfl
        have k2 := HA3.out.c 2 rfl
        go_wp2
        go_ret
        exact ⟨by rw [HR.out]; rfl, HU.out⟩
      · have HE := hid (right_is hk hn h5)
        by_cases hk5 : k = 5
        · have hb5 : (k == 5) = true := by simpa using hk5
          have hbv : (v == t) = false := by simpa using fun e => h5 ⟨hk5, e⟩
          generalize opRight k v t a s = x at *
          clear hk hn h5 hk5
          go_enter Tryz.func94, Tryz.ntmps94
          go_wp2
          refine wp_region_bw (by kernel_rfl) (by kernel_rfl) ?_
          repeat (go_big_quiet_step (first
            | (go_at_call 93; refine bw_same (v := .bool true) (hk' ▸ isFrom k 1 12 _))
            | (go_at_call 122; refine bw_below (v := .agg #[.int .i64 k, .int .i64 (nmv k v), .int .i64 (nmt k t), .int .i64 (nma k a), .string (nms k s)]) (namedParts k v t a s _))))
          refine wpQuiet_nil ?_
          intro w3 hw'
          obtain ⟨u, hu⟩ := hw'
          have b3 := u.bel
          rw [← hu] at b3
          have HU := hid (HB.out.trans (b3.mono HB.out.size))
          have HA3 := hid (HA.out.below b3 HA.out.lt)
          clear k0 k1 k2 k3 k4 heq hwa hne hu b3 u HA
          have k0 := HA3.out.c 0 rfl
          have k1 := HA3.out.c 1 rfl
          have k2 := HA3.out.c 2 rfl
          go_wp2_with fail
          clear k0 k1 k2
          have k0 := BW.cell (HA3.out.c 0 rfl)
          have k1 := BW.cell (HA3.out.c 1 rfl)
          have k2 := BW.cell (HA3.out.c 2 rfl)
          have k3 := BW.cell (HA3.out.c 3 rfl)
          have k4 := BW.cell (HA3.out.c 4 rfl)
          have hne : Nonempty (BW w3) := ⟨⟨w3, Below.refl _ _⟩⟩
          by_cases hv : 0 ≤ v ∧ v ≤ top k
          · have hv' := decide_eq_true hv
            rw [hv', Bool.true_and] at HE
            by_cases ht : 0 ≤ t ∧ t ≤ 3
            · have ht' := decide_eq_true ht
              rw [ht', Bool.true_and] at HE
              by_cases ha : 0 ≤ a ∧ a ≤ 3
              · have ha' := decide_eq_true ha
                rw [ha', Bool.true_and] at HE
                have HR : Hid (x = decide ((s.size : Int) ≤ 16)) := HE
                clear hv ht ha HE
                refine wp_region_bw (by kernel_rfl) (by kernel_rfl) ?_
                repeat (go_big_quiet_step (first
                  | (go_at_call 123; refine bw_same (highestVol k _))
                  | (go_at_call 93; with_reducible refine bw_same (v := .bool true) (hv' ▸ isFrom v 0 (top k) _))
                  | (go_at_call 93; with_reducible refine bw_same (v := .bool true) (ht' ▸ isFrom t 0 3 _))
                  | (go_at_call 93; with_reducible refine bw_same (v := .bool true) (ha' ▸ isFrom a 0 3 _))))
                refine wpQuiet_nil ?_
                intro _ hw'
                obtain ⟨u5, rfl⟩ := hw'
                have HU5 := hid (HU.out.trans (u5.bel.mono HU.out.size))
                clear k0 k1 k2 k3 k4
                go_wp2
                go_ret
                exact ⟨by rw [HR.out]; rfl, HU5.out⟩
              · have ha' := decide_eq_false ha
                rw [ha', Bool.false_and] at HE
                have HR : Hid (x = false) := HE
                clear hv ht ha HE
                refine wp_region_bw (by kernel_rfl) (by kernel_rfl) ?_
                repeat (go_big_quiet_step (first
                  | (go_at_call 123; refine bw_same (highestVol k _))
                  | (go_at_call 93; with_reducible refine bw_same (v := .bool true) (hv' ▸ isFrom v 0 (top k) _))
                  | (go_at_call 93; with_reducible refine bw_same (v := .bool true) (ht' ▸ isFrom t 0 3 _))
                  | (go_at_call 93; with_reducible refine bw_same (v := .bool false) (ha' ▸ isFrom a 0 3 _))))
                refine wpQuiet_nil ?_
                intro _ hw'
                obtain ⟨u5, rfl⟩ := hw'
                have HU5 := hid (HU.out.trans (u5.bel.mono HU.out.size))
                clear k0 k1 k2 k3 k4
                go_wp2
                go_ret
                exact ⟨by rw [HR.out]; rfl, HU5.out⟩
            · have ht' := decide_eq_false ht
              rw [ht', Bool.false_and] at HE
              have HR : Hid (x = false) := HE
              clear hv ht HE
              refine wp_region_bw (by kernel_rfl) (by kernel_rfl) ?_
              repeat (go_big_quiet_step (first
                | (go_at_call 123; refine bw_same (highestVol k _))
                | (go_at_call 93; with_reducible refine bw_same (v := .bool true) (hv' ▸ isFrom v 0 (top k) _))
                | (go_at_call 93; with_reducible refine bw_same (v := .bool false) (ht' ▸ isFrom t 0 3 _))))
              refine wpQuiet_nil ?_
              intro _ hw'
              obtain ⟨u5, rfl⟩ := hw'
              have HU5 := hid (HU.out.trans (u5.bel.mono HU.out.size))
              clear k0 k1 k2 k3 k4
              go_wp2
              go_ret
              exact ⟨by rw [HR.out]; rfl, HU5.out⟩
          · have hv' := decide_eq_false hv
            rw [hv', Bool.false_and] at HE
            have HR : Hid (x = false) := HE
            clear hv HE
            refine wp_region_bw (by kernel_rfl) (by kernel_rfl) ?_
            repeat (go_big_quiet_step (first
              | (go_at_call 123; refine bw_same (highestVol k _))
              | (go_at_call 93; with_reducible refine bw_same (v := .bool false) (hv' ▸ isFrom v 0 (top k) _))))
            refine wpQuiet_nil ?_
            intro _ hw'
            obtain ⟨u5, rfl⟩ := hw'
            have HU5 := hid (HU.out.trans (u5.bel.mono HU.out.size))
            clear k0 k1 k2 k3 k4
            go_wp2
            go_ret
            exact ⟨by rw [HR.out]; rfl, HU5.out⟩
        · have hb5 : (k == 5) = false := by simpa using hk5
          generalize opRight k v t a s = x at *
          clear hk hn h5 hk5
          go_enter Tryz.func94, Tryz.ntmps94
          go_wp2
          refine wp_region_bw (by kernel_rfl) (by kernel_rfl) ?_
          repeat (go_big_quiet_step (first
            | (go_at_call 93; refine bw_same (v := .bool true) (hk' ▸ isFrom k 1 12 _))
            | (go_at_call 122; refine bw_below (v := .agg #[.int .i64 k, .int .i64 (nmv k v), .int .i64 (nmt k t), .int .i64 (nma k a), .string (nms k s)]) (namedParts k v t a s _))))
          refine wpQuiet_nil ?_
          intro w3 hw'
          obtain ⟨u, hu⟩ := hw'
          have b3 := u.bel
          rw [← hu] at b3
          have HU := hid (HB.out.trans (b3.mono HB.out.size))
          have HA3 := hid (HA.out.below b3 HA.out.lt)
          clear k0 k1 k2 k3 k4 heq hwa hne hu b3 u HA
          have k0 := HA3.out.c 0 rfl
          have k1 := HA3.out.c 1 rfl
          have k2 := HA3.out.c 2 rfl
          go_wp2_with fail
          clear k0 k1 k2
          have k0 := BW.cell (HA3.out.c 0 rfl)
          have k1 := BW.cell (HA3.out.c 1 rfl)
          have k2 := BW.cell (HA3.out.c 2 rfl)
          have k3 := BW.cell (HA3.out.c 3 rfl)
          have k4 := BW.cell (HA3.out.c 4 rfl)
          have hne : Nonempty (BW w3) := ⟨⟨w3, Below.refl _ _⟩⟩
          by_cases hv : 0 ≤ v ∧ v ≤ top k
          · have hv' := decide_eq_true hv
            rw [hv', Bool.true_and] at HE
            by_cases ht : 0 ≤ t ∧ t ≤ 3
            · have ht' := decide_eq_true ht
              rw [ht', Bool.true_and] at HE
              by_cases ha : 0 ≤ a ∧ a ≤ 3
              · have ha' := decide_eq_true ha
                rw [ha', Bool.true_and] at HE
                have HR : Hid (x = decide ((s.size : Int) ≤ 16)) := HE
                clear hv ht ha HE
                refine wp_region_bw (by kernel_rfl) (by kernel_rfl) ?_
                repeat (go_big_quiet_step (first
                  | (go_at_call 123; refine bw_same (highestVol k _))
                  | (go_at_call 93; with_reducible refine bw_same (v := .bool true) (hv' ▸ isFrom v 0 (top k) _))
                  | (go_at_call 93; with_reducible refine bw_same (v := .bool true) (ht' ▸ isFrom t 0 3 _))
                  | (go_at_call 93; with_reducible refine bw_same (v := .bool true) (ha' ▸ isFrom a 0 3 _))))
                refine wpQuiet_nil ?_
                intro _ hw'
                obtain ⟨u5, rfl⟩ := hw'
                have HU5 := hid (HU.out.trans (u5.bel.mono HU.out.size))
                clear k0 k1 k2 k3 k4
                go_wp2
                go_ret
                exact ⟨by rw [HR.out]; rfl, HU5.out⟩
              · have ha' := decide_eq_false ha
                rw [ha', Bool.false_and] at HE
                have HR : Hid (x = false) := HE
                clear hv ht ha HE
                refine wp_region_bw (by kernel_rfl) (by kernel_rfl) ?_
                repeat (go_big_quiet_step (first
                  | (go_at_call 123; refine bw_same (highestVol k _))
                  | (go_at_call 93; with_reducible refine bw_same (v := .bool true) (hv' ▸ isFrom v 0 (top k) _))
                  | (go_at_call 93; with_reducible refine bw_same (v := .bool true) (ht' ▸ isFrom t 0 3 _))
                  | (go_at_call 93; with_reducible refine bw_same (v := .bool false) (ha' ▸ isFrom a 0 3 _))))
                refine wpQuiet_nil ?_
                intro _ hw'
                obtain ⟨u5, rfl⟩ := hw'
                have HU5 := hid (HU.out.trans (u5.bel.mono HU.out.size))
                clear k0 k1 k2 k3 k4
                go_wp2
                go_ret
                exact ⟨by rw [HR.out]; rfl, HU5.out⟩
            · have ht' := decide_eq_false ht
              rw [ht', Bool.false_and] at HE
              have HR : Hid (x = false) := HE
              clear hv ht HE
              refine wp_region_bw (by kernel_rfl) (by kernel_rfl) ?_
              repeat (go_big_quiet_step (first
                | (go_at_call 123; refine bw_same (highestVol k _))
                | (go_at_call 93; with_reducible refine bw_same (v := .bool true) (hv' ▸ isFrom v 0 (top k) _))
                | (go_at_call 93; with_reducible refine bw_same (v := .bool false) (ht' ▸ isFrom t 0 3 _))))
              refine wpQuiet_nil ?_
              intro _ hw'
              obtain ⟨u5, rfl⟩ := hw'
              have HU5 := hid (HU.out.trans (u5.bel.mono HU.out.size))
              clear k0 k1 k2 k3 k4
              go_wp2
              go_ret
              exact ⟨by rw [HR.out]; rfl, HU5.out⟩
          · have hv' := decide_eq_false hv
            rw [hv', Bool.false_and] at HE
            have HR : Hid (x = false) := HE
            clear hv HE
            refine wp_region_bw (by kernel_rfl) (by kernel_rfl) ?_
            repeat (go_big_quiet_step (first
              | (go_at_call 123; refine bw_same (highestVol k _))
              | (go_at_call 93; with_reducible refine bw_same (v := .bool false) (hv' ▸ isFrom v 0 (top k) _))))
            refine wpQuiet_nil ?_
            intro _ hw'
            obtain ⟨u5, rfl⟩ := hw'
            have HU5 := hid (HU.out.trans (u5.bel.mono HU.out.size))
            clear k0 k1 k2 k3 k4
            go_wp2
            go_ret
            exact ⟨by rw [HR.out]; rfl, HU5.out⟩
    · have heq := neq_is (eq_turned.trans (decide_eq_false hn))
      have HR := hid (right_part hn)
      generalize opRight k v t a s = x at *
      clear hk hn
      go_enter Tryz.func94, Tryz.ntmps94
      go_wp2
      refine wp_region_bw (by kernel_rfl) (by kernel_rfl) ?_
      repeat (go_big_quiet_step (first
        | (go_at_call 93; refine bw_same (v := .bool true) (hk' ▸ isFrom k 1 12 _))
        | (go_at_call 122; refine bw_below (v := .agg #[.int .i64 k, .int .i64 (nmv k v), .int .i64 (nmt k t), .int .i64 (nma k a), .string (nms k s)]) (namedParts k v t a s _))))
      refine wpQuiet_nil ?_
      intro w3 hw'
      obtain ⟨u, hu⟩ := hw'
      have b3 := u.bel
      rw [← hu] at b3
      have HU := hid (HB.out.trans (b3.mono HB.out.size))
      clear k0 k1 k2 k3 k4 heq hwa hne hu b3 u
      go_wp2
      go_ret
      exact ⟨by rw [HR.out]; rfl, HU.out⟩
  · have hk' := decide_eq_false hk
    have HR := hid (right_not (v := v) (t := t) (a := a) (s := s) hk)
    generalize opRight k v t a s = x at *
    clear hk
    go_enter Tryz.func94, Tryz.ntmps94
    go_wp2
    refine wp_region_bw (by kernel_rfl) (by kernel_rfl) ?_
    repeat (go_big_quiet_step (first
      | (go_at_call 93; refine bw_same (v := .bool false) (hk' ▸ isFrom k 1 12 _))
      | (go_at_call 122; refine bw_below (v := .agg #[.int .i64 k, .int .i64 (nmv k v), .int .i64 (nmt k t), .int .i64 (nma k a), .string (nms k s)]) (namedParts k v t a s _))))
    refine wpQuiet_nil ?_
    intro w3 hw'
    obtain ⟨u, hu⟩ := hw'
    have b3 := u.bel
    rw [← hu] at b3
    have HU := hid (HB.out.trans (b3.mono HB.out.size))
    clear k0 k1 k2 k3 k4 hwa hne hu b3 u
    go_wp2
    go_ret
    exact ⟨by rw [HR.out]; rfl, HU.out⟩

end Go.Proofs.YtogebppolkfldaaGreatDoor.Pl

namespace Go.Proofs.YtogebppolkfldaaGreatDoor.Pl
open Go.RowKit Go.ChangeShapes Go.WideShapes Go.ChangeAt Go.Joins Go.Deep
open Go.Proofs.YtogebppolkfldaaGreatDoor.Mem
set_option linter.unusedVariables false

variable {H : Type} {enc : TypeId × Value → H} {W : World} {base : Nat} {spare : Nat → Bool} {held : Bool}

theorem cInt : Tryz.prog.cellsOf 3 = 1 := by kernel_rfl

set_option maxRecDepth 100000 in
theorem op_in {fuel : Nat} {cs : List Value} {x : DataW H × List MemPlace} (h : DataW.trod enc Tryz.prog W base spare held fuel 90 cs = some x) :
    ∃ (k v t a : Int) (s : ByteArray), cs = [.int .i64 k, .int .i64 v, .int .i64 t, .int .i64 a, .string s] ∧ s.size ≤ maxLen := by
  obtain ⟨xs, n, _, rfl, hl, hlen, hf⟩ := DataW.trod_struct Tryz.underlying90 h
  have c5 : Tryz.prog.cellsOf 90 = 5 := by kernel_rfl
  have cs9 : Tryz.prog.cellsOf 9 = 1 := by kernel_rfl
  rw [c5] at hl
  match xs, hlen, cs, hl with
  | [y0, y1, y2, y3, y4], _, [v0, v1, v2, v3, v4], _ =>
    have f0 : DataW.trod enc Tryz.prog W base spare held n 3 [v0] = some y0 := by simpa [cInt] using hf 0 _ rfl
    have f1 : DataW.trod enc Tryz.prog W base spare held n 3 [v1] = some y1 := by simpa [cInt] using hf 1 _ rfl
    have f2 : DataW.trod enc Tryz.prog W base spare held n 3 [v2] = some y2 := by simpa [cInt] using hf 2 _ rfl
    have f3 : DataW.trod enc Tryz.prog W base spare held n 3 [v3] = some y3 := by simpa [cInt] using hf 3 _ rfl
    have f4 : DataW.trod enc Tryz.prog W base spare held n 9 [v4] = some y4 := by simpa [cs9] using hf 4 _ rfl
    obtain ⟨n0, e0, _, _⟩ := DataW.trod_int Tryz.underlying3 f0
    obtain ⟨n1, e1, _, _⟩ := DataW.trod_int Tryz.underlying3 f1
    obtain ⟨n2, e2, _, _⟩ := DataW.trod_int Tryz.underlying3 f2
    obtain ⟨n3, e3, _, _⟩ := DataW.trod_int Tryz.underlying3 f3
    obtain ⟨s4, e4, _, hs⟩ := DataW.trod_string Tryz.underlying9 f4
    simp only [List.cons.injEq, and_true] at e0 e1 e2 e3 e4
    subst e0; subst e1; subst e2; subst e3; subst e4
    exact ⟨n0, n1, n2, n3, s4, rfl, hs⟩

set_option maxRecDepth 100000 in
/-- A call that came in. -/
theorem op_arg {v : Value} {d : DataW H} {p : List MemPlace} {r : Reach} {b0 : Nat} (hv : Value.okWide Tryz.prog W r b0 90 v) (h : DataW.Trod enc Tryz.prog W base spare held 90 v d p) :
    ∃ (k v' t a : Int) (s : ByteArray), v = opV k v' t a s ∧ s.size ≤ maxLen := by
  obtain ⟨cs, rfl, hsz⟩ := okWide_struct Tryz.underlying90 hv
  obtain ⟨fuel, hf⟩ := h
  obtain ⟨k, v', t, a, s, e, hs⟩ := op_in hf
  obtain ⟨l⟩ := cs
  simp only [Value.cells] at e
  subst e
  exact ⟨k, v', t, a, s, rfl, hs⟩

set_option maxRecDepth 100000 in
set_option maxHeartbeats 1000000 in
theorem toOp (w : World) (k v t a : Int) (s : ByteArray) : Calls Tryz.prog 86 #[opV k v t a s] w fun e w' => e = .returned (opV k v t a s) ∧ Below w.heap.size w w' := by
  unfold opV
  go_enter Tryz.func86, Tryz.ntmps86
  go_wp2
  go_returns
  exact ⟨rfl, by go_grown⟩

/-- What is left: a number below 0, or one not above what was, and all fits. -/
def Fits1 (r left : Int) (n : Nat) : Prop := r < 0 ∨ (0 ≤ r ∧ r ≤ left ∧ (n : Int) ≤ left)

set_option maxRecDepth 100000 in
set_option maxHeartbeats 1000000 in
theorem szOp (w : World) (k v t a : Int) (s : ByteArray) (left : Int) (hl : s.size ≤ maxLen) (h0 : 0 ≤ left) (h1 : left ≤ 1048576) :
    Calls Tryz.prog 70 #[opV k v t a s, .int .i64 left] w fun e w' => ∃ r, e = .returned (.int .i64 r) ∧ Below w.heap.size w w' ∧ Fits1 r left s.size := by
  unfold maxLen at hl
  unfold opV
  by_cases hb : left < (s.size : Int)
  · go_enter Tryz.func70, Tryz.ntmps70
    go_wp2
    go_ret
    exact ⟨_, rfl, by go_grown, Or.inl (by decide)⟩
  · go_enter Tryz.func70, Tryz.ntmps70
    go_wp2
    go_ret
    exact ⟨_, rfl, by go_grown, Or.inr ⟨by omega, by omega, by omega⟩⟩

end Go.Proofs.YtogebppolkfldaaGreatDoor.Pl

namespace Go.Proofs.YtogebppolkfldaaGreatDoor.Pl
open Go.RowKit Go.Proofs.YtogebppolkfldaaGreatDoor.Mem
set_option linter.unusedVariables false

/-- Cells stored one behind the other. -/
def puts (w : World) (g : Nat) : Nat → List Value → World
  | _, [] => w
  | i, v :: vs => puts (w.setCell ⟨g, i, none⟩ v) g (i + 1) vs

def listed (xs : List Value) : Nat → List Value → List Value
  | _, [] => xs
  | i, v :: vs => listed (xs.set i v) (i + 1) vs

theorem puts_row {w : World} {g : Nat} {xs : List Value} (h : Row w g xs) (i : Nat) (vs : List Value) : Row (puts w g i vs) g (listed xs i vs) := by
  induction vs generalizing w xs i with
  | nil => exact h
  | cons v vs ih => exact ih (h.set i v) (i + 1)

theorem puts_other {w : World} {g b : Nat} {xs : List Value} (h : Row w b xs) (hb : b ≠ g) (i : Nat) (vs : List Value) : Row (puts w g i vs) b xs := by
  induction vs generalizing w i with
  | nil => exact h
  | cons v vs ih => exact ih (h.other (p := ⟨g, i, none⟩) hb v) (i + 1)

theorem puts_kept (w : World) (g i : Nat) (vs : List Value) : Kept (fun b => b = g) w (puts w g i vs) := by
  induction vs generalizing w i with
  | nil => exact Kept.refl _ _
  | cons v vs ih => exact ((kept_set w g i v).trans (ih (w.setCell ⟨g, i, none⟩ v) (i + 1))).mono (fun b _ h => by rcases h with h | h <;> exact h)

theorem puts_below {B : Nat} {w w' : World} {g : Nat} (h : Below B w w') (hg : B ≤ g) (i : Nat) (vs : List Value) : Below B w (puts w' g i vs) := by
  induction vs generalizing w' i with
  | nil => exact h
  | cons v vs ih => exact ih (below_set h g i v hg) (i + 1)

theorem puts_size (w : World) (g i : Nat) (vs : List Value) : (puts w g i vs).heap.size = w.heap.size := by
  induction vs generalizing w i with
  | nil => rfl
  | cons v vs ih => rw [puts, ih]; simp

theorem three_news (w : World) (xs ys zs : List Value) (t u : TypeId) :
    ∃ wc, ((w.alloc (.cells xs.toArray t)).alloc (.cells ys.toArray u)).alloc (.cells zs.toArray u) = wc ∧ wc.heap.size = w.heap.size + 1 + 1 + 1 ∧
      Row wc w.heap.size xs ∧ Row wc (w.heap.size + 1) ys ∧ Row wc (w.heap.size + 1 + 1) zs ∧ Below w.heap.size w wc := by
  have e0 : (w.alloc (.cells xs.toArray t)).heap.size = w.heap.size + 1 := by simp
  have e1 : ((w.alloc (.cells xs.toArray t)).alloc (.cells ys.toArray u)).heap.size = w.heap.size + 1 + 1 := by simp
  have r1 := Row.new (w.alloc (.cells xs.toArray t)) ys u
  have r2 := Row.new ((w.alloc (.cells xs.toArray t)).alloc (.cells ys.toArray u)) zs u
  rw [e0] at r1
  rw [e1] at r2
  exact ⟨_, rfl, by simp, ((Row.new w xs t).alloc _).alloc _, r1.alloc _, r2, (((Below.refl _ _).alloc (Nat.le_refl _) _).alloc (by omega) _).alloc (by omega) _⟩

end Go.Proofs.YtogebppolkfldaaGreatDoor.Pl
