/-
  The walk of impl.queuesOf: at each host and sector the numbers of its writes, in their order. No condition but a list of at most 40 writes of hosts and sectors in range.
  The walk of impl.Peek: it answers as spec.Peek does, and nothing that was there is changed. No condition.
  The numbers of slices.Delete, slices.Sort and slices.Index (where it is there) and their callees in this program, for the library's contracts of them. No condition.
  The walk of impl's take: one number is struck from one queue. No condition but that it is there.
  Plain: what is collected of queues, sorted, is told in the order of the numbers. No condition.
  The walk of impl's left: the writes whose numbers are still in a queue, in the order in which they were given. No condition but a list of at most 40 writes.
  Plain: what is left of the writes when one number is struck, or all of one host's. No condition.
  Plain: what a flush leaves in each sector: the last of the host's writes to it, or what stood there. No condition.
  The walk of impl's take once more, with a sharper word on what it leaves alone. No condition but that the number is there.
  The walk of impl.Flush: it answers as spec.Flush does, in rows of its own. No condition but sizes.
  The walk of impl.Land: it answers as spec.Land does, in rows of its own. No condition but sizes.
-/
import Derived.Test.YtnkipjlkhnmilaaJoin1
import Derived.Test.YtnkipjlkhnmilaaDkPut
import Derived.Test.YtnkipjlkhnmilaaWrapEnd
import Derived.Test.YtnkipjlkhnmilaaDkSwap
import Derived.Shelf.Slices.Delete
import Derived.Shelf.Slices.Turned
import Derived.Shelf.Slices.In.SortNone
import Derived.Shelf.Sort.Plain
import Derived.Test.YtnkipjlkhnmilaaProg
import Derived.Test.YtnkipjlkhnmilaaDkLand
import Derived.Sort.OwnSortedInts
import Derived.Maps.RangeWalk
import Derived.Test.YtnkipjlkhnmilaaDkFence
import Derived.Test.YtnkipjlkhnmilaaDkRight
namespace Go.Proofs.Ytnkipjlkhnmilaa.Mem
open Go.RowKit
set_option linter.unusedVariables false

/-- The numbers of the first k writes that are one host's to one sector. -/
def qAt (l : List Wt) (k : Nat) (h s : Int) : List Nat := (List.range k).filter (fun i => decide ((l.getD i Wt.none).host = h ∧ (l.getD i Wt.none).sector = s))

theorem qAt_zero (l : List Wt) : qAt l 0 = fun _ _ => [] := by funext h s; rfl
theorem qAt_succ (l : List Wt) (k : Nat) : qAt l (k + 1) = upd (qAt l k) (l.getD k Wt.none).host (l.getD k Wt.none).sector (qAt l k (l.getD k Wt.none).host (l.getD k Wt.none).sector ++ [k]) := by
  funext h s
  unfold upd qAt
  rw [List.range_succ, List.filter_append]
  by_cases e : h = (l.getD k Wt.none).host ∧ s = (l.getD k Wt.none).sector
  · rw [if_pos e]
    obtain ⟨rfl, rfl⟩ := e
    simp
  · rw [if_neg e]
    have : decide ((l.getD k Wt.none).host = h ∧ (l.getD k Wt.none).sector = s) = false := decide_eq_false (fun q => e ⟨q.1.symm, q.2.symm⟩)
    simp only [List.filter_cons, this, List.filter_nil]
    simp
theorem qAt_len (l : List Wt) (k : Nat) (h s : Int) : (qAt l k h s).length ≤ k := by
  unfold qAt
  have := List.length_filter_le (fun i => decide ((l.getD i Wt.none).host = h ∧ (l.getD i Wt.none).sector = s)) (List.range k)
  simpa using this

theorem qCells_snoc (l : List Nat) (x : Nat) : qCells (l ++ [x]) = qCells l ++ [.int .i64 (x : Int)] := by simp [qCells]
theorem qCells_length (l : List Nat) : (qCells l).length = l.length := by simp [qCells]

/-- Three blocks laid one behind the other. -/
theorem three_any (w : World) (xs ys zs : List Value) (t u r : TypeId) :
    ∃ wc, ((w.alloc (.cells xs.toArray t)).alloc (.cells ys.toArray u)).alloc (.cells zs.toArray r) = wc ∧ wc.heap.size = w.heap.size + 1 + 1 + 1 ∧ Row wc (w.heap.size + 1 + 1) zs ∧ Below w.heap.size w wc := by
  have e0 : (w.alloc (.cells xs.toArray t)).heap.size = w.heap.size + 1 := by simp
  have e1 : ((w.alloc (.cells xs.toArray t)).alloc (.cells ys.toArray u)).heap.size = w.heap.size + 1 + 1 := by simp
  have r2 := Row.new ((w.alloc (.cells xs.toArray t)).alloc (.cells ys.toArray u)) zs r
  rw [e1] at r2
  exact ⟨_, rfl, by simp, r2, (((Below.refl _ _).alloc (Nat.le_refl _) _).alloc (by omega) _).alloc (by omega) _⟩

set_option maxRecDepth 100000 in
set_option maxHeartbeats 2000000 in
theorem queuesOf (w : World) (a : Option Addr) (cap : Nat) (l : List Wt) (S : Wts w a l) (hl : l.length ≤ 40) (hk : ∀ j, j < l.length → OkK (l.getD j Wt.none).host (l.getD j Wt.none).sector) :
    Calls Try.prog 46 #[.slice a l.length cap] w fun e w' => e = .returned (.map (some w.heap.size)) ∧ (∃ n D V, n ≤ 40 ∧ QM w' (w.heap.size + 1) w.heap.size n (qAt l l.length) D V) ∧ Below w.heap.size w w' := by
  have HS := hid S
  have HK := hid hk
  clear S hk
  have hmm := @run_makeMap Try.prog
  obtain ⟨wm, hwm⟩ : ∃ wm, w.alloc (.map #[] 0) = wm := ⟨_, rfl⟩
  have HM : Hid (QM wm (w.heap.size + 1) w.heap.size 0 (fun _ _ => []) (.map []) (fun _ _ => nilv)) := by rw [← hwm]; exact QM.made w
  have HB : Hid (Below w.heap.size w wm) := by rw [← hwm]; exact (Below.refl _ _).alloc (Nat.le_refl _) _
  have HZ : Hid (wm.heap.size = w.heap.size + 1) := by rw [← hwm]; exact (by simp : (w.alloc (.map #[] 0)).heap.size = w.heap.size + 1)
  go_enter Try.func46, Try.ntmps46
  go_wp2
  clear hwm hmm
  go_loopw [10] (fun i wr => ∃ k : Nat, k ≤ l.length ∧ i = .int .i64 (k : Int) ∧ Hid (∃ D V, QM wr (w.heap.size + 1) w.heap.size k (qAt l k) D V) ∧ Hid (Below w.heap.size w wr) ∧ Hid (w.heap.size + 1 ≤ wr.heap.size)) (fun i _ => l.length - (intOf i).toNat)
  case atStart => exact ⟨0, Nat.zero_le _, rfl, ⟨_, _, by rw [qAt_zero]; exact HM.out⟩, HB.out, by rw [HZ.out]; exact Nat.le_refl _⟩
  case round =>
    obtain ⟨k, hk, rfl, HQ, HBw, HZw⟩ := hrel
    by_cases hlt : k < l.length
    · obtain ⟨D, V, hq⟩ := HQ.out
      have hkk := HK.out k hlt
      have hsu := hid (qAt_succ l k)
      obtain ⟨b, off, rfl, x0, x1, x2, x3⟩ := Wts.at_ (HS.out.below HBw.out) k hlt
      generalize hx : l.getD k Wt.none = x at *
      obtain ⟨xh, xe, xs, xt⟩ := x
      simp only [] at x0 x1 x2 x3 hkk hsu
      obtain ⟨wc, hwc, ec, R2, Bc⟩ := three_any wr [.int .i64 xh, .int .i64 xe, .int .i64 xs, .string xt] [.int .i64 xh, .int .i64 xs] [.int .i64 (k : Int)] 44 71 3
      have hqc := hq.below Bc
      obtain ⟨st, w1, hen, k1, e1, hst⟩ := hqc.entry hkk (by unfold maxLen; omega)
      have hrow := hid ((hqc.row xh xs hkk).kept k1 (fun g hg e => by have := ((hqc.row xh xs hkk).lt hg).1; have := hqc.lt; omega))
      obtain ⟨pa, pc, pe, _⟩ := (hqc.row xh xs hkk).wr
      have hql := qAt_len l k xh xs
      have hlies := hid (show w.heap.size + 1 ≤ w1.heap.size from by rw [e1, ec]; have := HZw.out; omega)
      have R2' := R2.kept k1 (by have := HZw.out; omega)
      have HSl : Hid (Sl w1 (some ⟨wr.heap.size + 1 + 1, 0, none⟩) (1 * 1) (fun i => [Value.int .i64 (k : Int)].getD i undef)) := fun i hi => by
        have : i = 0 := by omega
        subst this
        exact ⟨_, _, rfl, R2'.c 0 rfl⟩
      have HST := hid hst
      have HB1 := hid ((HBw.out.trans (Bc.mono HBw.out.size)).trans (k1.below (by have := HBw.out.size; have := Bc.size; omega) (fun c hc e => by omega)))
      have HE1 := hid e1
      rw [show V xh xs = .slice pa (qAt l k xh xs).length pc from pe] at hen hrow HST
      have hPE := hid pe
      replace hen : (Instr.mapEntry 68 (.map (some w.heap.size)) (.agg #[.int .i64 xh, .int .i64 xs])).run Try.prog wc = .ok (.tuple #[.slice pa (qAt l k xh xs).length pc, .int .i64 (st : Int)]) w1 := hen
      have HQC := hid hqc
      have HBC := hid Bc
      have HEC := hid ec
      clear hq hqc hst Bc R2 R2' k1 pe e1 ec
      generalize hZ : qAt l k xh xs = Z at *
      have HZ1 := hid hZ
      clear hZ
      go_wp2_with (at_builtin; refine wpList_app 25 3 (.int .i64 0) 1 8 Try.underlying25 info3' rfl (by decide) (by decide) _ rfl (.tmp 22) (.tmp 24) rfl (w.heap.size + 1) _ Z.length (qCells Z) rfl hrow.out ⟨wr.heap.size + 1 + 1, 0, none⟩ 1 1 [.int .i64 (k : Int)] rfl rfl HSl.out (by intro u hu; simp at hu; subst hu; rfl) (by omega) hlies.out ?_; intro v' w2 r' kk hi; obtain ⟨y, c', e', _⟩ := r'.wr; subst e'; obtain ⟨w3, hr3, q3, k3⟩ := HST.out w2 (.slice y (Z.length + 1) c') (Z ++ [k]) (by simp) kk (by rw [List.length_append]; rw [qCells_snoc]; exact r') (by rcases hi with h | h | h; exact Or.inl h; exact Or.inr (Or.inl h); exact Or.inr (Or.inr ⟨_, h.1, Nat.le_of_eq HE1.out.symm⟩)); replace hr3 : (Instr.entryStore 68 (.map (some w.heap.size)) (.int .i64 (st : Int)) (.slice y (Z.length + 1) c')).run Try.prog w2 = .ok () w3 := hr3; have HQ3 := hid q3; have HK3 := hid k3; have HKK := hid kk; clear r' kk hi q3 k3)
      have s2 := HKK.out.size
      have s3 := HK3.out.size
      have s1 := hlies.out
      exact ⟨⟨k + 1, by omega, by go_num, ⟨_, _, by rw [hsu.out]; exact HQ3.out⟩, (HB1.out.trans (HKK.out.below HB1.out.size (fun g hg e => by have := (hrow.out.lt e).1; omega))).trans (HK3.out.below (Nat.le_trans HB1.out.size s2) (fun g hg e => by omega)), hid (by omega)⟩, by simp [intOf]; omega⟩
    obtain rfl : k = l.length := by omega
    go_wp2
    go_ret
    obtain ⟨D, V, hq⟩ := HQ.out
    exact ⟨rfl, ⟨_, _, _, hl, hq⟩, HBw.out⟩

end Go.Proofs.Ytnkipjlkhnmilaa.Mem

namespace Go.Proofs.Ytnkipjlkhnmilaa.Mem
open Go.RowKit
set_option linter.unusedVariables false

/-- What a host sees is the last of its writes, or what stands. -/
theorem see_q (D : Dk) (h s : Int) : ∀ k, D.see h s k = match (qAt D.pe k h s).getLast? with | some i => (D.pe.getD i Wt.none).text | none => D.sec.getD s.toNat ByteArray.empty
  | 0 => rfl
  | k + 1 => by
    have e := congrFun (congrFun (qAt_succ D.pe k) h) s
    have ih := see_q D h s k
    show (if (D.pe.getD k Wt.none).host = h ∧ (D.pe.getD k Wt.none).sector = s then (D.pe.getD k Wt.none).text else D.see h s k) = _
    by_cases c : (D.pe.getD k Wt.none).host = h ∧ (D.pe.getD k Wt.none).sector = s
    · rw [if_pos c, e, ← c.1, ← c.2, upd_same]
      simp
    · rw [if_neg c, e, upd_other _ _ (fun q => c ⟨q.1.symm, q.2.symm⟩)]
      exact ih

theorem qAt_mem {l : List Wt} {k : Nat} {h s : Int} {i : Nat} (hi : i ∈ qAt l k h s) : i < k ∧ (l.getD i Wt.none).host = h ∧ (l.getD i Wt.none).sector = s := by
  unfold qAt at hi
  obtain ⟨h1, h2⟩ := List.mem_filter.1 hi
  have := of_decide_eq_true h2
  exact ⟨by simpa using h1, this.1, this.2⟩

theorem Dk.Right.okK {D : Dk} (h : D.Right) : ∀ j, j < D.pe.length → OkK (D.pe.getD j Wt.none).host (D.pe.getD j Wt.none).sector := fun j hj => by
  have := h.p j hj
  have h2 := h.n2
  exact ⟨this.1, this.2.2.1, by have := this.2.2.2.1; omega⟩

/-- Cell i of a queue. -/
theorem q_cell {w : World} {B : Nat} {v : Value} {l : List Nat} {g n cap : Nat} (r : RowO w B 3 1 v l.length (qCells l)) (hv : v = .slice (some ⟨g, 0, none⟩) n cap) (i : Nat) (hi : i < l.length) : w.cell? ⟨g, i, none⟩ = some (.int .i64 ((l.getD i 0 : Nat) : Int)) := by
  obtain ⟨a, c, e, hw⟩ := r.wr
  rw [hv] at e
  cases e
  obtain ⟨b, off, e2, _, hc, _⟩ := hw i (by omega)
  cases e2
  rw [Nat.zero_add] at hc
  rw [hc]
  unfold qCells
  simp [List.getD, hi]

set_option maxRecDepth 100000 in
set_option maxHeartbeats 4000000 in
theorem implPeek : PeekDoes := by
  intro w v D x s h hd hs
  have HH := hid h
  have HD := hid hd
  obtain ⟨a1, c1, a2, c2, a3, c3, rfl, _, _, _⟩ := h
  clear hd hs
  have hp : D.peek x s = if D.right = true ∧ (0 ≤ x ∧ x < 3) ∧ 0 ≤ s ∧ s < (D.sec.length : Int) then (D.see x s D.pe.length, true) else (ByteArray.empty, false) := rfl
  generalize D.peek x s = P at *
  obtain ⟨P1, P2⟩ := P
  have HP := hid hp
  clear hp
  simp only []
  obtain ⟨wb, hwb, ez, A0, B0⟩ := one_new w [.slice a1 D.sec.length c1, .slice a2 D.ep.length c2, .slice a3 D.pe.length c3] 28
  have k0 := A0.c 0 rfl
  have k1 := A0.c 1 rfl
  have k2 := A0.c 2 rfl
  go_enter Try.func14, Try.ntmps14
  go_wp2_with fail
  refine (implDiskOk wb _ D (HH.out.below B0) HD.out).mono ?_
  rintro e w1 ⟨rfl, b1⟩
  have HA := hid (A0.below b1 A0.lt)
  have HB := hid (B0.trans (b1.mono B0.size))
  clear A0 B0 b1 hwb ez k0 k1 k2
  have k0 := HA.out.c 0 rfl
  have k1 := HA.out.c 1 rfl
  have k2 := HA.out.c 2 rfl
  by_cases hr : ¬ D.right = true
  · have HP1 := hid (HP.out.trans (if_neg (fun q => hr q.1)))
    have hr' : D.right = false := by simpa using hr
    clear hr
    go_wp2
    go_ret2
    cases HP1.out
    exact ⟨rfl, HB.out⟩
  replace hr := Classical.not_not.mp hr
  have HT := hid (Dk.of_right hr)
  go_wp2_with fail
  refine (isHost x w1).mono ?_
  rintro e w1' ⟨rfl, hw⟩
  subst hw
  by_cases g1 : ¬ (0 ≤ x ∧ x < 3)
  · have g1' := decide_eq_false g1
    have HP1 := hid (HP.out.trans (if_neg (fun q => g1 q.2.1)))
    clear g1
    go_wp2
    go_ret2
    cases HP1.out
    exact ⟨rfl, HB.out⟩
  replace g1 := Classical.not_not.mp g1
  have g1' := decide_eq_true g1
  have HG1 := hid g1
  clear g1
  go_wp2_with fail
  refine (isSector w1' _ _ _ a1 D.sec.length c1 rfl s).mono ?_
  rintro e w2 ⟨rfl, b2⟩
  have HA2 := hid (HA.out.below b2 HA.out.lt)
  have HB2 := hid (HB.out.trans (b2.mono HB.out.size))
  clear HA HB b2 k0 k1 k2
  have k0 := HA2.out.c 0 rfl
  have k1 := HA2.out.c 1 rfl
  have k2 := HA2.out.c 2 rfl
  by_cases g2 : ¬ (0 ≤ s ∧ s < (D.sec.length : Int))
  · have g2' := decide_eq_false g2
    have HP1 := hid (HP.out.trans (if_neg (fun q => g2 q.2.2)))
    clear g2
    go_wp2
    go_ret2
    cases HP1.out
    exact ⟨rfl, HB2.out⟩
  replace g2 := Classical.not_not.mp g2
  have g2' := decide_eq_true g2
  have HG2 := hid g2
  have HP1 := hid (HP.out.trans (if_pos ⟨hr, HG1.out, g2⟩))
  have hok : OkK x s := ⟨HG1.out, g2.1, by have := g2.2; have := HT.out.n2; omega⟩
  have HK := hid hok
  clear hok g1' hr
  obtain ⟨_, _, _, _, _, _, ev, sx1, _, sx3⟩ := HH.out.below HB2.out
  cases ev
  have HS1 := hid sx1
  have HS3 := hid sx3
  clear sx1 sx3
  go_wp2_with fail
  refine (queuesOf w2 a3 c3 D.pe HS3.out HT.out.p40 HT.out.okK).mono ?_
  rintro e w3 ⟨rfl, ⟨n, M, V, hn, q⟩, b3⟩
  have HB3 := hid (HB2.out.trans (b3.mono HB2.out.size))
  have HA3 := hid (HA2.out.below b3 HA2.out.lt)
  clear k0 k1 k2
  have k0 := HA3.out.c 0 rfl
  have k1 := HA3.out.c 1 rfl
  have k2 := HA3.out.c 2 rfl
  have hlk := q.look_ok HK.out
  have hrow := hid (q.row x s HK.out)
  have hsee := hid (see_q D x s D.pe.length)
  have HL := hid (qAt_len D.pe D.pe.length x s)
  have HM := hid (fun i => qAt_mem (l := D.pe) (k := D.pe.length) (h := x) (s := s) (i := i))
  replace hlk : (Instr.lookup 68 (.map (some w2.heap.size)) (.agg #[.int .i64 x, .int .i64 s]) true).run Try.prog w3 = .ok (.tuple #[V x s, .bool (decide (qAt D.pe D.pe.length x s ≠ []))]) w3 := hlk
  have b3' := hid b3
  clear q b3
  generalize qAt D.pe D.pe.length x s = Z at *
  by_cases hZ : Z = []
  · subst hZ
    have hsee' := hid (show D.see x s D.pe.length = D.sec.getD s.toNat ByteArray.empty from hsee.out)
    obtain ⟨sn, rfl⟩ : ∃ n : Nat, s = (n : Int) := Int.eq_ofNat_of_zero_le HG2.out.1
    have hsl : (sn : Int) < (D.sec.length : Int) := HG2.out.2
    have hs0 : (0 : Int) ≤ (sn : Int) := Int.natCast_nonneg sn
    obtain ⟨bb, oo, rfl, hc⟩ := (HS1.out.below b3'.out) sn (by omega)
    replace hc : w3.cell? ⟨bb, oo + sn, none⟩ = some (.string (D.sec.getD sn ByteArray.empty)) := hc
    generalize hy : D.sec.getD sn ByteArray.empty = y at hc
    have HY := hid hy
    clear hy
    have hlk2 : (Instr.lookup 68 (.map (some w2.heap.size)) (.agg #[.int .i64 x, .int .i64 (sn : Int)]) true).run Try.prog w3 = .ok (.tuple #[V x sn, .bool false]) w3 := by rw [hlk]; rfl
    clear hlk
    go_wp2
    go_ret2
    have e := HP1.out
    rw [hsee'.out, Int.toNat_natCast, HY.out] at e
    cases e
    exact ⟨rfl, HB3.out⟩
  · obtain ⟨Z', i, rfl⟩ : ∃ Z' i, Z = Z' ++ [i] := ⟨Z.dropLast, Z.getLast hZ, (List.dropLast_concat_getLast hZ).symm⟩
    have hsee' := hid (show D.see x s D.pe.length = (D.pe.getD i Wt.none).text from by rw [hsee.out]; simp)
    have hi := (HM.out i (by simp)).1
    obtain ⟨g, c, hv⟩ := hrow.out.form (by simp)
    have hc0 := q_cell hrow.out hv Z'.length (by simp)
    rw [show (Z' ++ [i]).getD Z'.length 0 = i from by simp] at hc0
    have hZl : Z'.length + 1 ≤ 40 := by
      have h1 := HL.out
      have h2 := HT.out.p40
      simp at h1
      omega
    obtain ⟨b, off, rfl, _, _, _, x3⟩ := Wts.at_ (HS3.out.below b3'.out) i hi
    generalize hy : (D.pe.getD i Wt.none).text = y at x3 hsee'
    have hi1 : (i : Int) < (D.pe.length : Int) := by omega
    have hi0 : (0 : Int) ≤ (i : Int) := Int.natCast_nonneg i
    have hd3 : (D.pe.length : Int) ≤ 40 := by have := HT.out.p40; omega
    have hlk2 : (Instr.lookup 68 (.map (some w2.heap.size)) (.agg #[.int .i64 x, .int .i64 s]) true).run Try.prog w3 = .ok (.tuple #[.slice (some ⟨g, 0, none⟩) (Z'.length + 1) (c + 1), .bool true]) w3 := by
      rw [hlk, hv]
      simp
    have HV := hid hv
    clear hlk hv hZ hy hi
    generalize Z'.length = m at *
    go_wp2
    go_quiet (fail)
    go_wp2
    go_ret2
    have e := HP1.out
    rw [hsee'.out] at e
    cases e
    exact ⟨rfl, below_drewN HB3.out _⟩

end Go.Proofs.Ytnkipjlkhnmilaa.Mem

namespace Go.Proofs
open Go.Shelf
def Try.lays189_ren : Go.Shelf.Ren := ⟨fun | 189 => 57 | 125 => 62 | 257 => 61 | 128 => 73 | 129 => 74 | 294 => 64 | 295 => 65 | 296 => 66 | 297 => 67 | 298 => 68 | 299 => 69 | 216 => 70 | 300 => 71 | 301 => 72 | 328 => 75 | 329 => 76 | 330 => 77 | 331 => 78 | 332 => 79 | 215 => 80 | 343 => 81 | n => n, fun | 28 => 25 | 3 => 3 | 46 => 82 | 0 => 0 | 51 => 95 | 53 => 97 | 4 => 4 | 183 => 88 | 182 => 87 | 131 => 92 | 5 => 5 | 9 => 9 | 218 => 98 | 222 => 102 | 228 => 104 | 229 => 105 | n => n, fun | n => n⟩
theorem Try.lays189 : Go.Proofs.Lays.n189 Try.prog Try.lays189_ren := {
  mixed := by kernel_rfl
  f125 := Try.func62.trans (congrArg some (by kernel_rfl))
  f128 := Try.func73.trans (congrArg some (by kernel_rfl))
  f129 := Try.func74.trans (congrArg some (by kernel_rfl))
  f189 := Try.func57.trans (congrArg some (by kernel_rfl))
  f215 := Try.func80.trans (congrArg some (by kernel_rfl))
  f216 := Try.func70.trans (congrArg some (by kernel_rfl))
  f257 := Try.func61.trans (congrArg some (by kernel_rfl))
  f294 := Try.func64.trans (congrArg some (by kernel_rfl))
  f295 := Try.func65.trans (congrArg some (by kernel_rfl))
  f296 := Try.func66.trans (congrArg some (by kernel_rfl))
  f297 := Try.func67.trans (congrArg some (by kernel_rfl))
  f298 := Try.func68.trans (congrArg some (by kernel_rfl))
  f299 := Try.func69.trans (congrArg some (by kernel_rfl))
  f300 := Try.func71.trans (congrArg some (by kernel_rfl))
  f301 := Try.func72.trans (congrArg some (by kernel_rfl))
  f328 := Try.func75.trans (congrArg some (by kernel_rfl))
  f329 := Try.func76.trans (congrArg some (by kernel_rfl))
  f330 := Try.func77.trans (congrArg some (by kernel_rfl))
  f331 := Try.func78.trans (congrArg some (by kernel_rfl))
  f332 := Try.func79.trans (congrArg some (by kernel_rfl))
  f343 := Try.func81.trans (congrArg some (by kernel_rfl))
  t0 := Try.underlying0
  a0 := Try.isAgg0
  z0 := Try.sizeOf0
  v0 := Try.zeroValue0
  t3 := Try.underlying3
  a3 := Try.isAgg3
  z3 := Try.sizeOf3
  v3 := Try.zeroValue3
  t4 := Try.underlying4
  a4 := Try.isAgg4
  z4 := Try.sizeOf4
  v4 := Try.zeroValue4
  t5 := Try.underlying5
  a5 := Try.isAgg5
  z5 := Try.sizeOf5
  v5 := Try.zeroValue5
  t9 := Try.underlying9
  a9 := Try.isAgg9
  z9 := Try.sizeOf9
  v9 := Try.zeroValue9
  t28 := Try.underlying25
  a28 := Try.isAgg25
  z28 := Try.sizeOf25
  v28 := Try.zeroValue25
  t46 := Try.underlying82
  a46 := Try.isAgg82
  z46 := Try.sizeOf82
  v46 := Try.zeroValue82
  t51 := Try.underlying95
  a51 := Try.isAgg95
  z51 := Try.sizeOf95
  v51 := Try.zeroValue95
  t53 := Try.underlying97
  a53 := Try.isAgg97
  z53 := Try.sizeOf97
  v53 := Try.zeroValue97
  t131 := Try.underlying92
  a131 := Try.isAgg92
  z131 := Try.sizeOf92
  v131 := Try.zeroValue92
  t182 := Try.underlying87
  a182 := Try.isAgg87
  z182 := Try.sizeOf87
  v182 := Try.zeroValue87
  t183 := Try.underlying88
  a183 := Try.isAgg88
  z183 := Try.sizeOf88
  v183 := Try.zeroValue88
  t218 := Try.underlying98
  a218 := Try.isAgg98
  z218 := Try.sizeOf98
  v218 := Try.zeroValue98
  t222 := Try.underlying102
  a222 := Try.isAgg102
  z222 := Try.sizeOf102
  v222 := Try.zeroValue102
  t228 := Try.underlying104
  a228 := Try.isAgg104
  z228 := Try.sizeOf104
  v228 := Try.zeroValue104
  t229 := Try.underlying105
  a229 := Try.isAgg105
  z229 := Try.sizeOf105
  v229 := Try.zeroValue105 }
def Try.lays223_ren : Go.Shelf.Ren := ⟨fun | 23 => 56 | n => n, fun | 22 => 25 | 3 => 3 | 4 => 4 | 0 => 0 | n => n, fun | n => n⟩
theorem Try.lays223 : Go.Proofs.Lays2.n23 Try.prog Try.lays223_ren := {
  mixed := by kernel_rfl
  f23 := Try.func56.trans (congrArg some (by kernel_rfl))
  t0 := Try.underlying0
  a0 := Try.isAgg0
  z0 := Try.sizeOf0
  v0 := Try.zeroValue0
  t3 := Try.underlying3
  a3 := Try.isAgg3
  z3 := Try.sizeOf3
  v3 := Try.zeroValue3
  t4 := Try.underlying4
  a4 := Try.isAgg4
  z4 := Try.sizeOf4
  v4 := Try.zeroValue4
  t22 := Try.underlying25
  a22 := Try.isAgg25
  z22 := Try.sizeOf25
  v22 := Try.zeroValue25
  i3 := by kernel_rfl }
end Go.Proofs

namespace Go.Proofs.Ytnkipjlkhnmilaa.Mem
open Go.RowKit Go.Sort
set_option linter.unusedVariables false

def zOf (l : List Nat) : List Int := l.map (fun (i : Nat) => (i : Int))
theorem zOf_length (l : List Nat) : (zOf l).length = l.length := by simp [zOf]
theorem qCells_zOf (l : List Nat) : qCells l = (zOf l).map (Value.int .i64) := by simp [qCells, zOf]

theorem QM.more {w : World} {B b n : Nat} {Q : Int → Int → List Nat} {D : DataW Value} {V : Int → Int → Value} (q : QM w B b n Q D V) : QM w B b (n + 1) Q D V := ⟨q.own.mono (Nat.le_succ _), q.lt, q.has, q.at_, q.row, q.apart, q.only⟩

/-- The block of a row that is not empty. -/
theorem RowO.block {w : World} {B : Nat} {e : TypeId} {g n c : Nat} {xs : List Value} (h : RowO w B e 1 (.slice (some ⟨g, 0, none⟩) n (c + 1)) n xs) :
    ∃ cur, w.heap[g]? = some (.cells cur e (0, 0)) ∧ B ≤ g ∧ n ≤ c + 1 ∧ c + 1 ≤ maxLen ∧ cur.size = (c + 1) * 1 ∧ cur.toList.take n = xs := by
  rcases h with ⟨_, e, _⟩ | ⟨h, _⟩
  · cases e
  · rcases h.2 with ⟨e, _⟩ | ⟨g', cap', cur, e, hB, hb, h1, h2, h3, h4⟩
    · cases e
    · cases e
      exact ⟨cur, hb, hB, h1, h2, h3, by simpa using h4⟩

theorem grow_nil (w : World) : grow w #[] = w := by cases w; simp [grow]

theorem kept_putRow (w : World) (g q : Nat) (d : Array Int) : Kept (fun b => b = g) w (putRow (Value.int .i64) (Sort.ahead w q) g 0 d) := by
  have h := grownBy_sortedI (w := w) (g := g) (n := q) (os := #[]) d
  have e : grow (putRow (Value.int .i64) (Sort.ahead w q) g 0 d) #[] = putRow (Value.int .i64) (Sort.ahead w q) g 0 d := grow_nil _
  rw [e] at h
  exact ⟨h.os, h.tape, h.output, h.size, fun k hk hn => h.block k hk (fun x => hn (by cases x; rfl))⟩

theorem zOf_erase (l : List Nat) (i : Nat) : (zOf l).take i ++ (zOf l).drop (i + 1) = zOf (l.eraseIdx i) := by
  rw [List.eraseIdx_eq_take_drop_succ]
  unfold zOf
  simp

/-- Behind a deletion. -/
theorem row_deleted {w : World} {B g c i q : Nat} {l : List Nat} (r : RowO w B 3 1 (.slice (some ⟨g, 0, none⟩) l.length (c + 1)) l.length (qCells l)) (hi : i < l.length) :
    RowO (putRow (Value.int .i64) (Sort.ahead w q) g 0 ((zOf l).take i ++ (zOf l).drop (i + 1) ++ List.replicate (i + 1 - i) 0).toArray) B 3 1 (.slice (some ⟨g, 0, none⟩) (l.length - 1) (c + 1)) (l.eraseIdx i).length (qCells (l.eraseIdx i)) := by
  obtain ⟨cur, hb, hB, h1, h2, h3, h4⟩ := r.block
  have hle : (l.eraseIdx i).length = l.length - 1 := List.length_eraseIdx_of_lt hi
  rw [zOf_erase]
  have hh := heap_sortedI (w := w) (g := g) (n := q) (os := #[]) (zOf (l.eraseIdx i) ++ List.replicate (i + 1 - i) 0).toArray hb
  have e : grow (putRow (Value.int .i64) (Sort.ahead w q) g 0 (zOf (l.eraseIdx i) ++ List.replicate (i + 1 - i) 0).toArray) #[] = putRow (Value.int .i64) (Sort.ahead w q) g 0 (zOf (l.eraseIdx i) ++ List.replicate (i + 1 - i) 0).toArray := grow_nil _
  rw [e] at hh
  have hlen : (zOf (l.eraseIdx i) ++ List.replicate (i + 1 - i) (0 : Int)).length = l.length := by
    rw [List.length_append, zOf_length, List.length_replicate, hle]
    omega
  have ht := take_putCellsI cur (zOf (l.eraseIdx i) ++ List.replicate (i + 1 - i) 0) (by rw [hlen, h3]; omega)
  refine Or.inr ⟨⟨by simp [qCells], Or.inr ⟨g, c + 1, _, by rw [hle], hB, hh, by omega, h2, by simp [putCells, h3], ?_⟩⟩, _, c, by rw [hle]⟩
  rw [hlen] at ht
  have : (putCells (Value.int .i64) 0 (zOf (l.eraseIdx i) ++ List.replicate (i + 1 - i) 0).toArray cur).toList.take (l.eraseIdx i).length = (((zOf (l.eraseIdx i) ++ List.replicate (i + 1 - i) 0).map (Value.int .i64))).take (l.eraseIdx i).length := by
    rw [← ht, List.take_take]
    congr 1
    omega
  rw [Nat.mul_one, this, List.map_append, qCells_zOf, List.take_append_of_le_length (by rw [List.length_map, zOf_length]; exact Nat.le_refl _), List.take_of_length_le (by rw [List.length_map, zOf_length]; exact Nat.le_refl _)]

theorem holds_row {w : World} {B g c : Nat} {l : List Nat} (r : RowO w B 3 1 (.slice (some ⟨g, 0, none⟩) l.length (c + 1)) l.length (qCells l)) : Holds (Value.int .i64) w g 0 (zOf l).toArray := by
  obtain ⟨cur, hb, hB, h1, h2, h3, h4⟩ := r.block
  exact holds_of_blockI hb (by rw [zOf_length, h4, qCells_zOf])

set_option maxRecDepth 100000 in
set_option maxHeartbeats 2000000 in
theorem take (w : World) (B b n : Nat) (Q : Int → Int → List Nat) (D : DataW Value) (V : Int → Int → Value) (q : QM w B b n Q D V) (h s : Int) (hk : OkK h s) (i : Nat) (hi : i < (Q h s).length) (hn : n < 1048576) (hi40 : i < 1048576) :
    Calls Try.prog 47 #[.map (some b), .agg #[.int .i64 h, .int .i64 s], .int .i64 (i : Int)] w fun e w' => e = .returned (.tuple #[]) ∧ (∃ D' V', QM w' B b (n + 1) (upd Q h s ((Q h s).eraseIdx i)) D' V') ∧ Kept (fun g => g = b ∨ B ≤ g) w w' := by
  obtain ⟨wb, hwb, ez, A0, B0⟩ := one_new w [.int .i64 h, .int .i64 s] 71
  have qb := q.below B0
  have hlk : (Instr.lookup 68 (.map (some b)) (.agg #[.int .i64 h, .int .i64 s]) false).run Try.prog wb = .ok (V h s) wb := qb.look hk
  have hrow := qb.row h s hk
  obtain ⟨g, c, hv⟩ := hrow.form (by omega)
  have HV := hid hv
  have hgl : g < w.heap.size := ((q.row h s hk).lt (b := g) (by rw [hv]; rfl)).2
  rw [hv] at hlk hrow
  have HQ := hid qb
  have HR := hid hrow
  have HA := hid A0
  have HB0 := hid B0
  have hcap := hid hrow.cap
  have k0 := A0.c 0 rfl
  have k1 := A0.c 1 rfl
  have Hlt := hid (show (zOf (Q h s)).length = (Q h s).length from zOf_length _)
  have hq40 : (Q h s).length ≤ 9223372036854775807 := by have := hcap.out.1; have := hcap.out.2; unfold maxLen at this; omega
  clear q qb hv hrow A0 B0 ez
  generalize hZ : Q h s = Z at *
  have HZ := hid hZ
  clear hZ
  go_enter Try.func47, Try.ntmps47
  go_wp2_with fail
  have hc := Any.slices_Delete_int Try.lays223 g 0 (c + 1) i (i + 1) (zOf Z) wb (holds_row HR.out) (by rw [zOf_length]; exact hcap.out.1) (by have := hcap.out.2; unfold maxLen at this; exact this) (by omega) (by rw [zOf_length]; omega)
  rw [zOf_length, show (i + 1 - i) = 1 from by omega] at hc
  obtain ⟨m, hm⟩ : ∃ m, Z.length - 1 = m := ⟨_, rfl⟩
  rw [hm] at hc
  refine hc.mono ?_
  rintro e w2 ⟨rfl, p, hw2⟩
  have r2 := row_deleted (q := p) HR.out hi
  rw [show (i + 1 - i) = 1 from by omega, ← hw2, hm] at r2
  have k2 : Kept (fun y => y = g) wb w2 := by rw [hw2]; exact kept_putRow wb g p _
  have hlE : (Z.eraseIdx i).length = m := by rw [List.length_eraseIdx_of_lt hi]; exact hm
  have kv : Kept (fun y => rb (V h s) = some y) wb w2 := k2.mono (fun y _ e => by rw [HV.out, e]; rfl)
  have R2 := HA.out.kept k2 (by omega)
  have hgB := (HR.out.lt (b := g) rfl).1
  have HK2 := hid ((Kept.of_below (S := fun _ => False) HB0.out).trans k2)
  clear hc hw2 k0 k1 hlk hwb
  have k0 := R2.c 0 rfl
  have k1 := R2.c 1 rfl
  have HKV := hid kv
  have HR2 := hid r2
  clear kv k2 r2 R2
  by_cases hm0 : m = 0
  · subst hm0
    have hnil : Z.eraseIdx i = [] := List.eq_nil_of_length_eq_zero hlE
    obtain ⟨w3, hr3, q3, k3⟩ := HQ.out.drop hk HKV.out 0
    have hd : ∀ ty, (Builtin.delete_ #[68, 71] ty #[.map (some b), .agg #[.int .i64 h, .int .i64 s]]).run Try.prog w2 = .ok (.tuple #[]) w3 := fun ty => hr3
    have HQ3 := hid q3
    have HK3 := hid k3
    clear q3 k3 hr3
    go_wp2
    refine bodyPost_ret (results_none rfl _ _ _) rfl ?_
    rw [hnil]
    exact ⟨rfl, ⟨_, _, HQ3.out.more⟩, (HK2.out.trans HK3.out).mono (fun y _ e => by rcases e with (e | e) | e; exact e.elim; exact Or.inr (by omega); exact Or.inl e)⟩
  · have hne : Z.eraseIdx i ≠ [] := fun e => hm0 (by rw [← hlE, e]; rfl)
    obtain ⟨w3, hr3, q3, k3⟩ := HQ.out.store hk (by unfold maxLen; omega) HKV.out (.slice (some ⟨g, 0, none⟩) m (c + 1)) (Z.eraseIdx i) hne HR2.out (Or.inr (Or.inl (by rw [HV.out]; rfl)))
    replace hr3 : (Instr.mapUpdate 68 (.map (some b)) (.agg #[.int .i64 h, .int .i64 s]) (.slice (some ⟨g, 0, none⟩) m (c + 1))).run Try.prog w2 = .ok () w3 := hr3
    have HQ3 := hid q3
    have HK3 := hid k3
    clear q3 k3
    go_wp2
    go_end0
    exact ⟨rfl, ⟨_, _, HQ3.out⟩, (HK2.out.trans HK3.out).mono (fun y _ e => by rcases e with (e | e) | e; exact e.elim; exact Or.inr (by omega); exact Or.inl e)⟩

end Go.Proofs.Ytnkipjlkhnmilaa.Mem

namespace Go.Proofs.Ytnkipjlkhnmilaa.Mem
open Go.RowKit Go.Maps
set_option linter.unusedVariables false

/-- Each number in a queue is that of a write of that host to that sector; no number stands twice. -/
structure QOk (l : List Wt) (Q : Int → Int → List Nat) : Prop where
  mem : ∀ h s, OkK h s → ∀ i, i ∈ Q h s → i < l.length ∧ (l.getD i Wt.none).host = h ∧ (l.getD i Wt.none).sector = s
  nodup : ∀ h s, OkK h s → (Q h s).Nodup

theorem nodup_filter {α : Type} {l : List α} {p : α → Bool} (h : l.Nodup) : (l.filter p).Nodup := List.Pairwise.filter _ h

theorem qOk_at (l : List Wt) : QOk l (qAt l l.length) := ⟨fun h s _ i hi => qAt_mem hi, fun h s _ => nodup_filter List.nodup_range⟩

theorem QOk.erase {l : List Wt} {Q : Int → Int → List Nat} (q : QOk l Q) (h s : Int) (zs : List Nat) (hz : ∀ x ∈ zs, x ∈ Q h s) (hn : OkK h s → zs.Nodup) : QOk l (upd Q h s zs) := by
  refine ⟨fun h' s' hk i hi => ?_, fun h' s' hk => ?_⟩
  · by_cases e : h' = h ∧ s' = s
    · obtain ⟨rfl, rfl⟩ := e
      rw [upd_same] at hi
      exact q.mem h' s' hk i (hz i hi)
    · rw [upd_other _ _ e] at hi
      exact q.mem h' s' hk i hi
  · by_cases e : h' = h ∧ s' = s
    · obtain ⟨rfl, rfl⟩ := e
      rw [upd_same]
      exact hn hk
    · rw [upd_other _ _ e]
      exact q.nodup h' s' hk

/-- What was collected while 'left' tells the keys still to come. -/
structure Col (Q : Int → Int → List Nat) (left : Lit → Bool) (L : List Nat) : Prop where
  nodup : L.Nodup
  mem : ∀ x, x ∈ L ↔ ∃ h s, OkK h s ∧ left (klq h s) = false ∧ x ∈ Q h s

theorem Col.start {Q : Int → Int → List Nat} {D : DataW Value} (h : ∀ h s, OkK h s → (Maps.has D (klq h s) = true ↔ Q h s ≠ [])) : Col Q (Maps.has D) [] :=
  ⟨List.nodup_nil, fun x => ⟨fun hx => absurd hx (by simp), fun ⟨h', s', hk, hl, hx⟩ => by
    have := (h h' s' hk).2 (fun e => by rw [e] at hx; simp at hx)
    rw [this] at hl
    cases hl⟩⟩

theorem Col.step {l : List Wt} {Q : Int → Int → List Nat} {left : Lit → Bool} {L : List Nat} (c : Col Q left L) (q : QOk l Q) {h s : Int} (hk : OkK h s) (hl : left (klq h s) = true) : Col Q (fun z => left z && !z.sameKey (klq h s)) (L ++ Q h s) := by
  have kl := keyedQ.key (key_of hk)
  refine ⟨List.nodup_append.2 ⟨c.nodup, q.nodup h s hk, fun a ha b hb e => ?_⟩, fun x => ?_⟩
  · subst e
    obtain ⟨h', s', hk', hl', hx⟩ := (c.mem a).1 ha
    have m1 := q.mem h s hk a hb
    have m2 := q.mem h' s' hk' a hx
    have e1 : h' = h := m2.2.1.symm.trans m1.2.1
    have e2 : s' = s := m2.2.2.symm.trans m1.2.2
    subst e1; subst e2
    rw [hl] at hl'
    cases hl'
  · rw [List.mem_append]
    constructor
    · rintro (hx | hx)
      · obtain ⟨h', s', hk', hl', hx⟩ := (c.mem x).1 hx
        exact ⟨h', s', hk', by simp [hl'], hx⟩
      · exact ⟨h, s, hk, by simp [WideAt.sameKey_self kl], hx⟩
    · rintro ⟨h', s', hk', hl', hx⟩
      by_cases e : h' = h ∧ s' = s
      · obtain ⟨rfl, rfl⟩ := e
        exact Or.inr hx
      · refine Or.inl ((c.mem x).2 ⟨h', s', hk', ?_, hx⟩)
        have : (klq h' s').sameKey (klq h s) = false := sameKey_ne (fun e' => e (klq_inj hk' hk e'))
        simpa [this] using hl'

/-- The numbers that are still in a queue, in their order. -/
def keptQ (l : List Wt) (Q : Int → Int → List Nat) : List Nat := (List.range l.length).filter (fun i => decide (i ∈ Q (l.getD i Wt.none).host (l.getD i Wt.none).sector))
/-- .. and their writes. -/
def leftW (l : List Wt) (Q : Int → Int → List Nat) : List Wt := (keptQ l Q).map (fun i => l.getD i Wt.none)

theorem Col.perm {l : List Wt} {Q : Int → Int → List Nat} {left : Lit → Bool} {L : List Nat} (c : Col Q left L) (q : QOk l Q) (ok : ∀ j, j < l.length → OkK (l.getD j Wt.none).host (l.getD j Wt.none).sector) (hl : ∀ kl, left kl = false) : L.Perm (keptQ l Q) := by
  refine (List.perm_ext_iff_of_nodup c.nodup (nodup_filter List.nodup_range)).2 (fun x => ?_)
  rw [c.mem, List.mem_filter]
  constructor
  · rintro ⟨h, s, hk, _, hx⟩
    have m := q.mem h s hk x hx
    exact ⟨by simpa using m.1, decide_eq_true (by rw [m.2.1, m.2.2]; exact hx)⟩
  · rintro ⟨h1, h2⟩
    exact ⟨_, _, ok x (by simpa using h1), hl _, of_decide_eq_true h2⟩

theorem Col.lt {l : List Wt} {Q : Int → Int → List Nat} {left : Lit → Bool} {L : List Nat} (c : Col Q left L) (q : QOk l Q) : ∀ x ∈ L, x < l.length := fun x hx => by
  obtain ⟨h, s, hk, _, hx⟩ := (c.mem x).1 hx
  exact (q.mem h s hk x hx).1

theorem nodup_le {n : Nat} {L : List Nat} (h : L.Nodup) (hx : ∀ x ∈ L, x < n) : L.length ≤ n := by
  have hp : L.Perm ((List.range n).filter (fun i => decide (i ∈ L))) := (List.perm_ext_iff_of_nodup h (nodup_filter List.nodup_range)).2 (fun x => by
    rw [List.mem_filter]
    exact ⟨fun h => ⟨by simpa using hx x h, decide_eq_true h⟩, fun h => of_decide_eq_true h.2⟩)
  rw [hp.length_eq]
  have := List.length_filter_le (fun i => decide (i ∈ L)) (List.range n)
  simpa using this

/-- Sorted, it is the numbers in their order. -/
theorem sorted_kept {l : List Wt} {Q : Int → Int → List Nat} {L : List Nat} (h : L.Perm (keptQ l Q)) : (zOf L).mergeSort (fun x y => decide (x ≤ y)) = zOf (keptQ l Q) := by
  have tr : ∀ a b c : Int, decide (a ≤ b) = true → decide (b ≤ c) = true → decide (a ≤ c) = true := fun a b c h1 h2 => by simp only [decide_eq_true_eq] at *; omega
  have to : ∀ a b : Int, (decide (a ≤ b) || decide (b ≤ a)) = true := fun a b => by simp only [Bool.or_eq_true, decide_eq_true_eq]; omega
  refine List.Perm.eq_of_pairwise (le := fun a b => decide (a ≤ b) = true) (fun a b _ _ h1 h2 => by simp only [decide_eq_true_eq] at h1 h2; omega) (List.pairwise_mergeSort tr to _) ?_ ((List.mergeSort_perm _ _).trans (h.map _))
  unfold zOf keptQ
  refine List.Pairwise.map (R := fun x y => x < y) _ (fun a b hab => by simp only [decide_eq_true_eq]; omega) (List.Pairwise.filter _ List.pairwise_lt_range)

end Go.Proofs.Ytnkipjlkhnmilaa.Mem

namespace Go.Proofs.Ytnkipjlkhnmilaa.Mem
open Go.RowKit Go.Maps Go.Sort
set_option linter.unusedVariables false

theorem kept_grown {r : Option Nat} {w w' : World} (k : Kept (fun b => r = some b) w w') : w.grownBy w' r := ⟨k.os, k.tape, k.output, k.size, fun i hi hne => k.block i hi (fun e => hne e.symm)⟩
theorem grown_kept {r : Option Nat} {w w' : World} (k : w.grownBy w' r) : Kept (fun b => r = some b) w w' := ⟨k.os, k.tape, k.output, k.size, fun i hi hne => k.block i hi (fun e => hne e.symm)⟩

/-- slices.Sort on a row of the call's own. -/
theorem sortRow (w : World) (B : Nat) (v : Value) (L S : List Nat) (r : RowO w B 3 1 v L.length (qCells L)) (hl : L.length ≤ 1048576) (hS : (zOf L).mergeSort (fun x y => decide (x ≤ y)) = zOf S) :
    Calls Try.prog 57 #[v] w fun e w' => e = .returned (.tuple #[]) ∧ RowO w' B 3 1 v L.length (qCells S) ∧ Kept (fun b => rb v = some b) w w' := by
  have hlen : S.length = L.length := by
    have := congrArg List.length hS
    rw [List.length_mergeSort, zOf_length, zOf_length] at this
    exact this.symm
  rcases Nat.eq_zero_or_pos L.length with h0 | h0
  · obtain ⟨a, c, e, _⟩ := r.wr
    have hLn : L = [] := List.eq_nil_of_length_eq_zero h0
    have hSn : S = [] := List.eq_nil_of_length_eq_zero (hlen.trans h0)
    subst hLn; subst hSn
    rw [e] at r ⊢
    refine (Any.slices_Sort_int_none Try.lays189 a c w).mono ?_
    rintro e w' ⟨rfl, rfl⟩
    exact ⟨rfl, r, Kept.refl _ _⟩
  · obtain ⟨g, c, e⟩ := r.form h0
    subst e
    obtain ⟨cur, hb, hB, h1, h2, h3, h4⟩ := r.block
    have hc := Any.slices_Sort_int Try.lays189 g 0 (c + 1) (zOf L) w (holds_row r) (r.lt (b := g) rfl).2 (by rw [zOf_length]; omega)
    rw [zOf_length] at hc
    refine hc.mono ?_
    rintro e w' ⟨rfl, n, os, hw'⟩
    rw [hS] at hw'
    have ho := ownsRow_sortedI (n := n) (os := os) (ss := zOf L) (ts := zOf S) (by rw [zOf_length, zOf_length, hlen]) hB hb (by rw [zOf_length]; exact h1) h2 h3
    have hg := grownBy_sortedI (w := w) (g := g) (n := n) (os := os) (zOf S).toArray
    rw [← hw'] at ho hg
    rw [zOf_length, ← qCells_zOf] at ho
    exact ⟨rfl, Or.inr ⟨ho, _, c, rfl⟩, (grown_kept hg).mono (fun b _ e => by cases e; rfl)⟩

theorem leftW_take (l : List Wt) (S : List Nat) (k : Nat) (hk : k < S.length) : (S.take (k + 1)).map (fun i => l.getD i Wt.none) = (S.take k).map (fun i => l.getD i Wt.none) ++ [l.getD (S.getD k 0) Wt.none] := by
  have e : S.getD k 0 = S[k] := by simp [List.getD, hk]
  rw [List.take_add_one, List.getElem?_eq_getElem hk, List.map_append, e]
  rfl

set_option maxRecDepth 100000 in
set_option maxHeartbeats 4000000 in
theorem left (w : World) (B b n : Nat) (Q : Int → Int → List Nat) (D : DataW Value) (V : Int → Int → Value) (q : QM w B b n Q D V) (a : Option Addr) (cap : Nat) (l : List Wt) (S : Wts w a l) (hl : l.length ≤ 40) (hk : ∀ j, j < l.length → OkK (l.getD j Wt.none).host (l.getD j Wt.none).sector) (hq : QOk l Q) :
    Calls Try.prog 48 #[.map (some b), .slice a l.length cap] w fun e w' => ∃ v', e = .returned v' ∧ RowO w' w.heap.size 44 4 v' (leftW l Q).length (wCells (leftW l Q)) ∧ Below w.heap.size w w' := by
  have HS := hid S
  have HK := hid hk
  have HQO := hid hq
  have HQ := hid q
  have hbl := q.own.lt
  clear S hk hq q
  go_enter Try.func48, Try.ntmps48
  go_wp2_with (at_range; refine wpList_range_own _ rfl _ 68 rfl 71 25 keyedQ Try.underlying68 Rid b n D rfl HQ.out.own ?_; intro w0 hrg0 hg0 hs0)
  go_frame
  have HR0 := hid hrg0
  have HG0 := hid hg0
  have HZ0 := hid hs0
  clear hrg0 hg0 hs0
  go_loopw [5] (fun v wr => ∃ left cnt L, Hid (RowO wr (w.heap.size + 1) 3 1 v L.length (qCells L)) ∧ Hid (wr.ranges Try.prog 71 Rid b w.heap.size n D left cnt) ∧ Hid (Col Q left L) ∧ Hid (Below w.heap.size w wr) ∧ Hid (w.heap.size + 1 ≤ wr.heap.size)) (fun _ wr => wr.rangeLeft b w.heap.size)
  case atStart => exact ⟨_, _, [], Or.inl ⟨_, rfl, rfl, rfl⟩, HR0.out, Col.start HQ.out.has, (Below.refl _ _).grown HG0.out (Nat.le_refl _) (fun j hj => by cases hj), hid (by rw [HZ0.out]; exact Nat.le_refl _)⟩
  case round =>
    obtain ⟨left, cnt, L, HRo, HRg, HC, HB, HZ⟩ := hrel
    obtain ⟨pa, pc, ev, _⟩ := HRo.out.wr
    subst ev
    go_wp2_with (at_next; refine wpList_next_ranges _ rfl _ rfl 71 keyedQ Rid (fun v => v) (fun v => v) (fun key kl _ => ⟨key, rfl⟩) (fun v y _ => ⟨v, rfl⟩) b w.heap.size n D left cnt rfl HRg.out ?_ ?_)
    · intro hc0 hl0
      have HP := hid (HC.out.perm HQO.out HK.out hl0)
      have HSo := hid (sorted_kept HP.out)
      have hLl : L.length ≤ 40 := Nat.le_trans (nodup_le HC.out.nodup (HC.out.lt HQO.out)) hl
      have HLl := hid hLl
      have HLe := hid (show (keptQ l Q).length = L.length from HP.out.length_eq.symm)
      have HX := hid (show ∀ k, k < (keptQ l Q).length → (keptQ l Q).getD k 0 < l.length from fun k hk => by
        have hm : (keptQ l Q).getD k 0 ∈ keptQ l Q := by rw [List.getD_eq_getElem?_getD, List.getElem?_eq_getElem hk]; exact List.getElem_mem hk
        unfold keptQ at hm
        exact List.mem_range.1 (List.mem_filter.1 hm).1)
      have HLW := hid (show leftW l Q = ((keptQ l Q).take L.length).map (fun i => l.getD i Wt.none) from by rw [← HLe.out, List.take_length]; rfl)
      clear hc0 hl0 hLl
      generalize keptQ l Q = SS at *
      go_wp2_with fail
      refine (sortRow wr (w.heap.size + 1) _ L SS HRo.out (by have := HLl.out; omega) HSo.out).mono ?_
      rintro e w2 ⟨rfl, r2, k2⟩
      have HR2 := hid r2
      have HB2 := hid (HB.out.trans (k2.below HB.out.size (fun g hg e => by have := (HRo.out.lt e).1; omega)))
      have HZ2 := hid (show w.heap.size + 1 ≤ w2.heap.size from Nat.le_trans HZ.out k2.size)
      have HLn := hid HLl.out
      clear r2 k2
      generalize hm : L.length = m at *
      have hm40 : m ≤ 40 := HLl.out
      clear hm HP HSo HLl HRo HRg HC
      go_wp2
      go_loopw [8, 24] (fun o i wr => ∃ k : Nat, k ≤ m ∧ i = .int .i64 (k : Int) ∧ Hid (RowO wr w2.heap.size 44 4 o k (wCells ((SS.take k).map (fun i => l.getD i Wt.none)))) ∧ Hid (Below w2.heap.size w2 wr)) (fun _ i _ => m - (intOf i).toNat)
      case atStart => exact ⟨0, Nat.zero_le _, rfl, Or.inl ⟨_, rfl, rfl, by simp [wCells]⟩, Below.refl _ _⟩
      case round =>
        obtain ⟨k, hk, rfl, HO, HBr⟩ := hrel
        obtain ⟨oa, oc, eo, _⟩ := HO.out.wr
        subst eo
        by_cases hlt : k < m
        · have hkS : k < SS.length := by rw [HLe.out]; exact hlt
          obtain ⟨aa, cc, ea, hwa⟩ := HR2.out.wr
          cases ea
          obtain ⟨g, o, rfl, hc⟩ := hwa.sl k (by omega)
          have hcv : (qCells SS).getD k undef = .int .i64 ((SS.getD k 0 : Nat) : Int) := by unfold qCells; simp [List.getD, hkS]
          have hc2 := (HBr.out.cell (p := ⟨g, o + k, none⟩) (World.block_lt_of_cell? w2 _ hc)).trans hc
          replace hc2 : wr.cell? ⟨g, o + k, none⟩ = some (.int .i64 ((SS.getD k 0 : Nat) : Int)) := hc2.trans (congrArg some hcv)
          have hxl := HX.out k hkS
          have htk := hid (leftW_take l SS k hkS)
          generalize SS.getD k 0 = y at *
          have hy1 : (y : Int) < (l.length : Int) := by omega
          have hy0 : (0 : Int) ≤ (y : Int) := Int.natCast_nonneg y
          obtain ⟨b3, o3, rfl, x0, x1, x2, x3⟩ := Wts.at_ ((HS.out.below HB2.out).below HBr.out) y hxl
          generalize l.getD y Wt.none = u at *
          have HRa : Hid (∀ ob, RowO (wr.alloc ob) w2.heap.size 44 4 (.slice oa k oc) k (wCells ((SS.take k).map (fun i => l.getD i Wt.none)))) := fun ob => HO.out.below ((Below.refl _ _).alloc (Nat.le_refl _) ob)
          have HBa := hid (show ∀ ob, w2.heap.size ≤ (wr.alloc ob).heap.size from fun ob => by have := lt_alloc wr ob; have := HBr.out.size; omega)
          have HO2 := hid (fun g => HO.out.lt (b := g))
          clear hwa hc
          generalize (SS.take k).map (fun i => l.getD i Wt.none) = ol at *
          go_wp2_with (at_builtin; refine wpList_app 26 44 Wt.none.val 4 40 Try.underlying26 infoW rfl (by decide) (by decide) _ rfl (.tmp 28) (.tmp 33) rfl w2.heap.size _ k (wCells ol) rfl (HRa.out _) ⟨wr.heap.size, 0, none⟩ 1 1 u.cells rfl rfl (sl_lit wr u.cells 44 4 rfl) (by intro z hz; exact wCells_one [u] z (by simpa [wCells] using hz)) (by omega) (HBa.out _) ?_; intro v3 w3 r3 kk hi; obtain ⟨p3, d3, e3, _⟩ := r3.wr; subst e3; have HR3 := hid r3; have HK3 := hid kk; clear r3 kk hi)
          exact ⟨⟨k + 1, by omega, by go_num, by rw [htk.out, wCells_snoc]; exact HR3.out, (HBr.out.alloc HBr.out.size _).trans (HK3.out.below (HBa.out _) (fun g hg e => by have := (HO2.out g e).1; omega))⟩, by simp [intOf]; omega⟩
        obtain rfl : k = m := by omega
        go_wp2
        go_ret
        refine ⟨_, rfl, ?_, HB2.out.trans (HBr.out.mono HB2.out.size)⟩
        rw [HLW.out, List.length_map, List.length_take, HLe.out, Nat.min_self]
        exact HO.out.mono HB2.out.size
    · intro x c kl yd yp w1 cnt1 hkey hlk hv hat hrg1 hlt hg1 hs1 hen
      obtain ⟨h0, s0, hk0, rfl⟩ := HQ.out.only kl (Maps.has_true_of_atKey hat)
      have hyd : yd = .held c := by
        simp only [Rid, Option.some.injEq, Prod.mk.injEq] at hv
        exact hv.1.symm
      have hcV : c = V h0 s0 := by
        have e1 := HQ.out.at_ h0 s0 hk0
        rw [hat, hyd] at e1
        injection e1
      have hQne : Q h0 s0 ≠ [] := (HQ.out.has h0 s0 hk0).1 (Maps.has_true_of_atKey hat)
      have hrw := HQ.out.row h0 s0 hk0
      obtain ⟨g, cc, hVf⟩ := hrw.form (List.length_pos_iff.2 hQne)
      rw [hVf] at hcV hrw
      subst hcV
      have HC1 := hid (HC.out.step HQO.out hk0 hlk)
      have HB1 := hid (HB.out.grown hg1 HB.out.size (fun j hj => by cases hj; exact Nat.le_refl _))
      have hLl := nodup_le HC1.out.nodup (HC1.out.lt HQO.out)
      rw [List.length_append] at hLl
      have HRg1 := hid hrg1
      have HRo1 := hid (HRo.out.kept (grown_kept hg1) (fun y hy e => by have := (HRo.out.lt hy).1; cases e; omega))
      have HSl : Hid (Sl w1 (some ⟨g, 0, none⟩) ((Q h0 s0).length * 1) (fun i => (qCells (Q h0 s0)).getD i undef)) := by
        obtain ⟨_, _, ea, hwa⟩ := hrw.wr
        cases ea
        exact hwa.sl.below HB1.out
      have HZ1 := hid (show w.heap.size + 1 ≤ w1.heap.size from by rw [hs1]; exact HZ.out)
      have Hlt := hid hlt
      clear hs1 hg1 hrg1 hrw hVf hat hv hyd hkey hlt
      generalize Q h0 s0 = Z at *
      go_wp2_with (at_builtin; refine wpList_app 25 3 (.int .i64 0) 1 8 Try.underlying25 info3' rfl (by decide) (by decide) _ rfl (.tmp 17) (.tmp 18) rfl (w.heap.size + 1) _ L.length (qCells L) rfl HRo1.out ⟨g, 0, none⟩ Z.length (cc + 1) (qCells Z) rfl (by rw [qCells_length]; omega) HSl.out (by intro u hu; unfold qCells at hu; obtain ⟨z, _, rfl⟩ := List.mem_map.1 hu; rfl) (by omega) HZ1.out ?_; intro v3 w3 r3 kk hi; obtain ⟨p3, d3, e3, _⟩ := r3.wr; subst e3; have HR3 := hid r3; have HK3 := hid kk; clear r3 kk hi)
      have hrg3 := HRg1.out.kept (kept_grown HK3.out) (fun e => by have := (HRo1.out.lt e.symm).1; omega) (fun e => by have := (HRo1.out.lt e.symm).1; omega)
      exact ⟨⟨_, cnt1, L ++ Z, by rw [List.length_append, show qCells (L ++ Z) = qCells L ++ qCells Z from by simp [qCells]]; exact HR3.out, hrg3, HC1.out, HB1.out.trans (HK3.out.below HB1.out.size (fun g hg e => by have := (HRo1.out.lt e).1; omega)), hid (Nat.le_trans HZ1.out HK3.out.size)⟩, by rw [hrg3.left_eq, HRg.out.left_eq]; exact Hlt.out⟩

end Go.Proofs.Ytnkipjlkhnmilaa.Mem

namespace Go.Proofs.Ytnkipjlkhnmilaa.Mem
open Go.RowKit
set_option linter.unusedVariables false

theorem range_getD (l : List Wt) : (List.range l.length).map (fun i => l.getD i Wt.none) = l := by
  apply List.ext_getElem (by simp)
  intro i h1 h2
  simp [List.getD, h2]

theorem range'_getD (l : List Wt) : ∀ (n k : Nat), k + n = l.length → (List.range' k n).map (fun i => l.getD i Wt.none) = l.drop k
  | 0, k, h => by rw [List.drop_eq_nil_of_le (by omega)]; rfl
  | n + 1, k, h => by
    have hk : k < l.length := by omega
    rw [List.range'_succ, List.map_cons, range'_getD l n (k + 1) (by omega), List.drop_eq_getElem_cons hk]
    simp [List.getD, hk]

theorem split_range (n i : Nat) (h : i < n) : List.range n = List.range i ++ i :: List.range' (i + 1) (n - i - 1) := by
  rw [List.range_eq_range', List.range_eq_range', show n = i + ((n - i - 1) + 1) from by omega, List.range'_append_1.symm, Nat.zero_add, List.range'_succ]
  congr 3
  omega

/-- All but number i. -/
theorem but_one (l : List Wt) (i : Nat) (h : i < l.length) : ((List.range l.length).filter (fun j => decide (j ≠ i))).map (fun j => l.getD j Wt.none) = l.eraseIdx i := by
  have f1 : (List.range i).filter (fun j => decide (j ≠ i)) = List.range i := List.filter_eq_self.2 (fun j hj => by have := List.mem_range.1 hj; simp; omega)
  have f2 : (List.range' (i + 1) (l.length - i - 1)).filter (fun j => decide (j ≠ i)) = List.range' (i + 1) (l.length - i - 1) := List.filter_eq_self.2 (fun j hj => by have := (List.mem_range'_1.1 hj).1; simp; omega)
  have f3 : decide (i ≠ i) = false := by simp
  rw [split_range l.length i h, List.filter_append, List.filter_cons, f3, f1, f2, List.map_append, if_neg (by simp), range'_getD l _ _ (by omega), List.eraseIdx_eq_take_drop_succ]
  congr 1
  apply List.ext_getElem (by simp; omega)
  intro j h1 h2
  have hj : j < l.length := by simp at h1; omega
  simp [List.getD, hj]

theorem mem_qAt {l : List Wt} {i : Nat} (h : i < l.length) : i ∈ qAt l l.length (l.getD i Wt.none).host (l.getD i Wt.none).sector := by
  unfold qAt
  exact List.mem_filter.2 ⟨List.mem_range.2 h, decide_eq_true ⟨rfl, rfl⟩⟩

theorem qAt_lt (l : List Wt) (h s : Int) : (qAt l l.length h s).Pairwise (fun a b => a < b) := List.Pairwise.filter _ List.pairwise_lt_range
theorem qAt_nodup (l : List Wt) (h s : Int) : (qAt l l.length h s).Nodup := nodup_filter List.nodup_range

theorem erase_mem {Z : List Nat} (hn : Z.Nodup) (p : Nat) (hp : p < Z.length) (x : Nat) : x ∈ Z.eraseIdx p ↔ x ∈ Z ∧ x ≠ Z.getD p 0 := by
  have e : Z.getD p 0 = Z[p] := by simp [List.getD, hp]
  rw [e]
  have hz := List.getElem_cons_drop hp
  have hs : Z = Z.take p ++ Z[p] :: Z.drop (p + 1) := by rw [hz, List.take_append_drop]
  have hne : ∀ a ∈ Z.take p ++ Z.drop (p + 1), a ≠ Z[p] := by
    rw [hs] at hn
    obtain ⟨h1, h2, h3⟩ := List.nodup_append.1 hn
    intro a ha
    rcases List.mem_append.1 ha with ha | ha
    · exact h3 a ha _ List.mem_cons_self
    · exact fun e => (List.nodup_cons.1 h2).1 (by rw [← e]; exact ha)
  rw [List.eraseIdx_eq_take_drop_succ]
  constructor
  · intro hx
    refine ⟨?_, hne x hx⟩
    rcases List.mem_append.1 hx with hx | hx
    · exact List.mem_of_mem_take hx
    · exact List.mem_of_mem_drop hx
  · rintro ⟨hx, hn2⟩
    rw [hs] at hx
    rcases List.mem_append.1 hx with hx | hx
    · exact List.mem_append.2 (Or.inl hx)
    · rcases List.mem_cons.1 hx with hx | hx
      · exact absurd hx hn2
      · exact List.mem_append.2 (Or.inr hx)

/-- One number is struck from its queue. -/
theorem left_erase (l : List Wt) (i p : Nat) (hi : i < l.length) (hp : p < (qAt l l.length (l.getD i Wt.none).host (l.getD i Wt.none).sector).length) (he : (qAt l l.length (l.getD i Wt.none).host (l.getD i Wt.none).sector).getD p 0 = i) :
    leftW l (upd (qAt l l.length) (l.getD i Wt.none).host (l.getD i Wt.none).sector ((qAt l l.length (l.getD i Wt.none).host (l.getD i Wt.none).sector).eraseIdx p)) = l.eraseIdx i := by
  rw [← but_one l i hi]
  unfold leftW keptQ
  congr 1
  apply List.filter_congr
  intro j hj
  have hj := List.mem_range.1 hj
  apply decide_eq_decide.2
  by_cases e : (l.getD j Wt.none).host = (l.getD i Wt.none).host ∧ (l.getD j Wt.none).sector = (l.getD i Wt.none).sector
  · rw [e.1, e.2, upd_same, erase_mem (qAt_nodup _ _ _) p hp, he]
    have hm := mem_qAt hj
    rw [e.1, e.2] at hm
    exact ⟨fun h => h.2, fun h => ⟨hm, h⟩⟩
  · rw [upd_other _ _ e]
    exact ⟨fun _ e' => e (by rw [e']; exact ⟨rfl, rfl⟩), fun _ => mem_qAt hj⟩

theorem qOk_erase (l : List Wt) (h s : Int) (p : Nat) : QOk l (upd (qAt l l.length) h s ((qAt l l.length h s).eraseIdx p)) :=
  (qOk_at l).erase h s _ (fun x hx => List.mem_of_mem_eraseIdx hx) (fun _ => List.Pairwise.sublist (List.eraseIdx_sublist _ _) (qAt_nodup l h s))

/-- The first of a queue. -/
theorem first_q (l : List Wt) (i : Nat) (hi : i < l.length) : (qAt l l.length (l.getD i Wt.none).host (l.getD i Wt.none).sector).getD 0 0 = i ↔ ∀ j, j < i → ¬ ((l.getD j Wt.none).host = (l.getD i Wt.none).host ∧ (l.getD j Wt.none).sector = (l.getD i Wt.none).sector) := by
  have hm := mem_qAt hi
  have hlt := qAt_lt l (l.getD i Wt.none).host (l.getD i Wt.none).sector
  have hmem : ∀ x, x ∈ qAt l l.length (l.getD i Wt.none).host (l.getD i Wt.none).sector ↔ x < l.length ∧ (l.getD x Wt.none).host = (l.getD i Wt.none).host ∧ (l.getD x Wt.none).sector = (l.getD i Wt.none).sector := fun x =>
    ⟨fun h => qAt_mem h, fun h => by have := mem_qAt h.1; rw [h.2.1, h.2.2] at this; exact this⟩
  generalize qAt l l.length (l.getD i Wt.none).host (l.getD i Wt.none).sector = Z at *
  match Z, hm, hlt, hmem with
  | z :: r, hm, hlt, hmem =>
    have hmin : ∀ x ∈ z :: r, z ≤ x := fun x hx => by
      rcases List.mem_cons.1 hx with h | h
      · omega
      · exact Nat.le_of_lt ((List.pairwise_cons.1 hlt).1 x h)
    show z = i ↔ _
    constructor
    · rintro rfl j hj hs
      have := hmin j ((hmem j).2 ⟨by omega, hs⟩)
      omega
    · intro h
      have h1 := hmin i hm
      have h2 := (hmem z).1 (by simp)
      rcases Nat.lt_or_ge z i with h3 | h3
      · exact absurd h2.2 (h z h3)
      · omega

/-- The queues without those of host x to the first k sectors. -/
def qBut (Q : Int → Int → List Nat) (x : Int) (k : Nat) (h s : Int) : List Nat := if h = x ∧ s < (k : Int) then [] else Q h s

theorem qBut_succ (Q : Int → Int → List Nat) (x : Int) (k : Nat) (h s : Int) (h0 : OkK h s) : qBut Q x (k + 1) h s = upd (qBut Q x k) x (k : Int) [] h s := by
  unfold qBut upd
  by_cases e : h = x ∧ s = (k : Int)
  · rw [if_pos e, if_pos ⟨e.1, by omega⟩]
  · rw [if_neg e]
    show (if h = x ∧ s < ((k + 1 : Nat) : Int) then [] else Q h s) = (if h = x ∧ s < (k : Int) then [] else Q h s)
    by_cases e2 : h = x ∧ s < (k : Int)
    · rw [if_pos e2, if_pos ⟨e2.1, by omega⟩]
    · rw [if_neg e2, if_neg (fun q => e ⟨q.1, by have := q.2; have : ¬ s < (k : Int) := fun z => e2 ⟨q.1, z⟩; omega⟩)]

theorem qOk_but (l : List Wt) (x : Int) (k : Nat) : QOk l (qBut (qAt l l.length) x k) := by
  refine ⟨fun h s hk i hi => ?_, fun h s hk => ?_⟩
  · unfold qBut at hi
    split at hi
    · simp at hi
    · exact qAt_mem hi
  · unfold qBut
    split
    · exact List.nodup_nil
    · exact qAt_nodup l h s

/-- All of one host's are struck. -/
theorem left_but (l : List Wt) (x : Int) (n : Nat) (hs : ∀ j, j < l.length → (l.getD j Wt.none).sector < (n : Int)) : leftW l (qBut (qAt l l.length) x n) = others l x := by
  have e : keptQ l (qBut (qAt l l.length) x n) = (List.range l.length).filter (fun i => decide ((l.getD i Wt.none).host ≠ x)) := by
    unfold keptQ
    apply List.filter_congr
    intro j hj
    have hj := List.mem_range.1 hj
    apply decide_eq_decide.2
    unfold qBut
    by_cases e : (l.getD j Wt.none).host = x
    · rw [if_pos ⟨e, hs j hj⟩]
      exact ⟨fun h => absurd h (by simp), fun h => absurd e h⟩
    · rw [if_neg (fun q => e q.1)]
      exact ⟨fun _ => e, fun _ => mem_qAt hj⟩
  unfold leftW others
  rw [e]
  conv => rhs; rw [← range_getD l]
  rw [List.filter_map]
  congr 1

end Go.Proofs.Ytnkipjlkhnmilaa.Mem

namespace Go.Proofs.Ytnkipjlkhnmilaa.Mem
open Go.RowKit
set_option linter.unusedVariables false

theorem getD_set_eq (l : List ByteArray) (i : Nat) (t : ByteArray) (c : Nat) (hc : c < l.length) : (l.set i t).getD c ByteArray.empty = if i = c then t else l.getD c ByteArray.empty := by
  rw [List.getD_eq_getElem?_getD, List.getElem?_set, List.getD_eq_getElem?_getD]
  by_cases e : i = c
  · subst e
    simp [hc]
  · simp [e]

theorem lands_getD (h : Int) (c : Nat) : ∀ (l : List Wt) (s : List ByteArray), (∀ x ∈ l, 0 ≤ x.sector) → c < s.length → (lands s l h).getD c ByteArray.empty = seeL (s.getD c ByteArray.empty) l h (c : Int)
  | [], s, _, _ => rfl
  | x :: r, s, hp, hc => by
    have hx := hp x (by simp)
    have ih := lands_getD h c r (if x.host = h then s.set x.sector.toNat x.text else s) (fun y hy => hp y (by simp [hy])) (by split <;> simpa using hc)
    rw [lands_cons, ih]
    show seeL _ r h (c : Int) = seeL (if x.host = h ∧ x.sector = (c : Int) then x.text else s.getD c ByteArray.empty) r h (c : Int)
    congr 1
    by_cases e1 : x.host = h
    · rw [if_pos e1, getD_set_eq s _ _ c hc]
      by_cases e2 : x.sector.toNat = c
      · rw [if_pos e2, if_pos ⟨e1, by omega⟩]
      · rw [if_neg e2, if_neg (fun q => e2 (by omega))]
    · rw [if_neg e1, if_neg (fun q => e1 q.1)]

/-- The sectors of which the first k were flushed. -/
structure SecK (D : Dk) (x : Int) (k : Nat) (l : List ByteArray) : Prop where
  len : l.length = D.sec.length
  done : ∀ c, c < k → l.getD c ByteArray.empty = D.see x (c : Int) D.pe.length
  todo : ∀ c, k ≤ c → l.getD c ByteArray.empty = D.sec.getD c ByteArray.empty

theorem SecK.start (D : Dk) (x : Int) : SecK D x 0 D.sec := ⟨rfl, fun c h => by omega, fun c _ => rfl⟩

theorem SecK.all {D : Dk} {x : Int} {l : List ByteArray} (h : SecK D x D.sec.length l) (hp : ∀ y ∈ D.pe, 0 ≤ y.sector) : l = lands D.sec D.pe x := by
  apply List.ext_getElem (by rw [h.len, lands_length])
  intro c h1 h2
  have hc : c < D.sec.length := by rw [← h.len]; exact h1
  have e1 := h.done c hc
  have e2 := lands_getD x c D.pe D.sec hp hc
  have e3 := see_all D x (c : Int)
  rw [Int.toNat_natCast] at e3
  rw [← e3, ← e1] at e2
  rw [List.getD_eq_getElem?_getD, List.getElem?_eq_getElem h2, List.getD_eq_getElem?_getD, List.getElem?_eq_getElem h1] at e2
  exact e2.symm

/-- Sector k behind the first j of its queue. -/
def secAt (D : Dk) (Z : List Nat) (k j : Nat) : ByteArray := if j = 0 then D.sec.getD k ByteArray.empty else (D.pe.getD (Z.getD (j - 1) 0) Wt.none).text

theorem secAt_zero (D : Dk) (Z : List Nat) (k : Nat) : secAt D Z k 0 = D.sec.getD k ByteArray.empty := if_pos rfl
theorem secAt_succ (D : Dk) (Z : List Nat) (k j : Nat) : secAt D Z k (j + 1) = (D.pe.getD (Z.getD j 0) Wt.none).text := by unfold secAt; rw [if_neg (by omega)]; rfl
theorem secAt_all (D : Dk) (x : Int) (k : Nat) : secAt D (qAt D.pe D.pe.length x (k : Int)) k (qAt D.pe D.pe.length x (k : Int)).length = D.see x (k : Int) D.pe.length := by
  rw [see_q]
  generalize qAt D.pe D.pe.length x (k : Int) = Z
  by_cases hZ : Z = []
  · subst hZ
    rfl
  · obtain ⟨Z', i, rfl⟩ : ∃ Z' i, Z = Z' ++ [i] := ⟨Z.dropLast, Z.getLast hZ, (List.dropLast_concat_getLast hZ).symm⟩
    rw [List.length_append]
    show secAt D (Z' ++ [i]) k (Z'.length + 1) = _
    rw [secAt_succ]
    simp

/-- Sector k is stored while it is flushed. -/
structure SecJ (D : Dk) (x : Int) (k : Nat) (t : ByteArray) (l : List ByteArray) : Prop where
  len : l.length = D.sec.length
  done : ∀ c, c < k → l.getD c ByteArray.empty = D.see x (c : Int) D.pe.length
  here : l.getD k ByteArray.empty = t
  todo : ∀ c, k < c → l.getD c ByteArray.empty = D.sec.getD c ByteArray.empty

theorem SecK.begin_ {D : Dk} {x : Int} {k : Nat} {l : List ByteArray} (h : SecK D x k l) : SecJ D x k (D.sec.getD k ByteArray.empty) l := ⟨h.len, h.done, h.todo k (Nat.le_refl _), fun c hc => h.todo c (by omega)⟩
theorem SecJ.end_ {D : Dk} {x : Int} {k : Nat} {l : List ByteArray} (h : SecJ D x k (D.see x (k : Int) D.pe.length) l) : SecK D x (k + 1) l :=
  ⟨h.len, fun c hc => by by_cases e : c = k; · rw [e]; exact h.here
                         · exact h.done c (by omega), fun c hc => h.todo c (by omega)⟩
theorem SecJ.set {D : Dk} {x : Int} {k : Nat} {t t' : ByteArray} {l : List ByteArray} (h : SecJ D x k t l) (hk : k < D.sec.length) : SecJ D x k t' (l.set k t') := by
  have hl := h.len
  have none_ : ∀ c, ¬ c < l.length → (l.set k t').getD c ByteArray.empty = l.getD c ByteArray.empty := fun c hc => by
    rw [List.getD_eq_getElem?_getD, List.getElem?_eq_none (by simp; omega), List.getD_eq_getElem?_getD, List.getElem?_eq_none (by omega)]
  have ne : ∀ c, c ≠ k → (l.set k t').getD c ByteArray.empty = l.getD c ByteArray.empty := fun c hc => by
    by_cases e : c < l.length
    · rw [getD_set_eq l k t' c e, if_neg (fun q => hc q.symm)]
    · exact none_ c e
  refine ⟨by rw [List.length_set]; exact h.len, fun c hc => by rw [ne c (by omega)]; exact h.done c hc, ?_, fun c hc => by rw [ne c (by omega)]; exact h.todo c hc⟩
  rw [getD_set_eq l k t' k (by omega), if_pos rfl]

/-- The queues while sector k is flushed: j of its queue are gone. -/
theorem qBut_here (Q : Int → Int → List Nat) (x : Int) (k : Nat) : qBut Q x k x (k : Int) = Q x (k : Int) := if_neg (fun q => by have := q.2; omega)

end Go.Proofs.Ytnkipjlkhnmilaa.Mem

namespace Go.Proofs.Ytnkipjlkhnmilaa.Mem
open Go.RowKit Go.Sort
set_option linter.unusedVariables false

set_option maxRecDepth 100000 in
set_option maxHeartbeats 2000000 in
theorem takeS (w : World) (B b n : Nat) (Q : Int → Int → List Nat) (D : DataW Value) (V : Int → Int → Value) (q : QM w B b n Q D V) (h s : Int) (hk : OkK h s) (i : Nat) (hi : i < (Q h s).length) (hn : n < 1048576) (hi40 : i < 1048576) :
    Calls Try.prog 47 #[.map (some b), .agg #[.int .i64 h, .int .i64 s], .int .i64 (i : Int)] w fun e w' => e = .returned (.tuple #[]) ∧ (∃ D' V', QM w' B b (n + 1) (upd Q h s ((Q h s).eraseIdx i)) D' V' ∧ ∀ h' s' y, rb (V' h' s') = some y → rb (V h' s') = some y) ∧ Kept (fun g => g = b ∨ rb (V h s) = some g) w w' := by
  obtain ⟨wb, hwb, ez, A0, B0⟩ := one_new w [.int .i64 h, .int .i64 s] 71
  have qb := q.below B0
  have hlk : (Instr.lookup 68 (.map (some b)) (.agg #[.int .i64 h, .int .i64 s]) false).run Try.prog wb = .ok (V h s) wb := qb.look hk
  have hrow := qb.row h s hk
  obtain ⟨g, c, hv⟩ := hrow.form (by omega)
  have HV := hid hv
  have hgl : g < w.heap.size := ((q.row h s hk).lt (b := g) (by rw [hv]; rfl)).2
  rw [hv] at hlk hrow
  have HQ := hid qb
  have HR := hid hrow
  have HA := hid A0
  have HB0 := hid B0
  have hcap := hid hrow.cap
  have k0 := A0.c 0 rfl
  have k1 := A0.c 1 rfl
  have Hlt := hid (show (zOf (Q h s)).length = (Q h s).length from zOf_length _)
  have hq40 : (Q h s).length ≤ 9223372036854775807 := by have := hcap.out.1; have := hcap.out.2; unfold maxLen at this; omega
  clear q qb hv hrow A0 B0 ez
  generalize hZ : Q h s = Z at *
  have HZ := hid hZ
  clear hZ
  go_enter Try.func47, Try.ntmps47
  go_wp2_with fail
  have hc := Any.slices_Delete_int Try.lays223 g 0 (c + 1) i (i + 1) (zOf Z) wb (holds_row HR.out) (by rw [zOf_length]; exact hcap.out.1) (by have := hcap.out.2; unfold maxLen at this; exact this) (by omega) (by rw [zOf_length]; omega)
  rw [zOf_length, show (i + 1 - i) = 1 from by omega] at hc
  obtain ⟨m, hm⟩ : ∃ m, Z.length - 1 = m := ⟨_, rfl⟩
  rw [hm] at hc
  refine hc.mono ?_
  rintro e w2 ⟨rfl, p, hw2⟩
  have r2 := row_deleted (q := p) HR.out hi
  rw [show (i + 1 - i) = 1 from by omega, ← hw2, hm] at r2
  have k2 : Kept (fun y => y = g) wb w2 := by rw [hw2]; exact kept_putRow wb g p _
  have hlE : (Z.eraseIdx i).length = m := by rw [List.length_eraseIdx_of_lt hi]; exact hm
  have kv : Kept (fun y => rb (V h s) = some y) wb w2 := k2.mono (fun y _ e => by rw [HV.out, e]; rfl)
  have R2 := HA.out.kept k2 (by omega)
  have hgB := (HR.out.lt (b := g) rfl).1
  have HK2 := hid ((Kept.of_below (S := fun _ => False) HB0.out).trans k2)
  clear hc hw2 k0 k1 hlk hwb
  have k0 := R2.c 0 rfl
  have k1 := R2.c 1 rfl
  have HKV := hid kv
  have HR2 := hid r2
  clear kv k2 r2 R2
  by_cases hm0 : m = 0
  · subst hm0
    have hnil : Z.eraseIdx i = [] := List.eq_nil_of_length_eq_zero hlE
    obtain ⟨w3, hr3, q3, k3⟩ := HQ.out.drop hk HKV.out 0
    have hd : ∀ ty, (Builtin.delete_ #[68, 71] ty #[.map (some b), .agg #[.int .i64 h, .int .i64 s]]).run Try.prog w2 = .ok (.tuple #[]) w3 := fun ty => hr3
    have HQ3 := hid q3
    have HK3 := hid k3
    clear q3 k3 hr3
    go_wp2
    refine bodyPost_ret (results_none rfl _ _ _) rfl ?_
    rw [hnil]
    exact ⟨rfl, ⟨_, _, HQ3.out.more, fun h' s' y hy => by
      by_cases e : h' = h ∧ s' = s
      · obtain ⟨rfl, rfl⟩ := e; rw [upd_same] at hy; simp [rb, nilv] at hy
      · rw [upd_other _ _ e] at hy; exact hy⟩, (HK2.out.trans HK3.out).mono (fun y _ e => by rcases e with (e | e) | e; exact e.elim; exact Or.inr (by rw [HV.out, e]; rfl); exact Or.inl e)⟩
  · have hne : Z.eraseIdx i ≠ [] := fun e => hm0 (by rw [← hlE, e]; rfl)
    obtain ⟨w3, hr3, q3, k3⟩ := HQ.out.store hk (by unfold maxLen; omega) HKV.out (.slice (some ⟨g, 0, none⟩) m (c + 1)) (Z.eraseIdx i) hne HR2.out (Or.inr (Or.inl (by rw [HV.out]; rfl)))
    replace hr3 : (Instr.mapUpdate 68 (.map (some b)) (.agg #[.int .i64 h, .int .i64 s]) (.slice (some ⟨g, 0, none⟩) m (c + 1))).run Try.prog w2 = .ok () w3 := hr3
    have HQ3 := hid q3
    have HK3 := hid k3
    clear q3 k3
    go_wp2
    go_end0
    exact ⟨rfl, ⟨_, _, HQ3.out, fun h' s' y hy => by
      by_cases e : h' = h ∧ s' = s
      · obtain ⟨rfl, rfl⟩ := e; rw [upd_same] at hy; rw [HV.out]; exact hy
      · rw [upd_other _ _ e] at hy; exact hy⟩, (HK2.out.trans HK3.out).mono (fun y _ e => by rcases e with (e | e) | e; exact e.elim; exact Or.inr (by rw [HV.out, e]; rfl); exact Or.inl e)⟩

end Go.Proofs.Ytnkipjlkhnmilaa.Mem

namespace Go.Proofs.Ytnkipjlkhnmilaa.Mem
open Go.RowKit
set_option linter.unusedVariables false

theorem flush_refuse (D : Dk) (h1 : 1 ≤ D.sec.length) (x ep : Int) : D.flush x ep = if D.refuse x ep 0 [] = 0 then (⟨lands D.sec D.pe x, D.ep, others D.pe x⟩, 0) else (D, D.refuse x ep 0 []) := by
  have e : (((0 ≤ x ∧ x < 3) ∧ (0 : Int) ≤ 0 ∧ (0 : Int) < (D.sec.length : Int)) ∧ ∀ j, j < ([] : List ByteArray).length → ((([] : List ByteArray).getD j ByteArray.empty).size : Int) ≤ 700) ↔ (0 ≤ x ∧ x < 3) := ⟨fun h => h.1.1, fun h => ⟨⟨h, by omega, by omega⟩, fun j hj => by simp at hj⟩⟩
  unfold Dk.flush Dk.refuse
  simp only [e]
  by_cases g1 : 0 ≤ x ∧ x < 3
  · rw [if_pos g1, if_pos g1]
    by_cases g2 : D.ep.getD x.toNat 0 = ep
    · simp only [if_pos g2, if_true]
    · simp only [if_neg g2]
      rfl
  · rw [if_neg g1, if_neg g1]
    rfl

theorem refuse_host {D : Dk} {x ep s : Int} {ts : List ByteArray} (h : D.refuse x ep s ts = 0) : 0 ≤ x ∧ x < 3 := by
  unfold Dk.refuse at h
  by_cases h1 : ((0 ≤ x ∧ x < 3) ∧ 0 ≤ s ∧ s < (D.sec.length : Int)) ∧ (∀ j, j < ts.length → ((ts.getD j ByteArray.empty).size : Int) ≤ 700)
  · exact h1.1.1
  · rw [if_neg h1] at h; cases h

theorem QM.likeF {w : World} {B b n : Nat} {Q Q' : Int → Int → List Nat} {D : DataW Value} {V : Int → Int → Value} (q : QM w B b n Q D V) (e : ∀ h s, OkK h s → Q h s = Q' h s) : QM w B b n Q' D V :=
  ⟨q.own, q.lt, fun h s hk => by rw [← e h s hk]; exact q.has h s hk, q.at_, fun h s hk => by rw [← e h s hk]; exact q.row h s hk, q.apart, q.only⟩

theorem wts_of {w : World} {a1 a2 a3 : Option Addr} {n1 n2 n3 c1 c2 c3 : Nat} {D : Dk} (h : DkR w (.agg #[.slice a1 n1 c1, .slice a2 n2 c2, .slice a3 n3 c3]) D) : Wts w a3 D.pe := by
  obtain ⟨_, _, _, _, _, _, e, _, _, s3⟩ := h
  cases e
  exact s3

theorem QM.other {w : World} {B b n : Nat} {Q : Int → Int → List Nat} {D : DataW Value} {V : Int → Int → Value} (q : QM w B b n Q D V) (g i : Nat) (v : Value) (hg : g < b) : QM (w.setCell ⟨g, i, none⟩ v) B b n Q D V :=
  q.kept (kept_set w g i v) (by omega) (fun h s g' hk hg' e => by have := ((q.row h s hk).lt hg').1; have := q.lt; omega)

theorem ISt.kept {S : Nat → Prop} {w : World} {a0 a1 a2 : Value} {B nn : Nat} {p0 p1 p2 : Value} {E : Dk} {wk w' : World} (h : ISt w a0 a1 a2 B nn p0 p1 p2 E wk) (k : Kept S wk w') (b : Nat) (hb : nn < b) (hB : ∀ g, DkB (.agg #[p0, p1, p2]) g → g < b) (hS : ∀ g, S g → b ≤ g) : ISt w a0 a1 a2 B nn p0 p1 p2 E w' := by
  have h1 := h.lb
  have h2 := h.ln
  exact ⟨h.bel.trans (k.below h.bel.size (fun g hg hs => by have := hS g hs; omega)), h.ra.kept k (fun hs => by have := hS _ hs; omega), h.rr.kept k (fun hs => by have := hS _ hs; omega), h.rn.kept k (fun hs => by have := hS _ hs; omega),
    h.o.kept k (fun g hg hs => by have := hS g hs; have := hB g hg; omega), h.lb, h.ln, h.far⟩

theorem ISt.secCell {w : World} {a0 a1 a2 : Value} {B nn g n c : Nat} {p1 p2 : Value} {E : Dk} {wk : World} (h : ISt w a0 a1 a2 B nn (.slice (some ⟨g, 0, none⟩) n (c + 1)) p1 p2 E wk) {i : Nat} (hi : i < E.sec.length) :
    (∃ u, wk.cell? ⟨g, i, none⟩ = some u) ∧ wk.frozen? ⟨g, i, none⟩ = false := by
  have ho := h.o
  obtain ⟨_, _, _, ev, r1, _⟩ := ho
  cases ev
  obtain ⟨aa, cp, e1, hw⟩ := r1.wr
  cases e1
  obtain ⟨b, off, e2, _, hc2, hf2⟩ := hw i (by omega)
  cases e2
  rw [Nat.zero_add] at hc2 hf2
  exact ⟨⟨_, hc2⟩, hf2⟩

/-- How long the queue at a key is can be read off the world. -/
theorem look_len (b : Nat) {x s : Int} (hk : OkK x s) : ∃ lk : World → Nat, ∀ (w : World) (B n : Nat) (Q : Int → Int → List Nat) (D : DataW Value) (V : Int → Int → Value), QM w B b n Q D V → lk w = (Q x s).length := by
  refine ⟨fun w => match (Instr.lookup 68 (.map (some b)) (kval x s) false).run Try.prog w with | .ok (.slice _ n _) _ => n | _ => 0, fun w B n Q D V q => ?_⟩
  have h := q.look hk
  obtain ⟨a, c, e, _⟩ := (q.row x s hk).wr
  rw [e] at h
  simp only [h]

set_option maxRecDepth 100000 in
set_option maxHeartbeats 4000000 in
theorem implFlush (w : World) (v : Value) (D : Dk) (x ep : Int) (h : DkR w v D) (hd : D.Held) (hs : D.Small 1048576) :
    Calls Try.prog 15 #[v, .int .i64 x, .int .i64 ep] w fun e w' => ∃ v', e = .returned (.tuple #[v', .int .i64 (D.flushA x ep).2]) ∧ DkW w' w.heap.size v' (D.flushA x ep).1 ∧ Below w.heap.size w w' := by
  have HH := hid h
  have HD := hid hd
  have HS := hid hs
  obtain ⟨a1, c1, a2, c2, a3, c3, rfl, _, _, _⟩ := h
  clear hd hs
  obtain ⟨wb, hwb, ez, A0, R0, B0⟩ := two_new w [.slice a1 D.sec.length c1, .slice a2 D.ep.length c2, .slice a3 D.pe.length c3] [.slice none 0 0, .slice none 0 0, .slice none 0 0] 28 28
  have k0 := A0.c 0 rfl
  have k1 := A0.c 1 rfl
  have k2 := A0.c 2 rfl
  go_enter Try.func15, Try.ntmps15
  go_wp2_with fail
  refine (implDiskOk wb _ D (HH.out.below B0) HD.out).mono ?_
  rintro e w1 ⟨rfl, b1⟩
  have HA := hid (A0.below b1 A0.lt)
  have HR := hid (R0.below b1 R0.lt)
  have HB := hid (B0.trans (b1.mono B0.size))
  clear A0 R0 B0 b1 hwb ez k0 k1 k2
  have m0 := HR.out.c 0 rfl
  have m1 := HR.out.c 1 rfl
  have m2 := HR.out.c 2 rfl
  have f0 := HR.out.f 0
  have f1 := HR.out.f 1
  have f2 := HR.out.f 2
  by_cases hr : ¬ D.right = true
  · have HP : Hid (D.flushA x ep = (Dk.nil, 1)) := if_neg hr
    have hr' : D.right = false := by simpa using hr
    clear hr
    have E := hid (wrap_bad HB.out HR.out)
    go_wp2
    refine bodyPost_ret (results_row2 rfl _ _ (w.heap.size + 1) [.slice none 0 0, .slice none 0 0, .slice none 0 0] _ rfl E.out.2.2 Try.underlying28 rfl (by kernel_rfl)) rfl ?_
    rw [HP.out]
    exact ⟨_, rfl, E.out.1, E.out.2.1⟩
  replace hr := Classical.not_not.mp hr
  have HP : Hid (D.flushA x ep = D.flush x ep) := if_pos hr
  have HT := hid (Dk.of_right hr)
  have k0 := HA.out.c 0 rfl
  have k1 := HA.out.c 1 rfl
  have k2 := HA.out.c 2 rfl
  go_wp2_with fail
  refine (copyDisk w1 _ D (HH.out.below HB.out) HS.out.c1 HS.out.c2 HS.out.c3).mono ?_
  rintro e w2 ⟨v2, rfl, O2, b2⟩
  have HO2 := hid O2
  obtain ⟨u1, u2, u3, rfl, r1, r2, r3, _, _⟩ := O2
  obtain ⟨p1, q1, e1, _⟩ := r1.wr
  obtain ⟨p2, q2, e2, _⟩ := r2.wr
  obtain ⟨p3, q3, e3, _⟩ := r3.wr
  subst e1; subst e2; subst e3
  clear r1 r2 r3 m0 m1 m2 f0 f1 f2 k0 k1 k2
  obtain ⟨wn, hwn, en, N0, Bn⟩ := one_new w2 [.slice p1 D.sec.length q1, .slice p2 D.ep.length q2, .slice p3 D.pe.length q3] 28
  have I := hid (ISt.start HB.out HA.out HR.out HO2.out b2 N0 Bn)
  have HDn := hid (HH.out.below I.out.bel)
  clear HO2 b2 N0 Bn en HA HR HB
  obtain ⟨k0, k1, k2, m0, m1, m2, f0, f1, f2, n0, n1, n2, n3⟩ := I.out.cells
  have HFr := hid (flush_refuse D HT.out.n1 x ep)
  have HRT := hid (refuse_host (D := D) (x := x) (ep := ep) (s := 0) (ts := []))
  go_wp2_with fail
  refine (refusal wn _ D x ep 0 none 0 [] HDn.out HT.out.e3 (fun i hi => by simp at hi) (by simp)).mono ?_
  rintro e w3 ⟨rfl, b3⟩
  generalize D.refuse x ep 0 [] = c at *
  have I3 := hid (I.out.below b3)
  have HD3 := hid (HDn.out.below b3)
  clear hwn HDn I b3 k0 k1 k2 m0 m1 m2 f0 f1 f2 n0 n1 n2 n3
  obtain ⟨k0, k1, k2, m0, m1, m2, f0, f1, f2, n0, n1, n2, n3⟩ := I3.out.cells
  by_cases g1 : ¬ c = 0
  · have HP1 := hid (HP.out.trans (HFr.out.trans (if_neg g1)))
    have E := hid I3.out.done
    go_wp2
    refine bodyPost_ret (results_row2 rfl _ _ (w.heap.size + 1) [.slice p1 D.sec.length q1, .slice p2 D.ep.length q2, .slice p3 D.pe.length q3] _ rfl E.out.2.2 Try.underlying28 rfl (by kernel_rfl)) rfl ?_
    rw [HP1.out]
    exact ⟨_, rfl, E.out.1, E.out.2.1⟩
  replace g1 := Classical.not_not.mp g1
  have HP1 := hid (HP.out.trans (HFr.out.trans (if_pos g1)))
  have HG := hid (HRT.out g1)
  subst g1
  clear HRT HFr
  obtain ⟨gg, cc, ef⟩ : ∃ g c, Value.slice p1 D.sec.length q1 = .slice (some ⟨g, 0, none⟩) D.sec.length (c + 1) := by
    obtain ⟨_, _, _, ev, r1, _⟩ := I3.out.o
    cases ev
    exact r1.form (by have := HT.out.n1; omega)
  cases ef
  have HDB := hid (show ∀ g, DkB (.agg #[.slice (some ⟨gg, 0, none⟩) D.sec.length (cc + 1), .slice p2 D.ep.length q2, .slice p3 D.pe.length q3]) g → g < w3.heap.size from fun g hg => (I3.out.o.lt hg).2)
  have Hnn := hid I3.out.rn.lt
  have hgl : gg < w3.heap.size := HDB.out gg ⟨_, _, _, rfl, Or.inl rfl⟩
  have hsl : (D.sec.length : Int) ≤ 40 := by have := HT.out.n2; omega
  go_wp2_with fail
  refine (queuesOf w3 a3 c3 D.pe (wts_of HD3.out) HT.out.p40 HT.out.okK).mono ?_
  rintro e w4 ⟨rfl, ⟨nq, M, V, hnq, q⟩, b4⟩
  have HQ4 : Hid (∃ nq M V, nq ≤ 40 + 0 * 41 ∧ QM w4 (w3.heap.size + 1) w3.heap.size nq (qBut (qAt D.pe D.pe.length) x 0) M V) := ⟨nq, M, V, by omega, q.likeF (fun h s hk => (if_neg (fun z => by have := z.2; have := hk.2.1; omega)).symm)⟩
  have I4 := hid (I3.out.below b4)
  have hq4 := q.own.lt
  clear q b4 HD3 I3 k0 k1 k2 m0 m1 m2 f0 f1 f2 n0 n1 n2 n3
  have k0 := I4.out.ra.c 0 rfl
  go_wp2
  clear k0
  go_loopw [33] (fun i wr => ∃ (k : Nat) (l : List ByteArray), k ≤ D.sec.length ∧ i = .int .i64 (k : Int) ∧ Hid (SecK D x k l) ∧ Hid (ISt w (.slice a1 D.sec.length c1) (.slice a2 D.ep.length c2) (.slice a3 D.pe.length c3) w1.heap.size w2.heap.size (.slice (some ⟨gg, 0, none⟩) D.sec.length (cc + 1)) (.slice p2 D.ep.length q2) (.slice p3 D.pe.length q3) ⟨l, D.ep, D.pe⟩ wr) ∧ Hid (∃ nq M V, nq ≤ 40 + k * 41 ∧ QM wr (w3.heap.size + 1) w3.heap.size nq (qBut (qAt D.pe D.pe.length) x k) M V)) (fun i _ => D.sec.length - (intOf i).toNat)
  case atStart => exact ⟨0, D.sec, Nat.zero_le _, rfl, SecK.start D x, I4.out, HQ4.out⟩
  case round =>
    obtain ⟨k, l, hk, rfl, HSK, HI, HQ⟩ := hrel
    by_cases hlt : k < D.sec.length
    · have hok : OkK x (k : Int) := ⟨HG.out, Int.natCast_nonneg k, by omega⟩
      have HOK := hid hok
      obtain ⟨lk, hlkl⟩ := look_len w3.heap.size hok
      have HLK := hid hlkl
      clear hlkl
      obtain ⟨wo, hwo⟩ : ∃ wo, wo = wr := ⟨_, rfl⟩
      subst hwo
      obtain ⟨nr, Mr, Vr, hnr, qr⟩ := HQ.out
      obtain ⟨wk, hwk, ek, K0, Bk⟩ := one_new wo [.int .i64 x, .int .i64 (k : Int)] 71
      have IK := hid (HI.out.below Bk)
      have QK := qr.below Bk
      have hZl := qAt_len D.pe D.pe.length x (k : Int)
      have hp40 := HT.out.p40
      obtain ⟨Z, hZ⟩ : ∃ Z, qAt D.pe D.pe.length x (k : Int) = Z := ⟨_, rfl⟩
      rw [hZ] at hZl
      have HZ := hid hZ
      have hZmem := hid (show ∀ i, i ∈ Z → i < D.pe.length from fun i hi => by rw [← hZ] at hi; exact (qAt_mem hi).1)
      have HQK : Hid (∃ nq M V, nq ≤ 40 + k * 41 + 0 ∧ QM wk (w3.heap.size + 1) w3.heap.size nq (upd (qBut (qAt D.pe D.pe.length) x k) x (k : Int) (Z.drop 0)) M V ∧ ∀ h s y, OkK h s → rb (V h s) = some y → y < wo.heap.size) := ⟨nr, Mr, Vr, by omega, QK.likeF (fun h s hk' => by
        by_cases e : h = x ∧ s = (k : Int)
        · rw [e.1, e.2, upd_same, qBut_here, hZ]; rfl
        · rw [upd_other _ _ e]), fun h s y hk' hy => ((qr.row h s hk').lt hy).2⟩
      have HK0 := hid K0
      have hkr : w3.heap.size < wo.heap.size := qr.own.lt
      clear qr QK K0 Bk ek hZ hok HI HQ
      go_wp2
      clear hwk
      go_loopw [39] (fun _ wr => ∃ (j : Nat) (l : List ByteArray), j ≤ Z.length ∧ Hid (SecJ D x k (secAt D Z k j) l) ∧ Hid (ISt w (.slice a1 D.sec.length c1) (.slice a2 D.ep.length c2) (.slice a3 D.pe.length c3) w1.heap.size w2.heap.size (.slice (some ⟨gg, 0, none⟩) D.sec.length (cc + 1)) (.slice p2 D.ep.length q2) (.slice p3 D.pe.length q3) ⟨l, D.ep, D.pe⟩ wr) ∧ Hid (∃ nq M V, nq ≤ 40 + k * 41 + j ∧ QM wr (w3.heap.size + 1) w3.heap.size nq (upd (qBut (qAt D.pe D.pe.length) x k) x (k : Int) (Z.drop j)) M V ∧ ∀ h s y, OkK h s → rb (V h s) = some y → y < wo.heap.size) ∧ Hid (Row wr wo.heap.size [.int .i64 x, .int .i64 (k : Int)])) (fun _ wr => lk wr)
      case atStart => exact ⟨0, l, Nat.zero_le _, by rw [secAt_zero]; exact HSK.out.begin_, IK.out, HQK.out, HK0.out⟩
      case round =>
        obtain ⟨j, l', hj, HSJ, HIy, HQy, HKy⟩ := hrel
        obtain ⟨ny, My, Vy, hny, qy, hVy⟩ := HQy.out
        have z0 := HKy.out.c 0 rfl
        have z1 := HKy.out.c 1 rfl
        have hlk := qy.look HOK.out
        have hrow := qy.row x k HOK.out
        rw [upd_same] at hrow
        have hLL := hid (HLK.out _ _ _ _ _ _ qy)
        rw [upd_same] at hLL
        by_cases hjl : j < Z.length
        · have hdl : (Z.drop j).length = Z.length - j := List.length_drop
          obtain ⟨g, c, hv⟩ := hrow.form (by omega)
          have hc0 := q_cell hrow hv 0 (by omega)
          rw [show (Z.drop j).getD 0 0 = Z.getD j 0 from by simp [List.getD, List.getElem?_drop]] at hc0
          obtain ⟨mm, hmm⟩ : ∃ mm, (Z.drop j).length = mm + 1 := ⟨Z.length - j - 1, by omega⟩
          have hlkd : (Instr.lookup 68 (.map (some w3.heap.size)) (.agg #[.int .i64 x, .int .i64 (k : Int)]) false).run Try.prog wr = .ok (.slice (some ⟨g, 0, none⟩) (mm + 1) (c + 1)) wr := by rw [← hmm, ← hv]; exact hlk
          have hlke : (Instr.lookup 68 (.map (some w3.heap.size)) (.agg #[.int .i64 x, .int .i64 (k : Int)]) false).run Try.prog wr.drew = .ok (.slice (some ⟨g, 0, none⟩) (mm + 1) (c + 1)) wr.drew := by rw [← hmm, ← hv]; exact (qy.below ((Below.refl _ wr).drew)).look HOK.out
          have hzm := hZmem.out (Z.getD j 0) (by rw [List.getD_eq_getElem?_getD, List.getElem?_eq_getElem hjl]; exact List.getElem_mem hjl)
          have hse := hid (secAt_succ D Z k j)
          have hHH := HH.out.below HIy.out.bel
          generalize Z.getD j 0 = zz at *
          have hz1 : (zz : Int) < (D.pe.length : Int) := by omega
          have hz0 : (0 : Int) ≤ (zz : Int) := Int.natCast_nonneg zz
          obtain ⟨b3, o3, ea, _, _, _, x3⟩ := Wts.at_ (wts_of hHH) zz hzm
          subst ea
          generalize (D.pe.getD zz Wt.none).text = tt at *
          obtain ⟨⟨us, hcu⟩, hfu⟩ := HIy.out.secCell (i := k) (by rw [HSJ.out.len]; exact hlt)
          have n0 := HIy.out.rn.c 0 rfl
          have k2 := HIy.out.ra.c 2 rfl
          have hkI : (k : Int) < (D.sec.length : Int) := by omega
          have hk0 : (0 : Int) ≤ (k : Int) := Int.natCast_nonneg k
          have hmb : (mm : Int) ≤ 1000 := by omega
          have HQY := hid qy
          have HVY := hid hVy
          have HRW := hid hrow
          have HLN := hid hmm
          have HDL := hid hdl
          clear hlk hrow hv hHH qy hVy hdl hmm
          go_wp2
          go_region
          have D5 := (Below.refl (wr.setCell ⟨gg, k, none⟩ (.string tt)).heap.size (wr.setCell ⟨gg, k, none⟩ (.string tt))).drew
          have I5 := hid ((HIy.out.setSec (i := k) (by rw [HSJ.out.len]; exact hlt) tt).below D5)
          have Q5 := hid ((HQY.out.other gg k (.string tt) hgl).below D5)
          have KO := HKy.out.other (p := ⟨gg, k, none⟩) (by show wo.heap.size ≠ gg; omega) (.string tt)
          have K5 := hid (KO.below D5 KO.lt)
          clear D5 KO z0 z1 hc0 hlkd hlke x3 hcu hfu n0 k2 HIy HKy HQY
          generalize (wr.setCell ⟨gg, k, none⟩ (.string tt)).drew = w5 at *
          have z0 := K5.out.c 0 rfl
          have z1 := K5.out.c 1 rfl
          have hrw5 := hid (Q5.out.row x k HOK.out)
          go_wp2_with fail
          refine (takeS w5 (w3.heap.size + 1) w3.heap.size ny _ My Vy Q5.out x k HOK.out 0 (by rw [upd_same]; have := HLN.out; omega) (by omega) (by omega)).mono ?_
          rintro e w6 ⟨rfl, ⟨M6, V6, q6, hV6⟩, k6⟩
          have hS6 : ∀ y, (y = w3.heap.size ∨ rb (Vy x k) = some y) → w3.heap.size ≤ y := fun y hy => by
            rcases hy with e | e
            · omega
            · have := (hrw5.out.lt e).1
              omega
          have hS7 : ¬ (wo.heap.size = w3.heap.size ∨ rb (Vy x k) = some wo.heap.size) := fun hy => by
            rcases hy with e | e
            · omega
            · have := HVY.out x k _ HOK.out e
              omega
          have HI6 := hid (I5.out.kept k6 w3.heap.size Hnn.out HDB.out hS6)
          have HK6 := hid (K5.out.kept k6 hS7)
          have q7 : QM w6 (w3.heap.size + 1) w3.heap.size (ny + 1) (upd (qBut (qAt D.pe D.pe.length) x k) x (k : Int) (Z.drop (j + 1))) M6 V6 := q6.likeF (fun h s hk' => by
            by_cases e : h = x ∧ s = (k : Int)
            · rw [e.1, e.2, upd_same, upd_same, upd_same, List.eraseIdx_zero, List.tail_drop]
            · rw [upd_other _ _ e, upd_other _ _ e, upd_other _ _ e])
          have HQ7 := hid q7
          have HV7 := hid (fun h s y hk' hy => HVY.out h s y hk' (hV6 h s y hy))
          clear q6 q7 hV6 k6 z0 z1
          go_wp2
          have hm6 := HLK.out _ _ _ _ _ _ HQ7.out
          rw [upd_same] at hm6
          exact ⟨⟨j + 1, l'.set k tt, by omega, by rw [hse.out]; exact HSJ.out.set hlt, HI6.out, ⟨ny + 1, M6, V6, by omega, HQ7.out, HV7.out⟩, HK6.out⟩, by rw [hm6, hLL.out, List.length_drop, List.length_drop]; omega⟩
        · obtain rfl : j = Z.length := by omega
          have hdn : Z.drop Z.length = [] := List.drop_length
          rw [hdn] at hrow
          obtain ⟨va, vc, hv, _⟩ := hrow.wr
          have hlkd : (Instr.lookup 68 (.map (some w3.heap.size)) (.agg #[.int .i64 x, .int .i64 (k : Int)]) false).run Try.prog wr = .ok (.slice va 0 vc) wr := by rw [show (Value.slice va 0 vc) = Vy x k from hv.symm]; exact hlk
          have HSK2 : Hid (SecK D x (k + 1) l') := by
            have e := secAt_all D x k
            rw [HZ.out] at e
            have h := HSJ.out
            rw [e] at h
            exact h.end_
          have HQ8 : Hid (QM wr (w3.heap.size + 1) w3.heap.size ny (qBut (qAt D.pe D.pe.length) x (k + 1)) My Vy) := qy.likeF (fun h s hk' => by rw [hdn]; exact (qBut_succ (qAt D.pe D.pe.length) x k h s hk').symm)
          clear hlk hrow hv qy hVy
          go_wp2
          exact ⟨⟨k + 1, l', by omega, by go_num, HSK2.out, HIy.out, ⟨ny, My, Vy, by omega, HQ8.out⟩⟩, by simp [intOf]; omega⟩
    · obtain rfl : k = D.sec.length := by omega
      obtain ⟨nr, Mr, Vr, hnr, qr⟩ := HQ.out
      have HQR := hid qr
      have HDr := hid (HH.out.below HI.out.bel)
      have k2 := HI.out.ra.c 2 rfl
      have HLl := hid (HSK.out.all (fun y hy => (HT.out.pm y hy).2.2.1))
      clear qr
      go_wp2_with fail
      refine (left wr (w3.heap.size + 1) w3.heap.size nr _ Mr Vr HQR.out a3 c3 D.pe (wts_of HDr.out) HT.out.p40 HT.out.okK (qOk_but D.pe x D.sec.length)).mono ?_
      rintro e w8 ⟨v8, rfl, r8, b8⟩
      rw [left_but D.pe x D.sec.length (fun j hj => (HT.out.p j hj).2.2.2.1)] at r8
      obtain ⟨p8, c8, e8, _⟩ := r8.wr
      subst e8
      have I9 := hid (HI.out.setPend b8 r8)
      have I8 := hid (HI.out.below b8)
      obtain ⟨w9, hw9⟩ : ∃ w9, w8.setCell ⟨w2.heap.size, 2, none⟩ (.slice p8 (others D.pe x).length c8) = w9 := ⟨_, rfl⟩
      rw [hw9] at I9
      have E := hid I9.out.done
      clear r8 b8 k2
      have t2 := I8.out.rn.c 2 rfl
      have t3 := I8.out.rn.f 2
      obtain ⟨k0, k1, k2, m0, m1, m2, f0, f1, f2, j0, j1, j2, j3⟩ := I9.out.cells
      go_wp2
      refine bodyPost_ret (results_row2 rfl _ _ (w.heap.size + 1) [.slice (some ⟨gg, 0, none⟩) D.sec.length (cc + 1), .slice p2 D.ep.length q2, .slice p8 (others D.pe x).length c8] _ rfl E.out.2.2 Try.underlying28 rfl (by kernel_rfl)) rfl ?_
      rw [HP1.out, ← HLl.out]
      exact ⟨_, rfl, E.out.1, E.out.2.1⟩

end Go.Proofs.Ytnkipjlkhnmilaa.Mem

namespace Go.Proofs.Ytnkipjlkhnmilaa.Mem
open Go.RowKit
set_option linter.unusedVariables false

theorem wts_ofL {w : World} {a1 a2 a3 : Option Addr} {n1 n2 n3 c1 c2 c3 : Nat} {D : Dk} (h : DkR w (.agg #[.slice a1 n1 c1, .slice a2 n2 c2, .slice a3 n3 c3]) D) : Wts w a3 D.pe := by
  obtain ⟨_, _, _, _, _, _, e, _, _, s3⟩ := h
  cases e
  exact s3

theorem ISt.secCellL {w : World} {a0 a1 a2 : Value} {B nn : Nat} {p0 : Value} {p1 p2 : Value} {E : Dk} {wk : World} (h : ISt w a0 a1 a2 B nn p0 p1 p2 E wk) {i : Nat} (hi : i < E.sec.length) :
    ∃ g c, p0 = .slice (some ⟨g, 0, none⟩) E.sec.length (c + 1) ∧ (∃ u, wk.cell? ⟨g, i, none⟩ = some u) ∧ wk.frozen? ⟨g, i, none⟩ = false ∧ B ≤ g ∧ g ≠ nn ∧ g < wk.heap.size := by
  have ho := h.o
  obtain ⟨_, _, _, ev, r1, _⟩ := ho
  cases ev
  obtain ⟨g, c, e⟩ := r1.form (by omega)
  subst e
  obtain ⟨aa, cp, e1, hw⟩ := r1.wr
  cases e1
  obtain ⟨b, off, e2, _, hc2, hf2⟩ := hw i (by omega)
  cases e2
  rw [Nat.zero_add] at hc2 hf2
  have hl := h.o.lt (b := g) ⟨_, _, _, rfl, Or.inl rfl⟩
  exact ⟨g, c, rfl, ⟨_, hc2⟩, hf2, hl.1, h.far g ⟨_, _, _, rfl, Or.inl rfl⟩, hl.2⟩

/-- The queues stay while a sector is stored. -/
theorem QM.otherL {w : World} {B b n : Nat} {Q : Int → Int → List Nat} {D : DataW Value} {V : Int → Int → Value} (q : QM w B b n Q D V) (g i : Nat) (v : Value) (hg : g < b) : QM (w.setCell ⟨g, i, none⟩ v) B b n Q D V :=
  q.kept (kept_set w g i v) (by omega) (fun h s g' hk hg' e => by have := ((q.row h s hk).lt hg').1; have := q.lt; omega)

set_option maxRecDepth 100000 in
set_option maxHeartbeats 4000000 in
theorem implLand (w : World) (v : Value) (D : Dk) (i : Int) (h : DkR w v D) (hd : D.Held) (hs : D.Small 1048576) :
    Calls Try.prog 16 #[v, .int .i64 i] w fun e w' => ∃ v', e = .returned (.tuple #[v', .bool (D.landA i).2]) ∧ DkW w' w.heap.size v' (D.landA i).1 ∧ Below w.heap.size w w' := by
  have HH := hid h
  have HD := hid hd
  have HS := hid hs
  obtain ⟨a1, c1, a2, c2, a3, c3, rfl, _, _, _⟩ := h
  clear hd hs
  obtain ⟨wb, hwb, ez, A0, R0, B0⟩ := two_new w [.slice a1 D.sec.length c1, .slice a2 D.ep.length c2, .slice a3 D.pe.length c3] [.slice none 0 0, .slice none 0 0, .slice none 0 0] 28 28
  have k0 := A0.c 0 rfl
  have k1 := A0.c 1 rfl
  have k2 := A0.c 2 rfl
  go_enter Try.func16, Try.ntmps16
  go_wp2_with fail
  refine (implDiskOk wb _ D (HH.out.below B0) HD.out).mono ?_
  rintro e w1 ⟨rfl, b1⟩
  have HA := hid (A0.below b1 A0.lt)
  have HR := hid (R0.below b1 R0.lt)
  have HB := hid (B0.trans (b1.mono B0.size))
  clear A0 R0 B0 b1 hwb ez k0 k1 k2
  have m0 := HR.out.c 0 rfl
  have m1 := HR.out.c 1 rfl
  have m2 := HR.out.c 2 rfl
  have f0 := HR.out.f 0
  have f1 := HR.out.f 1
  have f2 := HR.out.f 2
  by_cases hr : ¬ D.right = true
  · have HP : Hid (D.landA i = (Dk.nil, false)) := if_neg hr
    have hr' : D.right = false := by simpa using hr
    clear hr
    have E := hid (wrap_bad HB.out HR.out)
    go_wp2
    refine bodyPost_ret (results_row2 rfl _ _ (w.heap.size + 1) [.slice none 0 0, .slice none 0 0, .slice none 0 0] _ rfl E.out.2.2 Try.underlying28 rfl (by kernel_rfl)) rfl ?_
    rw [HP.out]
    exact ⟨_, rfl, E.out.1, E.out.2.1⟩
  replace hr := Classical.not_not.mp hr
  have HP : Hid (D.landA i = D.land i) := if_pos hr
  have HT := hid (Dk.of_right hr)
  have k0 := HA.out.c 0 rfl
  have k1 := HA.out.c 1 rfl
  have k2 := HA.out.c 2 rfl
  go_wp2_with fail
  refine (copyDisk w1 _ D (HH.out.below HB.out) HS.out.c1 HS.out.c2 HS.out.c3).mono ?_
  rintro e w2 ⟨v2, rfl, O2, b2⟩
  have HO2 := hid O2
  obtain ⟨u1, u2, u3, rfl, r1, r2, r3, _, _⟩ := O2
  obtain ⟨p1, q1, e1, _⟩ := r1.wr
  obtain ⟨p2, q2, e2, _⟩ := r2.wr
  obtain ⟨p3, q3, e3, _⟩ := r3.wr
  subst e1; subst e2; subst e3
  clear r1 r2 r3 m0 m1 m2 f0 f1 f2 k0 k1 k2
  obtain ⟨wn, hwn, en, N0, Bn⟩ := one_new w2 [.slice p1 D.sec.length q1, .slice p2 D.ep.length q2, .slice p3 D.pe.length q3] 28
  have I := hid (ISt.start HB.out HA.out HR.out HO2.out b2 N0 Bn)
  have HDn := hid (HH.out.below I.out.bel)
  clear HO2 b2 N0 Bn en HA HR HB
  obtain ⟨k0, k1, k2, m0, m1, m2, f0, f1, f2, n0, n1, n2, n3⟩ := I.out.cells
  have hd3 : (D.pe.length : Int) ≤ 40 := by have := HT.out.p40; omega
  by_cases g1 : i < 0
  · have HP1 := hid (HP.out.trans (if_neg (fun q => by have := q.1; omega)))
    have E := hid I.out.done
    go_wp2
    refine bodyPost_ret (results_row2 rfl _ _ (w.heap.size + 1) [.slice p1 D.sec.length q1, .slice p2 D.ep.length q2, .slice p3 D.pe.length q3] _ rfl E.out.2.2 Try.underlying28 rfl (by kernel_rfl)) rfl ?_
    rw [HP1.out]
    exact ⟨_, rfl, E.out.1, E.out.2.1⟩
  by_cases g2 : (D.pe.length : Int) ≤ i
  · have HP1 := hid (HP.out.trans (if_neg (fun q => by have := q.2.1; omega)))
    have E := hid I.out.done
    go_wp2
    refine bodyPost_ret (results_row2 rfl _ _ (w.heap.size + 1) [.slice p1 D.sec.length q1, .slice p2 D.ep.length q2, .slice p3 D.pe.length q3] _ rfl E.out.2.2 Try.underlying28 rfl (by kernel_rfl)) rfl ?_
    rw [HP1.out]
    exact ⟨_, rfl, E.out.1, E.out.2.1⟩
  obtain ⟨m, rfl⟩ : ∃ m : Nat, i = (m : Int) := Int.eq_ofNat_of_zero_le (by omega)
  have hml : m < D.pe.length := by omega
  have hm0 : (0 : Int) ≤ (m : Int) := Int.natCast_nonneg m
  obtain ⟨b3, o3, rfl, x0, x1, x2, x3⟩ := Wts.at_ (wts_ofL HDn.out) m hml
  have hok := HT.out.okK m hml
  have hpm := HT.out.p m hml
  have hfirst := hid (first_q D.pe m hml)
  have hleft := hid (left_erase D.pe m 0 hml)
  have hmem := hid (mem_qAt hml)
  have HLd := hid (show D.land (m : Int) = if 0 ≤ (m : Int) ∧ (m : Int) < (D.pe.length : Int) ∧ ∀ j, j < (m : Int).toNat → ¬ ((D.pe.getD j Wt.none).host = (D.pe.getD (m : Int).toNat Wt.none).host ∧ (D.pe.getD j Wt.none).sector = (D.pe.getD (m : Int).toNat Wt.none).sector) then (⟨D.sec.set (D.pe.getD (m : Int).toNat Wt.none).sector.toNat (D.pe.getD (m : Int).toNat Wt.none).text, D.ep, D.pe.eraseIdx (m : Int).toNat⟩, true) else (D, false) from rfl)
  simp only [Int.toNat_natCast] at HLd
  generalize D.pe.getD m Wt.none = u at *
  obtain ⟨xh, xe, xs, xt⟩ := u
  simp only [] at x0 x1 x2 x3 hok hpm hfirst hleft hmem HLd
  obtain ⟨sn, rfl⟩ : ∃ n : Nat, xs = (n : Int) := Int.eq_ofNat_of_zero_le hpm.2.2.1
  have hsl : (sn : Int) < (D.sec.length : Int) := hpm.2.2.2.1
  have hs0 : (0 : Int) ≤ (sn : Int) := Int.natCast_nonneg sn
  have HK := hid hok
  clear hok hpm
  obtain ⟨wk, hwk, ek, K0, K1, Bk⟩ := two_new wn [.int .i64 xh, .int .i64 xe, .int .i64 (sn : Int), .string xt] [.int .i64 xh, .int .i64 (sn : Int)] 44 71
  have IK := hid (I.out.below Bk)
  have HDk := hid (HDn.out.below Bk)
  have HK0 := hid K0
  have HK1 := hid K1
  have kk2 := IK.out.ra.c 2 rfl
  clear K0 K1 Bk ek
  go_wp2_with fail
  refine (queuesOf wk (some ⟨b3, o3, none⟩) c3 D.pe (wts_ofL HDk.out) HT.out.p40 HT.out.okK).mono ?_
  rintro e w4 ⟨rfl, ⟨nq, M, V, hnq, q⟩, b4⟩
  have I4 := hid (IK.out.below b4)
  have HB4 := hid b4
  have hlk : (Instr.lookup 68 (.map (some wk.heap.size)) (.agg #[.int .i64 xh, .int .i64 (sn : Int)]) false).run Try.prog w4 = .ok (V xh sn) w4 := q.look HK.out
  have hrow := q.row xh sn HK.out
  obtain ⟨Z, hZ⟩ : ∃ Z, qAt D.pe D.pe.length xh (sn : Int) = Z := ⟨_, rfl⟩
  rw [hZ] at hrow hfirst hleft hmem
  have hZp : 0 < Z.length := List.length_pos_iff.2 (fun e => by have := hmem.out; rw [e] at this; simp at this)
  obtain ⟨g, c, hv⟩ := hrow.form hZp
  have hc0 := q_cell hrow hv 0 hZp
  rw [hv] at hlk
  have HQ := hid q
  have HZ := hid hZ
  have HK0' := hid (HK0.out.below b4 HK0.out.lt)
  have HK1' := hid (HK1.out.below b4 HK1.out.lt)
  have y2 := HK0'.out.c 2 rfl
  have y3 := HK0'.out.c 3 rfl
  have z0 := HK1'.out.c 0 rfl
  have z1 := HK1'.out.c 1 rfl
  clear q hrow hv hZ b4 hwk hwn kk2 x0 x1 x2 x3 k0 k1 k2 m0 m1 m2 f0 f1 f2 n0 n1 n2 n3
  obtain ⟨k0, k1, k2, m0, m1, m2, f0, f1, f2, n0, n1, n2, n3⟩ := I4.out.cells
  generalize hz0 : Z.getD 0 0 = zz at hc0 hfirst hleft
  by_cases g3 : ¬ zz = m
  · have HP1 := hid (HP.out.trans (HLd.out.trans (if_neg (fun q => g3 (hfirst.out.2 q.2.2)))))
    have E := hid I4.out.done
    have g3' : ¬ (zz : Int) = (m : Int) := fun e => g3 (by omega)
    clear g3
    go_wp2
    refine bodyPost_ret (results_row2 rfl _ _ (w.heap.size + 1) [.slice p1 D.sec.length q1, .slice p2 D.ep.length q2, .slice p3 D.pe.length q3] _ rfl E.out.2.2 Try.underlying28 rfl (by kernel_rfl)) rfl ?_
    rw [HP1.out]
    exact ⟨_, rfl, E.out.1, E.out.2.1⟩
  replace g3 := Classical.not_not.mp g3
  have HP1 := hid (HP.out.trans (HLd.out.trans (if_pos ⟨hm0, by omega, hfirst.out.1 g3⟩)))
  have HLW := hid (hleft.out hZp g3)
  clear hleft hfirst hmem
  rw [g3] at hc0
  clear g3
  go_wp2_with fail
  refine (take w4 (wk.heap.size + 1) wk.heap.size nq _ M V HQ.out xh sn HK.out 0 (by rw [HZ.out]; exact hZp) (by omega) (by omega)).mono ?_
  rintro e w5 ⟨rfl, ⟨M5, V5, q5⟩, k5⟩
  rw [HZ.out] at q5
  have hkw : wk.heap.size < w4.heap.size := HQ.out.own.lt
  have HB5 := hid (HB4.out.trans (k5.below (by omega) (fun gg hg e => by rcases e with e | e <;> omega)))
  have I5 := hid (IK.out.below HB5.out)
  have HK0'' := hid (HK0.out.below HB5.out HK0.out.lt)
  have HQ5 := hid q5
  clear q5 k5 hc0 hlk z0 z1 y2 y3 k0 k1 k2 m0 m1 m2 f0 f1 f2 n0 n1 n2 n3 hz0
  obtain ⟨gg, cc, ef, ⟨us, hcu⟩, hfu, hgB, hgn, hgl⟩ := IK.out.secCellL (i := sn) (by omega)
  cases ef
  have hcu5 := (HB5.out.cell (p := ⟨gg, sn, none⟩) hgl).trans hcu
  have hfu5 := (HB5.out.frozen (p := ⟨gg, sn, none⟩) hgl).trans hfu
  have I6 := hid (I5.out.setSec (i := sn) (by omega) xt)
  have HQ6 := hid (HQ5.out.otherL gg sn (.string xt) hgl)
  obtain ⟨w6, hw6⟩ : ∃ w6, w5.setCell ⟨gg, sn, none⟩ (.string xt) = w6 := ⟨_, rfl⟩
  rw [hw6] at I6 HQ6
  have y2 := HK0''.out.c 2 rfl
  have y3 := HK0''.out.c 3 rfl
  have n0 := I5.out.rn.c 0 rfl
  have k2 := I6.out.ra.c 2 rfl
  have HD6 := hid (HH.out.below I6.out.bel)
  clear hcu hfu
  go_wp2_with fail
  refine (left w6 (wk.heap.size + 1) wk.heap.size _ _ M5 V5 HQ6.out (some ⟨b3, o3, none⟩) c3 D.pe (wts_ofL HD6.out) HT.out.p40 HT.out.okK (by rw [← HZ.out]; exact qOk_erase D.pe xh sn 0)).mono ?_
  rintro e w7 ⟨v7, rfl, r7, b7⟩
  rw [HLW.out] at r7
  obtain ⟨p7, c7, e7, _⟩ := r7.wr
  subst e7
  have I8 := hid (I6.out.setPend b7 r7)
  have I7 := hid (I6.out.below b7)
  obtain ⟨w8, hw8⟩ : ∃ w8, w7.setCell ⟨w2.heap.size, 2, none⟩ (.slice p7 (D.pe.eraseIdx m).length c7) = w8 := ⟨_, rfl⟩
  rw [hw8] at I8
  have E := hid I8.out.done
  clear r7 b7 hw6 hcu5 hfu5 y2 y3 n0 k2
  have n2 := I7.out.rn.c 2 rfl
  have n3 := I7.out.rn.f 2
  obtain ⟨k0, k1, k2, m0, m1, m2, f0, f1, f2, j0, j1, j2, j3⟩ := I8.out.cells
  go_wp2
  refine bodyPost_ret (results_row2 rfl _ _ (w.heap.size + 1) [.slice (some ⟨gg, 0, none⟩) D.sec.length (cc + 1), .slice p2 D.ep.length q2, .slice p7 (D.pe.eraseIdx m).length c7] _ rfl E.out.2.2 Try.underlying28 rfl (by kernel_rfl)) rfl ?_
  rw [HP1.out]
  exact ⟨_, rfl, E.out.1, E.out.2.1⟩

end Go.Proofs.Ytnkipjlkhnmilaa.Mem
