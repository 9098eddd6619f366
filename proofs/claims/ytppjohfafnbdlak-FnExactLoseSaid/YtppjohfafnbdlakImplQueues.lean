/-
  The walk of impl.queuesOf: at each host and sector the numbers of its writes, in their order. No condition but a list of at most 40 writes of hosts and sectors in range.
-/
import Derived.Test.YtppjohfafnbdlakQueues
import Derived.Test.YtppjohfafnbdlakDkPut
namespace Go.Proofs.Ytppjohfafnbdlak.Mem
open Go.RowKit
set_option linter.unusedVariables false

/-- The numbers of the first k writes that are one host's to one sector. -/
def qAt (l : List Wt) (k : Nat) (h s : Int) : List Nat := (List.range k).filter (fun i => decide ((l.getD i Wt.none).host = h ∧ (l.getD i Wt.none).sector = s))

theorem qAt_zero (l : List Wt) : qAt l 0 = fun _ _ => [] := by funext h s; rfl
theorem qAt_succ (l : List Wt) (k : Nat) : qAt l (k + 1) = upd (qAt l k) (l.getD k Wt.none).host (l.getD k Wt.none).sector (qAt l k (l.getD k Wt.none).host (l.getD k Wt.none).sector ++ [k]) := by
  funext h s
  unfold upd qAt
  rw [List.range_succ, List.filter_append]
  by_cases e : h = (l.getD k Wt.none).host ∧ s = (l.getD k Wt.none).sector
  · rw [if_pos e]
    obtain ⟨rfl, rfl⟩ := e
    simp
  · rw [if_neg e]
    have : decide ((l.getD k Wt.none).host = h ∧ (l.getD k Wt.none).sector = s) = false := decide_eq_false (fun q => e ⟨q.1.symm, q.2.symm⟩)
    simp only [List.filter_cons, this, List.filter_nil]
    simp
theorem qAt_len (l : List Wt) (k : Nat) (h s : Int) : (qAt l k h s).length ≤ k := by
  unfold qAt
  have := List.length_filter_le (fun i => decide ((l.getD i Wt.none).host = h ∧ (l.getD i Wt.none).sector = s)) (List.range k)
  simpa using this

theorem qCells_snoc (l : List Nat) (x : Nat) : qCells (l ++ [x]) = qCells l ++ [.int .i64 (x : Int)] := by simp [qCells]
theorem qCells_length (l : List Nat) : (qCells l).length = l.length := by simp [qCells]

/-- Three blocks laid one behind the other. -/
theorem three_any (w : World) (xs ys zs : List Value) (t u r : TypeId) :
    ∃ wc, ((w.alloc (.cells xs.toArray t)).alloc (.cells ys.toArray u)).alloc (.cells zs.toArray r) = wc ∧ wc.heap.size = w.heap.size + 1 + 1 + 1 ∧ Row wc (w.heap.size + 1 + 1) zs ∧ Below w.heap.size w wc := by
  have e0 : (w.alloc (.cells xs.toArray t)).heap.size = w.heap.size + 1 := by simp
  have e1 : ((w.alloc (.cells xs.toArray t)).alloc (.cells ys.toArray u)).heap.size = w.heap.size + 1 + 1 := by simp
  have r2 := Row.new ((w.alloc (.cells xs.toArray t)).alloc (.cells ys.toArray u)) zs r
  rw [e1] at r2
  exact ⟨_, rfl, by simp, r2, (((Below.refl _ _).alloc (Nat.le_refl _) _).alloc (by omega) _).alloc (by omega) _⟩

set_option maxRecDepth 100000 in
set_option maxHeartbeats 2000000 in
theorem queuesOf (w : World) (a : Option Addr) (cap : Nat) (l : List Wt) (S : Wts w a l) (hl : l.length ≤ 40) (hk : ∀ j, j < l.length → OkK (l.getD j Wt.none).host (l.getD j Wt.none).sector) :
    Calls Try.prog 38 #[.slice a l.length cap] w fun e w' => e = .returned (.map (some w.heap.size)) ∧ (∃ n D V, n ≤ 40 ∧ QM w' (w.heap.size + 1) w.heap.size n (qAt l l.length) D V) ∧ Below w.heap.size w w' := by
  have HS := hid S
  have HK := hid hk
  clear S hk
  have hmm := @run_makeMap Try.prog
  obtain ⟨wm, hwm⟩ : ∃ wm, w.alloc (.map #[] 0) = wm := ⟨_, rfl⟩
  have HM : Hid (QM wm (w.heap.size + 1) w.heap.size 0 (fun _ _ => []) (.map []) (fun _ _ => nilv)) := by rw [← hwm]; exact QM.made w
  have HB : Hid (Below w.heap.size w wm) := by rw [← hwm]; exact (Below.refl _ _).alloc (Nat.le_refl _) _
  have HZ : Hid (wm.heap.size = w.heap.size + 1) := by rw [← hwm]; exact (by simp : (w.alloc (.map #[] 0)).heap.size = w.heap.size + 1)
  go_enter Try.func38, Try.ntmps38
  go_wp2
  clear hwm hmm
  go_loopw [10] (fun i wr => ∃ k : Nat, k ≤ l.length ∧ i = .int .i64 (k : Int) ∧ Hid (∃ D V, QM wr (w.heap.size + 1) w.heap.size k (qAt l k) D V) ∧ Hid (Below w.heap.size w wr) ∧ Hid (w.heap.size + 1 ≤ wr.heap.size)) (fun i _ => l.length - (intOf i).toNat)
  case atStart => exact ⟨0, Nat.zero_le _, rfl, ⟨_, _, by rw [qAt_zero]; exact HM.out⟩, HB.out, by rw [HZ.out]; exact Nat.le_refl _⟩
  case round =>
    obtain ⟨k, hk, rfl, HQ, HBw, HZw⟩ := hrel
    by_cases hlt : k < l.length
    · obtain ⟨D, V, hq⟩ := HQ.out
      have hkk := HK.out k hlt
      have hsu := hid (qAt_succ l k)
      obtain ⟨b, off, rfl, x0, x1, x2, x3⟩ := Wts.at_ (HS.out.below HBw.out) k hlt
      generalize hx : l.getD k Wt.none = x at *
      obtain ⟨xh, xe, xs, xt⟩ := x
      simp only [] at x0 x1 x2 x3 hkk hsu
      obtain ⟨wc, hwc, ec, R2, Bc⟩ := three_any wr [.int .i64 xh, .int .i64 xe, .int .i64 xs, .string xt] [.int .i64 xh, .int .i64 xs] [.int .i64 (k : Int)] 72 66 3
      have hqc := hq.below Bc
      obtain ⟨st, w1, hen, k1, e1, hst⟩ := hqc.entry hkk (by unfold maxLen; omega)
      have hrow := hid ((hqc.row xh xs hkk).kept k1 (fun g hg e => by have := ((hqc.row xh xs hkk).lt hg).1; have := hqc.lt; omega))
      obtain ⟨pa, pc, pe, _⟩ := (hqc.row xh xs hkk).wr
      have hql := qAt_len l k xh xs
      have hlies := hid (show w.heap.size + 1 ≤ w1.heap.size from by rw [e1, ec]; have := HZw.out; omega)
      have R2' := R2.kept k1 (by have := HZw.out; omega)
      have HSl : Hid (Sl w1 (some ⟨wr.heap.size + 1 + 1, 0, none⟩) (1 * 1) (fun i => [Value.int .i64 (k : Int)].getD i undef)) := fun i hi => by
        have : i = 0 := by omega
        subst this
        exact ⟨_, _, rfl, R2'.c 0 rfl⟩
      have HST := hid hst
      have HB1 := hid ((HBw.out.trans (Bc.mono HBw.out.size)).trans (k1.below (by have := HBw.out.size; have := Bc.size; omega) (fun c hc e => by omega)))
      have HE1 := hid e1
      rw [show V xh xs = .slice pa (qAt l k xh xs).length pc from pe] at hen hrow HST
      have hPE := hid pe
      replace hen : (Instr.mapEntry 63 (.map (some w.heap.size)) (.agg #[.int .i64 xh, .int .i64 xs])).run Try.prog wc = .ok (.tuple #[.slice pa (qAt l k xh xs).length pc, .int .i64 (st : Int)]) w1 := hen
      have HQC := hid hqc
      have HBC := hid Bc
      have HEC := hid ec
      clear hq hqc hst Bc R2 R2' k1 pe e1 ec
      generalize hZ : qAt l k xh xs = Z at *
      have HZ1 := hid hZ
      clear hZ
      go_wp2_with (at_builtin; refine wpList_app 23 3 (.int .i64 0) 1 8 Try.underlying23 info3' rfl (by decide) (by decide) _ rfl (.tmp 22) (.tmp 24) rfl (w.heap.size + 1) _ Z.length (qCells Z) rfl hrow.out ⟨wr.heap.size + 1 + 1, 0, none⟩ 1 1 [.int .i64 (k : Int)] rfl rfl HSl.out (by intro u hu; simp at hu; subst hu; rfl) (by omega) hlies.out ?_; intro v' w2 r' kk hi; obtain ⟨y, c', e', _⟩ := r'.wr; subst e'; obtain ⟨w3, hr3, q3, k3⟩ := HST.out w2 (.slice y (Z.length + 1) c') (Z ++ [k]) (by simp) kk (by rw [List.length_append]; rw [qCells_snoc]; exact r') (by rcases hi with h | h | h; exact Or.inl h; exact Or.inr (Or.inl h); exact Or.inr (Or.inr ⟨_, h.1, Nat.le_of_eq HE1.out.symm⟩)); replace hr3 : (Instr.entryStore 63 (.map (some w.heap.size)) (.int .i64 (st : Int)) (.slice y (Z.length + 1) c')).run Try.prog w2 = .ok () w3 := hr3; have HQ3 := hid q3; have HK3 := hid k3; have HKK := hid kk; clear r' kk hi q3 k3)
      have s2 := HKK.out.size
      have s3 := HK3.out.size
      have s1 := hlies.out
      exact ⟨⟨k + 1, by omega, by go_num, ⟨_, _, by rw [hsu.out]; exact HQ3.out⟩, (HB1.out.trans (HKK.out.below HB1.out.size (fun g hg e => by have := (hrow.out.lt e).1; omega))).trans (HK3.out.below (Nat.le_trans HB1.out.size s2) (fun g hg e => by omega)), hid (by omega)⟩, by simp [intOf]; omega⟩
    obtain rfl : k = l.length := by omega
    go_wp2
    go_ret
    obtain ⟨D, V, hq⟩ := HQ.out
    exact ⟨rfl, ⟨_, _, _, hl, hq⟩, HBw.out⟩

end Go.Proofs.Ytppjohfafnbdlak.Mem
