/-
  The walk of impl.Peek: it answers as spec.Peek does, and nothing that was there is changed. No condition.
-/
import Derived.Test.YtppjohfafnbdlajImplQueues
import Derived.Test.YtppjohfafnbdlajImplOk2
import Derived.Test.YtppjohfafnbdlajPeekLaw
import Derived.Test.YtppjohfafnbdlajWrapEnd
import Derived.Test.YtppjohfafnbdlajDkSwap
namespace Go.Proofs.Ytppjohfafnbdlaj.Mem
open Go.RowKit
set_option linter.unusedVariables false

/-- What a host sees is the last of its writes, or what stands. -/
theorem see_q (D : Dk) (h s : Int) : ∀ k, D.see h s k = match (qAt D.pe k h s).getLast? with | some i => (D.pe.getD i Wt.none).text | none => D.sec.getD s.toNat ByteArray.empty
  | 0 => rfl
  | k + 1 => by
    have e := congrFun (congrFun (qAt_succ D.pe k) h) s
    have ih := see_q D h s k
    show (if (D.pe.getD k Wt.none).host = h ∧ (D.pe.getD k Wt.none).sector = s then (D.pe.getD k Wt.none).text else D.see h s k) = _
    by_cases c : (D.pe.getD k Wt.none).host = h ∧ (D.pe.getD k Wt.none).sector = s
    · rw [if_pos c, e, ← c.1, ← c.2, upd_same]
      simp
    · rw [if_neg c, e, upd_other _ _ (fun q => c ⟨q.1.symm, q.2.symm⟩)]
      exact ih

theorem qAt_mem {l : List Wt} {k : Nat} {h s : Int} {i : Nat} (hi : i ∈ qAt l k h s) : i < k ∧ (l.getD i Wt.none).host = h ∧ (l.getD i Wt.none).sector = s := by
  unfold qAt at hi
  obtain ⟨h1, h2⟩ := List.mem_filter.1 hi
  have := of_decide_eq_true h2
  exact ⟨by simpa using h1, this.1, this.2⟩

theorem Dk.Right.okK {D : Dk} (h : D.Right) : ∀ j, j < D.pe.length → OkK (D.pe.getD j Wt.none).host (D.pe.getD j Wt.none).sector := fun j hj => by
  have := h.p j hj
  have h2 := h.n2
  exact ⟨this.1, this.2.2.1, by have := this.2.2.2.1; omega⟩

/-- Cell i of a queue. -/
theorem q_cell {w : World} {B : Nat} {v : Value} {l : List Nat} {g n cap : Nat} (r : RowO w B 3 1 v l.length (qCells l)) (hv : v = .slice (some ⟨g, 0, none⟩) n cap) (i : Nat) (hi : i < l.length) : w.cell? ⟨g, i, none⟩ = some (.int .i64 ((l.getD i 0 : Nat) : Int)) := by
  obtain ⟨a, c, e, hw⟩ := r.wr
  rw [hv] at e
  cases e
  obtain ⟨b, off, e2, _, hc, _⟩ := hw i (by omega)
  cases e2
  rw [Nat.zero_add] at hc
  rw [hc]
  unfold qCells
  simp [List.getD, hi]

set_option maxRecDepth 100000 in
set_option maxHeartbeats 4000000 in
theorem implPeek : PeekDoes := by
  intro w v D x s h hd hs
  have HH := hid h
  have HD := hid hd
  obtain ⟨a1, c1, a2, c2, a3, c3, rfl, _, _, _⟩ := h
  clear hd hs
  have hp : D.peek x s = if D.right = true ∧ (0 ≤ x ∧ x < 3) ∧ 0 ≤ s ∧ s < (D.sec.length : Int) then (D.see x s D.pe.length, true) else (ByteArray.empty, false) := rfl
  generalize D.peek x s = P at *
  obtain ⟨P1, P2⟩ := P
  have HP := hid hp
  clear hp
  simp only []
  obtain ⟨wb, hwb, ez, A0, B0⟩ := one_new w [.slice a1 D.sec.length c1, .slice a2 D.ep.length c2, .slice a3 D.pe.length c3] 31
  have k0 := A0.c 0 rfl
  have k1 := A0.c 1 rfl
  have k2 := A0.c 2 rfl
  go_enter Try.func18, Try.ntmps18
  go_wp2_with fail
  refine (implDiskOk wb _ D (HH.out.below B0) HD.out).mono ?_
  rintro e w1 ⟨rfl, b1⟩
  have HA := hid (A0.below b1 A0.lt)
  have HB := hid (B0.trans (b1.mono B0.size))
  clear A0 B0 b1 hwb ez k0 k1 k2
  have k0 := HA.out.c 0 rfl
  have k1 := HA.out.c 1 rfl
  have k2 := HA.out.c 2 rfl
  by_cases hr : ¬ D.right = true
  · have HP1 := hid (HP.out.trans (if_neg (fun q => hr q.1)))
    have hr' : D.right = false := by simpa using hr
    clear hr
    go_wp2
    go_ret2
    cases HP1.out
    exact ⟨rfl, HB.out⟩
  replace hr := Classical.not_not.mp hr
  have HT := hid (Dk.of_right hr)
  go_wp2_with fail
  refine (isHost x w1).mono ?_
  rintro e w1' ⟨rfl, hw⟩
  subst hw
  by_cases g1 : ¬ (0 ≤ x ∧ x < 3)
  · have g1' := decide_eq_false g1
    have HP1 := hid (HP.out.trans (if_neg (fun q => g1 q.2.1)))
    clear g1
    go_wp2
    go_ret2
    cases HP1.out
    exact ⟨rfl, HB.out⟩
  replace g1 := Classical.not_not.mp g1
  have g1' := decide_eq_true g1
  have HG1 := hid g1
  clear g1
  go_wp2_with fail
  refine (isSector w1' _ _ _ a1 D.sec.length c1 rfl s).mono ?_
  rintro e w2 ⟨rfl, b2⟩
  have HA2 := hid (HA.out.below b2 HA.out.lt)
  have HB2 := hid (HB.out.trans (b2.mono HB.out.size))
  clear HA HB b2 k0 k1 k2
  have k0 := HA2.out.c 0 rfl
  have k1 := HA2.out.c 1 rfl
  have k2 := HA2.out.c 2 rfl
  by_cases g2 : ¬ (0 ≤ s ∧ s < (D.sec.length : Int))
  · have g2' := decide_eq_false g2
    have HP1 := hid (HP.out.trans (if_neg (fun q => g2 q.2.2)))
    clear g2
    go_wp2
    go_ret2
    cases HP1.out
    exact ⟨rfl, HB2.out⟩
  replace g2 := Classical.not_not.mp g2
  have g2' := decide_eq_true g2
  have HG2 := hid g2
  have HP1 := hid (HP.out.trans (if_pos ⟨hr, HG1.out, g2⟩))
  have hok : OkK x s := ⟨HG1.out, g2.1, by have := g2.2; have := HT.out.n2; omega⟩
  have HK := hid hok
  clear hok g1' hr
  obtain ⟨_, _, _, _, _, _, ev, sx1, _, sx3⟩ := HH.out.below HB2.out
  cases ev
  have HS1 := hid sx1
  have HS3 := hid sx3
  clear sx1 sx3
  go_wp2_with fail
  refine (queuesOf w2 a3 c3 D.pe HS3.out HT.out.p40 HT.out.okK).mono ?_
  rintro e w3 ⟨rfl, ⟨n, M, V, hn, q⟩, b3⟩
  have HB3 := hid (HB2.out.trans (b3.mono HB2.out.size))
  have HA3 := hid (HA2.out.below b3 HA2.out.lt)
  clear k0 k1 k2
  have k0 := HA3.out.c 0 rfl
  have k1 := HA3.out.c 1 rfl
  have k2 := HA3.out.c 2 rfl
  have hlk := q.look_ok HK.out
  have hrow := hid (q.row x s HK.out)
  have hsee := hid (see_q D x s D.pe.length)
  have HL := hid (qAt_len D.pe D.pe.length x s)
  have HM := hid (fun i => qAt_mem (l := D.pe) (k := D.pe.length) (h := x) (s := s) (i := i))
  replace hlk : (Instr.lookup 66 (.map (some w2.heap.size)) (.agg #[.int .i64 x, .int .i64 s]) true).run Try.prog w3 = .ok (.tuple #[V x s, .bool (decide (qAt D.pe D.pe.length x s ≠ []))]) w3 := hlk
  have b3' := hid b3
  clear q b3
  generalize qAt D.pe D.pe.length x s = Z at *
  by_cases hZ : Z = []
  · subst hZ
    have hsee' := hid (show D.see x s D.pe.length = D.sec.getD s.toNat ByteArray.empty from hsee.out)
    obtain ⟨sn, rfl⟩ : ∃ n : Nat, s = (n : Int) := Int.eq_ofNat_of_zero_le HG2.out.1
    have hsl : (sn : Int) < (D.sec.length : Int) := HG2.out.2
    have hs0 : (0 : Int) ≤ (sn : Int) := Int.natCast_nonneg sn
    obtain ⟨bb, oo, rfl, hc⟩ := (HS1.out.below b3'.out) sn (by omega)
    replace hc : w3.cell? ⟨bb, oo + sn, none⟩ = some (.string (D.sec.getD sn ByteArray.empty)) := hc
    generalize hy : D.sec.getD sn ByteArray.empty = y at hc
    have HY := hid hy
    clear hy
    have hlk2 : (Instr.lookup 66 (.map (some w2.heap.size)) (.agg #[.int .i64 x, .int .i64 (sn : Int)]) true).run Try.prog w3 = .ok (.tuple #[V x sn, .bool false]) w3 := by rw [hlk]; rfl
    clear hlk
    go_wp2
    go_ret2
    have e := HP1.out
    rw [hsee'.out, Int.toNat_natCast, HY.out] at e
    cases e
    exact ⟨rfl, HB3.out⟩
  · obtain ⟨Z', i, rfl⟩ : ∃ Z' i, Z = Z' ++ [i] := ⟨Z.dropLast, Z.getLast hZ, (List.dropLast_concat_getLast hZ).symm⟩
    have hsee' := hid (show D.see x s D.pe.length = (D.pe.getD i Wt.none).text from by rw [hsee.out]; simp)
    have hi := (HM.out i (by simp)).1
    obtain ⟨g, c, hv⟩ := hrow.out.form (by simp)
    have hc0 := q_cell hrow.out hv Z'.length (by simp)
    rw [show (Z' ++ [i]).getD Z'.length 0 = i from by simp] at hc0
    have hZl : Z'.length + 1 ≤ 40 := by
      have h1 := HL.out
      have h2 := HT.out.p40
      simp at h1
      omega
    obtain ⟨b, off, rfl, _, _, _, x3⟩ := Wts.at_ (HS3.out.below b3'.out) i hi
    generalize hy : (D.pe.getD i Wt.none).text = y at x3 hsee'
    have hi1 : (i : Int) < (D.pe.length : Int) := by omega
    have hi0 : (0 : Int) ≤ (i : Int) := Int.natCast_nonneg i
    have hd3 : (D.pe.length : Int) ≤ 40 := by have := HT.out.p40; omega
    have hlk2 : (Instr.lookup 66 (.map (some w2.heap.size)) (.agg #[.int .i64 x, .int .i64 s]) true).run Try.prog w3 = .ok (.tuple #[.slice (some ⟨g, 0, none⟩) (Z'.length + 1) (c + 1), .bool true]) w3 := by
      rw [hlk, hv]
      simp
    have HV := hid hv
    clear hlk hv hZ hy hi
    generalize Z'.length = m at *
    go_wp2
    go_quiet (fail)
    go_wp2
    go_ret2
    have e := HP1.out
    rw [hsee'.out] at e
    cases e
    exact ⟨rfl, below_drewN HB3.out _⟩

end Go.Proofs.Ytppjohfafnbdlaj.Mem
