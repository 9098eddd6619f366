/-
  The walk of spec.FoldPool. No condition but small texts.
-/
import Derived.Test.YtbnpnhcegoanmaaFoS
import Derived.Deep.DeepCutAuto
namespace Go.Proofs.Ytbnpnhcegoanmaa.Pl
open Go.RowKit Go.Proofs.Ytbnpnhcegoanmaa.Mem
set_option linter.unusedVariables false

set_option maxHeartbeats 400000 in
theorem l1InF (n lo hi : Int) (w : World) :
    Calls Try.prog 14 #[.int .i64 n, .int .i64 lo, .int .i64 hi] w fun e w' => e = .returned (.bool (decide (lo ≤ n ∧ n ≤ hi))) ∧ w' = w := by
  by_cases h1 : lo ≤ n
  · by_cases h2 : n ≤ hi
    · rw [decide_eq_true (And.intro h1 h2)]
      go_enter Try.func14, Try.ntmps14
      go_wp2
      go_ret
      exact ⟨rfl, rfl⟩
    · rw [decide_eq_false (fun h => h2 h.2)]
      go_enter Try.func14, Try.ntmps14
      go_wp2
      go_ret
      exact ⟨rfl, rfl⟩
  · rw [decide_eq_false (fun h => h1 h.1)]
    go_enter Try.func14, Try.ntmps14
    go_wp2
    go_ret
    exact ⟨rfl, rfl⟩

theorem fold_no {l : List Ev} {n : Int} (h : ¬ ((0 ≤ n ∧ n ≤ (l.length : Int)) ∧ l.length ≤ 400 ∧ ∀ e ∈ l, opRight e.k e.v e.t e.a e.s = true)) : foldAns l n = ([], false) := by unfold foldAns; rw [if_neg h]
theorem fold_yes {l : List Ev} {n : Int} (h : (0 ≤ n ∧ n ≤ (l.length : Int)) ∧ l.length ≤ 400 ∧ ∀ e ∈ l, opRight e.k e.v e.t e.a e.s = true) : foldAns l n = foldD (l.take n.toNat) := by unfold foldAns; rw [if_pos h]
theorem none_pool {B : Nat} {w : World} : PvsW w B none [] := ⟨fun i hi => by simp at hi, fun x hx => by simp at hx, fun x hx => by simp at hx, List.Pairwise.nil, fun x hx => by simp at hx⟩

set_option maxRecDepth 100000 in
set_option maxHeartbeats 2000000 in
theorem sFoldPool (w : World) (al : Option Addr) (cl : Nat) (l : List Ev) (n : Int) (S : Evs w al l) (hl : l.length ≤ 1048576) (hs : ∀ e ∈ l, e.s.size ≤ 1048576) :
    Calls Try.prog 5 #[.slice al l.length cl, .int .i64 n] w fun r w' => ∃ a cap M, r = .returned (.tuple #[plV a (M : List Pv).length cap, .bool (foldAns l n).2]) ∧ PvsW w' w.heap.size a M ∧ M.map Pv.data = (foldAns l n).1 ∧ Below w.heap.size w w' := by
  have HS := hid S
  have Hs := hid hs
  clear S hs
  obtain ⟨wa, hwa, ez, A0, B0⟩ := one_new w [.slice none 0 0] 26
  have HA := hid A0
  have HB := hid B0
  have HZ := hid ez
  have r0 := A0.c 0 rfl
  have rf := A0.f 0
  have HRn := hid (A0.set 0 (.slice none 0 0))
  have HBn := hid (below_set B0 w.heap.size 0 (.slice none 0 0) (Nat.le_refl _))
  clear A0 B0 ez
  by_cases hn : 0 ≤ n ∧ n ≤ (l.length : Int)
  · by_cases hlen : l.length ≤ 400
    · have HI := l1InF n 0 l.length wa
      rw [decide_eq_true hn] at HI
      have HIh := hid HI
      clear HI
      go_enter Try.func5, Try.ntmps5
      go_wp2_with fail
      try simp only [hwa]
      clear hwa
      refine HIh.out.mono ?_
      rintro e w1 ⟨rfl, rfl⟩
      go_wp2
      go_loopw [6] (fun i wr => ∃ (k : Nat), k ≤ l.length ∧ i = .int .i64 (k : Int) ∧ Hid (∀ j, j < k → opRight (l.getD j Ev.none).k (l.getD j Ev.none).v (l.getD j Ev.none).t (l.getD j Ev.none).a (l.getD j Ev.none).s = true) ∧ Hid (Row wr w.heap.size [.slice none 0 0]) ∧ Hid (Below w.heap.size w wr)) (fun i _ => l.length - (intOf i).toNat)
      case atStart => exact ⟨0, Nat.zero_le _, rfl, fun j hj => by omega, HA.out, HB.out⟩
      case round =>
        obtain ⟨k, hk, rfl, HJ, HA2, HB2⟩ := hrel
        clear r0 rf
        by_cases hlt : k < l.length
        · obtain ⟨b, off, rfl, c0, c1, c2, c3, c4, c5, c6⟩ := Evs.at_ (HS.out.below HB2.out) k hlt
          have hx : (l.getD k Ev.none).s.size ≤ 1048576 := Hs.out _ (by simp [List.getD, hlt])
          generalize hq : l.getD k Ev.none = x at c0 c1 c2 c3 c4 c5 c6 hx
          have HX := hid hq
          clear hq
          obtain ⟨xh, xx, xk, xv, xt, xa, xs⟩ := x
          simp only [] at c0 c1 c2 c3 c4 c5 c6 hx
          have HC := hid (sOpOk xk xv xt xa xs wr hx)
          unfold opV at HC
          go_wp2_with fail
          refine HC.out.mono ?_
          rintro e w1 ⟨rfl, b1⟩
          have HA3 := hid (HA2.out.below b1 HA2.out.lt)
          have HB3 := hid (HB2.out.trans (b1.mono HB2.out.size))
          clear b1 c0 c1 c2 c3 c4 c5 c6 HC
          cases ho : opRight xk xv xt xa xs with
          | true =>
            have HO := hid ho
            clear ho
            go_wp2
            exact ⟨⟨k + 1, by omega, by go_num, fun j hj => by
              by_cases h : j = k
              · subst h; rw [HX.out]; exact HO.out
              · exact HJ.out j (by omega), HA3, HB3⟩, by simp [intOf]; omega⟩
          | false =>
            have HN := hid (fold_no (l := l) (n := n) (fun h => by
              have := h.2.2 (l.getD k Ev.none) (by simp [List.getD, hlt])
              rw [HX.out] at this
              rw [ho] at this
              cases this))
            clear ho
            have r0 := HA3.out.c 0 rfl
            have rf := HA3.out.f 0
            go_wp2
            refine bodyPost_ret (results_pool2 rfl _ _ w.heap.size [.slice none 0 0] _ rfl (HA3.out.set 0 (.slice none 0 0)) Try.underlying26 rfl (by kernel_rfl)) rfl ?_
            exact ⟨none, 0, [], by rw [HN.out]; rfl, none_pool, by rw [HN.out]; rfl, below_set HB3.out _ _ _ (by omega)⟩
        · obtain rfl : k = l.length := by omega
          obtain ⟨m, rfl⟩ : ∃ m : Nat, n = (m : Int) := ⟨n.toNat, by omega⟩
          have HY := hid (fold_yes (l := l) (n := (m : Int)) ⟨hn, hlen, fun e he => by
            obtain ⟨j, hj, rfl⟩ := List.getElem_of_mem he
            have := HJ.out j hj
            simpa [List.getD, hj] using this⟩)
          rw [Int.toNat_natCast] at HY
          have HC := hid (l10Fold wr al cl l m (HS.out.below HB2.out) (by omega) hl Hs.out)
          go_wp2_with fail
          refine HC.out.mono ?_
          rintro e w1 ⟨a, cap, M, rfl, P1, D1, b1⟩
          unfold plV
          obtain ⟨wb, hwb, eb, X1, BB⟩ := one_new w1 [.slice a M.length cap] 26
          have HX := hid X1
          have HP := hid (P1.below BB)
          have HD := hid D1
          have HAz := hid ((HA2.out.below b1 HA2.out.lt).below BB (Nat.lt_of_lt_of_le HA2.out.lt b1.size))
          have HBz := hid ((HB2.out.trans (b1.mono HB2.out.size)).trans (BB.mono (Nat.le_trans HB2.out.size b1.size)))
          have hlz : w.heap.size < wr.heap.size := HA2.out.lt
          clear X1 P1 D1 BB b1 eb HC
          go_upto_region 9 with fail
          try simp only [hwb]
          clear hwb
          have z9 := HX.out.c 0 rfl
          have r9 := HAz.out.c 0 rfl
          have rf9 := HAz.out.f 0
          go_wp2
          refine bodyPost_ret (results_pool2 rfl _ _ w.heap.size [.slice a M.length cap] _ rfl (HAz.out.set 0 (.slice a M.length cap)) Try.underlying26 rfl (by kernel_rfl)) rfl ?_
          exact ⟨a, cap, M, by rw [HY.out]; rfl, (PvsW.move HP.out (kept_set wb w.heap.size 0 _) (fun b hb e => by have := (HP.out.pfoot_ge hb).1; omega)).mono (by omega), by rw [HY.out]; exact HD.out, below_set HBz.out _ _ _ (by omega)⟩
    · have HI := l1InF n 0 l.length wa
      rw [decide_eq_true hn] at HI
      have HIh := hid HI
      have HN := hid (fold_no (l := l) (n := n) (fun h => hlen h.2.1))
      clear HI
      go_enter Try.func5, Try.ntmps5
      go_wp2_with fail
      try simp only [hwa]
      clear hwa
      refine HIh.out.mono ?_
      rintro e w1 ⟨rfl, rfl⟩
      go_wp2
      refine bodyPost_ret (results_pool2 rfl _ _ w.heap.size [.slice none 0 0] _ rfl HRn.out Try.underlying26 rfl (by kernel_rfl)) rfl ?_
      exact ⟨none, 0, [], by rw [HN.out]; rfl, none_pool, by rw [HN.out]; rfl, HBn.out⟩
  · have HI := l1InF n 0 l.length wa
    rw [decide_eq_false hn] at HI
    have HIh := hid HI
    have HN := hid (fold_no (l := l) (n := n) (fun h => hn h.1))
    clear HI
    go_enter Try.func5, Try.ntmps5
    go_wp2_with fail
    try simp only [hwa]
    clear hwa
    refine HIh.out.mono ?_
    rintro e w1 ⟨rfl, rfl⟩
    go_wp2
    refine bodyPost_ret (results_pool2 rfl _ _ w.heap.size [.slice none 0 0] _ rfl HRn.out Try.underlying26 rfl (by kernel_rfl)) rfl ?_
    exact ⟨none, 0, [], by rw [HN.out]; rfl, none_pool, by rw [HN.out]; rfl, HBn.out⟩

end Go.Proofs.Ytbnpnhcegoanmaa.Pl
