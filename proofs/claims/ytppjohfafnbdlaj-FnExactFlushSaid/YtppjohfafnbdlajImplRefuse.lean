/-
  The walk of impl.refusal: the first reason against a call of a host. No condition but three epochs.
-/
import Derived.Test.YtppjohfafnbdlajImplOk
import Derived.Test.YtppjohfafnbdlajDiskPeek
namespace Go.Proofs.Ytppjohfafnbdlaj.Mem
open Go.RowKit
set_option linter.unusedVariables false

/-- The first reason. -/
def Dk.refuse (D : Dk) (x ep s : Int) (ts : List ByteArray) : Int := if ((0 ≤ x ∧ x < 3) ∧ 0 ≤ s ∧ s < (D.sec.length : Int)) ∧ (∀ j, j < ts.length → ((ts.getD j ByteArray.empty).size : Int) ≤ 700) then (if D.ep.getD x.toNat 0 = ep then 0 else 2) else 1

set_option maxRecDepth 100000 in
set_option maxHeartbeats 2000000 in
theorem refusal (w : World) (v : Value) (D : Dk) (x ep s : Int) (a : Option Addr) (cap : Nat) (ts : List ByteArray) (h : DkR w v D) (h3 : D.ep.length = 3) (T : Strs w a ts) (hl : ts.length ≤ maxLen) :
    Calls Try.prog 50 #[v, .int .i64 x, .int .i64 ep, .int .i64 s, .slice a ts.length cap] w fun e w' => e = .returned (.int .i64 (D.refuse x ep s ts)) ∧ Below w.heap.size w w' := by
  have HH := hid h
  have HT := hid T
  obtain ⟨a1, c1, a2, c2, a3, c3, rfl, _, s2, _⟩ := h
  have HS2 := hid s2
  clear T s2
  have hl' : ts.length ≤ 9223372036854775807 := hl
  have hp : D.refuse x ep s ts = if ((0 ≤ x ∧ x < 3) ∧ 0 ≤ s ∧ s < (D.sec.length : Int)) ∧ (∀ j, j < ts.length → ((ts.getD j ByteArray.empty).size : Int) ≤ 700) then (if D.ep.getD x.toNat 0 = ep then 0 else 2) else 1 := rfl
  generalize D.refuse x ep s ts = P at *
  have HP := hid hp
  have H3 := hid h3
  clear hp hl h3
  obtain ⟨wb, hwb, ez, A0, B0⟩ := one_new w [.slice a1 D.sec.length c1, .slice a2 D.ep.length c2, .slice a3 D.pe.length c3] 31
  have HA := hid A0
  have HB := hid B0
  have k0 := A0.c 0 rfl
  have k1 := A0.c 1 rfl
  have k2 := A0.c 2 rfl
  clear A0 B0 ez
  go_enter Try.func50, Try.ntmps50
  go_wp2_with fail
  refine (isHost x wb).mono ?_
  rintro e w0 ⟨rfl, hw⟩
  subst hw
  by_cases g1 : ¬ (0 ≤ x ∧ x < 3)
  · have g1' := decide_eq_false g1
    have HP1 := hid (HP.out.trans (if_neg (fun q => g1 q.1.1)))
    clear g1
    go_wp2
    go_ret
    exact ⟨by rw [HP1.out]; rfl, HB.out⟩
  replace g1 := Classical.not_not.mp g1
  have g1' := decide_eq_true g1
  have HG1 := hid g1
  obtain ⟨n, rfl⟩ : ∃ n : Nat, x = (n : Int) := Int.eq_ofNat_of_zero_le g1.1
  have hn3 : (n : Int) < 3 := g1.2
  clear g1
  go_wp2_with fail
  refine (isSector w0 _ _ _ a1 D.sec.length c1 rfl s).mono ?_
  rintro e w1 ⟨rfl, b1⟩
  have HA1 := hid (HA.out.below b1 HA.out.lt)
  have HB1 := hid (HB.out.trans (b1.mono HB.out.size))
  clear HA HB b1 k0 k1 k2 g1'
  have k0 := HA1.out.c 0 rfl
  have k1 := HA1.out.c 1 rfl
  have k2 := HA1.out.c 2 rfl
  by_cases g2 : ¬ (0 ≤ s ∧ s < (D.sec.length : Int))
  · have g2' := decide_eq_false g2
    have HP1 := hid (HP.out.trans (if_neg (fun q => g2 q.1.2)))
    clear g2
    go_wp2
    go_ret
    exact ⟨by rw [HP1.out]; rfl, HB1.out⟩
  replace g2 := Classical.not_not.mp g2
  have g2' := decide_eq_true g2
  have HG2 := hid g2
  clear g2
  go_wp2
  go_loop [24] (fun i => ∃ k : Nat, k ≤ ts.length ∧ i = .int .i64 (k : Int) ∧ Hid (∀ j, j < k → ((ts.getD j ByteArray.empty).size : Int) ≤ 700)) (fun i => ts.length - (intOf i).toNat)
  case atStart => exact ⟨0, Nat.zero_le _, rfl, fun j hj => by omega⟩
  case round =>
    obtain ⟨k, hk, rfl, HJ⟩ := hrel
    by_cases hlt : k < ts.length
    · obtain ⟨b, off, rfl, hc⟩ := (HT.out.below HB1.out) k hlt
      replace hc : w1.cell? ⟨b, off + k, none⟩ = some (.string (ts.getD k ByteArray.empty)) := hc
      generalize hx : ts.getD k ByteArray.empty = y at hc
      have HX := hid hx
      clear hx
      go_wp2_with fail
      refine (fitsSector y w1).mono ?_
      rintro e w1' ⟨rfl, hw⟩
      subst hw
      by_cases hn : (y.size : Int) ≤ 700
      · have hn' := decide_eq_true hn
        go_wp2
        exact ⟨⟨k + 1, by omega, by go_num, fun j hj => by
          by_cases h : j = k
          · subst h; rw [HX.out]; exact hn
          · exact HJ.out j (by omega)⟩, by simp [intOf]; omega⟩
      · have hn' := decide_eq_false hn
        have HP1 := hid (HP.out.trans (if_neg (fun q => by have := q.2 k hlt; rw [HX.out] at this; exact hn this)))
        clear hn
        go_wp2
        go_ret
        exact ⟨by rw [HP1.out]; rfl, HB1.out⟩
    obtain rfl : k = ts.length := by omega
    have HP1 := hid (HP.out.trans (if_pos ⟨⟨HG1.out, HG2.out⟩, HJ.out⟩))
    have hnl : n < D.ep.length := by have := H3.out; omega
    obtain ⟨b2, o2, rfl, hc⟩ := (HS2.out.below HB1.out) n hnl
    replace hc : w1.cell? ⟨b2, o2 + n, none⟩ = some (.int .i64 (D.ep.getD n 0)) := hc
    generalize hy : D.ep.getD n 0 = y at hc
    have HY := hid hy
    clear hy
    have q0 : (0 : Int) ≤ (n : Int) := Int.natCast_nonneg n
    by_cases g4 : ¬ ep = y
    · have HP2 := hid (HP1.out.trans (if_neg (by rw [Int.toNat_natCast, HY.out]; exact fun q => g4 q.symm)))
      go_wp2
      go_ret
      exact ⟨by rw [HP2.out]; rfl, HB1.out⟩
    replace g4 := Classical.not_not.mp g4
    subst g4
    have HP2 := hid (HP1.out.trans (if_pos (by rw [Int.toNat_natCast, HY.out])))
    go_wp2
    go_ret
    exact ⟨by rw [HP2.out]; rfl, HB1.out⟩

end Go.Proofs.Ytppjohfafnbdlaj.Mem
