/-
  The walks of spec.l1Once and spec.l1PickInt at any cursor: some answer, and the cursor moved alone. No condition but a bound that is small.
-/
import Derived.Test.YtbnmcbbpbiofgaaSomeParts
namespace Go.Proofs.Ytbnmcbbpbiofgaa.Mem
open Go.RowKit
set_option linter.unusedVariables false

set_option maxRecDepth 100000 in
set_option maxHeartbeats 1000000 in
theorem onceX (w : World) (cb : Nat) (a : Option Addr) (len cap : Nat) (zs : List Int) (n : Int) (h0 : 0 < n) (h1 : n ≤ 1000000000) (E : EnvX w cb a len cap zs) :
    Calls Try.prog 27 #[.pointer (some ⟨cb, 0, none⟩), .int .i64 n] w fun e w' => ∃ b : Bool, e = .returned (.bool b) ∧ EnvX w' cb a len cap zs ∧ w.grownBy w' (some cb) := by
  have HB := hid (belowX w cb a len cap zs n h0 h1 E)
  clear E
  go_enter Try.func27, Try.ntmps27
  go_wp2_with fail
  refine Calls.mono HB.out ?_
  rintro e w1 ⟨x, hx, rfl, hE, hg⟩
  have HE := hid hE
  clear hE
  go_wp2
  go_ret
  exact ⟨_, rfl, HE.out, hg⟩

/-- Read: an epoch of a disk, or the one before it, or 1. -/
def Dk.drawn (D : Dk) (h z : Int) : Prop := z = 1 ∨ ((0 ≤ h ∧ h < 3) ∧ h < (D.ep.length : Int) ∧ (z = D.ep.getD h.toNat 0 ∨ z = D.ep.getD h.toNat 0 - 1))

set_option maxRecDepth 100000 in
set_option maxHeartbeats 2000000 in
theorem epochX (w : World) (cb : Nat) (a : Option Addr) (len cap : Nat) (zs : List Int) (B : Nat) (v : Value) (D : Dk) (h : Int) (E : EnvX w cb a len cap zs) (R : DkW w B v D) (hB : cb < B) (hr : ∀ j, j < D.ep.length → 0 ≤ D.ep.getD j 0 ∧ D.ep.getD j 0 ≤ 9223372036854775807) (hl : D.ep.length ≤ maxLen) :
    Calls Try.prog 15 #[.pointer (some ⟨cb, 0, none⟩), v, .int .i64 h] w fun e w' => ∃ z : Int, e = .returned (.int .i64 z) ∧ D.drawn h z ∧ EnvX w' cb a len cap zs ∧ w.grownBy w' (some cb) := by
  obtain ⟨a1, c1, a2, c2, a3, c3, rfl, s1, s2, s3, _⟩ := R
  obtain ⟨wb, hwb, ez, R0, B0⟩ := one_new w [.slice a1 D.sec.length c1, .slice a2 D.ep.length c2, .slice a3 D.pe.length c3] 28
  have HE := hid (E.below E B0)
  have HG := hid (show w.grownBy wb (some cb) from ⟨B0.os, B0.tape, B0.output, B0.size, fun k hk _ => B0.block k hk⟩)
  have HR := hid R0
  have HI : Hid (IntsW wb B a2 D.ep) := Wr.below s2 B0
  have hne : w.heap.size ≠ cb := Nat.ne_of_gt E.lt
  have HC := hid E.lt
  have k1 := R0.c 1 rfl
  have hl' : (D.ep.length : Int) ≤ 9223372036854775807 := by unfold maxLen at hl; omega
  clear R0 B0 E s1 s2 s3
  go_enter Try.func15, Try.ntmps15
  go_wp2_with fail
  refine (l3Host h wb).mono ?_
  rintro e w1 ⟨rfl, hw⟩
  rw [hw]
  clear hw w1
  by_cases g1 : ¬ (0 ≤ h ∧ h < 3)
  · have g1' := decide_eq_false g1
    clear g1
    go_wp2
    go_ret
    exact ⟨1, rfl, Or.inl rfl, HE.out, HG.out⟩
  replace g1 := Classical.not_not.mp g1
  have g1' := decide_eq_true g1
  obtain ⟨n, rfl⟩ : ∃ n : Nat, h = (n : Int) := Int.eq_ofNat_of_zero_le g1.1
  by_cases g2 : (D.ep.length : Int) ≤ (n : Int)
  · go_wp2
    go_ret
    exact ⟨1, rfl, Or.inl rfl, HE.out, HG.out⟩
  have hn : n < D.ep.length := by omega
  have hn' : (n : Int) < (D.ep.length : Int) := by omega
  obtain ⟨b2, o2, rfl, hb2, hc, _⟩ := HI.out n hn
  replace hc : wb.cell? ⟨b2, o2 + n, none⟩ = some (.int .i64 (D.ep.getD n 0)) := hc
  obtain ⟨hy0, hy1⟩ := hr n hn
  generalize hy : D.ep.getD n 0 = y at hc hy0 hy1
  have HY := hid hy
  clear hy HI
  go_wp2_with fail
  refine (onceX wb cb a len cap zs 8 (by decide) (by decide) HE.out).mono ?_
  rintro e w1 ⟨b, rfl, hE, hg⟩
  have HE1 := hid hE
  have HG1 := hid (Draw.grown_trans HG.out hg)
  have k2 : w1.cell? ⟨w.heap.size, 1, none⟩ = some (.slice (some ⟨b2, o2, none⟩) D.ep.length c2) := hg.cell k1 (by simpa using hne)
  have k3 : w1.cell? ⟨b2, o2 + n, none⟩ = some (.int .i64 y) := hg.cell hc (by simp; omega)
  clear hE hg k1 hc HE HG
  cases b
  · go_wp2
    go_ret
    exact ⟨y, rfl, Or.inr ⟨g1, hn', Or.inl (by rw [Int.toNat_natCast]; exact HY.out.symm)⟩, HE1.out, HG1.out⟩
  · go_wp2
    go_ret
    exact ⟨y - 1, by go_num, Or.inr ⟨g1, hn', Or.inr (by rw [Int.toNat_natCast, HY.out])⟩, HE1.out, HG1.out⟩

end Go.Proofs.Ytbnmcbbpbiofgaa.Mem
