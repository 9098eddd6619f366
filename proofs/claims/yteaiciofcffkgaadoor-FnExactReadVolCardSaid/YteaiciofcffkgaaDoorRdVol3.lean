/-
  A volume's text whose flag is read as more than 1 is not what is shown of it: so both sides refuse it. Condition: texts of at most 2^20 bytes.
-/
import Derived.Test.YteaiciofcffkgaaDoorRdVol2
import Derived.Test.YteaiciofcffkgaaDoorRdTx
namespace Go.Proofs.YteaiciofcffkgaaDoor.Rd
open Go.RowKit Go.Proofs.YteaiciofcffkgaaDoor.Mem Go.Proofs.YteaiciofcffkgaaDoor.Sec
open Go.Proofs.YteaiciofcffkgaaDoor.Var (bl varS)
set_option linter.unusedVariables false

theorem three_steps {R : ByteArray → Int × Nat} {s : ByteArray} {i n : Nat} {x y f : Int} {l : List Int} {z : Nat} (h : nums R s i (n + 3) = some (x :: y :: f :: l, z)) :
    ∃ k1 k2 k3, R (rest s i) = (x, k1) ∧ R (rest s (i + k1)) = (y, k2) ∧ R (rest s (i + k1 + k2)) = (f, k3) ∧ k1 ≠ 0 ∧ k2 ≠ 0 ∧ k3 ≠ 0 := by
  have s1 := nums_step (R := R) (s := s) (i := i) (k := 0) (l := []) (e := i) rfl
  by_cases q1 : (R (rest s i)).2 = 0
  · rw [if_pos q1] at s1
    rw [show n + 3 = (n + 2) + 1 by omega] at h
    have := nums_none (k := 1) s1 (n + 2)
    rw [show 1 + (n + 2) = (n + 2) + 1 by omega] at this
    rw [this] at h
    cases h
  rw [if_neg q1] at s1
  have s2 := nums_step s1
  by_cases q2 : (R (rest s (i + (R (rest s i)).2))).2 = 0
  · rw [if_pos q2] at s2
    have := nums_none (k := 2) s2 (n + 1)
    rw [show 2 + (n + 1) = n + 3 by omega] at this
    rw [this] at h
    cases h
  rw [if_neg q2] at s2
  have s3 := nums_step s2
  by_cases q3 : (R (rest s (i + (R (rest s i)).2 + (R (rest s (i + (R (rest s i)).2))).2))).2 = 0
  · rw [if_pos q3] at s3
    have := nums_none (k := 3) s3 n
    rw [show 3 + n = n + 3 by omega] at this
    rw [this] at h
    cases h
  rw [if_neg q3] at s3
  have h7 := nums_split3 (n := n) s3
  rw [h] at h7
  cases hn : nums R s (i + (R (rest s i)).2 + (R (rest s (i + (R (rest s i)).2))).2 + (R (rest s (i + (R (rest s i)).2 + (R (rest s (i + (R (rest s i)).2))).2))).2) n with
  | none => rw [hn] at h7; cases h7
  | some p =>
    rw [hn] at h7
    simp only [Option.map_some, Option.some.injEq, Prod.mk.injEq, List.cons.injEq] at h7
    obtain ⟨⟨rfl, rfl, rfl, _⟩, _⟩ := h7
    exact ⟨_, _, _, rfl, rfl, rfl, q1, q2, q3⟩

theorem vr_of {x : Int} (h0 : 0 ≤ x) (h1 : x ≤ 562949953421311) : vr x = varS x := by unfold vr; rw [if_pos ⟨h0, h1⟩]

theorem flag_bytes (on : Bool) : ∃ c : UInt8, flag on = ⟨#[c]⟩ ∧ c.toNat ≤ 1 := by
  cases on
  · exact ⟨0, by decide, by decide⟩
  · exact ⟨1, by decide, by decide⟩

theorem no_flag (R : ByteArray → Int × Nat) (hR : Reads R) (hT : ∀ s : ByteArray, s.size ≤ maxLen → Tx s (R s)) (s : ByteArray) (hs : s.size ≤ 1048576) : NoVol R s 5 → readVol R s = none := by
  rintro (h | ⟨x, y, f, l, z, h, hf⟩)
  · unfold readVol; rw [h]
  unfold readVol
  rw [h]
  simp only []
  rw [if_neg]
  intro hsh
  obtain ⟨k1, k2, k3, e1, e2, e3, q1, q2, q3⟩ := three_steps (n := 4) h
  have hb : ∀ i, (rest s i).size ≤ maxLen := fun i => by rw [rest_size]; unfold maxLen; omega
  have r1 := hR _ (hb 5)
  have r2 := hR _ (hb (5 + k1))
  have t1 := (hT _ (hb 5)).1
  have t2 := (hT _ (hb (5 + k1))).1
  have t3 := (hT _ (hb (5 + k1 + k2))).2
  rw [e1] at r1 t1
  rw [e2] at r2 t2
  rw [e3] at t3
  have z1 : (vr x).size = k1 := by rw [vr_of r1.x0 r1.x1, t1 q1]; have := r1.le; simp at this ⊢; omega
  have z2 : (vr y).size = k2 := by rw [vr_of r2.x0 r2.x1, t2 q2]; have := r2.le; simp at this ⊢; omega
  by_cases hv : volOk (x - 1) y (decide (f = 1)) (l.map (· + -1)) = true
  · obtain ⟨c, hc, hc1⟩ := flag_bytes (decide (f = 1))
    rw [← vol_yes hv] at hsh
    unfold summed showLs at hsh
    obtain ⟨A, hA⟩ : ∃ A, Go.Proofs.YteaiciofcffkgaaDoor.Fix.fxS (crc (⟨#[118]⟩ ++ (vr (x - 1 + 1) ++ vr y) ++ flag (decide (f = 1)) ++ vrs (-1) (l.map (· + -1)))) 4 = A := ⟨_, rfl⟩
    have hA4 : A.size = 4 := by rw [← hA, Go.Proofs.YteaiciofcffkgaaDoor.Fix.fxS_size]
    rw [hA] at hsh
    rw [show x - 1 + 1 = x by omega, hc] at hsh
    generalize vrs (-1) (l.map (· + -1)) = V at hsh
    have hs2 : (A ++ ⟨#[118]⟩ ++ vr x ++ vr y) ++ (⟨#[c]⟩ ++ V) = s := by rw [← hsh]; simp only [ByteArray.append_assoc]
    have hr := rest_app (A ++ ⟨#[118]⟩ ++ vr x ++ vr y) (⟨#[c]⟩ ++ V) (5 + k1 + k2) (by simp only [ByteArray.size_append, hA4, z1, z2]; rfl)
    rw [hs2] at hr
    rw [hr] at t3
    have hg : (bl (⟨#[c]⟩ ++ V)).getD 0 0 = (c.toNat : Int) := by simp [bl]
    rw [hg] at t3
    have := t3 q3 (by omega)
    simp at this
    omega
  · rw [vol_no (by simpa using hv)] at hsh
    have hk := r1.le
    rw [rest_size, ← hsh] at hk
    have h0 : (⟨#[]⟩ : ByteArray).size = 0 := rfl
    rw [h0] at hk
    have : k1 ≤ 0 - 5 := hk
    omega

end Go.Proofs.YteaiciofcffkgaaDoor.Rd
