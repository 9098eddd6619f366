/-
  A journal's text whose flag is read as more than 1 is not what is shown of it: so both sides refuse it. Condition: texts of at most 2^20 bytes.
-/
import Derived.Test.YtfbnnhgaedficafDoorRdJn4
import Derived.Test.YtfbnnhgaedficafDoorRdTx
namespace Go.Proofs.YtfbnnhgaedficafDoor.Rd
open Go.RowKit Go.Proofs.YtfbnnhgaedficafDoor.Mem Go.Proofs.YtfbnnhgaedficafDoor.Sec
open Go.Proofs.YtfbnnhgaedficafDoor.Var (bl varS)
set_option linter.unusedVariables false

theorem two_steps {R : ByteArray → Int × Nat} {s : ByteArray} {i n : Nat} {x f : Int} {l : List Int} {z : Nat} (h : nums R s i (n + 2) = some (x :: f :: l, z)) :
    ∃ k1 k2, R (rest s i) = (x, k1) ∧ R (rest s (i + k1)) = (f, k2) ∧ k1 ≠ 0 ∧ k2 ≠ 0 := by
  have s1 := nums_step (R := R) (s := s) (i := i) (k := 0) (l := []) (e := i) rfl
  by_cases q1 : (R (rest s i)).2 = 0
  · rw [if_pos q1] at s1
    have := nums_none (k := 1) s1 (n + 1)
    rw [show 1 + (n + 1) = n + 2 by omega] at this
    rw [this] at h
    cases h
  rw [if_neg q1] at s1
  have s2 := nums_step s1
  by_cases q2 : (R (rest s (i + (R (rest s i)).2))).2 = 0
  · rw [if_pos q2] at s2
    have := nums_none (k := 2) s2 n
    rw [show 2 + n = n + 2 by omega] at this
    rw [this] at h
    cases h
  rw [if_neg q2] at s2
  have h7 := nums_split2 (n := n) s2
  rw [h] at h7
  cases hn : nums R s (i + (R (rest s i)).2 + (R (rest s (i + (R (rest s i)).2))).2) n with
  | none => rw [hn] at h7; cases h7
  | some p =>
    rw [hn] at h7
    simp only [Option.map_some, Option.some.injEq, Prod.mk.injEq, List.cons.injEq] at h7
    obtain ⟨⟨rfl, rfl, _⟩, _⟩ := h7
    exact ⟨_, _, rfl, rfl, q1, q2⟩

theorem jvr_of {x : Int} (h0 : 0 ≤ x) (h1 : x ≤ 562949953421311) : vr x = varS x := by unfold vr; rw [if_pos ⟨h0, h1⟩]

theorem jflag_bytes (on : Bool) : ∃ c : UInt8, flag on = ⟨#[c]⟩ ∧ c.toNat ≤ 1 := by
  cases on
  · exact ⟨0, by decide, by decide⟩
  · exact ⟨1, by decide, by decide⟩

theorem no_flagJn (R : ByteArray → Int × Nat) (hR : Reads R) (hT : ∀ s : ByteArray, s.size ≤ maxLen → Tx s (R s)) (s : ByteArray) (hs : s.size ≤ 1048576) : NoJn R s → readJn R s = none := by
  rintro (h | ⟨x, f, l, z, tx, o, h, hf, hj⟩)
  · exact readJn_no h
  have hl := nums_len h
  match l, hl with
  | [k, v, t, a], _ =>
  rw [readJn_yes hj, if_neg]
  intro hsh
  obtain ⟨k1, k2, e1, e2, q1, q2⟩ := two_steps (n := 4) h
  have hb : ∀ i, (rest s i).size ≤ maxLen := fun i => by rw [rest_size]; unfold maxLen; omega
  have r1 := hR _ (hb 5)
  have t1 := (hT _ (hb 5)).1
  have t2 := (hT _ (hb (5 + k1))).2
  rw [e1] at r1 t1
  rw [e2] at t2
  have z1 : (vr x).size = k1 := by rw [jvr_of r1.x0 r1.x1, t1 q1]; have := r1.le; simp at this ⊢; omega
  by_cases hv : Jn.ok ⟨x, decide (f = 1), k, v, t, a, tx, o⟩ = true
  · obtain ⟨c, hc, hc1⟩ := jflag_bytes (decide (f = 1))
    rw [← jn_yes hv] at hsh
    unfold summed Jn.head at hsh
    simp only [] at hsh
    rw [hc] at hsh
    obtain ⟨V, hV⟩ : ∃ V, vr k ++ (vr v ++ (vr t ++ (vr a ++ (Go.Proofs.YtfbnnhgaedficafDoor.Sec.piece tx ++ (vr (o.length : Int) ++ outsS o))))) = V := ⟨_, rfl⟩
    generalize hX : Go.Proofs.YtfbnnhgaedficafDoor.Fix.fxS (crc _) 4 = A at hsh
    have hA4 : A.size = 4 := by rw [← hX, Go.Proofs.YtfbnnhgaedficafDoor.Fix.fxS_size]
    have hs2 : (A ++ ⟨#[106]⟩ ++ vr x) ++ (⟨#[c]⟩ ++ V) = s := by rw [← hsh, ← hV]; simp only [ByteArray.append_assoc]
    have hr := rest_app (A ++ ⟨#[106]⟩ ++ vr x) (⟨#[c]⟩ ++ V) (5 + k1) (by simp only [ByteArray.size_append, hA4, z1]; rfl)
    rw [hs2] at hr
    rw [hr] at t2
    have hg : (bl (⟨#[c]⟩ ++ V)).getD 0 0 = (c.toNat : Int) := by simp [bl]
    rw [hg] at t2
    have := t2 q2 (by omega)
    simp at this
    omega
  · rw [jn_no (by simpa using hv)] at hsh
    have hk := r1.le
    rw [rest_size, ← hsh] at hk
    have h0 : (⟨#[]⟩ : ByteArray).size = 0 := rfl
    rw [h0] at hk
    have : k1 ≤ 0 - 5 := hk
    omega

end Go.Proofs.YtfbnnhgaedficafDoor.Rd
