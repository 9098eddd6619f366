/-
  Plain: what a call does to a pool. No condition.
-/
import Derived.Test.YtbnpnhcegoanmaaPpNew
import Derived.Test.YtbnpnhcegoanmaaPlOp2
namespace Go.Proofs.Ytbnpnhcegoanmaa.Pl
open Go.RowKit Go.Proofs.Ytbnpnhcegoanmaa.Mem
set_option linter.unusedVariables false

abbrev Dt := Bool × List Bool × List ByteArray

/-- What the call makes of the volumes, and whether it is done. -/
def doD (D : List Dt) (k v t a : Int) (s : ByteArray) : List Dt × Bool :=
  if opRight k v t a s = true ∧ k ≤ 6 then
    if k = 6 then (D, true)
    else if (D.getD v.toNat noneD).1 = decide (k = 1) then (D, false)
    else if k = 1 then (D.set v.toNat (true, (D.getD v.toNat noneD).2), true)
    else if k = 2 then (D.set v.toNat noneD, true)
    else if k = 3 then (D.set v.toNat ((D.getD v.toNat noneD).1, (D.getD v.toNat noneD).2.1.set a.toNat true, (D.getD v.toNat noneD).2.2.set a.toNat s), true)
    else if k = 4 then (D.set v.toNat ((D.getD v.toNat noneD).1, (D.getD v.toNat noneD).2.1.set a.toNat false, (D.getD v.toNat noneD).2.2.set a.toNat ⟨#[]⟩), true)
    else if (D.getD t.toNat noneD).1 = true then (D, false)
    else (D.set t.toNat (D.getD v.toNat noneD), true)
  else (D, false)

theorem op_good {k v t a : Int} {s : ByteArray} (h : opRight k v t a s = true) : good k v t a s = true := by
  unfold opRight at h
  rw [Bool.and_eq_true] at h
  exact h.1
theorem op_kind {k v t a : Int} {s : ByteArray} (h : opRight k v t a s = true) (h6 : k ≤ 6) : k = 1 ∨ k = 2 ∨ k = 3 ∨ k = 4 ∨ k = 5 ∨ k = 6 := by
  have hg := op_good h
  unfold good at hg
  by_cases h1 : k = 1 ∨ k = 2 ∨ k = 8 ∨ k = 9
  · omega
  rw [if_neg h1] at hg
  by_cases h2 : k = 3 ∨ k = 4 ∨ k = 7
  · omega
  rw [if_neg h2] at hg
  by_cases h3 : k = 5
  · omega
  rw [if_neg h3] at hg
  by_cases h4 : k = 6
  · omega
  rw [if_neg h4] at hg
  by_cases h5 : k = 10 ∨ k = 11 ∨ k = 12
  · omega
  rw [if_neg h5] at hg
  cases hg
theorem op_12 {k v t a : Int} {s : ByteArray} (h : opRight k v t a s = true) (hk : k = 1 ∨ k = 2) : 0 ≤ v ∧ v < 4 := by
  have hg := op_good h
  unfold good at hg
  rw [if_pos (by omega)] at hg
  exact of_decide_eq_true hg
theorem op_34 {k v t a : Int} {s : ByteArray} (h : opRight k v t a s = true) (hk : k = 3 ∨ k = 4) : (0 ≤ v ∧ v < 4) ∧ (0 ≤ a ∧ a < 4) ∧ (s.size : Int) ≤ 16 := by
  have hg := op_good h
  unfold good at hg
  rw [if_neg (by omega), if_pos (by omega)] at hg
  exact of_decide_eq_true hg
theorem op_5 {k v t a : Int} {s : ByteArray} (h : opRight k v t a s = true) (hk : k = 5) : (0 ≤ v ∧ v < 4) ∧ (0 ≤ t ∧ t < 4) ∧ ¬ v = t := by
  have hg := op_good h
  unfold good at hg
  rw [if_neg (by omega), if_neg (by omega), if_pos hk] at hg
  exact of_decide_eq_true hg
theorem op_v {k v t a : Int} {s : ByteArray} (h : opRight k v t a s = true) (h6 : k ≤ 6) (hk : ¬ k = 6) : 0 ≤ v ∧ v < 4 := by
  rcases op_kind h h6 with h1 | h1 | h1 | h1 | h1 | h1
  · exact op_12 h (Or.inl h1)
  · exact op_12 h (Or.inr h1)
  · exact (op_34 h (Or.inl h1)).1
  · exact (op_34 h (Or.inr h1)).1
  · exact (op_5 h h1).1
  · exact absurd h1 hk

theorem do_no {D : List Dt} {k v t a : Int} {s : ByteArray} (h : ¬ (opRight k v t a s = true ∧ k ≤ 6)) : doD D k v t a s = (D, false) := by unfold doD; rw [if_neg h]
theorem do_6 {D : List Dt} {k v t a : Int} {s : ByteArray} (h : opRight k v t a s = true ∧ k ≤ 6) (hk : k = 6) : doD D k v t a s = (D, true) := by unfold doD; rw [if_pos h, if_pos hk]
theorem do_same {D : List Dt} {k v t a : Int} {s : ByteArray} (h : opRight k v t a s = true ∧ k ≤ 6) (hk : ¬ k = 6) (he : (D.getD v.toNat noneD).1 = decide (k = 1)) : doD D k v t a s = (D, false) := by unfold doD; rw [if_pos h, if_neg hk, if_pos he]
theorem do_1 {D : List Dt} {k v t a : Int} {s : ByteArray} (h : opRight k v t a s = true ∧ k ≤ 6) (he : ¬ (D.getD v.toNat noneD).1 = decide (k = 1)) (hk : k = 1) : doD D k v t a s = (D.set v.toNat (true, (D.getD v.toNat noneD).2), true) := by unfold doD; rw [if_pos h, if_neg (by omega), if_neg he, if_pos hk]
theorem do_2 {D : List Dt} {k v t a : Int} {s : ByteArray} (h : opRight k v t a s = true ∧ k ≤ 6) (he : ¬ (D.getD v.toNat noneD).1 = decide (k = 1)) (hk : k = 2) : doD D k v t a s = (D.set v.toNat noneD, true) := by unfold doD; rw [if_pos h, if_neg (by omega), if_neg he, if_neg (by omega), if_pos hk]
theorem do_3 {D : List Dt} {k v t a : Int} {s : ByteArray} (h : opRight k v t a s = true ∧ k ≤ 6) (he : ¬ (D.getD v.toNat noneD).1 = decide (k = 1)) (hk : k = 3) : doD D k v t a s = (D.set v.toNat ((D.getD v.toNat noneD).1, (D.getD v.toNat noneD).2.1.set a.toNat true, (D.getD v.toNat noneD).2.2.set a.toNat s), true) := by unfold doD; rw [if_pos h, if_neg (by omega), if_neg he, if_neg (by omega), if_neg (by omega), if_pos hk]
theorem do_4 {D : List Dt} {k v t a : Int} {s : ByteArray} (h : opRight k v t a s = true ∧ k ≤ 6) (he : ¬ (D.getD v.toNat noneD).1 = decide (k = 1)) (hk : k = 4) : doD D k v t a s = (D.set v.toNat ((D.getD v.toNat noneD).1, (D.getD v.toNat noneD).2.1.set a.toNat false, (D.getD v.toNat noneD).2.2.set a.toNat ⟨#[]⟩), true) := by unfold doD; rw [if_pos h, if_neg (by omega), if_neg he, if_neg (by omega), if_neg (by omega), if_neg (by omega), if_pos hk]
theorem do_5n {D : List Dt} {k v t a : Int} {s : ByteArray} (h : opRight k v t a s = true ∧ k ≤ 6) (he : ¬ (D.getD v.toNat noneD).1 = decide (k = 1)) (hk : k = 5) (ht : (D.getD t.toNat noneD).1 = true) : doD D k v t a s = (D, false) := by unfold doD; rw [if_pos h, if_neg (by omega), if_neg he, if_neg (by omega), if_neg (by omega), if_neg (by omega), if_neg (by omega), if_pos ht]
theorem do_5 {D : List Dt} {k v t a : Int} {s : ByteArray} (h : opRight k v t a s = true ∧ k ≤ 6) (he : ¬ (D.getD v.toNat noneD).1 = decide (k = 1)) (hk : k = 5) (ht : ¬ (D.getD t.toNat noneD).1 = true) : doD D k v t a s = (D.set t.toNat (D.getD v.toNat noneD), true) := by unfold doD; rw [if_pos h, if_neg (by omega), if_neg he, if_neg (by omega), if_neg (by omega), if_neg (by omega), if_neg (by omega), if_neg ht]

/-- A function, turned at one number. -/
def upd {X : Type} (f : Nat → X) (m : Nat) (x : X) (i : Nat) : X := if i = m then x else f i
theorem ivR_set (on : Bool) (h : Nat → Bool) (t : Nat → ByteArray) (m : Nat) (hm : m < 4) (b : Bool) (s : ByteArray) : ((ivR on h t).set (1 + m * 2) (.bool b)).set (1 + m * 2 + 1) (.string s) = ivR on (upd h m b) (upd t m s) := by
  have : m = 0 ∨ m = 1 ∨ m = 2 ∨ m = 3 := by omega
  rcases this with rfl | rfl | rfl | rfl <;> rfl
theorem upd_list {X : Type} (f : Nat → X) (m : Nat) (hm : m < 4) (x : X) : (List.range 4).map (upd f m x) = ((List.range 4).map f).set m x := by
  have : m = 0 ∨ m = 1 ∨ m = 2 ∨ m = 3 := by omega
  rcases this with rfl | rfl | rfl | rfl <;> rfl

theorem getD_iv (D : List Iv) (n : Nat) (hn : n < D.length) : (D.map ivData).getD n noneD = ivData (D.getD n Iv.none) := by
  simp [List.getD, hn]
theorem set_iv (D : List Iv) (n : Nat) (d : Iv) : (D.set n d).map ivData = (D.map ivData).set n (ivData d) := by rw [List.map_set]

/-- One volume is written. -/
theorem Ivs.put {w w' : World} {a : Option Addr} {G : List Nat} {D : List Iv} {n : Nat} {d : Iv} (h : Ivs w a G D) (hn : n < G.length) (nd : G.Nodup) (hf : ∀ g ∈ G, ¬ foot a G.length g) (k : Kept (fun b => b = G.getD n 0) w w') (R : Row w' (G.getD n 0) (ivR d.1 d.2.1 d.2.2)) : Ivs w' a G (D.set n d) := by
  have hm : G.getD n 0 ∈ G := by simp [List.getD, hn]
  refine ⟨by simp [h.len], h.row.move k (fun b hb e => by subst e; exact hf _ hm hb), fun i hi => ?_⟩
  have hnD : n < D.length := by rw [← h.len]; exact hn
  by_cases e : i = n
  · subst e
    have : (D.set i d).getD i Iv.none = d := by simp [List.getD, hnD]
    rw [this]
    exact R
  · have e2 : (D.set n d).getD i Iv.none = D.getD i Iv.none := by simp [List.getD, List.getElem?_set_ne (Ne.symm e)]
    rw [e2]
    refine (h.each i hi).kept k (fun e3 => e ?_)
    simp only [List.getD, List.getElem?_eq_getElem hi, List.getElem?_eq_getElem hn, Option.getD_some] at e3
    exact (List.getElem_inj nd).1 e3

end Go.Proofs.Ytbnpnhcegoanmaa.Pl
