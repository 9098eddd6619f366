/-
  The law of NewPool. No condition.
-/
import Derived.Test.YtbnpnhcegoanmaaPpNew
import Derived.Test.YtbnpnhcegoanmaaPpOk2
namespace Go.Proofs.Ytbnpnhcegoanmaa.Pl
open Go.RowKit Go.Proofs.Ytbnpnhcegoanmaa.Mem
set_option linter.unusedVariables false

theorem totPv_le {L : List Pv} (h : ∀ x ∈ L, x.Upto 1048576) : totPv L ≤ L.length * 2097153 := by
  induction L with
  | nil => simp [totPv]
  | cons x L ih =>
    have h1 := h x (by simp)
    have h2 := ih (fun y hy => h y (by simp [hy]))
    have h3 := h1.1
    have h4 := h1.2.1
    simp only [totPv, Pv.sz, List.length_cons]
    omega
theorem tot_ok {L : List Pv} (hl : L.length ≤ 1048576) (h : ∀ x ∈ L, x.Upto 1048576) : 1 + totPv L ≤ 4611686018427387904 := by
  have := totPv_le h
  omega

theorem none_small {M : List Pv} (h : M.map Pv.data = List.replicate 4 noneD) : M.length ≤ 1048576 ∧ ∀ x ∈ M, x.Upto 1048576 := by
  have hl : M.length = 4 := by have := congrArg List.length h; simpa using this
  refine ⟨by omega, fun x hx => ?_⟩
  have h1 : x.data ∈ M.map Pv.data := List.mem_map_of_mem hx
  rw [h] at h1
  have h2 := List.eq_of_mem_replicate h1
  obtain ⟨a, b, c, d, e, f, g⟩ := x
  simp only [Pv.data, noneD, Prod.mk.injEq] at h2
  obtain ⟨rfl, rfl, rfl⟩ := h2
  refine ⟨by show ((4 : Nat) : Int) ≤ 1048576; decide, by show ((4 : Nat) : Int) ≤ 1048576; decide, fun s hs => ?_⟩
  have : s = ⟨#[]⟩ := by simpa using hs
  subst this
  decide

/-- Marks laid into what lies from B on leave all below B. -/
theorem marked_below {w w' : World} {B : Nat} {a : Option Addr} {L : List Pv} (h : PvsW w B a L) (hB : B ≤ w.heap.size) (k : Kept (pfoot a L) w w') : Below B w w' :=
  k.below hB (fun b hb hf => by have := (h.pfoot_ge hf).1; omega)

end Go.Proofs.Ytbnpnhcegoanmaa.Pl
