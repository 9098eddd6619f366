/-
  Plain: a right disk's sizes. No condition.
-/
import Derived.Test.YtbnmcbbpbiofgaaDkRight
import Derived.Test.YtbnmcbbpbiofgaaWrapEnd
namespace Go.Proofs.Ytbnmcbbpbiofgaa.Mem
open Go.RowKit

theorem Dk.Right.held {D : Dk} (h : D.Right) : D.Held ∧ D.sec.length + D.ep.length + D.pe.length * 4 ≤ 16777216 := by
  have h1 := h.n2
  have h2 := h.e3
  have h3 := h.p40
  refine ⟨⟨by unfold maxLen; omega, by unfold maxLen; omega, by unfold maxLen; omega, fun s hs => ?_, fun x hx => ?_⟩, by omega⟩
  · have := h.sm s hs
    unfold maxLen
    omega
  · have := (h.pm x hx).2.2.2.2
    unfold maxLen
    omega

theorem nil_held : Dk.nil.Held ∧ Dk.nil.sec.length + Dk.nil.ep.length + Dk.nil.pe.length * 4 ≤ 16777216 :=
  ⟨⟨by simp [Dk.nil], by simp [Dk.nil], by simp [Dk.nil], by simp [Dk.nil], by simp [Dk.nil]⟩, by simp [Dk.nil]⟩

/-- What is made of a right disk, or nothing. -/
theorem held_of {α : Type} {D : Dk} {P : Dk × α} {z : α} (h : D.Right → P.1.Right) : (if D.right = true then P else (Dk.nil, z)).1.Held ∧ (if D.right = true then P else (Dk.nil, z)).1.sec.length + (if D.right = true then P else (Dk.nil, z)).1.ep.length + (if D.right = true then P else (Dk.nil, z)).1.pe.length * 4 ≤ 16777216 := by
  by_cases hr : D.right = true
  · simp only [if_pos hr]
    exact (h (Dk.of_right hr)).held
  · simp only [if_neg hr]
    exact nil_held

end Go.Proofs.Ytbnmcbbpbiofgaa.Mem
