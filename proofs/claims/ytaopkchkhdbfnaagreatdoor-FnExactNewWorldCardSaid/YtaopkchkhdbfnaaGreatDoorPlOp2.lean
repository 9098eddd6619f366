/-
  The walk of spec.OpOk: which calls are right. No condition.
-/
import Derived.Test.YtaopkchkhdbfnaaGreatDoorPlOp
namespace Go.Proofs.YtaopkchkhdbfnaaGreatDoor.Pl
open Go.RowKit Go.Proofs.YtaopkchkhdbfnaaGreatDoor.Mem
set_option linter.unusedVariables false

/-- Are the numbers of a call within its kind's bounds. -/
def good (k v t a : Int) (s : ByteArray) : Bool :=
  if k = 1 ∨ k = 2 ∨ k = 8 ∨ k = 9 then decide (0 ≤ v ∧ v < 4)
  else if k = 3 ∨ k = 4 ∨ k = 7 then decide ((0 ≤ v ∧ v < 4) ∧ (0 ≤ a ∧ a < 4) ∧ (s.size : Int) ≤ 16)
  else if k = 5 then decide ((0 ≤ v ∧ v < 4) ∧ (0 ≤ t ∧ t < 4) ∧ ¬ v = t)
  else if k = 6 then true
  else if k = 10 ∨ k = 11 ∨ k = 12 then decide (0 ≤ v ∧ v < 3)
  else false

/-- Is a call right. -/
def opRight (k v t a : Int) (s : ByteArray) : Bool := good k v t a s && decide (k = k ∧ nmv k v = v ∧ nmt k t = t ∧ nma k a = a ∧ nms k s = s)

theorem right_yes {k v t a : Int} {s : ByteArray} (h : good k v t a s = true) : opRight k v t a s = decide (k = k ∧ nmv k v = v ∧ nmt k t = t ∧ nma k a = a ∧ nms k s = s) := by unfold opRight; rw [h]; rfl
theorem right_no {k v t a : Int} {s : ByteArray} (h : good k v t a s = false) : opRight k v t a s = false := by unfold opRight; rw [h]; rfl

set_option maxRecDepth 100000 in
set_option maxHeartbeats 4000000 in
theorem sOp_vol (k v t a : Int) (s : ByteArray) (w : World) (hs : s.size ≤ 1048576) (hk : k = 1 ∨ k = 2 ∨ k = 8 ∨ k = 9) :
    Calls Tryz.prog 33 #[opV k v t a s] w fun e w' => e = .returned (.bool (opRight k v t a s)) ∧ Below w.heap.size w w' := by
  unfold opV
  have hgo := guardOpT
  obtain ⟨q, hq⟩ : ∃ q, decide (k = k ∧ v = v ∧ (0 : Int) = t ∧ (0 : Int) = a ∧ (⟨#[]⟩ : ByteArray) = s) = q := ⟨_, rfl⟩
  have heq := eql_is hq
  have HQ : Hid (decide (k = k ∧ nmv k v = v ∧ nmt k t = t ∧ nma k a = a ∧ nms k s = s) = q) := by
    rw [Hid, ← hq]
    rcases hk with rfl | rfl | rfl | rfl <;> rfl
  clear hq
  by_cases hv : 0 ≤ v ∧ v < 4
  · have hv' := decide_eq_true hv
    have HG : Hid (good k v t a s = true) := by rcases hk with rfl | rfl | rfl | rfl <;> exact hv'
    have HR := hid ((right_yes HG.out).trans HQ.out)
    generalize opRight k v t a s = x at *
    clear hv HG HQ
    rcases hk with rfl | rfl | rfl | rfl <;> (
      go_enter Tryz.func33, Tryz.ntmps33
      go_wp2_with fail
      refine (hv' ▸ l5Vol v _).mono ?_
      rintro r w1 ⟨rfl, hw⟩
      subst hw
      go_wp2
      go_ret
      exact ⟨by rw [HR.out]; rfl, by go_grown⟩)
  · have hv' := decide_eq_false hv
    have HG : Hid (good k v t a s = false) := by rcases hk with rfl | rfl | rfl | rfl <;> exact hv'
    have HR := hid (right_no HG.out)
    generalize opRight k v t a s = x at *
    clear HG HQ heq
    clear hv
    rcases hk with rfl | rfl | rfl | rfl <;> (
      go_enter Tryz.func33, Tryz.ntmps33
      go_wp2_with fail
      refine (hv' ▸ l5Vol v _).mono ?_
      rintro r w1 ⟨rfl, hw⟩
      subst hw
      go_wp2
      go_ret
      exact ⟨by rw [HR.out]; rfl, by go_grown⟩)

set_option maxRecDepth 100000 in
set_option maxHeartbeats 4000000 in
theorem sOp_host (k v t a : Int) (s : ByteArray) (w : World) (hs : s.size ≤ 1048576) (hk : k = 12) :
    Calls Tryz.prog 33 #[opV k v t a s] w fun e w' => e = .returned (.bool (opRight k v t a s)) ∧ Below w.heap.size w w' := by
  unfold opV
  have hgo := guardOpT
  obtain ⟨q, hq⟩ : ∃ q, decide (k = k ∧ v = v ∧ (0 : Int) = t ∧ (0 : Int) = a ∧ (⟨#[]⟩ : ByteArray) = s) = q := ⟨_, rfl⟩
  have heq := eql_is hq
  have HQ : Hid (decide (k = k ∧ nmv k v = v ∧ nmt k t = t ∧ nma k a = a ∧ nms k s = s) = q) := by
    rw [Hid, ← hq]
    subst hk; rfl
  clear hq
  by_cases hv : 0 ≤ v ∧ v < 3
  · have hv' := decide_eq_true hv
    have HG : Hid (good k v t a s = true) := by subst hk; exact hv'
    have HR := hid ((right_yes HG.out).trans HQ.out)
    generalize opRight k v t a s = x at *
    clear hv HG HQ
    subst hk; (
      go_enter Tryz.func33, Tryz.ntmps33
      go_wp2_with fail
      refine (hv' ▸ l3Host v _).mono ?_
      rintro r w1 ⟨rfl, hw⟩
      subst hw
      go_wp2
      go_ret
      exact ⟨by rw [HR.out]; rfl, by go_grown⟩)
  · have hv' := decide_eq_false hv
    have HG : Hid (good k v t a s = false) := by subst hk; exact hv'
    have HR := hid (right_no HG.out)
    generalize opRight k v t a s = x at *
    clear HG HQ heq
    clear hv
    subst hk; (
      go_enter Tryz.func33, Tryz.ntmps33
      go_wp2_with fail
      refine (hv' ▸ l3Host v _).mono ?_
      rintro r w1 ⟨rfl, hw⟩
      subst hw
      go_wp2
      go_ret
      exact ⟨by rw [HR.out]; rfl, by go_grown⟩)

set_option maxRecDepth 100000 in
set_option maxHeartbeats 4000000 in
theorem sOp_group (k v t a : Int) (s : ByteArray) (w : World) (hs : s.size ≤ 1048576) (hk : k = 10 ∨ k = 11) :
    Calls Tryz.prog 33 #[opV k v t a s] w fun e w' => e = .returned (.bool (opRight k v t a s)) ∧ Below w.heap.size w w' := by
  unfold opV
  have hgo := guardOpT
  obtain ⟨q, hq⟩ : ∃ q, decide (k = k ∧ v = v ∧ (0 : Int) = t ∧ (0 : Int) = a ∧ (⟨#[]⟩ : ByteArray) = s) = q := ⟨_, rfl⟩
  have heq := eql_is hq
  have HQ : Hid (decide (k = k ∧ nmv k v = v ∧ nmt k t = t ∧ nma k a = a ∧ nms k s = s) = q) := by
    rw [Hid, ← hq]
    rcases hk with rfl | rfl <;> rfl
  clear hq
  by_cases hv : 0 ≤ v ∧ v < 3
  · have hv' := decide_eq_true hv
    have HG : Hid (good k v t a s = true) := by rcases hk with rfl | rfl <;> exact hv'
    have HR := hid ((right_yes HG.out).trans HQ.out)
    generalize opRight k v t a s = x at *
    have hv2 := hv
    clear hv hv' HG HQ
    have hv1 := hv2.1
    have hv3 := hv2.2
    clear hv2
    rcases hk with rfl | rfl <;> (
      go_enter Tryz.func33, Tryz.ntmps33
      go_wp2
      go_ret
      exact ⟨by rw [HR.out]; rfl, by go_grown⟩)
  · have hv' := decide_eq_false hv
    have HG : Hid (good k v t a s = false) := by rcases hk with rfl | rfl <;> exact hv'
    have HR := hid (right_no HG.out)
    generalize opRight k v t a s = x at *
    clear HG HQ heq
    clear hv'
    by_cases hv0 : 0 ≤ v
    · have hv1 : ¬ v < 3 := fun h => hv ⟨hv0, h⟩
      clear hv
      rcases hk with rfl | rfl <;> (
        go_enter Tryz.func33, Tryz.ntmps33
        go_wp2
        go_ret
        exact ⟨by rw [HR.out]; rfl, by go_grown⟩)
    · clear hv
      rcases hk with rfl | rfl <;> (
        go_enter Tryz.func33, Tryz.ntmps33
        go_wp2
        go_ret
        exact ⟨by rw [HR.out]; rfl, by go_grown⟩)

end Go.Proofs.YtaopkchkhdbfnaaGreatDoor.Pl
