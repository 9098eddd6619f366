/-
  The walks of spec.l3There, spec.l3Peek and spec.Peek: what a host sees. No condition but lengths that Go can hold.
-/
import Derived.Test.YtbnmcbbpbiofgaaDiskOk
namespace Go.Proofs.Ytbnmcbbpbiofgaa.Mem
open Go.RowKit Classical
set_option linter.unusedVariables false

/-- There is such a host and such a sector. -/
def Dk.There (D : Dk) (h s : Int) : Prop := (0 ≤ h ∧ h < 3) ∧ 0 ≤ s ∧ s < (D.sec.length : Int)

set_option maxRecDepth 100000 in
set_option maxHeartbeats 1000000 in
theorem l3There (w : World) (v : Value) (D : Dk) (h : DkR w v D) (hd : D.Held) (x s : Int) :
    Calls Try.prog 45 #[v, .int .i64 x, .int .i64 s] w fun e w' => e = .returned (.bool (decide (D.There x s))) ∧ Below w.heap.size w w' := by
  obtain ⟨a1, c1, a2, c2, a3, c3, rfl, _, _, _⟩ := h
  have d1 : D.sec.length ≤ 9223372036854775807 := hd.h1
  clear hd
  have no : ¬ D.There x s → decide (D.There x s) = false := decide_eq_false
  have yes : D.There x s → decide (D.There x s) = true := decide_eq_true
  generalize decide (D.There x s) = q at *
  have HN := hid no
  have HY := hid yes
  clear no yes
  go_enter Try.func45, Try.ntmps45
  go_wp2_with fail
  obtain ⟨wb, hwb, ez, A0, B0⟩ := one_new w [.slice a1 D.sec.length c1, .slice a2 D.ep.length c2, .slice a3 D.pe.length c3] 28
  simp only [hwb]
  clear hwb
  refine (l3Host x wb).mono ?_
  rintro e w1 ⟨rfl, hw⟩
  subst hw
  have HB := hid B0
  have k0 := A0.c 0 rfl
  clear A0 B0
  by_cases g1 : 0 ≤ x ∧ x < 3
  · have g1' := decide_eq_true g1
    have HG := hid g1
    clear g1
    by_cases g2 : 0 ≤ s
    · by_cases g3 : s < (D.sec.length : Int)
      · have HY := hid (HY.out ⟨HG.out, g2, g3⟩)
        go_wp2
        go_ret
        exact ⟨by rw [HY.out]; rfl, HB.out⟩
      · have HN := hid (HN.out (fun q => g3 q.2.2))
        have g3' := decide_eq_false g3
        go_wp2
        go_ret
        exact ⟨by rw [HN.out]; rfl, HB.out⟩
    · have HN := hid (HN.out (fun q => g2 q.2.1))
      go_wp2
      go_ret
      exact ⟨by rw [HN.out]; rfl, HB.out⟩
  · have g1' := decide_eq_false g1
    have HN := hid (HN.out (fun q => g1 q.1))
    clear g1
    go_wp2
    go_ret
    exact ⟨by rw [HN.out]; rfl, HB.out⟩

/-- What a host sees of a sector behind the first k writes under way. -/
def Dk.see (D : Dk) (h s : Int) : Nat → ByteArray
  | 0 => D.sec.getD s.toNat ByteArray.empty
  | k + 1 => if (D.pe.getD k Wt.none).host = h ∧ (D.pe.getD k Wt.none).sector = s then (D.pe.getD k Wt.none).text else D.see h s k

/-- What Peek answers. -/
def Dk.peek (D : Dk) (h s : Int) : ByteArray × Bool := if D.right = true ∧ (0 ≤ h ∧ h < 3) ∧ 0 ≤ s ∧ s < (D.sec.length : Int) then (D.see h s D.pe.length, true) else (ByteArray.empty, false)

end Go.Proofs.Ytbnmcbbpbiofgaa.Mem
