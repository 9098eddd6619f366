/-
  The walks of impl.namedParts, impl.highestVol, spec.l5Vol and small parts beside them; calls compared. No condition.
-/
import Derived.Test.YtaopkchkhdbfnaaGreatDoorRows
import Derived.Test.YtaopkchkhdbfnaaGreatDoorQuietB
import Derived.Laws.StructEq
namespace Go.Proofs.YtaopkchkhdbfnaaGreatDoor.Pl
open Go.RowKit Go.Proofs.YtaopkchkhdbfnaaGreatDoor.Mem
set_option linter.unusedVariables false

/-- A call's value. -/
def opV (k v t a : Int) (s : ByteArray) : Value := .agg #[.int .i64 k, .int .i64 v, .int .i64 t, .int .i64 a, .string s]

/-- What of a call its kind names. -/
def nmv (k v : Int) : Int := if k = 6 then 0 else v
def nmt (k t : Int) : Int := if k = 5 then t else 0
def nma (k a : Int) : Int := if k = 3 ∨ k = 4 ∨ k = 7 then a else 0
def nms (k : Int) (s : ByteArray) : ByteArray := if k = 3 then s else ⟨#[]⟩

theorem bytes_no {a b : ByteArray} (h : ¬ a = b) : (a.toList == b.toList) = false := by
  simp only [beq_eq_false_iff_ne, ne_eq]
  intro e
  rw [ByteArray.toList_eq, ByteArray.toList_eq] at e
  exact h (ByteArray.ext (Array.toList_inj.1 e))

theorem stOpT : Tryz.prog.underlying 58 = some (.struct (Tryz.prog.fieldsOf 58)) := by kernel_rfl
theorem heldOpT : Tryz.prog.stoodInHeld 58 = false := by kernel_rfl
theorem guardOpT : Tryz.prog.eqGuardType Tryz.prog.depth 58 = false := by kernel_rfl

theorem equal_op (k v t a k' v' t' a' : Int) (s s' : ByteArray) (w : World) : (Op.equalIn 10000 58 (.agg #[.int .i64 k, .int .i64 v, .int .i64 t, .int .i64 a, .string s]) (.agg #[.int .i64 k', .int .i64 v', .int .i64 t', .int .i64 a', .string s'])).run Tryz.prog w = .ok (decide (k = k' ∧ v = v' ∧ t = t' ∧ a = a' ∧ s = s')) w := by
  rw [run_equalIn_agg w 9999 58 _ _ stOpT heldOpT]
  unfold Program.fieldsOf
  rw [Tryz.underlying58]
  by_cases h5 : s = s'
  · subst h5
    by_cases h1 : k = k' <;> by_cases h2 : v = v' <;> by_cases h3 : t = t' <;> by_cases h4 : a = a' <;> simp [Op.eqFields, part, go_sem, h1, h2, h3, h4, Tryz.underlying3]
  · have hne := bytes_no h5
    by_cases h1 : k = k' <;> by_cases h2 : v = v' <;> by_cases h3 : t = t' <;> by_cases h4 : a = a' <;> simp [Op.eqFields, part, go_sem, h1, h2, h3, h4, h5, hne, Tryz.underlying3]

theorem eql_op (k v t a k' v' t' a' : Int) (s s' : ByteArray) (w : World) : (binOp .eql 58 (.agg #[.int .i64 k, .int .i64 v, .int .i64 t, .int .i64 a, .string s]) (.agg #[.int .i64 k', .int .i64 v', .int .i64 t', .int .i64 a', .string s'])).run Tryz.prog w = .ok (.bool (decide (k = k' ∧ v = v' ∧ t = t' ∧ a = a' ∧ s = s'))) w := by
  rw [run_eql_struct, equal_op]
  rfl
theorem neq_op (k v t a k' v' t' a' : Int) (s s' : ByteArray) (w : World) : (binOp .neq 58 (.agg #[.int .i64 k, .int .i64 v, .int .i64 t, .int .i64 a, .string s]) (.agg #[.int .i64 k', .int .i64 v', .int .i64 t', .int .i64 a', .string s'])).run Tryz.prog w = .ok (.bool (!decide (k = k' ∧ v = v' ∧ t = t' ∧ a = a' ∧ s = s'))) w := by
  rw [run_neq_struct, equal_op]
  rfl

theorem eql_is {k v t a k' v' t' a' : Int} {s s' : ByteArray} {q : Bool} (hq : decide (k = k' ∧ v = v' ∧ t = t' ∧ a = a' ∧ s = s') = q) (w : World) : (binOp .eql 58 (.agg #[.int .i64 k, .int .i64 v, .int .i64 t, .int .i64 a, .string s]) (.agg #[.int .i64 k', .int .i64 v', .int .i64 t', .int .i64 a', .string s'])).run Tryz.prog w = .ok (.bool q) w := by
  rw [eql_op, hq]
theorem neq_is {k v t a k' v' t' a' : Int} {s s' : ByteArray} {q : Bool} (hq : decide (k = k' ∧ v = v' ∧ t = t' ∧ a = a' ∧ s = s') = q) (w : World) : (binOp .neq 58 (.agg #[.int .i64 k, .int .i64 v, .int .i64 t, .int .i64 a, .string s]) (.agg #[.int .i64 k', .int .i64 v', .int .i64 t', .int .i64 a', .string s'])).run Tryz.prog w = .ok (.bool (!q)) w := by
  rw [neq_op, hq]

set_option maxHeartbeats 400000 in
theorem isFrom (x lo hi : Int) (w : World) :
    Calls Tryz.prog 104 #[.int .i64 x, .int .i64 lo, .int .i64 hi] w fun e w' => e = .returned (.bool (decide (lo ≤ x ∧ x ≤ hi))) ∧ w' = w := by
  by_cases h1 : lo ≤ x
  · by_cases h2 : x ≤ hi
    · rw [decide_eq_true (And.intro h1 h2)]
      go_enter Tryz.func104, Tryz.ntmps104
      go_wp2
      go_ret
      exact ⟨rfl, rfl⟩
    · rw [decide_eq_false (fun h => h2 h.2)]
      go_enter Tryz.func104, Tryz.ntmps104
      go_wp2
      go_ret
      exact ⟨rfl, rfl⟩
  · rw [decide_eq_false (fun h => h1 h.1)]
    go_enter Tryz.func104, Tryz.ntmps104
    go_wp2
    go_ret
    exact ⟨rfl, rfl⟩

set_option maxHeartbeats 400000 in
theorem l3Host (x : Int) (w : World) :
    Calls Tryz.prog 32 #[.int .i64 x] w fun e w' => e = .returned (.bool (decide (0 ≤ x ∧ x < 3))) ∧ w' = w := by
  by_cases h1 : 0 ≤ x
  · by_cases h2 : x < 3
    · rw [decide_eq_true (And.intro h1 h2)]
      go_enter Tryz.func32, Tryz.ntmps32
      go_wp2
      go_ret
      exact ⟨rfl, rfl⟩
    · rw [decide_eq_false (fun h => h2 h.2)]
      go_enter Tryz.func32, Tryz.ntmps32
      go_wp2
      go_ret
      exact ⟨rfl, rfl⟩
  · rw [decide_eq_false (fun h => h1 h.1)]
    go_enter Tryz.func32, Tryz.ntmps32
    go_wp2
    go_ret
    exact ⟨rfl, rfl⟩

set_option maxHeartbeats 400000 in
theorem l5Vol (x : Int) (w : World) :
    Calls Tryz.prog 93 #[.int .i64 x] w fun e w' => e = .returned (.bool (decide (0 ≤ x ∧ x < 4))) ∧ w' = w := by
  by_cases h1 : 0 ≤ x
  · by_cases h2 : x < 4
    · rw [decide_eq_true (And.intro h1 h2)]
      go_enter Tryz.func93, Tryz.ntmps93
      go_wp2
      go_ret
      exact ⟨rfl, rfl⟩
    · rw [decide_eq_false (fun h => h2 h.2)]
      go_enter Tryz.func93, Tryz.ntmps93
      go_wp2
      go_ret
      exact ⟨rfl, rfl⟩
  · rw [decide_eq_false (fun h => h1 h.1)]
    go_enter Tryz.func93, Tryz.ntmps93
    go_wp2
    go_ret
    exact ⟨rfl, rfl⟩

/-- The highest number that Vol may be. -/
def top (k : Int) : Int := if k = 10 ∨ k = 11 ∨ k = 12 then 2 else 3

theorem beq_no {a b : Int} (h : ¬ a = b) : (a == b) = false := by simpa using h

set_option maxHeartbeats 400000 in
theorem highestVol (k : Int) (w : World) :
    Calls Tryz.prog 155 #[.int .i64 k] w fun e w' => e = .returned (.int .i64 (top k)) ∧ w' = w := by
  by_cases h0 : k = 10
  · subst h0
    go_enter Tryz.func155, Tryz.ntmps155
    go_wp2
    go_ret
    exact ⟨rfl, rfl⟩
  by_cases h1 : k = 11
  · subst h1
    go_enter Tryz.func155, Tryz.ntmps155
    go_wp2
    go_ret
    exact ⟨rfl, rfl⟩
  by_cases h2 : k = 12
  · subst h2
    go_enter Tryz.func155, Tryz.ntmps155
    go_wp2
    go_ret
    exact ⟨rfl, rfl⟩
  have HT : Hid (top k = 3) := by unfold Hid top; rw [if_neg]; omega
  have b0 := beq_no h0
  have b1 := beq_no h1
  have b2 := beq_no h2
  clear h0 h1 h2
  go_enter Tryz.func155, Tryz.ntmps155
  go_wp2
  go_ret
  exact ⟨by rw [HT.out]; rfl, rfl⟩

set_option maxRecDepth 100000 in
set_option maxHeartbeats 2000000 in
theorem namedParts (k v t a : Int) (s : ByteArray) (w : World) :
    Calls Tryz.prog 154 #[opV k v t a s] w fun e w' => e = .returned (opV k (nmv k v) (nmt k t) (nma k a) (nms k s)) ∧ Below w.heap.size w w' := by
  unfold opV
  by_cases h6 : k = 6
  · subst h6
    go_enter Tryz.func154, Tryz.ntmps154
    go_wp2
    go_returns
    exact ⟨rfl, by go_grown⟩
  by_cases h3 : k = 3
  · subst h3
    go_enter Tryz.func154, Tryz.ntmps154
    go_wp2
    go_returns
    exact ⟨rfl, by go_grown⟩
  by_cases h4 : k = 4
  · subst h4
    go_enter Tryz.func154, Tryz.ntmps154
    go_wp2
    go_returns
    exact ⟨rfl, by go_grown⟩
  by_cases h7 : k = 7
  · subst h7
    go_enter Tryz.func154, Tryz.ntmps154
    go_wp2
    go_returns
    exact ⟨rfl, by go_grown⟩
  by_cases h5 : k = 5
  · subst h5
    go_enter Tryz.func154, Tryz.ntmps154
    go_wp2
    go_returns
    exact ⟨rfl, by go_grown⟩
  have HV : Hid (nmv k v = v ∧ nmt k t = 0 ∧ nma k a = 0 ∧ nms k s = ⟨#[]⟩) := by unfold Hid nmv nmt nma nms; simp [h3, h4, h5, h6, h7]
  have b6 := beq_no h6
  have b3 := beq_no h3
  have b4 := beq_no h4
  have b7 := beq_no h7
  have b5 := beq_no h5
  clear h3 h4 h5 h6 h7
  go_enter Tryz.func154, Tryz.ntmps154
  go_wp2
  go_returns
  refine ⟨?_, by go_grown⟩
  rw [HV.out.1, HV.out.2.1, HV.out.2.2.1, HV.out.2.2.2]

end Go.Proofs.YtaopkchkhdbfnaaGreatDoor.Pl
