/-
  Places and volumes, as structs, held against others. No condition.
-/
import Derived.Test.YtbnpnhcegoanmaaPpOk
import Derived.Test.YtbnpnhcegoanmaaPlOp
import Derived.ChangeKeysEq
namespace Go.Proofs.Ytbnpnhcegoanmaa.Pl
open Go.RowKit Go.Proofs.Ytbnpnhcegoanmaa.Mem
set_option linter.unusedVariables false

theorem stPlT : Try.prog.underlying 71 = some (.struct (Try.prog.fieldsOf 71)) := by kernel_rfl
theorem heldPlT : Try.prog.stoodInHeld 71 = false := by kernel_rfl
theorem stVoT : Try.prog.underlying 74 = some (.struct (Try.prog.fieldsOf 74)) := by kernel_rfl
theorem heldVoT : Try.prog.stoodInHeld 74 = false := by kernel_rfl
theorem cellsPl : Try.prog.cellsOf 71 = 2 := by kernel_rfl

theorem equal_pl (d : Nat) (h h' : Bool) (t t' : ByteArray) (w : World) : (Op.equalIn (d + 2) 71 (.agg #[.bool h, .string t]) (.agg #[.bool h', .string t'])).run Try.prog w = .ok (decide (h = h' ∧ t = t')) w := by
  rw [run_equalIn_agg w (d + 1) 71 _ _ stPlT heldPlT]
  unfold Program.fieldsOf
  rw [Try.underlying71]
  by_cases h5 : t = t'
  · subst h5
    by_cases h1 : h = h' <;> simp [Op.eqFields, part, go_sem, h1, Try.underlying4]
  · have hne := bytes_no h5
    by_cases h1 : h = h' <;> simp [Op.eqFields, part, go_sem, h1, h5, hne, Try.underlying4]

theorem neq_pl {h h' : Bool} {t t' : ByteArray} {q : Bool} (hq : decide (h = h' ∧ t = t') = q) (w : World) : (binOp .neq 71 (.agg #[.bool h, .string t]) (.agg #[.bool h', .string t'])).run Try.prog w = .ok (.bool (!q)) w := by
  rw [run_neq_struct, equal_pl 9998, hq]
  rfl

theorem imp_no {p q : Prop} [Decidable p] [Decidable q] (h : p → ¬ q) : (decide p && decide q) = false := by simpa using h
theorem imp_yes {p q : Prop} [Decidable p] [Decidable q] (h : ¬ (p → ¬ q)) : (decide p && decide q) = true := by simpa using h

set_option maxRecDepth 100000 in
theorem equal_vo (on on' h0 h1 h2 h3 h0' h1' h2' h3' : Bool) (t0 t1 t2 t3 t0' t1' t2' t3' : ByteArray) (w : World) :
    (Op.equalIn 10000 74 (.agg #[.bool on, .bool h0, .string t0, .bool h1, .string t1, .bool h2, .string t2, .bool h3, .string t3]) (.agg #[.bool on', .bool h0', .string t0', .bool h1', .string t1', .bool h2', .string t2', .bool h3', .string t3'])).run Try.prog w =
      .ok (decide (on = on') && (decide (h0 = h0' ∧ t0 = t0') && (decide (h1 = h1' ∧ t1 = t1') && (decide (h2 = h2' ∧ t2 = t2') && decide (h3 = h3' ∧ t3 = t3'))))) w := by
  rw [run_equalIn_agg w 9999 74 _ _ stVoT heldVoT]
  unfold Program.fieldsOf
  rw [Try.underlying74]
  obtain ⟨i, hi⟩ : ∃ i, Try.prog.info? 71 = some i := ⟨_, rfl⟩
  have ha := fun (xs ys : Array Value) (w : World) => run_equalIn_array (P := Try.prog) w 9998 xs ys Try.underlying72 hi
  clear hi
  rw [cellsPl] at ha
  have he := equal_pl 9996
  have hr : List.range 4 = [0, 1, 2, 3] := rfl
  rw [hr] at ha
  by_cases g : on = on'
  · simp [Op.eqFields, Op.eqItems, part, go_sem, Try.underlying4, g, ha, he]
    by_cases a0 : h0 = h0' → ¬ t0 = t0'
    · rw [if_pos a0, imp_no a0]; rfl
    rw [if_neg a0, imp_yes a0]
    by_cases a1 : h1 = h1' → ¬ t1 = t1'
    · rw [if_pos a1, imp_no a1]; rfl
    rw [if_neg a1, imp_yes a1]
    by_cases a2 : h2 = h2' → ¬ t2 = t2'
    · rw [if_pos a2, imp_no a2]; rfl
    rw [if_neg a2, imp_yes a2]
    by_cases a3 : h3 = h3' → ¬ t3 = t3'
    · rw [if_pos a3, imp_no a3]; rfl
    rw [if_neg a3, imp_yes a3]; rfl
  · simp [Op.eqFields, Op.eqItems, part, go_sem, Try.underlying4, g, ha, he]

theorem eql_vo {on on' h0 h1 h2 h3 h0' h1' h2' h3' : Bool} {t0 t1 t2 t3 t0' t1' t2' t3' : ByteArray} {q : Bool}
    (hq : (decide (on = on') && (decide (h0 = h0' ∧ t0 = t0') && (decide (h1 = h1' ∧ t1 = t1') && (decide (h2 = h2' ∧ t2 = t2') && decide (h3 = h3' ∧ t3 = t3'))))) = q) (w : World) :
    (binOp .eql 74 (.agg #[.bool on, .bool h0, .string t0, .bool h1, .string t1, .bool h2, .string t2, .bool h3, .string t3]) (.agg #[.bool on', .bool h0', .string t0', .bool h1', .string t1', .bool h2', .string t2', .bool h3', .string t3'])).run Try.prog w = .ok (.bool q) w := by
  rw [run_eql_struct, equal_vo, hq]
  rfl

end Go.Proofs.Ytbnpnhcegoanmaa.Pl
