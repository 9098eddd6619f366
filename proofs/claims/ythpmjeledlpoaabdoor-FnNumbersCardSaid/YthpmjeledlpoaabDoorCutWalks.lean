/-
  The walk of strings.CutPrefix at a minus. No condition.
-/
import Derived.Test.YthpmjeledlpoaabDoorDecNeg
namespace Go.Proofs.YthpmjeledlpoaabDoor.Dec
open Go.RowKit
open Go.Proofs.YthpmjeledlpoaabDoor.Var (bl bl_length bl_getD bl_bd bl_inj bl_str)
open Go.Proofs.YthpmjeledlpoaabDoor.Hex (bt bt_eq bt_bd)
set_option linter.unusedVariables false

set_option maxRecDepth 100000 in
set_option maxHeartbeats 1000000 in
theorem cut_none (s : ByteArray) (w : World) (hs : s.size ≤ maxLen) (h : s.size = 0) :
    Calls Tryd.prog 20 #[.string s, .string { data := #[45] }] w fun e w' => e = .returned (.tuple #[.string s, .bool false]) ∧ w' = w := by
  unfold maxLen at hs
  have h45 : ({ data := #[45] } : ByteArray).size = 1 := rfl
  have h0' : (s.size : Int) < 1 := by omega
  clear h
  go_enter Tryd.func20, Tryd.ntmps20
  go_wp2
  go_ret2
  exact ⟨rfl, rfl⟩

set_option maxRecDepth 100000 in
set_option maxHeartbeats 1000000 in
theorem cut_no (s : ByteArray) (w : World) (hs : s.size ≤ maxLen) (h : 0 < s.size) (ht : ((s.extract 0 1).toList == [45]) = false) :
    Calls Tryd.prog 20 #[.string s, .string { data := #[45] }] w fun e w' => e = .returned (.tuple #[.string s, .bool false]) ∧ w' = w := by
  unfold maxLen at hs
  have h45 : ({ data := #[45] } : ByteArray).size = 1 := rfl
  have h0' : (1 : Int) ≤ (s.size : Int) := by omega
  clear h
  go_enter Tryd.func20, Tryd.ntmps20
  go_wp2
  go_ret2
  exact ⟨rfl, rfl⟩

set_option maxRecDepth 100000 in
set_option maxHeartbeats 1000000 in
theorem cut_yes (s : ByteArray) (w : World) (hs : s.size ≤ maxLen) (h : 0 < s.size) (ht : ((s.extract 0 1).toList == [45]) = true) :
    Calls Tryd.prog 20 #[.string s, .string { data := #[45] }] w fun e w' => e = .returned (.tuple #[.string (s.extract 1 s.size), .bool true]) ∧ w' = w := by
  unfold maxLen at hs
  have h45 : ({ data := #[45] } : ByteArray).size = 1 := rfl
  have h0' : (1 : Int) ≤ (s.size : Int) := by omega
  clear h
  go_enter Tryd.func20, Tryd.ntmps20
  go_wp2
  go_ret2
  exact ⟨rfl, rfl⟩

theorem first_byte (s : ByteArray) (h : 0 < s.size) : (s.extract 0 1).toList = [s[0]] := by
  rw [ByteArray.toList_eq]
  have e := Hex.take_snoc s 0 h
  have hl : (s.extract 0 1).data.toList = s.data.toList.take 1 := by simp [ByteArray.data_extract]
  rw [hl, List.take_one, List.head?_eq_getElem?]
  simp [h]
  rfl

theorem bl_rest (s : ByteArray) (h : 0 < s.size) : bl s = (s[0].toNat : Int) :: bl (s.extract 1 s.size) := by
  have hlen : s.data.toList.length = s.size := by simp
  have e : (s.extract 1 s.size).data.toList = s.data.toList.drop 1 := by
    simp only [ByteArray.data_extract, Array.toList_extract, List.extract_eq_take_drop]
    rw [List.take_of_length_le (by rw [List.length_drop, hlen]; omega)]
  have hl : s.data.toList = s[0] :: s.data.toList.drop 1 := by
    exact List.drop_eq_getElem_cons (l := s.data.toList) (i := 0) (by omega)
  unfold bl
  rw [e]
  conv => lhs; rw [hl]
  rfl

/-- s without its minus, where it has one. -/
theorem cut_any (s : ByteArray) (hs : s.size ≤ maxLen) : ∃ (d : ByteArray) (b : Bool), cutOf s d b ∧ d.size ≤ s.size ∧
    ∀ w : World, Calls Tryd.prog 20 #[.string s, .string { data := #[45] }] w fun e w' => e = .returned (.tuple #[.string d, .bool b]) ∧ w' = w := by
  by_cases h0 : s.size = 0
  · exact ⟨s, false, Or.inr ⟨rfl, rfl, Or.inl h0⟩, Nat.le_refl _, fun w => cut_none s w hs h0⟩
  · have hp : 0 < s.size := by omega
    have e1 := first_byte s hp
    by_cases hm : s[0] = 45
    · refine ⟨s.extract 1 s.size, true, Or.inl ⟨rfl, ?_⟩, by simp, fun w => cut_yes s w hs hp (by rw [e1, hm]; rfl)⟩
      rw [bl_rest s hp, hm]; rfl
    · refine ⟨s, false, Or.inr ⟨rfl, rfl, Or.inr ?_⟩, Nat.le_refl _, fun w => cut_no s w hs hp (by rw [e1]; simpa using hm)⟩
      rw [← bt_eq s 0 hp]
      intro e
      apply hm
      apply UInt8.toNat_inj.1
      show s[0].toNat = 45
      omega

end Go.Proofs.YthpmjeledlpoaabDoor.Dec
