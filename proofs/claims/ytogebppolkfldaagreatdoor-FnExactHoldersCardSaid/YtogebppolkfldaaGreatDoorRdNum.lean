/-
  A Var read on both sides by one function; numbers read one behind the other; the walk of spec.l4Vars. No condition but texts of at most 2^20 bytes.
-/
import Derived.Test.YtogebppolkfldaaGreatDoorReadVarLaw
import Derived.Test.YtogebppolkfldaaGreatDoorAppRow
import Derived.Test.YtogebppolkfldaaGreatDoorToRows
namespace Go.Proofs.YtogebppolkfldaaGreatDoor.Rd
open Go.RowKit Go.Proofs.YtogebppolkfldaaGreatDoor.Mem
open Go.Proofs.YtogebppolkfldaaGreatDoor.Var (bl val first_low spec_hit spec_none impl_read impl_cut impl_none hit_of hit_shape val_le len_take)
set_option linter.unusedVariables false

/-- A text is read as the number x, in k bytes (0: not at all), on both sides. -/
structure RV (s : ByteArray) (p : Int × Nat) : Prop where
  sp : ∀ w : World, Calls Tryz.prog 78 #[.string s] w fun e w' => e = .returned (.tuple #[.int .i64 p.1, .int .i64 (p.2 : Int)]) ∧ Below w.heap.size w w'
  im : ∀ w : World, Calls Tryz.prog 175 #[.string s] w fun e w' => e = .returned (.tuple #[.int .i64 p.1, .int .i64 (p.2 : Int)]) ∧ w' = w
  le : p.2 ≤ s.size
  x0 : 0 ≤ p.1
  x1 : p.1 ≤ 562949953421311

theorem rv_ex (s : ByteArray) (hs : s.size ≤ maxLen) : ∃ p : Int × Nat, RV s p := by
  rcases first_low s (min 7 s.size) (by omega) with ⟨m, h1, h2, h3⟩ | h1
  · by_cases hz : m = 0 ∨ (bl s).getD m 0 ≠ 0
    · have hv := val_le ((bl s).take (m + 1)) (by have := len_take s (m + 1); omega)
      refine ⟨(val ((bl s).take (m + 1)), m + 1), fun w => spec_hit s m w hs (by omega) (by omega) (hit_of s m (by omega) (by omega) h2 h3 hz) ?_, fun w => impl_read s m w hs (by omega) (by omega) h2 h3 hz, by show m + 1 ≤ s.size; omega, hv.1, hv.2⟩
      intro k hk1 hkm hh
      obtain ⟨j, rfl, _, g2, _⟩ := hit_shape s k (by omega) (by omega) hh
      have := h2 j (by omega)
      omega
    · have hm : m ≠ 0 := fun e => hz (Or.inl e)
      have hb : (bl s).getD m 0 = 0 := by
        by_cases e : (bl s).getD m 0 = 0
        · exact e
        · exact absurd (Or.inr e) hz
      refine ⟨(0, 0), fun w => spec_none s w hs ?_, fun w => impl_cut s m w hs (by omega) (by omega) h2 hb hm, Nat.zero_le _, Int.le_refl _, by decide⟩
      intro k hk1 hk7 hks hh
      obtain ⟨j, rfl, g1, g2, g3⟩ := hit_shape s k hks hk7 hh
      by_cases hj : j < m
      · have := h2 j hj; omega
      · by_cases e : j = m
        · subst e
          rcases g3 with g3 | g3
          · exact hm g3
          · exact g3 hb
        · have := g1 m (by omega); omega
  · refine ⟨(0, 0), fun w => spec_none s w hs ?_, fun w => impl_none s w hs (fun j a b => h1 j (by omega)), Nat.zero_le _, Int.le_refl _, by decide⟩
    intro k hk1 hk7 hks hh
    obtain ⟨j, rfl, _, g2, _⟩ := hit_shape s k hks hk7 hh
    have := h1 j (by omega)
    omega

/-- One function that reads every text as both sides do. -/
def Reads (R : ByteArray → Int × Nat) : Prop := ∀ s : ByteArray, s.size ≤ maxLen → RV s (R s)

theorem reads_ex : ∃ R, Reads R := by
  have h : ∀ s : ByteArray, ∃ p : Int × Nat, s.size ≤ maxLen → RV s p := fun s => by
    by_cases hs : s.size ≤ maxLen
    · obtain ⟨p, hp⟩ := rv_ex s hs
      exact ⟨p, fun _ => hp⟩
    · exact ⟨(0, 0), fun h => absurd h hs⟩
  obtain ⟨R, hR⟩ := Classical.axiomOfChoice h
  exact ⟨R, hR⟩

/-- What is left of a text from a place on. -/
def rest (s : ByteArray) (i : Nat) : ByteArray := s.extract i s.size

theorem rest_size (s : ByteArray) (i : Nat) : (rest s i).size = s.size - i := by unfold rest; simp

/-- k numbers from a place on: what they are, and where they end. -/
def nums (R : ByteArray → Int × Nat) (s : ByteArray) (i : Nat) : Nat → Option (List Int × Nat)
  | 0 => some ([], i)
  | k + 1 => (nums R s i k).bind fun p => if (R (rest s p.2)).2 = 0 then none else some (p.1 ++ [(R (rest s p.2)).1], p.2 + (R (rest s p.2)).2)

theorem nums_len {R : ByteArray → Int × Nat} {s : ByteArray} {i : Nat} : ∀ {k : Nat} {l : List Int} {e : Nat}, nums R s i k = some (l, e) → l.length = k
  | 0, l, e, h => by simp [nums] at h; simp [← h.1]
  | k + 1, l, e, h => by
    unfold nums at h
    obtain ⟨p, hp, h2⟩ := Option.bind_eq_some_iff.1 h
    split at h2
    · cases h2
    · simp only [Option.some.injEq, Prod.mk.injEq] at h2
      have := nums_len (l := p.1) (e := p.2) hp
      rw [← h2.1]; simp [this]

theorem nums_le {R : ByteArray → Int × Nat} (hR : Reads R) {s : ByteArray} (hs : s.size ≤ maxLen) {i : Nat} (hi : i ≤ s.size) : ∀ {k : Nat} {l : List Int} {e : Nat}, nums R s i k = some (l, e) → e ≤ s.size
  | 0, l, e, h => by simp [nums] at h; omega
  | k + 1, l, e, h => by
    unfold nums at h
    obtain ⟨p, hp, h2⟩ := Option.bind_eq_some_iff.1 h
    split at h2
    · cases h2
    · simp only [Option.some.injEq, Prod.mk.injEq] at h2
      have h3 := nums_le hR hs hi (l := p.1) (e := p.2) hp
      have h4 := (hR (rest s p.2) (by rw [rest_size]; omega)).le
      rw [rest_size] at h4
      omega

theorem nums_bd {R : ByteArray → Int × Nat} (hR : Reads R) {s : ByteArray} (hs : s.size ≤ maxLen) {i : Nat} : ∀ {k : Nat} {l : List Int} {e : Nat}, nums R s i k = some (l, e) → ∀ x ∈ l, 0 ≤ x ∧ x ≤ 562949953421311
  | 0, l, e, h => by
    obtain ⟨rfl, rfl⟩ : [] = l ∧ i = e := by simpa [nums] using h
    intro x hx
    cases hx
  | k + 1, l, e, h => by
    unfold nums at h
    obtain ⟨p, hp, h2⟩ := Option.bind_eq_some_iff.1 h
    split at h2
    · cases h2
    · simp only [Option.some.injEq, Prod.mk.injEq] at h2
      have h3 := nums_bd hR hs (l := p.1) (e := p.2) hp
      have h4 := hR (rest s p.2) (by rw [rest_size]; omega)
      intro x hx
      rw [← h2.1] at hx
      rcases List.mem_append.1 hx with q | q
      · exact h3 x q
      · simp only [List.mem_cons, List.not_mem_nil, or_false] at q
        rw [q]; exact ⟨h4.x0, h4.x1⟩

theorem nums_none {R : ByteArray → Int × Nat} {s : ByteArray} {i k : Nat} (h : nums R s i k = none) : ∀ n, nums R s i (k + n) = none
  | 0 => h
  | n + 1 => by
    show nums R s i ((k + n) + 1) = none
    unfold nums; rw [nums_none h n]; rfl

theorem nums_step {R : ByteArray → Int × Nat} {s : ByteArray} {i k : Nat} {l : List Int} {e : Nat} (h : nums R s i k = some (l, e)) : nums R s i (k + 1) = if (R (rest s e)).2 = 0 then none else some (l ++ [(R (rest s e)).1], e + (R (rest s e)).2) := by
  conv => lhs; unfold nums
  rw [h]; rfl

/-- The cells of a list of numbers. -/
def ic (l : List Int) : List Value := l.map (.int .i64)
theorem ic_app (l : List Int) (x : Int) : ic l ++ [.int .i64 x] = ic (l ++ [x]) := by simp [ic]
theorem ic_one (l : List Int) : ∀ u ∈ ic l, u.oneCell' = true := by
  intro u hu
  obtain ⟨x, _, rfl⟩ := List.mem_map.1 hu
  rfl

/-- A list of numbers in a row that the call owns. -/
def Ir (w : World) (B : Nat) (v : Value) (l : List Int) : Prop := RowO w B 3 1 v l.length (ic l)

theorem Ir.w {w : World} {B : Nat} {v : Value} {l : List Int} (h : Ir w B v l) : ∃ a cap, v = .slice a l.length cap ∧ IntsW w B a l := by
  obtain ⟨a, cap, e, hw⟩ := RowO.wr h
  rw [Nat.mul_one] at hw
  refine ⟨a, cap, e, hw.congr (fun i hi => ?_)⟩
  simp [ic, List.getD, hi]

theorem one_row (w : World) (x : Int) : Sl (w.alloc (.cells #[.int .i64 x] 3)) (some ⟨w.heap.size, 0, none⟩) (1 * 1) (fun i => [Value.int .i64 x].getD i undef) :=
  (wr_new w _ 3 1 (fun i => [Value.int .i64 x].getD i undef) (fun i hi => by
    have : i = 0 := by omega
    subst this; rfl)).sl

end Go.Proofs.YtogebppolkfldaaGreatDoor.Rd
