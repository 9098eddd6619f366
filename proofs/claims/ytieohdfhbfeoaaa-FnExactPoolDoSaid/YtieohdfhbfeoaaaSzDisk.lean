/-
  The walks of laws.szStringS, laws.szIntS, laws.szWrite, laws.szWriteS and laws.szDisk: where they leave a number that isn't below 0, all lengths are at most what was left. No condition but texts that Go can hold.
-/
import Derived.Test.YtieohdfhbfeoaaaToDisk
namespace Go.Proofs.Ytieohdfhbfeoaaa.Mem
open Go.RowKit
set_option linter.unusedVariables false

/-- What is left: a number below 0, or one not above what was, and all fits. -/
def FitS (r left : Int) (l : List ByteArray) : Prop := r < 0 ∨ (0 ≤ r ∧ r ≤ left ∧ (l.length : Int) ≤ left ∧ ∀ s ∈ l, (s.size : Int) ≤ left)
def FitN (r left : Int) (n : Nat) : Prop := r < 0 ∨ (0 ≤ r ∧ r ≤ left ∧ (n : Int) ≤ left)
def FitW (r left : Int) (l : List Wt) : Prop := r < 0 ∨ (0 ≤ r ∧ r ≤ left ∧ (l.length : Int) ≤ left ∧ ∀ s ∈ l, (s.text.size : Int) ≤ left)

set_option maxRecDepth 100000 in
set_option maxHeartbeats 1000000 in
theorem szStringS (w : World) (a : Option Addr) (cap : Nat) (l : List ByteArray) (left : Int) (S : Strs w a l) (hl : l.length ≤ maxLen) (hs : ∀ s ∈ l, s.size ≤ maxLen) (h0 : 0 ≤ left) (h1 : left ≤ 1048576) :
    Calls Try.prog 53 #[.slice a l.length cap, .int .i64 left] w fun e w' => ∃ r, e = .returned (.int .i64 r) ∧ w' = w ∧ FitS r left l := by
  unfold maxLen at hl hs
  have HS := hid S
  have Hs := hid hs
  clear S hs
  by_cases hb : left < (l.length : Int)
  · go_enter Try.func53, Try.ntmps53
    go_wp2
    go_ret
    exact ⟨_, rfl, rfl, Or.inl (by decide)⟩
  · go_enter Try.func53, Try.ntmps53
    go_wp2
    go_loop [1, 5] (fun x i => ∃ (k : Nat) (m : Int), k ≤ l.length ∧ i = .int .i64 (k : Int) ∧ x = .int .i64 m ∧ 0 ≤ m ∧ m ≤ left ∧ Hid (∀ j, j < k → ((l.getD j ByteArray.empty).size : Int) ≤ left)) (fun _ i => l.length - (intOf i).toNat)
    case atStart => exact ⟨0, _, Nat.zero_le _, rfl, rfl, by omega, by omega, fun j hj => by omega⟩
    case round =>
      obtain ⟨k, m, hk, rfl, rfl, hm0, hm1, HJ⟩ := hrel
      by_cases hlt : k < l.length
      · obtain ⟨b, off, rfl, hc⟩ := HS.out k hlt
        replace hc : w.cell? ⟨b, off + k, none⟩ = some (.string (l.getD k ByteArray.empty)) := hc
        have hx2 : (l.getD k ByteArray.empty).size ≤ 9223372036854775807 := by
          rw [List.getD, List.getElem?_eq_getElem hlt]; exact Hs.out _ (List.getElem_mem hlt)
        generalize hx : l.getD k ByteArray.empty = x at hc hx2
        have HX := hid hx
        clear hx
        by_cases hneg : m < (x.size : Int)
        · go_wp2
          go_ret
          exact ⟨_, rfl, rfl, Or.inl (by decide)⟩
        · go_wp2
          go_round
          case rel => exact ⟨k + 1, m - x.size, by omega, by go_num, rfl, by omega, by omega, fun j hj => by
            by_cases h : j = k
            · subst h; rw [HX.out]; omega
            · exact HJ.out j (by omega)⟩
          case measure => simp [intOf]; omega
      · obtain rfl : k = l.length := by omega
        go_wp2
        go_ret
        refine ⟨_, rfl, rfl, Or.inr ⟨hm0, hm1, by omega, fun s hs => ?_⟩⟩
        obtain ⟨j, hj, rfl⟩ := List.getElem_of_mem hs
        have := HJ.out j hj
        rwa [List.getD, List.getElem?_eq_getElem hj] at this

/-- The sizes that Go can hold. -/
structure Dk.Held (D : Dk) : Prop where
  h1 : D.sec.length ≤ maxLen
  h2 : D.ep.length ≤ maxLen
  h3 : D.pe.length ≤ maxLen
  t1 : ∀ s ∈ D.sec, s.size ≤ maxLen
  t3 : ∀ x ∈ D.pe, x.text.size ≤ maxLen

/-- The sizes that the laws look at. -/
structure Dk.Small (D : Dk) (m : Int) : Prop where
  h1 : (D.sec.length : Int) ≤ m
  h2 : (D.ep.length : Int) ≤ m
  h3 : (D.pe.length : Int) ≤ m
  t1 : ∀ s ∈ D.sec, (s.size : Int) ≤ m
  t3 : ∀ x ∈ D.pe, (x.text.size : Int) ≤ m

def FitD (r left : Int) (D : Dk) : Prop := r < 0 ∨ (0 ≤ r ∧ r ≤ left ∧ D.Small left)

end Go.Proofs.Ytieohdfhbfeoaaa.Mem
