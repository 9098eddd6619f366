/-
  The walk of impl.Dec: it gives the decimal digits of n, where the library's table of powers of ten holds what its text lays. No other condition.
-/
import Derived.Test.YthpmjeledlpoaabDoorDecNeg
import Derived.Test.YthpmjeledlpoaabDoorShelf
import Derived.Lib.LaidTab
import Derived.WalkSmall
namespace Go.Proofs.YthpmjeledlpoaabDoor.Dec
open Go.RowKit
open Go.Proofs.YthpmjeledlpoaabDoor.Var (bl bl_length bl_getD bl_bd bl_inj bl_str)
set_option linter.unusedVariables false

theorem digits_eq : ∀ (f u : Nat), 0 < u → u < 10 ^ f → (Lib.decDigits u).map (fun c => (c.toNat : Int)) = ddF f u
  | 0, u, h0, h1 => by simp at h1; omega
  | f + 1, u, h0, h1 => by
    rw [Lib.decDigits, ddF_pos f u (by omega)]
    by_cases hu : u < 10
    · rw [dif_pos hu, show u / 10 = 0 by omega, ddF_zero]
      have e : (UInt8.ofNat (48 + u)).toNat = 48 + u := by rw [UInt8.toNat_ofNat']; exact Nat.mod_eq_of_lt (by omega)
      simp only [List.map_cons, List.map_nil, List.nil_append, e]
      congr 1; omega
    · rw [dif_neg hu, List.map_append, digits_eq f (u / 10) (by omega) (by rw [Nat.pow_succ] at h1; omega)]
      have e : (UInt8.ofNat (48 + u % 10)).toNat = 48 + u % 10 := by rw [UInt8.toNat_ofNat']; exact Nat.mod_eq_of_lt (by omega)
      simp only [List.map_cons, List.map_nil, e]
      congr 2

theorem bl_mk (l : List UInt8) : bl ⟨l.toArray⟩ = l.map (fun c => (c.toNat : Int)) := rfl

theorem itoa_eq (N : Int) (h0 : -9223372036854775808 ≤ N) (h1 : N ≤ 9223372036854775807) : (⟨(Lib.itoa N).toArray⟩ : ByteArray) = decS N := by
  symm
  rw [decS_iff, bl_mk]
  unfold decL Lib.itoa
  by_cases hz : N = 0
  · subst hz
    rw [if_pos rfl, if_neg (by decide), show Int.toNat 0 = 0 from rfl, Lib.decDigits, dif_pos (by decide)]
    rfl
  · rw [if_neg hz]
    have hlt : ∀ m : Nat, m ≤ 9223372036854775808 → m < 10 ^ 20 := fun m hm => Nat.lt_of_le_of_lt hm (by decide)
    by_cases hn : N < 0
    · rw [if_pos hn, if_pos hn, List.map_cons, digits_eq 20 N.natAbs (by omega) (hlt _ (by omega)), show N.natAbs = (-N).toNat by omega]
      rfl
    · rw [if_neg hn, if_neg hn, digits_eq 20 N.toNat (by omega) (hlt _ (by omega))]

theorem below_grow (w : World) (k : Nat) (os : Array Obj) : Below w.heap.size w (Go.Sort.grow (w.drewN k) os) :=
  (below_drewN (Below.refl _ w) k).trans ⟨rfl, rfl, rfl, by simp [Go.Sort.size_grow], fun i hi => Go.Sort.heap_grow_old _ _ (by simpa using hi)⟩

theorem tab_lt {P : Program} {w : World} {n : String} {g : Nat} {cs : Array Value} (hg : P.globalNamed n = some g) (hv : w.var? P n = some cs) : g < w.heap.size := by
  unfold World.var? at hv
  simp only [hg, Option.bind_some] at hv
  rcases Nat.lt_or_ge g w.heap.size with h | h
  · exact h
  · rw [Array.getElem?_eq_none h] at hv; simp at hv

theorem gPow : Tryd.prog.globalNamed "internal/strconv.uint64pow10" = some 1 := by kernel_rfl

theorem tab_below {w w' : World} (h : Lib.TabIs Tryd.prog w "internal/strconv.uint64pow10" .u64 Lib.pow10Tab) (hb : Below w.heap.size w w') : Lib.TabIs Tryd.prog w' "internal/strconv.uint64pow10" .u64 Lib.pow10Tab :=
  var?_below hb gPow (tab_lt gPow h) h

set_option maxRecDepth 100000 in
set_option maxHeartbeats 400000 in
theorem impl_dec (N : Int) (h0 : -9223372036854775808 ≤ N) (h1 : N ≤ 9223372036854775807) (w : World) (htab : Lib.TabIs Tryd.prog w "internal/strconv.uint64pow10" .u64 Lib.pow10Tab) :
    Calls Tryd.prog 12 #[.int .i64 N] w fun e w' => e = .returned (.string (decS N)) ∧ Below w.heap.size w w' := by
  have HT : Hid (Lib.TabIs Tryd.prog w "internal/strconv.uint64pow10" .u64 Lib.pow10Tab) := htab
  have HE : Hid ((⟨(Lib.itoa N).toArray⟩ : ByteArray) = decS N) := itoa_eq N h0 h1
  clear htab
  go_enter Tryd.func12, Tryd.ntmps12
  go_wp2_with fail
  refine (Any.strconv_Itoa Tryd.laysM171 N h0 h1 _ HT.out).mono ?_
  rw [HE.out]
  rintro e w1 ⟨rfl, k, os, rfl⟩
  go_wp2
  go_ret
  exact ⟨rfl, below_grow _ _ _⟩

end Go.Proofs.YthpmjeledlpoaabDoor.Dec
