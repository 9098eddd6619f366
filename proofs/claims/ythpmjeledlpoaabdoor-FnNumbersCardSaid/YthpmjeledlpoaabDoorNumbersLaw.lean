/-
  The walk of laws.FnNumbers: at every code the law answers true, and nothing that was there is changed, where the library's table of powers of ten holds what its text lays. No other condition.
-/
import Derived.Test.YthpmjeledlpoaabDoorNumbersCore
import Derived.Test.YthpmjeledlpoaabDoorNumbersNum
import Derived.Test.YthpmjeledlpoaabDoorReadVarLaw
import Derived.Test.YthpmjeledlpoaabDoorReadFixedWalks
import Derived.Test.YthpmjeledlpoaabDoorFixedWalks2
import Derived.Test.YthpmjeledlpoaabDoorHexWalks2
import Derived.Test.YthpmjeledlpoaabDoorUnhexImpl
import Derived.Test.YthpmjeledlpoaabDoorReadDecImpl
namespace Go.Proofs.YthpmjeledlpoaabDoor.Numbers
open Go.RowKit
open Go.Proofs.YthpmjeledlpoaabDoor.Var (bl bl_length bl_getD bl_bd bl_inj bl_str val varL varS)
set_option linter.unusedVariables false

theorem small_max {n : Nat} (h : n ≤ 5000) : n ≤ maxLen := by unfold maxLen; omega

theorem emp_yes : (⟨#[]⟩ : ByteArray).toList.isEmpty = true := by rw [ByteArray.toList_eq]; rfl
theorem emp_no {s : ByteArray} (h : 0 < s.size) : s.toList.isEmpty = false := by
  rw [ByteArray.toList_eq]
  cases hs : s.data.toList with
  | nil =>
    have : s.data.toList.length = s.size := by simp
    rw [hs] at this; simp at this; omega
  | cons a l => rfl

/-- What impl.ReadVar reads is what impl.Var makes. -/
theorem read_any (t : ByteArray) (ht : t.size ≤ maxLen) : ∃ (z : Int) (j : Nat), j ≤ t.size ∧
    (∀ w : World, Calls Tryd.prog 8 #[.string t] w fun e w' => e = .returned (.tuple #[.int .i64 z, .int .i64 (j : Int)]) ∧ w' = w) ∧
    (j ≠ 0 → 0 ≤ z ∧ z ≤ 562949953421311 ∧ varS z = t.extract 0 j) := by
  rcases Var.first_low t (min 7 t.size) (by omega) with ⟨m, h1, h2, h3⟩ | h1
  · by_cases hz : m = 0 ∨ (bl t).getD m 0 ≠ 0
    · refine ⟨val ((bl t).take (m + 1)), m + 1, by omega, fun w => ?_, fun _ => ?_⟩
      · rw [show ((m + 1 : Nat) : Int) = (m : Int) + 1 from rfl]
        exact Var.impl_read t m w ht (by omega) (by omega) h2 h3 hz
      · have hv := Var.val_le ((bl t).take (m + 1)) (by have := Var.len_take t (m + 1); omega)
        exact ⟨hv.1, hv.2, Var.hit_of t m (by omega) (by omega) h2 h3 hz⟩
    · have hm : m ≠ 0 := fun e => hz (Or.inl e)
      have hb : (bl t).getD m 0 = 0 := by
        by_cases e : (bl t).getD m 0 = 0
        · exact e
        · exact absurd (Or.inr e) hz
      exact ⟨0, 0, by omega, fun w => Var.impl_cut t m w ht (by omega) (by omega) h2 hb hm, fun h => absurd rfl h⟩
  · exact ⟨0, 0, by omega, fun w => Var.impl_none t w ht (fun j a b => h1 j (by omega)), fun h => absurd rfl h⟩

theorem fixed_any (t : ByteArray) (ht : t.size ≤ maxLen) : ∃ (y : Int) (is : Bool),
    ∀ w : World, Calls Tryd.prog 10 #[.string t, .int .i64 7] w fun e w' => e = .returned (.tuple #[.int .i64 y, .bool is]) ∧ w' = w := by
  by_cases h : t.size < 7
  · exact ⟨0, false, fun w => ReadFixed.impl_no t 7 w (by omega)⟩
  · exact ⟨Num.be t 7, true, fun w => ReadFixed.impl_yes t 7 w ht (by decide) (by decide) (by omega)⟩

/-- What is known of Var. -/
theorem know_var (n : Int) (tail : ByteArray) (ht : tail.size ≤ 40) : ∃ (S : ByteArray) (x k : Int), S.size ≤ 7 ∧
    (∀ w : World, Calls Tryd.prog 7 #[.int .i64 n] w fun e w' => e = .returned (.string S) ∧ Below w.heap.size w w') ∧
    (∀ w : World, Calls Tryd.prog 8 #[.string (S ++ tail)] w fun e w' => e = .returned (.tuple #[.int .i64 x, .int .i64 k]) ∧ w' = w) ∧
    ((S.toList.isEmpty = true ∧ (n < 0 ∨ 562949953421311 < n)) ∨ (S.toList.isEmpty = false ∧ 0 ≤ n ∧ n ≤ 562949953421311 ∧ x = n ∧ k = (S.size : Int))) := by
  by_cases h : n < 0 ∨ 562949953421311 < n
  · obtain ⟨z, j, _, hz, _⟩ := read_any (⟨#[]⟩ ++ tail) (small_max (by rw [ByteArray.size_append]; show 0 + tail.size ≤ 5000; omega))
    exact ⟨⟨#[]⟩, z, (j : Int), by decide, fun w => Var.impl_no n w h, hz, Or.inl ⟨emp_yes, h⟩⟩
  · obtain ⟨m, e1, e2, e3, e4, e5, e6⟩ := var_shape n (by omega) (by omega) tail
    refine ⟨varS n, n, ((varS n).size : Int), by omega, fun w => Var.impl_yes n w (by omega) (by omega), fun w => ?_, Or.inr ⟨emp_no (by omega), by omega, by omega, rfl, rfl⟩⟩
    have hsz : (varS n ++ tail).size = m + 1 + tail.size := by rw [ByteArray.size_append, e1]
    have hh := Var.impl_read (varS n ++ tail) m w (small_max (by omega)) (by omega) e2 e3 e4 e5
    rw [e6] at hh
    rw [e1, show ((m + 1 : Nat) : Int) = (m : Int) + 1 from rfl]
    exact hh

/-- What is known of Fixed. -/
theorem know_fixed (n : Int) (h0 : -9223372036854775808 ≤ n) (h1 : n ≤ 9223372036854775807) (tail : ByteArray) (ht : tail.size ≤ 40) : ∃ (T : ByteArray) (y : Int) (is : Bool), T.size ≤ 7 ∧
    (∀ w : World, Calls Tryd.prog 9 #[.int .i64 n, .int .i64 7] w fun e w' => e = .returned (.string T) ∧ Below w.heap.size w w') ∧
    (∀ w : World, Calls Tryd.prog 10 #[.string (T ++ tail), .int .i64 7] w fun e w' => e = .returned (.tuple #[.int .i64 y, .bool is]) ∧ w' = w) ∧
    ((T.toList.isEmpty = true ∧ (n < 0 ∨ 72057594037927936 ≤ n)) ∨ (T.toList.isEmpty = false ∧ 0 ≤ n ∧ n < 72057594037927936 ∧ y = n ∧ is = true ∧ T.size = 7)) := by
  have hp : (256 : Int) ^ 7 = 72057594037927936 := by decide
  by_cases hn : n < 0
  · obtain ⟨y, is, hy⟩ := fixed_any (⟨#[]⟩ ++ tail) (small_max (by rw [ByteArray.size_append]; show 0 + tail.size ≤ 5000; omega))
    exact ⟨⟨#[]⟩, y, is, by decide, fun w => Fix.impl_no n 7 w (Or.inr (Or.inr hn)), hy, Or.inl ⟨emp_yes, Or.inl hn⟩⟩
  · by_cases hg : 0 < n / 256 ^ 7
    · obtain ⟨y, is, hy⟩ := fixed_any (⟨#[]⟩ ++ tail) (small_max (by rw [ByteArray.size_append]; show 0 + tail.size ≤ 5000; omega))
      refine ⟨⟨#[]⟩, y, is, by decide, fun w => Fix.impl_great n 7 w (by decide) (by decide) (by omega) h1 hg, hy, Or.inl ⟨emp_yes, Or.inr ?_⟩⟩
      rw [hp] at hg; omega
    · have hlt : n < 72057594037927936 := by rw [hp] at hg; omega
      have hs7 : (Fix.fxS n 7).size = 7 := Fix.fxS_size n 7
      refine ⟨Fix.fxS n 7, n, true, by omega, fun w => Fix.impl_fits n 7 w (by decide) (by decide) (by omega) h1 hg, fun w => ?_, Or.inr ⟨emp_no (by omega), by omega, hlt, rfl, rfl, hs7⟩⟩
      have hh := ReadFixed.impl_yes (Fix.fxS n 7 ++ tail) 7 w (small_max (by rw [ByteArray.size_append]; omega)) (by decide) (by decide) (by rw [ByteArray.size_append]; omega)
      rw [be_fixed n (by omega) hlt tail] at hh
      exact hh

/-- What is known of Dec. -/
theorem know_dec (n : Int) (h0 : -9223372036854775808 ≤ n) (h1 : n ≤ 9223372036854775807) : ∃ (d : Int) (fine : Bool),
    (∀ w : World, Calls Tryd.prog 11 #[.string (Dec.decS n)] w fun e w' => e = .returned (.tuple #[.int .i64 d, .bool fine]) ∧ w' = w) ∧
    ((fine = false ∧ (n ≤ -1000000000 ∨ 1000000000 ≤ n)) ∨ (fine = true ∧ -1000000000 < n ∧ n < 1000000000 ∧ d = n)) := by
  have hsz := small_max (n := (Dec.decS n).size) (by have := decS_size n h0 h1; omega)
  obtain ⟨d, b, hc, hd, hcut⟩ := Dec.cut_any (Dec.decS n) hsz
  by_cases hn : n ≤ -1000000000 ∨ 1000000000 ≤ n
  · exact ⟨0, false, fun w => Dec.impl_len (Dec.decS n) d b w hsz hd hcut (Or.inr (dec_many n hn h0 h1 d b hc)), Or.inl ⟨rfl, hn⟩⟩
  · obtain ⟨ht, hv⟩ := dec_take n (by omega) (by omega) d b hc
    refine ⟨n, true, fun w => ?_, Or.inr ⟨rfl, by omega, by omega, rfl⟩⟩
    have hh := Dec.impl_take (Dec.decS n) d b ht.1 ht.2.1 ht.2.2.1 ht.2.2.2 w hsz hd hcut
    rw [hv] at hh
    exact hh

set_option maxHeartbeats 1000000 in
theorem law (w : World) (a : Option Addr) (len cap : Nat) (zs : List Int) (C : Draw.Code w a len cap zs) (htab : Lib.TabIs Tryd.prog w "internal/strconv.uint64pow10" .u64 Lib.pow10Tab) :
    Calls Tryd.prog 3 #[.slice a len cap] w fun e w' => e = .returned (.bool true) ∧ Below w.heap.size w w' := by
  obtain ⟨n, hn0, hn1, dV⟩ := Draw.drawVar zs
  obtain ⟨tail, st, dH⟩ := Draw.drawHex zs
  obtain ⟨r, sr, dR⟩ := Draw.drawReadVar zs
  obtain ⟨S, x, k, sS, cV, cRV, hS⟩ := know_var n tail st
  obtain ⟨T, y, is, sT, cF, cRF, hT⟩ := know_fixed n hn0 hn1 tail st
  obtain ⟨d, fine, cRD, hD⟩ := know_dec n hn0 hn1
  obtain ⟨z, j, jr, cRV2, hj⟩ := read_any r (small_max (by omega))
  have cV2 : j ≠ 0 → ∀ w : World, Calls Tryd.prog 7 #[.int .i64 z] w fun e w' => e = .returned (.string (r.extract 0 j)) ∧ Below w.heap.size w w' := by
    intro h w
    obtain ⟨a1, a2, a3⟩ := hj h
    rw [← a3]
    exact Var.impl_yes z w a1 a2
  have hhs : (Hex.hexS tail).size = 2 * tail.size := hex_size tail
  have cH : ∀ w : World, Calls Tryd.prog 14 #[.string tail] w fun e w' => e = .returned (.string (Hex.hexS tail)) ∧ Below w.heap.size w w' := fun w => Hex.impl_any tail w (by omega)
  have cU : ∀ w : World, Calls Tryd.prog 13 #[.string (Hex.hexS tail)] w fun e w' => e = .returned (.tuple #[.string tail, .bool true]) ∧ Below w.heap.size w w' := by
    intro w
    have hh := Hex.impl_all (Hex.hexS tail) tail.size w (by omega) hhs (fun k hk => hex_ok tail k hk)
    rw [hex_back tail] at hh
    exact hh
  have K : Known zs n tail S T (Hex.hexS tail) r x k y d z j is fine := ⟨dV, dH, dR, cV, cRV, cF, cRF, fun w h => Dec.impl_dec n hn0 hn1 w h, cRD, cH, cU, cRV2, cV2, sS, sT, st, sr, jr⟩
  have hjc : ((j : Int) == 0) = true ∨ ((j : Int) == 0) = false := by cases ((j : Int) == 0) <;> simp
  rcases hS with ⟨eS, rS⟩ | ⟨eS, rS0, rS1, rfl, rfl⟩
  · rcases hT with ⟨eT, rT⟩ | ⟨eT, rT0, rT1, rfl, rfl, e7⟩
    · rcases hD with ⟨rfl, rD⟩ | ⟨rfl, rD0, rD1, rfl⟩
      · by_cases hneg : n < 0
        · rcases hjc with ej | ej
          · exact core_a0 zs n tail S T _ r x k y d z j is K w a len cap C htab (by omega) eS eT ej
          · exact core_a1 zs n tail S T _ r x k y d z j is K w a len cap C htab (by omega) eS eT ej
        · rcases hjc with ej | ej
          · exact core_f0 zs n tail S T _ r x k y d z j is K w a len cap C htab (by omega) eS eT ej
          · exact core_f1 zs n tail S T _ r x k y d z j is K w a len cap C htab (by omega) eS eT ej
      · rcases hjc with ej | ej
        · exact core_b0 zs d tail S T _ r x k y d z j is K w a len cap C htab (by omega) (by omega) eS eT ej
        · exact core_b1 zs d tail S T _ r x k y d z j is K w a len cap C htab (by omega) (by omega) eS eT ej
    · rcases hD with ⟨rfl, rD⟩ | ⟨rfl, rD0, rD1, rfl⟩
      · rcases hjc with ej | ej
        · exact core_e0 zs y tail S T _ r x k y d z j true K w a len cap C htab (by omega) (by omega) eS eT (by rw [e7]; rfl) ej
        · exact core_e1 zs y tail S T _ r x k y d z j true K w a len cap C htab (by omega) (by omega) eS eT (by rw [e7]; rfl) ej
      · omega
  · rcases hT with ⟨eT, rT⟩ | ⟨eT, rT0, rT1, e, rfl, e7⟩
    · omega
    · subst e
      rcases hD with ⟨rfl, rD⟩ | ⟨rfl, rD0, rD1, e⟩
      · rcases hjc with ej | ej
        · exact core_d0 zs y tail S T _ r y 0 y d z j true K w a len cap C htab (by omega) (by omega) eS eT (by rw [e7]; rfl) ej
        · exact core_d1 zs y tail S T _ r y 0 y d z j true K w a len cap C htab (by omega) (by omega) eS eT (by rw [e7]; rfl) ej
      · subst e
        rcases hjc with ej | ej
        · exact core_c0 zs d tail S T _ r d 0 d d z j true K w a len cap C htab (by omega) (by omega) eS eT (by rw [e7]; rfl) ej
        · exact core_c1 zs d tail S T _ r d 0 d d z j true K w a len cap C htab (by omega) (by omega) eS eT (by rw [e7]; rfl) ej

end Go.Proofs.YthpmjeledlpoaabDoor.Numbers
