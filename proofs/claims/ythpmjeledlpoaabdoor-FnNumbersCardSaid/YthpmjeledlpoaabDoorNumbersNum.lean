/-
  What is made of a number is read as it: plain facts on Var, Fixed, Dec and Hex. No condition.
-/
import Derived.Test.YthpmjeledlpoaabDoorDecNum
import Derived.Test.YthpmjeledlpoaabDoorFixNum
import Derived.Test.YthpmjeledlpoaabDoorNum
namespace Go.Proofs.YthpmjeledlpoaabDoor.Numbers
open Go.Proofs.YthpmjeledlpoaabDoor.Var (bl bl_length bl_getD bl_bd bl_inj bl_str val varL varS varL_more varL_last varL_bd varL_shape)
open Go.Proofs.YthpmjeledlpoaabDoor.Hex (bt bt_eq bt_bd hexL hexS hexL_length dg ud ud_dg okp uL)
open Go.Proofs.YthpmjeledlpoaabDoor.Dec (ddF ddF_zero ddF_pos ddF_dv ddF_digit ddF_head dv dv_lt decL decS decL_bd cutOf Take)
open Go.Proofs.YthpmjeledlpoaabDoor.Fix (fxL fxS fxL_length fxS_size)
set_option linter.unusedVariables false

theorem bl_append (a b : ByteArray) : bl (a ++ b) = bl a ++ bl b := by
  unfold bl; rw [ByteArray.data_append]; simp

theorem str_bl (t : ByteArray) : strOfNums (bl t) = t := by
  apply bl_inj
  exact bl_str _ (bl_bd t)

theorem bl_empty : bl ⟨#[]⟩ = [] := rfl

/-! ### Var -/

theorem val_varL : ∀ (f : Nat) (q : Int), 0 ≤ q → q < 128 ^ f → val (varL f q) = q
  | 0, q, h0, h1 => by simp at h1; have : q = 0 := by omega
                       subst this; rfl
  | f + 1, q, h0, h1 => by
    by_cases hq : 128 ≤ q
    · rw [varL_more f q hq, val, val_varL f (q / 128) (by omega) (by rw [Int.pow_succ] at h1; omega)]; omega
    · rw [varL_last f q (by omega)]
      simp only [val]; omega

/-- The Var of n, with whatever behind it: the place of its last byte. -/
theorem var_shape (n : Int) (h0 : 0 ≤ n) (h1 : n ≤ 562949953421311) (tail : ByteArray) :
    ∃ m, (varS n).size = m + 1 ∧ m < 7 ∧ (∀ j, j < m → 128 ≤ (bl (varS n ++ tail)).getD j 0) ∧ (bl (varS n ++ tail)).getD m 0 < 128 ∧ (m = 0 ∨ (bl (varS n ++ tail)).getD m 0 ≠ 0) ∧ val ((bl (varS n ++ tail)).take (m + 1)) = n := by
  have hlt : n < 128 ^ (6 + 1) := by show n < 562949953421312; omega
  obtain ⟨m, a1, a2, a3, a4, _⟩ := varL_shape 6 n h0 hlt
  have a1' : (varL 7 n).length = m + 1 := a1
  have hb : bl (varS n) = varL 7 n := bl_str _ (varL_bd 7 n h0)
  have hsz : (varS n).size = m + 1 := by rw [← bl_length, hb]; exact a1
  have key : ∀ j, j < m + 1 → (bl (varS n ++ tail)).getD j 0 = (varL 7 n).getD j 0 := by
    intro j hj
    rw [bl_append, hb, List.getD, List.getD, List.getElem?_append_left (by rw [a1']; exact hj)]
  have hm7 : m < 7 := by
    have : ∀ f q, (varL f q).length ≤ f := by
      intro f
      induction f with
      | zero => intro q; simp [varL]
      | succ f ih =>
        intro q
        rw [varL]
        split
        · simp only [List.length_cons]; have := ih (q / 128); omega
        · simp
    have := this 7 n
    omega
  refine ⟨m, hsz, hm7, fun j hj => ?_, ?_, ?_, ?_⟩
  · rw [key j (by omega)]; exact a2 j hj
  · rw [key m (by omega)]; exact a3
  · rw [key m (by omega)]; exact a4
  · rw [bl_append, hb, List.take_left' a1']
    exact val_varL 7 n h0 hlt

/-! ### Fixed -/

theorem be_bl (u : ByteArray) (k : Nat) : Num.be u k = ((bl u).take k).foldl (fun n c => n * 256 + c) 0 := by
  unfold Num.be bl
  rw [← List.map_take, List.foldl_map]

theorem emod_step (N p : Int) (hp : 0 < p) : N % (p * 256) = N % p + p * (N / p % 256) := by
  have h1 := Int.emod_add_mul_ediv N p
  have h2 := Int.emod_add_mul_ediv (N / p) 256
  have r0 : 0 ≤ N % p := Int.emod_nonneg _ (by omega)
  have r1 : N % p < p := Int.emod_lt_of_pos _ hp
  have m0 : 0 ≤ N / p % 256 := by omega
  have m1 : N / p % 256 ≤ 255 := by omega
  have pm0 : 0 ≤ p * (N / p % 256) := Int.mul_nonneg (by omega) m0
  have pm1 : p * (N / p % 256) ≤ p * 255 := Int.mul_le_mul_of_nonneg_left m1 (by omega)
  have e : N = N % p + p * (N / p % 256) + p * 256 * (N / p / 256) := by
    have h3 : p * (N / p) = p * (N / p % 256) + p * 256 * (N / p / 256) := by
      conv => lhs; rw [← h2]
      rw [Int.mul_add, Int.mul_assoc]
    omega
  conv => lhs; rw [e]
  rw [Int.add_mul_emod_self_left]
  exact Int.emod_eq_of_lt (by omega) (by omega)

theorem foldl_fx (N : Int) : ∀ (k : Nat) (a : Int), (fxL N k).foldl (fun n c => n * 256 + c) a = a * 256 ^ k + N % 256 ^ k
  | 0, a => by simp [fxL]
  | k + 1, a => by
    rw [fxL, List.foldl_cons, foldl_fx N k]
    have hp : (0 : Int) < 256 ^ k := Int.pow_pos (by decide)
    have e1 : N % 256 ^ (k + 1) = N % 256 ^ k + 256 ^ k * (N / 256 ^ k % 256) := by
      rw [Int.pow_succ]; exact emod_step N _ hp
    rw [e1, Int.pow_succ, Int.add_mul]
    have e2 : a * 256 * 256 ^ k = a * (256 ^ k * 256) := by rw [Int.mul_assoc, Int.mul_comm 256]
    have e3 : N / 256 ^ k % 256 * 256 ^ k = 256 ^ k * (N / 256 ^ k % 256) := Int.mul_comm _ _
    rw [e2, e3]; omega

theorem fxL_bd (N : Int) : ∀ k, ∀ c ∈ fxL N k, 0 ≤ c ∧ c < 256
  | 0, c, h => by simp [fxL] at h
  | k + 1, c, h => by
    rw [fxL] at h
    rcases List.mem_cons.1 h with rfl | h
    · omega
    · exact fxL_bd N k c h

theorem be_fixed (n : Int) (h0 : 0 ≤ n) (h1 : n < 72057594037927936) (tail : ByteArray) : Num.be (fxS n 7 ++ tail) 7 = n := by
  have hb : bl (fxS n 7) = fxL n 7 := bl_str _ (fxL_bd n 7)
  rw [be_bl, bl_append, hb, List.take_left' (fxL_length n 7), foldl_fx]
  have : (256 : Int) ^ 7 = 72057594037927936 := by decide
  rw [this]; omega

/-! ### Dec -/

theorem ddF_len_le : ∀ (f q k : Nat), q < 10 ^ k → (ddF f q).length ≤ k
  | 0, q, k, h => by simp [ddF]
  | f + 1, q, k, h => by
    by_cases hq : q = 0
    · subst hq; rw [ddF_zero]; simp
    · rw [ddF_pos f q hq]
      cases k with
      | zero => simp at h; omega
      | succ k =>
        have := ddF_len_le f (q / 10) k (by rw [Nat.pow_succ] at h; omega)
        simp; omega

theorem ddF_len_gt : ∀ (f q k : Nat), q < 10 ^ f → 10 ^ k ≤ q → k < (ddF f q).length
  | 0, q, k, h, hk => by
    simp at h
    have : 0 < 10 ^ k := Nat.pow_pos (by decide)
    omega
  | f + 1, q, k, h, hk => by
    have hp : 0 < 10 ^ k := Nat.pow_pos (by decide)
    rw [ddF_pos f q (by omega)]
    cases k with
    | zero => simp
    | succ k =>
      have := ddF_len_gt f (q / 10) k (by rw [Nat.pow_succ] at h; omega) (by rw [Nat.pow_succ] at hk; omega)
      simp; omega

theorem ddF_inj : ∀ (f a b : Nat), a < 10 ^ f → b < 10 ^ f → ddF f a = ddF f b → a = b
  | 0, a, b, ha, hb, _ => by simp at ha hb; omega
  | f + 1, a, b, ha, hb, h => by
    by_cases h0 : a = 0
    · subst h0
      by_cases hb0 : b = 0
      · exact hb0.symm
      · rw [ddF_zero, ddF_pos f b hb0] at h
        have := congrArg List.length h
        simp at this
    · by_cases hb0 : b = 0
      · subst hb0
        rw [ddF_zero, ddF_pos f a h0] at h
        have := congrArg List.length h
        simp at this
      · rw [ddF_pos f a h0, ddF_pos f b hb0] at h
        have hh := List.append_inj' h (by simp)
        have e1 := ddF_inj f (a / 10) (b / 10) (by rw [Nat.pow_succ] at ha; omega) (by rw [Nat.pow_succ] at hb; omega) hh.1
        have e2 : (48 : Int) + ((a % 10 : Nat) : Int) = 48 + ((b % 10 : Nat) : Int) := by simpa using hh.2
        omega

/-- A text of the digits of q says q. -/
theorem dv_digits (d : ByteArray) (q : Nat) (h0 : 0 < q) (h1 : q < 10 ^ 20) (hd : bl d = ddF 20 q) (hs : d.size ≤ 20) :
    dv d d.size = q ∧ (∀ j, j < d.size → 48 ≤ bt d j ∧ bt d j ≤ 57) ∧ bt d 0 ≠ 48 ∧ 0 < d.size := by
  have hall : ∀ j, j < d.size → 48 ≤ bt d j ∧ bt d j ≤ 57 := Dec.bt_of_mem d (fun c => 48 ≤ c ∧ c ≤ 57) (by rw [hd]; exact ddF_digit 20 q)
  obtain ⟨c, l, e, hc⟩ := ddF_head 20 q h0 h1
  have hpos : 0 < d.size := by rw [← bl_length d, hd, e]; simp
  have hb0 : bt d 0 ≠ 48 := by unfold bt; rw [hd, e]; simpa using hc
  refine ⟨?_, hall, hb0, hpos⟩
  have h := ddF_dv d d.size 20 hpos hs (Nat.le_refl _) hall hb0
  rw [Hex.take_all d d.size (Nat.le_refl _), hd] at h
  exact ddF_inj 20 _ _ (Nat.lt_of_lt_of_le (dv_lt d d.size hall) (Nat.pow_le_pow_right (by decide) hs)) h1 h

/-- The digits of a number below 10 to the 9th are taken, as it. -/
theorem dec_take (n : Int) (h0 : -1000000000 < n) (h1 : n < 1000000000) (d : ByteArray) (b : Bool) (hc : cutOf (decS n) d b) :
    Take d (decS n).size ∧ (if b = true then - ((dv d d.size : Nat) : Int) else ((dv d d.size : Nat) : Int)) = n := by
  have hs : bl (decS n) = decL n := bl_str _ (decL_bd n)
  have hlt : ∀ m : Nat, m < 1000000000 → m < 10 ^ 20 := fun m hm => Nat.lt_trans hm (by decide)
  unfold decL at hs
  by_cases hz : n = 0
  · subst hz
    rw [if_pos rfl] at hs
    have hsz : (decS 0).size = 1 := by rw [← bl_length, hs]; rfl
    have hb0 : bt (decS 0) 0 = 48 := by unfold bt; rw [hs]; rfl
    rcases hc with ⟨rfl, hh⟩ | ⟨rfl, rfl, _⟩
    · rw [hs] at hh; simp at hh
    · refine ⟨⟨by omega, by omega, fun j hj => ?_, by omega⟩, ?_⟩
      · have : j = 0 := by omega
        subst this; omega
      · rw [hsz]; simp [dv, hb0]
  · rw [if_neg hz] at hs
    by_cases hn : n < 0
    · rw [if_pos hn] at hs
      rcases hc with ⟨rfl, hh⟩ | ⟨rfl, rfl, hm⟩
      · rw [hs] at hh
        have hd : bl d = ddF 20 (-n).toNat := (List.tail_eq_of_cons_eq hh).symm
        have hlen : d.size ≤ 9 := by rw [← bl_length, hd]; exact ddF_len_le 20 _ 9 (by show (-n).toNat < 1000000000; omega)
        obtain ⟨e1, e2, e3, e4⟩ := dv_digits d (-n).toNat (by omega) (hlt _ (by omega)) hd (by omega)
        refine ⟨⟨by omega, hlen, e2, fun h => e3 h.1⟩, ?_⟩
        rw [if_pos rfl, e1]; omega
      · exfalso
        rcases hm with hm | hm
        · have : (bl (decS n)).length = 0 := by rw [bl_length]; exact hm
          rw [hs] at this; simp at this
        · apply hm; unfold bt; rw [hs]; rfl
    · rw [if_neg hn] at hs
      have hlen : (decS n).size ≤ 9 := by rw [← bl_length, hs]; exact ddF_len_le 20 _ 9 (by show n.toNat < 1000000000; omega)
      obtain ⟨e1, e2, e3, e4⟩ := dv_digits (decS n) n.toNat (by omega) (hlt _ (by omega)) hs (by omega)
      rcases hc with ⟨rfl, hh⟩ | ⟨rfl, rfl, _⟩
      · exfalso
        have := (Dec.bt_cons (decS n) d 45 hh).1
        have := e2 0 e4
        omega
      · refine ⟨⟨by omega, hlen, e2, fun h => e3 h.1⟩, ?_⟩
        rw [if_neg (by decide), e1]; omega

/-- Those of any other one are too many. -/
theorem dec_many (n : Int) (h : n ≤ -1000000000 ∨ 1000000000 ≤ n) (h0 : -9223372036854775808 ≤ n) (h1 : n ≤ 9223372036854775807) (d : ByteArray) (b : Bool) (hc : cutOf (decS n) d b) : 9 < d.size := by
  have hs : bl (decS n) = decL n := bl_str _ (decL_bd n)
  have hlt : ∀ m : Nat, m ≤ 9223372036854775808 → m < 10 ^ 20 := fun m hm => Nat.lt_of_le_of_lt hm (by decide)
  unfold decL at hs
  rw [if_neg (by omega)] at hs
  by_cases hn : n < 0
  · rw [if_pos hn] at hs
    rcases hc with ⟨rfl, hh⟩ | ⟨rfl, rfl, hm⟩
    · rw [hs] at hh
      have hd : bl d = ddF 20 (-n).toNat := (List.tail_eq_of_cons_eq hh).symm
      rw [← bl_length, hd]
      exact ddF_len_gt 20 _ 9 (hlt _ (by omega)) (by show 1000000000 ≤ (-n).toNat; omega)
    · exfalso
      rcases hm with hm | hm
      · have : (bl (decS n)).length = 0 := by rw [bl_length]; exact hm
        rw [hs] at this; simp at this
      · apply hm; unfold bt; rw [hs]; rfl
  · rw [if_neg hn] at hs
    have hgt := ddF_len_gt 20 n.toNat 9 (hlt _ (by omega)) (by show 1000000000 ≤ n.toNat; omega)
    rcases hc with ⟨rfl, hh⟩ | ⟨rfl, rfl, _⟩
    · have e2 : (bl (decS n)).length = (bl d).length + 1 := by rw [hh]; simp
      obtain ⟨c, l, e, hc48⟩ := ddF_head 20 n.toNat (by omega) (hlt _ (by omega))
      have hdig := ddF_digit 20 n.toNat c (by rw [e]; simp)
      rw [hs, e] at hh
      have : c = 45 := (List.head_eq_of_cons_eq hh)
      omega
    · rw [← bl_length, hs]; exact hgt

theorem decS_size (n : Int) (h0 : -9223372036854775808 ≤ n) (h1 : n ≤ 9223372036854775807) : (decS n).size ≤ 21 := by
  have hs : bl (decS n) = decL n := bl_str _ (decL_bd n)
  have hlt : ∀ m : Nat, m ≤ 9223372036854775808 → m < 10 ^ 20 := fun m hm => Nat.lt_of_le_of_lt hm (by decide)
  rw [← bl_length, hs]
  unfold decL
  split
  · simp
  · split
    · have := ddF_len_le 20 (-n).toNat 20 (hlt _ (by omega)); simp; omega
    · have := ddF_len_le 20 n.toNat 20 (hlt _ (by omega)); omega

/-! ### Hex -/

theorem dg_bd (x : Int) (h0 : 0 ≤ x) (h1 : x < 16) : 48 ≤ dg x ∧ dg x < 128 := by unfold dg; split <;> omega

theorem hexL_bd : ∀ l : List Int, (∀ c ∈ l, 0 ≤ c ∧ c < 256) → ∀ c ∈ hexL l, 0 ≤ c ∧ c < 256
  | [], _, c, h => by simp [hexL] at h
  | x :: l, hl, c, h => by
    have hx := hl x (by simp)
    rw [hexL] at h
    rcases List.mem_cons.1 h with rfl | h
    · have := dg_bd (x / 16) (by omega) (by omega); omega
    · rcases List.mem_cons.1 h with rfl | h
      · have := dg_bd (x % 16) (by omega) (by omega); omega
      · exact hexL_bd l (fun c hc => hl c (by simp [hc])) c h

theorem hexL_at : ∀ (l : List Int) (k : Nat), k < l.length → (hexL l).getD (2 * k) 0 = dg (l.getD k 0 / 16) ∧ (hexL l).getD (2 * k + 1) 0 = dg (l.getD k 0 % 16)
  | [], k, h => by simp at h
  | x :: l, 0, _ => by simp [hexL]
  | x :: l, k + 1, h => by
    have ih := hexL_at l k (by simpa using h)
    rw [show 2 * (k + 1) = 2 * k + 1 + 1 by omega, hexL]
    simpa using ih

theorem hex_size (t : ByteArray) : (hexS t).size = 2 * t.size := by rw [hexS, strOfNums_size, hexL_length, bl_length]

theorem hex_bt (t : ByteArray) (k : Nat) (h : k < t.size) : bt (hexS t) (2 * k) = dg (bt t k / 16) ∧ bt (hexS t) (2 * k + 1) = dg (bt t k % 16) := by
  have hb : bl (hexS t) = hexL (bl t) := bl_str _ (hexL_bd _ (bl_bd t))
  unfold bt
  rw [hb]
  exact hexL_at (bl t) k (by rw [bl_length]; exact h)

theorem hex_ok (t : ByteArray) (k : Nat) (h : k < t.size) : okp (hexS t) k := by
  have hb := bt_bd t k
  unfold okp
  rw [(hex_bt t k h).1, (hex_bt t k h).2, ud_dg _ (by omega) (by omega), ud_dg _ (by omega) (by omega)]
  omega

theorem hex_uL (t : ByteArray) : ∀ k, k ≤ t.size → uL (hexS t) k = (bl t).take k
  | 0, _ => by simp [uL]
  | k + 1, h => by
    have hb := bt_bd t k
    rw [uL, hex_uL t k (by omega), (hex_bt t k (by omega)).1, (hex_bt t k (by omega)).2, ud_dg _ (by omega) (by omega), ud_dg _ (by omega) (by omega), Dec.take_bt t k (by omega)]
    congr 2; omega

theorem hex_back (t : ByteArray) : strOfNums (uL (hexS t) t.size) = t := by
  rw [hex_uL t t.size (Nat.le_refl _), Hex.take_all t t.size (Nat.le_refl _), str_bl]

end Go.Proofs.YthpmjeledlpoaabDoor.Numbers
