/-
  Plain facts on decimal digits. No condition.
-/
import Derived.Test.YthpmjeledlpoaabDoorUnhexNum
namespace Go.Proofs.YthpmjeledlpoaabDoor.Dec
open Go.Proofs.YthpmjeledlpoaabDoor.Var (bl bl_length bl_getD bl_bd bl_inj bl_str)
open Go.Proofs.YthpmjeledlpoaabDoor.Hex (bt bt_eq bt_bd)

/-- The digits of q, none of 0; at most f. -/
def ddF : Nat → Nat → List Int
  | 0, _ => []
  | f + 1, q => if q = 0 then [] else ddF f (q / 10) ++ [48 + ((q % 10 : Nat) : Int)]

theorem ddF_zero (f : Nat) : ddF f 0 = [] := by cases f <;> simp [ddF]

theorem ddF_pos (f q : Nat) (h : q ≠ 0) : ddF (f + 1) q = ddF f (q / 10) ++ [48 + ((q % 10 : Nat) : Int)] := by rw [ddF, if_neg h]

/-- What Dec makes of N, as numbers. -/
def decL (N : Int) : List Int := if N = 0 then [48] else if N < 0 then 45 :: ddF 20 (-N).toNat else ddF 20 N.toNat

def decS (N : Int) : ByteArray := strOfNums (decL N)

theorem ddF_digit : ∀ (f q : Nat), ∀ c ∈ ddF f q, 48 ≤ c ∧ c ≤ 57
  | 0, _, c, h => by simp [ddF] at h
  | f + 1, q, c, h => by
    rw [ddF] at h
    split at h
    · simp at h
    · rcases List.mem_append.1 h with h | h
      · exact ddF_digit f (q / 10) c h
      · simp at h; omega

theorem ddF_head : ∀ (f q : Nat), 0 < q → q < 10 ^ f → ∃ c l, ddF f q = c :: l ∧ c ≠ 48
  | 0, q, h0, h1 => by simp at h1; omega
  | f + 1, q, h0, h1 => by
    rw [ddF_pos f q (by omega)]
    by_cases hq : q < 10
    · have e : q / 10 = 0 := by omega
      rw [e, ddF_zero]
      exact ⟨_, _, rfl, by omega⟩
    · obtain ⟨c, l, e, hc⟩ := ddF_head f (q / 10) (by omega) (by rw [Nat.pow_succ] at h1; omega)
      rw [e]
      exact ⟨c, l ++ [48 + ((q % 10 : Nat) : Int)], rfl, hc⟩

theorem decL_bd (N : Int) : ∀ c ∈ decL N, 0 ≤ c ∧ c < 256 := by
  intro c hc
  unfold decL at hc
  split at hc
  · simp at hc; omega
  · split at hc
    · rcases List.mem_cons.1 hc with h | h
      · omega
      · have := ddF_digit _ _ c h; omega
    · have := ddF_digit _ _ c hc; omega

/-- The number of the first k bytes, where these are digits. -/
def dv (d : ByteArray) : Nat → Nat
  | 0 => 0
  | k + 1 => dv d k * 10 + (bt d k - 48).toNat

theorem dv_lt (d : ByteArray) : ∀ k, (∀ j, j < k → 48 ≤ bt d j ∧ bt d j ≤ 57) → dv d k < 10 ^ k
  | 0, _ => by simp [dv]
  | k + 1, h => by
    have ih := dv_lt d k (fun j hj => h j (by omega))
    have := h k (by omega)
    rw [dv, Nat.pow_succ]; omega

theorem dv_pos (d : ByteArray) : ∀ k, 0 < k → (∀ j, j < k → 48 ≤ bt d j ∧ bt d j ≤ 57) → bt d 0 ≠ 48 → 0 < dv d k
  | 0, h, _, _ => by omega
  | 1, _, h, h0 => by have := h 0 (by omega); simp [dv]; omega
  | k + 2, _, h, h0 => by
    have ih := dv_pos d (k + 1) (by omega) (fun j hj => h j (by omega)) h0
    rw [dv]; omega

theorem take_bt (d : ByteArray) (k : Nat) (h : k < d.size) : (bl d).take (k + 1) = (bl d).take k ++ [bt d k] := by
  rw [Hex.take_snoc d k h, bt_eq d k h]

/-- The digits of the number that digits say are these digits. -/
theorem ddF_dv (d : ByteArray) : ∀ k f, 0 < k → k ≤ f → k ≤ d.size → (∀ j, j < k → 48 ≤ bt d j ∧ bt d j ≤ 57) → bt d 0 ≠ 48 → ddF f (dv d k) = (bl d).take k
  | 0, _, h, _, _, _, _ => by omega
  | 1, 0, _, h, _, _, _ => by omega
  | 1, f + 1, _, _, hs, h, h0 => by
    have hb := h 0 (by omega)
    have e : dv d 1 = (bt d 0 - 48).toNat := by simp [dv]
    rw [e, ddF_pos f _ (by omega), show (bt d 0 - 48).toNat / 10 = 0 by omega, ddF_zero, take_bt d 0 (by omega)]
    simp; omega
  | k + 2, 0, _, h, _, _, _ => by omega
  | k + 2, f + 1, _, hf, hs, h, h0 => by
    have ih := ddF_dv d (k + 1) f (by omega) (by omega) (by omega) (fun j hj => h j (by omega)) h0
    have hp := dv_pos d (k + 2) (by omega) h h0
    have hb := h (k + 1) (by omega)
    have e : dv d (k + 2) = dv d (k + 1) * 10 + (bt d (k + 1) - 48).toNat := rfl
    rw [ddF_pos f _ (by omega), e, show (dv d (k + 1) * 10 + (bt d (k + 1) - 48).toNat) / 10 = dv d (k + 1) by omega, ih, take_bt d (k + 1) (by omega)]
    congr 2; omega

/-- What spec.ReadDec gathers of the first k bytes: the number, and how many digits. -/
def sn (s : ByteArray) : Nat → Nat
  | 0 => 0
  | k + 1 => if 48 ≤ bt s k ∧ bt s k ≤ 57 then sn s k * 10 + (bt s k - 48).toNat else sn s k
def sk (s : ByteArray) : Nat → Nat
  | 0 => 0
  | k + 1 => if 48 ≤ bt s k ∧ bt s k ≤ 57 then sk s k + 1 else sk s k

theorem sn_lt (s : ByteArray) : ∀ k, sn s k < 10 ^ k
  | 0 => by simp [sn]
  | k + 1 => by
    have ih := sn_lt s k
    rw [sn, Nat.pow_succ]
    split <;> omega

theorem sk_le (s : ByteArray) : ∀ k, sk s k ≤ k
  | 0 => Nat.le_refl _
  | k + 1 => by
    have ih := sk_le s k
    rw [sk]; split <;> omega

theorem sn_same (d : ByteArray) : ∀ k, (∀ j, j < k → 48 ≤ bt d j ∧ bt d j ≤ 57) → sn d k = dv d k ∧ sk d k = k
  | 0, _ => ⟨rfl, rfl⟩
  | k + 1, h => by
    have ih := sn_same d k (fun j hj => h j (by omega))
    rw [sn, sk, if_pos (h k (by omega)), if_pos (h k (by omega)), dv, ih.1, ih.2]
    exact ⟨rfl, rfl⟩

theorem sn_minus (s d : ByteArray) (h0 : bt s 0 = 45) (hd : ∀ j, bt s (j + 1) = bt d j) : ∀ k, (∀ j, j < k → 48 ≤ bt d j ∧ bt d j ≤ 57) → sn s (k + 1) = dv d k ∧ sk s (k + 1) = k
  | 0, _ => by rw [sn, sk, if_neg (by omega), if_neg (by omega)]; exact ⟨rfl, rfl⟩
  | k + 1, h => by
    have ih := sn_minus s d h0 hd k (fun j hj => h j (by omega))
    have hb := h k (by omega)
    rw [sn, sk, if_pos (by rw [hd]; exact hb), if_pos (by rw [hd]; exact hb), dv, ih.1, ih.2, hd]
    exact ⟨rfl, rfl⟩

/-- d is s without its minus, where it has one. -/
def cutOf (s d : ByteArray) (b : Bool) : Prop := (b = true ∧ bl s = 45 :: bl d) ∨ (b = false ∧ d = s ∧ (s.size = 0 ∨ bt s 0 ≠ 45))

/-- What impl.ReadDec takes. -/
def Take (d : ByteArray) (ls : Nat) : Prop := 1 ≤ d.size ∧ d.size ≤ 9 ∧ (∀ j, j < d.size → 48 ≤ bt d j ∧ bt d j ≤ 57) ∧ ¬ (bt d 0 = 48 ∧ 1 < ls)

/-- The number that spec.ReadDec gathers. -/
def spN (s : ByteArray) : Int := if 0 < s.size ∧ bt s 0 = 45 then - (sn s (min s.size 11) : Int) else (sn s (min s.size 11) : Int)

/-- What spec.ReadDec takes. -/
def SpTake (s : ByteArray) : Prop := sk s (min s.size 11) ≤ 9 ∧ s.size ≤ 10 ∧ decS (spN s) = s

theorem decS_iff (N : Int) (s : ByteArray) : decS N = s ↔ decL N = bl s := by
  constructor
  · intro h; rw [← h, decS, bl_str _ (decL_bd N)]
  · intro h; apply bl_inj; rw [decS, bl_str _ (decL_bd N)]; exact h

theorem bt_cons (s d : ByteArray) (c : Int) (h : bl s = c :: bl d) : bt s 0 = c ∧ ∀ j, bt s (j + 1) = bt d j := by
  unfold bt
  rw [h]
  exact ⟨rfl, fun j => by simp⟩

theorem bt_of_mem (d : ByteArray) (P : Int → Prop) (h : ∀ c ∈ bl d, P c) : ∀ j, j < d.size → P (bt d j) := by
  intro j hj
  apply h
  unfold bt
  rw [List.getD, List.getElem?_eq_getElem (by rw [bl_length]; exact hj)]
  exact List.getElem_mem _

theorem size_cons (s d : ByteArray) (c : Int) (h : bl s = c :: bl d) : s.size = d.size + 1 := by
  rw [← bl_length s, h, List.length_cons, bl_length]

/-- Both take the same texts, as the same number. -/
theorem take_sp (s d : ByteArray) (b : Bool) (hc : cutOf s d b) (ht : Take d s.size) : SpTake s ∧ spN s = if b = true then - (dv d d.size : Int) else (dv d d.size : Int) := by
  obtain ⟨t1, t2, t3, t4⟩ := ht
  rcases hc with ⟨rfl, hs⟩ | ⟨rfl, rfl, hm⟩
  · have hsz := size_cons s d 45 hs
    obtain ⟨b0, bj⟩ := bt_cons s d 45 hs
    have h48 : bt d 0 ≠ 48 := fun e => t4 ⟨e, by omega⟩
    have hmin : min s.size 11 = d.size + 1 := by omega
    have hsn := sn_minus s d b0 bj d.size t3
    have hp := dv_pos d d.size (by omega) t3 h48
    have hN : spN s = - (dv d d.size : Int) := by unfold spN; rw [if_pos ⟨by omega, b0⟩, hmin, hsn.1]
    refine ⟨⟨by rw [hmin, hsn.2]; exact t2, by omega, ?_⟩, by rw [hN, if_pos rfl]⟩
    rw [decS_iff, hN, hs]
    unfold decL
    rw [if_neg (by omega), if_pos (by omega), show (- - (dv d d.size : Int)).toNat = dv d d.size by omega, ddF_dv d d.size 20 (by omega) (by omega) (Nat.le_refl _) t3 h48, Hex.take_all d d.size (Nat.le_refl _)]
  · have hmin : min d.size 11 = d.size := by omega
    have hsn := sn_same d d.size t3
    have h45 : bt d 0 ≠ 45 := by have := t3 0 (by omega); omega
    have hN : spN d = (dv d d.size : Int) := by unfold spN; rw [if_neg (fun e => h45 e.2), hmin, hsn.1]
    refine ⟨⟨by rw [hmin, hsn.2]; exact t2, by omega, ?_⟩, by rw [hN]; rfl⟩
    rw [decS_iff, hN]
    by_cases h48 : bt d 0 = 48
    · have h1 : d.size = 1 := by have : ¬ 1 < d.size := fun e => t4 ⟨h48, e⟩
                                 omega
      have e0 : dv d d.size = 0 := by rw [h1]; simp [dv, h48]
      have e1 := take_bt d 0 (by omega)
      rw [Hex.take_all d 1 (by omega)] at e1
      rw [e0, e1, h48]; rfl
    · have hp := dv_pos d d.size (by omega) t3 h48
      unfold decL
      rw [if_neg (by omega), if_neg (by omega), show ((dv d d.size : Int)).toNat = dv d d.size by omega, ddF_dv d d.size 20 (by omega) (by omega) (Nat.le_refl _) t3 h48, Hex.take_all d d.size (Nat.le_refl _)]

theorem pow11 (k : Nat) (h : k ≤ 11) : 10 ^ k ≤ 100000000000 := by
  have : k = 0 ∨ k = 1 ∨ k = 2 ∨ k = 3 ∨ k = 4 ∨ k = 5 ∨ k = 6 ∨ k = 7 ∨ k = 8 ∨ k = 9 ∨ k = 10 ∨ k = 11 := by omega
  rcases this with rfl | rfl | rfl | rfl | rfl | rfl | rfl | rfl | rfl | rfl | rfl | rfl <;> decide

theorem sn_small (s : ByteArray) (k : Nat) (h : k ≤ 11) : sn s k < 100000000000 := Nat.lt_of_lt_of_le (sn_lt s k) (pow11 k h)

theorem spN_bd (s : ByteArray) : -100000000000 < spN s ∧ spN s < 100000000000 := by
  have := sn_small s (min s.size 11) (by omega)
  unfold spN; split <;> omega

theorem lt20 (n : Nat) (h : n < 100000000000) : n < 10 ^ 20 := Nat.lt_trans h (by decide)

theorem sp_take (s d : ByteArray) (b : Bool) (hc : cutOf s d b) (h : SpTake s) : Take d s.size := by
  obtain ⟨h1, h2, h3⟩ := h
  rw [decS_iff] at h3
  have hbd := spN_bd s
  unfold decL at h3
  have hmin : min s.size 11 = s.size := by omega
  rw [hmin] at h1
  by_cases hz : spN s = 0
  · rw [if_pos hz] at h3
    have hs1 : s.size = 1 := by rw [← bl_length s, ← h3]; rfl
    have hb0 : bt s 0 = 48 := by unfold bt; rw [← h3]; rfl
    rcases hc with ⟨rfl, hs⟩ | ⟨rfl, rfl, _⟩
    · have := (bt_cons s d 45 hs).1; omega
    · refine ⟨by omega, by omega, ?_, by omega⟩
      intro j hj
      have : j = 0 := by omega
      subst this; omega
  · rw [if_neg hz] at h3
    by_cases hn : spN s < 0
    · rw [if_pos hn] at h3
      obtain ⟨c, l, e, hc48⟩ := ddF_head 20 (-spN s).toNat (by omega) (lt20 _ (by omega))
      have hdig := ddF_digit 20 (-spN s).toNat
      rcases hc with ⟨rfl, hs⟩ | ⟨rfl, rfl, hm⟩
      · rw [hs] at h3
        have hD := List.tail_eq_of_cons_eq h3
        have hall : ∀ j, j < d.size → 48 ≤ bt d j ∧ bt d j ≤ 57 := bt_of_mem d (fun c => 48 ≤ c ∧ c ≤ 57) (by rw [← hD]; exact hdig)
        obtain ⟨b0, bj⟩ := bt_cons s d 45 hs
        have hsz := size_cons s d 45 hs
        have hsk := (sn_minus s d b0 bj d.size hall).2
        rw [← hsz] at hsk
        have hne : 1 ≤ d.size := by rw [← bl_length d, ← hD, e]; simp
        refine ⟨hne, by omega, hall, ?_⟩
        rintro ⟨e1, _⟩
        apply hc48
        rw [← e1]; unfold bt; rw [← hD, e]; rfl
      · exfalso
        rcases hm with hm | hm
        · have : (bl d).length = 0 := by rw [bl_length]; exact hm
          rw [← h3] at this; simp at this
        · apply hm; unfold bt; rw [← h3]; rfl
    · rw [if_neg hn] at h3
      obtain ⟨c, l, e, hc48⟩ := ddF_head 20 (spN s).toNat (by omega) (lt20 _ (by omega))
      have hdig := ddF_digit 20 (spN s).toNat
      have hall : ∀ j, j < s.size → 48 ≤ bt s j ∧ bt s j ≤ 57 := bt_of_mem s (fun c => 48 ≤ c ∧ c ≤ 57) (by rw [← h3]; exact hdig)
      have hne : 1 ≤ s.size := by rw [← bl_length s, ← h3, e]; simp
      rcases hc with ⟨rfl, hs⟩ | ⟨rfl, rfl, _⟩
      · exfalso
        have := (bt_cons s d 45 hs).1
        have := hall 0 (by omega)
        omega
      · have hsk := (sn_same d d.size hall).2
        refine ⟨hne, by omega, hall, ?_⟩
        rintro ⟨e1, _⟩
        apply hc48
        rw [← e1]; unfold bt; rw [← h3, e]; rfl

end Go.Proofs.YthpmjeledlpoaabDoor.Dec
