/-
  Plain arithmetic of chapter 2's sum: one halving is linear over xor; four of them are a table of sixteen; none of them takes two numbers below 2^32 to one. No condition.
-/
import Derived.Laws.Bits64
namespace Go.Proofs.YtogebppolkfldaaGreatDoor.CrcNum

def half (c : Nat) : Nat := if c % 2 = 1 then (c / 2) ^^^ 2197175160 else c / 2

theorem half_xor (a b : Nat) : half (a ^^^ b) = half a ^^^ half b := by
  have h2 : (a ^^^ b) / 2 = (a / 2) ^^^ (b / 2) := by
    have := Nat.shiftRight_xor_distrib (a := a) (b := b) (i := 1)
    simpa [Nat.shiftRight_eq_div_pow] using this
  have hm : (a ^^^ b) % 2 = (a % 2 + b % 2) % 2 := by
    have h := Nat.xor_mod_two_pow (a := a) (b := b) (n := 1)
    rw [show 2 ^ 1 = 2 from rfl] at h
    rw [h]
    rcases Nat.mod_two_eq_zero_or_one a with ha | ha <;> rcases Nat.mod_two_eq_zero_or_one b with hb | hb <;> rw [ha, hb] <;> rfl
  unfold half
  rw [hm, h2]
  rcases Nat.mod_two_eq_zero_or_one a with ha | ha <;> rcases Nat.mod_two_eq_zero_or_one b with hb | hb <;> rw [ha, hb] <;> simp
  · exact (Nat.xor_assoc _ _ _)
  · rw [Nat.xor_assoc, Nat.xor_comm (b / 2), ← Nat.xor_assoc]
  · rw [Nat.xor_comm (b / 2), ← Nat.xor_assoc (_ ^^^ _), Nat.xor_assoc (a / 2), Nat.xor_self, Nat.xor_zero]

theorem half_lt (c : Nat) (h : c < 4294967296) : half c < 4294967296 := by
  unfold half
  split
  · exact Nat.xor_lt_two_pow (n := 32) (by omega) (by omega)
  · omega

def halves : Nat → Nat → Nat
  | 0, c => c
  | n + 1, c => halves n (half c)

theorem halves_xor (n a b : Nat) : halves n (a ^^^ b) = halves n a ^^^ halves n b := by
  induction n generalizing a b with
  | zero => rfl
  | succ n ih => rw [halves, half_xor, ih]; rfl

theorem halves_lt (n c : Nat) (h : c < 4294967296) : halves n c < 4294967296 := by
  induction n generalizing c with
  | zero => exact h
  | succ n ih => exact ih _ (half_lt c h)

theorem halves_add (m n c : Nat) : halves (m + n) c = halves n (halves m c) := by
  induction m generalizing c with
  | zero => rw [Nat.zero_add]; rfl
  | succ m ih => rw [Nat.succ_add]; exact ih _

theorem halves4_mul (q : Nat) : halves 4 (16 * q) = q := by
  have e (x : Nat) : half (2 * x) = x := by unfold half; rw [if_neg (by omega)]; omega
  show half (half (half (half (16 * q)))) = q
  rw [show 16 * q = 2 * (2 * (2 * (2 * q))) by omega, e, e, e, e]

theorem split16 (c : Nat) : c = (16 * (c / 16)) ^^^ (c % 16) := by
  have h := Nat.two_pow_add_eq_or_of_lt (i := 4) (b := c % 16) (by omega) (c / 16)
  have hx : (16 * (c / 16)) ^^^ (c % 16) = (16 * (c / 16)) ||| (c % 16) := by
    apply Nat.eq_of_testBit_eq
    intro i
    rw [Nat.testBit_xor, Nat.testBit_or, show 16 = 2 ^ 4 from rfl, Nat.testBit_two_pow_mul, Nat.testBit_mod_two_pow]
    by_cases hi : i < 4
    · simp [hi, Nat.not_le.mpr hi]
    · simp [hi]
  rw [hx]
  rw [show (2 : Nat) ^ 4 = 16 from rfl] at h
  rw [← h]; omega

theorem halves4 (c : Nat) : halves 4 c = (c / 16) ^^^ halves 4 (c % 16) := by
  conv => lhs; rw [split16 c]
  rw [halves_xor, halves4_mul]

theorem half_inj0 (c : Nat) (h : c < 4294967296) (e : half c = 0) : c = 0 := by
  unfold half at e
  split at e
  · have h1 : c / 2 = 2197175160 := by
      have := congrArg (· ^^^ 2197175160) e
      simpa [Nat.xor_assoc] using this
    omega
  · omega

theorem halves_inj0 (n c : Nat) (h : c < 4294967296) (e : halves n c = 0) : c = 0 := by
  induction n generalizing c with
  | zero => exact e
  | succ n ih => exact half_inj0 c h (ih _ (half_lt c h) e)

theorem xor_eq0 {a b : Nat} (h : a ^^^ b = 0) : a = b := by
  have := congrArg (· ^^^ b) h
  simpa [Nat.xor_assoc] using this

theorem halves_inj (n a b : Nat) (ha : a < 4294967296) (hb : b < 4294967296) (e : halves n a = halves n b) : a = b := by
  apply xor_eq0
  apply halves_inj0 n _ (Nat.xor_lt_two_pow (n := 32) ha hb)
  rw [halves_xor, e, Nat.xor_self]

theorem wrap_i64_of (n : Int) (h0 : 0 ≤ n) (h1 : n < 9223372036854775808) : IntKind.i64.wrap n = n := by
  simp [IntKind.wrap, IntKind.bits, IntKind.signed]
  omega

/-- xor of two ints that are natural numbers below 2^63. -/
theorem xor_i64 (a b : Nat) (ha : a < 9223372036854775808) (hb : b < 9223372036854775808) :
    bits .xor .i64 (a : Int) (b : Int) = ((a ^^^ b : Nat) : Int) := by
  have hx : a ^^^ b < 2 ^ 63 := Nat.xor_lt_two_pow (by omega) (by omega)
  have h1 : (BitVec.ofInt 64 (a : Int)).toNat = a := by
    rw [BitVec.ofInt_natCast, BitVec.toNat_ofNat]; exact Nat.mod_eq_of_lt (by omega)
  have h2 : (BitVec.ofInt 64 (b : Int)).toNat = b := by
    rw [BitVec.ofInt_natCast, BitVec.toNat_ofNat]; exact Nat.mod_eq_of_lt (by omega)
  show IntKind.i64.wrap ((BitVec.ofInt 64 (a : Int) ^^^ BitVec.ofInt 64 (b : Int)).toNat : Int) = _
  rw [BitVec.toNat_xor, h1, h2]
  exact wrap_i64_of _ (by omega) (by omega)

/-- The running sum behind the bytes of l. -/
def run (c : Nat) (l : List Nat) : Nat := l.foldl (fun c b => halves 8 (c ^^^ b)) c

theorem run_lt (l : List Nat) (c : Nat) (h : c < 4294967296) (hl : ∀ b ∈ l, b < 256) : run c l < 4294967296 := by
  induction l generalizing c with
  | nil => exact h
  | cons b l ih =>
    exact ih _ (halves_lt 8 _ (Nat.xor_lt_two_pow (n := 32) h (Nat.lt_trans (hl b (List.mem_cons_self ..)) (by omega)))) (fun x hx => hl x (List.mem_cons_of_mem _ hx))

theorem run_append (a b : List Nat) (c : Nat) : run c (a ++ b) = run (run c a) b := by
  unfold run; rw [List.foldl_append]

/-- The same bytes behind two sums that differ leave sums that differ. -/
theorem run_inj (l : List Nat) (a b : Nat) (ha : a < 4294967296) (hb : b < 4294967296) (hl : ∀ x ∈ l, x < 256) (e : run a l = run b l) : a = b := by
  induction l generalizing a b with
  | nil => exact e
  | cons x l ih =>
    have hx : x < 4294967296 := Nat.lt_trans (hl x (List.mem_cons_self ..)) (by omega)
    have h := ih _ _ (halves_lt 8 _ (Nat.xor_lt_two_pow (n := 32) ha hx)) (halves_lt 8 _ (Nat.xor_lt_two_pow (n := 32) hb hx)) (fun y hy => hl y (List.mem_cons_of_mem _ hy)) e
    have h2 := halves_inj 8 _ _ (Nat.xor_lt_two_pow (n := 32) ha hx) (Nat.xor_lt_two_pow (n := 32) hb hx) h
    have := congrArg (· ^^^ x) h2
    simpa [Nat.xor_assoc] using this

/-- One byte turned turns the sum. -/
theorem run_turned (c : Nat) (a b : List Nat) (x y : Nat) (hc : c < 4294967296) (ha : ∀ z ∈ a, z < 256) (hb : ∀ z ∈ b, z < 256) (hx : x < 256) (hy : y < 256)
    (e : run c (a ++ x :: b) = run c (a ++ y :: b)) : x = y := by
  rw [run_append, run_append] at e
  have hr := run_lt a c hc ha
  have hx' : x < 4294967296 := by omega
  have hy' : y < 4294967296 := by omega
  have h := run_inj b _ _ (halves_lt 8 _ (Nat.xor_lt_two_pow (n := 32) hr hx')) (halves_lt 8 _ (Nat.xor_lt_two_pow (n := 32) hr hy')) hb e
  have h2 := halves_inj 8 _ _ (Nat.xor_lt_two_pow (n := 32) hr hx') (Nat.xor_lt_two_pow (n := 32) hr hy') h
  apply xor_eq0
  have h3 := congrArg (run c a ^^^ ·) h2
  simp only [← Nat.xor_assoc, Nat.xor_self, Nat.zero_xor] at h3
  rw [h3, Nat.xor_self]

end Go.Proofs.YtogebppolkfldaaGreatDoor.CrcNum
