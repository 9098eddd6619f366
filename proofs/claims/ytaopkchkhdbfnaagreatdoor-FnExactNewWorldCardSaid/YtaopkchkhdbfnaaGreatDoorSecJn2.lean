/-
  The walks of impl.areOuts, impl.isJournal and spec.l4JournalOk. No condition but texts and lists of at most 2^20.
-/
import Derived.Test.YtaopkchkhdbfnaaGreatDoorSecJn1
import Derived.Test.YtaopkchkhdbfnaaGreatDoorSecLease2
import Derived.Laws.StructEq
namespace Go.Proofs.YtaopkchkhdbfnaaGreatDoor.Sec
open Go.RowKit Go.Proofs.YtaopkchkhdbfnaaGreatDoor.Mem
set_option linter.unusedVariables false

/-- The lowest sector that may follow the first k. -/
def low (l : List Ou) (k : Nat) : Int := if k = 0 then 0 else (l.getD (k - 1) Ou.none).sec + 1

theorem low_iff (l : List Ou) (k : Nat) (h : ∀ i, i < k → outAt l i) : (low l k ≤ (l.getD k Ou.none).sec ∧ (l.getD k Ou.none).sec ≤ 33) ↔ ((0 ≤ (l.getD k Ou.none).sec ∧ (l.getD k Ou.none).sec ≤ 33) ∧ (0 < k → (l.getD (k - 1) Ou.none).sec < (l.getD k Ou.none).sec)) := by
  unfold low
  by_cases hk : k = 0
  · subst hk; simp
  · rw [if_neg hk]
    have := (h (k - 1) (by omega)).1
    constructor
    · intro x; exact ⟨by omega, fun _ => by omega⟩
    · intro x; have := x.2 (by omega); omega

theorem low_bd (l : List Ou) (k : Nat) (h : ∀ i, i < k → outAt l i) : 0 ≤ low l k ∧ low l k ≤ 34 := by
  unfold low
  by_cases hk : k = 0
  · rw [if_pos hk]; omega
  · rw [if_neg hk]
    have := (h (k - 1) (by omega)).1
    omega

theorem low_succ (l : List Ou) (k : Nat) : low l (k + 1) = (l.getD k Ou.none).sec + 1 := rfl

theorem outs_step {l : List Ou} {k : Nat} (h : ∀ i, i < k → outAt l i) (hk : outAt l k) : ∀ i, i < k + 1 → outAt l i := fun i hi => by
  by_cases e : i = k
  · rw [e]; exact hk
  · exact h i (by omega)

set_option maxRecDepth 100000 in
set_option maxHeartbeats 1000000 in
theorem areOuts (w : World) (a : Option Addr) (cap : Nat) (l : List Ou) (S : Ous w a l) (hl : l.length ≤ 1048576) (hs : ∀ x ∈ l, x.text.size ≤ 1048576) :
    Calls Tryz.prog 235 #[.slice a l.length cap] w fun e w' => e = .returned (.bool (decide (l.length ≤ 8) && outsOk l)) ∧ Below w.heap.size w w' := by
  have HS := hid S
  have Hs : Hid (∀ k, (l.getD k Ou.none).text.size ≤ 1048576) := fun k => by
    by_cases h : k < l.length
    · exact hs _ (by simp [List.getD, h])
    · simp [List.getD, h, Ou.none]
  clear S hs
  by_cases hg : 8 < (l.length : Int)
  · have hg' : decide (l.length ≤ 8) = false := decide_eq_false (by omega)
    rw [hg']
    clear hg'
    go_enter Tryz.func235, Tryz.ntmps235
    go_wp2
    go_ret
    exact ⟨rfl, Below.refl _ _⟩
  have hg' : decide (l.length ≤ 8) = true := decide_eq_true (by omega)
  rw [hg', Bool.true_and]
  clear hg'
  have HZ := hid (low_succ l)
  go_enter Tryz.func235, Tryz.ntmps235
  go_wp2
  go_loopw [3, 11] (fun lo i wr => ∃ k : Nat, k ≤ l.length ∧ i = .int .i64 (k : Int) ∧ lo = .int .i64 (low l k) ∧ Hid (∀ i, i < k → outAt l i) ∧ Hid (Below w.heap.size w wr)) (fun _ i _ => l.length - (intOf i).toNat)
  case atStart => exact ⟨0, Nat.zero_le _, rfl, rfl, fun i hi => by omega, Below.refl _ _⟩
  case round =>
    obtain ⟨k, hk, rfl, rfl, HK, HB⟩ := hrel
    by_cases hlt : k < l.length
    · obtain ⟨b, off, rfl, c0, c1⟩ := Ous.at_ (HS.out.below HB.out) k hlt
      have HI := hid (low_iff l k HK.out)
      have hbd := low_bd l k HK.out
      have hsz := Hs.out k
      have HN := hid (outsOk_no k hlt)
      have HST := hid (fun h => outs_step (k := k) HK.out h)
      have HLS := hid (low_succ l k)
      have HAt : Hid (outAt l k ↔ ((0 ≤ (l.getD k Ou.none).sec ∧ (l.getD k Ou.none).sec ≤ 33) ∧ (0 < k → (l.getD (k - 1) Ou.none).sec < (l.getD k Ou.none).sec)) ∧ ((l.getD k Ou.none).text.size : Int) ≤ 60) := by
        unfold outAt
        exact ⟨fun x => ⟨⟨x.1, x.2.1⟩, x.2.2⟩, fun x => ⟨x.1.1, x.1.2, x.2⟩⟩
      rw [← HI.out] at HAt
      generalize l.getD k Ou.none = x at c0 c1 hsz HAt HLS
      clear HI
      obtain ⟨xs, xt⟩ := x
      simp only [] at c0 c1 hsz HAt HLS
      generalize low l k = lo at *
      go_wp2_with fail
      obtain ⟨wo, hwo, ez, O0, B0⟩ := one_new wr [.int .i64 xs, .string xt] 187
      simp only [hwo]
      have d0 := O0.c 0 rfl
      have d1 := O0.c 1 rfl
      have HBo := hid (HB.out.trans (B0.mono HB.out.size))
      clear hwo O0 B0 c0 c1
      by_cases c : lo ≤ xs ∧ xs ≤ 33
      · have c' := decide_eq_true c
        refine (c' ▸ isFrom xs lo 33 _).mono ?_
        rintro e w1 ⟨rfl, hw⟩
        obtain rfl := hw.symm
        by_cases h60 : 60 < (xt.size : Int)
        · have HR := hid (HN.out (fun x => by have := (HAt.out.1 x).2; omega))
          clear c
          go_wp2
          go_ret
          exact ⟨by rw [HR.out]; rfl, HBo.out⟩
        · have HR := hid (HST.out (HAt.out.2 ⟨c, by omega⟩))
          have hx33 : xs ≤ 33 := c.2
          have hx0 : 0 ≤ xs := by omega
          clear c
          go_wp2
          exact ⟨⟨k + 1, by omega, by go_num, by rw [HLS.out], HR, HBo⟩, by simp [intOf]; omega⟩
      · have c' := decide_eq_false c
        have HR := hid (HN.out (fun x => c (HAt.out.1 x).1))
        clear c
        refine (c' ▸ isFrom xs lo 33 _).mono ?_
        rintro e w1 ⟨rfl, hw⟩
        obtain rfl := hw.symm
        go_wp2
        go_ret
        exact ⟨by rw [HR.out]; rfl, HBo.out⟩
    · obtain rfl : k = l.length := by omega
      have HR := hid ((outsOk_iff l).2 HK.out)
      go_wp2
      go_ret
      exact ⟨by rw [HR.out]; rfl, HB.out⟩

theorem stOp : Tryz.prog.underlying 58 = some (.struct (Tryz.prog.fieldsOf 58)) := by kernel_rfl
theorem heldOp : Tryz.prog.stoodInHeld 58 = false := by kernel_rfl
theorem guardOp : Tryz.prog.eqGuardType Tryz.prog.depth 58 = false := by kernel_rfl

theorem eql_op (k v t a : Int) (s : ByteArray) (w : World) : (binOp .eql 58 (.agg #[.int .i64 k, .int .i64 v, .int .i64 t, .int .i64 a, .string s]) (.agg #[.int .i64 0, .int .i64 0, .int .i64 0, .int .i64 0, .string ⟨#[]⟩])).run Tryz.prog w = .ok (.bool (decide (k = 0 ∧ v = 0 ∧ t = 0 ∧ a = 0 ∧ s.size = 0))) w := by
  rw [run_eql_struct, run_equalIn_agg w 9999 58 _ _ stOp heldOp]
  unfold Program.fieldsOf
  rw [Tryz.underlying58]
  by_cases h5 : s.size = 0
  · obtain rfl : s = ⟨#[]⟩ := by
      apply ByteArray.ext
      have : s.data.size = 0 := h5
      exact Array.eq_empty_of_size_eq_zero this
    by_cases h1 : k = 0 <;> by_cases h2 : v = 0 <;> by_cases h3 : t = 0 <;> by_cases h4 : a = 0 <;> simp [Op.eqFields, part, go_sem, h1, h2, h3, h4, Tryz.underlying3]
  · have hne : ¬ s.toList = [] := fun e => h5 (by
      rw [ByteArray.toList_eq] at e
      show s.data.size = 0
      rw [← Array.length_toList, e]; rfl)
    by_cases h1 : k = 0 <;> by_cases h2 : v = 0 <;> by_cases h3 : t = 0 <;> by_cases h4 : a = 0 <;> simp [Op.eqFields, part, go_sem, h1, h2, h3, h4, h5, hne, Tryz.underlying3]

end Go.Proofs.YtaopkchkhdbfnaaGreatDoor.Sec
