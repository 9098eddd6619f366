/-
  The walk of impl.HostOk and of what it calls. No condition but texts and lists of at most 2^20.
-/
import Derived.Test.YtllgjoflhjnnaaaHoOk
namespace Go.Proofs.Ytllgjoflhjnnaaa.Pl
open Go.RowKit Go.Proofs.Ytllgjoflhjnnaaa.Mem Go.Proofs.Ytllgjoflhjnnaaa.Sec
set_option linter.unusedVariables false

set_option maxHeartbeats 400000 in
theorem iIsHost (x : Int) (w : World) :
    Calls Try.prog 23 #[.int .i64 x] w fun e w' => e = .returned (.bool (decide (0 ≤ x ∧ x < 3))) ∧ w' = w := by
  by_cases h1 : 0 ≤ x
  · by_cases h2 : x < 3
    · rw [decide_eq_true (And.intro h1 h2)]
      go_enter Try.func23, Try.ntmps23
      go_wp2
      go_ret
      exact ⟨rfl, rfl⟩
    · rw [decide_eq_false (fun h => h2 h.2)]
      go_enter Try.func23, Try.ntmps23
      go_wp2
      go_ret
      exact ⟨rfl, rfl⟩
  · rw [decide_eq_false (fun h => h1 h.1)]
    go_enter Try.func23, Try.ntmps23
    go_wp2
    go_ret
    exact ⟨rfl, rfl⟩

set_option maxRecDepth 100000 in
set_option maxHeartbeats 4000000 in
theorem iKeptPlan (w : World) (cd bk : Int) (tx : ByteArray) (p : Option Addr) (c : Nat) (l : List Ou) (S : Ous w p l) (htx : tx.size ≤ 1048576) (hl : l.length ≤ 1048576) (he : ∀ x ∈ l, x.text.size ≤ 1048576) :
    Calls Try.prog 40 #[plnV cd bk tx p l.length c] w fun e w' => e = .returned (.bool (keptPlan cd bk tx l)) ∧ Below w.heap.size w w' := by
  unfold plnV
  have HQ : Hid (keptPlan cd bk tx l = (decide (cd = 0) && (decide (-1 ≤ bk ∧ bk ≤ 17) && (decide ((tx.size : Int) ≤ 16) && (decide (l.length ≤ 8) && outsOk l))))) := rfl
  generalize keptPlan cd bk tx l = q at *
  have HS := hid S
  have HL := hid hl
  have HE := hid he
  clear S hl he
  obtain ⟨wa, hwa, ez, A0, B0⟩ := one_new w [.int .i64 cd, .int .i64 bk, .string tx, .slice p l.length c] 34
  have k0 := A0.c 0 rfl
  have k1 := A0.c 1 rfl
  have k2 := A0.c 2 rfl
  have k3 := A0.c 3 rfl
  have HB := hid B0
  clear A0 B0 ez
  go_enter Try.func40, Try.ntmps40
  by_cases f1 : cd = 0
  rotate_left
  · rw [decide_eq_false f1, Bool.false_and] at HQ
    have f1' := beq_no f1
    go_wp2
    go_ret
    exact ⟨by rw [HQ.out]; rfl, HB.out⟩
  subst f1
  rw [decide_eq_true rfl, Bool.true_and] at HQ
  go_wp2_with fail
  try simp only [hwa]
  clear hwa
  by_cases f2 : -1 ≤ bk ∧ bk ≤ 17
  rotate_left
  · have f2' := decide_eq_false f2
    rw [f2', Bool.false_and] at HQ
    refine (f2' ▸ isFrom bk (-1) 17 _).mono ?_
    rintro r w7 ⟨rfl, hw⟩
    obtain rfl := hw.symm
    clear f2
    go_wp2
    go_ret
    exact ⟨by rw [HQ.out]; rfl, HB.out⟩
  have f2' := decide_eq_true f2
  rw [f2', Bool.true_and] at HQ
  refine (f2' ▸ isFrom bk (-1) 17 _).mono ?_
  rintro r w7 ⟨rfl, hw⟩
  obtain rfl := hw.symm
  clear f2 f2'
  by_cases f3 : (tx.size : Int) ≤ 16
  rotate_left
  · rw [decide_eq_false f3, Bool.false_and] at HQ
    have f3' := decide_eq_false f3
    go_wp2
    go_ret
    exact ⟨by rw [HQ.out]; rfl, HB.out⟩
  rw [decide_eq_true f3, Bool.true_and] at HQ
  go_wp2_with fail
  refine (areOuts wa p c l (HS.out.below HB.out) HL.out HE.out).mono ?_
  rintro r w8 ⟨rfl, b8⟩
  have HB8 := hid (HB.out.trans (b8.mono HB.out.size))
  clear b8
  go_wp2
  go_ret
  exact ⟨by rw [HQ.out]; rfl, HB8.out⟩

end Go.Proofs.Ytllgjoflhjnnaaa.Pl
