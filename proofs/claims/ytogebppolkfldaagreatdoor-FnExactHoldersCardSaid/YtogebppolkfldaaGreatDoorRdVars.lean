/-
  The walk of spec.l4Vars: numbers from a place on, or -1. No condition but texts of at most 2^20 bytes.
-/
import Derived.Test.YtogebppolkfldaaGreatDoorRdNum
namespace Go.Proofs.YtogebppolkfldaaGreatDoor.Rd
open Go.RowKit Go.Proofs.YtogebppolkfldaaGreatDoor.Mem
set_option linter.unusedVariables false

theorem cut_from (s : ByteArray) (i : Nat) (hi : i ≤ s.size) (w : World) : (Instr.slice 9 (.string s) (some (.int .i64 (i : Int))) none none).run Tryz.prog w = .ok (.string (rest s i)) w := by
  have := run_slice_string_l (P := Tryz.prog) w 9 s Tryz.underlying9 .i64 (i : Int) (by omega) (by omega)
  rw [Int.toNat_natCast] at this
  exact this

/-- What l4Vars gives. -/
def VarsGive (w : World) (w' : World) (e : Ending) : Option (List Int × Nat) → Prop
  | some (l, z) => ∃ v, e = .returned (.tuple #[v, .int .i64 (z : Int)]) ∧ Ir w' w.heap.size v l
  | none => ∃ v, e = .returned (.tuple #[v, .int .i64 (-1)])

set_option maxRecDepth 100000 in
set_option maxHeartbeats 2000000 in
theorem l4Vars (R : ByteArray → Int × Nat) (hR : Reads R) (s : ByteArray) (hs : s.size ≤ 1048576) (i n : Nat) (hi : i ≤ 1048576) (hn : n ≤ 100) (w : World) :
    Calls Tryz.prog 45 #[.string s, .int .i64 (i : Int), .int .i64 (n : Int)] w fun e w' => VarsGive w w' e (nums R s i n) ∧ Below w.heap.size w w' := by
  have HR := hid hR
  clear hR
  go_enter Tryz.func45, Tryz.ntmps45
  go_wp2
  go_loopw [1, 8, 9] (fun z v j wr => ∃ (k : Nat) (l : List Int) (e : Nat), k ≤ n ∧ j = .int .i64 (k : Int) ∧ z = .int .i64 (e : Int) ∧ Hid (nums R s i k = some (l, e)) ∧ Hid (Ir wr w.heap.size v l) ∧ Hid (Below w.heap.size w wr)) (fun _ _ j _ => n - (intOf j).toNat)
  case atStart => exact ⟨0, [], i, Nat.zero_le _, rfl, rfl, rfl, Or.inl ⟨_, rfl, rfl, rfl⟩, (Below.refl _ _).alloc (Nat.le_refl _) _⟩
  case round =>
    obtain ⟨k, l, e, hk, rfl, rfl, HN, HI, HB⟩ := hrel
    have hl : l.length ≤ 100 := by have := nums_len HN.out; omega
    obtain ⟨a, cap, rfl, _⟩ := HI.out.w
    by_cases hlt : k < n
    · by_cases he : (s.size : Int) < (e : Int)
      · have HX : Hid (nums R s i n = none) := by
          have hz : nums R s i (k + 1) = none := by
            rw [nums_step HN.out, if_pos]
            have := (HR.out (rest s e) (by rw [rest_size]; unfold maxLen; omega)).le
            rw [rest_size] at this; omega
          have := nums_none hz (n - (k + 1))
          rwa [show k + 1 + (n - (k + 1)) = n by omega] at this
        go_wp2
        go_ret2
        rw [HX.out]
        exact ⟨⟨_, rfl⟩, HB.out⟩
      · have hes : e ≤ s.size := by omega
        have hcut := cut_from s e hes
        have hRV := HR.out (rest s e) (by rw [rest_size]; unfold maxLen; omega)
        have HRV := hid hRV
        have hle := hRV.le
        rw [rest_size] at hle
        have HST := hid (nums_step HN.out)
        generalize R (rest s e) = p at *
        obtain ⟨x, q⟩ := p
        simp only [] at hle HST
        clear hRV
        by_cases hq : q = 0
        · subst hq
          have HX : Hid (nums R s i n = none) := by
            have hz : nums R s i (k + 1) = none := by rw [HST.out, if_pos rfl]
            have := nums_none hz (n - (k + 1))
            rwa [show k + 1 + (n - (k + 1)) = n by omega] at this
          go_wp2_with fail
          refine (HRV.out.sp wr).mono ?_
          rintro r w1 ⟨rfl, b1⟩
          have HB1 := hid (HB.out.trans (b1.mono HB.out.size))
          clear b1
          go_wp2
          go_ret2
          rw [HX.out]
          exact ⟨⟨_, rfl⟩, HB1.out⟩
        · have HX : Hid (nums R s i (k + 1) = some (l ++ [x], e + q)) := by rw [Hid, HST.out, if_neg hq]
          have hq0 : ((q : Int) == 0) = false := by simpa using hq
          go_wp2_with fail
          refine (HRV.out.sp wr).mono ?_
          rintro r w1 ⟨rfl, b1⟩
          have HB1 := hid (HB.out.trans (b1.mono HB.out.size))
          have HI1 := hid (RowO.below HI.out b1)
          have hws := HB1.out.size
          clear b1
          go_wp2_with (at_builtin; refine wpList_app 23 3 (.int .i64 0) 1 8 Tryz.underlying23 info3 rfl (by decide) (by decide) _ rfl (.tmp 37) (.tmp 39) rfl w.heap.size _ l.length (ic l) rfl (HI1.out.below ((Below.refl _ _).alloc (Nat.le_refl _) _)) ⟨w1.heap.size, 0, none⟩ 1 1 [.int .i64 x] rfl rfl (one_row w1 x) (by intro u hu; exact ic_one [x] u (by simpa [ic] using hu)) (by omega) (Nat.le_trans hws (Nat.le_of_lt (lt_alloc _ _))) ?_; intro v2 w2 r2 kk hi2; obtain ⟨p2, d2, e2, _⟩ := r2.wr; subst e2)
          have HBa : Below w.heap.size w w2 := ((HB1.out.alloc hws _).trans (kk.below (Nat.le_trans hws (Nat.le_of_lt (lt_alloc _ _))) (fun b hb x => by have := (RowO.lt HI1.out x).1; omega)))
          exact ⟨⟨k + 1, l ++ [x], e + q, by omega, by go_num, by go_num, HX, by unfold Ir; rw [← ic_app, List.length_append]; exact r2, HBa⟩, by simp [intOf]; omega⟩
    · obtain rfl : k = n := by omega
      go_wp2
      go_ret2
      rw [HN.out]
      exact ⟨⟨_, rfl, HI.out⟩, HB.out⟩

end Go.Proofs.YtogebppolkfldaaGreatDoor.Rd
