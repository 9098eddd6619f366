/-
  The walk of spec.l1Spoil where one byte is turned.
-/
import Derived.Test.YthpmjeledlpoaabDoorDrawSpoil
namespace Go.Proofs.YthpmjeledlpoaabDoor.Draw
open Go.RowKit
set_option linter.unusedVariables false

set_option maxRecDepth 100000 in
set_option maxHeartbeats 2000000 in
theorem spoil3 (zs : List Int) (s : ByteArray) (k : Nat) (hks : k < s.size) (hs : s.size ≤ 1000) (i i1 i2 : Nat) (h h1 h2 : Int) (x : Int)
    (d1 : Draws 26 [.int .i64 (s.size : Int)] zs i h (.int .i64 (k : Int)) i1 h1) (d2 : Draws 26 [.int .i64 4] zs i1 h1 (.int .i64 x) i2 h2) (n0 : (x == 0) = false) (n1 : (x == 1) = false) (n2 : (x == 2) = false) (y : Int) (i3 : Nat) (h3 : Int) (hy0 : 0 ≤ y) (hy1 : y < 255)
    (d3 : Draws 26 [.int .i64 255] zs i2 h2 (.int .i64 y) i3 h3) :
    Draws 25 [.string s] zs i h (.string (s.extract 0 k ++ strOfNums [bits .xor .i64 (s[k].toNat : Int) (1 + y) % 256] ++ s.extract (k + 1) s.size)) i3 h3 := by
  intro w cb a len cap E
  show Calls Tryd.prog 25 #[.pointer (some ⟨cb, 0, none⟩), .string s] w _
  have HE := Own.hid E
  have z0 : ((s.size : Int) == 0) = false := beq_eq_false_iff_ne.2 (by omega)
  have HD1 := Own.hid d1
  have HD2 := Own.hid d2
  clear E d1 d2
  go_enter Tryd.func25, Tryd.ntmps25
  go_wp2_with fail
  refine Calls.mono (HD1.out _ cb a len cap HE.out) ?_
  rintro e w1 ⟨rfl, hE, hg⟩
  have HE1 := Own.hid hE
  have HG1 := Own.hid hg
  clear hE hg
  go_wp2_with fail
  refine Calls.mono (HD2.out _ cb a len cap HE1.out) ?_
  rintro e w2 ⟨rfl, hE, hg⟩
  have HE2 := Own.hid hE
  have HG2 := Own.hid (grown_trans HG1.out hg)
  clear hE hg HD1 HD2 HE1 HG1
  have HD3 := Own.hid d3
  clear d3
  have hcv := conv1
  have sl1 : ∀ wx : World, (Instr.slice 9 (.string s) none (some (.int .i64 (k : Int))) none).run Tryd.prog wx = .ok (.string (s.extract 0 k)) wx := fun wx => by
    have := run_slice_string_h (P := Tryd.prog) wx 9 s Tryd.underlying9 .i64 (k : Int) (by omega) (by omega)
    simpa using this
  have sl2 : ∀ wx : World, (Instr.slice 9 (.string s) (some (.int .i64 ((k : Int) + 1))) none none).run Tryd.prog wx = .ok (.string (s.extract (k + 1) s.size)) wx := fun wx => by
    have := run_slice_string_l (P := Tryd.prog) wx 9 s Tryd.underlying9 .i64 ((k : Int) + 1) (by omega) (by omega)
    rw [show ((k : Int) + 1).toNat = k + 1 by omega] at this
    exact this
  have wr1 : IntKind.i64.wrap ((k : Int) + 1) = (k : Int) + 1 := by rw [IntWalk.i64_left, IntWalk.wrap64_in _ (by omega)]
  have hone : ∀ y, (strOfNums [y]).size = 1 := fun _ => rfl
  have hk1 : (k : Int) + 1 ≤ (s.size : Int) := by omega
  have hk2 : (k : Int) < (s.size : Int) := by omega
  have hb := s[k].toNat_lt
  have hb' : (s[k].toNat : Int) ≤ 255 := by omega
  go_wp2
  go_region_with (go_at_call 26; refine Calls.mono (HD3.out _ cb a len cap (HE2.out.below HE2.out (below_drewN (Below.refl _ _) 1))) ?_; rintro e w3 ⟨rfl, hE3, hg3⟩)
  all_goals
    have HE3 := Own.hid (hE3.alloc (.cells #[.int .u8 (bits .xor .i64 (s[k].toNat : Int) (1 + y) % 256)] 5))
    have HG3 := Own.hid (grown_trans HG2.out (grown_trans (grown_trans (grown_drewN w2 1 _) hg3) (World.grownBy_alloc w3 (.cells #[.int .u8 (bits .xor .i64 (s[k].toNat : Int) (1 + y) % 256)] 5) _)))
    clear hE3 hg3
    go_wp2
    go_ret
    exact ⟨rfl, HE3.out, HG3.out⟩

set_option maxRecDepth 100000 in
set_option maxHeartbeats 1000000 in
theorem spoil_none (zs : List Int) (s r : ByteArray) (h0 : s.size = 0) (i i1 : Nat) (h h1 : Int) (d1 : Draws 18 [.int .i64 3] zs i h (.string r) i1 h1) : Draws 25 [.string s] zs i h (.string r) i1 h1 := by
  have HD1 := Own.hid d1
  clear d1
  intro w cb a len cap E
  show Calls Tryd.prog 25 #[.pointer (some ⟨cb, 0, none⟩), .string s] w _
  have HE := Own.hid E
  have z0 : ((s.size : Int) == 0) = true := beq_iff_eq.2 (by omega)
  clear E h0
  go_enter Tryd.func25, Tryd.ntmps25
  go_wp2_with fail
  refine Calls.mono (HD1.out _ cb a len cap HE.out) ?_
  rintro e w1 ⟨rfl, hE, hg⟩
  have HE1 := Own.hid hE
  have HG1 := Own.hid hg
  clear hE hg
  go_wp2
  go_ret
  exact ⟨rfl, HE1.out, HG1.out⟩

theorem size_one (x : Int) : (strOfNums [x]).size = 1 := rfl

theorem spoil_draws (zs : List Int) (s : ByteArray) (hs : s.size ≤ 1000) (i : Nat) (h : Int) :
    ∃ (r : ByteArray) (i' : Nat) (h' : Int), r.size ≤ 3000 ∧ Draws 25 [.string s] zs i h (.string r) i' h' := by
  by_cases h0 : s.size = 0
  · obtain ⟨r, i1, h1, hr, d1⟩ := text_draws zs 3 (by omega) (by omega) i h
    exact ⟨r, i1, h1, by omega, spoil_none zs s r h0 i i1 h h1 d1⟩
  · obtain ⟨kk, i1, h1, hk0, hk1, d1⟩ := below_draws zs (s.size : Int) (by omega) (by omega) i h
    obtain ⟨k, rfl⟩ := Int.eq_ofNat_of_zero_le hk0
    obtain ⟨x, i2, h2, hx0, hx1, d2⟩ := below_draws zs 4 (by omega) (by omega) i1 h1
    have hks : k < s.size := by omega
    by_cases c0 : x = 0
    · exact ⟨_, i2, h2, by rw [ByteArray.size_append, ByteArray.size_extract, ByteArray.size_extract]; omega, spoil0 zs s k hks hs i i1 i2 h h1 h2 x d1 d2 (by simpa using c0)⟩
    · by_cases c1 : x = 1
      · have hb := nbx_bd zs i2 h2
        exact ⟨_, _, _, by rw [ByteArray.size_append, ByteArray.size_append, ByteArray.size_extract, ByteArray.size_extract, size_one]; omega,
          spoil1 zs s k hks hs i i1 i2 h h1 h2 x d1 d2 (by simpa using c0) (by simpa using c1) (nbx zs i2 h2) (nbi zs i2) (hB h2) hb.1 hb.2 (byte_draws zs i2 h2)⟩
      · by_cases c2 : x = 2
        · exact ⟨_, i2, h2, by rw [ByteArray.size_extract]; omega, spoil2 zs s k hks hs i i1 i2 h h1 h2 x d1 d2 (by simpa using c0) (by simpa using c1) (by simpa using c2)⟩
        · obtain ⟨y, i3, h3, hy0, hy1, d3⟩ := below_draws zs 255 (by omega) (by omega) i2 h2
          exact ⟨_, i3, h3, by rw [ByteArray.size_append, ByteArray.size_append, ByteArray.size_extract, ByteArray.size_extract, size_one]; omega,
            spoil3 zs s k hks hs i i1 i2 h h1 h2 x d1 d2 (by simpa using c0) (by simpa using c1) (by simpa using c2) y i3 h3 hy0 hy1 d3⟩

end Go.Proofs.YthpmjeledlpoaabDoor.Draw
