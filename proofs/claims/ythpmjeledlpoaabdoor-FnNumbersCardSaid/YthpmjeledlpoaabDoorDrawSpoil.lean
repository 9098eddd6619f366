/-
  The walk of spec.l1Spoil: the text that it makes is settled by the code's bytes, the cursor and the text alone. No condition but a text that is short.
-/
import Derived.Test.YthpmjeledlpoaabDoorDrawNew
import Derived.Deep.RegionWith
namespace Go.Proofs.YthpmjeledlpoaabDoor.Draw
open Go.RowKit
set_option linter.unusedVariables false

theorem conv1 (b len : Nat) (x : Int) (wx : World) (hc : wx.cell? ⟨b, 0, none⟩ = some (.int .u8 x)) : (convert 22 9 (.slice (some ⟨b, 0, none⟩) 1 len)).run Tryd.prog wx = .ok (.string (strOfNums [x])) wx :=
  run_convert_bytes_arg (P := Tryd.prog) wx 22 5 Tryd.underlying22 Tryd.underlying5 b 0 1 len [x] rfl (fun i hi => by obtain rfl : i = 0 := (by omega); simpa using hc) 9 Tryd.underlying9

set_option maxRecDepth 100000 in
set_option maxHeartbeats 2000000 in
theorem spoil0 (zs : List Int) (s : ByteArray) (k : Nat) (hks : k < s.size) (hs : s.size ≤ 1000) (i i1 i2 : Nat) (h h1 h2 : Int) (x : Int)
    (d1 : Draws 26 [.int .i64 (s.size : Int)] zs i h (.int .i64 (k : Int)) i1 h1) (d2 : Draws 26 [.int .i64 4] zs i1 h1 (.int .i64 x) i2 h2) (n0 : (x == 0) = true) :
    Draws 25 [.string s] zs i h (.string (s.extract 0 k ++ s.extract (k + 1) s.size)) i2 h2 := by
  intro w cb a len cap E
  show Calls Tryd.prog 25 #[.pointer (some ⟨cb, 0, none⟩), .string s] w _
  have HE := Own.hid E
  have z0 : ((s.size : Int) == 0) = false := beq_eq_false_iff_ne.2 (by omega)
  have HD1 := Own.hid d1
  have HD2 := Own.hid d2
  clear E d1 d2
  go_enter Tryd.func25, Tryd.ntmps25
  go_wp2_with fail
  refine Calls.mono (HD1.out _ cb a len cap HE.out) ?_
  rintro e w1 ⟨rfl, hE, hg⟩
  have HE1 := Own.hid hE
  have HG1 := Own.hid hg
  clear hE hg
  go_wp2_with fail
  refine Calls.mono (HD2.out _ cb a len cap HE1.out) ?_
  rintro e w2 ⟨rfl, hE, hg⟩
  have HE2 := Own.hid hE
  have HG2 := Own.hid (grown_trans HG1.out hg)
  clear hE hg HD1 HD2 HE1 HG1
  go_wp2
  go_quiet (fail)
  go_wp2
  go_ret
  exact ⟨rfl, HE2.out.below HE2.out (below_drewN (Below.refl _ _) _), grown_trans HG2.out (grown_drewN _ _ _)⟩

set_option maxRecDepth 100000 in
set_option maxHeartbeats 2000000 in
theorem spoil1 (zs : List Int) (s : ByteArray) (k : Nat) (hks : k < s.size) (hs : s.size ≤ 1000) (i i1 i2 : Nat) (h h1 h2 : Int) (x : Int)
    (d1 : Draws 26 [.int .i64 (s.size : Int)] zs i h (.int .i64 (k : Int)) i1 h1) (d2 : Draws 26 [.int .i64 4] zs i1 h1 (.int .i64 x) i2 h2) (n0 : (x == 0) = false) (n1 : (x == 1) = true) (y : Int) (i3 : Nat) (h3 : Int) (hy0 : 0 ≤ y) (hy1 : y ≤ 255)
    (d3 : Draws 28 [] zs i2 h2 (.int .i64 y) i3 h3) :
    Draws 25 [.string s] zs i h (.string (s.extract 0 k ++ strOfNums [y] ++ s.extract k s.size)) i3 h3 := by
  intro w cb a len cap E
  show Calls Tryd.prog 25 #[.pointer (some ⟨cb, 0, none⟩), .string s] w _
  have HE := Own.hid E
  have z0 : ((s.size : Int) == 0) = false := beq_eq_false_iff_ne.2 (by omega)
  have HD1 := Own.hid d1
  have HD2 := Own.hid d2
  clear E d1 d2
  go_enter Tryd.func25, Tryd.ntmps25
  go_wp2_with fail
  refine Calls.mono (HD1.out _ cb a len cap HE.out) ?_
  rintro e w1 ⟨rfl, hE, hg⟩
  have HE1 := Own.hid hE
  have HG1 := Own.hid hg
  clear hE hg
  go_wp2_with fail
  refine Calls.mono (HD2.out _ cb a len cap HE1.out) ?_
  rintro e w2 ⟨rfl, hE, hg⟩
  have HE2 := Own.hid hE
  have HG2 := Own.hid (grown_trans HG1.out hg)
  clear hE hg HD1 HD2 HE1 HG1
  have HD3 := Own.hid d3
  clear d3
  have hcv := conv1
  have hone : ∀ y, (strOfNums [y]).size = 1 := fun _ => rfl
  go_wp2
  go_region_with (go_at_call 28; refine Calls.mono (HD3.out _ cb a len cap (HE2.out.below HE2.out (below_drewN (Below.refl _ _) 1))) ?_; rintro e w3 ⟨rfl, hE3, hg3⟩)
  all_goals
    have HE3 := Own.hid (hE3.alloc (.cells #[.int .u8 y] 5))
    have HG3 := Own.hid (grown_trans HG2.out (grown_trans (grown_trans (grown_drewN w2 1 _) hg3) (World.grownBy_alloc w3 (.cells #[.int .u8 y] 5) _)))
    clear hE3 hg3
    go_wp2
    go_ret
    exact ⟨rfl, HE3.out, HG3.out⟩

set_option maxRecDepth 100000 in
set_option maxHeartbeats 2000000 in
theorem spoil2 (zs : List Int) (s : ByteArray) (k : Nat) (hks : k < s.size) (hs : s.size ≤ 1000) (i i1 i2 : Nat) (h h1 h2 : Int) (x : Int)
    (d1 : Draws 26 [.int .i64 (s.size : Int)] zs i h (.int .i64 (k : Int)) i1 h1) (d2 : Draws 26 [.int .i64 4] zs i1 h1 (.int .i64 x) i2 h2) (n0 : (x == 0) = false) (n1 : (x == 1) = false) (n2 : (x == 2) = true) :
    Draws 25 [.string s] zs i h (.string (s.extract 0 k)) i2 h2 := by
  intro w cb a len cap E
  show Calls Tryd.prog 25 #[.pointer (some ⟨cb, 0, none⟩), .string s] w _
  have HE := Own.hid E
  have z0 : ((s.size : Int) == 0) = false := beq_eq_false_iff_ne.2 (by omega)
  have HD1 := Own.hid d1
  have HD2 := Own.hid d2
  clear E d1 d2
  go_enter Tryd.func25, Tryd.ntmps25
  go_wp2_with fail
  refine Calls.mono (HD1.out _ cb a len cap HE.out) ?_
  rintro e w1 ⟨rfl, hE, hg⟩
  have HE1 := Own.hid hE
  have HG1 := Own.hid hg
  clear hE hg
  go_wp2_with fail
  refine Calls.mono (HD2.out _ cb a len cap HE1.out) ?_
  rintro e w2 ⟨rfl, hE, hg⟩
  have HE2 := Own.hid hE
  have HG2 := Own.hid (grown_trans HG1.out hg)
  clear hE hg HD1 HD2 HE1 HG1
  go_wp2
  go_ret
  exact ⟨rfl, HE2.out, HG2.out⟩

end Go.Proofs.YthpmjeledlpoaabDoor.Draw
