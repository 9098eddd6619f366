/-
  The walk of spec.l1Byte. No condition.
-/
import Derived.Test.YtbnmcbbpbiofgaaRows
import Derived.WalkKit
import Derived.WalkSpells
import Derived.WalkLawsBesides
import Derived.Outline
import Derived.Deep.QuietTactic
import Derived.BigQuiet
import Derived.Test.YtbnmcbbpbiofgaaDrawNum
namespace Go.Proofs.Ytbnmcbbpbiofgaa.Draw
open Go.RowKit
set_option linter.unusedVariables false

set_option maxRecDepth 100000 in
set_option maxHeartbeats 2000000 in
theorem byte_in (w : World) (cb : Nat) (a : Option Addr) (len cap : Nat) (zs : List Int) (i : Nat) (h : Int) (E : Env w cb a len cap zs i h) (hlt : i < len) :
    Calls Try.prog 41 #[.pointer (some ⟨cb, 0, none⟩)] w fun e w' => e = .returned (.int .i64 (nbx zs i h)) ∧ Env w' cb a len cap zs (i + 1) (hB h) ∧ w.grownBy w' (some cb) := by
  have c0 := E.c0
  have c1 := E.c1
  have c2 := E.c2
  have f1 := E.f 1
  have f2 := E.f 2
  obtain ⟨b, off, rfl, hne, hcell⟩ := E.code i hlt
  have hb := E.hb
  have hz := z_bd E.z i
  have HE : Hid _ := E
  clear E
  have hx := and255 (bits .xor .i64 (wrap64 (wrap64 (h * 6364136223846793005) + 1442695040888963407) / 8589934592) (wrap64 (wrap64 (h * 6364136223846793005) + 1442695040888963407) / 35184372088832))
  go_enter Try.func41, Try.ntmps41
  go_wp2
  go_quiet (fail)
  go_wp2
  go_quiet (fail)
  go_wp2
  go_quiet (fail)
  go_wp2
  go_ret
  refine ⟨?_, (HE.out.in_ hlt (hB h) _).1, (HE.out.in_ hlt (hB h) _).2⟩
  unfold nbx
  rw [if_pos (by rw [HE.out.hl]; exact hlt)]
  rfl

set_option maxRecDepth 100000 in
set_option maxHeartbeats 2000000 in
theorem byte_out (w : World) (cb : Nat) (a : Option Addr) (len cap : Nat) (zs : List Int) (i : Nat) (h : Int) (E : Env w cb a len cap zs i h) (hlt : ¬ i < len) :
    Calls Try.prog 41 #[.pointer (some ⟨cb, 0, none⟩)] w fun e w' => e = .returned (.int .i64 (nbx zs i h)) ∧ Env w' cb a len cap zs i (hB h) ∧ w.grownBy w' (some cb) := by
  have c0 := E.c0
  have c1 := E.c1
  have c2 := E.c2
  have f1 := E.f 1
  have f2 := E.f 2
  have hb := E.hb
  have hle : (len : Int) ≤ (i : Int) := by omega
  have HE : Hid _ := E
  clear E
  go_enter Try.func41, Try.ntmps41
  go_wp2
  go_quiet (fail)
  go_wp2
  go_quiet (fail)
  go_wp2
  go_ret
  refine ⟨?_, (HE.out.out_ (hB h) _ _).1, (HE.out.out_ (hB h) _ _).2⟩
  unfold nbx
  rw [if_neg (by rw [HE.out.hl]; exact hlt)]
  rfl

/-- One byte, in both ways. -/
theorem byte_any (w : World) (cb : Nat) (a : Option Addr) (len cap : Nat) (zs : List Int) (i : Nat) (h : Int) (E : Env w cb a len cap zs i h) :
    Calls Try.prog 41 #[.pointer (some ⟨cb, 0, none⟩)] w fun e w' => e = .returned (.int .i64 (nbx zs i h)) ∧ Env w' cb a len cap zs (nbi zs i) (hB h) ∧ w.grownBy w' (some cb) := by
  unfold nbi
  by_cases hlt : i < len
  · rw [if_pos (by rw [E.hl]; exact hlt)]; exact byte_in w cb a len cap zs i h E hlt
  · rw [if_neg (by rw [E.hl]; exact hlt)]; exact byte_out w cb a len cap zs i h E hlt

end Go.Proofs.Ytbnmcbbpbiofgaa.Draw
