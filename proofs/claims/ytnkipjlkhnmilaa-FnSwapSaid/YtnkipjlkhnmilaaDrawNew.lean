/-
  The walks of spec.l1New, spec.l1PickInt and spec.l1Num: the cursor that is made, and the number that is drawn, are settled by the code's bytes alone. No condition but a code of at most 1048576 bytes.
-/
import Derived.Test.YtnkipjlkhnmilaaDrawText
namespace Go.Proofs.Ytnkipjlkhnmilaa.Draw
open Go.RowKit
set_option linter.unusedVariables false

/-- The mixing number behind k bytes. -/
def hN (zs : List Int) (n : Nat) : Nat → Int
  | 0 => 10101 + (n : Int)
  | k + 1 => bits .and .i64 (wrap64 (wrap64 (wrap64 (hN zs n k * 131) + wrap64 (zs[k]?.getD 0)) + 7)) 1073741823

/-- The code, as it came. -/
structure Code (w : World) (a : Option Addr) (len cap : Nat) (zs : List Int) : Prop where
  hl : zs.length = len
  hb : len ≤ 1048576
  z : ∀ n ∈ zs, 0 ≤ n ∧ n ≤ 255
  code : ∀ j, j < len → ∃ b off, a = some ⟨b, off, none⟩ ∧ w.cell? ⟨b, off + j, none⟩ = some (.int .u8 (zs.getD j 0))

theorem Code.below {w w' : World} {a : Option Addr} {len cap : Nat} {zs : List Int} (C : Code w a len cap zs) (hb : Below w.heap.size w w') : Code w' a len cap zs := by
  refine ⟨C.hl, C.hb, C.z, fun j hj => ?_⟩
  obtain ⟨b, off, e, hc⟩ := C.code j hj
  exact ⟨b, off, e, by rw [hb.cell (p := ⟨b, off + j, none⟩) (World.block_lt_of_cell? w ⟨b, off + j, none⟩ hc)]; exact hc⟩

theorem new_env (w : World) (a : Option Addr) (len cap : Nat) (zs : List Int) (C : Code w a len cap zs) (h : Int) :
    Env (w.alloc (.cells #[.slice a len cap, .int .i64 0, .int .i64 h] 75)) w.heap.size a len cap zs 0 h := by
  have hb : Below w.heap.size w (w.alloc (.cells #[.slice a len cap, .int .i64 0, .int .i64 h] 75)) := (Below.refl _ _).alloc (Nat.le_refl _) _
  refine ⟨heap_alloc_new w _, Nat.zero_le _, C.hl, C.hb, C.z, fun j hj => ?_⟩
  obtain ⟨b, off, e, hc⟩ := C.code j hj
  have hlt : b < w.heap.size := World.block_lt_of_cell? w ⟨b, off + j, none⟩ hc
  exact ⟨b, off, e, by omega, by rw [hb.cell (p := ⟨b, off + j, none⟩) hlt]; exact hc⟩

set_option maxRecDepth 100000 in
set_option maxHeartbeats 2000000 in
theorem new_any (w : World) (a : Option Addr) (len cap : Nat) (zs : List Int) (C : Code w a len cap zs) :
    Calls Try.prog 28 #[.slice a len cap] w fun e w' => e = .returned (.pointer (some ⟨w.heap.size, 0, none⟩)) ∧ Env w' w.heap.size a len cap zs 0 (hN zs len (min len 4000)) ∧ Below w.heap.size w w' := by
  have hb := C.hb
  have HC := Own.hid C
  clear C
  go_enter Try.func28, Try.ntmps28
  go_wp2
  go_loop [3, 4] (fun x i => ∃ k : Nat, k ≤ len ∧ k ≤ 4000 ∧ i = .int .i64 (k : Int) ∧ x = .int .i64 (hN zs len k)) (fun _ i => len - (intOf i).toNat)
  case atStart => exact ⟨0, Nat.zero_le _, Nat.zero_le _, rfl, rfl⟩
  case round =>
    obtain ⟨k, hk, hk4, rfl, rfl⟩ := hrel
    by_cases hlt : k < len ∧ k < 4000
    · obtain ⟨hl1, hl2⟩ := hlt
      obtain ⟨b, off, rfl, hc⟩ := HC.out.code k hl1
      have HS := Own.hid (show hN zs len (k + 1) = bits .and .i64 (wrap64 (wrap64 (wrap64 (hN zs len k * 131) + wrap64 (zs[k]?.getD 0)) + 7)) 1073741823 from rfl)
      generalize hN zs len k = x at *
      go_wp2
      go_round
      case rel => exact ⟨k + 1, by omega, by omega, by go_num, by rw [HS.out]⟩
      case measure => simp [intOf]; omega
    · have Hk := Own.hid (show k = min len 4000 by omega)
      have HE := Own.hid (new_env w a len cap zs HC.out (hN zs len k))
      by_cases hl1 : (k : Int) < (len : Int)
      · have hl2 : ¬ (k : Int) < 4000 := by omega
        clear hlt
        go_wp2
        go_ret
        exact ⟨rfl, by rw [← Hk.out]; exact HE.out, (Below.refl _ _).alloc (Nat.le_refl _) _⟩
      · clear hlt
        go_wp2
        go_ret
        exact ⟨rfl, by rw [← Hk.out]; exact HE.out, (Below.refl _ _).alloc (Nat.le_refl _) _⟩

theorem info3 : (Try.prog.info? 3).map (fun i => (i.zero, i.size, i.bytes)) = some (some (.int .i64 0), 1, 8) := by kernel_rfl

/-- The numbers at limits that l1Num picks from. -/
def limits : List Int := [-1, 0, 127, 128, 255, 256, 16383, 16384, 65535, 65536, 562949953421311, 562949953421312, 999999999, 1000000000, -999999999, 9223372036854775807, -9223372036854775808]

theorem limits_bd (k : Nat) : -9223372036854775808 ≤ limits.getD k 0 ∧ limits.getD k 0 ≤ 9223372036854775807 := by
  by_cases h : k < 17
  · have : ∀ j : Fin 17, -9223372036854775808 ≤ limits.getD j.val 0 ∧ limits.getD j.val 0 ≤ 9223372036854775807 := by decide
    exact this ⟨k, h⟩
  · rw [List.getD, List.getElem?_eq_none (by show 17 ≤ k; omega)]; decide

theorem Env.alloc {w : World} {cb : Nat} {a : Option Addr} {len cap : Nat} {zs : List Int} {i : Nat} {h : Int} (E : Env w cb a len cap zs i h) (o : Obj) : Env (w.alloc o) cb a len cap zs i h :=
  E.below E ((Below.refl _ _).alloc (Nat.le_refl _) _)

set_option maxRecDepth 100000 in
set_option maxHeartbeats 1000000 in
theorem pick_any (zs : List Int) (i : Nat) (h : Int) : ∃ (k : Nat) (i' : Nat) (h' : Int), k < 17 ∧ ∀ (w : World) (cb : Nat) (a : Option Addr) (len cap lb : Nat) (E : Env w cb a len cap zs i h) (hne : lb ≠ cb)
    (hc : ∀ j, j < 17 → w.cell? ⟨lb, j, none⟩ = some (.int .i64 (limits.getD j 0))),
    Calls Try.prog 31 #[.pointer (some ⟨cb, 0, none⟩), .slice (some ⟨lb, 0, none⟩) 17 17] w fun e w' => e = .returned (.int .i64 (limits.getD k 0)) ∧ Env w' cb a len cap zs i' h' ∧ w.grownBy w' (some cb) := by
  obtain ⟨x, i', h', hx0, hx1, d⟩ := below_draws zs 17 (by omega) (by omega) i h
  obtain ⟨k, rfl⟩ := Int.eq_ofNat_of_zero_le hx0
  refine ⟨k, i', h', by omega, ?_⟩
  intro w cb a len cap lb E hne hc
  have HD := Own.hid (d w cb a len cap E)
  have HC := Own.hid hc
  have hk : k < 17 := by omega
  have hk' : (k : Int) < 17 := by omega
  clear d E hc hx0 hx1
  go_enter Try.func31, Try.ntmps31
  go_wp2_with fail
  refine Calls.mono HD.out ?_
  rintro e w1 ⟨rfl, hE, hg⟩
  have HE := Own.hid hE
  have HG := Own.hid hg
  have hcell : w1.cell? ⟨lb, k, none⟩ = some (.int .i64 (limits.getD k 0)) := hg.cell (HC.out k hk) (by simpa using hne)
  clear hE hg
  obtain ⟨y, hy⟩ : ∃ y, y = limits.getD k 0 := ⟨_, rfl⟩
  rw [← hy] at hcell
  have Hy := Own.hid hy
  clear hy
  go_wp2
  go_ret
  exact ⟨by rw [← Hy.out]; rfl, HE.out, HG.out⟩

/-- The block of the seventeen numbers. -/
theorem limit_cells (w : World) : ∀ j, j < 17 → (w.alloc (.cells #[.int .i64 (-1), .int .i64 0, .int .i64 127, .int .i64 128, .int .i64 255, .int .i64 256, .int .i64 16383, .int .i64 16384, .int .i64 65535, .int .i64 65536, .int .i64 562949953421311, .int .i64 562949953421312, .int .i64 999999999, .int .i64 1000000000, .int .i64 (-999999999), .int .i64 9223372036854775807, .int .i64 (-9223372036854775808)] 3)).cell? ⟨w.heap.size, j, none⟩ = some (.int .i64 (limits.getD j 0)) := by
  intro j hj
  rw [cell_of_row _ w.heap.size j _ _ (0, 0) (heap_alloc_new w _)]
  have : j = 0 ∨ j = 1 ∨ j = 2 ∨ j = 3 ∨ j = 4 ∨ j = 5 ∨ j = 6 ∨ j = 7 ∨ j = 8 ∨ j = 9 ∨ j = 10 ∨ j = 11 ∨ j = 12 ∨ j = 13 ∨ j = 14 ∨ j = 15 ∨ j = 16 := by omega
  rcases this with rfl | rfl | rfl | rfl | rfl | rfl | rfl | rfl | rfl | rfl | rfl | rfl | rfl | rfl | rfl | rfl | rfl <;> rfl

end Go.Proofs.Ytnkipjlkhnmilaa.Draw
