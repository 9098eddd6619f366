/-
  The walk of spec.PoolDo. No condition but lists of at most 2^20.
-/
import Derived.Test.YtieohdfhbfeoaaaPpDo
import Derived.Deep.RegionHeldLaw
namespace Go.Proofs.Ytieohdfhbfeoaaa.Pl
open Go.RowKit Go.Proofs.Ytieohdfhbfeoaaa.Mem
set_option linter.unusedVariables false

theorem s6_below {w w1 w' w'' : World} {a : Option Addr} {cap : Nat} {L : List Pv} {k v t m : Int} {s : ByteArray} (h : w'.cell? ⟨w.heap.size, 0, none⟩ = some (.slice a L.length cap) ∧ w'.cell? ⟨w.heap.size + 1, 0, none⟩ = some (.int .i64 k) ∧ w'.cell? ⟨w.heap.size + 1, 1, none⟩ = some (.int .i64 v) ∧ w'.cell? ⟨w.heap.size + 1, 2, none⟩ = some (.int .i64 t) ∧ w'.cell? ⟨w.heap.size + 1, 3, none⟩ = some (.int .i64 m) ∧ w'.cell? ⟨w.heap.size + 1, 4, none⟩ = some (.string s) ∧ Below w1.heap.size w1 w') {B : Nat} (hw : w.heap.size + 1 < B) (hB : w1.heap.size ≤ B) (b : Below B w' w'') : w''.cell? ⟨w.heap.size, 0, none⟩ = some (.slice a L.length cap) ∧ w''.cell? ⟨w.heap.size + 1, 0, none⟩ = some (.int .i64 k) ∧ w''.cell? ⟨w.heap.size + 1, 1, none⟩ = some (.int .i64 v) ∧ w''.cell? ⟨w.heap.size + 1, 2, none⟩ = some (.int .i64 t) ∧ w''.cell? ⟨w.heap.size + 1, 3, none⟩ = some (.int .i64 m) ∧ w''.cell? ⟨w.heap.size + 1, 4, none⟩ = some (.string s) ∧ Below w1.heap.size w1 w'' := by
  obtain ⟨h0, h1, h2, h3, h4, h5, h6⟩ := h
  have go : ∀ {p : Addr} {u : Value}, p.block < B → w'.cell? p = some u → w''.cell? p = some u := fun {p} {u} hp hu => (cell_block (b.block _ hp)).trans hu
  exact ⟨go (by show w.heap.size < B; omega) h0, go hw h1, go hw h2, go hw h3, go hw h4, go hw h5, h6.trans (b.mono hB)⟩
theorem s6_alloc {w w1 w' : World} {a : Option Addr} {cap : Nat} {L : List Pv} {k v t m : Int} {s : ByteArray} (h : w'.cell? ⟨w.heap.size, 0, none⟩ = some (.slice a L.length cap) ∧ w'.cell? ⟨w.heap.size + 1, 0, none⟩ = some (.int .i64 k) ∧ w'.cell? ⟨w.heap.size + 1, 1, none⟩ = some (.int .i64 v) ∧ w'.cell? ⟨w.heap.size + 1, 2, none⟩ = some (.int .i64 t) ∧ w'.cell? ⟨w.heap.size + 1, 3, none⟩ = some (.int .i64 m) ∧ w'.cell? ⟨w.heap.size + 1, 4, none⟩ = some (.string s) ∧ Below w1.heap.size w1 w') (hw : w.heap.size + 1 < w1.heap.size) (o : Obj) : (w'.alloc o).cell? ⟨w.heap.size, 0, none⟩ = some (.slice a L.length cap) ∧ (w'.alloc o).cell? ⟨w.heap.size + 1, 0, none⟩ = some (.int .i64 k) ∧ (w'.alloc o).cell? ⟨w.heap.size + 1, 1, none⟩ = some (.int .i64 v) ∧ (w'.alloc o).cell? ⟨w.heap.size + 1, 2, none⟩ = some (.int .i64 t) ∧ (w'.alloc o).cell? ⟨w.heap.size + 1, 3, none⟩ = some (.int .i64 m) ∧ (w'.alloc o).cell? ⟨w.heap.size + 1, 4, none⟩ = some (.string s) ∧ Below w1.heap.size w1 (w'.alloc o) := s6_below h (B := w'.heap.size) (by have := h.2.2.2.2.2.2.size; omega) h.2.2.2.2.2.2.size ((Below.refl _ _).alloc (Nat.le_refl _) o)
theorem s6_allocd {w w1 w' : World} {a : Option Addr} {cap : Nat} {L : List Pv} {k v t m : Int} {s : ByteArray} (h : w'.drew.cell? ⟨w.heap.size, 0, none⟩ = some (.slice a L.length cap) ∧ w'.drew.cell? ⟨w.heap.size + 1, 0, none⟩ = some (.int .i64 k) ∧ w'.drew.cell? ⟨w.heap.size + 1, 1, none⟩ = some (.int .i64 v) ∧ w'.drew.cell? ⟨w.heap.size + 1, 2, none⟩ = some (.int .i64 t) ∧ w'.drew.cell? ⟨w.heap.size + 1, 3, none⟩ = some (.int .i64 m) ∧ w'.drew.cell? ⟨w.heap.size + 1, 4, none⟩ = some (.string s) ∧ Below w1.heap.size w1 w'.drew) (hw : w.heap.size + 1 < w1.heap.size) (o : Obj) : (w'.alloc o).drew.cell? ⟨w.heap.size, 0, none⟩ = some (.slice a L.length cap) ∧ (w'.alloc o).drew.cell? ⟨w.heap.size + 1, 0, none⟩ = some (.int .i64 k) ∧ (w'.alloc o).drew.cell? ⟨w.heap.size + 1, 1, none⟩ = some (.int .i64 v) ∧ (w'.alloc o).drew.cell? ⟨w.heap.size + 1, 2, none⟩ = some (.int .i64 t) ∧ (w'.alloc o).drew.cell? ⟨w.heap.size + 1, 3, none⟩ = some (.int .i64 m) ∧ (w'.alloc o).drew.cell? ⟨w.heap.size + 1, 4, none⟩ = some (.string s) ∧ Below w1.heap.size w1 (w'.alloc o).drew := s6_alloc (w' := w'.drew) h hw o
theorem s6_set {w w1 w' : World} {a : Option Addr} {cap : Nat} {L : List Pv} {k v t m : Int} {s : ByteArray} {gz : Nat} (h : w'.cell? ⟨w.heap.size, 0, none⟩ = some (.slice a L.length cap) ∧ w'.cell? ⟨w.heap.size + 1, 0, none⟩ = some (.int .i64 k) ∧ w'.cell? ⟨w.heap.size + 1, 1, none⟩ = some (.int .i64 v) ∧ w'.cell? ⟨w.heap.size + 1, 2, none⟩ = some (.int .i64 t) ∧ w'.cell? ⟨w.heap.size + 1, 3, none⟩ = some (.int .i64 m) ∧ w'.cell? ⟨w.heap.size + 1, 4, none⟩ = some (.string s) ∧ Below w1.heap.size w1 w') (hw : w.heap.size + 1 < gz) (hge : w1.heap.size ≤ gz) (x : Value) : (w'.setCell ⟨gz, 0, none⟩ x).cell? ⟨w.heap.size, 0, none⟩ = some (.slice a L.length cap) ∧ (w'.setCell ⟨gz, 0, none⟩ x).cell? ⟨w.heap.size + 1, 0, none⟩ = some (.int .i64 k) ∧ (w'.setCell ⟨gz, 0, none⟩ x).cell? ⟨w.heap.size + 1, 1, none⟩ = some (.int .i64 v) ∧ (w'.setCell ⟨gz, 0, none⟩ x).cell? ⟨w.heap.size + 1, 2, none⟩ = some (.int .i64 t) ∧ (w'.setCell ⟨gz, 0, none⟩ x).cell? ⟨w.heap.size + 1, 3, none⟩ = some (.int .i64 m) ∧ (w'.setCell ⟨gz, 0, none⟩ x).cell? ⟨w.heap.size + 1, 4, none⟩ = some (.string s) ∧ Below w1.heap.size w1 (w'.setCell ⟨gz, 0, none⟩ x) := by
  obtain ⟨h0, h1, h2, h3, h4, h5, h6⟩ := h
  have go : ∀ {g j : Nat} {u : Value}, g < gz → w'.cell? ⟨g, j, none⟩ = some u → (w'.setCell ⟨gz, 0, none⟩ x).cell? ⟨g, j, none⟩ = some u := fun {g j} {u} hg hu => by
    rw [World.cell?_setCell_other _ _ _ _ (fun e => by injection e; omega)]; exact hu
  exact ⟨go (by omega) h0, go hw h1, go hw h2, go hw h3, go hw h4, go hw h5, below_set h6 _ _ _ hge⟩

set_option maxRecDepth 100000 in
set_option maxHeartbeats 4000000 in
theorem sPoolDo (w : World) (a : Option Addr) (cap : Nat) (L : List Pv) (k v t m : Int) (s : ByteArray) (S : Pvs w a L) (hl : L.length ≤ 1048576) (hu : ∀ x ∈ L, x.Upto 1048576) (hs : s.size ≤ 1048576) :
    Calls Try.prog 17 #[plV a L.length cap, opV k v t m s] w fun r w' => ∃ a' cap' M, r = .returned (.tuple #[plV a' (M : List Pv).length cap', .bool (poolDo L k v t m s).2]) ∧ PvsW w' w.heap.size a' M ∧ M.map Pv.data = (poolDo L k v t m s).1 ∧ Below w.heap.size w w' := by
  have HS := hid S
  have HL := hid hl
  have HUx := hid hu
  clear S hl hu
  have HVp : Hid (∀ a n c, plV a n c = .agg #[.slice a n c]) := fun _ _ _ => rfl
  have HV : Hid (opV k v t m s = .agg #[.int .i64 k, .int .i64 v, .int .i64 t, .int .i64 m, .string s]) := rfl
  rw [HV.out, HVp.out]
  generalize hX : poolDo L k v t m s = X
  have HX := hid hX
  clear hX
  obtain ⟨X1, X2⟩ := X
  obtain ⟨wa, hwa, ez, A0, C0, D0, B0⟩ : ∃ wa, ((w.alloc (.cells #[.slice a L.length cap] 24)).alloc (.cells #[.int .i64 k, .int .i64 v, .int .i64 t, .int .i64 m, .string s] 41)).alloc (.cells #[.slice none 0 0] 24) = wa ∧ True ∧ Row wa w.heap.size [.slice a L.length cap] ∧ Row wa (w.heap.size + 1) [.int .i64 k, .int .i64 v, .int .i64 t, .int .i64 m, .string s] ∧ Row wa (w.heap.size + 1 + 1) [.slice none 0 0] ∧ Below w.heap.size w wa :=
    ⟨_, rfl, trivial, three_x w [.slice a L.length cap] [.int .i64 k, .int .i64 v, .int .i64 t, .int .i64 m, .string s] [.slice none 0 0] 24 41 24⟩
  have HA := hid A0
  have HC := hid C0
  have HD := hid D0
  have HB := hid B0
  have k0 := A0.c 0 rfl
  clear A0 B0 C0 D0 ez
  go_enter Try.func17, Try.ntmps17
  go_wp2_with fail
  try simp only [hwa]
  clear hwa k0
  refine (sModelOk wa a cap L (HS.out.below HB.out) HL.out HUx.out).mono ?_
  rintro e w1 ⟨rfl, b1⟩
  have HA1 := hid (HA.out.below b1 HA.out.lt)
  have HC1 := hid (HC.out.below b1 HC.out.lt)
  have HD1 := hid (HD.out.below b1 HD.out.lt)
  have HB1 := hid (HB.out.trans (b1.mono HB.out.size))
  clear b1 HA HC HD HB
  cases hm : modelOk L with
  | false =>
    have hd := HX.out
    unfold poolDo at hd
    rw [if_neg (by rw [hm]; simp)] at hd
    cases hd
    have d0 := HD1.out.c 0 rfl
    have df := HD1.out.f 0
    clear hm HX
    go_wp2
    refine bodyPost_ret (results_pool2 rfl _ _ (w.heap.size + 1 + 1) [.slice none 0 0] _ rfl (HD1.out.set 0 (.slice none 0 0)) Try.underlying24 rfl (by kernel_rfl)) rfl ?_
    exact ⟨none, 0, [], rfl, ⟨fun i hi => by simp at hi, fun x hx => by simp at hx, fun x hx => by simp at hx, List.Pairwise.nil, fun x hx => by simp at hx⟩, rfl, below_set HB1.out _ _ _ (by omega)⟩
  | true =>
    have hd := HX.out
    unfold poolDo at hd
    rw [if_pos hm] at hd
    obtain ⟨e4, eac⟩ := ok_each hm
    have HDd := hid hd
    have HEa := hid eac
    have HE4 := hid e4
    have HS1 := hid (HS.out.below HB1.out)
    have hlx : L.length ≤ 1048575 := by omega
    have hwb : w.heap.size + 1 < w1.heap.size := HC1.out.lt
    have hwc : w.heap.size + 1 + 1 < w1.heap.size := HD1.out.lt
    have HMe : Hid (∀ M : List Pv, M.map Pv.data = L.map Pv.data → (∀ x ∈ M, x.hs.length = 4 ∧ x.ts.length = 4) ∧ ∀ x ∈ M, x.Upto 1048576) := fun M h => ⟨(ok_each (by rw [modelOk_data h]; exact hm)).2, (upto_data h.symm HL.out HUx.out).2⟩
    have Q0 := hid (show w1.drew.cell? ⟨w.heap.size, 0, none⟩ = some (.slice a L.length cap) ∧ w1.drew.cell? ⟨w.heap.size + 1, 0, none⟩ = some (.int .i64 k) ∧ w1.drew.cell? ⟨w.heap.size + 1, 1, none⟩ = some (.int .i64 v) ∧ w1.drew.cell? ⟨w.heap.size + 1, 2, none⟩ = some (.int .i64 t) ∧ w1.drew.cell? ⟨w.heap.size + 1, 3, none⟩ = some (.int .i64 m) ∧ w1.drew.cell? ⟨w.heap.size + 1, 4, none⟩ = some (.string s) ∧ Below w1.heap.size w1 w1.drew from ⟨HA1.out.c 0 rfl, HC1.out.c 0 rfl, HC1.out.c 1 rfl, HC1.out.c 2 rfl, HC1.out.c 3 rfl, HC1.out.c 4 rfl, (Below.refl _ w1).drew⟩)
    clear hm HX hd eac e4
    go_wp2
    go_region_held_law (fun w' => w'.cell? ⟨w.heap.size, 0, none⟩ = some (.slice a L.length cap) ∧ w'.cell? ⟨w.heap.size + 1, 0, none⟩ = some (.int .i64 k) ∧ w'.cell? ⟨w.heap.size + 1, 1, none⟩ = some (.int .i64 v) ∧ w'.cell? ⟨w.heap.size + 1, 2, none⟩ = some (.int .i64 t) ∧ w'.cell? ⟨w.heap.size + 1, 3, none⟩ = some (.int .i64 m) ∧ w'.cell? ⟨w.heap.size + 1, 4, none⟩ = some (.string s) ∧ Below w1.heap.size w1 w')
      (first | with_reducible exact Q2.out | with_reducible exact Q1.out | with_reducible exact Q0.out | (with_reducible refine s6_allocd ?_ hwb _; with_reducible exact Q0.out) | (with_reducible refine s6_alloc ?_ hwb _; with_reducible exact Q1.out) | (with_reducible refine s6_alloc ?_ hwb _; with_reducible exact Q2.out) | with_reducible assumption | (refine s6_set ?_ (by omega) (by omega) _; with_reducible exact Q2.out))
      (first
        | (go_at_call 33; refine (l7Copy (w1.alloc (.cells #[.slice none 0 0] 24)).drew a cap L (HS1.out.below ((Below.refl _ w1).alloc (Nat.le_refl _) (.cells #[.slice none 0 0] 24)).drew) hlx HUx.out).mono ?_; rintro e w2 ⟨a', c', M, rfl, P2, D2, b2⟩; unfold plV; have hM4 : M.length = 4 := (by have h9 := congrArg List.length D2; simp only [List.length_map] at h9; rw [h9]; exact HE4.out); rw [hM4]; have HZr : Hid (Row w2 w1.heap.size [.slice none 0 0]) := Row.below (show Row (w1.alloc (.cells #[.slice none 0 0] 24)).drew w1.heap.size [.slice none 0 0] from Row.new w1 [.slice none 0 0] 24) b2 (lt_alloc w1 _); have Q1 := hid (s6_below (s6_allocd (w' := w1) Q0.out hwb (.cells #[.slice none 0 0] 24)) (by have := hwb; simp; omega) (by simp) b2); have HP2 := hid P2; have HD2 := hid D2; have HM4 := hid hM4; have HSz := hid b2.size; have hw12 : w1.heap.size ≤ w2.heap.size := (by have := b2.size; simp at this; omega); clear P2 D2 b2 hM4)
        | (go_at_call 33; refine (l7Copy w1.drew a cap L (HS1.out.below (Below.refl _ w1).drew) hlx HUx.out).mono ?_; rintro e w2 ⟨a', c', M, rfl, P2, D2, b2⟩; unfold plV; have hM4 : M.length = 4 := (by have h9 := congrArg List.length D2; simp only [List.length_map] at h9; rw [h9]; exact HE4.out); rw [hM4]; have Q1 := hid (s6_below (Q0.out) (by have := hwb; simp; omega) (by simp) b2); have HP2 := hid P2; have HD2 := hid D2; have HM4 := hid hM4; have HSz := hid b2.size; have hw12 : w1.heap.size ≤ w2.heap.size := (by have := b2.size; simp at this; omega); clear P2 D2 b2 hM4)
        | (go_at_call 32; rw [← HV.out]; refine (l7Do w2 _ a' c' M M rfl k v t m s (HP2.out) HM4.out (HMe.out M HD2.out).1 (HMe.out M HD2.out).2 (by have := HP2.out.r; exact HSz.out) hs).mono ?_; rintro e w3 ⟨M', rfl, l3, P3, D3, b3, k3, f3⟩; unfold plV; rw [HD2.out, HDd.out] at D3 ⊢; simp only [] at D3 ⊢; have HZn := hid (HZr.out.below b3 (lt_alloc w1 _)); have zc := HZn.out.c 0 rfl; have zf := HZn.out.f 0; have Q2 := hid (s6_below Q1.out (by have := hwb; simp; omega) (by simp) b3); have HP3 := hid P3; have HD3 := hid D3; have HL3 := hid l3; have HB3 := hid b3; have HK3 := hid k3; have HF3 := hid f3; clear P3 D3 l3 b3 k3 f3)
        | (go_at_call 32; rw [← HV.out]; refine (l7Do (w2.alloc (.cells #[.slice none 0 0] 24)) _ a' c' M M rfl k v t m s (HP2.out.below ((Below.refl _ w2).alloc (Nat.le_refl _) (.cells #[.slice none 0 0] 24))) HM4.out (HMe.out M HD2.out).1 (HMe.out M HD2.out).2 (Nat.le_trans HSz.out (Nat.le_of_lt (lt_alloc w2 _))) hs).mono ?_; rintro e w3 ⟨M', rfl, l3, P3, D3, b3, k3, f3⟩; unfold plV; rw [HD2.out, HDd.out] at D3 ⊢; simp only [] at D3 ⊢; have HZm : Hid (Row w3 w2.heap.size [.slice none 0 0]) := (Row.new w2 [.slice none 0 0] 24).kept k3 (fun hf => by have := (HP2.out.pfoot_ge hf).2; omega); have zc := HZm.out.c 0 rfl; have zf := HZm.out.f 0; have Q2 := hid (s6_below (s6_alloc Q1.out hwb (.cells #[.slice none 0 0] 24)) (by have := hwb; simp; omega) (by simp) b3); have HP3 := hid P3; have HD3 := hid D3; have HL3 := hid l3; have HB3 := hid b3; have HK3 := hid k3; have HF3 := hid f3; clear P3 D3 l3 b3 k3 f3)
        | (go_at_call 32; rw [← HV.out]; refine (l7Do w2 _ a' c' M M rfl k v t m s (HP2.out) HM4.out (HMe.out M HD2.out).1 (HMe.out M HD2.out).2 (by have := HP2.out.r; exact HSz.out) hs).mono ?_; rintro e w3 ⟨M', rfl, l3, P3, D3, b3, k3, f3⟩; unfold plV; rw [HD2.out, HDd.out] at D3 ⊢; simp only [] at D3 ⊢; have Q2 := hid (s6_below Q1.out (by have := hwb; simp; omega) (by simp) b3); have HP3 := hid P3; have HD3 := hid D3; have HL3 := hid l3; have HB3 := hid b3; have HK3 := hid k3; have HF3 := hid f3; clear P3 D3 l3 b3 k3 f3))
    all_goals
      have RD3 := HD1.out.below Q2.out.2.2.2.2.2.2 HD1.out.lt
      have HB9 := HB1.out.trans (Q2.out.2.2.2.2.2.2.mono HB1.out.size)
      first
      | (obtain ⟨wz, hwz⟩ : ∃ wz, w3.setCell ⟨w1.heap.size, 0, none⟩ (.slice a' 4 c') = wz := ⟨_, rfl⟩
         have hr := HZn.out.set 0 (.slice a' 4 c')
         rw [hwz] at hr
         have HR := hid hr
         clear hr
         have HRd : Hid (Row wz (w.heap.size + 1 + 1) [.slice none 0 0]) := by rw [← hwz]; exact RD3.other (p := ⟨w1.heap.size, 0, none⟩) (by show w.heap.size + 1 + 1 ≠ w1.heap.size; omega) _
         have hp := HP3.out.move (kept_set w3 w1.heap.size 0 (.slice a' 4 c')) (fun b hb e => by have := (HP3.out.pfoot_ge hb).1; simp at this; omega)
         rw [hwz] at hp
         have HPz := hid hp
         clear hp
         have HBz : Hid (Below w.heap.size w wz) := by rw [← hwz]; exact below_set HB9 _ _ _ (by omega)
         simp only [hwz]
         clear hwz
         have z9 := HR.out.c 0 rfl
         have d9 := HRd.out.c 0 rfl
         have df9 := HRd.out.f 0
         have HRs := hid (HRd.out.set 0 (.slice a' 4 c'))
         go_wp2
         refine bodyPost_ret (results_pool2 rfl _ _ (w.heap.size + 1 + 1) [.slice a' 4 c'] _ rfl HRs.out Try.underlying24 rfl (by kernel_rfl)) rfl ?_
         exact ⟨a', c', M', by rw [HL3.out]; rfl, (PvsW.move HPz.out (kept_set wz (w.heap.size + 1 + 1) 0 _) (fun b hb e => by have := (HPz.out.pfoot_ge hb).1; simp at this; omega)).mono (Nat.le_trans HB1.out.size (by simp)), HD3.out, below_set HBz.out _ _ _ (by omega)⟩)
      | (obtain ⟨wz, hwz⟩ : ∃ wz, w3.setCell ⟨w2.heap.size, 0, none⟩ (.slice a' 4 c') = wz := ⟨_, rfl⟩
         have hr := HZm.out.set 0 (.slice a' 4 c')
         rw [hwz] at hr
         have HR := hid hr
         clear hr
         have HRd : Hid (Row wz (w.heap.size + 1 + 1) [.slice none 0 0]) := by rw [← hwz]; exact RD3.other (p := ⟨w2.heap.size, 0, none⟩) (by show w.heap.size + 1 + 1 ≠ w2.heap.size; omega) _
         have hp := HP3.out.move (kept_set w3 w2.heap.size 0 (.slice a' 4 c')) (fun b hb e => by
           rcases HF3.out b hb with h9 | h9
           · have := (HP2.out.pfoot_ge h9).2; omega
           · simp at h9; omega)
         rw [hwz] at hp
         have HPz := hid hp
         clear hp
         have HBz : Hid (Below w.heap.size w wz) := by rw [← hwz]; exact below_set HB9 _ _ _ (by omega)
         simp only [hwz]
         clear hwz
         have z9 := HR.out.c 0 rfl
         have d9 := HRd.out.c 0 rfl
         have df9 := HRd.out.f 0
         have HRs := hid (HRd.out.set 0 (.slice a' 4 c'))
         go_wp2
         refine bodyPost_ret (results_pool2 rfl _ _ (w.heap.size + 1 + 1) [.slice a' 4 c'] _ rfl HRs.out Try.underlying24 rfl (by kernel_rfl)) rfl ?_
         exact ⟨a', c', M', by rw [HL3.out]; rfl, (PvsW.move HPz.out (kept_set wz (w.heap.size + 1 + 1) 0 _) (fun b hb e => by have := (HPz.out.pfoot_ge hb).1; simp at this; omega)).mono (Nat.le_trans HB1.out.size (by simp)), HD3.out, below_set HBz.out _ _ _ (by omega)⟩)
      | (obtain ⟨wz, hwz⟩ : ∃ wz, w3.alloc (.cells #[.slice a' 4 c'] 24) = wz := ⟨_, rfl⟩
         have hr := Row.new w3 [.slice a' 4 c'] 24
         rw [hwz] at hr
         have HR := hid hr
         clear hr
         have HRd : Hid (Row wz (w.heap.size + 1 + 1) [.slice none 0 0]) := by rw [← hwz]; exact RD3.alloc _
         have hp := HP3.out.below ((Below.refl _ w3).alloc (Nat.le_refl _) (.cells #[.slice a' 4 c'] 24))
         rw [hwz] at hp
         have HPz := hid hp
         clear hp
         have HBz : Hid (Below w.heap.size w wz) := by rw [← hwz]; exact HB9.alloc HB9.size _
         simp only [hwz]
         clear hwz
         have z9 := HR.out.c 0 rfl
         have d9 := HRd.out.c 0 rfl
         have df9 := HRd.out.f 0
         have HRs := hid (HRd.out.set 0 (.slice a' 4 c'))
         go_wp2
         refine bodyPost_ret (results_pool2 rfl _ _ (w.heap.size + 1 + 1) [.slice a' 4 c'] _ rfl HRs.out Try.underlying24 rfl (by kernel_rfl)) rfl ?_
         exact ⟨a', c', M', by rw [HL3.out]; rfl, (PvsW.move HPz.out (kept_set wz (w.heap.size + 1 + 1) 0 _) (fun b hb e => by have := (HPz.out.pfoot_ge hb).1; simp at this; omega)).mono (Nat.le_trans HB1.out.size (by simp)), HD3.out, below_set HBz.out _ _ _ (by omega)⟩)

end Go.Proofs.Ytieohdfhbfeoaaa.Pl
