/-
  The walk of spec.l8Rise: a host of one's own rises on a disk of one's own. No condition but sizes.
  What impl.Peek must do; and sizes that the laws look at. No condition.
  How a function that hands a disk back ends: the disk lies in the result's block. No condition.
  The walk of spec.Fence: what it makes of a disk, in rows of its own. No condition but sizes.
  The walks of laws.markWriteS, laws.markDisk, laws.heldWriteS and laws.heldDisk: marks are laid into a disk and found there again. No condition but a disk that may be written and numbers that are not too great.
  What is asked of the operations of a region that calls one function, one by one; and what lies in its boxes at the end. At any program. No condition.
  The walk of spec.HostOk. No condition but texts and lists of at most 2^20.
  The walk of spec.HostRise: a host rises. No condition but sizes.
  The walk of impl.HostOk and of what it calls. No condition but texts and lists of at most 2^20.
  The walk of impl.hasNoCall. No condition but lists of at most 2^20.
  The walk of impl.isFallen. No condition but lists of at most 2^20.
  The walk of impl.hasRightCall. No condition but texts and lists of at most 2^20.
  The walk of impl.HostOk. No condition but texts and lists of at most 2^20.
-/
import Derived.Test.YtlhnkdogafnnpaaGreatJoin2
import Derived.Test.YtlhnkdogafnnpaaGreatJoin3
import Derived.Test.YtlhnkdogafnnpaaGreatJoin4
import Derived.Deep.DeepCutAuto
import Derived.Deep.RegionHeldLaw
namespace Go.Proofs.YtlhnkdogafnnpaaGreat.Pl
open Go.RowKit Go.Proofs.YtlhnkdogafnnpaaGreat.Mem Go.Proofs.YtlhnkdogafnnpaaGreat.Sec Go.Proofs.YtlhnkdogafnnpaaGreat.Rg
set_option linter.unusedVariables false

def hoC (H : Ho) (p : Option Addr) (c : Nat) : List Value := [.int .i64 H.id, .int .i64 H.ep, .bool H.up, .bool H.rd, .bool H.bz, .int .i64 H.k, .int .i64 H.v, .int .i64 H.t, .int .i64 H.a, .string H.s, .int .i64 H.pc, .int .i64 H.cd, .int .i64 H.bk, .string H.tx, .slice p H.l.length c, .int .i64 H.txn]
theorem hoV_is (H : Ho) (p : Option Addr) (c : Nat) : hoV H p c = .agg (hoC H p c).toArray := rfl

/-- A host that has just risen with an epoch. -/
def Ho.risen (i e : Int) : Ho := ⟨i, e, true, false, true, 12, i, 0, 0, ⟨#[]⟩, 0, 0, 0, ⟨#[]⟩, [], 0⟩
/-- What l8Rise makes of a host and a disk. -/
def riseD (H : Ho) (D : Dk) : Ho × Dk × Bool := if H.up = true then (H, D, false) else if (D.fence H.id).2 = true then (Ho.risen H.id ((D.fence H.id).1.ep.getD H.id.toNat 0), (D.fence H.id).1, true) else (H, D, false)
theorem rise_up {H : Ho} {D : Dk} (h : H.up = true) : riseD H D = (H, D, false) := if_pos h
theorem rise_no {H : Ho} {D : Dk} (h : H.up = false) (f : (D.fence H.id).2 = false) : riseD H D = (H, D, false) := by unfold riseD; rw [h, f]; rfl
theorem rise_on {H : Ho} {D : Dk} (h : H.up = false) (f : (D.fence H.id).2 = true) : riseD H D = (Ho.risen H.id ((D.fence H.id).1.ep.getD H.id.toNat 0), (D.fence H.id).1, true) := by unfold riseD; rw [h, f]; rfl

/-- What a risen host and its disk are in memory. -/
def RiseR (w w' : World) (B : Nat) (p : Option Addr) (m : Nat) (v : Value) (R : Ho × Dk × Bool) (e : Ending) : Prop := ∃ p' c' v', e = .returned (.tuple #[hoV R.1 p' c', v', .bool R.2.2]) ∧ OusW w' B p' R.1.l ∧ DkO w' B v' R.2.1 ∧ (∀ b, foot p' (R.1.l.length * 2) b → ¬ DkB v' b) ∧ Below B w w' ∧ Kept (DkB v) w w' ∧ (∀ b, foot p' (R.1.l.length * 2) b → foot p m b) ∧ (∀ b, DkB v' b → DkB v b ∨ w.heap.size ≤ b)

theorem wr_lt {w : World} {B m : Nat} {a : Option Addr} {f : Nat → Value} (h : Wr w B a m f) {b : Nat} (hb : foot a m b) : b < w.heap.size := (Wr.sl h).lt hb

theorem fence_no {D : Dk} {h : Int} (f : (D.fence h).2 = false) : (D.fence h).1 = D := by
  unfold Dk.fence at f ⊢
  split at f
  · cases f
  · rename_i hc
    rw [if_neg hc]
theorem fence_yes {D : Dk} {h : Int} (f : (D.fence h).2 = true) : 0 ≤ h ∧ h < 3 := by
  unfold Dk.fence at f
  split at f
  · rename_i hc
    exact hc.1
  · cases f
theorem fence_len (D : Dk) (h : Int) : (D.fence h).1.ep.length = D.ep.length := by
  unfold Dk.fence
  split
  · simp
  · rfl

theorem into_two {rs : List Role} {x y b : Nat} (h : Into rs b) (e : (rs.filterMap fun r => if r.k = 2 then some r.i else none) = [x, y]) : b = x ∨ b = y := by
  have := into_of h e
  simpa using this

set_option maxRecDepth 100000 in
set_option maxHeartbeats 4000000 in
theorem l8Rise (w : World) (B : Nat) (H : Ho) (p : Option Addr) (c : Nat) (v : Value) (D : Dk) (S : OusW w B p H.l) (O : DkO w B v D) (hB : B ≤ w.heap.size) (hsep : ∀ b, foot p (H.l.length * 2) b → ¬ DkB v b) (hf : D.Fit) (hd : D.Held) (he : ∀ j, j < D.ep.length → 1 ≤ D.ep.getD j 0) :
    Calls Tryz.prog 23 #[hoV H p c, v] w fun e w' => RiseR w w' B p (H.l.length * 2) v (riseD H D) e := by
  have HS := hid S
  have HO := hid O
  have HF := hid hf
  have HD := hid hd
  have HE := hid he
  have HX := hid hsep
  clear S hf hd he hsep
  obtain ⟨a1, c1, a2, c2, a3, c3, rfl, _, _, _, _, _⟩ := O.w
  clear O
  unfold hoV
  go_enter Tryz.func23, Tryz.ntmps23
  go_upto_region 1 with fail
  obtain ⟨wa, hwa, ea, A0, C0, R0, Q0, B0⟩ := four_y w (hoC H p c) [.slice a1 D.sec.length c1, .slice a2 D.ep.length c2, .slice a3 D.pe.length c3] [.int .i64 0, .int .i64 0, .bool false, .bool false, .bool false, .int .i64 0, .int .i64 0, .int .i64 0, .int .i64 0, .string ⟨#[]⟩, .int .i64 0, .int .i64 0, .int .i64 0, .string ⟨#[]⟩, .slice none 0 0, .int .i64 0] [.slice none 0 0, .slice none 0 0, .slice none 0 0] 41 44 41 44
  unfold hoC at hwa
  simp only [hwa]
  clear hwa
  have HA := hid A0
  have HC := hid C0
  have HR := hid R0
  have HQ := hid Q0
  have HB := hid B0
  have HSa := hid (Wr.below HS.out (B0.mono (Nat.le_refl _)))
  have HOa := hid (HO.out.below B0)
  have k2 := A0.c 2 (v := .bool H.up) rfl
  clear A0 C0 R0 Q0 B0
  cases hup : H.up with
  | true =>
    rw [hup] at k2
    go_upto_region 2 with fail
    clear k2
    refine region_ret (rs := [⟨0, 0, 0, [.agg (hoC H p c).toArray]⟩, ⟨0, 0, 0, [.agg [.slice a1 D.sec.length c1, .slice a2 D.ep.length c2, .slice a3 D.pe.length c3].toArray]⟩, ⟨2, w.heap.size + 1 + 1, 0, [.int .i64 0, .int .i64 0, .bool false, .bool false, .bool false, .int .i64 0, .int .i64 0, .int .i64 0, .int .i64 0, .string ⟨#[]⟩, .int .i64 0, .int .i64 0, .int .i64 0, .string ⟨#[]⟩, .slice none 0 0, .int .i64 0]⟩, ⟨2, w.heap.size + 1 + 1 + 1, 1, [.slice none 0 0, .slice none 0 0, .slice none 0 0]⟩, ⟨0, 0, 0, [.bool false]⟩]) (S := fun _ _ _ => True) true (by kernel_rfl) (by kernel_rfl) rfl ?_ [some 11, some 12, none, none, some 6] (by kernel_rfl) ?_
    · refine rCons (rLoad rfl rfl 41 _ rfl (b := w.heap.size) (by kernel_rfl) (by kernel_rfl) _ HA.out (fun h => by rcases into_two (x := w.heap.size + 1 + 1) (y := w.heap.size + 1 + 1 + 1) h rfl with h | h <;> omega) Tryz.underlying41 rfl (by kernel_rfl)) ?_
      refine rCons (rLoad rfl rfl 44 _ rfl (b := w.heap.size + 1) (by kernel_rfl) (by kernel_rfl) _ HC.out (fun h => by rcases into_two (x := w.heap.size + 1 + 1) (y := w.heap.size + 1 + 1 + 1) h rfl with h | h <;> omega) Tryz.underlying44 rfl (by kernel_rfl)) ?_
      refine rCons (rStore rfl rfl 41 _ _ rfl (by kernel_rfl) (by kernel_rfl) HR.out (by kernel_rfl) (by kernel_rfl) (by kernel_rfl) (fun m b' hm hne => by simp [storesOf] at hm; omega) rfl rfl rfl rfl rfl) ?_
      refine rCons (rStore rfl rfl 44 _ _ rfl (by kernel_rfl) (by kernel_rfl) HQ.out (by kernel_rfl) (by kernel_rfl) (by kernel_rfl) (fun m b' hm hne => by simp [storesOf] at hm; omega) rfl rfl rfl rfl rfl) ?_
      refine rCons (rFix rfl rfl (fun L v a w' K => by unfold execOp; simp [go_sem, Act.eval])) (rNil _)
    intro L vv w' hL K G
    have e4 : vv 4 = .bool false := (G 4 _ rfl).1 rfl
    have R1 := hid (Go.Proofs.YtlhnkdogafnnpaaGreat.Rg.stored G 2 0 (w.heap.size + 1 + 1) rfl rfl rfl rfl)
    have R2 := hid (Go.Proofs.YtlhnkdogafnnpaaGreat.Rg.stored G 3 1 (w.heap.size + 1 + 1 + 1) rfl rfl rfl rfl)
    simp only [putsAll, Act.put, List.setIfInBounds_toArray, List.set_cons_zero, List.set_cons_succ, e4]
    clear G
    go_wp2
    refine bodyPost_ret (results_cct rfl _ _ (w.heap.size + 1 + 1) (w.heap.size + 1 + 1 + 1) (hoC H p c) [.slice a1 D.sec.length c1, .slice a2 D.ep.length c2, .slice a3 D.pe.length c3] _ _ rfl R1.out Tryz.underlying41 rfl (by kernel_rfl) rfl R2.out Tryz.underlying44 rfl (by kernel_rfl)) rfl ?_
    rw [rise_up hup]
    have K' : Kept (fun b => b = w.heap.size + 1 + 1 ∨ b = w.heap.size + 1 + 1 + 1) wa w' := K.mono (fun b _ h => into_two h rfl)
    exact ⟨p, c, _, rfl, Wr.move HSa.out K' (fun b hb h => by have := wr_lt HS.out hb; omega), HOa.out.kept K' (fun b hb h => by have := (HO.out.lt hb).2; omega), HX.out, (HB.out.mono hB).trans (K'.below (Nat.le_trans hB HB.out.size) (fun b hb h => by omega)), ((Kept.of_below (S := fun _ => False) HB.out).trans K').mono (fun b hb h => by
      rcases h with h | h
      · exact h.elim
      · omega), fun b h => h, fun b h => .inl h⟩
  | false =>
    rw [hup] at k2
    have k0 := HA.out.c 0 (v := .int .i64 H.id) rfl
    have j0 := HC.out.c 0 rfl
    have j1 := HC.out.c 1 rfl
    have j2 := HC.out.c 2 rfl
    go_upto_region 3 with fail
    go_wp2_with fail
    clear k0 k2 j0 j1 j2
    refine (l3FenceV wa B _ D H.id HOa.out (Nat.le_trans hB HB.out.size) HF.out HD.out HE.out).mono ?_
    rintro e w1 ⟨v', rfl, O1, b1, K1, hv, hfa⟩
    have HO1 := hid O1
    have HK1 := hid K1
    have hB1 := hid b1
    obtain ⟨p1, q1, p2, q2, p3, q3, rfl, _, hI2, _, _, _⟩ := O1.w
    have hdb : ∀ b, DkB (.agg #[.slice a1 D.sec.length c1, .slice a2 D.ep.length c2, .slice a3 D.pe.length c3]) b → b < w.heap.size := fun b hb => (HO.out.lt hb).2
    have HA1 := hid (HA.out.kept K1 (fun h => by have := hdb _ h; omega))
    have HC1 := hid (HC.out.kept K1 (fun h => by have := hdb _ h; omega))
    have HR1 := hid (HR.out.kept K1 (fun h => by have := hdb _ h; omega))
    have HQ1 := hid (HQ.out.kept K1 (fun h => by have := hdb _ h; omega))
    have HS1 := hid (Wr.move HSa.out K1 (fun b hb h => HX.out b hb h))
    have hs1 : wa.heap.size ≤ w1.heap.size := K1.size
    have K2 : ∀ w2, Below w1.heap.size w1 w2 → w1.heap.size < w2.heap.size → True := fun _ _ _ => trivial
    obtain ⟨w2, hw2, e2, N0, B2⟩ := one_new w1 [.slice p1 (D.fence H.id).1.sec.length q1, .slice p2 (D.fence H.id).1.ep.length q2, .slice p3 (D.fence H.id).1.pe.length q3] 44
    have HN := hid N0
    have HA2 := hid (HA1.out.below B2 HA1.out.lt)
    have HC2 := hid (HC1.out.below B2 HC1.out.lt)
    have HR2 := hid (HR1.out.below B2 HR1.out.lt)
    have HQ2 := hid (HQ1.out.below B2 HQ1.out.lt)
    have HS2 := hid (Wr.below HS1.out B2)
    have HO2 := hid (HO1.out.below B2)
    have HB2 := hid (((HB.out.mono hB).trans hB1.out).trans (B2.mono (Nat.le_trans (Nat.le_trans hB HB.out.size) hs1)))
    have HFa := hid hfa
    clear N0 K1 O1 b1 HA1 HC1 HR1 HQ1 HS1 HO1 hfa K2
    have HKw := hid (((Kept.of_below (S := fun _ => False) HB.out).trans HK1.out).mono (T := DkB (.agg #[.slice a1 D.sec.length c1, .slice a2 D.ep.length c2, .slice a3 D.pe.length c3])) (fun b hb h => by rcases h with h | h; exact h.elim; exact h))
    have HKw2 := hid (kept_below HKw.out B2)
    cases hfe : (D.fence H.id).2 with
    | false =>
      have hv' := hv hfe
      have hD1 : (D.fence H.id).1 = D := fence_no hfe
      rw [hv', hD1] at HO2
      clear hv hI2 hD1 hv'
      go_upto_region 5 with fail
      try simp only [hw2]
      clear hw2
      refine region_ret (rs := [⟨0, 0, 0, [.agg (hoC H p c).toArray]⟩, ⟨0, 0, 0, [.agg [.slice a1 D.sec.length c1, .slice a2 D.ep.length c2, .slice a3 D.pe.length c3].toArray]⟩, ⟨2, w.heap.size + 1 + 1, 0, [.int .i64 0, .int .i64 0, .bool false, .bool false, .bool false, .int .i64 0, .int .i64 0, .int .i64 0, .int .i64 0, .string ⟨#[]⟩, .int .i64 0, .int .i64 0, .int .i64 0, .string ⟨#[]⟩, .slice none 0 0, .int .i64 0]⟩, ⟨2, w.heap.size + 1 + 1 + 1, 1, [.slice none 0 0, .slice none 0 0, .slice none 0 0]⟩, ⟨0, 0, 0, [.bool false]⟩]) (S := fun _ _ _ => True) true (by kernel_rfl) (by kernel_rfl) rfl ?_ [some 22, some 23, none, none, some 6] (by kernel_rfl) ?_
      · refine rCons (rLoad rfl rfl 41 _ rfl (b := w.heap.size) (by kernel_rfl) (by kernel_rfl) _ HA2.out (fun h => by rcases into_two (x := w.heap.size + 1 + 1) (y := w.heap.size + 1 + 1 + 1) h rfl with h | h <;> omega) Tryz.underlying41 rfl (by kernel_rfl)) ?_
        refine rCons (rLoad rfl rfl 44 _ rfl (b := w.heap.size + 1) (by kernel_rfl) (by kernel_rfl) _ HC2.out (fun h => by rcases into_two (x := w.heap.size + 1 + 1) (y := w.heap.size + 1 + 1 + 1) h rfl with h | h <;> omega) Tryz.underlying44 rfl (by kernel_rfl)) ?_
        refine rCons (rStore rfl rfl 41 _ _ rfl (by kernel_rfl) (by kernel_rfl) HR2.out (by kernel_rfl) (by kernel_rfl) (by kernel_rfl) (fun m b' hm hne => by simp [storesOf] at hm; omega) rfl rfl rfl rfl rfl) ?_
        refine rCons (rStore rfl rfl 44 _ _ rfl (by kernel_rfl) (by kernel_rfl) HQ2.out (by kernel_rfl) (by kernel_rfl) (by kernel_rfl) (fun m b' hm hne => by simp [storesOf] at hm; omega) rfl rfl rfl rfl rfl) ?_
        refine rCons (rFix rfl rfl (fun L v a w' K => by unfold execOp; simp [go_sem, Act.eval])) (rNil _)
      intro L vv w' hL K G
      have e4 : vv 4 = .bool false := (G 4 _ rfl).1 rfl
      have R1 := hid (Go.Proofs.YtlhnkdogafnnpaaGreat.Rg.stored G 2 0 (w.heap.size + 1 + 1) rfl rfl rfl rfl)
      have R2 := hid (Go.Proofs.YtlhnkdogafnnpaaGreat.Rg.stored G 3 1 (w.heap.size + 1 + 1 + 1) rfl rfl rfl rfl)
      simp only [putsAll, Act.put, List.setIfInBounds_toArray, List.set_cons_zero, List.set_cons_succ, e4]
      clear G
      go_wp2
      refine bodyPost_ret (results_cct rfl _ _ (w.heap.size + 1 + 1) (w.heap.size + 1 + 1 + 1) (hoC H p c) [.slice a1 D.sec.length c1, .slice a2 D.ep.length c2, .slice a3 D.pe.length c3] _ _ rfl R1.out Tryz.underlying41 rfl (by kernel_rfl) rfl R2.out Tryz.underlying44 rfl (by kernel_rfl)) rfl ?_
      have K' : Kept (fun b => b = w.heap.size + 1 + 1 ∨ b = w.heap.size + 1 + 1 + 1) w2 w' := K.mono (fun b _ h => into_two h rfl)
      rw [rise_no hup hfe]
      exact ⟨p, c, _, rfl, Wr.move HS2.out K' (fun b hb h => by have := wr_lt HS.out hb; omega), HO2.out.kept K' (fun b hb h => by have := (HO.out.lt hb).2; omega), HX.out, HB2.out.trans (K'.below (Nat.le_trans hB (Nat.le_trans (Nat.le_trans HB.out.size hs1) B2.size)) (fun b hb h => by omega)), kept_more HKw2.out K' (fun b hb h => by omega), fun b h => h, fun b h => .inl h⟩
    | true =>
      have hid3 := fence_yes hfe
      obtain ⟨n, hn⟩ : ∃ n : Nat, H.id = (n : Int) := Int.eq_ofNat_of_zero_le hid3.1
      have hnl : n < (D.fence H.id).1.ep.length := by rw [fence_len]; have := HF.out.h2; have := hid3.2; omega
      obtain ⟨gb, go, rfl, hgb, hcg, _⟩ := hI2 n hnl
      replace hcg : w1.cell? ⟨gb, go + n, none⟩ = some (.int .i64 ((D.fence H.id).1.ep.getD n 0)) := hcg
      have HHn := hid hn
      clear hI2 hn
      generalize he0 : (D.fence H.id).1.ep.getD n 0 = e0 at hcg
      have HE0 := hid he0
      clear he0
      generalize hFD : D.fence H.id = FD at *
      obtain ⟨F, ff⟩ := FD
      have HFD := hid hFD
      clear hFD
      simp only [] at *
      subst hfe
      have hcg2 : w2.cell? ⟨gb, go + n, none⟩ = some (.int .i64 e0) := by rw [cell_block (p := ⟨gb, go + n, none⟩) (B2.block gb (World.block_lt_of_cell? _ _ hcg))]; exact hcg
      have HG := hid hcg2
      clear hcg hcg2 hv
      go_upto_region 6 with fail
      try simp only [hw2]
      clear hw2
      have hgw : gb < w.heap.size ∨ wa.heap.size ≤ gb := by
        have hb : DkB (.agg #[.slice p1 F.sec.length q1, .slice (some ⟨gb, go, none⟩) F.ep.length q2, .slice p3 F.pe.length q3]) gb := by
          obtain ⟨_, _, _, e, _, r2, _⟩ := HO2.out
          cases e
          have := r2.form (by omega)
          obtain ⟨g', c', e'⟩ := this
          cases e'
          exact ⟨_, _, _, rfl, .inr (.inl rfl)⟩
        rcases HFa.out gb hb with h | h
        · exact .inl (hdb gb h)
        · exact .inr h
      have HGk : Hid (∀ w', Kept (fun b => b = w.heap.size + 1 + 1 ∨ b = w.heap.size + 1 + 1 + 1) w2 w' → w'.cell? ⟨gb, go + n, none⟩ = some (.int .i64 e0)) := fun w' k => by
        rw [cell_block (p := ⟨gb, go + n, none⟩) (k.block gb (World.block_lt_of_cell? _ _ HG.out) (fun h => by omega))]
        exact HG.out
      have HIn : Hid (H.id = (n : Int)) := HHn.out
      have HNl : Hid ((n : Int) < (F.ep.length : Int)) := by have := hnl; exact (by omega : (n : Int) < (F.ep.length : Int))
      refine region_ret (rs := [⟨0, 0, 0, [.pointer (some ⟨w.heap.size, 0, none⟩)]⟩, ⟨0, 0, 0, [.int .i64 (n : Int)]⟩, ⟨0, 0, 0, [.pointer (some ⟨w1.heap.size, 1, none⟩)]⟩, ⟨0, 0, 0, [.slice (some ⟨gb, go, none⟩) F.ep.length q2]⟩, ⟨0, 0, 0, [.pointer (some ⟨w.heap.size, 0, none⟩)]⟩, ⟨0, 0, 0, [.int .i64 (n : Int)]⟩, ⟨0, 0, 0, [.pointer (some ⟨gb, go + n, none⟩)]⟩, ⟨0, 0, 0, [.int .i64 e0]⟩, ⟨0, 0, 0, [.pointer (some ⟨w.heap.size, 0, none⟩)]⟩, ⟨0, 0, 0, [.int .i64 (n : Int)]⟩, ⟨0, 0, 0, [opV 12 n 0 0 ⟨#[]⟩]⟩, ⟨0, 0, 0, [.agg (hoC (Ho.risen n e0) none 0).toArray]⟩, ⟨0, 0, 0, [.agg [.slice p1 F.sec.length q1, .slice (some ⟨gb, go, none⟩) F.ep.length q2, .slice p3 F.pe.length q3].toArray]⟩, ⟨2, w.heap.size + 1 + 1, 11, [.int .i64 0, .int .i64 0, .bool false, .bool false, .bool false, .int .i64 0, .int .i64 0, .int .i64 0, .int .i64 0, .string ⟨#[]⟩, .int .i64 0, .int .i64 0, .int .i64 0, .string ⟨#[]⟩, .slice none 0 0, .int .i64 0]⟩, ⟨2, w.heap.size + 1 + 1 + 1, 12, [.slice none 0 0, .slice none 0 0, .slice none 0 0]⟩, ⟨0, 0, 0, [.bool true]⟩]) (S := fun _ _ _ => True) true (by kernel_rfl) (by kernel_rfl) rfl ?_ [some 24, some 25, some 26, some 27, some 28, some 29, some 30, some 31, some 32, some 33, some 34, some 35, some 36, none, none, some 6] (by kernel_rfl) ?_
      · refine rCons (rFix rfl rfl (fun L v a w' K => by have e1 : a.eval (.tmp 2) = .pointer (some ⟨w.heap.size, 0, none⟩) := K.off (x := .tmp 2) (by kernel_rfl); generalize a.eval = ρ at e1 ⊢; unfold execOp; go_simp; first | done | rfl)) ?_
        refine rCons (rFix rfl rfl (fun L v a w' K => by have e1 : a.eval (.tmp 24) = .pointer (some ⟨w.heap.size, 0, none⟩) := K.got 0 (by kernel_rfl) (by kernel_rfl) rfl rfl; have c1 := (HA2.out.kept K.kept (fun h => by rcases into_two (x := w.heap.size + 1 + 1) (y := w.heap.size + 1 + 1 + 1) h rfl with h | h <;> omega)).c 0 (v := .int .i64 (n : Int)) (by rw [← HIn.out]; rfl); generalize a.eval = ρ at e1 ⊢; unfold execOp; go_simp; first | done | rfl)) ?_
        refine rCons (rFix rfl rfl (fun L v a w' K => by have e1 : a.eval (.tmp 7) = .pointer (some ⟨w1.heap.size, 0, none⟩) := K.off (x := .tmp 7) (by kernel_rfl); generalize a.eval = ρ at e1 ⊢; unfold execOp; go_simp; first | done | rfl)) ?_
        refine rCons (rFix rfl rfl (fun L v a w' K => by have e1 : a.eval (.tmp 26) = .pointer (some ⟨w1.heap.size, 1, none⟩) := K.got 2 (by kernel_rfl) (by kernel_rfl) rfl rfl; have c1 := (HN.out.kept K.kept (fun h => by rcases into_two (x := w.heap.size + 1 + 1) (y := w.heap.size + 1 + 1 + 1) h rfl with h | h <;> omega)).c 1 rfl; generalize a.eval = ρ at e1 ⊢; unfold execOp; go_simp; first | done | rfl)) ?_
        refine rCons (rFix rfl rfl (fun L v a w' K => by have e1 : a.eval (.tmp 2) = .pointer (some ⟨w.heap.size, 0, none⟩) := K.off (x := .tmp 2) (by kernel_rfl); generalize a.eval = ρ at e1 ⊢; unfold execOp; go_simp; first | done | rfl)) ?_
        refine rCons (rFix rfl rfl (fun L v a w' K => by have e1 : a.eval (.tmp 28) = .pointer (some ⟨w.heap.size, 0, none⟩) := K.got 4 (by kernel_rfl) (by kernel_rfl) rfl rfl; have c1 := (HA2.out.kept K.kept (fun h => by rcases into_two (x := w.heap.size + 1 + 1) (y := w.heap.size + 1 + 1 + 1) h rfl with h | h <;> omega)).c 0 (v := .int .i64 (n : Int)) (by rw [← HIn.out]; rfl); generalize a.eval = ρ at e1 ⊢; unfold execOp; go_simp; first | done | rfl)) ?_
        refine rCons (rFix rfl rfl (fun L v a w' K => by have e1 : a.eval (.tmp 27) = .slice (some ⟨gb, go, none⟩) F.ep.length q2 := K.got 3 (by kernel_rfl) (by kernel_rfl) rfl rfl; have e2 : a.eval (.tmp 29) = .int .i64 (n : Int) := K.got 5 (by kernel_rfl) (by kernel_rfl) rfl rfl; have n1 := HNl.out; generalize a.eval = ρ at e1 e2 ⊢; unfold execOp; go_simp; first | done | rfl)) ?_
        refine rCons (rFix rfl rfl (fun L v a w' K => by have e1 : a.eval (.tmp 30) = .pointer (some ⟨gb, go + n, none⟩) := K.got 6 (by kernel_rfl) (by kernel_rfl) rfl rfl; have c1 := HGk.out _ (K.kept.mono (fun b _ h => into_two h rfl)); generalize a.eval = ρ at e1 ⊢; unfold execOp; go_simp; first | done | rfl)) ?_
        refine rCons (rFix rfl rfl (fun L v a w' K => by have e1 : a.eval (.tmp 2) = .pointer (some ⟨w.heap.size, 0, none⟩) := K.off (x := .tmp 2) (by kernel_rfl); generalize a.eval = ρ at e1 ⊢; unfold execOp; go_simp; first | done | rfl)) ?_
        refine rCons (rFix rfl rfl (fun L v a w' K => by have e1 : a.eval (.tmp 32) = .pointer (some ⟨w.heap.size, 0, none⟩) := K.got 8 (by kernel_rfl) (by kernel_rfl) rfl rfl; have c1 := (HA2.out.kept K.kept (fun h => by rcases into_two (x := w.heap.size + 1 + 1) (y := w.heap.size + 1 + 1 + 1) h rfl with h | h <;> omega)).c 0 (v := .int .i64 (n : Int)) (by rw [← HIn.out]; rfl); generalize a.eval = ρ at e1 ⊢; unfold execOp; go_simp; first | done | rfl)) ?_
        refine rCons (rFix rfl rfl (fun L v a w' K => by have e1 : a.eval (.tmp 33) = .int .i64 (n : Int) := K.got 9 (by kernel_rfl) (by kernel_rfl) rfl rfl; have ec : ∀ v, a.eval (.const v) = v := fun _ => rfl; generalize a.eval = ρ at e1 ec ⊢; unfold execOp; go_simp; first | done | rfl)) ?_
        refine rCons (rFix rfl rfl (fun L v a w' K => by have e1 : a.eval (.tmp 25) = .int .i64 (n : Int) := K.got 1 (by kernel_rfl) (by kernel_rfl) rfl rfl; have e2 : a.eval (.tmp 31) = .int .i64 e0 := K.got 7 (by kernel_rfl) (by kernel_rfl) rfl rfl; have e3 : a.eval (.tmp 34) = opV 12 n 0 0 ⟨#[]⟩ := K.got 10 (by kernel_rfl) (by kernel_rfl) rfl rfl; have ec : ∀ v, a.eval (.const v) = v := fun _ => rfl; generalize a.eval = ρ at e1 e2 e3 ec ⊢; unfold execOp; go_simp; first | done | rfl)) ?_
        refine rCons (rLoad rfl rfl 44 _ rfl (b := w1.heap.size) (by kernel_rfl) (by kernel_rfl) _ HN.out (fun h => by rcases into_two (x := w.heap.size + 1 + 1) (y := w.heap.size + 1 + 1 + 1) h rfl with h | h <;> omega) Tryz.underlying44 rfl (by kernel_rfl)) ?_
        refine rCons (rStore rfl rfl 41 _ _ rfl (by kernel_rfl) (by kernel_rfl) HR2.out (by kernel_rfl) (by kernel_rfl) (by kernel_rfl) (fun m b' hm hne => by simp [storesOf] at hm; omega) rfl rfl rfl rfl rfl) ?_
        refine rCons (rStore rfl rfl 44 _ _ rfl (by kernel_rfl) (by kernel_rfl) HQ2.out (by kernel_rfl) (by kernel_rfl) (by kernel_rfl) (fun m b' hm hne => by simp [storesOf] at hm; omega) rfl rfl rfl rfl rfl) ?_
        refine rCons (rFix rfl rfl (fun L v a w' K => by unfold execOp; simp [go_sem, Act.eval])) (rNil _)
      intro L vv w' hL K G
      have e4 : vv 15 = .bool true := (G 15 _ rfl).1 rfl
      have R1 := hid (Go.Proofs.YtlhnkdogafnnpaaGreat.Rg.stored G 13 11 (w.heap.size + 1 + 1) (cs := hoC (Ho.risen n e0) none 0) rfl rfl rfl rfl)
      have R2 := hid (Go.Proofs.YtlhnkdogafnnpaaGreat.Rg.stored G 14 12 (w.heap.size + 1 + 1 + 1) (cs := [.slice p1 F.sec.length q1, .slice (some ⟨gb, go, none⟩) F.ep.length q2, .slice p3 F.pe.length q3]) rfl rfl rfl rfl)
      simp only [putsAll, Act.put, List.setIfInBounds_toArray, List.set_cons_zero, List.set_cons_succ, e4]
      clear G
      go_wp2
      refine bodyPost_ret (results_cct rfl _ _ (w.heap.size + 1 + 1) (w.heap.size + 1 + 1 + 1) (hoC (Ho.risen n e0) none 0) [.slice p1 F.sec.length q1, .slice (some ⟨gb, go, none⟩) F.ep.length q2, .slice p3 F.pe.length q3] _ _ rfl R1.out Tryz.underlying41 rfl (by kernel_rfl) rfl R2.out Tryz.underlying44 rfl (by kernel_rfl)) rfl ?_
      have K' : Kept (fun b => b = w.heap.size + 1 + 1 ∨ b = w.heap.size + 1 + 1 + 1) w2 w' := K.mono (fun b _ h => into_two h rfl)
      have hz : riseD H D = (Ho.risen n e0, F, true) := by
        have h1 := rise_on (D := D) hup (by rw [HFD.out])
        rw [HFD.out, HIn.out] at h1
        rw [h1]
        show (Ho.risen n (F.ep.getD (n : Int).toNat 0), F, true) = _
        rw [Int.toNat_natCast, HE0.out]
      rw [hz]
      have hB4 : w.heap.size + 1 + 1 + 1 + 1 ≤ wa.heap.size := by omega
      exact ⟨none, 0, _, rfl, fun i hi => by simp [Ho.risen] at hi, HO2.out.kept K' (fun b hb h => by
        rcases HFa.out b hb with h1 | h1
        · have := hdb b h1; omega
        · omega), fun b hb => by simp [foot] at hb, HB2.out.trans (K'.below (Nat.le_trans hB (Nat.le_trans (Nat.le_trans HB.out.size hs1) B2.size)) (fun b hb h => by omega)), kept_more HKw2.out K' (fun b hb h => by omega), fun b hb => by simp [foot] at hb, fun b hb => by
        rcases HFa.out b hb with h1 | h1
        · exact .inl h1
        · exact .inr (by omega)⟩

end Go.Proofs.YtlhnkdogafnnpaaGreat.Pl

namespace Go.Proofs.YtlhnkdogafnnpaaGreat.Mem
open Go.RowKit
set_option linter.unusedVariables false

theorem Dk.Small.c1 {D : Dk} (h : D.Small 1048576) : D.sec.length ≤ 1048576 := by have := h.h1; omega
theorem Dk.Small.c2 {D : Dk} (h : D.Small 1048576) : D.ep.length ≤ 1048576 := by have := h.h2; omega
theorem Dk.Small.c3 {D : Dk} (h : D.Small 1048576) : D.pe.length ≤ 1048576 := by have := h.h3; omega

end Go.Proofs.YtlhnkdogafnnpaaGreat.Mem

namespace Go.Proofs.YtlhnkdogafnnpaaGreat.Mem
open Go.RowKit
set_option linter.unusedVariables false

def Dk.nil : Dk := ⟨[], [], []⟩

theorem Dk.of_right {D : Dk} (h : D.right = true) : D.Right := by
  obtain ⟨a, b, c, d, e, f, g⟩ := of_decide_eq_true h
  exact ⟨a, b, c, d, e, f, g⟩

theorem Dk.Right.fit {D : Dk} (h : D.Right) : D.Fit := ⟨by have := h.n2; omega, h.e3, by have := h.p40; omega⟩

theorem DkO.mono {w : World} {B B' : Nat} {v : Value} {D : Dk} (h : DkO w B v D) (hb : B' ≤ B) : DkO w B' v D := by
  obtain ⟨v1, v2, v3, e, r1, r2, r3, f1, f2⟩ := h
  exact ⟨v1, v2, v3, e, r1.mono hb, r2.mono hb, r3.mono hb, f1, f2⟩

theorem dkW_nil (w : World) (B : Nat) : DkW w B (.agg #[.slice none 0 0, .slice none 0 0, .slice none 0 0]) Dk.nil :=
  ⟨none, 0, none, 0, none, 0, rfl, fun i hi => by simp [Dk.nil] at hi, fun i hi => by simp [Dk.nil] at hi, fun i hi => by simp [Dk.nil] at hi, fun b hb => by have := hb.1; simp [Dk.nil] at this, fun b hb => by have := hb.1; simp [Dk.nil] at this⟩

/-- A disk without anything is handed back. -/
theorem wrap_bad {w w1 : World} (hB : Below w.heap.size w w1) (R : Row w1 (w.heap.size + 1) [.slice none 0 0, .slice none 0 0, .slice none 0 0]) :
    DkW (((w1.setCell ⟨w.heap.size + 1, 0, none⟩ (.slice none 0 0)).setCell ⟨w.heap.size + 1, 1, none⟩ (.slice none 0 0)).setCell ⟨w.heap.size + 1, 2, none⟩ (.slice none 0 0)) w.heap.size (.agg #[.slice none 0 0, .slice none 0 0, .slice none 0 0]) Dk.nil ∧
    Below w.heap.size w (((w1.setCell ⟨w.heap.size + 1, 0, none⟩ (.slice none 0 0)).setCell ⟨w.heap.size + 1, 1, none⟩ (.slice none 0 0)).setCell ⟨w.heap.size + 1, 2, none⟩ (.slice none 0 0)) ∧
    Row (((w1.setCell ⟨w.heap.size + 1, 0, none⟩ (.slice none 0 0)).setCell ⟨w.heap.size + 1, 1, none⟩ (.slice none 0 0)).setCell ⟨w.heap.size + 1, 2, none⟩ (.slice none 0 0)) (w.heap.size + 1) [.slice none 0 0, .slice none 0 0, .slice none 0 0] :=
  ⟨dkW_nil _ _, below_set (below_set (below_set hB _ _ _ (by omega)) _ _ _ (by omega)) _ _ _ (by omega), ((R.set 0 (.slice none 0 0)).set 1 (.slice none 0 0)).set 2 (.slice none 0 0)⟩

/-- A disk of the call's own is handed back. -/
theorem wrap_end {w w3 wx : World} {B : Nat} {u1 u2 u3 : Value} {E : Dk} (hl : w.heap.size + 1 < B) (hb : Below w.heap.size w w3) (O : DkO w3 B (.agg #[u1, u2, u3]) E) (hx : Below w3.heap.size w3 wx) (R : Row wx (w.heap.size + 1) [.slice none 0 0, .slice none 0 0, .slice none 0 0]) :
    DkW (((wx.setCell ⟨w.heap.size + 1, 0, none⟩ u1).setCell ⟨w.heap.size + 1, 1, none⟩ u2).setCell ⟨w.heap.size + 1, 2, none⟩ u3) w.heap.size (.agg #[u1, u2, u3]) E ∧
    Below w.heap.size w (((wx.setCell ⟨w.heap.size + 1, 0, none⟩ u1).setCell ⟨w.heap.size + 1, 1, none⟩ u2).setCell ⟨w.heap.size + 1, 2, none⟩ u3) ∧
    Row (((wx.setCell ⟨w.heap.size + 1, 0, none⟩ u1).setCell ⟨w.heap.size + 1, 1, none⟩ u2).setCell ⟨w.heap.size + 1, 2, none⟩ u3) (w.heap.size + 1) [u1, u2, u3] := by
  have P := put_end (w := w) (w2 := wx) (B := w.heap.size) R.lt (hb.trans (hx.mono hb.size)) (Nat.le_refl _) ((O.below hx).mono (by omega)) (fun b hB => by have := (O.lt hB).1; omega) R
  exact ⟨P.1.w, P.2.1, P.2.2⟩

end Go.Proofs.YtlhnkdogafnnpaaGreat.Mem

namespace Go.Proofs.YtlhnkdogafnnpaaGreat.Mem
open Go.RowKit Classical
set_option linter.unusedVariables false

/-- What Fence answers. -/
def Dk.fenceA (D : Dk) (x : Int) : Dk × Bool := if D.right = true then D.fence x else (Dk.nil, false)

end Go.Proofs.YtlhnkdogafnnpaaGreat.Mem

namespace Go.Proofs.YtlhnkdogafnnpaaGreat.Mem
open Go.RowKit
set_option linter.unusedVariables false

theorem Wr.setAt {w : World} {B b off o : Nat} {m : Nat} {f : Nat → Value} (h : Wr w B (some ⟨b, off, none⟩) m f) (i : Nat) (hi : i < m) (ho : o = off + i) (v : Value) :
    Wr (w.setCell ⟨b, o, none⟩ v) B (some ⟨b, off, none⟩) m (fun j => if j = i then v else f j) := by subst ho; exact h.set i hi v

/-- The four cells of write k, which may be written, wherever the slice begins. -/
theorem wr_at' {w : World} {B b off : Nat} {m : Nat} {f : Nat → Value} (h : Wr w B (some ⟨b, off, none⟩) m f) (k : Nat) (hk : k * 4 + 4 ≤ m) :
    (∃ v, w.cell? ⟨b, off + k * 4, none⟩ = some v) ∧ (∃ v, w.cell? ⟨b, off + k * 4 + 1, none⟩ = some v) ∧ (∃ v, w.cell? ⟨b, off + k * 4 + 2, none⟩ = some v) ∧ (∃ v, w.cell? ⟨b, off + k * 4 + 3, none⟩ = some v) ∧
    w.frozen? ⟨b, off + k * 4, none⟩ = false ∧ w.frozen? ⟨b, off + k * 4 + 1, none⟩ = false ∧ w.frozen? ⟨b, off + k * 4 + 2, none⟩ = false ∧ w.frozen? ⟨b, off + k * 4 + 3, none⟩ = false := by
  obtain ⟨_, _, e0, _, h0, z0⟩ := h (k * 4) (by omega)
  obtain ⟨_, _, e1, _, h1, z1⟩ := h (k * 4 + 1) (by omega)
  obtain ⟨_, _, e2, _, h2, z2⟩ := h (k * 4 + 2) (by omega)
  obtain ⟨_, _, e3, _, h3, z3⟩ := h (k * 4 + 3) (by omega)
  cases e0; cases e1; cases e2; cases e3
  rw [← Nat.add_assoc] at h1 h2 h3 z1 z2 z3
  exact ⟨⟨_, h0⟩, ⟨_, h1⟩, ⟨_, h2⟩, ⟨_, h3⟩, z0, z1, z2, z3⟩

/-- Cell i of a list of writes that was marked from k on. -/
def mw (k i : Nat) : Value := if i % 4 = 3 then .string (markS (k + i)) else .int .i64 ((k + i : Nat) : Int)
def msW (f : Nat → Value) (k j : Nat) (i : Nat) : Value := if i < j * 4 then mw k i else f i

theorem msW_succ (f : Nat → Value) (k j : Nat) (i : Nat) :
    (if i = j * 4 + 3 then Value.string (markS (k + (j * 4 + 3))) else if i = j * 4 + 2 then Value.int .i64 ((k + (j * 4 + 2) : Nat) : Int) else if i = j * 4 + 1 then Value.int .i64 ((k + (j * 4 + 1) : Nat) : Int) else if i = j * 4 then Value.int .i64 ((k + j * 4 : Nat) : Int) else msW f k j i) = msW f k (j + 1) i := by
  unfold msW mw
  by_cases h3 : i = j * 4 + 3
  · subst h3; rw [if_pos rfl, if_pos (by omega), if_pos (by omega)]
  by_cases h2 : i = j * 4 + 2
  · subst h2; rw [if_neg h3, if_pos rfl, if_pos (by omega), if_neg (by omega)]
  by_cases h1 : i = j * 4 + 1
  · subst h1; rw [if_neg h3, if_neg h2, if_pos rfl, if_pos (by omega), if_neg (by omega)]
  by_cases h0 : i = j * 4
  · subst h0; rw [if_neg h3, if_neg h2, if_neg h1, if_pos rfl, if_pos (by omega), if_neg (by omega)]
  rw [if_neg h3, if_neg h2, if_neg h1, if_neg h0]
  by_cases h : i < j * 4
  · rw [if_pos h, if_pos (show i < (j + 1) * 4 by omega)]
  · rw [if_neg h, if_neg (show ¬ i < (j + 1) * 4 by omega)]

set_option maxRecDepth 100000 in
set_option maxHeartbeats 1000000 in
theorem markWriteS (w : World) (B : Nat) (a : Option Addr) (n cap k : Nat) (f : Nat → Value) (S : Wr w B a (n * 4) f) (hk : 0 < k) (hb : k + n * 4 ≤ 4611686018427387904) :
    Calls Tryz.prog 45 #[.slice a n cap, .int .i64 (k : Int)] w fun e w' => e = .returned (.int .i64 ((k + n * 4 : Nat) : Int)) ∧ Wr w' B a (n * 4) (mw k) ∧ Kept (foot a (n * 4)) w w' := by
  have HS := hid S
  clear S
  go_enter Tryz.func45, Tryz.ntmps45
  go_wp2
  go_loopw [1, 5] (fun x i wr => ∃ j : Nat, j ≤ n ∧ i = .int .i64 (j : Int) ∧ x = .int .i64 ((k + j * 4 : Nat) : Int) ∧ Hid (Wr wr B a (n * 4) (msW f k j)) ∧ Hid (Kept (foot a (n * 4)) w wr)) (fun _ i _ => n - (intOf i).toNat)
  case atStart => exact ⟨0, Nat.zero_le _, rfl, rfl, HS.out.congr (fun i _ => by simp [msW]), Kept.refl _ _⟩
  case round =>
    obtain ⟨j, hj, rfl, rfl, HW, HK⟩ := hrel
    by_cases hlt : j < n
    · obtain ⟨b, off, rfl, hB, _, _⟩ := HW.out (j * 4) (by omega)
      obtain ⟨⟨u0, d0⟩, ⟨u1, d1⟩, ⟨u2, d2⟩, ⟨u3, d3⟩, z0, z1, z2, z3⟩ := wr_at' HW.out j (by omega)
      go_wp2_with fail
      have ek : ((k : Int) + (j : Int) * 4 + 1 + 1 + 1) = ((k + (j * 4 + 3) : Nat) : Int) := by omega
      have q0 := HW.out.setAt (o := off + j * 4) (j * 4) (by omega) rfl (.int .i64 ((k : Int) + (j : Int) * 4))
      have q1 := q0.setAt (o := off + j * 4 + 1) (j * 4 + 1) (by omega) (by omega) (.int .i64 ((k : Int) + (j : Int) * 4 + 1))
      have q2 := q1.setAt (o := off + j * 4 + 2) (j * 4 + 2) (by omega) (by omega) (.int .i64 ((k : Int) + (j : Int) * 4 + 1 + 1))
      have p2 := HK.out.trans (((kept_set wr b (off + j * 4) (.int .i64 ((k : Int) + (j : Int) * 4))).trans (kept_set _ b (off + j * 4 + 1) (.int .i64 ((k : Int) + (j : Int) * 4 + 1)))).trans (kept_set _ b (off + j * 4 + 2) (.int .i64 ((k : Int) + (j : Int) * 4 + 1 + 1))))
      generalize ((wr.setCell ⟨b, off + j * 4, none⟩ (.int .i64 ((k : Int) + (j : Int) * 4))).setCell ⟨b, off + j * 4 + 1, none⟩ (.int .i64 ((k : Int) + (j : Int) * 4 + 1))).setCell ⟨b, off + j * 4 + 2, none⟩ (.int .i64 ((k : Int) + (j : Int) * 4 + 1 + 1)) = w0 at *
      rw [ek]
      clear q0 q1 d0 d1 d2 d3 z0 z1 z2 z3
      refine (markText (k + (j * 4 + 3)) w0 (by omega) (by omega)).mono ?_
      rintro e w1 ⟨rfl, b1⟩
      have HW1 := hid (q2.below b1)
      have HK1 := hid (p2.trans (Kept.of_below (S := fun _ => False) b1))
      obtain ⟨_, _, _, ⟨u3, d3⟩, _, _, _, z3⟩ := wr_at' HW1.out j (by omega)
      clear b1 q2 p2
      go_wp2
      refine ⟨⟨j + 1, by omega, by go_num, ?_, ?_, ?_⟩, by simp [intOf]; omega⟩
      · congr 1; omega
      · refine (HW1.out.setAt (o := off + j * 4 + 3) (j * 4 + 3) (by omega) (by omega) (.string (markS (k + (j * 4 + 3))))).congr (fun i _ => ?_)
        rw [← msW_succ, show ((k + (j * 4 + 2) : Nat) : Int) = (k : Int) + (j : Int) * 4 + 1 + 1 by omega, show ((k + (j * 4 + 1) : Nat) : Int) = (k : Int) + (j : Int) * 4 + 1 by omega, show ((k + j * 4 : Nat) : Int) = (k : Int) + (j : Int) * 4 by omega]
      · exact (HK1.out.trans (kept_set w1 b (off + j * 4 + 3) _)).mono (fun b2 _ h => by
          rcases h with ((h | ((h | h) | h)) | h) | h
          · exact h
          · subst h; exact ⟨by omega, off, rfl⟩
          · subst h; exact ⟨by omega, off, rfl⟩
          · subst h; exact ⟨by omega, off, rfl⟩
          · exact h.elim
          · subst h; exact ⟨by omega, off, rfl⟩)
    · obtain rfl : j = n := by omega
      go_wp2
      go_ret
      exact ⟨rfl, HW.out.congr (fun i hi => by simp [msW, hi]), HK.out⟩

set_option maxRecDepth 100000 in
set_option maxHeartbeats 2000000 in
theorem heldWriteS (w : World) (a : Option Addr) (n cap k : Nat) (S : Sl w a (n * 4) (mw k)) (hk : 0 < k) (hb : k + n * 4 ≤ 4611686018427387904) :
    Calls Tryz.prog 49 #[.slice a n cap, .int .i64 (k : Int)] w fun e w' => e = .returned (.int .i64 ((k + n * 4 : Nat) : Int)) ∧ Below w.heap.size w w' := by
  have HS := hid S
  clear S
  go_enter Tryz.func49, Tryz.ntmps49
  go_wp2
  go_loopw [1, 5] (fun x i wr => ∃ j : Nat, j ≤ n ∧ i = .int .i64 (j : Int) ∧ x = .int .i64 ((k + j * 4 : Nat) : Int) ∧ Hid (Below w.heap.size w wr)) (fun _ i _ => n - (intOf i).toNat)
  case atStart => exact ⟨0, Nat.zero_le _, rfl, rfl, Below.refl _ _⟩
  case round =>
    obtain ⟨j, hj, rfl, rfl, HB⟩ := hrel
    by_cases hlt : j < n
    · obtain ⟨b, off, rfl, c0⟩ := (HS.out.below HB.out) (j * 4) (by omega)
      obtain ⟨_, _, e1, c1⟩ := (HS.out.below HB.out) (j * 4 + 1) (by omega)
      obtain ⟨_, _, e2, c2⟩ := (HS.out.below HB.out) (j * 4 + 2) (by omega)
      obtain ⟨_, _, e3, c3⟩ := (HS.out.below HB.out) (j * 4 + 3) (by omega)
      cases e1; cases e2; cases e3
      replace c0 : wr.cell? ⟨b, off + j * 4, none⟩ = some (.int .i64 ((k : Int) + (j : Int) * 4)) := by
        rw [c0]; unfold mw; rw [if_neg (by omega)]; congr 2
      replace c1 : wr.cell? ⟨b, off + j * 4 + 1, none⟩ = some (.int .i64 ((k : Int) + (j : Int) * 4 + 1)) := by
        rw [Nat.add_assoc, c1]; unfold mw; rw [if_neg (by omega)]; congr 2
      replace c2 : wr.cell? ⟨b, off + j * 4 + 2, none⟩ = some (.int .i64 ((k : Int) + (j : Int) * 4 + 1 + 1)) := by
        rw [Nat.add_assoc, c2]; unfold mw; rw [if_neg (by omega)]; congr 2
      replace c3 : wr.cell? ⟨b, off + j * 4 + 3, none⟩ = some (.string (markS (k + (j * 4 + 3)))) := by
        rw [Nat.add_assoc, c3]; unfold mw; rw [if_pos (by omega)]
      have hlb := World.block_lt_of_cell? wr _ c3
      have he' : ((markS (k + (j * 4 + 3))).toList == (markS (k + (j * 4 + 3))).toList) = true := Own.eqS_yes rfl
      have ek : ((k : Int) + (j : Int) * 4 + 1 + 1 + 1) = ((k + (j * 4 + 3) : Nat) : Int) := by omega
      have HT : Hid (∀ wx, Calls Tryz.prog 72 #[.int .i64 ((k : Int) + (j : Int) * 4 + 1 + 1 + 1)] wx fun e w' => e = .returned (.string (markS (k + (j * 4 + 3)))) ∧ Below wx.heap.size wx w') := fun wx => by
        rw [ek]; exact markText (k + (j * 4 + 3)) wx (by omega) (by omega)
      clear ek
      go_wp2
      go_region_with (go_at_call 72; refine (HT.out _).mono ?_; rintro e w1 ⟨rfl, b1'⟩; have b1 := undrew b1'; have hc1 := (b1.cell (p := ⟨b, off + j * 4 + 3, none⟩) hlb).trans c3)
      all_goals (have HB1 := hid (HB.out.trans (b1.mono HB.out.size)); clear b1 b1' c0 c1 c2 c3 hc1; go_wp2)
      all_goals exact ⟨⟨j + 1, by omega, by go_num, by congr 1; omega, HB1⟩, by simp [intOf]; omega⟩
    · obtain rfl : j = n := by omega
      go_wp2
      go_ret
      exact ⟨rfl, HB.out⟩

/-- The blocks that a disk's three lists take. -/
def DkFoot (v : Value) (b : Nat) : Prop := ∃ a1 n1 c1 a2 n2 c2 a3 n3 c3, v = .agg #[.slice a1 n1 c1, .slice a2 n2 c2, .slice a3 n3 c3] ∧ (foot a1 n1 b ∨ foot a2 n2 b ∨ foot a3 (n3 * 4) b)

theorem DkR.kept {S : Nat → Prop} {w w' : World} {v : Value} {D : Dk} (h : DkR w v D) (k : Kept S w w') (hn : ∀ b, DkFoot v b → ¬ S b) : DkR w' v D := by
  obtain ⟨a1, c1, a2, c2, a3, c3, rfl, s1, s2, s3⟩ := h
  exact ⟨a1, c1, a2, c2, a3, c3, rfl, Sl.move s1 k (fun b hb => hn b ⟨_, _, _, _, _, _, _, _, _, rfl, Or.inl hb⟩), Sl.move s2 k (fun b hb => hn b ⟨_, _, _, _, _, _, _, _, _, rfl, Or.inr (Or.inl hb)⟩), Sl.move s3 k (fun b hb => hn b ⟨_, _, _, _, _, _, _, _, _, rfl, Or.inr (Or.inr hb)⟩)⟩

theorem DkR.foot_lt {w : World} {v : Value} {D : Dk} (h : DkR w v D) {b : Nat} (hb : DkFoot v b) : b < w.heap.size := by
  obtain ⟨a1, c1, a2, c2, a3, c3, rfl, s1, s2, s3⟩ := h
  obtain ⟨_, _, _, _, _, _, _, _, _, e, hf⟩ := hb
  cases e
  rcases hf with hf | hf | hf
  · exact Sl.lt s1 hf
  · exact Sl.lt s2 hf
  · exact Sl.lt s3 hf

theorem DkW.foot_ge {w : World} {B : Nat} {v : Value} {D : Dk} (h : DkW w B v D) {b : Nat} (hb : DkFoot v b) : B ≤ b := by
  obtain ⟨a1, c1, a2, c2, a3, c3, rfl, s1, s2, s3, _, _⟩ := h
  obtain ⟨_, _, _, _, _, _, _, _, _, e, hf⟩ := hb
  cases e
  rcases hf with hf | hf | hf
  · exact Wr.foot_ge s1 hf
  · exact Wr.foot_ge s2 hf
  · exact Wr.foot_ge s3 hf

/-- v is a disk of such lengths that was marked from k on. -/
def Marked (w : World) (v : Value) (n1 n2 n3 k : Nat) : Prop := ∃ a1 c1 a2 c2 a3 c3, v = .agg #[.slice a1 n1 c1, .slice a2 n2 c2, .slice a3 n3 c3] ∧
  Sl w a1 n1 (fun i => .string (markS (k + i))) ∧ Sl w a2 n2 (fun i => .int .i64 ((k + n1 + i : Nat) : Int)) ∧ Sl w a3 (n3 * 4) (mw (k + n1 + n2))

theorem Marked.below {w w' : World} {v : Value} {n1 n2 n3 k : Nat} (h : Marked w v n1 n2 n3 k) (b : Below w.heap.size w w') : Marked w' v n1 n2 n3 k := by
  obtain ⟨a1, c1, a2, c2, a3, c3, e, s1, s2, s3⟩ := h
  exact ⟨a1, c1, a2, c2, a3, c3, e, s1.below b, s2.below b, s3.below b⟩

set_option maxRecDepth 100000 in
set_option maxHeartbeats 1000000 in
theorem markDisk (w : World) (B : Nat) (v : Value) (D : Dk) (k : Nat) (h : DkW w B v D) (hk : 0 < k) (hb : k + D.sec.length + D.ep.length + D.pe.length * 4 ≤ 4611686018427387904) :
    Calls Tryz.prog 13 #[v, .int .i64 (k : Int)] w fun e w' => e = .returned (.int .i64 ((k + D.sec.length + D.ep.length + D.pe.length * 4 : Nat) : Int)) ∧ Marked w' v D.sec.length D.ep.length D.pe.length k ∧ Kept (DkFoot v) w w' := by
  obtain ⟨a1, c1, a2, c2, a3, c3, rfl, s1, s2, s3, f1, f2⟩ := h
  have HS1 := hid s1
  have HS2 := hid s2
  have HS3 := hid s3
  have HF1 := hid f1
  have HF2 := hid f2
  clear s1 s2 s3 f1 f2
  generalize hn1 : D.sec.length = n1 at *
  generalize hn2 : D.ep.length = n2 at *
  generalize hn3 : D.pe.length = n3 at *
  have T1 : Hid (Wr w B a1 n1 (fun i => .string (D.sec.getD i ByteArray.empty))) := by have := HS1.out; unfold StrsW at this; rw [hn1] at this; exact this
  have T2 : Hid (Wr w B a2 n2 (fun i => .int .i64 (D.ep.getD i 0))) := by have := HS2.out; unfold IntsW at this; rw [hn2] at this; exact this
  have T3 : Hid (Wr w B a3 (n3 * 4) (wcell D.pe)) := by have := HS3.out; unfold WtsW at this; rw [hn3] at this; exact this
  clear HS1 HS2 HS3 hn1 hn2 hn3
  go_enter Tryz.func13, Tryz.ntmps13
  go_wp2_with fail
  obtain ⟨wb, hwb, ez, A0, B0⟩ := one_new w [.slice a1 n1 c1, .slice a2 n2 c2, .slice a3 n3 c3] 44
  simp only [hwb]
  clear hwb
  have K0 : Kept (fun _ => False) w wb := Kept.of_below B0
  have l1 := fun b hb => T1.out.sl.lt (b := b) hb
  have l2 := fun b hb => T2.out.sl.lt (b := b) hb
  have l3 := fun b hb => T3.out.sl.lt (b := b) hb
  have HL1 := hid l1
  have HL2 := hid l2
  have HL3 := hid l3
  clear l1 l2 l3
  refine (markStringS wb B a1 n1 c1 k _ (T1.out.below B0) hk (by omega)).mono ?_
  rintro e w1 ⟨rfl, m1, k1⟩
  have A1 := A0.kept k1 (fun hf => by have := HL1.out _ hf; omega)
  have W2 := (T2.out.below B0).move k1 (fun b hb hf => (HF1.out b hf).1 hb)
  have W3 := (T3.out.below B0).move k1 (fun b hb hf => (HF1.out b hf).2 hb)
  have KK := K0.trans k1
  have HA := hid A1
  have HW2 := hid W2
  have HW3 := hid W3
  have HM1 := hid m1
  have HK := hid KK
  have ca := A1.c 1 rfl
  clear A0 A1 B0 K0 W2 W3 m1 k1 KK T1 T2 T3
  go_wp2_with fail
  refine (markIntS w1 B a2 n2 c2 (k + n1) _ HW2.out (by omega)).mono ?_
  rintro e w2 ⟨rfl, m2, k2⟩
  have A1 := HA.out.kept k2 (fun hf => by have := HL2.out _ hf; omega)
  have M1 := HM1.out.move k2 (fun b hb hf => (HF1.out b hb).1 hf)
  have W3 := HW3.out.move k2 (fun b hb hf => HF2.out b hf hb)
  have KK := HK.out.trans k2
  have HM1' := hid M1
  have HM2 := hid m2
  have HW3' := hid W3
  have HK2 := hid KK
  replace ca := A1.c 2 rfl
  clear A1 M1 m2 W3 KK k2 HA HM1 HW2 HW3 HK
  go_wp2_with fail
  refine (markWriteS w2 B a3 n3 c3 (k + n1 + n2) _ HW3'.out (by omega) (by omega)).mono ?_
  rintro e w3 ⟨rfl, m3, k3⟩
  have M1 := HM1'.out.move k3 (fun b hb hf => (HF1.out b hb).2 hf)
  have M2 := HM2.out.move k3 (fun b hb hf => HF2.out b hb hf)
  have HM : Hid (Marked w3 (.agg #[.slice a1 n1 c1, .slice a2 n2 c2, .slice a3 n3 c3]) n1 n2 n3 k) := ⟨a1, c1, a2, c2, a3, c3, rfl, M1.sl, M2.sl, m3.sl⟩
  have HK3 := hid ((HK2.out.trans k3).mono (T := DkFoot (.agg #[.slice a1 n1 c1, .slice a2 n2 c2, .slice a3 n3 c3])) (fun b _ h => by
    rcases h with ((h | h) | h) | h
    · exact h.elim
    · exact ⟨_, _, _, _, _, _, _, _, _, rfl, Or.inl h⟩
    · exact ⟨_, _, _, _, _, _, _, _, _, rfl, Or.inr (Or.inl h)⟩
    · exact ⟨_, _, _, _, _, _, _, _, _, rfl, Or.inr (Or.inr h)⟩))
  clear M1 M2 m3 k3 ca
  go_wp2
  go_ret
  exact ⟨rfl, HM.out, HK3.out⟩

set_option maxRecDepth 100000 in
set_option maxHeartbeats 1000000 in
theorem heldDisk (w : World) (v : Value) (n1 n2 n3 k : Nat) (h : Marked w v n1 n2 n3 k) (hk : 0 < k) (hb : k + n1 + n2 + n3 * 4 ≤ 4611686018427387904) :
    Calls Tryz.prog 15 #[v, .int .i64 (k : Int)] w fun e w' => e = .returned (.int .i64 ((k + n1 + n2 + n3 * 4 : Nat) : Int)) ∧ Below w.heap.size w w' := by
  obtain ⟨a1, c1, a2, c2, a3, c3, rfl, s1, s2, s3⟩ := h
  have HS1 := hid s1
  have HS2 := hid s2
  have HS3 := hid s3
  clear s1 s2 s3
  go_enter Tryz.func15, Tryz.ntmps15
  go_wp2_with fail
  obtain ⟨wb, hwb, ez, A0, B0⟩ := one_new w [.slice a1 n1 c1, .slice a2 n2 c2, .slice a3 n3 c3] 44
  simp only [hwb]
  clear hwb
  refine (heldStringS wb a1 n1 c1 k (HS1.out.below B0) hk (by omega)).mono ?_
  rintro e w1 ⟨rfl, b1⟩
  have HA := hid (A0.below b1 A0.lt)
  have HB := hid (B0.trans (b1.mono B0.size))
  have ca := HA.out.c 1 rfl
  have hn : ¬ ((k + n1 : Nat) : Int) < 0 := by omega
  clear A0 B0 b1
  go_wp2_with fail
  refine (heldIntS w1 a2 n2 c2 (k + n1) (HS2.out.below HB.out) (by omega)).mono ?_
  rintro e w2 ⟨rfl, b2⟩
  have HA2 := hid (HA.out.below b2 HA.out.lt)
  have HB2 := hid (HB.out.trans (b2.mono HB.out.size))
  replace ca := HA2.out.c 2 rfl
  have hn2 : ¬ ((k + n1 + n2 : Nat) : Int) < 0 := by omega
  clear b2 HA HB
  go_wp2_with fail
  refine (heldWriteS w2 a3 n3 c3 (k + n1 + n2) (HS3.out.below HB2.out) (by omega) (by omega)).mono ?_
  rintro e w3 ⟨rfl, b3⟩
  have HB3 := hid (HB2.out.trans (b3.mono HB2.out.size))
  have hn3 : ¬ ((k + n1 + n2 + n3 * 4 : Nat) : Int) < 0 := by omega
  clear b3 HA2 HB2 ca
  go_wp2
  go_ret
  exact ⟨rfl, HB3.out⟩

end Go.Proofs.YtlhnkdogafnnpaaGreat.Mem

namespace Go.Proofs.YtlhnkdogafnnpaaGreat.Rg
open Go.RowKit Go.Proofs.YtlhnkdogafnnpaaGreat.Mem Go.Proofs.YtlhnkdogafnnpaaGreat.Pl
set_option linter.unusedVariables false

section
variable {P : Program} {ops : Array Oper} {a0 : Act} {w0 : World} {rs : List Role} {f : Nat} {S : Nat → (Nat → Value) → World → Prop} {FS : Nat → (Nat → Value) → Nat → Prop} {RF : Value → World → Prop} {Ft : Value → Nat → Prop} {need : List Nat} {av : (Nat → Value) → Array Value}

theorem aNil (i : Nat) : AsksAll P ops a0 w0 rs f S FS RF Ft need av i [] := trivial
theorem aCons {i : Nat} {r : Role} {l : List Role} (h : Asks P ops a0 w0 rs f S FS RF Ft need av i r) (t : AsksAll P ops a0 w0 rs f S FS RF Ft need av (i + 1) l) : AsksAll P ops a0 w0 rs f S FS RF Ft need av i (r :: l) := ⟨h, t⟩

theorem aLoad {i a' b' b : Nat} {cs : List Value} {o : Oper} (ho : ops[i]? = some o) (hg : o.guard = none) (ty : TypeId) (x : Operand) (p : o.op = .load ty x) (hx : a0.eval x = .pointer (some ⟨b, 0, none⟩)) (hoff : offAll ops x = true) (d : TypeDesc) (hr : Row w0 b cs)
    (hu : P.underlying ty = some d) (hd : d.isRow = true) (hi : (P.info? ty).map (·.size) = some cs.length) : Asks P ops a0 w0 rs f S FS RF Ft need av i ⟨0, a', b', cs⟩ :=
  ⟨o, ho, hg, ty, x, b, d, p, hx, hoff, hr, hu, hd, hi⟩

/-- An argument laid anew. -/
theorem aConv {i j b' : Nat} {cs : List Value} {o : Oper} (ho : ops[i]? = some o) (hg : o.guard = none) (c : FuncId) (t : Tmp) (ts : Array TypeId) (p : o.op = .call { callee := .value (.func c), args := #[.tmp t], argTypes := ts }) (hd : dstOf ops j = some t) (hre : reach ops ops.size i j = true)
    {r' : Role} (hj : rs[j]? = some r') (h0 : r'.k = 0) (hcs : r'.cs = cs) (hc : ∀ vs w, (callFunc c vs).run P w = .ok (.enter c vs) w) (hfr : reach ops ops.size f i = true)
    (hst : ∀ v w' w'', S i v w' → Below w'.heap.size w' w'' → S i v w'') (hcg : ∀ v v', (∀ j, j = i ∨ reach ops ops.size i j = true → v j = v' j) → (∀ w', S i v w' → S i v' w') ∧ ∀ b, FS i v' b → FS i v b)
    (hcon : ∀ v w', Below w0.heap.size w0 w' → (∀ j rj, reach ops ops.size i j = true → rs[j]? = some rj → (rj.k = 0 → v j = .agg rj.cs.toArray) ∧ (rj.k = 1 → S j v w')) → Calls P c #[.agg cs.toArray] w' fun e w'' => ∃ V, e = .returned V ∧ S i (updv v i V) w'' ∧ (∀ b, FS i (updv v i V) b → w'.heap.size ≤ b ∧ b < w''.heap.size) ∧ Below w'.heap.size w' w'') :
    Asks P ops a0 w0 rs f S FS RF Ft need av i ⟨1, j, b', cs⟩ :=
  ⟨o, ho, hg, c, t, ts, p, hd, hre, ⟨r', hj, h0, hcs⟩, hc, hfr, hst, hcg, hcon⟩

/-- The call. -/
theorem aFn {a' b' : Nat} {cs : List Value} {o : Oper} (ho : ops[f]? = some o) (hg : o.guard = none) (c : FuncId) (ys : Array Operand) (ts : Array TypeId) (p : o.op = .call { callee := .value (.func c), args := ys, argTypes := ts }) (hc : ∀ vs w, (callFunc c vs).run P w = .ok (.enter c vs) w)
    (hav : ∀ L v a, At ops a0 L v a → (∀ j, j ∈ need → L j = true) → ys.map a.eval = av v) (hneed : (need.all fun j => reach ops ops.size f j) = true)
    (hst : ∀ V w' w'' (T : Nat → Prop), RF V w' → Kept T w' w'' → (∀ b, Ft V b → ¬ T b) → RF V w'')
    (hcon : ∀ v w', Below w0.heap.size w0 w' → (∀ j rj, j ∈ need → rs[j]? = some rj → (rj.k = 0 → v j = .agg rj.cs.toArray) ∧ (rj.k = 1 → S j v w')) →
        Calls P c (av v) w' fun e w'' => ∃ V, e = .returned V ∧ RF V w'' ∧ (∀ b, Ft V b → (w'.heap.size ≤ b ∧ b < w''.heap.size) ∨ ∃ j rj, j ∈ need ∧ rs[j]? = some rj ∧ rj.k = 1 ∧ FS j v b) ∧ Kept (fun b => ∃ j rj, j ∈ need ∧ rs[j]? = some rj ∧ rj.k = 1 ∧ FS j v b) w' w'') :
    Asks P ops a0 w0 rs f S FS RF Ft need av f ⟨2, a', b', cs⟩ :=
  ⟨o, ho, hg, rfl, c, ys, ts, p, hc, hav, fun j hj => List.all_eq_true.1 hneed j hj, hst, hcon⟩

theorem aMove {i a' b' : Nat} {cs : List Value} {o : Oper} (ho : ops[i]? = some o) (hg : o.guard = none) (t : Tmp) (p : o.op = .move (.tmp t)) (hd : dstOf ops f = some t) (hre : reach ops ops.size i f = true) {rf : Role} (hf : rs[f]? = some rf) (h2 : rf.k = 2) : Asks P ops a0 w0 rs f S FS RF Ft need av i ⟨3, a', b', cs⟩ :=
  ⟨o, ho, hg, t, p, hd, hre, rf, hf, h2⟩

theorem aExt {i m k : Nat} {cs : List Value} {o : Oper} (ho : ops[i]? = some o) (hg : o.guard = none) (t : Tmp) (p : o.op = .extract (.tmp t) k) (hd : dstOf ops m = some t) (hre : reach ops ops.size i m = true) (hre' : reach ops ops.size i f = true) {rf rm : Role} (hf : rs[f]? = some rf) (h2 : rf.k = 2) (hm : rs[m]? = some rm) (h3 : rm.k = 3)
    (hv : ∀ V w, RF V w → ∃ a x, V = .tuple a ∧ a[k]? = some x) : Asks P ops a0 w0 rs f S FS RF Ft need av i ⟨4, m, k, cs⟩ :=
  ⟨o, ho, hg, t, p, hd, hre, hre', ⟨rf, hf, h2⟩, .inr ⟨rm, hm, h3⟩, hv⟩

theorem aBox {i a' s : Nat} {zs : List Value} {o : Oper} (ho : ops[i]? = some o) (hg : o.guard = none) (ty : TypeId) (hal : ∀ (ρ : Operand → Value) w, (execOp ρ o).run P w = .ok (.value (.pointer (some ⟨w.heap.size, 0, none⟩))) (w.alloc (.cells zs.toArray ty))) {r' : Role} (hs : rs[s]? = some r') (h6 : r'.k = 6) (hi : r'.i = i) : Asks P ops a0 w0 rs f S FS RF Ft need av i ⟨5, a', s, zs⟩ :=
  ⟨o, ho, hg, ⟨ty, hal⟩, r', hs, h6, hi⟩

/-- A part of the answer is put into its box. -/
theorem aSto {i g j : Nat} {cs : List Value} {o : Oper} (ho : ops[i]? = some o) (hg : o.guard = none) (ty : TypeId) (tx y : Tmp) (p : o.op = .store ty (.tmp tx) (.tmp y)) (hd1 : dstOf ops g = some tx) (hd2 : dstOf ops j = some y) (hr1 : reach ops ops.size i g = true) (hr2 : reach ops ops.size i j = true) (hr3 : reach ops ops.size i f = true)
    {rf rb rj : Role} (hf : rs[f]? = some rf) (h2 : rf.k = 2) (hb : rs[g]? = some rb) (h5 : rb.k = 5) (hbj : rb.j = i) (hi : (P.info? ty).map (·.size) = some rb.cs.length) (hj : rs[j]? = some rj) (h4 : rj.k = 4)
    (hv : ∀ V w a x, RF V w → V = .tuple a → a[rj.j]? = some x → ∃ cs, x = .agg (List.toArray cs) ∧ cs.length = rb.cs.length ∧ cs.all (·.oneCell') = true) : Asks P ops a0 w0 rs f S FS RF Ft need av i ⟨6, g, j, cs⟩ :=
  ⟨o, ho, hg, ty, tx, y, p, hd1, hd2, hr1, hr2, .inr hr3, ⟨rf, hf, h2⟩, rb, hb, h5, hbj, hi, rj, hj, .inl ⟨h4, hv⟩⟩

/-- The answer itself is put into its box. -/
theorem aStoF {i g : Nat} {cs : List Value} {o : Oper} (ho : ops[i]? = some o) (hg : o.guard = none) (ty : TypeId) (tx y : Tmp) (p : o.op = .store ty (.tmp tx) (.tmp y)) (hd1 : dstOf ops g = some tx) (hd2 : dstOf ops f = some y) (hr1 : reach ops ops.size i g = true) (hr2 : reach ops ops.size i f = true)
    {rf rb : Role} (hf : rs[f]? = some rf) (h2 : rf.k = 2) (hb : rs[g]? = some rb) (h5 : rb.k = 5) (hbj : rb.j = i) (hi : (P.info? ty).map (·.size) = some rb.cs.length)
    (hv : ∀ V w, RF V w → ∃ cs, V = .agg (List.toArray cs) ∧ cs.length = rb.cs.length ∧ cs.all (·.oneCell') = true) : Asks P ops a0 w0 rs f S FS RF Ft need av i ⟨6, g, f, cs⟩ :=
  ⟨o, ho, hg, ty, tx, y, p, hd1, hd2, hr1, hr2, .inl rfl, ⟨rf, hf, h2⟩, rb, hb, h5, hbj, hi, rf, hf, .inr ⟨rfl, hv⟩⟩

theorem aAsg {i j b' : Nat} {cs : List Value} {o : Oper} (ho : ops[i]? = some o) (hg : o.guard = none) (t : Tmp) (p : o.op = .assign (.tmp t)) (hd : dstOf ops j = some t) (hre : reach ops ops.size i j = true) : Asks P ops a0 w0 rs f S FS RF Ft need av i ⟨7, j, b', cs⟩ :=
  ⟨o, ho, hg, t, p, hd, hre⟩

/-- A box at the end. -/
theorem boxed {L : Nat → Bool} {v : Nat → Value} {w : World} (hL : ∀ i, i < rs.length → L i = true) (hG : ∀ i r, rs[i]? = some r → Has w0 rs f S FS RF Ft L v w i r) (s g j : Nat) {rs' rb rf : Role} (hs : rs[s]? = some rs') (h6 : rs'.k = 6) (hi : rs'.i = g) (hj : rs'.j = j) (hb : rs[g]? = some rb) (h5 : rb.k = 5) (hf : rs[f]? = some rf) (h2 : rf.k = 2) :
    ∃ gb cs, v g = .pointer (some ⟨gb, 0, none⟩) ∧ v j = .agg (List.toArray cs) ∧ Row w gb cs ∧ w0.heap.size ≤ gb ∧ (∀ b, Ft (v f) b → b ≠ gb) := by
  subst hi
  subst hj
  obtain ⟨gb, cs, c1, c2, c3⟩ := (hG s _ hs).2.2.2.2.2.2.1 h6
  obtain ⟨gb', d1, d2, d3, d4, d5⟩ := (hG _ _ hb).2.2.2.2.2.1 h5
  rw [c1] at d1
  cases d1
  refine ⟨gb, cs, c1, c2, c3, d2, fun b hF e => ?_⟩
  subst e
  exact ((hG f _ hf).2.2.1 h2).2.2 _ rb hb h5 (hL _ (List.getElem?_eq_some_iff.1 hb).1) _ hF c1

/-- Two boxes lie apart. -/
theorem apart2 {L : Nat → Bool} {v : Nat → Value} {w : World} (hL : ∀ i, i < rs.length → L i = true) (hG : ∀ i r, rs[i]? = some r → Has w0 rs f S FS RF Ft L v w i r) (g k : Nat) {rb rk : Role} (hb : rs[g]? = some rb) (h5 : rb.k = 5) (hk : rs[k]? = some rk) (h5' : rk.k = 5) (hne : k ≠ g) {x y : Nat} (e1 : v g = .pointer (some ⟨x, 0, none⟩)) (e2 : v k = .pointer (some ⟨y, 0, none⟩)) : x ≠ y := fun e => by
  subst e
  obtain ⟨gb', d1, d2, d3, d4, d5⟩ := (hG _ _ hb).2.2.2.2.2.1 h5
  exact d5 k rk hk h5' hne (hL _ (List.getElem?_eq_some_iff.1 hk).1) (e2.trans e1.symm)

end

end Go.Proofs.YtlhnkdogafnnpaaGreat.Rg

namespace Go.Proofs.YtlhnkdogafnnpaaGreat.Pl
open Go.RowKit Go.Proofs.YtlhnkdogafnnpaaGreat.Mem Go.Proofs.YtlhnkdogafnnpaaGreat.Sec
set_option linter.unusedVariables false

set_option maxRecDepth 100000 in
set_option maxHeartbeats 8000000 in
theorem sHostOk (w : World) (H : Ho) (p : Option Addr) (c : Nat) (S : Ous w p H.l) (hu : H.Upto 1048576) :
    Calls Tryz.prog 21 #[hoV H p c] w fun r w' => r = .returned (.bool H.ok) ∧ Below w.heap.size w w' := by
  obtain ⟨id, ep, up, rd, bz, k, v, t, a, s, pc, cd, bk, tx, l, txn⟩ := H
  have HS : Hid (Ous w p l) := S
  have hs : s.size ≤ 1048576 := hu.s
  have htx : tx.size ≤ 1048576 := hu.tx
  have HL : Hid (l.length ≤ 1048576) := hu.l
  have HE : Hid (∀ x ∈ l, x.text.size ≤ 1048576) := hu.each
  clear S hu
  have HQ : Hid (Ho.ok ⟨id, ep, up, rd, bz, k, v, t, a, s, pc, cd, bk, tx, l, txn⟩ = (decide (0 ≤ id ∧ id < 3) && (if up = true then decide (1 ≤ ep ∧ ep ≤ 100000) && (decide (0 ≤ txn ∧ txn ≤ 1000000) && (if bz = true then (opRight k v t a s && (decide (0 ≤ pc ∧ pc ≤ 20) && (!(decide (1 ≤ pc ∧ pc ≤ 3) && decide (1000000 ≤ txn)) && (if pc = 0 then zeroPlan cd bk tx l else keptPlan cd bk tx l)))) else (decide (k = 0 ∧ v = 0 ∧ t = 0 ∧ a = 0 ∧ s = ⟨#[]⟩) && (decide (pc = 0) && zeroPlan cd bk tx l)))) else (decide (ep = 0) && (!rd && (!bz && (decide (txn = 0) && (decide (k = 0 ∧ v = 0 ∧ t = 0 ∧ a = 0 ∧ s = ⟨#[]⟩) && (decide (pc = 0) && zeroPlan cd bk tx l))))))))) := rfl
  generalize Ho.ok ⟨id, ep, up, rd, bz, k, v, t, a, s, pc, cd, bk, tx, l, txn⟩ = q at *
  unfold hoV
  try simp only []
  obtain ⟨wa, hwa, ez, A0, B0⟩ := one_new w [.int .i64 id, .int .i64 ep, .bool up, .bool rd, .bool bz, .int .i64 k, .int .i64 v, .int .i64 t, .int .i64 a, .string s, .int .i64 pc, .int .i64 cd, .int .i64 bk, .string tx, .slice p l.length c, .int .i64 txn] 41
  have HA := hid A0
  have HB := hid B0
  clear B0 ez
  have k0 := A0.c 0 rfl
  have k1 := A0.c 1 rfl
  have k2 := A0.c 2 rfl
  have k3 := A0.c 3 rfl
  have k4 := A0.c 4 rfl
  have k5 := A0.c 5 rfl
  have k6 := A0.c 6 rfl
  have k7 := A0.c 7 rfl
  have k8 := A0.c 8 rfl
  have k9 := A0.c 9 rfl
  have k10 := A0.c 10 rfl
  have k11 := A0.c 11 rfl
  have k12 := A0.c 12 rfl
  have k13 := A0.c 13 rfl
  have k14 := A0.c 14 rfl
  have k15 := A0.c 15 rfl
  clear A0
  have hgl := guardOpT
  go_enter Tryz.func21, Tryz.ntmps21
  go_wp2_with fail
  try simp only [hwa]
  clear hwa
  by_cases c0 : 0 ≤ id ∧ id < 3
  rotate_left
  · have c0' := decide_eq_false c0
    rw [c0', Bool.false_and] at HQ
    refine (c0' ▸ l3Host id _).mono ?_
    rintro r w1 ⟨rfl, hw⟩
    obtain rfl := hw.symm
    clear c0
    go_wp2
    go_ret
    exact ⟨by rw [HQ.out]; rfl, HB.out⟩
  have c0' := decide_eq_true c0
  rw [c0', Bool.true_and] at HQ
  refine (c0' ▸ l3Host id _).mono ?_
  rintro r w1 ⟨rfl, hw⟩
  obtain rfl := hw.symm
  clear c0 c0'
  cases up with
  | false =>
    simp only [Bool.false_eq_true, if_false] at HQ
    by_cases e1 : ep = 0
    rotate_left
    · rw [decide_eq_false e1, Bool.false_and] at HQ
      have e1' := beq_no e1
      go_wp2
      go_ret
      exact ⟨by rw [HQ.out]; rfl, HB.out⟩
    subst e1
    rw [decide_eq_true rfl, Bool.true_and] at HQ
    cases rd with
    | true =>
      simp only [Bool.not_true, Bool.false_and] at HQ
      go_wp2
      go_ret
      exact ⟨by rw [HQ.out]; rfl, HB.out⟩
    | false =>
      simp only [Bool.not_false, Bool.true_and] at HQ
      cases bz with
      | true =>
        simp only [Bool.not_true, Bool.false_and] at HQ
        go_wp2
        go_ret
        exact ⟨by rw [HQ.out]; rfl, HB.out⟩
      | false =>
        simp only [Bool.not_false, Bool.true_and] at HQ
        cases hz : decide (k = 0 ∧ v = 0 ∧ t = 0 ∧ a = 0 ∧ s = ⟨#[]⟩) with
        | false =>
          rw [hz, Bool.false_and, Bool.and_false] at HQ
          have heq := eql_is hz
          clear hz
          go_wp2
          go_ret
          exact ⟨by rw [HQ.out]; rfl, HB.out⟩
        | true =>
          rw [hz, Bool.true_and] at HQ
          have heq := eql_is hz
          clear hz
          by_cases e2 : pc = 0
          rotate_left
          · rw [decide_eq_false e2, Bool.false_and, Bool.and_false] at HQ
            have e2' := beq_no e2
            go_wp2
            go_ret
            exact ⟨by rw [HQ.out]; rfl, HB.out⟩
          subst e2
          rw [decide_eq_true rfl, Bool.true_and] at HQ
          go_wp2_with fail
          cases hzp : zeroPlan cd bk tx l with
          | false =>
            have HZ := hid (sZeroPlan wa cd bk tx p c l HL.out)
            rw [hzp] at HZ
            refine HZ.out.mono ?_
            rintro r w2 ⟨rfl, bzw2⟩
            have HBw2 := hid (HB.out.trans (bzw2.mono HB.out.size))
            have HAw2 := hid (HA.out.below bzw2 HA.out.lt)
            clear bzw2 HZ
            rw [hzp, Bool.and_false] at HQ
            clear hzp heq
            go_wp2
            go_ret
            exact ⟨by rw [HQ.out]; rfl, HBw2.out⟩
          | true =>
            have HZ := hid (sZeroPlan wa cd bk tx p c l HL.out)
            rw [hzp] at HZ
            refine HZ.out.mono ?_
            rintro r w2 ⟨rfl, bzw2⟩
            have HBw2 := hid (HB.out.trans (bzw2.mono HB.out.size))
            have HAw2 := hid (HA.out.below bzw2 HA.out.lt)
            clear bzw2 HZ
            rw [hzp, Bool.and_true] at HQ
            clear hzp heq k0 k1 k2 k3 k4 k5 k6 k7 k8 k9 k10 k11 k12 k13 k14 k15
            have k15 := HAw2.out.c 15 rfl
            by_cases e3 : txn = 0
            · subst e3
              rw [decide_eq_true rfl] at HQ
              go_wp2
              go_ret
              exact ⟨by rw [HQ.out]; rfl, HBw2.out⟩
            · rw [decide_eq_false e3] at HQ
              have e3' := beq_no e3
              go_wp2
              go_ret
              exact ⟨by rw [HQ.out]; rfl, HBw2.out⟩
  | true =>
    simp only [if_true] at HQ
    go_wp2_with fail
    by_cases c1 : 1 ≤ ep ∧ ep ≤ 100000
    rotate_left
    · have c1' := decide_eq_false c1
      rw [c1', Bool.false_and] at HQ
      refine (c1' ▸ l1In ep 1 100000 _).mono ?_
      rintro r w2 ⟨rfl, hw⟩
      obtain rfl := hw.symm
      clear c1
      go_wp2
      go_ret
      exact ⟨by rw [HQ.out]; rfl, HB.out⟩
    have c1' := decide_eq_true c1
    rw [c1', Bool.true_and] at HQ
    refine (c1' ▸ l1In ep 1 100000 _).mono ?_
    rintro r w2 ⟨rfl, hw⟩
    obtain rfl := hw.symm
    clear c1 c1'
    go_wp2_with fail
    by_cases c2 : 0 ≤ txn ∧ txn ≤ 1000000
    rotate_left
    · have c2' := decide_eq_false c2
      rw [c2', Bool.false_and] at HQ
      refine (c2' ▸ l1In txn 0 1000000 _).mono ?_
      rintro r w3 ⟨rfl, hw⟩
      obtain rfl := hw.symm
      clear c2
      go_wp2
      go_ret
      exact ⟨by rw [HQ.out]; rfl, HB.out⟩
    have c2' := decide_eq_true c2
    rw [c2', Bool.true_and] at HQ
    refine (c2' ▸ l1In txn 0 1000000 _).mono ?_
    rintro r w3 ⟨rfl, hw⟩
    obtain rfl := hw.symm
    clear c2 c2'
    cases bz with
    | false =>
      simp only [Bool.false_eq_true, if_false] at HQ
      cases hz : decide (k = 0 ∧ v = 0 ∧ t = 0 ∧ a = 0 ∧ s = ⟨#[]⟩) with
      | false =>
        rw [hz, Bool.false_and] at HQ
        have heq := eql_is hz
        clear hz
        go_wp2
        go_ret
        exact ⟨by rw [HQ.out]; rfl, HB.out⟩
      | true =>
        rw [hz, Bool.true_and] at HQ
        have heq := eql_is hz
        clear hz
        by_cases e2 : pc = 0
        rotate_left
        · rw [decide_eq_false e2, Bool.false_and] at HQ
          have e2' := beq_no e2
          go_wp2
          go_ret
          exact ⟨by rw [HQ.out]; rfl, HB.out⟩
        subst e2
        rw [decide_eq_true rfl, Bool.true_and] at HQ
        go_wp2_with fail
        refine (sZeroPlan _ cd bk tx p c l HL.out).mono ?_
        rintro r w4 ⟨rfl, b4⟩
        have HB4 := hid (HB.out.trans (b4.mono HB.out.size))
        clear b4 heq
        go_wp2
        go_ret
        exact ⟨by rw [HQ.out]; rfl, HB4.out⟩
    | true =>
      simp only [if_true] at HQ
      go_wp2_with fail
      cases hz : opRight k v t a s with
      | false =>
        rw [hz, Bool.false_and] at HQ
        have ho := sOpOk k v t a s wa hs
        rw [hz] at ho
        refine ho.mono ?_
        rintro r w4 ⟨rfl, b4⟩
        have HB4 := hid (HB.out.trans (b4.mono HB.out.size))
        clear b4 hz ho
        go_wp2
        go_ret
        exact ⟨by rw [HQ.out]; rfl, HB4.out⟩
      | true =>
        rw [hz, Bool.true_and] at HQ
        have ho := sOpOk k v t a s wa hs
        rw [hz] at ho
        refine ho.mono ?_
        rintro r w4 ⟨rfl, b4⟩
        have HB4 := hid (HB.out.trans (b4.mono HB.out.size))
        have HA4 := hid (HA.out.below b4 HA.out.lt)
        clear b4 hz ho k0 k1 k2 k3 k4 k5 k6 k7 k8 k9 k10 k11 k12 k13 k14 k15
        have k10 := HA4.out.c 10 rfl
        have k11 := HA4.out.c 11 rfl
        have k12 := HA4.out.c 12 rfl
        have k13 := HA4.out.c 13 rfl
        have k14 := HA4.out.c 14 rfl
        have k15 := HA4.out.c 15 rfl
        go_wp2_with fail
        by_cases c3 : 0 ≤ pc ∧ pc ≤ 20
        rotate_left
        · have c3' := decide_eq_false c3
          rw [c3', Bool.false_and] at HQ
          refine (c3' ▸ l1In pc 0 20 _).mono ?_
          rintro r w5 ⟨rfl, hw⟩
          obtain rfl := hw.symm
          clear c3
          go_wp2
          go_ret
          exact ⟨by rw [HQ.out]; rfl, HB4.out⟩
        have c3' := decide_eq_true c3
        rw [c3', Bool.true_and] at HQ
        refine (c3' ▸ l1In pc 0 20 _).mono ?_
        rintro r w5 ⟨rfl, hw⟩
        obtain rfl := hw.symm
        clear c3 c3'
        go_wp2_with fail
        by_cases c4 : 1 ≤ pc ∧ pc ≤ 3
        · have c4' := decide_eq_true c4
          rw [c4', Bool.true_and] at HQ
          refine (c4' ▸ l1In pc 1 3 _).mono ?_
          rintro r w6 ⟨rfl, hw⟩
          obtain rfl := hw.symm
          by_cases c5 : 1000000 ≤ txn
          · rw [decide_eq_true c5] at HQ
            simp only [Bool.not_true, Bool.false_and] at HQ
            clear c4
            go_wp2
            go_ret
            exact ⟨by rw [HQ.out]; rfl, HB4.out⟩
          · rw [decide_eq_false c5] at HQ
            simp only [Bool.not_false, Bool.true_and] at HQ
            have c5' : decide (txn ≥ 1000000) = false := decide_eq_false c5
            have e6 : ¬ pc = 0 := by omega
            clear c4 c4'
            rw [if_neg e6] at HQ
            have e6' := beq_no e6
            have HK := hid HQ.out
            unfold keptPlan at HK
            by_cases f1 : cd = 0
            rotate_left
            · rw [decide_eq_false f1, Bool.false_and] at HK
              have f1' := beq_no f1
              have HQ := hid HK.out
              go_wp2
              go_ret
              exact ⟨by rw [HQ.out]; rfl, HB4.out⟩
            subst f1
            rw [decide_eq_true rfl, Bool.true_and] at HK
            go_wp2_with fail
            by_cases f2 : -1 ≤ bk ∧ bk ≤ 17
            rotate_left
            · have f2' := decide_eq_false f2
              rw [f2', Bool.false_and] at HK
              have HQ := hid HK.out
              refine (f2' ▸ l1In bk (-1) 17 _).mono ?_
              rintro r w7 ⟨rfl, hw⟩
              obtain rfl := hw.symm
              clear f2
              go_wp2
              go_ret
              exact ⟨by rw [HQ.out]; rfl, HB4.out⟩
            have f2' := decide_eq_true f2
            rw [f2', Bool.true_and] at HK
            refine (f2' ▸ l1In bk (-1) 17 _).mono ?_
            rintro r w7 ⟨rfl, hw⟩
            obtain rfl := hw.symm
            clear f2 f2'
            by_cases f3 : (tx.size : Int) ≤ 16
            rotate_left
            · rw [decide_eq_false f3, Bool.false_and] at HK
              have HQ := hid HK.out
              have f3' := decide_eq_false f3
              go_wp2
              go_ret
              exact ⟨by rw [HQ.out]; rfl, HB4.out⟩
            rw [decide_eq_true f3, Bool.true_and] at HK
            have HQ := hid HK.out
            go_wp2_with fail
            refine (sOuts w4 p c l (HS.out.below HB4.out) HL.out HE.out).mono ?_
            rintro r w8 ⟨rfl, b8⟩
            have HB8 := hid (HB4.out.trans (b8.mono HB4.out.size))
            clear b8
            go_wp2
            go_ret
            exact ⟨by rw [HQ.out]; rfl, HB8.out⟩
        · have c4' := decide_eq_false c4
          rw [c4', Bool.false_and] at HQ
          simp only [Bool.not_false, Bool.true_and] at HQ
          refine (c4' ▸ l1In pc 1 3 _).mono ?_
          rintro r w6 ⟨rfl, hw⟩
          obtain rfl := hw.symm
          clear c4 c4'
          by_cases e6 : pc = 0
          · subst e6
            rw [if_pos rfl] at HQ
            go_wp2_with fail
            refine (sZeroPlan _ cd bk tx p c l HL.out).mono ?_
            rintro r w7 ⟨rfl, b7⟩
            have HB7 := hid (HB4.out.trans (b7.mono HB4.out.size))
            clear b7
            go_wp2
            go_ret
            exact ⟨by rw [HQ.out]; rfl, HB7.out⟩
          rw [if_neg e6] at HQ
          have e6' := beq_no e6
          have HK := hid HQ.out
          unfold keptPlan at HK
          by_cases f1 : cd = 0
          rotate_left
          · rw [decide_eq_false f1, Bool.false_and] at HK
            have f1' := beq_no f1
            have HQ := hid HK.out
            go_wp2
            go_ret
            exact ⟨by rw [HQ.out]; rfl, HB4.out⟩
          subst f1
          rw [decide_eq_true rfl, Bool.true_and] at HK
          go_wp2_with fail
          by_cases f2 : -1 ≤ bk ∧ bk ≤ 17
          rotate_left
          · have f2' := decide_eq_false f2
            rw [f2', Bool.false_and] at HK
            have HQ := hid HK.out
            refine (f2' ▸ l1In bk (-1) 17 _).mono ?_
            rintro r w7 ⟨rfl, hw⟩
            obtain rfl := hw.symm
            clear f2
            go_wp2
            go_ret
            exact ⟨by rw [HQ.out]; rfl, HB4.out⟩
          have f2' := decide_eq_true f2
          rw [f2', Bool.true_and] at HK
          refine (f2' ▸ l1In bk (-1) 17 _).mono ?_
          rintro r w7 ⟨rfl, hw⟩
          obtain rfl := hw.symm
          clear f2 f2'
          by_cases f3 : (tx.size : Int) ≤ 16
          rotate_left
          · rw [decide_eq_false f3, Bool.false_and] at HK
            have HQ := hid HK.out
            have f3' := decide_eq_false f3
            go_wp2
            go_ret
            exact ⟨by rw [HQ.out]; rfl, HB4.out⟩
          rw [decide_eq_true f3, Bool.true_and] at HK
          have HQ := hid HK.out
          go_wp2_with fail
          refine (sOuts w4 p c l (HS.out.below HB4.out) HL.out HE.out).mono ?_
          rintro r w8 ⟨rfl, b8⟩
          have HB8 := hid (HB4.out.trans (b8.mono HB4.out.size))
          clear b8
          go_wp2
          go_ret
          exact ⟨by rw [HQ.out]; rfl, HB8.out⟩

end Go.Proofs.YtlhnkdogafnnpaaGreat.Pl

namespace Go.Proofs.YtlhnkdogafnnpaaGreat.Pl
open Go.RowKit Go.Proofs.YtlhnkdogafnnpaaGreat.Mem Go.Proofs.YtlhnkdogafnnpaaGreat.Sec Go.Proofs.YtlhnkdogafnnpaaGreat.Rg
set_option linter.unusedVariables false

/-- What HostRise makes of a host and a disk. -/
def riseA (H : Ho) (D : Dk) : Ho × Dk × Bool := if H.ok = true ∧ D.right = true then riseD H D else (Ho.zero, Dk.nil, false)
theorem riseA_host {H : Ho} {D : Dk} (h : H.ok = false) : riseA H D = (Ho.zero, Dk.nil, false) := if_neg (fun q => by rw [h] at q; cases q.1)
theorem riseA_disk {H : Ho} {D : Dk} (h : D.right = false) : riseA H D = (Ho.zero, Dk.nil, false) := if_neg (fun q => by rw [h] at q; cases q.2)
theorem riseA_yes {H : Ho} {D : Dk} (h : H.ok = true) (k : D.right = true) : riseA H D = riseD H D := if_pos ⟨h, k⟩

/-- A host and a disk of a call's own are handed back. -/
def RisesTo (w w' : World) (R : Ho × Dk × Bool) (e : Ending) : Prop := ∃ p' c' v', e = .returned (.tuple #[hoV R.1 p' c', v', .bool R.2.2]) ∧ OusW w' w.heap.size p' R.1.l ∧ DkW w' w.heap.size v' R.2.1 ∧ (∀ b, foot p' (R.1.l.length * 2) b → ¬ DkFoot v' b) ∧ Below w.heap.size w w'

theorem nil_w (w : World) (B : Nat) : DkW w B (.agg #[.slice none 0 0, .slice none 0 0, .slice none 0 0]) Dk.nil :=
  ⟨none, 0, none, 0, none, 0, rfl, fun i hi => by simp [Dk.nil] at hi, fun i hi => by simp [Dk.nil] at hi, fun i hi => by simp [Dk.nil] at hi, fun b hb => by simp [foot] at hb, fun b hb => by simp [foot] at hb⟩

theorem call_sHostOk (vs : Array Value) (w : World) : (callFunc 21 vs).run Tryz.prog w = .ok (.enter 21 vs) w := by simp [go_sem]
theorem call_sl3Copy (vs : Array Value) (w : World) : (callFunc 25 vs).run Tryz.prog w = .ok (.enter 25 vs) w := by simp [go_sem]
theorem call_sl8Rise (vs : Array Value) (w : World) : (callFunc 23 vs).run Tryz.prog w = .ok (.enter 23 vs) w := by simp [go_sem]

theorem hoV_inj {R : Ho} {p1 p2 : Option Addr} {c1 c2 : Nat} (h : hoV R p1 c1 = hoV R p2 c2) : p1 = p2 := by
  rw [hoV_is, hoV_is] at h
  have h14 := congrArg (fun l : List Value => l[14]?) (agg_inj h)
  have : some (Value.slice p1 R.l.length c1) = some (Value.slice p2 R.l.length c2) := h14
  injection this with h1
  injection h1

/-- What is read of a disk's lists lies in its blocks. -/
theorem dkO_foot {w : World} {B : Nat} {v : Value} {D : Dk} (O : DkO w B v D) {b : Nat} (h : DkFoot v b) : DkB v b := by
  obtain ⟨v1, v2, v3, rfl, r1, r2, r3, _, _⟩ := O
  obtain ⟨a1, n1, c1, a2, n2, c2, a3, n3, c3, e, h⟩ := h
  simp only [Value.agg.injEq, Array.mk.injEq, List.cons.injEq, and_true] at e
  obtain ⟨rfl, rfl, rfl⟩ := e
  rcases h with ⟨h0, off, rfl⟩ | ⟨h0, off, rfl⟩ | ⟨h0, off, rfl⟩
  · refine ⟨_, _, _, rfl, .inl ?_⟩
    obtain ⟨_, _, e, _⟩ := r1.wr
    cases e
    obtain ⟨_, _, e⟩ := r1.form (by omega)
    cases e
    rfl
  · refine ⟨_, _, _, rfl, .inr (.inl ?_)⟩
    obtain ⟨_, _, e, _⟩ := r2.wr
    cases e
    obtain ⟨_, _, e⟩ := r2.form (by omega)
    cases e
    rfl
  · refine ⟨_, _, _, rfl, .inr (.inr ?_)⟩
    obtain ⟨_, _, e, _⟩ := r3.wr
    cases e
    obtain ⟨_, _, e⟩ := r3.form (by omega)
    cases e
    rfl

set_option maxRecDepth 100000 in
set_option maxHeartbeats 4000000 in
theorem specHostRise (w : World) (H : Ho) (p : Option Addr) (c : Nat) (v : Value) (D : Dk) (S : Ous w p H.l) (hu : H.Upto 1048576) (h : DkR w v D) (hd : D.Held) (hs : D.Small 1048576) :
    Calls Tryz.prog 6 #[hoV H p c, v] w fun e w' => RisesTo w w' (riseA H D) e := by
  have HS := hid S
  have HU := hid hu
  have HR0 := hid h
  have HD := hid hd
  have HSm := hid hs
  obtain ⟨a1, c1, a2, c2, a3, c3, rfl, _, _, _⟩ := h
  clear S hu hd hs
  unfold hoV
  go_enter Tryz.func6, Tryz.ntmps6
  go_upto_region 1 with fail
  obtain ⟨wa, hwa, ea, A0, C0, R0, Q0, B0⟩ := four_y w (hoC H p c) [.slice a1 D.sec.length c1, .slice a2 D.ep.length c2, .slice a3 D.pe.length c3] [.int .i64 0, .int .i64 0, .bool false, .bool false, .bool false, .int .i64 0, .int .i64 0, .int .i64 0, .int .i64 0, .string ⟨#[]⟩, .int .i64 0, .int .i64 0, .int .i64 0, .string ⟨#[]⟩, .slice none 0 0, .int .i64 0] [.slice none 0 0, .slice none 0 0, .slice none 0 0] 41 44 41 44
  unfold hoC at hwa
  simp only [hwa]
  clear hwa
  have HA := hid A0
  have HC := hid C0
  have HR := hid R0
  have HQ := hid Q0
  have HB := hid B0
  clear A0 C0 R0 Q0 B0
  refine wp_region_list ?_
  refine wpList_load_row rfl 41 _ rfl w.heap.size (by kernel_rfl) _ _ HA.out Tryz.underlying41 rfl (by kernel_rfl) ?_
  refine wpList_call rfl 21 _ _ rfl #[hoV H p c] (by simp only [List.map_toArray, List.map_cons, List.map_nil]; refine (?_ : _ = _); kernel_rfl) call_sHostOk ((sHostOk wa H p c (HS.out.below HB.out) HU.out).mono ?_)
  rintro e w1 ⟨rfl, b1⟩
  refine ⟨_, rfl, ?_⟩
  simp only [Act.put, List.setIfInBounds_toArray, List.set_cons_zero, List.set_cons_succ]
  have HA1 := hid (HA.out.below b1 HA.out.lt)
  have HC1 := hid (HC.out.below b1 HC.out.lt)
  have HR1 := hid (HR.out.below b1 HR.out.lt)
  have HQ1 := hid (HQ.out.below b1 HQ.out.lt)
  have HB1 := hid (HB.out.trans (b1.mono HB.out.size))
  have hs1 : wa.heap.size ≤ w1.heap.size := b1.size
  clear b1 HA HC HR HQ HB
  cases hok : H.ok with
  | false =>
    go_upto_region 2 with fail
    refine region_ret (rs := [⟨0, 0, 0, [.agg [.int .i64 0, .int .i64 0, .bool false, .bool false, .bool false, .int .i64 0, .int .i64 0, .int .i64 0, .int .i64 0, .string ⟨#[]⟩, .int .i64 0, .int .i64 0, .int .i64 0, .string ⟨#[]⟩, .slice none 0 0, .int .i64 0].toArray]⟩, ⟨0, 0, 0, [.agg [.slice none 0 0, .slice none 0 0, .slice none 0 0].toArray]⟩, ⟨2, w.heap.size + 1 + 1, 0, [.int .i64 0, .int .i64 0, .bool false, .bool false, .bool false, .int .i64 0, .int .i64 0, .int .i64 0, .int .i64 0, .string ⟨#[]⟩, .int .i64 0, .int .i64 0, .int .i64 0, .string ⟨#[]⟩, .slice none 0 0, .int .i64 0]⟩, ⟨2, w.heap.size + 1 + 1 + 1, 1, [.slice none 0 0, .slice none 0 0, .slice none 0 0]⟩, ⟨0, 0, 0, [.bool false]⟩]) (S := fun _ _ _ => True) false (by kernel_rfl) (by kernel_rfl) rfl ?_ [some 18, some 19, none, none, some 6] (by kernel_rfl) ?_
    · refine rCons (rFix rfl rfl (fun L v a w' K => by unfold execOp; go_simp; first | done | rfl)) ?_
      refine rCons (rFix rfl rfl (fun L v a w' K => by unfold execOp; go_simp; first | done | rfl)) ?_
      refine rCons (rStore rfl rfl 41 _ _ rfl (by kernel_rfl) (by kernel_rfl) HR1.out (by kernel_rfl) (by kernel_rfl) (by kernel_rfl) (fun m b' hm hne => by simp [storesOf] at hm; omega) rfl rfl rfl rfl rfl) ?_
      refine rCons (rStore rfl rfl 44 _ _ rfl (by kernel_rfl) (by kernel_rfl) HQ1.out (by kernel_rfl) (by kernel_rfl) (by kernel_rfl) (fun m b' hm hne => by simp [storesOf] at hm; omega) rfl rfl rfl rfl rfl) ?_
      refine rCons (rFix rfl rfl (fun L v a w' K => by unfold execOp; simp [go_sem, Act.eval])) (rNil _)
    intro L vv w' hL K G
    have e4 : vv 4 = .bool false := (G 4 _ rfl).1 rfl
    have R1 := hid (Go.Proofs.YtlhnkdogafnnpaaGreat.Rg.stored G 2 0 (w.heap.size + 1 + 1) (cs := [.int .i64 0, .int .i64 0, .bool false, .bool false, .bool false, .int .i64 0, .int .i64 0, .int .i64 0, .int .i64 0, .string ⟨#[]⟩, .int .i64 0, .int .i64 0, .int .i64 0, .string ⟨#[]⟩, .slice none 0 0, .int .i64 0]) rfl rfl rfl rfl)
    have R2 := hid (Go.Proofs.YtlhnkdogafnnpaaGreat.Rg.stored G 3 1 (w.heap.size + 1 + 1 + 1) (cs := [.slice none 0 0, .slice none 0 0, .slice none 0 0]) rfl rfl rfl rfl)
    simp only [putsAll, Act.put, List.setIfInBounds_toArray, List.set_cons_zero, List.set_cons_succ, e4]
    clear G
    go_wp2
    refine bodyPost_ret (results_cct rfl _ _ (w.heap.size + 1 + 1) (w.heap.size + 1 + 1 + 1) [.int .i64 0, .int .i64 0, .bool false, .bool false, .bool false, .int .i64 0, .int .i64 0, .int .i64 0, .int .i64 0, .string ⟨#[]⟩, .int .i64 0, .int .i64 0, .int .i64 0, .string ⟨#[]⟩, .slice none 0 0, .int .i64 0] [.slice none 0 0, .slice none 0 0, .slice none 0 0] _ _ rfl R1.out Tryz.underlying41 rfl (by kernel_rfl) rfl R2.out Tryz.underlying44 rfl (by kernel_rfl)) rfl ?_
    have K' : Kept (fun b => b = w.heap.size + 1 + 1 ∨ b = w.heap.size + 1 + 1 + 1) w1 w' := K.mono (fun b _ h => into_two h rfl)
    rw [riseA_host hok]
    exact ⟨none, 0, _, rfl, fun i hi => by simp [Ho.zero] at hi, nil_w _ _, fun b hb => by simp [foot, Ho.zero] at hb, HB1.out.trans (K'.below HB1.out.size (fun b hb h => by omega))⟩
  | true =>
    have j0 := HC1.out.c 0 rfl
    have j1 := HC1.out.c 1 rfl
    have j2 := HC1.out.c 2 rfl
    go_wp2_with fail
    clear j0 j1 j2
    refine (diskOk w1 _ D (HR0.out.below HB1.out) HD.out).mono ?_
    rintro e w2 ⟨rfl, b2⟩
    have HA2 := hid (HA1.out.below b2 HA1.out.lt)
    have HC2 := hid (HC1.out.below b2 HC1.out.lt)
    have HR2 := hid (HR1.out.below b2 HR1.out.lt)
    have HQ2 := hid (HQ1.out.below b2 HQ1.out.lt)
    have HB2 := hid (HB1.out.trans (b2.mono HB1.out.size))
    have hs2 : w1.heap.size ≤ w2.heap.size := b2.size
    clear b2 HA1 HC1 HR1 HQ1 HB1
    cases hri : D.right with
    | false =>
      go_upto_region 2 with fail
      refine region_ret (rs := [⟨0, 0, 0, [.agg [.int .i64 0, .int .i64 0, .bool false, .bool false, .bool false, .int .i64 0, .int .i64 0, .int .i64 0, .int .i64 0, .string ⟨#[]⟩, .int .i64 0, .int .i64 0, .int .i64 0, .string ⟨#[]⟩, .slice none 0 0, .int .i64 0].toArray]⟩, ⟨0, 0, 0, [.agg [.slice none 0 0, .slice none 0 0, .slice none 0 0].toArray]⟩, ⟨2, w.heap.size + 1 + 1, 0, [.int .i64 0, .int .i64 0, .bool false, .bool false, .bool false, .int .i64 0, .int .i64 0, .int .i64 0, .int .i64 0, .string ⟨#[]⟩, .int .i64 0, .int .i64 0, .int .i64 0, .string ⟨#[]⟩, .slice none 0 0, .int .i64 0]⟩, ⟨2, w.heap.size + 1 + 1 + 1, 1, [.slice none 0 0, .slice none 0 0, .slice none 0 0]⟩, ⟨0, 0, 0, [.bool false]⟩]) (S := fun _ _ _ => True) false (by kernel_rfl) (by kernel_rfl) rfl ?_ [some 18, some 19, none, none, some 6] (by kernel_rfl) ?_
      · refine rCons (rFix rfl rfl (fun L v a w' K => by unfold execOp; go_simp; first | done | rfl)) ?_
        refine rCons (rFix rfl rfl (fun L v a w' K => by unfold execOp; go_simp; first | done | rfl)) ?_
        refine rCons (rStore rfl rfl 41 _ _ rfl (by kernel_rfl) (by kernel_rfl) HR2.out (by kernel_rfl) (by kernel_rfl) (by kernel_rfl) (fun m b' hm hne => by simp [storesOf] at hm; omega) rfl rfl rfl rfl rfl) ?_
        refine rCons (rStore rfl rfl 44 _ _ rfl (by kernel_rfl) (by kernel_rfl) HQ2.out (by kernel_rfl) (by kernel_rfl) (by kernel_rfl) (fun m b' hm hne => by simp [storesOf] at hm; omega) rfl rfl rfl rfl rfl) ?_
        refine rCons (rFix rfl rfl (fun L v a w' K => by unfold execOp; simp [go_sem, Act.eval])) (rNil _)
      intro L vv w' hL K G
      have e4 : vv 4 = .bool false := (G 4 _ rfl).1 rfl
      have R1 := hid (Go.Proofs.YtlhnkdogafnnpaaGreat.Rg.stored G 2 0 (w.heap.size + 1 + 1) (cs := [.int .i64 0, .int .i64 0, .bool false, .bool false, .bool false, .int .i64 0, .int .i64 0, .int .i64 0, .int .i64 0, .string ⟨#[]⟩, .int .i64 0, .int .i64 0, .int .i64 0, .string ⟨#[]⟩, .slice none 0 0, .int .i64 0]) rfl rfl rfl rfl)
      have R2 := hid (Go.Proofs.YtlhnkdogafnnpaaGreat.Rg.stored G 3 1 (w.heap.size + 1 + 1 + 1) (cs := [.slice none 0 0, .slice none 0 0, .slice none 0 0]) rfl rfl rfl rfl)
      simp only [putsAll, Act.put, List.setIfInBounds_toArray, List.set_cons_zero, List.set_cons_succ, e4]
      clear G
      go_wp2
      refine bodyPost_ret (results_cct rfl _ _ (w.heap.size + 1 + 1) (w.heap.size + 1 + 1 + 1) [.int .i64 0, .int .i64 0, .bool false, .bool false, .bool false, .int .i64 0, .int .i64 0, .int .i64 0, .int .i64 0, .string ⟨#[]⟩, .int .i64 0, .int .i64 0, .int .i64 0, .string ⟨#[]⟩, .slice none 0 0, .int .i64 0] [.slice none 0 0, .slice none 0 0, .slice none 0 0] _ _ rfl R1.out Tryz.underlying41 rfl (by kernel_rfl) rfl R2.out Tryz.underlying44 rfl (by kernel_rfl)) rfl ?_
      have K' : Kept (fun b => b = w.heap.size + 1 + 1 ∨ b = w.heap.size + 1 + 1 + 1) w2 w' := K.mono (fun b _ h => into_two h rfl)
      rw [riseA_disk hri]
      exact ⟨none, 0, _, rfl, fun i hi => by simp [Ho.zero] at hi, nil_w _ _, fun b hb => by simp [foot, Ho.zero] at hb, HB2.out.trans (K'.below HB2.out.size (fun b hb h => by omega))⟩
    | true =>
      have HT := hid (Dk.of_right hri)
      go_upto_region 3 with fail
      have HRo := hid HR0.out
      obtain ⟨R, hR⟩ : ∃ R, riseD H D = R := ⟨_, rfl⟩
      have HRr := hid hR
      refine region_ans (rs := [⟨0, 0, 0, hoC H p c⟩, ⟨1, 0, 0, hoC H p c⟩, ⟨0, 0, 0, [.slice a1 D.sec.length c1, .slice a2 D.ep.length c2, .slice a3 D.pe.length c3]⟩, ⟨1, 2, 0, [.slice a1 D.sec.length c1, .slice a2 D.ep.length c2, .slice a3 D.pe.length c3]⟩, ⟨2, 0, 0, []⟩, ⟨3, 0, 0, []⟩, ⟨4, 5, 0, []⟩, ⟨4, 5, 1, []⟩, ⟨4, 5, 2, []⟩, ⟨5, 0, 11, [.int .i64 0, .int .i64 0, .bool false, .bool false, .bool false, .int .i64 0, .int .i64 0, .int .i64 0, .int .i64 0, .string ⟨#[]⟩, .int .i64 0, .int .i64 0, .int .i64 0, .string ⟨#[]⟩, .slice none 0 0, .int .i64 0]⟩, ⟨5, 0, 12, [.slice none 0 0, .slice none 0 0, .slice none 0 0]⟩, ⟨6, 9, 6, []⟩, ⟨6, 10, 7, []⟩, ⟨7, 8, 0, []⟩]) (f := 4)
        (S := fun i v wx => match i with
          | 1 => ∃ p1 q1, v 1 = hoV H p1 q1 ∧ OusW wx w2.heap.size p1 H.l
          | _ => ∃ p1 q1, v 1 = hoV H p1 q1 ∧ OusW wx w2.heap.size p1 H.l ∧ DkO wx w2.heap.size (v 3) D ∧ ∀ b, foot p1 (H.l.length * 2) b → ¬ DkB (v 3) b)
        (FS := fun i v b => match i with
          | 1 => ∃ p1 q1, v 1 = hoV H p1 q1 ∧ foot p1 (H.l.length * 2) b
          | _ => DkB (v 3) b)
        (RF := fun V wx => ∃ p' c' v', V = .tuple #[hoV R.1 p' c', v', .bool R.2.2] ∧ OusW wx w2.heap.size p' R.1.l ∧ DkO wx w2.heap.size v' R.2.1 ∧ ∀ b, foot p' (R.1.l.length * 2) b → ¬ DkB v' b)
        (Ft := fun V b => ∃ p' c' v', V = .tuple #[hoV R.1 p' c', v', .bool R.2.2] ∧ (foot p' (R.1.l.length * 2) b ∨ DkB v' b))
        true (by kernel_rfl) (by kernel_rfl) rfl [1, 3] (fun v => #[v 1, v 3]) ?_ [some 21, some 22, some 23, some 24, some 25, some 20, some 26, some 27, some 28, some 7, some 8, none, none, some 9] (by kernel_rfl) ?_
      · refine aCons (aLoad rfl rfl 41 _ rfl (b := w.heap.size) (by kernel_rfl) (by kernel_rfl) _ HA2.out Tryz.underlying41 rfl (by kernel_rfl)) ?_
        refine aCons (aConv rfl rfl 24 _ _ rfl (by kernel_rfl) (by kernel_rfl) rfl rfl rfl call_sCopy (by kernel_rfl) ?_ ?_ ?_) ?_
        · rintro v w' w'' ⟨p1, q1, e1, W1⟩ bb
          exact ⟨p1, q1, e1, Wr.below W1 bb⟩
        · intro v v' hv
          have e := hv 1 (.inl rfl)
          exact ⟨fun w' ⟨p1, q1, e1, W1⟩ => ⟨p1, q1, e ▸ e1, W1⟩, fun b ⟨p1, q1, e1, W1⟩ => ⟨p1, q1, e.trans e1, W1⟩⟩
        · intro v w' hb _
          refine (sCopyHost w' H p c ((HS.out.below HB2.out).below hb) HU.out.l).mono ?_
          rintro e w'' ⟨p1, q1, rfl, W1, b1⟩
          exact ⟨_, rfl, ⟨p1, q1, updv_same v 1 _, W1.mono hb.size⟩, fun b ⟨p2, q2, e2, hf⟩ => by
            rw [updv_same] at e2
            obtain rfl := hoV_inj e2
            exact ⟨Wr.foot_ge W1 hf, wr_lt W1 hf⟩, b1⟩
        refine aCons (aLoad rfl rfl 44 _ rfl (b := w.heap.size + 1) (by kernel_rfl) (by kernel_rfl) _ HC2.out Tryz.underlying44 rfl (by kernel_rfl)) ?_
        refine aCons (aConv rfl rfl 25 _ _ rfl (by kernel_rfl) (by kernel_rfl) rfl rfl rfl call_sl3Copy (by kernel_rfl) ?_ ?_ ?_) ?_
        · rintro v w' w'' ⟨p1, q1, e1, W1, O1, hs⟩ bb
          exact ⟨p1, q1, e1, Wr.below W1 bb, O1.below bb, hs⟩
        · intro v v' hv
          have e := hv 3 (.inl rfl)
          have e' := hv 1 (.inr (by kernel_rfl))
          exact ⟨fun w' ⟨p1, q1, e1, W1, O1, hs⟩ => ⟨p1, q1, e' ▸ e1, W1, e ▸ O1, e ▸ hs⟩, fun b h => by
            show DkB (v 3) b
            rw [e]
            exact h⟩
        · intro v w' hb hv
          obtain ⟨p1, q1, e1, W1⟩ := (hv 1 _ (by kernel_rfl) rfl).2 rfl
          refine (l3Copy w' _ D ((HR0.out.below HB2.out).below hb) HSm.out.c1 HSm.out.c2 HSm.out.c3).mono ?_
          rintro e w'' ⟨v2, rfl, O2, b2⟩
          have hn : updv v 3 v2 1 = v 1 := updv_ne v v2 (by decide)
          exact ⟨_, rfl, ⟨p1, q1, hn.trans e1, Wr.below W1 b2, by rw [updv_same]; exact O2.mono hb.size, fun b hf hd => by
            rw [updv_same] at hd
            have := (O2.lt hd).1
            have := wr_lt W1 hf
            omega⟩, fun b hd => by
            replace hd : DkB (updv v 3 v2 3) b := hd
            rw [updv_same] at hd
            exact O2.lt hd, b2⟩
        refine aCons (aFn rfl rfl 23 _ _ rfl call_sl8Rise ?_ (by kernel_rfl) ?_ ?_) ?_
        · intro L v a hA hL
          simp only [List.map_toArray, List.map_cons, List.map_nil]
          rw [hA.eval_got 1 (hL 1 (by simp)) (by kernel_rfl), hA.eval_got 3 (hL 3 (by simp)) (by kernel_rfl)]
        · rintro V w' w'' T ⟨p', c', v', e1, W1, O1, hs⟩ kk hn
          exact ⟨p', c', v', e1, Wr.move W1 kk (fun b hb => hn b ⟨p', c', v', e1, .inl hb⟩), O1.kept kk (fun b hb => hn b ⟨p', c', v', e1, .inr hb⟩), hs⟩
        · intro v w' hb hv
          obtain ⟨p1, q1, e1, W1, O1, hs⟩ := (hv 3 _ (by simp) rfl).2 rfl
          have hc := l8Rise w' w2.heap.size H p1 q1 (v 3) D W1 O1 hb.size hs HT.out.fit HD.out (fun j hj => (HT.out.e j hj).1)
          rw [HRr.out, ← e1] at hc
          refine hc.mono ?_
          rintro e w'' ⟨p', c', v', rfl, W2, O2, hs2, _, K2, hp2, hv2⟩
          refine ⟨_, rfl, ⟨p', c', v', rfl, W2, O2, hs2⟩, ?_, K2.mono (fun b _ h => ⟨3, _, by simp, rfl, rfl, h⟩)⟩
          rintro b ⟨p3, c3', v3, e3, hf⟩
          simp only [Value.tuple.injEq, Array.mk.injEq, List.cons.injEq, and_true] at e3
          obtain ⟨e4, rfl⟩ := e3
          obtain rfl := hoV_inj e4
          rcases hf with hf | hf
          · exact .inr ⟨1, _, by simp, rfl, rfl, p1, q1, e1, hp2 b hf⟩
          · rcases hv2 b hf with h | h
            · exact .inr ⟨3, _, by simp, rfl, rfl, h⟩
            · exact .inl ⟨h, (O2.lt hf).2⟩
        refine aCons (aMove rfl rfl _ rfl (by kernel_rfl) (by kernel_rfl) rfl rfl) ?_
        refine aCons (aExt rfl rfl _ rfl (by kernel_rfl) (by kernel_rfl) (by kernel_rfl) rfl rfl rfl rfl (fun V w h => by obtain ⟨p', c', v', rfl, _⟩ := h; exact ⟨_, _, rfl, rfl⟩)) ?_
        refine aCons (aExt rfl rfl _ rfl (by kernel_rfl) (by kernel_rfl) (by kernel_rfl) rfl rfl rfl rfl (fun V w h => by obtain ⟨p', c', v', rfl, _⟩ := h; exact ⟨_, _, rfl, rfl⟩)) ?_
        refine aCons (aExt rfl rfl _ rfl (by kernel_rfl) (by kernel_rfl) (by kernel_rfl) rfl rfl rfl rfl (fun V w h => by obtain ⟨p', c', v', rfl, _⟩ := h; exact ⟨_, _, rfl, rfl⟩)) ?_
        refine aCons (aBox rfl rfl 41 (fun ρ w => by unfold execOp; simp [go_sem]) rfl rfl rfl) ?_
        refine aCons (aBox rfl rfl 44 (fun ρ w => by unfold execOp; simp [go_sem]) rfl rfl rfl) ?_
        refine aCons (aSto rfl rfl 41 _ _ rfl (by kernel_rfl) (by kernel_rfl) (by kernel_rfl) (by kernel_rfl) (by kernel_rfl) rfl rfl rfl rfl rfl (by kernel_rfl) rfl rfl ?_) ?_
        · rintro V w' a x ⟨p', c', v', rfl, _⟩ ea ex
          cases ea
          cases ex
          exact ⟨hoC R.1 p' c', rfl, rfl, rfl⟩
        refine aCons (aSto rfl rfl 44 _ _ rfl (by kernel_rfl) (by kernel_rfl) (by kernel_rfl) (by kernel_rfl) (by kernel_rfl) rfl rfl rfl rfl rfl (by kernel_rfl) rfl rfl ?_) ?_
        · rintro V w' a x ⟨p', c', v', rfl, _, O1, _⟩ ea ex
          cases ea
          cases ex
          obtain ⟨b1, d1, b2, d2, b3, d3, rfl, _⟩ := O1.w
          exact ⟨_, rfl, rfl, rfl⟩
        exact aCons (aAsg rfl rfl _ rfl (by kernel_rfl) (by kernel_rfl)) (aNil _)
      intro L vv w3 hL hb3 G
      obtain ⟨g1, cs1, e9, e6, X1, hg1, hf1⟩ := boxed hL G 11 9 6 rfl rfl rfl rfl rfl rfl rfl rfl
      obtain ⟨g2, cs2, e10, e7, X2, hg2, hf2⟩ := boxed hL G 12 10 7 rfl rfl rfl rfl rfl rfl rfl rfl
      obtain ⟨⟨p', c', v', eV, W3, O3, hs3⟩, _, _⟩ := (G 4 _ rfl).2.2.1 rfl
      obtain ⟨_, y1, z6⟩ := (G 6 _ rfl).2.2.2.2.1 rfl
      obtain ⟨_, y2, z7⟩ := (G 7 _ rfl).2.2.2.2.1 rfl
      obtain ⟨_, y3, z8⟩ := (G 8 _ rfl).2.2.2.2.1 rfl
      have e13 := (G 13 _ rfl).2.2.2.2.2.2.2 rfl
      rw [eV] at y1 y2 y3
      cases y1
      cases y2
      cases y3
      replace z6 : hoV R.1 p' c' = vv 6 := Option.some.inj z6
      replace z7 : v' = vv 7 := Option.some.inj z7
      replace z8 : Value.bool R.2.2 = vv 8 := Option.some.inj z8
      replace e13 : vv 13 = .bool R.2.2 := Eq.trans e13 z8.symm
      obtain rfl : cs1 = hoC R.1 p' c' := agg_inj (e6.symm.trans z6.symm)
      obtain ⟨b1, d1, b2, d2, b3, d3, rfl, _⟩ := O3.w
      obtain rfl : cs2 = [.slice b1 R.2.1.sec.length d1, .slice b2 R.2.1.ep.length d2, .slice b3 R.2.1.pe.length d3] := agg_inj (e7.symm.trans z7.symm)
      simp only [putsAll, Act.put, List.setIfInBounds_toArray, List.set_cons_zero, List.set_cons_succ, e9, e10, e13]
      have HX1 := hid X1
      have HX2 := hid X2
      have HR3 := hid (HR2.out.below hb3 HR2.out.lt)
      have HQ3 := hid (HQ2.out.below hb3 HQ2.out.lt)
      have HB3 := hid (HB2.out.trans (hb3.mono HB2.out.size))
      have HW3 := hid W3
      have HO3 := hid O3
      have HS3 := hid hs3
      clear G X1 X2 W3 O3 hs3 hb3 e9 e6 e10 e7 eV z6 z7 z8 e13 hf1 hf2 HA2 HC2 HR2 HQ2
      go_upto_region 4 with fail
      refine region_ret (rs := [⟨0, 0, 0, [.agg (hoC R.1 p' c').toArray]⟩, ⟨0, 0, 0, [.agg [.slice b1 R.2.1.sec.length d1, .slice b2 R.2.1.ep.length d2, .slice b3 R.2.1.pe.length d3].toArray]⟩, ⟨0, 0, 0, [.bool R.2.2]⟩, ⟨2, w.heap.size + 1 + 1, 0, [.int .i64 0, .int .i64 0, .bool false, .bool false, .bool false, .int .i64 0, .int .i64 0, .int .i64 0, .int .i64 0, .string ⟨#[]⟩, .int .i64 0, .int .i64 0, .int .i64 0, .string ⟨#[]⟩, .slice none 0 0, .int .i64 0]⟩, ⟨2, w.heap.size + 1 + 1 + 1, 1, [.slice none 0 0, .slice none 0 0, .slice none 0 0]⟩, ⟨0, 0, 0, [.bool R.2.2]⟩]) (S := fun _ _ _ => True) true (by kernel_rfl) (by kernel_rfl) rfl ?_ [some 29, some 30, some 31, none, none, some 6] (by kernel_rfl) ?_
      · refine rCons (rLoad rfl rfl 41 _ rfl (b := g1) (by kernel_rfl) (by kernel_rfl) _ HX1.out (fun h => by rcases into_two (x := w.heap.size + 1 + 1) (y := w.heap.size + 1 + 1 + 1) h rfl with h | h <;> omega) Tryz.underlying41 rfl (by kernel_rfl)) ?_
        refine rCons (rLoad rfl rfl 44 _ rfl (b := g2) (by kernel_rfl) (by kernel_rfl) _ HX2.out (fun h => by rcases into_two (x := w.heap.size + 1 + 1) (y := w.heap.size + 1 + 1 + 1) h rfl with h | h <;> omega) Tryz.underlying44 rfl (by kernel_rfl)) ?_
        refine rCons (rFix rfl rfl (fun L v a w' K => by have e1 : a.eval (.tmp 9) = .bool R.2.2 := K.off (x := .tmp 9) (by kernel_rfl); generalize a.eval = ρ at e1 ⊢; unfold execOp; go_simp; first | done | rfl)) ?_
        refine rCons (rStore rfl rfl 41 _ _ rfl (by kernel_rfl) (by kernel_rfl) HR3.out (by kernel_rfl) (by kernel_rfl) (by kernel_rfl) (fun m b' hm hne => by simp [storesOf] at hm; omega) rfl rfl rfl rfl rfl) ?_
        refine rCons (rStore rfl rfl 44 _ _ rfl (by kernel_rfl) (by kernel_rfl) HQ3.out (by kernel_rfl) (by kernel_rfl) (by kernel_rfl) (fun m b' hm hne => by simp [storesOf] at hm; omega) rfl rfl rfl rfl rfl) ?_
        refine rCons (rFix rfl rfl (fun L v a w' K => by have e1 : a.eval (.tmp 31) = .bool R.2.2 := K.got 2 (by kernel_rfl) (by kernel_rfl) rfl rfl; generalize a.eval = ρ at e1 ⊢; unfold execOp; go_simp; first | done | rfl)) (rNil _)
      intro L vx w' hL K G
      have e5 : vx 5 = .bool R.2.2 := (G 5 _ rfl).1 rfl
      have R1 := hid (Go.Proofs.YtlhnkdogafnnpaaGreat.Rg.stored G 3 0 (w.heap.size + 1 + 1) (cs := hoC R.1 p' c') rfl rfl rfl rfl)
      have R2 := hid (Go.Proofs.YtlhnkdogafnnpaaGreat.Rg.stored G 4 1 (w.heap.size + 1 + 1 + 1) (cs := [.slice b1 R.2.1.sec.length d1, .slice b2 R.2.1.ep.length d2, .slice b3 R.2.1.pe.length d3]) rfl rfl rfl rfl)
      simp only [putsAll, Act.put, List.setIfInBounds_toArray, List.set_cons_zero, List.set_cons_succ, e5]
      clear G
      go_wp2
      refine bodyPost_ret (results_cct rfl _ _ (w.heap.size + 1 + 1) (w.heap.size + 1 + 1 + 1) (hoC R.1 p' c') [.slice b1 R.2.1.sec.length d1, .slice b2 R.2.1.ep.length d2, .slice b3 R.2.1.pe.length d3] _ _ rfl R1.out Tryz.underlying41 rfl (by kernel_rfl) rfl R2.out Tryz.underlying44 rfl (by kernel_rfl)) rfl ?_
      have K' : Kept (fun b => b = w.heap.size + 1 + 1 ∨ b = w.heap.size + 1 + 1 + 1) w3 w' := K.mono (fun b _ h => into_two h rfl)
      rw [riseA_yes hok hri, HRr.out]
      exact ⟨p', c', _, rfl, (Wr.move HW3.out K' (fun b hb h => by have := Wr.foot_ge HW3.out hb; omega)).mono HB2.out.size, ((HO3.out.kept K' (fun b hb h => by have := (HO3.out.lt hb).1; omega)).mono HB2.out.size).w, fun b hb hd => HS3.out b hb (dkO_foot HO3.out hd), HB3.out.trans (K'.below HB3.out.size (fun b hb h => by omega))⟩

end Go.Proofs.YtlhnkdogafnnpaaGreat.Pl

namespace Go.Proofs.YtlhnkdogafnnpaaGreat.Pl
open Go.RowKit Go.Proofs.YtlhnkdogafnnpaaGreat.Mem Go.Proofs.YtlhnkdogafnnpaaGreat.Sec
set_option linter.unusedVariables false

set_option maxHeartbeats 400000 in
theorem iIsHost (x : Int) (w : World) :
    Calls Tryz.prog 60 #[.int .i64 x] w fun e w' => e = .returned (.bool (decide (0 ≤ x ∧ x < 3))) ∧ w' = w := by
  by_cases h1 : 0 ≤ x
  · by_cases h2 : x < 3
    · rw [decide_eq_true (And.intro h1 h2)]
      go_enter Tryz.func60, Tryz.ntmps60
      go_wp2
      go_ret
      exact ⟨rfl, rfl⟩
    · rw [decide_eq_false (fun h => h2 h.2)]
      go_enter Tryz.func60, Tryz.ntmps60
      go_wp2
      go_ret
      exact ⟨rfl, rfl⟩
  · rw [decide_eq_false (fun h => h1 h.1)]
    go_enter Tryz.func60, Tryz.ntmps60
    go_wp2
    go_ret
    exact ⟨rfl, rfl⟩

set_option maxRecDepth 100000 in
set_option maxHeartbeats 4000000 in
theorem iKeptPlan (w : World) (cd bk : Int) (tx : ByteArray) (p : Option Addr) (c : Nat) (l : List Ou) (S : Ous w p l) (htx : tx.size ≤ 1048576) (hl : l.length ≤ 1048576) (he : ∀ x ∈ l, x.text.size ≤ 1048576) :
    Calls Tryz.prog 79 #[plnV cd bk tx p l.length c] w fun e w' => e = .returned (.bool (keptPlan cd bk tx l)) ∧ Below w.heap.size w w' := by
  unfold plnV
  have HQ : Hid (keptPlan cd bk tx l = (decide (cd = 0) && (decide (-1 ≤ bk ∧ bk ≤ 17) && (decide ((tx.size : Int) ≤ 16) && (decide (l.length ≤ 8) && outsOk l))))) := rfl
  generalize keptPlan cd bk tx l = q at *
  have HS := hid S
  have HL := hid hl
  have HE := hid he
  clear S hl he
  obtain ⟨wa, hwa, ez, A0, B0⟩ := one_new w [.int .i64 cd, .int .i64 bk, .string tx, .slice p l.length c] 39
  have k0 := A0.c 0 rfl
  have k1 := A0.c 1 rfl
  have k2 := A0.c 2 rfl
  have k3 := A0.c 3 rfl
  have HB := hid B0
  clear A0 B0 ez
  go_enter Tryz.func79, Tryz.ntmps79
  by_cases f1 : cd = 0
  rotate_left
  · rw [decide_eq_false f1, Bool.false_and] at HQ
    have f1' := beq_no f1
    go_wp2
    go_ret
    exact ⟨by rw [HQ.out]; rfl, HB.out⟩
  subst f1
  rw [decide_eq_true rfl, Bool.true_and] at HQ
  go_wp2_with fail
  try simp only [hwa]
  clear hwa
  by_cases f2 : -1 ≤ bk ∧ bk ≤ 17
  rotate_left
  · have f2' := decide_eq_false f2
    rw [f2', Bool.false_and] at HQ
    refine (f2' ▸ isFrom bk (-1) 17 _).mono ?_
    rintro r w7 ⟨rfl, hw⟩
    obtain rfl := hw.symm
    clear f2
    go_wp2
    go_ret
    exact ⟨by rw [HQ.out]; rfl, HB.out⟩
  have f2' := decide_eq_true f2
  rw [f2', Bool.true_and] at HQ
  refine (f2' ▸ isFrom bk (-1) 17 _).mono ?_
  rintro r w7 ⟨rfl, hw⟩
  obtain rfl := hw.symm
  clear f2 f2'
  by_cases f3 : (tx.size : Int) ≤ 16
  rotate_left
  · rw [decide_eq_false f3, Bool.false_and] at HQ
    have f3' := decide_eq_false f3
    go_wp2
    go_ret
    exact ⟨by rw [HQ.out]; rfl, HB.out⟩
  rw [decide_eq_true f3, Bool.true_and] at HQ
  go_wp2_with fail
  refine (areOuts wa p c l (HS.out.below HB.out) HL.out HE.out).mono ?_
  rintro r w8 ⟨rfl, b8⟩
  have HB8 := hid (HB.out.trans (b8.mono HB.out.size))
  clear b8
  go_wp2
  go_ret
  exact ⟨by rw [HQ.out]; rfl, HB8.out⟩

end Go.Proofs.YtlhnkdogafnnpaaGreat.Pl

namespace Go.Proofs.YtlhnkdogafnnpaaGreat.Pl
open Go.RowKit Go.Proofs.YtlhnkdogafnnpaaGreat.Mem Go.Proofs.YtlhnkdogafnnpaaGreat.Sec
set_option linter.unusedVariables false

set_option maxRecDepth 100000 in
set_option maxHeartbeats 8000000 in
theorem iNoCall (w : World) (H : Ho) (p : Option Addr) (c : Nat) (hl : H.l.length ≤ 1048576) :
    Calls Tryz.prog 63 #[hoV H p c] w fun r w' => r = .returned (.bool H.idle) ∧ Below w.heap.size w w' := by
  obtain ⟨id, ep, up, rd, bz, k, v, t, a, s, pc, cd, bk, tx, l, txn⟩ := H
  have HL : Hid (l.length ≤ 1048576) := hl
  clear hl
  have HQ : Hid (Ho.idle ⟨id, ep, up, rd, bz, k, v, t, a, s, pc, cd, bk, tx, l, txn⟩ = (decide (k = 0 ∧ v = 0 ∧ t = 0 ∧ a = 0 ∧ s = ⟨#[]⟩) && (decide (pc = 0) && zeroPlan cd bk tx l))) := rfl
  generalize Ho.idle ⟨id, ep, up, rd, bz, k, v, t, a, s, pc, cd, bk, tx, l, txn⟩ = q at *
  unfold hoV
  try simp only []
  obtain ⟨wa, hwa, ez, A0, B0⟩ := one_new w [.int .i64 id, .int .i64 ep, .bool up, .bool rd, .bool bz, .int .i64 k, .int .i64 v, .int .i64 t, .int .i64 a, .string s, .int .i64 pc, .int .i64 cd, .int .i64 bk, .string tx, .slice p l.length c, .int .i64 txn] 41
  have HA := hid A0
  have HB := hid B0
  clear B0 ez
  have k0 := A0.c 0 rfl
  have k1 := A0.c 1 rfl
  have k2 := A0.c 2 rfl
  have k3 := A0.c 3 rfl
  have k4 := A0.c 4 rfl
  have k5 := A0.c 5 rfl
  have k6 := A0.c 6 rfl
  have k7 := A0.c 7 rfl
  have k8 := A0.c 8 rfl
  have k9 := A0.c 9 rfl
  have k10 := A0.c 10 rfl
  have k11 := A0.c 11 rfl
  have k12 := A0.c 12 rfl
  have k13 := A0.c 13 rfl
  have k14 := A0.c 14 rfl
  have k15 := A0.c 15 rfl
  clear A0
  have hgl := guardOpT
  go_enter Tryz.func63, Tryz.ntmps63
  cases hz : decide (k = 0 ∧ v = 0 ∧ t = 0 ∧ a = 0 ∧ s = ⟨#[]⟩) with
  | false =>
    rw [hz, Bool.false_and] at HQ
    have heq := eql_is hz
    clear hz
    go_wp2
    go_ret
    exact ⟨by rw [HQ.out]; rfl, HB.out⟩
  | true =>
    rw [hz, Bool.true_and] at HQ
    have heq := eql_is hz
    clear hz
    by_cases e2 : pc = 0
    rotate_left
    · rw [decide_eq_false e2, Bool.false_and] at HQ
      have e2' := beq_no e2
      go_wp2
      go_ret
      exact ⟨by rw [HQ.out]; rfl, HB.out⟩
    subst e2
    rw [decide_eq_true rfl, Bool.true_and] at HQ
    go_wp2_with fail
    try simp only [hwa]
    clear hwa
    refine (iZeroPlan _ cd bk tx p c l HL.out).mono ?_
    rintro r w4 ⟨rfl, b4⟩
    have HB4 := hid (HB.out.trans (b4.mono HB.out.size))
    clear b4 heq
    go_wp2
    go_ret
    exact ⟨by rw [HQ.out]; rfl, HB4.out⟩

end Go.Proofs.YtlhnkdogafnnpaaGreat.Pl

namespace Go.Proofs.YtlhnkdogafnnpaaGreat.Pl
open Go.RowKit Go.Proofs.YtlhnkdogafnnpaaGreat.Mem Go.Proofs.YtlhnkdogafnnpaaGreat.Sec
set_option linter.unusedVariables false

set_option maxRecDepth 100000 in
set_option maxHeartbeats 8000000 in
theorem iFallen (w : World) (H : Ho) (p : Option Addr) (c : Nat) (hl : H.l.length ≤ 1048576) :
    Calls Tryz.prog 61 #[hoV H p c] w fun r w' => r = .returned (.bool H.down) ∧ Below w.heap.size w w' := by
  obtain ⟨id, ep, up, rd, bz, k, v, t, a, s, pc, cd, bk, tx, l, txn⟩ := H
  have HL : Hid (l.length ≤ 1048576) := hl
  clear hl
  obtain ⟨I, hI⟩ : ∃ I, Ho.idle ⟨id, ep, up, rd, bz, k, v, t, a, s, pc, cd, bk, tx, l, txn⟩ = I := ⟨_, rfl⟩
  have HI := hid hI
  have HQ : Hid (Ho.down ⟨id, ep, up, rd, bz, k, v, t, a, s, pc, cd, bk, tx, l, txn⟩ = (decide (ep = 0) && (!rd && (!bz && (decide (txn = 0) && Ho.idle ⟨id, ep, up, rd, bz, k, v, t, a, s, pc, cd, bk, tx, l, txn⟩))))) := rfl
  generalize Ho.down ⟨id, ep, up, rd, bz, k, v, t, a, s, pc, cd, bk, tx, l, txn⟩ = q at *
  unfold hoV
  try simp only []
  obtain ⟨wa, hwa, ez, A0, B0⟩ := one_new w [.int .i64 id, .int .i64 ep, .bool up, .bool rd, .bool bz, .int .i64 k, .int .i64 v, .int .i64 t, .int .i64 a, .string s, .int .i64 pc, .int .i64 cd, .int .i64 bk, .string tx, .slice p l.length c, .int .i64 txn] 41
  have HA := hid A0
  have HB := hid B0
  clear B0 ez
  have k0 := A0.c 0 rfl
  have k1 := A0.c 1 rfl
  have k2 := A0.c 2 rfl
  have k3 := A0.c 3 rfl
  have k4 := A0.c 4 rfl
  have k5 := A0.c 5 rfl
  have k6 := A0.c 6 rfl
  have k7 := A0.c 7 rfl
  have k8 := A0.c 8 rfl
  have k9 := A0.c 9 rfl
  have k10 := A0.c 10 rfl
  have k11 := A0.c 11 rfl
  have k12 := A0.c 12 rfl
  have k13 := A0.c 13 rfl
  have k14 := A0.c 14 rfl
  have k15 := A0.c 15 rfl
  clear A0
  have hgl := guardOpT
  go_enter Tryz.func61, Tryz.ntmps61
  rw [HI.out] at HQ
  clear hI
  by_cases e1 : ep = 0
  rotate_left
  · rw [decide_eq_false e1, Bool.false_and] at HQ
    have e1' := beq_no e1
    go_wp2
    go_ret
    exact ⟨by rw [HQ.out]; rfl, HB.out⟩
  subst e1
  rw [decide_eq_true rfl, Bool.true_and] at HQ
  cases rd with
  | true =>
    simp only [Bool.not_true, Bool.false_and] at HQ
    go_wp2
    go_ret
    exact ⟨by rw [HQ.out]; rfl, HB.out⟩
  | false =>
    simp only [Bool.not_false, Bool.true_and] at HQ
    cases bz with
    | true =>
      simp only [Bool.not_true, Bool.false_and] at HQ
      go_wp2
      go_ret
      exact ⟨by rw [HQ.out]; rfl, HB.out⟩
    | false =>
      simp only [Bool.not_false, Bool.true_and] at HQ
      by_cases e3 : txn = 0
      rotate_left
      · rw [decide_eq_false e3, Bool.false_and] at HQ
        have e3' := beq_no e3
        go_wp2
        go_ret
        exact ⟨by rw [HQ.out]; rfl, HB.out⟩
      subst e3
      rw [decide_eq_true rfl, Bool.true_and] at HQ
      go_wp2_with fail
      try simp only [hwa]
      clear hwa
      refine (iNoCall wa ⟨id, 0, up, false, false, k, v, t, a, s, pc, cd, bk, tx, l, 0⟩ p c HL.out).mono ?_
      rintro r w4 ⟨rfl, b4⟩
      have HB4 := hid (HB.out.trans (b4.mono HB.out.size))
      rw [HI.out]
      clear b4
      go_wp2
      go_ret
      exact ⟨by rw [HQ.out]; rfl, HB4.out⟩

end Go.Proofs.YtlhnkdogafnnpaaGreat.Pl

namespace Go.Proofs.YtlhnkdogafnnpaaGreat.Pl
open Go.RowKit Go.Proofs.YtlhnkdogafnnpaaGreat.Mem Go.Proofs.YtlhnkdogafnnpaaGreat.Sec
set_option linter.unusedVariables false

set_option maxRecDepth 100000 in
set_option maxHeartbeats 8000000 in
theorem iRightCall (w : World) (H : Ho) (p : Option Addr) (c : Nat) (S : Ous w p H.l) (hu : H.Upto 1048576) :
    Calls Tryz.prog 64 #[hoV H p c] w fun r w' => r = .returned (.bool H.busy) ∧ Below w.heap.size w w' := by
  obtain ⟨id, ep, up, rd, bz, k, v, t, a, s, pc, cd, bk, tx, l, txn⟩ := H
  have HS : Hid (Ous w p l) := S
  have hs : s.size ≤ 1048576 := hu.s
  have htx : tx.size ≤ 1048576 := hu.tx
  have HL : Hid (l.length ≤ 1048576) := hu.l
  have HE : Hid (∀ x ∈ l, x.text.size ≤ 1048576) := hu.each
  clear S hu
  have HZK := hid (@zero_kept cd bk tx l)
  have HQ : Hid (Ho.busy ⟨id, ep, up, rd, bz, k, v, t, a, s, pc, cd, bk, tx, l, txn⟩ = (opRight k v t a s && (decide (0 ≤ pc ∧ pc ≤ 20) && (!(decide (1 ≤ pc ∧ pc ≤ 3) && decide (1000000 ≤ txn)) && (if pc = 0 then zeroPlan cd bk tx l else keptPlan cd bk tx l))))) := rfl
  generalize Ho.busy ⟨id, ep, up, rd, bz, k, v, t, a, s, pc, cd, bk, tx, l, txn⟩ = q at *
  unfold hoV
  try simp only []
  obtain ⟨wa, hwa, ez, A0, B0⟩ := one_new w [.int .i64 id, .int .i64 ep, .bool up, .bool rd, .bool bz, .int .i64 k, .int .i64 v, .int .i64 t, .int .i64 a, .string s, .int .i64 pc, .int .i64 cd, .int .i64 bk, .string tx, .slice p l.length c, .int .i64 txn] 41
  have HA := hid A0
  have HB := hid B0
  clear B0 ez
  have k0 := A0.c 0 rfl
  have k1 := A0.c 1 rfl
  have k2 := A0.c 2 rfl
  have k3 := A0.c 3 rfl
  have k4 := A0.c 4 rfl
  have k5 := A0.c 5 rfl
  have k6 := A0.c 6 rfl
  have k7 := A0.c 7 rfl
  have k8 := A0.c 8 rfl
  have k9 := A0.c 9 rfl
  have k10 := A0.c 10 rfl
  have k11 := A0.c 11 rfl
  have k12 := A0.c 12 rfl
  have k13 := A0.c 13 rfl
  have k14 := A0.c 14 rfl
  have k15 := A0.c 15 rfl
  clear A0
  have hgl := guardOpT
  go_enter Tryz.func64, Tryz.ntmps64
  go_wp2_with fail
  try simp only [hwa]
  clear hwa
  cases hz : opRight k v t a s with
  | false =>
    rw [hz, Bool.false_and] at HQ
    have ho := iOpOk k v t a s wa hs
    rw [hz] at ho
    refine ho.mono ?_
    rintro r w4 ⟨rfl, b4⟩
    have HB4 := hid (HB.out.trans (b4.mono HB.out.size))
    clear b4 hz ho
    go_wp2
    go_ret
    exact ⟨by rw [HQ.out]; rfl, HB4.out⟩
  | true =>
    rw [hz, Bool.true_and] at HQ
    have ho := iOpOk k v t a s wa hs
    rw [hz] at ho
    refine ho.mono ?_
    rintro r w4 ⟨rfl, b4⟩
    have HB4 := hid (HB.out.trans (b4.mono HB.out.size))
    have HA4 := hid (HA.out.below b4 HA.out.lt)
    clear b4 hz ho k0 k1 k2 k3 k4 k5 k6 k7 k8 k9 k10 k11 k12 k13 k14 k15
    have k10 := HA4.out.c 10 rfl
    have k11 := HA4.out.c 11 rfl
    have k12 := HA4.out.c 12 rfl
    have k13 := HA4.out.c 13 rfl
    have k14 := HA4.out.c 14 rfl
    have k15 := HA4.out.c 15 rfl
    go_wp2_with fail
    by_cases c3 : 0 ≤ pc ∧ pc ≤ 20
    rotate_left
    · have c3' := decide_eq_false c3
      rw [c3', Bool.false_and] at HQ
      refine (c3' ▸ isFrom pc 0 20 _).mono ?_
      rintro r w5 ⟨rfl, hw⟩
      obtain rfl := hw.symm
      clear c3
      go_wp2
      go_ret
      exact ⟨by rw [HQ.out]; rfl, HB4.out⟩
    have c3' := decide_eq_true c3
    rw [c3', Bool.true_and] at HQ
    refine (c3' ▸ isFrom pc 0 20 _).mono ?_
    rintro r w5 ⟨rfl, hw⟩
    obtain rfl := hw.symm
    clear c3 c3'
    go_wp2_with fail
    have hkp := iKeptPlan w4 cd bk tx p c l (HS.out.below HB4.out) htx HL.out HE.out
    cases hk : keptPlan cd bk tx l with
    | false =>
      have hif : (if pc = 0 then zeroPlan cd bk tx l else keptPlan cd bk tx l) = false := by
        split
        · cases hzz : zeroPlan cd bk tx l with
          | false => rfl
          | true => rw [HZK.out hzz] at hk; cases hk
        · exact hk
      rw [hif, Bool.and_false] at HQ
      rw [hk] at hkp
      refine hkp.mono ?_
      rintro r w6 ⟨rfl, b6⟩
      have HB6 := hid (HB4.out.trans (b6.mono HB4.out.size))
      clear b6 hkp hk hif
      go_wp2
      go_ret
      exact ⟨by rw [HQ.out]; rfl, HB6.out⟩
    | true =>
      rw [hk] at hkp HQ
      refine hkp.mono ?_
      rintro r w6 ⟨rfl, b6⟩
      have HB6 := hid (HB4.out.trans (b6.mono HB4.out.size))
      have HA6 := hid (HA4.out.below b6 HA4.out.lt)
      clear b6 hkp hk k10 k11 k12 k13 k14 k15 HZK
      have k10 := HA6.out.c 10 rfl
      have k11 := HA6.out.c 11 rfl
      have k12 := HA6.out.c 12 rfl
      have k13 := HA6.out.c 13 rfl
      have k14 := HA6.out.c 14 rfl
      have k15 := HA6.out.c 15 rfl
      by_cases e6 : pc = 0
      · subst e6
        rw [if_pos rfl] at HQ
        have hzc := iZeroPlan w6 cd bk tx p c l HL.out
        go_wp2_with fail
        cases hzp : zeroPlan cd bk tx l with
        | false =>
          rw [hzp, Bool.and_false] at HQ
          rw [hzp] at hzc
          refine hzc.mono ?_
          rintro r w7 ⟨rfl, b7⟩
          have HB7 := hid (HB6.out.trans (b7.mono HB6.out.size))
          clear b7 hzc hzp
          go_wp2
          go_ret
          exact ⟨by rw [HQ.out]; rfl, HB7.out⟩
        | true =>
          rw [hzp, Bool.and_true] at HQ
          rw [hzp] at hzc
          refine hzc.mono ?_
          rintro r w7 ⟨rfl, b7⟩
          have HB7 := hid (HB6.out.trans (b7.mono HB6.out.size))
          have HA7 := hid (HA6.out.below b7 HA6.out.lt)
          clear b7 hzc hzp k10 k11 k12 k13 k14 k15
          have k10 := HA7.out.c 10 rfl
          have k15 := HA7.out.c 15 rfl
          have hd0 : decide (1 ≤ (0 : Int) ∧ (0 : Int) ≤ 3) = false := by decide
          rw [hd0, Bool.false_and] at HQ
          simp only [Bool.not_false] at HQ
          by_cases c5 : txn < 1000000
          · have c5' := decide_eq_true c5
            go_wp2
            go_ret
            exact ⟨by rw [HQ.out]; rfl, HB7.out⟩
          · have c5' := decide_eq_false c5
            go_wp2_with fail
            refine (hd0 ▸ isFrom 0 1 3 _).mono ?_
            rintro r w8 ⟨rfl, hw⟩
            obtain rfl := hw.symm
            go_wp2
            go_ret
            exact ⟨by rw [HQ.out]; rfl, HB7.out⟩
      · rw [if_neg e6, Bool.and_true] at HQ
        have e6' := beq_no e6
        by_cases c5 : txn < 1000000
        · have c5' := decide_eq_true c5
          rw [decide_eq_false (show ¬ 1000000 ≤ txn by omega), Bool.and_false] at HQ
          simp only [Bool.not_false] at HQ
          go_wp2
          go_ret
          exact ⟨by rw [HQ.out]; rfl, HB6.out⟩
        · have c5' := decide_eq_false c5
          rw [decide_eq_true (show 1000000 ≤ txn by omega), Bool.and_true] at HQ
          go_wp2_with fail
          refine (isFrom pc 1 3 _).mono ?_
          rintro r w8 ⟨rfl, hw⟩
          obtain rfl := hw.symm
          generalize decide (1 ≤ pc ∧ pc ≤ 3) = z at *
          clear c5 e6
          go_wp2
          go_ret
          exact ⟨by rw [HQ.out]; rfl, HB6.out⟩

end Go.Proofs.YtlhnkdogafnnpaaGreat.Pl

namespace Go.Proofs.YtlhnkdogafnnpaaGreat.Pl
open Go.RowKit Go.Proofs.YtlhnkdogafnnpaaGreat.Mem Go.Proofs.YtlhnkdogafnnpaaGreat.Sec
set_option linter.unusedVariables false

set_option maxRecDepth 100000 in
set_option maxHeartbeats 8000000 in
theorem iHostOk (w : World) (H : Ho) (p : Option Addr) (c : Nat) (S : Ous w p H.l) (hu : H.Upto 1048576) :
    Calls Tryz.prog 31 #[hoV H p c] w fun r w' => r = .returned (.bool H.ok) ∧ Below w.heap.size w w' := by
  obtain ⟨id, ep, up, rd, bz, k, v, t, a, s, pc, cd, bk, tx, l, txn⟩ := H
  have HS : Hid (Ous w p l) := S
  have HU : Hid (Ho.Upto 1048576 ⟨id, ep, up, rd, bz, k, v, t, a, s, pc, cd, bk, tx, l, txn⟩) := hu
  clear S hu
  obtain ⟨qidle, hidle⟩ : ∃ I, Ho.idle ⟨id, ep, up, rd, bz, k, v, t, a, s, pc, cd, bk, tx, l, txn⟩ = I := ⟨_, rfl⟩
  have Hidle := hid hidle
  obtain ⟨qdown, hdown⟩ : ∃ I, Ho.down ⟨id, ep, up, rd, bz, k, v, t, a, s, pc, cd, bk, tx, l, txn⟩ = I := ⟨_, rfl⟩
  have Hdown := hid hdown
  obtain ⟨qbusy, hbusy⟩ : ∃ I, Ho.busy ⟨id, ep, up, rd, bz, k, v, t, a, s, pc, cd, bk, tx, l, txn⟩ = I := ⟨_, rfl⟩
  have Hbusy := hid hbusy
  have HQ : Hid (Ho.ok ⟨id, ep, up, rd, bz, k, v, t, a, s, pc, cd, bk, tx, l, txn⟩ = (decide (0 ≤ id ∧ id < 3) && (if up = true then decide (1 ≤ ep ∧ ep ≤ 100000) && (decide (0 ≤ txn ∧ txn ≤ 1000000) && (if bz = true then Ho.busy ⟨id, ep, up, rd, bz, k, v, t, a, s, pc, cd, bk, tx, l, txn⟩ else Ho.idle ⟨id, ep, up, rd, bz, k, v, t, a, s, pc, cd, bk, tx, l, txn⟩)) else Ho.down ⟨id, ep, up, rd, bz, k, v, t, a, s, pc, cd, bk, tx, l, txn⟩))) := rfl
  generalize Ho.ok ⟨id, ep, up, rd, bz, k, v, t, a, s, pc, cd, bk, tx, l, txn⟩ = q at *
  unfold hoV
  try simp only []
  obtain ⟨wa, hwa, ez, A0, B0⟩ := one_new w [.int .i64 id, .int .i64 ep, .bool up, .bool rd, .bool bz, .int .i64 k, .int .i64 v, .int .i64 t, .int .i64 a, .string s, .int .i64 pc, .int .i64 cd, .int .i64 bk, .string tx, .slice p l.length c, .int .i64 txn] 41
  have HA := hid A0
  have HB := hid B0
  clear B0 ez
  have k0 := A0.c 0 rfl
  have k1 := A0.c 1 rfl
  have k2 := A0.c 2 rfl
  have k3 := A0.c 3 rfl
  have k4 := A0.c 4 rfl
  have k5 := A0.c 5 rfl
  have k6 := A0.c 6 rfl
  have k7 := A0.c 7 rfl
  have k8 := A0.c 8 rfl
  have k9 := A0.c 9 rfl
  have k10 := A0.c 10 rfl
  have k11 := A0.c 11 rfl
  have k12 := A0.c 12 rfl
  have k13 := A0.c 13 rfl
  have k14 := A0.c 14 rfl
  have k15 := A0.c 15 rfl
  clear A0
  have hgl := guardOpT
  go_enter Tryz.func31, Tryz.ntmps31
  rw [Hidle.out, Hdown.out, Hbusy.out] at HQ
  clear hidle hdown hbusy
  go_wp2_with fail
  try simp only [hwa]
  clear hwa
  by_cases c0 : 0 ≤ id ∧ id < 3
  rotate_left
  · have c0' := decide_eq_false c0
    rw [c0', Bool.false_and] at HQ
    refine (c0' ▸ iIsHost id _).mono ?_
    rintro r w1 ⟨rfl, hw⟩
    obtain rfl := hw.symm
    clear c0
    go_wp2
    go_ret
    exact ⟨by rw [HQ.out]; rfl, HB.out⟩
  have c0' := decide_eq_true c0
  rw [c0', Bool.true_and] at HQ
  refine (c0' ▸ iIsHost id _).mono ?_
  rintro r w1 ⟨rfl, hw⟩
  obtain rfl := hw.symm
  clear c0 c0'
  cases up with
  | false =>
    simp only [Bool.false_eq_true, if_false] at HQ
    go_wp2_with fail
    refine (iFallen wa ⟨id, ep, false, rd, bz, k, v, t, a, s, pc, cd, bk, tx, l, txn⟩ p c HU.out.l).mono ?_
    rintro r w4 ⟨rfl, b4⟩
    rw [Hdown.out]
    have HB4 := hid (HB.out.trans (b4.mono HB.out.size))
    clear b4
    go_wp2
    go_ret
    exact ⟨by rw [HQ.out]; rfl, HB4.out⟩
  | true =>
    simp only [if_true] at HQ
    go_wp2_with fail
    by_cases c1 : 1 ≤ ep ∧ ep ≤ 100000
    rotate_left
    · have c1' := decide_eq_false c1
      rw [c1', Bool.false_and] at HQ
      refine (c1' ▸ isFrom ep 1 100000 _).mono ?_
      rintro r w2 ⟨rfl, hw⟩
      obtain rfl := hw.symm
      clear c1
      go_wp2
      go_ret
      exact ⟨by rw [HQ.out]; rfl, HB.out⟩
    have c1' := decide_eq_true c1
    rw [c1', Bool.true_and] at HQ
    refine (c1' ▸ isFrom ep 1 100000 _).mono ?_
    rintro r w2 ⟨rfl, hw⟩
    obtain rfl := hw.symm
    clear c1 c1'
    go_wp2_with fail
    by_cases c2 : 0 ≤ txn ∧ txn ≤ 1000000
    rotate_left
    · have c2' := decide_eq_false c2
      rw [c2', Bool.false_and] at HQ
      refine (c2' ▸ isFrom txn 0 1000000 _).mono ?_
      rintro r w3 ⟨rfl, hw⟩
      obtain rfl := hw.symm
      clear c2
      go_wp2
      go_ret
      exact ⟨by rw [HQ.out]; rfl, HB.out⟩
    have c2' := decide_eq_true c2
    rw [c2', Bool.true_and] at HQ
    refine (c2' ▸ isFrom txn 0 1000000 _).mono ?_
    rintro r w3 ⟨rfl, hw⟩
    obtain rfl := hw.symm
    clear c2 c2'
    cases bz with
    | false =>
      simp only [Bool.false_eq_true, if_false] at HQ
      go_wp2_with fail
      refine (iNoCall wa ⟨id, ep, true, rd, false, k, v, t, a, s, pc, cd, bk, tx, l, txn⟩ p c HU.out.l).mono ?_
      rintro r w4 ⟨rfl, b4⟩
      rw [Hidle.out]
      have HB4 := hid (HB.out.trans (b4.mono HB.out.size))
      clear b4
      go_wp2
      go_ret
      exact ⟨by rw [HQ.out]; rfl, HB4.out⟩
    | true =>
      simp only [if_true] at HQ
      go_wp2_with fail
      refine (iRightCall wa ⟨id, ep, true, rd, true, k, v, t, a, s, pc, cd, bk, tx, l, txn⟩ p c (HS.out.below HB.out) HU.out).mono ?_
      rintro r w4 ⟨rfl, b4⟩
      rw [Hbusy.out]
      have HB4 := hid (HB.out.trans (b4.mono HB.out.size))
      clear b4
      go_wp2
      go_ret
      exact ⟨by rw [HQ.out]; rfl, HB4.out⟩

end Go.Proofs.YtlhnkdogafnnpaaGreat.Pl
