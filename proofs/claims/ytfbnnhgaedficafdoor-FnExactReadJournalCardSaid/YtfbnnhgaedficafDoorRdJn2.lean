/-
  The walks of impl.opParts and impl.journalParts. Condition: the error of a part that lacks stands in its variable.
-/
import Derived.Test.YtfbnnhgaedficafDoorRdJn
import Derived.Test.YtfbnnhgaedficafDoorRdVol
import Derived.Deep.RegionHeldLaw
import Derived.Deep.RegionWith
import Derived.RegionDies
namespace Go.Proofs.YtfbnnhgaedficafDoor.Rd
open Go.RowKit Go.Proofs.YtfbnnhgaedficafDoor.Mem Go.Proofs.YtfbnnhgaedficafDoor.Sec
set_option linter.unusedVariables false

theorem ir_cells {w : World} {B : Nat} {v : Value} {l : List Int} (h : Ir w B v l) (h0 : 0 < l.length) : ∃ g off cap, v = .slice (some ⟨g, off, none⟩) l.length cap ∧ B ≤ g ∧ g < w.heap.size ∧ ∀ i x, l[i]? = some x → w.cell? ⟨g, off + i, none⟩ = some (.int .i64 x) := by
  obtain ⟨a, cap, rfl, hW⟩ := h.w
  obtain ⟨g, off, rfl, hB, c0, _⟩ := hW 0 h0
  refine ⟨g, off, cap, rfl, hB, World.block_lt_of_cell? w _ c0, fun i x hi => ?_⟩
  obtain ⟨hi8, hv⟩ := List.getElem?_eq_some_iff.1 hi
  obtain ⟨g1, off1, e1, _, c1, _⟩ := hW i hi8
  cases e1
  rw [c1, ← hv]
  simp [List.getD, List.getElem?_eq_getElem hi8]

theorem cell_kept {S : Nat → Prop} {w w' : World} {g o : Nat} {v : Value} (h : w.cell? ⟨g, o, none⟩ = some v) (k : Kept S w w') (hn : ¬ S g) : w'.cell? ⟨g, o, none⟩ = some v := by
  rw [cell_block (p := ⟨g, o, none⟩) (k.block g (World.block_lt_of_cell? w _ h) hn)]; exact h

/-- Of what can't be, anything. -/
theorem dead (f : FuncId) (args : Array Value) (w : World) (v : Value) (hf : False) : Calls Tryd.prog f args w fun e w' => e = .returned v ∧ w' = w := hf.elim

theorem cell_set {w : World} {g o b j : Nat} {v x : Value} (h : w.cell? ⟨g, o, none⟩ = some v) (hn : ¬ g = b) : (w.setCell ⟨b, j, none⟩ x).cell? ⟨g, o, none⟩ = some v := by
  rw [World.cell?_setCell_other _ _ _ _ (fun e => hn (by injection e; simp_all))]
  exact h

theorem cell_set5 {w : World} {g o b : Nat} {v x0 x1 x2 x3 x4 : Value} (h : w.cell? ⟨g, o, none⟩ = some v) (hn : ¬ g = b) : (((((w.setCell ⟨b, 0, none⟩ x0).setCell ⟨b, 1, none⟩ x1).setCell ⟨b, 2, none⟩ x2).setCell ⟨b, 3, none⟩ x3).setCell ⟨b, 4, none⟩ x4).cell? ⟨g, o, none⟩ = some v :=
  cell_set (cell_set (cell_set (cell_set (cell_set h hn) hn) hn) hn) hn

theorem kept_set5 (w : World) (b : Nat) (x0 x1 x2 x3 x4 : Value) : Kept (fun k => k = b) w (((((w.setCell ⟨b, 0, none⟩ x0).setCell ⟨b, 1, none⟩ x1).setCell ⟨b, 2, none⟩ x2).setCell ⟨b, 3, none⟩ x3).setCell ⟨b, 4, none⟩ x4) :=
  (((((kept_set _ _ _ _).trans (kept_set _ _ _ _)).trans (kept_set _ _ _ _)).trans (kept_set _ _ _ _)).trans (kept_set _ _ _ _)).mono (fun k _ h => by rcases h with (((h | h) | h) | h) | h <;> exact h)

set_option maxRecDepth 100000 in
set_option maxHeartbeats 2000000 in
theorem opParts (R : ByteArray → Int × Nat) (hR : Reads R) (s : ByteArray) (hs : s.size ≤ 1048576) (i : Nat) (w : World) (c : Nat) (h : Cur w c (rest s i)) (u : TypeId) (pv : Value) (hL : Lacks w u pv) (hc : 1 < c) :
    Calls Tryd.prog 91 #[.pointer (some ⟨c, 0, none⟩)] w fun e w' =>
      (∃ k v t a tx z z2, nums R s i 4 = some ([k, v, t, a], z) ∧ pieceAt R s z = some (tx, z2) ∧ e = .returned (opV k v t a tx) ∧ Moved w w' c (rest s z2)) ∨
      ((nums R s i 4 = none ∨ ∃ l z, nums R s i 4 = some (l, z) ∧ pieceAt R s z = none) ∧ e = lack u pv ∧ Kept (fun b => b = c) w w') := by
  have HR := hid hR
  have HH := hid h
  have HL := hid hL
  have hlt := h.lt
  clear hR h hL
  go_enter Tryd.func91, Tryd.ntmps91
  go_wp2_with fail
  obtain ⟨wl, hwl, ez, A0, B0⟩ := one_new w [.int .i64 0, .int .i64 0, .int .i64 0, .int .i64 0, .string ⟨#[]⟩] 38
  simp only [hwl]
  have HA := hid A0
  have HKl : Hid (Kept (fun b => b = c) w wl) := (Kept.of_below B0)
  have HLl := hid (HL.out.kept (Kept.of_below (S := fun _ => False) B0) (fun x => x))
  have HHl := hid (HH.out.below B0)
  clear hwl A0 B0
  refine (numbers R HR.out s hs i 4 (by decide) 0 (by decide) wl c HHl.out u pv HLl.out hc).mono ?_
  rintro e w1 ⟨hg, k1⟩
  have HA1 := hid (HA.out.kept k1 (by omega))
  have HL1 := hid (HLl.out.kept k1 (by omega))
  have HK1 : Hid (Kept (fun b => b = c) w w1) := (HKl.out.trans k1).mono (fun b _ x => by rcases x with x | x <;> exact x)
  have hs1 := k1.size
  clear k1 HA HLl
  cases hn : nums R s i 4 with
  | none =>
    rw [hn] at hg
    obtain rfl : e = lack u pv := hg
    have HN := hid hn
    clear hn
    unfold lack
    go_wp2
    exact ⟨rfl, Or.inr ⟨Or.inl HN.out, rfl, HK1.out⟩⟩
  | some p =>
    obtain ⟨l, z⟩ := p
    rw [hn] at hg
    obtain ⟨vv, rfl, hI, hC⟩ := hg
    rw [map_zero] at hI
    have hl := nums_len hn
    obtain ⟨g, off, cap, rfl, hgB, hgl, hcell⟩ := ir_cells hI (by omega)
    match l, hl with
    | [k, v, t, a], hl =>
    have c0 := hcell 0 k rfl
    have c1 := hcell 1 v rfl
    have c2 := hcell 2 t rfl
    have c3 := hcell 3 a rfl
    rw [Nat.add_zero] at c0
    have HN := hid hn
    have HC := hid hC
    have hgc : ¬ g = c := by omega
    clear hn hI hC hcell hl
    have e0 : w1.drew.cell? ⟨g, off, none⟩ = some (.int .i64 k) := c0
    have e1 : w1.drew.cell? ⟨g, off + 1, none⟩ = some (.int .i64 v) := c1
    have e2 : w1.drew.cell? ⟨g, off + 2, none⟩ = some (.int .i64 t) := c2
    have e3 : w1.drew.cell? ⟨g, off + 3, none⟩ = some (.int .i64 a) := c3
    have HE := hid (And.intro e0 (And.intro e1 (And.intro e2 e3)))
    clear e0 e1 e2 e3
    go_wp2_with fail
    have hP := piece R HR.out s hs z w1.drew c HC.out.drew u pv HL1.out.drew hc
    cases hp : pieceAt R s z with
    | none =>
      have hP' : Calls Tryd.prog 107 #[.pointer (some ⟨c, 0, none⟩)] w1.drew fun e w' => e = .panicked [{ v := .iface u pv, recovered := false }] ∧ Kept (fun b => b = c) w1.drew w' := hP.mono (fun e w' hh => by
        rcases hh with ⟨t, z, q, _⟩ | ⟨_, he, hk⟩
        · rw [hp] at q; cases q
        · exact ⟨he, hk⟩)
      have HQ := hid hP'
      have HNP : Hid (nums R s i 4 = none ∨ ∃ l z, nums R s i 4 = some (l, z) ∧ pieceAt R s z = none) := Or.inr ⟨_, z, HN.out, hp⟩
      have HKx : Hid (∀ w3, Kept (fun b => b = c) w1.drew w3 → Kept (fun b => b = c) w w3) := fun w3 k => (HK1.out.trans (kundrew k)).mono (fun b _ x => by rcases x with x | x <;> exact x)
      clear hP hP' hp HN
      have q0 := HA1.out.c 0 rfl
      have q1 := HA1.out.c 1 rfl
      have q2 := HA1.out.c 2 rfl
      have q3 := HA1.out.c 3 rfl
      have q4 := HA1.out.c 4 rfl
      have f0 := HA1.out.f 0
      have f1 := HA1.out.f 1
      have f2 := HA1.out.f 2
      have f3 := HA1.out.f 3
      have f4 := HA1.out.f 4
      go_region_held_law (fun w' => w'.cell? ⟨g, off, none⟩ = some (.int .i64 k) ∧ w'.cell? ⟨g, off + 1, none⟩ = some (.int .i64 v) ∧ w'.cell? ⟨g, off + 2, none⟩ = some (.int .i64 t) ∧ w'.cell? ⟨g, off + 3, none⟩ = some (.int .i64 a))
        (first | with_reducible exact HE.out | exact hf.out.elim)
        ((go_at_call 107; rcases Classical.em (Hid False) with hf | hnf; rotate_left; (refine HQ.out.mono ?_; rintro e w3 ⟨rfl, k3'⟩; exact ⟨rfl, Or.inr ⟨HNP.out, rfl, HKx.out w3 k3'⟩⟩); (refine (dead 107 #[.pointer (some ⟨c, 0, none⟩)] w1.drew (.string ⟨#[]⟩) hf.out).mono ?_; rintro e w3 ⟨rfl, rfl⟩)))
      all_goals exact hf.out.elim
    | some q =>
      obtain ⟨tx, z2⟩ := q
      have hP' : Calls Tryd.prog 107 #[.pointer (some ⟨c, 0, none⟩)] w1.drew fun e w' => e = .returned (.string tx) ∧ Moved w1.drew w' c (rest s z2) := hP.mono (fun e w' hh => by
        rcases hh with ⟨t, z', q, he, hm⟩ | ⟨q, _⟩
        · rw [hp] at q
          simp only [Option.some.injEq, Prod.mk.injEq] at q
          obtain ⟨rfl, rfl⟩ := q
          exact ⟨he, hm⟩
        · rw [hp] at q; cases q)
      have HQ := hid hP'
      have HP := hid hp
      clear hP hP' hp
      have hgA : ¬ g = w.heap.size := by omega
      have hs1' := HK1.out.size
      go_region_held_law (fun w' => w'.cell? ⟨g, off, none⟩ = some (.int .i64 k) ∧ w'.cell? ⟨g, off + 1, none⟩ = some (.int .i64 v) ∧ w'.cell? ⟨g, off + 2, none⟩ = some (.int .i64 t) ∧ w'.cell? ⟨g, off + 3, none⟩ = some (.int .i64 a))
        (first | with_reducible exact HE.out | with_reducible exact HD.out | with_reducible exact ⟨cell_set5 HD.out.1 hgA, cell_set5 HD.out.2.1 hgA, cell_set5 HD.out.2.2.1 hgA, cell_set5 HD.out.2.2.2 hgA⟩)
        ((go_at_call 107; refine HQ.out.mono ?_; rintro e w3 ⟨rfl, M3⟩; have k3 := kundrew M3.2; have HD := hid (And.intro (cell_kept c0 k3 hgc) (And.intro (cell_kept c1 k3 hgc) (And.intro (cell_kept c2 k3 hgc) (cell_kept c3 k3 hgc)))); have RB := HA1.out.kept k3 (by omega); have q0 := RB.c 0 rfl; have q1 := RB.c 1 rfl; have q2 := RB.c 2 rfl; have q3 := RB.c 3 rfl; have q4 := RB.c 4 rfl; have f0 := RB.f 0; have f1 := RB.f 1; have f2 := RB.f 2; have f3 := RB.f 3; have f4 := RB.f 4))
      have hcw : ¬ c = w.heap.size := by omega
      have HRw := hid (((((RB.set 0 (.int .i64 k)).set 1 (.int .i64 v)).set 2 (.int .i64 t)).set 3 (.int .i64 a)).set 4 (.string tx))
      have HM : Hid (Moved w (((((w3.setCell ⟨w.heap.size, 0, none⟩ (.int .i64 k)).setCell ⟨w.heap.size, 1, none⟩ (.int .i64 v)).setCell ⟨w.heap.size, 2, none⟩ (.int .i64 t)).setCell ⟨w.heap.size, 3, none⟩ (.int .i64 a)).setCell ⟨w.heap.size, 4, none⟩ (.string tx)) c (rest s z2)) :=
        ⟨cur_kept M3.1 (kept_set5 w3 w.heap.size _ _ _ _ _) hcw, ((HK1.out.trans k3).trans (kept_set5 w3 w.heap.size _ _ _ _ _)).mono (fun b hb x => by rcases x with (x | x) | x; exact x; exact x; omega)⟩
      clear M3 k3 HD RB q0 q1 q2 q3 q4 f0 f1 f2 f3 f4 c0 c1 c2 c3 HE HQ
      go_wp2
      refine bodyPost_ret (results_row rfl _ _ w.heap.size [.int .i64 k, .int .i64 v, .int .i64 t, .int .i64 a, .string tx] _ rfl HRw.out Tryd.underlying38 rfl (by kernel_rfl)) rfl ?_
      exact Or.inl ⟨k, v, t, a, tx, z, z2, HN.out, HP.out, rfl, HM.out⟩

/-- The parts of a journal's text: the numbers, the text, the outs. -/
def jnAt (R : ByteArray → Int × Nat) (s : ByteArray) : Option (List Int × ByteArray × List Ou) :=
  match nums R s 5 6 with
  | some (l, z) => match pieceAt R s z with
    | some (tx, z1) => match outsAll R s z1 with
      | some (o, _) => some (l, tx, o)
      | none => none
    | none => none
  | none => none

theorem nums_split2 {R : ByteArray → Int × Nat} {s : ByteArray} {i : Nat} : ∀ {n : Nat} {x y : Int} {z : Nat}, nums R s i 2 = some ([x, y], z) → nums R s i (n + 2) = (nums R s z n).map (fun p => (x :: y :: p.1, p.2))
  | 0, x, y, z, h => by rw [h]; rfl
  | n + 1, x, y, z, h => by
    show nums R s i ((n + 2) + 1) = _
    conv => lhs; unfold nums
    rw [nums_split2 (n := n) h]
    conv => rhs; unfold nums
    cases nums R s z n with
    | none => rfl
    | some p =>
      simp only [Option.map_some, Option.bind_some]
      split <;> simp

/-- No journal: a part lacks, or the flag is no flag. -/
def NoJn (R : ByteArray → Int × Nat) (s : ByteArray) : Prop := jnAt R s = none ∨ ∃ x f l z tx o, nums R s 5 6 = some (x :: f :: l, z) ∧ 1 < f ∧ jnAt R s = some (x :: f :: l, tx, o)

theorem jnAt_no1 {R : ByteArray → Int × Nat} {s : ByteArray} (h : nums R s 5 6 = none) : jnAt R s = none := by unfold jnAt; rw [h]
theorem jnAt_no2 {R : ByteArray → Int × Nat} {s : ByteArray} {l : List Int} {z : Nat} (h : nums R s 5 6 = some (l, z)) (h2 : pieceAt R s z = none) : jnAt R s = none := by unfold jnAt; rw [h]; simp only []; rw [h2]
theorem jnAt_no3 {R : ByteArray → Int × Nat} {s : ByteArray} {l : List Int} {z z1 : Nat} {tx : ByteArray} (h : nums R s 5 6 = some (l, z)) (h2 : pieceAt R s z = some (tx, z1)) (h3 : outsAll R s z1 = none) : jnAt R s = none := by unfold jnAt; rw [h]; simp only []; rw [h2]; simp only []; rw [h3]
theorem jnAt_yes {R : ByteArray → Int × Nat} {s : ByteArray} {l : List Int} {z z1 z2 : Nat} {tx : ByteArray} {o : List Ou} (h : nums R s 5 6 = some (l, z)) (h2 : pieceAt R s z = some (tx, z1)) (h3 : outsAll R s z1 = some (o, z2)) : jnAt R s = some (l, tx, o) := by unfold jnAt; rw [h]; simp only []; rw [h2]; simp only []; rw [h3]

theorem noJn_flag {R : ByteArray → Int × Nat} {s : ByteArray} {x : Int} {z : Nat} (h : nums R s 5 1 = some ([x], z)) (hq : (R (rest s z)).2 = 0 ∨ 1 < (R (rest s z)).1) : NoJn R s := by
  have h2 := nums_step h
  by_cases h0 : (R (rest s z)).2 = 0
  · rw [if_pos h0] at h2
    exact Or.inl (jnAt_no1 (nums_none (k := 2) h2 4))
  · rw [if_neg h0] at h2
    have h6 := nums_split2 (n := 4) h2
    have hf : 1 < (R (rest s z)).1 := by rcases hq with q | q; exact absurd q h0; exact q
    cases hn : nums R s (z + (R (rest s z)).2) 4 with
    | none => rw [hn] at h6; exact Or.inl (jnAt_no1 h6)
    | some p =>
      rw [hn] at h6
      have h6' : nums R s 5 6 = some (x :: (R (rest s z)).1 :: p.1, p.2) := h6
      cases hp : pieceAt R s p.2 with
      | none => exact Or.inl (jnAt_no2 h6' hp)
      | some q =>
        obtain ⟨tx, z1⟩ := q
        cases ho : outsAll R s z1 with
        | none => exact Or.inl (jnAt_no3 h6' hp ho)
        | some r =>
          obtain ⟨o, z2⟩ := r
          exact Or.inr ⟨x, _, p.1, p.2, tx, o, h6', hf, jnAt_yes h6' hp ho⟩

end Go.Proofs.YtfbnnhgaedficafDoor.Rd
