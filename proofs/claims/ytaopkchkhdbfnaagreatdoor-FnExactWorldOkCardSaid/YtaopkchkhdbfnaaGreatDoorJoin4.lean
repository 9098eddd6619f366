/-
  The walks of impl.opParts and impl.journalParts. Condition: the error of a part that lacks stands in its variable.
  The walk of impl.journalParts. Condition: the error of a part that lacks stands in its variable.
  The walks of impl.readKind at a journal's sector and impl.ReadJournal. Condition: the table of sixteen sums and the error of a part that lacks stand in their variables; a flag that is no flag is no journal's (a premise of both, to be proved of the text).
  The walks of spec.l4Vars at no place and of spec.l4Take. No condition but texts of at most 2^20 bytes.
  The walk of spec.ReadJournal. No condition but texts of at most 2^20 bytes.
  A journal's text whose flag is read as more than 1 is not what is shown of it: so both sides refuse it. Condition: texts of at most 2^20 bytes.
  Plain: which sectors are a pool's. Each Read, as it is asked by PoolOk: is it read; on both sides. Condition for impl: the table of sixteen sums and the error of a part that lacks stand in their variables.
  Which worlds are right, and what shows that one isn't. No condition.
  An element of a list that is loaded whole and put into a box of its own: three operations in a plain region, however long the struct is. At any program. No condition.
  The walk of impl.HostOk and of what it calls. No condition but texts and lists of at most 2^20.
  The walk of impl.hasNoCall. No condition but lists of at most 2^20.
  The walk of impl.isFallen. No condition but lists of at most 2^20.
  The walk of impl.hasRightCall. No condition but texts and lists of at most 2^20.
  The walk of impl.HostOk. No condition but texts and lists of at most 2^20.
  The walks of impl.isHost, impl.fitsSector, impl.isSector and impl.DiskOk: each answers what it should, and nothing that was there is changed. No condition.
  The walks of impl.areHosts, impl.areEvents and impl.areReplies. No condition but lists of at most 2^20.
-/
import Derived.Test.YtaopkchkhdbfnaaGreatDoorJoin3
import Derived.Test.YtaopkchkhdbfnaaGreatDoorRdVol
import Derived.Deep.RegionHeldLaw
import Derived.Deep.RegionWith
import Derived.RegionDies
import Derived.Tactics
import Derived.Tactics2
import Derived.Defers
import Derived.Recover
import Derived.Laws.ResultCell
import Derived.Deep.RegionLaw
import Derived.Test.YtaopkchkhdbfnaaGreatDoorRdGroup4
import Derived.Test.YtaopkchkhdbfnaaGreatDoorRdVol4
import Derived.Test.YtaopkchkhdbfnaaGreatDoorSectorWalks
import Derived.Test.YtaopkchkhdbfnaaGreatDoorSecRows
import Derived.Test.YtaopkchkhdbfnaaGreatDoorJoin2
namespace Go.Proofs.YtaopkchkhdbfnaaGreatDoor.Rd
open Go.RowKit Go.Proofs.YtaopkchkhdbfnaaGreatDoor.Mem Go.Proofs.YtaopkchkhdbfnaaGreatDoor.Sec
set_option linter.unusedVariables false

theorem ir_cells {w : World} {B : Nat} {v : Value} {l : List Int} (h : Ir w B v l) (h0 : 0 < l.length) : ∃ g off cap, v = .slice (some ⟨g, off, none⟩) l.length cap ∧ B ≤ g ∧ g < w.heap.size ∧ ∀ i x, l[i]? = some x → w.cell? ⟨g, off + i, none⟩ = some (.int .i64 x) := by
  obtain ⟨a, cap, rfl, hW⟩ := h.w
  obtain ⟨g, off, rfl, hB, c0, _⟩ := hW 0 h0
  refine ⟨g, off, cap, rfl, hB, World.block_lt_of_cell? w _ c0, fun i x hi => ?_⟩
  obtain ⟨hi8, hv⟩ := List.getElem?_eq_some_iff.1 hi
  obtain ⟨g1, off1, e1, _, c1, _⟩ := hW i hi8
  cases e1
  rw [c1, ← hv]
  simp [List.getD, List.getElem?_eq_getElem hi8]

theorem cell_kept {S : Nat → Prop} {w w' : World} {g o : Nat} {v : Value} (h : w.cell? ⟨g, o, none⟩ = some v) (k : Kept S w w') (hn : ¬ S g) : w'.cell? ⟨g, o, none⟩ = some v := by
  rw [cell_block (p := ⟨g, o, none⟩) (k.block g (World.block_lt_of_cell? w _ h) hn)]; exact h

/-- Of what can't be, anything. -/
theorem dead (f : FuncId) (args : Array Value) (w : World) (v : Value) (hf : False) : Calls Tryz.prog f args w fun e w' => e = .returned v ∧ w' = w := hf.elim

theorem cell_set {w : World} {g o b j : Nat} {v x : Value} (h : w.cell? ⟨g, o, none⟩ = some v) (hn : ¬ g = b) : (w.setCell ⟨b, j, none⟩ x).cell? ⟨g, o, none⟩ = some v := by
  rw [World.cell?_setCell_other _ _ _ _ (fun e => hn (by injection e; simp_all))]
  exact h

theorem cell_set5 {w : World} {g o b : Nat} {v x0 x1 x2 x3 x4 : Value} (h : w.cell? ⟨g, o, none⟩ = some v) (hn : ¬ g = b) : (((((w.setCell ⟨b, 0, none⟩ x0).setCell ⟨b, 1, none⟩ x1).setCell ⟨b, 2, none⟩ x2).setCell ⟨b, 3, none⟩ x3).setCell ⟨b, 4, none⟩ x4).cell? ⟨g, o, none⟩ = some v :=
  cell_set (cell_set (cell_set (cell_set (cell_set h hn) hn) hn) hn) hn

theorem kept_set5 (w : World) (b : Nat) (x0 x1 x2 x3 x4 : Value) : Kept (fun k => k = b) w (((((w.setCell ⟨b, 0, none⟩ x0).setCell ⟨b, 1, none⟩ x1).setCell ⟨b, 2, none⟩ x2).setCell ⟨b, 3, none⟩ x3).setCell ⟨b, 4, none⟩ x4) :=
  (((((kept_set _ _ _ _).trans (kept_set _ _ _ _)).trans (kept_set _ _ _ _)).trans (kept_set _ _ _ _)).trans (kept_set _ _ _ _)).mono (fun k _ h => by rcases h with (((h | h) | h) | h) | h <;> exact h)

set_option maxRecDepth 100000 in
set_option maxHeartbeats 2000000 in
theorem opParts (R : ByteArray → Int × Nat) (hR : Reads R) (s : ByteArray) (hs : s.size ≤ 1048576) (i : Nat) (w : World) (c : Nat) (h : Cur w c (rest s i)) (u : TypeId) (pv : Value) (hL : Lacks w u pv) (hc : 1 < c) :
    Calls Tryz.prog 181 #[.pointer (some ⟨c, 0, none⟩)] w fun e w' =>
      (∃ k v t a tx z z2, nums R s i 4 = some ([k, v, t, a], z) ∧ pieceAt R s z = some (tx, z2) ∧ e = .returned (opV k v t a tx) ∧ Moved w w' c (rest s z2)) ∨
      ((nums R s i 4 = none ∨ ∃ l z, nums R s i 4 = some (l, z) ∧ pieceAt R s z = none) ∧ e = lack u pv ∧ Kept (fun b => b = c) w w') := by
  have HR := hid hR
  have HH := hid h
  have HL := hid hL
  have hlt := h.lt
  clear hR h hL
  go_enter Tryz.func181, Tryz.ntmps181
  go_wp2_with fail
  obtain ⟨wl, hwl, ez, A0, B0⟩ := one_new w [.int .i64 0, .int .i64 0, .int .i64 0, .int .i64 0, .string ⟨#[]⟩] 58
  simp only [hwl]
  have HA := hid A0
  have HKl : Hid (Kept (fun b => b = c) w wl) := (Kept.of_below B0)
  have HLl := hid (HL.out.kept (Kept.of_below (S := fun _ => False) B0) (fun x => x))
  have HHl := hid (HH.out.below B0)
  clear hwl A0 B0
  refine (numbers R HR.out s hs i 4 (by decide) 0 (by decide) wl c HHl.out u pv HLl.out hc).mono ?_
  rintro e w1 ⟨hg, k1⟩
  have HA1 := hid (HA.out.kept k1 (by omega))
  have HL1 := hid (HLl.out.kept k1 (by omega))
  have HK1 : Hid (Kept (fun b => b = c) w w1) := (HKl.out.trans k1).mono (fun b _ x => by rcases x with x | x <;> exact x)
  have hs1 := k1.size
  clear k1 HA HLl
  cases hn : nums R s i 4 with
  | none =>
    rw [hn] at hg
    obtain rfl : e = lack u pv := hg
    have HN := hid hn
    clear hn
    unfold lack
    go_wp2
    exact ⟨rfl, Or.inr ⟨Or.inl HN.out, rfl, HK1.out⟩⟩
  | some p =>
    obtain ⟨l, z⟩ := p
    rw [hn] at hg
    obtain ⟨vv, rfl, hI, hC⟩ := hg
    rw [map_zero] at hI
    have hl := nums_len hn
    obtain ⟨g, off, cap, rfl, hgB, hgl, hcell⟩ := ir_cells hI (by omega)
    match l, hl with
    | [k, v, t, a], hl =>
    have c0 := hcell 0 k rfl
    have c1 := hcell 1 v rfl
    have c2 := hcell 2 t rfl
    have c3 := hcell 3 a rfl
    rw [Nat.add_zero] at c0
    have HN := hid hn
    have HC := hid hC
    have hgc : ¬ g = c := by omega
    clear hn hI hC hcell hl
    have e0 : w1.drew.cell? ⟨g, off, none⟩ = some (.int .i64 k) := c0
    have e1 : w1.drew.cell? ⟨g, off + 1, none⟩ = some (.int .i64 v) := c1
    have e2 : w1.drew.cell? ⟨g, off + 2, none⟩ = some (.int .i64 t) := c2
    have e3 : w1.drew.cell? ⟨g, off + 3, none⟩ = some (.int .i64 a) := c3
    have HE := hid (And.intro e0 (And.intro e1 (And.intro e2 e3)))
    clear e0 e1 e2 e3
    go_wp2_with fail
    have hP := piece R HR.out s hs z w1.drew c HC.out.drew u pv HL1.out.drew hc
    cases hp : pieceAt R s z with
    | none =>
      have hP' : Calls Tryz.prog 233 #[.pointer (some ⟨c, 0, none⟩)] w1.drew fun e w' => e = .panicked [{ v := .iface u pv, recovered := false }] ∧ Kept (fun b => b = c) w1.drew w' := hP.mono (fun e w' hh => by
        rcases hh with ⟨t, z, q, _⟩ | ⟨_, he, hk⟩
        · rw [hp] at q; cases q
        · exact ⟨he, hk⟩)
      have HQ := hid hP'
      have HNP : Hid (nums R s i 4 = none ∨ ∃ l z, nums R s i 4 = some (l, z) ∧ pieceAt R s z = none) := Or.inr ⟨_, z, HN.out, hp⟩
      have HKx : Hid (∀ w3, Kept (fun b => b = c) w1.drew w3 → Kept (fun b => b = c) w w3) := fun w3 k => (HK1.out.trans (kundrew k)).mono (fun b _ x => by rcases x with x | x <;> exact x)
      clear hP hP' hp HN
      have q0 := HA1.out.c 0 rfl
      have q1 := HA1.out.c 1 rfl
      have q2 := HA1.out.c 2 rfl
      have q3 := HA1.out.c 3 rfl
      have q4 := HA1.out.c 4 rfl
      have f0 := HA1.out.f 0
      have f1 := HA1.out.f 1
      have f2 := HA1.out.f 2
      have f3 := HA1.out.f 3
      have f4 := HA1.out.f 4
      go_region_held_law (fun w' => w'.cell? ⟨g, off, none⟩ = some (.int .i64 k) ∧ w'.cell? ⟨g, off + 1, none⟩ = some (.int .i64 v) ∧ w'.cell? ⟨g, off + 2, none⟩ = some (.int .i64 t) ∧ w'.cell? ⟨g, off + 3, none⟩ = some (.int .i64 a))
        (first | with_reducible exact HE.out | exact hf.out.elim)
        ((go_at_call 233; rcases Classical.em (Hid False) with hf | hnf; rotate_left; (refine HQ.out.mono ?_; rintro e w3 ⟨rfl, k3'⟩; exact ⟨rfl, Or.inr ⟨HNP.out, rfl, HKx.out w3 k3'⟩⟩); (refine (dead 233 #[.pointer (some ⟨c, 0, none⟩)] w1.drew (.string ⟨#[]⟩) hf.out).mono ?_; rintro e w3 ⟨rfl, rfl⟩)))
      all_goals exact hf.out.elim
    | some q =>
      obtain ⟨tx, z2⟩ := q
      have hP' : Calls Tryz.prog 233 #[.pointer (some ⟨c, 0, none⟩)] w1.drew fun e w' => e = .returned (.string tx) ∧ Moved w1.drew w' c (rest s z2) := hP.mono (fun e w' hh => by
        rcases hh with ⟨t, z', q, he, hm⟩ | ⟨q, _⟩
        · rw [hp] at q
          simp only [Option.some.injEq, Prod.mk.injEq] at q
          obtain ⟨rfl, rfl⟩ := q
          exact ⟨he, hm⟩
        · rw [hp] at q; cases q)
      have HQ := hid hP'
      have HP := hid hp
      clear hP hP' hp
      have hgA : ¬ g = w.heap.size := by omega
      have hs1' := HK1.out.size
      go_region_held_law (fun w' => w'.cell? ⟨g, off, none⟩ = some (.int .i64 k) ∧ w'.cell? ⟨g, off + 1, none⟩ = some (.int .i64 v) ∧ w'.cell? ⟨g, off + 2, none⟩ = some (.int .i64 t) ∧ w'.cell? ⟨g, off + 3, none⟩ = some (.int .i64 a))
        (first | with_reducible exact HE.out | with_reducible exact HD.out | with_reducible exact ⟨cell_set5 HD.out.1 hgA, cell_set5 HD.out.2.1 hgA, cell_set5 HD.out.2.2.1 hgA, cell_set5 HD.out.2.2.2 hgA⟩)
        ((go_at_call 233; refine HQ.out.mono ?_; rintro e w3 ⟨rfl, M3⟩; have k3 := kundrew M3.2; have HD := hid (And.intro (cell_kept c0 k3 hgc) (And.intro (cell_kept c1 k3 hgc) (And.intro (cell_kept c2 k3 hgc) (cell_kept c3 k3 hgc)))); have RB := HA1.out.kept k3 (by omega); have q0 := RB.c 0 rfl; have q1 := RB.c 1 rfl; have q2 := RB.c 2 rfl; have q3 := RB.c 3 rfl; have q4 := RB.c 4 rfl; have f0 := RB.f 0; have f1 := RB.f 1; have f2 := RB.f 2; have f3 := RB.f 3; have f4 := RB.f 4))
      have hcw : ¬ c = w.heap.size := by omega
      have HRw := hid (((((RB.set 0 (.int .i64 k)).set 1 (.int .i64 v)).set 2 (.int .i64 t)).set 3 (.int .i64 a)).set 4 (.string tx))
      have HM : Hid (Moved w (((((w3.setCell ⟨w.heap.size, 0, none⟩ (.int .i64 k)).setCell ⟨w.heap.size, 1, none⟩ (.int .i64 v)).setCell ⟨w.heap.size, 2, none⟩ (.int .i64 t)).setCell ⟨w.heap.size, 3, none⟩ (.int .i64 a)).setCell ⟨w.heap.size, 4, none⟩ (.string tx)) c (rest s z2)) :=
        ⟨cur_kept M3.1 (kept_set5 w3 w.heap.size _ _ _ _ _) hcw, ((HK1.out.trans k3).trans (kept_set5 w3 w.heap.size _ _ _ _ _)).mono (fun b hb x => by rcases x with (x | x) | x; exact x; exact x; omega)⟩
      clear M3 k3 HD RB q0 q1 q2 q3 q4 f0 f1 f2 f3 f4 c0 c1 c2 c3 HE HQ
      go_wp2
      refine bodyPost_ret (results_row rfl _ _ w.heap.size [.int .i64 k, .int .i64 v, .int .i64 t, .int .i64 a, .string tx] _ rfl HRw.out Tryz.underlying58 rfl (by kernel_rfl)) rfl ?_
      exact Or.inl ⟨k, v, t, a, tx, z, z2, HN.out, HP.out, rfl, HM.out⟩

/-- The parts of a journal's text: the numbers, the text, the outs. -/
def jnAt (R : ByteArray → Int × Nat) (s : ByteArray) : Option (List Int × ByteArray × List Ou) :=
  match nums R s 5 6 with
  | some (l, z) => match pieceAt R s z with
    | some (tx, z1) => match outsAll R s z1 with
      | some (o, _) => some (l, tx, o)
      | none => none
    | none => none
  | none => none

theorem nums_split2 {R : ByteArray → Int × Nat} {s : ByteArray} {i : Nat} : ∀ {n : Nat} {x y : Int} {z : Nat}, nums R s i 2 = some ([x, y], z) → nums R s i (n + 2) = (nums R s z n).map (fun p => (x :: y :: p.1, p.2))
  | 0, x, y, z, h => by rw [h]; rfl
  | n + 1, x, y, z, h => by
    show nums R s i ((n + 2) + 1) = _
    conv => lhs; unfold nums
    rw [nums_split2 (n := n) h]
    conv => rhs; unfold nums
    cases nums R s z n with
    | none => rfl
    | some p =>
      simp only [Option.map_some, Option.bind_some]
      split <;> simp

/-- No journal: a part lacks, or the flag is no flag. -/
def NoJn (R : ByteArray → Int × Nat) (s : ByteArray) : Prop := jnAt R s = none ∨ ∃ x f l z tx o, nums R s 5 6 = some (x :: f :: l, z) ∧ 1 < f ∧ jnAt R s = some (x :: f :: l, tx, o)

theorem jnAt_no1 {R : ByteArray → Int × Nat} {s : ByteArray} (h : nums R s 5 6 = none) : jnAt R s = none := by unfold jnAt; rw [h]
theorem jnAt_no2 {R : ByteArray → Int × Nat} {s : ByteArray} {l : List Int} {z : Nat} (h : nums R s 5 6 = some (l, z)) (h2 : pieceAt R s z = none) : jnAt R s = none := by unfold jnAt; rw [h]; simp only []; rw [h2]
theorem jnAt_no3 {R : ByteArray → Int × Nat} {s : ByteArray} {l : List Int} {z z1 : Nat} {tx : ByteArray} (h : nums R s 5 6 = some (l, z)) (h2 : pieceAt R s z = some (tx, z1)) (h3 : outsAll R s z1 = none) : jnAt R s = none := by unfold jnAt; rw [h]; simp only []; rw [h2]; simp only []; rw [h3]
theorem jnAt_yes {R : ByteArray → Int × Nat} {s : ByteArray} {l : List Int} {z z1 z2 : Nat} {tx : ByteArray} {o : List Ou} (h : nums R s 5 6 = some (l, z)) (h2 : pieceAt R s z = some (tx, z1)) (h3 : outsAll R s z1 = some (o, z2)) : jnAt R s = some (l, tx, o) := by unfold jnAt; rw [h]; simp only []; rw [h2]; simp only []; rw [h3]

theorem noJn_flag {R : ByteArray → Int × Nat} {s : ByteArray} {x : Int} {z : Nat} (h : nums R s 5 1 = some ([x], z)) (hq : (R (rest s z)).2 = 0 ∨ 1 < (R (rest s z)).1) : NoJn R s := by
  have h2 := nums_step h
  by_cases h0 : (R (rest s z)).2 = 0
  · rw [if_pos h0] at h2
    exact Or.inl (jnAt_no1 (nums_none (k := 2) h2 4))
  · rw [if_neg h0] at h2
    have h6 := nums_split2 (n := 4) h2
    have hf : 1 < (R (rest s z)).1 := by rcases hq with q | q; exact absurd q h0; exact q
    cases hn : nums R s (z + (R (rest s z)).2) 4 with
    | none => rw [hn] at h6; exact Or.inl (jnAt_no1 h6)
    | some p =>
      rw [hn] at h6
      have h6' : nums R s 5 6 = some (x :: (R (rest s z)).1 :: p.1, p.2) := h6
      cases hp : pieceAt R s p.2 with
      | none => exact Or.inl (jnAt_no2 h6' hp)
      | some q =>
        obtain ⟨tx, z1⟩ := q
        cases ho : outsAll R s z1 with
        | none => exact Or.inl (jnAt_no3 h6' hp ho)
        | some r =>
          obtain ⟨o, z2⟩ := r
          exact Or.inr ⟨x, _, p.1, p.2, tx, o, h6', hf, jnAt_yes h6' hp ho⟩

end Go.Proofs.YtaopkchkhdbfnaaGreatDoor.Rd

namespace Go.Proofs.YtaopkchkhdbfnaaGreatDoor.Rd
open Go.RowKit Go.Proofs.YtaopkchkhdbfnaaGreatDoor.Mem Go.Proofs.YtaopkchkhdbfnaaGreatDoor.Sec
set_option linter.unusedVariables false

theorem kept_set8 (w : World) (b : Nat) (x0 x1 x2 x3 x4 x5 x6 x7 : Value) : Kept (fun k => k = b) w ((((((((w.setCell ⟨b, 0, none⟩ x0).setCell ⟨b, 1, none⟩ x1).setCell ⟨b, 2, none⟩ x2).setCell ⟨b, 3, none⟩ x3).setCell ⟨b, 4, none⟩ x4).setCell ⟨b, 5, none⟩ x5).setCell ⟨b, 6, none⟩ x6).setCell ⟨b, 7, none⟩ x7) :=
  ((((kept_set5 w b x0 x1 x2 x3 x4).trans (kept_set _ _ _ _)).trans (kept_set _ _ _ _)).trans (kept_set _ _ _ _)).mono (fun k _ h => by rcases h with ((h | h) | h) | h <;> exact h)

theorem cell_set8 {w : World} {g o b : Nat} {v x0 x1 x2 x3 x4 x5 x6 x7 : Value} (h : w.cell? ⟨g, o, none⟩ = some v) (hn : ¬ g = b) : ((((((((w.setCell ⟨b, 0, none⟩ x0).setCell ⟨b, 1, none⟩ x1).setCell ⟨b, 2, none⟩ x2).setCell ⟨b, 3, none⟩ x3).setCell ⟨b, 4, none⟩ x4).setCell ⟨b, 5, none⟩ x5).setCell ⟨b, 6, none⟩ x6).setCell ⟨b, 7, none⟩ x7).cell? ⟨g, o, none⟩ = some v :=
  cell_set (cell_set (cell_set (cell_set5 h hn) hn) hn) hn

theorem row_set8 {w : World} {b : Nat} {y0 y1 y2 y3 y4 y5 y6 y7 : Value} (h : Row w b [y0, y1, y2, y3, y4, y5, y6, y7]) (x0 x1 x2 x3 x4 x5 x6 x7 : Value) : Row ((((((((w.setCell ⟨b, 0, none⟩ x0).setCell ⟨b, 1, none⟩ x1).setCell ⟨b, 2, none⟩ x2).setCell ⟨b, 3, none⟩ x3).setCell ⟨b, 4, none⟩ x4).setCell ⟨b, 5, none⟩ x5).setCell ⟨b, 6, none⟩ x6).setCell ⟨b, 7, none⟩ x7) b [x0, x1, x2, x3, x4, x5, x6, x7] :=
  (((((((h.set 0 x0).set 1 x1).set 2 x2).set 3 x3).set 4 x4).set 5 x5).set 6 x6).set 7 x7

set_option maxRecDepth 100000 in
set_option maxHeartbeats 2000000 in
theorem journalParts (R : ByteArray → Int × Nat) (hR : Reads R) (s : ByteArray) (hs : s.size ≤ 1048576) (w : World) (c : Nat) (h : Cur w c (rest s 5)) (u : TypeId) (pv : Value) (hL : Lacks w u pv) (hc : 1 < c) :
    Calls Tryz.prog 130 #[.pointer (some ⟨c, 0, none⟩)] w fun e w' =>
      ((∃ x f k v t a tx o ad cap, jnAt R s = some ([x, f, k, v, t, a], tx, o) ∧ f ≤ 1 ∧ e = .returned (jnV ⟨x, decide (f = 1), k, v, t, a, tx, o⟩ ad cap) ∧ Or2 w' w.heap.size (.slice ad o.length cap) o) ∨ (NoJn R s ∧ e = lack u pv)) ∧ Kept (fun b => b = c) w w' := by
  have HR := hid hR
  have HH := hid h
  have HL := hid hL
  have hlt := h.lt
  clear hR h hL
  have HN1 := hid (nums_step (R := R) (s := s) (i := 5) (k := 0) (l := []) (e := 5) rfl)
  go_enter Tryz.func130, Tryz.ntmps130
  go_wp2_with fail
  obtain ⟨wl, hwl, ez, A0, B0⟩ := one_new w [.int .i64 0, .bool false, .int .i64 0, .int .i64 0, .int .i64 0, .int .i64 0, .string ⟨#[]⟩, .slice none 0 0] 95
  simp only [hwl]
  have HA := hid A0
  have HKl : Hid (Kept (fun b => b = c) w wl) := (Kept.of_below B0)
  have HLl := hid (HL.out.kept (Kept.of_below (S := fun _ => False) B0) (fun x => x))
  have HHl := hid (HH.out.below B0)
  clear hwl A0 B0
  refine (number R HR.out s hs 5 wl c HHl.out u pv HLl.out).mono ?_
  rintro e w1 (⟨hq, rfl, M1⟩ | ⟨hq, rfl, hw⟩)
  rotate_left
  · have HNJ : Hid (NoJn R s) := Or.inl (jnAt_no1 (nums_none (k := 1) (by rw [HN1.out, if_pos hq]) 5))
    obtain rfl := hw.symm
    clear hq hw
    unfold lack
    go_wp2
    exact ⟨rfl, Or.inr ⟨HNJ.out, rfl⟩, HKl.out⟩
  have HN1' : Hid (nums R s 5 1 = some ([(R (rest s 5)).1], 5 + (R (rest s 5)).2)) := by rw [Hid, HN1.out, if_neg hq]; rfl
  have HC1 := hid M1.1
  have HL1 := hid (HLl.out.kept M1.2 (by omega))
  have HA1 := hid (HA.out.kept M1.2 (by omega))
  have HK1 : Hid (Kept (fun b => b = c) w w1) := (HKl.out.trans M1.2).mono (fun b _ x => by rcases x with x | x <;> exact x)
  have hs1 := M1.2.size
  clear M1 hq HN1 HA HLl
  generalize (R (rest s 5)).1 = x at *
  generalize 5 + (R (rest s 5)).2 = i1 at *
  go_wp2_with fail
  refine (flagOf R HR.out s hs i1 w1 c HC1.out u pv HL1.out hc).mono ?_
  rintro e w2 (⟨hq, hle, rfl, M2⟩ | ⟨hq, rfl, k2⟩)
  rotate_left
  · have HNJ := hid (noJn_flag HN1'.out hq)
    have HK2 : Hid (Kept (fun b => b = c) w w2) := (HK1.out.trans k2).mono (fun b _ x => by rcases x with x | x <;> exact x)
    clear hq k2
    unfold lack
    go_wp2
    exact ⟨rfl, Or.inr ⟨HNJ.out, rfl⟩, HK2.out⟩
  have h2 := nums_step HN1'.out
  rw [if_neg hq] at h2
  have HN6 := hid (nums_split2 (n := 4) h2)
  have HC2 := hid M2.1
  have HL2 := hid (HL1.out.kept M2.2 (by omega))
  have HA2 := hid (HA1.out.kept M2.2 (by omega))
  have HK2 : Hid (Kept (fun b => b = c) w w2) := (HK1.out.trans M2.2).mono (fun b _ x => by rcases x with x | x <;> exact x)
  have hs2 := M2.2.size
  have HFle := hid hle
  clear M2 hq h2 hle HA1 HL1 HC1 HN1'
  generalize (R (rest s i1)).1 = f at *
  generalize i1 + (R (rest s i1)).2 = i2 at *
  go_wp2_with fail
  refine (opParts R HR.out s hs i2 w2 c HC2.out u pv HL2.out hc).mono ?_
  rintro e w3 (⟨k, v, t, a, tx, z, z2, hn4, hpc, rfl, M3⟩ | ⟨hno, rfl, k3⟩)
  rotate_left
  · have HNJ : Hid (NoJn R s) := Or.inl (by
      rcases hno with hn | ⟨l, z, hn, hp⟩
      · exact jnAt_no1 (by rw [HN6.out, hn]; rfl)
      · exact jnAt_no2 (z := z) (by rw [HN6.out, hn]; rfl) hp)
    have HK3 : Hid (Kept (fun b => b = c) w w3) := (HK2.out.trans k3).mono (fun b _ x => by rcases x with x | x <;> exact x)
    clear hno k3
    unfold lack
    go_wp2
    exact ⟨rfl, Or.inr ⟨HNJ.out, rfl⟩, HK3.out⟩
  have HN : Hid (nums R s 5 6 = some ([x, f, k, v, t, a], z)) := by rw [Hid, HN6.out, hn4]; rfl
  have HPc := hid hpc
  have HC3 := hid M3.1
  have HL3 := hid (HL2.out.kept M3.2 (by omega))
  have HA3 := hid (HA2.out.kept M3.2 (by omega))
  have HK3 : Hid (Kept (fun b => b = c) w w3) := (HK2.out.trans M3.2).mono (fun b _ x => by rcases x with x | x <;> exact x)
  have hs3 := M3.2.size
  clear M3 hn4 hpc HN6 HA2 HL2 HC2
  unfold opV
  obtain ⟨w4, hw4, ez4, O0, B4⟩ := one_new w3 [.int .i64 k, .int .i64 v, .int .i64 t, .int .i64 a, .string tx] 58
  have HO := hid O0
  have HA4 := hid (HA3.out.below B4 HA3.out.lt)
  have HC4 := hid (HC3.out.below B4)
  have HL4 := hid (HL3.out.kept (Kept.of_below (S := fun _ => False) B4) (fun x => x))
  have HK4 : Hid (Kept (fun b => b = c) w w4) := (HK3.out.trans (Kept.of_below (S := fun _ => False) B4)).mono (fun b _ x => by rcases x with x | x; exact x; cases x)
  have o0 := O0.c 0 rfl
  have o1 := O0.c 1 rfl
  have o2 := O0.c 2 rfl
  have o3 := O0.c 3 rfl
  have o4 := O0.c 4 rfl
  clear O0 B4 HA3 HC3 HL3
  obtain ⟨dn, hdn⟩ : ∃ dn, decide (f = 1) = dn := ⟨_, rfl⟩
  have HDn := hid hdn
  rw [hdn]
  clear hdn
  go_wp2_with fail
  clear hw4
  have HE : Hid (w4.drew.cell? ⟨w3.heap.size, 0, none⟩ = some (.int .i64 k) ∧ w4.drew.cell? ⟨w3.heap.size, 1, none⟩ = some (.int .i64 v) ∧ w4.drew.cell? ⟨w3.heap.size, 2, none⟩ = some (.int .i64 t) ∧ w4.drew.cell? ⟨w3.heap.size, 3, none⟩ = some (.int .i64 a) ∧ w4.drew.cell? ⟨w3.heap.size, 4, none⟩ = some (.string tx)) := ⟨o0, o1, o2, o3, o4⟩
  have hgc : ¬ w3.heap.size = c := by omega
  have hgA : ¬ w3.heap.size = w.heap.size := by omega
  have hP := outsParts R HR.out s hs z2 w4.drew c HC4.out.drew u pv HL4.out.drew hc
  cases hp : outsAll R s z2 with
  | none =>
    have hP' : Calls Tryz.prog 182 #[.pointer (some ⟨c, 0, none⟩)] w4.drew fun e w' => e = .panicked [{ v := .iface u pv, recovered := false }] ∧ Kept (fun b => b = c) w4.drew w' := hP.mono (fun e w' ⟨hh, hk⟩ => by
      rcases hh with ⟨l, z, ad, cap, q, _⟩ | ⟨_, he⟩
      · rw [hp] at q; cases q
      · exact ⟨he, hk⟩)
    have HQ := hid hP'
    have HNJ : Hid (NoJn R s) := Or.inl (jnAt_no3 HN.out HPc.out hp)
    have HKx : Hid (∀ w5, Kept (fun b => b = c) w4.drew w5 → Kept (fun b => b = c) w w5) := fun w5 k => (HK4.out.trans (kundrew k)).mono (fun b _ x => by rcases x with x | x <;> exact x)
    clear hP hP' hp HN
    have q0 := HA4.out.c 0 rfl
    have q1 := HA4.out.c 1 rfl
    have q2 := HA4.out.c 2 rfl
    have q3 := HA4.out.c 3 rfl
    have q4 := HA4.out.c 4 rfl
    have q5 := HA4.out.c 5 rfl
    have q6 := HA4.out.c 6 rfl
    have q7 := HA4.out.c 7 rfl
    have f0 := HA4.out.f 0
    have f1 := HA4.out.f 1
    have f2 := HA4.out.f 2
    have f3 := HA4.out.f 3
    have f4 := HA4.out.f 4
    have f5 := HA4.out.f 5
    have f6 := HA4.out.f 6
    have f7 := HA4.out.f 7
    go_region_held_law (fun w' => w'.cell? ⟨w3.heap.size, 0, none⟩ = some (.int .i64 k) ∧ w'.cell? ⟨w3.heap.size, 1, none⟩ = some (.int .i64 v) ∧ w'.cell? ⟨w3.heap.size, 2, none⟩ = some (.int .i64 t) ∧ w'.cell? ⟨w3.heap.size, 3, none⟩ = some (.int .i64 a) ∧ w'.cell? ⟨w3.heap.size, 4, none⟩ = some (.string tx))
      (first | with_reducible exact HE.out | exact hf.out.elim)
      ((go_at_call 182; rcases Classical.em (Hid False) with hf | hnf; rotate_left; (refine HQ.out.mono ?_; rintro e w5 ⟨rfl, k5'⟩; exact ⟨rfl, Or.inr ⟨HNJ.out, rfl⟩, HKx.out w5 k5'⟩); (refine (dead 182 #[.pointer (some ⟨c, 0, none⟩)] w4.drew (.slice none 0 0) hf.out).mono ?_; rintro e w5 ⟨rfl, rfl⟩)))
    all_goals exact hf.out.elim
  | some q =>
    obtain ⟨o, z3⟩ := q
    have hP' : Calls Tryz.prog 182 #[.pointer (some ⟨c, 0, none⟩)] w4.drew fun e w' => ∃ ad cap, e = .returned (.slice ad o.length cap) ∧ Or2 w' w4.heap.size (.slice ad o.length cap) o ∧ Kept (fun b => b = c) w4.drew w' := hP.mono (fun e w' ⟨hh, hk⟩ => by
      rcases hh with ⟨l, z, ad, cap, q, he, ho⟩ | ⟨q, _⟩
      · rw [hp] at q
        simp only [Option.some.injEq, Prod.mk.injEq] at q
        obtain ⟨rfl, rfl⟩ := q
        exact ⟨ad, cap, he, ho, hk⟩
      · rw [hp] at q; cases q)
    have HQ := hid hP'
    have HJ := hid (jnAt_yes HN.out HPc.out hp)
    clear hP hP' hp HN HPc
    go_region_held_law (fun w' => w'.cell? ⟨w3.heap.size, 0, none⟩ = some (.int .i64 k) ∧ w'.cell? ⟨w3.heap.size, 1, none⟩ = some (.int .i64 v) ∧ w'.cell? ⟨w3.heap.size, 2, none⟩ = some (.int .i64 t) ∧ w'.cell? ⟨w3.heap.size, 3, none⟩ = some (.int .i64 a) ∧ w'.cell? ⟨w3.heap.size, 4, none⟩ = some (.string tx))
      (first | with_reducible exact HE.out | with_reducible exact HD.out | with_reducible exact ⟨cell_set8 HD.out.1 hgA, cell_set8 HD.out.2.1 hgA, cell_set8 HD.out.2.2.1 hgA, cell_set8 HD.out.2.2.2.1 hgA, cell_set8 HD.out.2.2.2.2 hgA⟩)
      ((go_at_call 182; refine HQ.out.mono ?_; rintro e w5 ⟨ad, cap, rfl, hO5, k5'⟩; have k5 := kundrew k5'; have HD := hid (And.intro (cell_kept o0 k5 hgc) (And.intro (cell_kept o1 k5 hgc) (And.intro (cell_kept o2 k5 hgc) (And.intro (cell_kept o3 k5 hgc) (cell_kept o4 k5 hgc))))); have RB := HA4.out.kept k5 (by omega); have q0 := RB.c 0 rfl; have q1 := RB.c 1 rfl; have q2 := RB.c 2 rfl; have q3 := RB.c 3 rfl; have q4 := RB.c 4 rfl; have q5 := RB.c 5 rfl; have q6 := RB.c 6 rfl; have q7 := RB.c 7 rfl; have f0 := RB.f 0; have f1 := RB.f 1; have f2 := RB.f 2; have f3 := RB.f 3; have f4 := RB.f 4; have f5 := RB.f 5; have f6 := RB.f 6; have f7 := RB.f 7))
    have hs4 : w.heap.size < w4.heap.size := by omega
    have HRw := hid (row_set8 RB (.int .i64 x) (.bool dn) (.int .i64 k) (.int .i64 v) (.int .i64 t) (.int .i64 a) (.string tx) (.slice ad o.length cap))
    have HKf := hid (((HK4.out.trans k5).trans (kept_set8 w5 w.heap.size (.int .i64 x) (.bool dn) (.int .i64 k) (.int .i64 v) (.int .i64 t) (.int .i64 a) (.string tx) (.slice ad o.length cap))).mono (T := fun b => b = c) (fun b hb x => by rcases x with (x | x) | x; exact x; exact x; omega))
    have HOf := hid (RowO.mono (RowO.kept hO5 (kept_set8 w5 w.heap.size (.int .i64 x) (.bool dn) (.int .i64 k) (.int .i64 v) (.int .i64 t) (.int .i64 a) (.string tx) (.slice ad o.length cap)) (fun b hb x => by have := (RowO.lt hO5 hb).1; omega)) (Nat.le_of_lt hs4))
    clear k5 k5' HD RB q0 q1 q2 q3 q4 q5 q6 q7 f0 f1 f2 f3 f4 f5 f6 f7 o0 o1 o2 o3 o4 HE HQ hO5
    go_wp2
    refine bodyPost_ret (results_row rfl _ _ w.heap.size [.int .i64 x, .bool dn, .int .i64 k, .int .i64 v, .int .i64 t, .int .i64 a, .string tx, .slice ad o.length cap] _ rfl HRw.out Tryz.underlying95 rfl (by kernel_rfl)) rfl ?_
    refine ⟨Or.inl ⟨x, f, k, v, t, a, tx, o, ad, cap, HJ.out, HFle.out, ?_, HOf.out⟩, HKf.out⟩
    rw [HDn.out]; rfl

end Go.Proofs.YtaopkchkhdbfnaaGreatDoor.Rd

namespace Go.Proofs.YtaopkchkhdbfnaaGreatDoor.Rd
open Go.RowKit Go.Proofs.YtaopkchkhdbfnaaGreatDoor.Mem Go.Proofs.YtaopkchkhdbfnaaGreatDoor.Sec
set_option linter.unusedVariables false

def JZ : Jn := ⟨0, false, 0, 0, 0, 0, ⟨#[]⟩, []⟩

/-- What a journal's sector is read as. -/
def readJn (R : ByteArray → Int × Nat) (s : ByteArray) : Option Jn :=
  match jnAt R s with
  | some ([x, f, k, v, t, a], tx, o) => if Jn.show ⟨x, decide (f = 1), k, v, t, a, tx, o⟩ = s then some ⟨x, decide (f = 1), k, v, t, a, tx, o⟩ else none
  | _ => none

theorem readJn_yes {R : ByteArray → Int × Nat} {s : ByteArray} {x f k v t a : Int} {tx : ByteArray} {o : List Ou} (h : jnAt R s = some ([x, f, k, v, t, a], tx, o)) : readJn R s = if Jn.show ⟨x, decide (f = 1), k, v, t, a, tx, o⟩ = s then some ⟨x, decide (f = 1), k, v, t, a, tx, o⟩ else none := by unfold readJn; rw [h]
theorem readJn_no {R : ByteArray → Int × Nat} {s : ByteArray} (h : jnAt R s = none) : readJn R s = none := by unfold readJn; rw [h]

theorem readJn_short (R : ByteArray → Int × Nat) (hR : Reads R) (s : ByteArray) (h : s.size ≤ 5) (hs : s.size ≤ 1048576) : readJn R s = none := readJn_no (jnAt_no1 (nums_short R hR s h hs 5))

theorem outsAll_len {R : ByteArray → Int × Nat} {s : ByteArray} {i : Nat} {l : List Ou} {z : Nat} (h : outsAll R s i = some (l, z)) : l.length ≤ 8 ∧ ∀ x ∈ l, x.text.size ≤ s.size := by
  unfold outsAll at h
  split at h
  · cases h
  · rename_i hn
    have := outsAt_len h
    exact ⟨by rw [this.1]; omega, this.2⟩

theorem jnAt_small {R : ByteArray → Int × Nat} {s : ByteArray} {l : List Int} {tx : ByteArray} {o : List Ou} (h : jnAt R s = some (l, tx, o)) : tx.size ≤ s.size ∧ o.length ≤ 8 ∧ ∀ x ∈ o, x.text.size ≤ s.size := by
  unfold jnAt at h
  split at h
  · split at h
    · split at h
      · rename_i hp _ _ _ ho
        simp only [Option.some.injEq, Prod.mk.injEq] at h
        obtain ⟨_, rfl, rfl⟩ := h
        exact ⟨pieceAt_size hp, outsAll_len ho⟩
      · cases h
    · cases h
  · cases h

set_option maxRecDepth 100000 in
set_option maxHeartbeats 1000000 in
theorem jcatch_some (p q : Nat) (u : TypeId) (pv : Value) (older : List PanicEntry) (w : World) (a0 a1 a2 a3 a4 a5 a6 a7 b0 : Value) (hp : Row w p [a0, a1, a2, a3, a4, a5, a6, a7]) (hq : Row w q [b0]) (hpq : p ≠ q) :
    CallsD Tryz.prog 177 #[.pointer (some ⟨p, 0, none⟩), .pointer (some ⟨q, 0, none⟩)] (.panicking ({ v := .iface u pv, recovered := false } :: older)) w fun e u' w' =>
      e = .returned (.tuple #[]) ∧ u' = .panicking ({ v := .iface u pv, recovered := true } :: older) ∧ Row w' p [.int .i64 0, .bool false, .int .i64 0, .int .i64 0, .int .i64 0, .int .i64 0, .string ⟨#[]⟩, .slice none 0 0] ∧ Row w' q [.bool false] ∧ Kept (fun b => b = p ∨ b = q) w w' := by
  refine callsD_of_wpS Tryz.func177 rfl fun c₀ cs hu => ?_
  obtain ⟨wl, hwl, ez, Z0, B0⟩ := one_new w [.int .i64 0, .bool false, .int .i64 0, .int .i64 0, .int .i64 0, .int .i64 0, .string ⟨#[]⟩, .slice none 0 0] 95
  have hpl := hp.lt
  have hql := hq.lt
  have P0 := hp.below B0 hp.lt
  have Q0 := hq.below B0 hq.lt
  have z0 := Z0.c 0 rfl
  have z1 := Z0.c 1 rfl
  have z2 := Z0.c 2 rfl
  have z3 := Z0.c 3 rfl
  have z4 := Z0.c 4 rfl
  have z5 := Z0.c 5 rfl
  have z6 := Z0.c 6 rfl
  have z7 := Z0.c 7 rfl
  have p0 := P0.c 0 rfl
  have p1 := P0.c 1 rfl
  have p2 := P0.c 2 rfl
  have p3 := P0.c 3 rfl
  have p4 := P0.c 4 rfl
  have p5 := P0.c 5 rfl
  have p6 := P0.c 6 rfl
  have p7 := P0.c 7 rfl
  have q0 := Q0.c 0 rfl
  have f0 := P0.f 0
  have f1 := P0.f 1
  have f2 := P0.f 2
  have f3 := P0.f 3
  have f4 := P0.f 4
  have f5 := P0.f 5
  have f6 := P0.f 6
  have f7 := P0.f 7
  have g0 := Q0.f 0
  have HP := hid ((row_set8 P0 (.int .i64 0) (.bool false) (.int .i64 0) (.int .i64 0) (.int .i64 0) (.int .i64 0) (.string ⟨#[]⟩) (.slice none 0 0)).other (p := ⟨q, 0, none⟩) (by show p ≠ q; exact hpq) (.bool false))
  have HQ := hid ((Q0.kept (kept_set8 wl p (.int .i64 0) (.bool false) (.int .i64 0) (.int .i64 0) (.int .i64 0) (.int .i64 0) (.string ⟨#[]⟩) (.slice none 0 0)) (fun e => hpq e.symm)).set 0 (.bool false))
  have HK : Hid (Kept (fun b => b = p ∨ b = q) w (((((((((wl.setCell ⟨p, 0, none⟩ (.int .i64 0)).setCell ⟨p, 1, none⟩ (.bool false)).setCell ⟨p, 2, none⟩ (.int .i64 0)).setCell ⟨p, 3, none⟩ (.int .i64 0)).setCell ⟨p, 4, none⟩ (.int .i64 0)).setCell ⟨p, 5, none⟩ (.int .i64 0)).setCell ⟨p, 6, none⟩ (.string ⟨#[]⟩)).setCell ⟨p, 7, none⟩ (.slice none 0 0)).setCell ⟨q, 0, none⟩ (.bool false))) :=
    (((Kept.of_below (S := fun _ => False) B0).trans (kept_set8 wl p (.int .i64 0) (.bool false) (.int .i64 0) (.int .i64 0) (.int .i64 0) (.int .i64 0) (.string ⟨#[]⟩) (.slice none 0 0))).trans (kept_set _ _ _ _)).mono (fun b _ x => by rcases x with (x | x) | x; cases x; exact Or.inl x; exact Or.inr x)
  clear hp hq P0 Q0 Z0 B0
  apply wpS_seq
  apply wpS_region
  simp [wpOpsS, go_sem, recoverD, hu, Tryz.ntmps177, Exit.thenS]
  refine wpS_cond (t := true) (by simp [Act.eval, Array.replicate]) ?_
  simp only [if_true]
  refine wpS_of_wp ?_
  go_wp2
  simp [bodyPostS, results, Tryz.results177]
  exact ⟨HP.out, HQ.out, HK.out⟩

set_option maxRecDepth 100000 in
set_option maxHeartbeats 1000000 in
theorem jcatch_none (p q : Addr) (w : World) :
    CallsD Tryz.prog 177 #[.pointer (some p), .pointer (some q)] .returning w fun e u' w' => e = .returned (.tuple #[]) ∧ u' = .returning ∧ w' = w := by
  refine callsD_of_wpS Tryz.func177 rfl fun c₀ cs hu => ?_
  apply wpS_seq
  apply wpS_region
  simp [wpOpsS, go_sem, recoverD, hu, Tryz.ntmps177, Exit.thenS]
  refine wpS_cond (t := false) (by simp [Act.eval, Array.replicate]) ?_
  simp only [Bool.false_eq_true, if_false]
  refine wpS_of_wp (wp_skip ?_)
  cases c₀
  simp_all [bodyPostS, results, Tryz.results177]

/-- What is read, and what is told of it. -/
def JnIs (R : ByteArray → Int × Nat) (s : ByteArray) (J : Jn) (ok : Bool) : Prop := readJn R s = some J ∧ J.outs.length ≤ 8 ∧ ok = true ∨ readJn R s = none ∧ J = JZ ∧ ok = false

/-- What both sides answer: a list of its own, or none. -/
def JnOut (R : ByteArray → Int × Nat) (s : ByteArray) (w w' : World) (r : Ending) : Prop :=
  ∃ J ad cap ok, JnIs R s J ok ∧ r = .returned (.tuple #[jnV J ad cap, .bool ok]) ∧ Or2 w' w.heap.size (.slice ad J.outs.length cap) J.outs ∧ Below w.heap.size w w'

theorem jnone_row (w : World) (B : Nat) (b : Option Addr) : Or2 w B (.slice b JZ.outs.length 0) JZ.outs := Or.inl ⟨b, rfl, rfl, rfl⟩

set_option maxRecDepth 100000 in
set_option maxHeartbeats 4000000 in
theorem readKindJn (R : ByteArray → Int × Nat) (hR : Reads R) (s : ByteArray) (hs : s.size ≤ 1048576) (hnv : NoJn R s → readJn R s = none) (w : World) (u : TypeId) (pv : Value) (hL : Lacks w u pv) (T : Sums w) :
    Calls Tryz.prog 129 #[.string s, .func (.func 130) #[] #[], .func (.func 131) #[] #[]] w fun e w' => JnOut R s w w' e := by
  have hmf : ∀ (fn : Fn) (first cap : Array Value) (w : World), (Instr.makeFunc fn first cap).run Tryz.prog w = .ok (.func fn first cap) w := fun _ _ _ _ => rfl
  have HR := hid hR
  have HNV := hid hnv
  clear hnv
  have HL := hid hL
  have HT := hid T
  clear hR hL T
  go_enter_defers Tryz.func129, Tryz.ntmps129
  go_wp2_with fail
  obtain ⟨wc, hwc, ec, A0, B0, C0, K0⟩ := three_any w [.int .i64 0, .bool false, .int .i64 0, .int .i64 0, .int .i64 0, .int .i64 0, .string ⟨#[]⟩, .slice none 0 0] [.bool false] [.string s] 95 4 224
  simp only [hwc]
  clear hwc
  have HA := hid A0
  have HBq := hid B0
  have HKc := hid K0
  have HLc := hid (HL.out.kept (Kept.of_below (S := fun _ => False) K0) (fun x => x))
  have HCu : Hid (Cur wc (w.heap.size + 1 + 1) s) := C0
  have hgl := HL.out.lt
  clear A0 B0 C0 K0
  by_cases h5 : (s.size : Int) < 5
  · have HN := hid (readJn_short R HR.out s (by omega) hs)
    refine (take_no wc (w.heap.size + 1 + 1) s 5 HCu.out h5 u pv HLc.out).mono ?_
    rintro e w1 ⟨rfl, hw⟩
    obtain rfl := hw.symm
    unfold lack
    go_wp2
    refine leaves_cons (f := 177) (args := #[.pointer (some ⟨w.heap.size, 0, none⟩), .pointer (some ⟨w.heap.size + 1, 0, none⟩)]) (by simp) (by simp [go_sem]) ?_
    refine (jcatch_some w.heap.size (w.heap.size + 1) u pv [] _ _ _ _ _ _ _ _ _ _ HA.out HBq.out (by omega)).mono ?_
    rintro e u' w2 ⟨rfl, rfl, RA, RB, k2⟩
    refine ⟨_, results_two rfl _ w2 w.heap.size (w.heap.size + 1) _ _ rfl rfl (load_row RA Tryz.underlying95 rfl (by kernel_rfl)) (load_bool RB), ?_⟩
    exact ⟨JZ, none, 0, false, Or.inr ⟨HN.out, rfl, rfl⟩, rfl, jnone_row _ _ _, HKc.out.trans (k2.below HKc.out.size (fun b hb x => by rcases x with x | x <;> omega))⟩
  · have h5n : 5 ≤ s.size := by omega
    have HRR : Hid (s.extract 5 s.size = rest s 5) := rfl
    refine (take_yes wc (w.heap.size + 1 + 1) s 5 HCu.out h5n hs).mono ?_
    rintro e w1 ⟨rfl, hw⟩
    have M1 : Moved wc w1 (w.heap.size + 1 + 1) (rest s 5) := by rw [hw, ← HRR.out]; exact moved_set HCu.out _
    have HA1 := hid (HA.out.kept M1.2 (by omega))
    have HB1 := hid (HBq.out.kept M1.2 (by omega))
    have HL1 := hid (HLc.out.kept M1.2 (by omega))
    have HM1 := hid M1
    clear hw M1
    go_wp2_with fail
    refine (journalParts R HR.out s hs w1 (w.heap.size + 1 + 1) HM1.out.1 u pv HL1.out (by omega)).mono ?_
    rintro e w2 ⟨hg, k2⟩
    have HA2 := hid (HA1.out.kept k2 (by omega))
    have HB2 := hid (HB1.out.kept k2 (by omega))
    have k12 : Kept (fun b => b = w.heap.size + 1 + 1) wc w2 := (HM1.out.2.trans k2).mono (fun b _ x => by rcases x with x | x <;> exact x)
    have HBw : Hid (Below w.heap.size w w2) := HKc.out.trans (k12.below HKc.out.size (fun b hb x => by omega))
    have HT2 := hid (HT.out.below HBw.out)
    have hs2 : w.heap.size + 1 + 1 < w2.heap.size := by have := k12.size; omega
    have hs1 : w.heap.size + 1 + 1 < w1.heap.size := HM1.out.1.lt
    clear k2 k12 HM1 HL1 HA1 HB1
    rcases hg with ⟨x, f, k, v, t, a, tx, o, ad, cap, hn, hf1, rfl, hO⟩ | ⟨hn, rfl⟩
    · have HRd := hid (readJn_yes hn)
      have hsm := jnAt_small hn
      have ho8 := hsm.2.1
      have HSm : Hid (Jn.Small ⟨x, decide (f = 1), k, v, t, a, tx, o⟩) := ⟨Nat.le_trans hsm.1 hs, by show o.length ≤ _; omega, fun y hy => Nat.le_trans (hsm.2.2 y hy) hs⟩
      obtain ⟨dn, hdn⟩ : ∃ dn, decide (f = 1) = dn := ⟨_, rfl⟩
      rw [hdn] at HRd HSm ⊢
      clear hdn hf1 hn hsm
      have HO := hid hO
      have hrb : ∀ b, rb (.slice ad o.length cap) = some b → w1.heap.size ≤ b := fun b hb => (RowO.lt HO.out hb).1
      obtain ⟨ad', cap', ea, hW⟩ := hO.w
      cases ea
      have HS2 := hid (Wr.sl hW)
      clear hO hW
      have HV : Hid (jnV ⟨x, dn, k, v, t, a, tx, o⟩ ad cap = .agg #[.int .i64 x, .bool dn, .int .i64 k, .int .i64 v, .int .i64 t, .int .i64 a, .string tx, .slice ad o.length cap]) := rfl
      rw [HV.out]
      go_wp2_with fail
      obtain ⟨w3, hw3, ez3, D3, B3⟩ := one_new w2 [.int .i64 x, .bool dn, .int .i64 k, .int .i64 v, .int .i64 t, .int .i64 a, .string tx, .slice ad o.length cap] 95
      simp only [hw3]
      have HA3 := hid (HA2.out.below B3 HA2.out.lt)
      have HB3 := hid (HB2.out.below B3 HB2.out.lt)
      have HD3 := hid D3
      have HO3 := hid (RowO.below HO.out B3)
      have HS3 : Hid (Ous w3 ad o) := Sl.below HS2.out B3
      have HBw3 := hid (HBw.out.trans (B3.mono HBw.out.size))
      have HT3 := hid (HT2.out.below B3)
      clear hw3 D3 B3 HA2 HB2 HBw HT2 HO HS2
      refine (iShowJournal w3 ⟨x, dn, k, v, t, a, tx, o⟩ ad cap HS3.out HSm.out HT3.out).mono ?_
      rintro e w4 ⟨rfl, b4⟩
      have HA4 := hid (HA3.out.below b4 HA3.out.lt)
      have HB4 := hid (HB3.out.below b4 HB3.out.lt)
      have HD4 := hid (HD3.out.below b4 HD3.out.lt)
      have HO4 := hid (RowO.below HO3.out b4)
      have HBw4 := hid (HBw3.out.trans (b4.mono HBw3.out.size))
      clear b4 HA3 HB3 HD3 HBw3 HT3 HO3 HS3
      have a0 := HA4.out.c 0 rfl
      have a1 := HA4.out.c 1 rfl
      have a2 := HA4.out.c 2 rfl
      have a3 := HA4.out.c 3 rfl
      have a4 := HA4.out.c 4 rfl
      have a5 := HA4.out.c 5 rfl
      have a6 := HA4.out.c 6 rfl
      have a7 := HA4.out.c 7 rfl
      have fa0 := HA4.out.f 0
      have fa1 := HA4.out.f 1
      have fa2 := HA4.out.f 2
      have fa3 := HA4.out.f 3
      have fa4 := HA4.out.f 4
      have fa5 := HA4.out.f 5
      have fa6 := HA4.out.f 6
      have fa7 := HA4.out.f 7
      have q0 := HB4.out.c 0 rfl
      have d0 := HD4.out.c 0 rfl
      have d1 := HD4.out.c 1 rfl
      have d2 := HD4.out.c 2 rfl
      have d3 := HD4.out.c 3 rfl
      have d4 := HD4.out.c 4 rfl
      have d5 := HD4.out.c 5 rfl
      have d6 := HD4.out.c 6 rfl
      have d7 := HD4.out.c 7 rfl
      have fq := HB4.out.f 0
      by_cases hsh : Jn.show ⟨x, dn, k, v, t, a, tx, o⟩ = s
      · have HN2 : Hid (readJn R s = some ⟨x, dn, k, v, t, a, tx, o⟩) := by rw [Hid, HRd.out, if_pos hsh]
        have hne := Own.eqS_yes hsh
        generalize Jn.show ⟨x, dn, k, v, t, a, tx, o⟩ = sh at *
        have HRA := hid ((row_set8 HA4.out (.int .i64 x) (.bool dn) (.int .i64 k) (.int .i64 v) (.int .i64 t) (.int .i64 a) (.string tx) (.slice ad o.length cap)).other (p := ⟨w.heap.size + 1, 0, none⟩) (by show w.heap.size ≠ w.heap.size + 1; omega) (.bool true))
        have HRB := hid ((HB4.out.kept (kept_set8 w4 w.heap.size (.int .i64 x) (.bool dn) (.int .i64 k) (.int .i64 v) (.int .i64 t) (.int .i64 a) (.string tx) (.slice ad o.length cap)) (by omega)).set 0 (.bool true))
        have HKK : Hid (Kept (fun b => b = w.heap.size ∨ b = w.heap.size + 1) w4 (((((((((w4.setCell ⟨w.heap.size, 0, none⟩ (.int .i64 x)).setCell ⟨w.heap.size, 1, none⟩ (.bool dn)).setCell ⟨w.heap.size, 2, none⟩ (.int .i64 k)).setCell ⟨w.heap.size, 3, none⟩ (.int .i64 v)).setCell ⟨w.heap.size, 4, none⟩ (.int .i64 t)).setCell ⟨w.heap.size, 5, none⟩ (.int .i64 a)).setCell ⟨w.heap.size, 6, none⟩ (.string tx)).setCell ⟨w.heap.size, 7, none⟩ (.slice ad o.length cap)).setCell ⟨w.heap.size + 1, 0, none⟩ (.bool true))) := ((kept_set8 w4 w.heap.size (.int .i64 x) (.bool dn) (.int .i64 k) (.int .i64 v) (.int .i64 t) (.int .i64 a) (.string tx) (.slice ad o.length cap)).trans (kept_set _ _ _ _))
        have HBf := hid (HBw4.out.trans (HKK.out.below HBw4.out.size (fun b hb x => by rcases x with x | x <;> omega)))
        have HIf := hid (RowO.mono (B' := w.heap.size) (RowO.kept HO4.out HKK.out (fun b hb x => by have := hrb b hb; rcases x with x | x <;> omega)) (by omega))
        clear HO4 HBw4 HKK HA4 HB4 HD4 HRd HSm
        go_wp2
        refine leaves_cons (f := 177) (args := #[.pointer (some ⟨w.heap.size, 0, none⟩), .pointer (some ⟨w.heap.size + 1, 0, none⟩)]) (by simp) (by simp [go_sem]) ?_
        refine (jcatch_none ⟨w.heap.size, 0, none⟩ ⟨w.heap.size + 1, 0, none⟩ _).mono ?_
        rintro e u' w5 ⟨rfl, rfl, rfl⟩
        refine ⟨_, results_two rfl _ _ w.heap.size (w.heap.size + 1) _ _ rfl rfl (load_row HRA.out Tryz.underlying95 rfl (by kernel_rfl)) (load_bool HRB.out), ?_⟩
        exact ⟨⟨x, dn, k, v, t, a, tx, o⟩, ad, cap, true, Or.inl ⟨HN2.out, ho8, rfl⟩, rfl, HIf.out, HBf.out⟩
      · have HN2 : Hid (readJn R s = none) := by rw [Hid, HRd.out, if_neg hsh]
        have hne := Own.eqS_no hsh
        generalize Jn.show ⟨x, dn, k, v, t, a, tx, o⟩ = sh at *
        have HRA := hid ((row_set8 HA4.out (.int .i64 0) (.bool false) (.int .i64 0) (.int .i64 0) (.int .i64 0) (.int .i64 0) (.string ⟨#[]⟩) (.slice none 0 0)).other (p := ⟨w.heap.size + 1, 0, none⟩) (by show w.heap.size ≠ w.heap.size + 1; omega) (.bool false))
        have HRB := hid ((HB4.out.kept (kept_set8 w4 w.heap.size (.int .i64 0) (.bool false) (.int .i64 0) (.int .i64 0) (.int .i64 0) (.int .i64 0) (.string ⟨#[]⟩) (.slice none 0 0)) (by omega)).set 0 (.bool false))
        have HKK : Hid (Kept (fun b => b = w.heap.size ∨ b = w.heap.size + 1) w4 (((((((((w4.setCell ⟨w.heap.size, 0, none⟩ (.int .i64 0)).setCell ⟨w.heap.size, 1, none⟩ (.bool false)).setCell ⟨w.heap.size, 2, none⟩ (.int .i64 0)).setCell ⟨w.heap.size, 3, none⟩ (.int .i64 0)).setCell ⟨w.heap.size, 4, none⟩ (.int .i64 0)).setCell ⟨w.heap.size, 5, none⟩ (.int .i64 0)).setCell ⟨w.heap.size, 6, none⟩ (.string ⟨#[]⟩)).setCell ⟨w.heap.size, 7, none⟩ (.slice none 0 0)).setCell ⟨w.heap.size + 1, 0, none⟩ (.bool false))) := ((kept_set8 w4 w.heap.size (.int .i64 0) (.bool false) (.int .i64 0) (.int .i64 0) (.int .i64 0) (.int .i64 0) (.string ⟨#[]⟩) (.slice none 0 0)).trans (kept_set _ _ _ _))
        have HBf := hid (HBw4.out.trans (HKK.out.below HBw4.out.size (fun b hb x => by rcases x with x | x <;> omega)))
        clear HO4 HBw4 HKK HA4 HB4 HD4 HRd HSm
        go_wp2
        refine leaves_cons (f := 177) (args := #[.pointer (some ⟨w.heap.size, 0, none⟩), .pointer (some ⟨w.heap.size + 1, 0, none⟩)]) (by simp) (by simp [go_sem]) ?_
        refine (jcatch_none ⟨w.heap.size, 0, none⟩ ⟨w.heap.size + 1, 0, none⟩ _).mono ?_
        rintro e u' w5 ⟨rfl, rfl, rfl⟩
        refine ⟨_, results_two rfl _ _ w.heap.size (w.heap.size + 1) _ _ rfl rfl (load_row HRA.out Tryz.underlying95 rfl (by kernel_rfl)) (load_bool HRB.out), ?_⟩
        exact ⟨JZ, none, 0, false, Or.inr ⟨HN2.out, rfl, rfl⟩, rfl, jnone_row _ _ _, HBf.out⟩
    · have HN : Hid (readJn R s = none) := HNV.out hn
      clear hn
      unfold lack
      go_wp2
      refine leaves_cons (f := 177) (args := #[.pointer (some ⟨w.heap.size, 0, none⟩), .pointer (some ⟨w.heap.size + 1, 0, none⟩)]) (by simp) (by simp [go_sem]) ?_
      refine (jcatch_some w.heap.size (w.heap.size + 1) u pv [] _ _ _ _ _ _ _ _ _ _ HA2.out HB2.out (by omega)).mono ?_
      rintro e u' w3 ⟨rfl, rfl, RA, RB, k3⟩
      refine ⟨_, results_two rfl _ w3 w.heap.size (w.heap.size + 1) _ _ rfl rfl (load_row RA Tryz.underlying95 rfl (by kernel_rfl)) (load_bool RB), ?_⟩
      exact ⟨JZ, none, 0, false, Or.inr ⟨HN.out, rfl, rfl⟩, rfl, jnone_row _ _ _, HBw.out.trans (k3.below HBw.out.size (fun b hb x => by rcases x with x | x <;> omega))⟩

/-- A struct out of its own block, and a slot. -/
theorem jresults_one {P : Program} {fn : Func} {p q : Tmp} {ty : TypeId} (h : fn.results = #[.cell p ty, .tmp q]) (tmps : Array Value) (w : World) (g : Nat) (v b : Value)
    (hp : tmps.getD p undef = .pointer (some ⟨g, 0, none⟩)) (hq : tmps.getD q undef = b) (h1 : (loadVar ty ⟨g, 0, none⟩).run P w = .ok v w) :
    (results fn tmps).run P w = .ok (.tuple #[v, b]) w := by
  rw [results_cell_tmp h, hp, hq]
  simp [asAddr, h1]

set_option maxRecDepth 100000 in
set_option maxHeartbeats 2000000 in
theorem iReadJournal (R : ByteArray → Int × Nat) (hR : Reads R) (s : ByteArray) (hs : s.size ≤ 1048576) (hnv : NoJn R s → readJn R s = none) (w : World) (u : TypeId) (pv : Value) (hL : Lacks w u pv) (T : Sums w) :
    Calls Tryz.prog 67 #[.string s] w fun e w' => JnOut R s w w' e := by
  have HR := hid hR
  have HNV := hid hnv
  clear hnv
  have HL := hid hL
  have HT := hid T
  clear hR hL T
  go_enter Tryz.func67, Tryz.ntmps67
  go_wp2_with fail
  obtain ⟨wc, hwc, ec, A0, K0⟩ := one_new w [.int .i64 0, .bool false, .int .i64 0, .int .i64 0, .int .i64 0, .int .i64 0, .string ⟨#[]⟩, .slice none 0 0] 95
  simp only [hwc]
  clear hwc
  have HA := hid A0
  have HK := hid K0
  clear A0 K0
  refine (readKindJn R HR.out s hs HNV.out wc u pv (HL.out.kept (Kept.of_below (S := fun _ => False) HK.out) (fun x => x)) (HT.out.below HK.out)).mono ?_
  rintro r w1 ⟨J, ad, cap, ok, hi, rfl, hO, b1⟩
  have HIs := hid hi
  have HO := hid hO
  have HA1 := hid (HA.out.below b1 HA.out.lt)
  have HB1 := hid (HK.out.trans (b1.mono HK.out.size))
  clear hi hO b1 HA
  have HV : Hid (jnV J ad cap = .agg #[.int .i64 J.txn, .bool J.done, .int .i64 J.kind, .int .i64 J.vol, .int .i64 J.to, .int .i64 J.at_, .string J.text, .slice ad J.outs.length cap]) := rfl
  rw [HV.out]
  have a0 := HA1.out.c 0 rfl
  have a1 := HA1.out.c 1 rfl
  have a2 := HA1.out.c 2 rfl
  have a3 := HA1.out.c 3 rfl
  have a4 := HA1.out.c 4 rfl
  have a5 := HA1.out.c 5 rfl
  have a6 := HA1.out.c 6 rfl
  have a7 := HA1.out.c 7 rfl
  have f0 := HA1.out.f 0
  have f1 := HA1.out.f 1
  have f2 := HA1.out.f 2
  have f3 := HA1.out.f 3
  have f4 := HA1.out.f 4
  have f5 := HA1.out.f 5
  have f6 := HA1.out.f 6
  have f7 := HA1.out.f 7
  have HRA := hid (row_set8 HA1.out (.int .i64 J.txn) (.bool J.done) (.int .i64 J.kind) (.int .i64 J.vol) (.int .i64 J.to) (.int .i64 J.at_) (.string J.text) (.slice ad J.outs.length cap))
  have HKK := hid (kept_set8 w1 w.heap.size (.int .i64 J.txn) (.bool J.done) (.int .i64 J.kind) (.int .i64 J.vol) (.int .i64 J.to) (.int .i64 J.at_) (.string J.text) (.slice ad J.outs.length cap))
  have HBf := hid (HB1.out.trans (HKK.out.below HB1.out.size (fun b hb x => by omega)))
  have HIf := hid (RowO.mono (B' := w.heap.size) (RowO.kept HO.out HKK.out (fun b hb x => by have := (RowO.lt HO.out hb).1; omega)) (by omega))
  clear HKK HO
  go_wp2
  refine bodyPost_ret (jresults_one rfl _ _ w.heap.size _ _ rfl rfl (load_row HRA.out Tryz.underlying95 rfl (by kernel_rfl))) rfl ?_
  exact ⟨J, ad, cap, ok, HIs.out, rfl, HIf.out, HBf.out⟩

end Go.Proofs.YtaopkchkhdbfnaaGreatDoor.Rd

namespace Go.Proofs.YtaopkchkhdbfnaaGreatDoor.Rd
open Go.RowKit Go.Proofs.YtaopkchkhdbfnaaGreatDoor.Mem Go.Proofs.YtaopkchkhdbfnaaGreatDoor.Sec
set_option linter.unusedVariables false

set_option maxRecDepth 100000 in
set_option maxHeartbeats 1000000 in
theorem l4VarsNeg (s : ByteArray) (w : World) :
    Calls Tryz.prog 127 #[.string s, .int .i64 (-1), .int .i64 1] w fun e w' => ∃ v, e = .returned (.tuple #[v, .int .i64 (-1)]) ∧ Below w.heap.size w w' := by
  go_enter Tryz.func127, Tryz.ntmps127
  go_wp2
  go_loopw [1, 8, 9] (fun z v j wr => z = .int .i64 (-1) ∧ j = .int .i64 0 ∧ Hid (Below w.heap.size w wr)) (fun _ _ _ _ => 0)
  case atStart => exact ⟨rfl, rfl, (Below.refl _ _).alloc (Nat.le_refl _) _⟩
  case round =>
    obtain ⟨rfl, rfl, HB⟩ := hrel
    go_wp2
    go_ret2
    exact ⟨_, rfl, HB.out⟩

theorem nums_1 (R : ByteArray → Int × Nat) (s : ByteArray) (i : Nat) : nums R s i 1 = if (R (rest s i)).2 = 0 then none else some ([(R (rest s i)).1], i + (R (rest s i)).2) := by
  rw [nums_step (R := R) (s := s) (i := i) (k := 0) (l := []) (e := i) rfl]
  rfl

theorem ext_rest (s : ByteArray) (i n : Nat) : (rest s i).extract 0 n = s.extract i (min s.size (i + n)) := by
  unfold rest
  apply ByteArray.ext
  simp [ByteArray.data_extract, Array.extract_extract]
  congr 1
  have : s.data.size = s.size := rfl
  omega

/-- What l4Take gives. -/
def TakeGive (e : Ending) : Option (ByteArray × Nat) → Prop
  | some (t, z) => e = .returned (.tuple #[.string t, .int .i64 (z : Int)])
  | none => e = .returned (.tuple #[.string ⟨#[]⟩, .int .i64 (-1)])

set_option maxRecDepth 100000 in
set_option maxHeartbeats 1000000 in
theorem l4TakeNeg (s : ByteArray) (w : World) :
    Calls Tryz.prog 128 #[.string s, .int .i64 (-1)] w fun e w' => TakeGive e none ∧ Below w.heap.size w w' := by
  go_enter Tryz.func128, Tryz.ntmps128
  go_wp2_with fail
  refine (l4VarsNeg s w).mono ?_
  rintro e w1 ⟨v, rfl, b1⟩
  have HB := hid b1
  clear b1
  go_wp2
  go_ret2
  exact ⟨rfl, HB.out⟩

set_option maxRecDepth 100000 in
set_option maxHeartbeats 2000000 in
theorem l4Take (R : ByteArray → Int × Nat) (hR : Reads R) (s : ByteArray) (hs : s.size ≤ 1048576) (i : Nat) (hi : i ≤ 1048576) (w : World) :
    Calls Tryz.prog 128 #[.string s, .int .i64 (i : Int)] w fun e w' => TakeGive e (pieceAt R s i) ∧ Below w.heap.size w w' := by
  have hRV := hR (rest s i) (by rw [rest_size]; unfold maxLen; omega)
  have hle := hRV.le
  have hx0 := hRV.x0
  have hx1 := hRV.x1
  rw [rest_size] at hle
  have HR := hid hR
  clear hR hRV
  go_enter Tryz.func128, Tryz.ntmps128
  go_wp2_with fail
  refine (l4Vars R HR.out s hs i 1 hi (by decide) w).mono ?_
  rintro e w1 ⟨hg, b1⟩
  have HB := hid b1
  clear b1
  by_cases hq : (R (rest s i)).2 = 0
  · have hn : nums R s i 1 = none := by rw [nums_1, if_pos hq]
    have HP : Hid (pieceAt R s i = none) := by unfold Hid pieceAt; rw [if_pos hq]
    rw [hn] at hg
    obtain ⟨v, rfl⟩ := hg
    clear hn hq hle hx0 hx1
    go_wp2
    go_ret2
    exact ⟨by rw [HP.out]; rfl, HB.out⟩
  · have hn : nums R s i 1 = some ([(R (rest s i)).1], i + (R (rest s i)).2) := by rw [nums_1, if_neg hq]
    obtain ⟨n, hnn⟩ : ∃ n : Nat, (R (rest s i)).1 = (n : Int) := Int.eq_ofNat_of_zero_le hx0
    have HP : Hid (pieceAt R s i = if ((rest s (i + (R (rest s i)).2)).size : Int) < (n : Int) then none else some ((rest s (i + (R (rest s i)).2)).extract 0 n, i + (R (rest s i)).2 + n)) := by
      unfold Hid pieceAt; rw [if_neg hq, hnn, Int.toNat_natCast]
    rw [hn, hnn] at hg
    rw [hnn] at hx1
    obtain ⟨v, rfl, hI⟩ := hg
    have hz : i + (R (rest s i)).2 ≤ s.size := by omega
    clear hn hnn hq hle hx0
    generalize i + (R (rest s i)).2 = z at *
    obtain ⟨g, off, cap, rfl, _, hgl, hcell⟩ := ir_cells hI (by simp)
    have c0 := hcell 0 n rfl
    rw [Nat.add_zero] at c0
    have hrs : (rest s z).size = s.size - z := rest_size s z
    rw [hrs] at HP
    clear hI hcell hrs
    have hz0 : ¬ ((z : Int) < 0) := by omega
    have hsub : IntKind.i64.wrap ((s.size : Int) - (z : Int)) = (s.size : Int) - (z : Int) := by rw [IntWalk.i64_left, IntWalk.wrap64_in _ (by omega)]
    by_cases hlt : (s.size : Int) - (z : Int) < (n : Int)
    · have HN : Hid (pieceAt R s i = none) := by rw [Hid, HP.out, if_pos (by omega)]
      go_wp2
      go_ret2
      exact ⟨by rw [HN.out]; rfl, HB.out⟩
    · have HN : Hid (pieceAt R s i = some ((rest s z).extract 0 n, z + n)) := by rw [Hid, HP.out, if_neg (by omega)]
      have hadd : IntKind.i64.wrap ((z : Int) + (n : Int)) = ((z + n : Nat) : Int) := by rw [IntWalk.i64_left, IntWalk.wrap64_in _ (by omega)]; omega
      have hzn : z + n ≤ s.size := by omega
      have hsl : ∀ wx : World, (Instr.slice 9 (.string s) (some (.int .i64 (z : Int))) (some (.int .i64 ((z + n : Nat) : Int))) none).run Tryz.prog wx = .ok (.string ((rest s z).extract 0 n)) wx := fun wx => by
        have h1 := run_slice_string (P := Tryz.prog) wx 9 s .i64 .i64 (z : Int) ((z + n : Nat) : Int) Tryz.underlying9 (by omega) (by omega) (by omega)
        rw [ext_rest, Nat.min_eq_right hzn]
        rw [Int.toNat_natCast, Int.toNat_natCast] at h1
        exact h1
      generalize (rest s z).extract 0 n = tx at *
      obtain ⟨y, hy⟩ : ∃ y : Nat, y = z + n := ⟨_, rfl⟩
      rw [← hy] at HN hadd hsl
      have hy0 : ¬ ((y : Int) < 0) := by omega
      clear HP hlt hy hx1
      go_wp2
      go_region
      all_goals (go_wp2; go_ret2; exact ⟨by rw [HN.out]; rfl, HB.out.drew⟩)

end Go.Proofs.YtaopkchkhdbfnaaGreatDoor.Rd

namespace Go.Proofs.YtaopkchkhdbfnaaGreatDoor.Rd
open Go.RowKit Go.Proofs.YtaopkchkhdbfnaaGreatDoor.Mem Go.Proofs.YtaopkchkhdbfnaaGreatDoor.Sec
set_option linter.unusedVariables false

/-- 'append' on an owned row, as one step of a region that draws its order. -/
theorem step_app_jn {P : Program} (t e : TypeId) (z : Value) (k bytes : Nat) (ht : P.underlying t = some (.slice e)) (hinfo : (P.info? e).map (fun i => (i.zero, i.size, i.bytes)) = some (some z, k, bytes)) (hzs : z.cells.size = k) (hk : 0 < k) (hby : bytes ≤ 1048576)
    {ops : Array Oper} {o : Oper} {a : Act} {w : World} {K : Act → World → Prop} {Q : Exit → Act → World → Prop} {E : Prop} (hgd : o.guard = none) (s x : Operand)
    (ho : o.op = .call { callee := .builtin .append, args := #[s, x], argTypes := #[t, t] })
    (B : Nat) (v : Value) (n : Nat) (xs : List Value) (hs : a.eval s = v) (h : RowO w B e k v n xs) (ad : Addr) (m c : Nat) (news : List Value) (hx : a.eval x = .slice (some ad) m c) (hl : news.length = m * k) (hS : Sl w (some ad) (m * k) (fun i => news.getD i undef)) (h1 : ∀ u ∈ news, u.oneCell' = true)
    (hm : n + m ≤ 1048576) (hB : B ≤ w.heap.size)
    (hK : ∀ v' w', RowO w' B e k v' (n + m) (xs ++ news) → Kept (fun b => rb v = some b) w w' → K (a.put o.dst v') w') :
    if Region.wanted o (yielded ops a.tmps) = true then Oper.wp P o a w K Q else E := by
  have hw : Region.wanted o (yielded ops a.tmps) = true := by simp [Region.wanted, hgd]
  rw [if_pos hw]
  obtain ⟨v', w', hr, h2, h3, h4⟩ := run_app (P := P) w B t o.type e z k bytes ht hinfo hzs hk v n xs h ad m c news hl hS h1 hm hby hB
  unfold Oper.wp execOp
  simp only [ho, resolve, invoke, builtin, Sem.run_bind, Sem.run_pure, Result.andThen_ok, List.map_toArray, List.map_cons, List.map_nil, hs, hx, hr]
  exact hK v' w' h2 h3

/-- A journal under way: its box at G, its list of its own behind it. -/
structure JnWay (w1 wr : World) (G : Nat) (x : Int) (dn : Bool) (k v t a : Int) (tx : ByteArray) (p : Option Addr) (d : Nat) (l : List Ou) : Prop where
  box : Row wr G [.int .i64 x, .bool dn, .int .i64 k, .int .i64 v, .int .i64 t, .int .i64 a, .string tx, .slice p l.length d]
  row : Or2 wr (G + 1) (.slice p l.length d) l
  bel : Below G w1 wr
  sz : G + 1 ≤ wr.heap.size

theorem JnWay.move {w1 wr : World} {G : Nat} {x : Int} {dn : Bool} {k v t a : Int} {tx : ByteArray} {p : Option Addr} {d : Nat} {l : List Ou} {w2 : World} (h : JnWay w1 wr G x dn k v t a tx p d l) (b : Below wr.heap.size wr w2) : JnWay w1 w2 G x dn k v t a tx p d l :=
  ⟨h.box.below b h.box.lt, RowO.below h.row b, h.bel.trans (b.mono (by have := h.sz; omega)), Nat.le_trans h.sz b.size⟩

theorem JnWay.rowA {w1 wr : World} {G : Nat} {x : Int} {dn : Bool} {k v t a : Int} {tx : ByteArray} {p : Option Addr} {d : Nat} {l : List Ou} (h : JnWay w1 wr G x dn k v t a tx p d l) (y : Int) (s : ByteArray) :
    RowO ((wr.drew).alloc (.cells #[.int .i64 y, .string s] 187)) (G + 1) 187 2 (.slice p l.length d) l.length (oc l) :=
  RowO.below h.row ⟨rfl, rfl, rfl, by simp, fun k hk => heap_alloc_old wr.drew _ hk⟩

theorem JnWay.szA {w1 wr : World} {G : Nat} {x : Int} {dn : Bool} {k v t a : Int} {tx : ByteArray} {p : Option Addr} {d : Nat} {l : List Ou} (h : JnWay w1 wr G x dn k v t a tx p d l) (y : Int) (s : ByteArray) : G + 1 ≤ ((wr.drew).alloc (.cells #[.int .i64 y, .string s] 187)).heap.size := by
  have := h.sz
  simp
  omega

theorem JnWay.after {w1 wr : World} {G : Nat} {x : Int} {dn : Bool} {k v t a : Int} {tx : ByteArray} {p : Option Addr} {d : Nat} {l : List Ou} {w' : World} {y : Int} {s : ByteArray} (h : JnWay w1 wr G x dn k v t a tx p d l)
    (kk : Kept (fun b => rb (.slice p l.length d) = some b) ((wr.drew).alloc (.cells #[.int .i64 y, .string s] 187)) w') : Row w' G [.int .i64 x, .bool dn, .int .i64 k, .int .i64 v, .int .i64 t, .int .i64 a, .string tx, .slice p l.length d] := by
  have hal : Below wr.heap.size wr ((wr.drew).alloc (.cells #[.int .i64 y, .string s] 187)) := ⟨rfl, rfl, rfl, by simp, fun k hk => heap_alloc_old wr.drew _ hk⟩
  have hnb : ¬ rb (.slice p l.length d) = some G := fun e => by have := (RowO.lt h.row e).1; omega
  exact (h.box.below hal h.box.lt).kept kk hnb

theorem JnWay.step {w1 wr : World} {G : Nat} {x : Int} {dn : Bool} {k v t a : Int} {tx : ByteArray} {p : Option Addr} {d : Nat} {l : List Ou} {w' : World} {p' : Option Addr} {d' : Nat} {y : Int} {s : ByteArray} (h : JnWay w1 wr G x dn k v t a tx p d l)
    (r : RowO w' (G + 1) 187 2 (.slice p' (l.length + 1) d') (l.length + 1) (oc l ++ [.int .i64 y, .string s])) (kk : Kept (fun b => rb (.slice p l.length d) = some b) ((wr.drew).alloc (.cells #[.int .i64 y, .string s] 187)) w') :
    JnWay w1 (w'.setCell ⟨G, 7, none⟩ (.slice p' (l.length + 1) d')) G x dn k v t a tx p' d' (l ++ [⟨y, s⟩]) := by
  have hal : Below wr.heap.size wr ((wr.drew).alloc (.cells #[.int .i64 y, .string s] 187)) := ⟨rfl, rfl, rfl, by simp, fun k hk => heap_alloc_old wr.drew _ hk⟩
  have b1 := (h.after kk).set 7 (.slice p' (l.length + 1) d')
  have hl : (l ++ [(⟨y, s⟩ : Ou)]).length = l.length + 1 := by simp
  refine ⟨?_, ?_, ?_, ?_⟩
  · rw [hl]; exact b1
  · have r2 : RowO (w'.setCell ⟨G, 7, none⟩ (.slice p' (l.length + 1) d')) (G + 1) 187 2 (.slice p' (l.length + 1) d') (l.length + 1) (oc l ++ [.int .i64 y, .string s]) :=
      RowO.kept r (kept_set w' G 7 _) (fun b hb e => by subst e; have := (RowO.lt r hb).1; omega)
    unfold Or2
    rw [hl, ← oc_app]
    exact r2
  · have k0 : Below G wr w' := by
      have k1 : Below G wr ((wr.drew).alloc (.cells #[.int .i64 y, .string s] 187)) := hal.mono (by have := h.sz; omega)
      exact k1.trans (kk.below (by have := h.sz; have := hal.size; omega) (fun b hb e => by have := (RowO.lt h.row e).1; omega))
    exact below_set (h.bel.trans k0) G 7 _ (Nat.le_refl _)
  · have := h.sz
    have := hal.size
    have := kk.size
    simp
    omega

theorem jn_start (w1 : World) (x : Int) (dn : Bool) (k v t a : Int) (tx : ByteArray) : JnWay w1 ((w1.alloc (.cells #[.int .i64 x, .bool dn, .int .i64 k, .int .i64 v, .int .i64 t, .int .i64 a, .string tx, .slice none 0 0] 95)).drew) w1.heap.size x dn k v t a tx none 0 [] := by
  have b : Below w1.heap.size w1 (w1.alloc (.cells #[.int .i64 x, .bool dn, .int .i64 k, .int .i64 v, .int .i64 t, .int .i64 a, .string tx, .slice none 0 0] 95)).drew := ((Below.refl _ _).alloc (Nat.le_refl _) _).drew
  obtain ⟨ty, e⟩ := Row.new w1 [.int .i64 x, .bool dn, .int .i64 k, .int .i64 v, .int .i64 t, .int .i64 a, .string tx, .slice none 0 0] 95
  exact ⟨⟨ty, e⟩, Or.inl ⟨none, rfl, rfl, rfl⟩, b, by show _ ≤ (w1.alloc _).heap.size; simp⟩

theorem upd {w : World} {p : Addr} {v : Value} {o : Obj} (h : w.cell? p = some v) : (w.alloc o).drew.cell? p = some v := (((Below.refl _ w).alloc (Nat.le_refl _) o).cell (World.block_lt_of_cell? w _ h)).trans h

theorem pieceAt_end {R : ByteArray → Int × Nat} (hR : Reads R) {s : ByteArray} (hs : s.size ≤ 1048576) {i : Nat} {t : ByteArray} {z : Nat} (h : pieceAt R s i = some (t, z)) : z ≤ 1048576 := by
  unfold pieceAt at h
  split at h
  · cases h
  · rename_i hq
    split at h
    · cases h
    · rename_i hlt
      simp only [Option.some.injEq, Prod.mk.injEq] at h
      obtain ⟨_, rfl⟩ := h
      have h1 := (hR (rest s i) (by rw [rest_size]; unfold maxLen; omega))
      have h2 := h1.le
      have h3 := h1.x0
      rw [rest_size] at h2 hlt
      omega

set_option maxRecDepth 100000 in
set_option maxHeartbeats 4000000 in
theorem sReadJournal (R : ByteArray → Int × Nat) (hR : Reads R) (s : ByteArray) (hs : s.size ≤ 1048576) (w : World) :
    Calls Tryz.prog 65 #[.string s] w fun e w' => JnOut R s w w' e := by
  have HR := hid hR
  clear hR
  go_enter Tryz.func65, Tryz.ntmps65
  go_wp2_with fail
  obtain ⟨wc, hwc, ec, A0, K0⟩ := one_new w [.int .i64 0, .bool false, .int .i64 0, .int .i64 0, .int .i64 0, .int .i64 0, .string ⟨#[]⟩, .slice none 0 0] 95
  simp only [hwc]
  clear hwc
  have HA := hid A0
  have HK := hid K0
  clear A0 K0
  refine (l4Vars R HR.out s hs 5 6 (by decide) (by decide) wc).mono ?_
  rintro e w1 ⟨hg, b1⟩
  have HA1 := hid (HA.out.below b1 HA.out.lt)
  have HB1 := hid (HK.out.trans (b1.mono HK.out.size))
  clear b1 HA HK
  cases hn : nums R s 5 6 with
  | none =>
    rw [hn] at hg
    obtain ⟨vv, rfl⟩ := hg
    have HNo : Hid (readJn R s = none) := readJn_no (jnAt_no1 hn)
    clear hn
    go_wp2_with fail
    refine (l4TakeNeg s w1).mono ?_
    rintro e w2 ⟨hg2, b2⟩
    obtain rfl : e = _ := hg2
    have HA2 := hid (HA1.out.below b2 HA1.out.lt)
    have HB2 := hid (HB1.out.trans (b2.mono HB1.out.size))
    clear b2
    go_wp2_with fail
    refine (l4VarsNeg s w2).mono ?_
    rintro e w3 ⟨v3, rfl, b3⟩
    have HA3 := hid (HA2.out.below b3 HA2.out.lt)
    have HB3 := hid (HB2.out.trans (b3.mono HB2.out.size))
    clear b3
    have a0 := HA3.out.c 0 rfl
    have a1 := HA3.out.c 1 rfl
    have a2 := HA3.out.c 2 rfl
    have a3 := HA3.out.c 3 rfl
    have a4 := HA3.out.c 4 rfl
    have a5 := HA3.out.c 5 rfl
    have a6 := HA3.out.c 6 rfl
    have a7 := HA3.out.c 7 rfl
    have f0 := HA3.out.f 0
    have f1 := HA3.out.f 1
    have f2 := HA3.out.f 2
    have f3 := HA3.out.f 3
    have f4 := HA3.out.f 4
    have f5 := HA3.out.f 5
    have f6 := HA3.out.f 6
    have f7 := HA3.out.f 7
    have HRA := hid (row_set8 HA3.out (.int .i64 0) (.bool false) (.int .i64 0) (.int .i64 0) (.int .i64 0) (.int .i64 0) (.string ⟨#[]⟩) (.slice none 0 0))
    have HBf := hid (HB3.out.trans ((kept_set8 w3 w.heap.size (.int .i64 0) (.bool false) (.int .i64 0) (.int .i64 0) (.int .i64 0) (.int .i64 0) (.string ⟨#[]⟩) (.slice none 0 0)).below HB3.out.size (fun b hb x => by omega)))
    go_wp2
    refine bodyPost_ret (jresults_one rfl _ _ w.heap.size _ _ rfl rfl (load_row HRA.out Tryz.underlying95 rfl (by kernel_rfl))) rfl ?_
    exact ⟨JZ, none, 0, false, Or.inr ⟨HNo.out, rfl, rfl⟩, rfl, jnone_row _ _ _, HBf.out⟩
  | some pr =>
    obtain ⟨l0, z⟩ := pr
    rw [hn] at hg
    obtain ⟨vv, rfl, hI⟩ := hg
    have hl0 := nums_len hn
    have hzs : z ≤ 1048576 := by
      by_cases h5 : 5 ≤ s.size
      · exact Nat.le_trans (nums_le HR.out (by unfold maxLen; omega) h5 hn) hs
      · exfalso
        have := nums_short R HR.out s (by omega) hs 5
        rw [this] at hn; cases hn
    obtain ⟨gL, offL, capL, rfl, _, hgLl, hcL⟩ := ir_cells hI (by omega)
    match l0, hl0 with
    | [x, f, k, v, t, a], hl0 =>
    have HCL := hid hcL
    have HN := hid hn
    have hz0 : (0 : Int) ≤ (z : Int) := by omega
    clear hn hI hl0 hcL
    go_wp2_with fail
    refine (l4Take R HR.out s hs z hzs w1).mono ?_
    rintro e w2 ⟨hg2, b2⟩
    have HA2 := hid (HA1.out.below b2 HA1.out.lt)
    have HB2 := hid (HB1.out.trans (b2.mono HB1.out.size))
    have HCL2 : Hid (∀ i y, [x, f, k, v, t, a][i]? = some y → w2.cell? ⟨gL, offL + i, none⟩ = some (.int .i64 y)) := fun i y hy => (b2.cell hgLl).trans (HCL.out i y hy)
    have hgL2 : gL < w2.heap.size := Nat.lt_of_lt_of_le hgLl b2.size
    clear b2 HCL hgLl
    cases hp : pieceAt R s z with
    | none =>
      rw [hp] at hg2
      obtain rfl : e = _ := hg2
      have HNo : Hid (readJn R s = none) := readJn_no (jnAt_no2 HN.out hp)
      clear hp
      go_wp2_with fail
      refine (l4VarsNeg s w2).mono ?_
      rintro e w3 ⟨v3, rfl, b3⟩
      have HA3 := hid (HA2.out.below b3 HA2.out.lt)
      have HB3 := hid (HB2.out.trans (b3.mono HB2.out.size))
      clear b3
      have a0 := HA3.out.c 0 rfl
      have a1 := HA3.out.c 1 rfl
      have a2 := HA3.out.c 2 rfl
      have a3 := HA3.out.c 3 rfl
      have a4 := HA3.out.c 4 rfl
      have a5 := HA3.out.c 5 rfl
      have a6 := HA3.out.c 6 rfl
      have a7 := HA3.out.c 7 rfl
      have f0 := HA3.out.f 0
      have f1 := HA3.out.f 1
      have f2 := HA3.out.f 2
      have f3 := HA3.out.f 3
      have f4 := HA3.out.f 4
      have f5 := HA3.out.f 5
      have f6 := HA3.out.f 6
      have f7 := HA3.out.f 7
      have HRA := hid (row_set8 HA3.out (.int .i64 0) (.bool false) (.int .i64 0) (.int .i64 0) (.int .i64 0) (.int .i64 0) (.string ⟨#[]⟩) (.slice none 0 0))
      have HBf := hid (HB3.out.trans ((kept_set8 w3 w.heap.size (.int .i64 0) (.bool false) (.int .i64 0) (.int .i64 0) (.int .i64 0) (.int .i64 0) (.string ⟨#[]⟩) (.slice none 0 0)).below HB3.out.size (fun b hb x => by omega)))
      go_wp2
      refine bodyPost_ret (jresults_one rfl _ _ w.heap.size _ _ rfl rfl (load_row HRA.out Tryz.underlying95 rfl (by kernel_rfl))) rfl ?_
      exact ⟨JZ, none, 0, false, Or.inr ⟨HNo.out, rfl, rfl⟩, rfl, jnone_row _ _ _, HBf.out⟩
    | some pq =>
      obtain ⟨tx, z1⟩ := pq
      rw [hp] at hg2
      obtain rfl : e = _ := hg2
      have HPc := hid hp
      have hz1s : z1 ≤ 1048576 := pieceAt_end HR.out hs hp
      clear hp
      go_wp2_with fail
      refine (l4Vars R HR.out s hs z1 1 hz1s (by decide) w2).mono ?_
      rintro e w3 ⟨hg3, b3⟩
      have HA3 := hid (HA2.out.below b3 HA2.out.lt)
      have HB3 := hid (HB2.out.trans (b3.mono HB2.out.size))
      have HCL3 : Hid (∀ i y, [x, f, k, v, t, a][i]? = some y → w3.cell? ⟨gL, offL + i, none⟩ = some (.int .i64 y)) := fun i y hy => (b3.cell hgL2).trans (HCL2.out i y hy)
      have hgL3 : gL < w3.heap.size := Nat.lt_of_lt_of_le hgL2 b3.size
      clear b3 HCL2 hgL2 HA1 HB1 HA2 HB2
      by_cases hq : (R (rest s z1)).2 = 0
      · have hn1 : nums R s z1 1 = none := by rw [nums_1, if_pos hq]
        rw [hn1] at hg3
        obtain ⟨v3, rfl⟩ := hg3
        have HNo : Hid (readJn R s = none) := readJn_no (jnAt_no3 HN.out HPc.out (by unfold outsAll; rw [if_pos (Or.inl hq)]))
        clear hn1 hq
        have a0 := HA3.out.c 0 rfl
        have a1 := HA3.out.c 1 rfl
        have a2 := HA3.out.c 2 rfl
        have a3 := HA3.out.c 3 rfl
        have a4 := HA3.out.c 4 rfl
        have a5 := HA3.out.c 5 rfl
        have a6 := HA3.out.c 6 rfl
        have a7 := HA3.out.c 7 rfl
        have f0 := HA3.out.f 0
        have f1 := HA3.out.f 1
        have f2 := HA3.out.f 2
        have f3 := HA3.out.f 3
        have f4 := HA3.out.f 4
        have f5 := HA3.out.f 5
        have f6 := HA3.out.f 6
        have f7 := HA3.out.f 7
        have HRA := hid (row_set8 HA3.out (.int .i64 0) (.bool false) (.int .i64 0) (.int .i64 0) (.int .i64 0) (.int .i64 0) (.string ⟨#[]⟩) (.slice none 0 0))
        have HBf := hid (HB3.out.trans ((kept_set8 w3 w.heap.size (.int .i64 0) (.bool false) (.int .i64 0) (.int .i64 0) (.int .i64 0) (.int .i64 0) (.string ⟨#[]⟩) (.slice none 0 0)).below HB3.out.size (fun b hb x => by omega)))
        go_wp2
        refine bodyPost_ret (jresults_one rfl _ _ w.heap.size _ _ rfl rfl (load_row HRA.out Tryz.underlying95 rfl (by kernel_rfl))) rfl ?_
        exact ⟨JZ, none, 0, false, Or.inr ⟨HNo.out, rfl, rfl⟩, rfl, jnone_row _ _ _, HBf.out⟩
      have hn1 : nums R s z1 1 = some ([(R (rest s z1)).1], z1 + (R (rest s z1)).2) := by rw [nums_1, if_neg hq]
      rw [hn1] at hg3
      obtain ⟨v3, rfl, hI3⟩ := hg3
      have hRV1 := HR.out (rest s z1) (by rw [rest_size]; unfold maxLen; omega)
      obtain ⟨n, hnn⟩ : ∃ n : Nat, (R (rest s z1)).1 = (n : Int) := Int.eq_ofNat_of_zero_le hRV1.x0
      have hn49 : (n : Int) ≤ 562949953421311 := by rw [← hnn]; exact hRV1.x1
      obtain ⟨gN, offN, capN, rfl, _, hgNl, hcN⟩ := ir_cells hI3 (by simp)
      have cN := hcN 0 _ rfl
      rw [Nat.add_zero] at cN
      have HOA : Hid (outsAll R s z1 = if 8 < (n : Int) then none else outsAt R s (z1 + (R (rest s z1)).2) n) := by
        unfold Hid outsAll
        rw [hnn, Int.toNat_natCast]
        by_cases h8 : 8 < (n : Int)
        · rw [if_pos (Or.inr h8), if_pos h8]
        · rw [if_neg (by omega), if_neg h8]
      have hz2s : z1 + (R (rest s z1)).2 ≤ 1048576 := by have := hRV1.le; rw [rest_size] at this; omega
      rw [hnn] at cN
      clear hn1 hq hRV1 hI3 hcN hnn
      generalize z1 + (R (rest s z1)).2 = z2 at *
      have hz20 : (0 : Int) ≤ (z2 : Int) := by omega
      by_cases h8 : 8 < (n : Int)
      · have HNo : Hid (readJn R s = none) := readJn_no (jnAt_no3 HN.out HPc.out (by rw [HOA.out, if_pos h8]))
        clear HOA
        have a0 := HA3.out.c 0 rfl
        have a1 := HA3.out.c 1 rfl
        have a2 := HA3.out.c 2 rfl
        have a3 := HA3.out.c 3 rfl
        have a4 := HA3.out.c 4 rfl
        have a5 := HA3.out.c 5 rfl
        have a6 := HA3.out.c 6 rfl
        have a7 := HA3.out.c 7 rfl
        have f0 := HA3.out.f 0
        have f1 := HA3.out.f 1
        have f2 := HA3.out.f 2
        have f3 := HA3.out.f 3
        have f4 := HA3.out.f 4
        have f5 := HA3.out.f 5
        have f6 := HA3.out.f 6
        have f7 := HA3.out.f 7
        have HRA := hid (row_set8 HA3.out (.int .i64 0) (.bool false) (.int .i64 0) (.int .i64 0) (.int .i64 0) (.int .i64 0) (.string ⟨#[]⟩) (.slice none 0 0))
        have HBf := hid (HB3.out.trans ((kept_set8 w3 w.heap.size (.int .i64 0) (.bool false) (.int .i64 0) (.int .i64 0) (.int .i64 0) (.int .i64 0) (.string ⟨#[]⟩) (.slice none 0 0)).below HB3.out.size (fun b hb x => by omega)))
        go_wp2
        refine bodyPost_ret (jresults_one rfl _ _ w.heap.size _ _ rfl rfl (load_row HRA.out Tryz.underlying95 rfl (by kernel_rfl))) rfl ?_
        exact ⟨JZ, none, 0, false, Or.inr ⟨HNo.out, rfl, rfl⟩, rfl, jnone_row _ _ _, HBf.out⟩
      have HOA2 : Hid (outsAll R s z1 = outsAt R s z2 n) := by rw [Hid, HOA.out, if_neg h8]
      obtain ⟨dn, hdn⟩ : ∃ dn, (f == 1) = dn := ⟨_, rfl⟩
      have HDn : Hid (decide (f = 1) = dn) := by rw [Hid, ← hdn]; rfl
      clear HOA
      have c0 := HCL3.out 0 x rfl
      have c1 := HCL3.out 1 f rfl
      have c2 := HCL3.out 2 k rfl
      have c3 := HCL3.out 3 v rfl
      have c4 := HCL3.out 4 t rfl
      have c5 := HCL3.out 5 a rfl
      rw [Nat.add_zero] at c0
      have HE : Hid (w3.drew.cell? ⟨gL, offL, none⟩ = some (.int .i64 x) ∧ w3.drew.cell? ⟨gL, offL + 1, none⟩ = some (.int .i64 f) ∧ w3.drew.cell? ⟨gL, offL + 2, none⟩ = some (.int .i64 k) ∧ w3.drew.cell? ⟨gL, offL + 3, none⟩ = some (.int .i64 v) ∧ w3.drew.cell? ⟨gL, offL + 4, none⟩ = some (.int .i64 t) ∧ w3.drew.cell? ⟨gL, offL + 5, none⟩ = some (.int .i64 a)) := ⟨c0, c1, c2, c3, c4, c5⟩
      go_wp2
      go_region_held_law (fun w' => w'.cell? ⟨gL, offL, none⟩ = some (.int .i64 x) ∧ w'.cell? ⟨gL, offL + 1, none⟩ = some (.int .i64 f) ∧ w'.cell? ⟨gL, offL + 2, none⟩ = some (.int .i64 k) ∧ w'.cell? ⟨gL, offL + 3, none⟩ = some (.int .i64 v) ∧ w'.cell? ⟨gL, offL + 4, none⟩ = some (.int .i64 t) ∧ w'.cell? ⟨gL, offL + 5, none⟩ = some (.int .i64 a))
        (first | with_reducible exact HE.out | with_reducible exact ⟨upd c0, upd c1, upd c2, upd c3, upd c4, upd c5⟩ | go_keep)
        (fail)
      obtain ⟨wq, hwq⟩ : ∃ wq, (w3.alloc (.cells #[.int .i64 x, .bool dn, .int .i64 k, .int .i64 v, .int .i64 t, .int .i64 a, .string tx, .slice none 0 0] 95)).drew = wq := ⟨_, rfl⟩
      have HV : Hid (JnWay w3 wq w3.heap.size x dn k v t a tx none 0 []) := by
        rw [← hwq]
        exact jn_start w3 x dn k v t a tx
      simp only [hwq]
      clear hwq c0 c1 c2 c3 c4 c5 HE HCL3 hdn h8
      have hwb : w.heap.size < w3.heap.size := HA3.out.lt
      go_wp2
      go_loopw [5, 9] (fun at_ i wr => ∃ (j zz : Nat) (p : Option Addr) (d : Nat) (l : List Ou), j ≤ n ∧ i = .int .i64 (j : Int) ∧ at_ = .int .i64 (zz : Int) ∧ zz ≤ 1048576 ∧ Hid (outsAt R s z2 j = some (l, zz)) ∧ Hid (JnWay w3 wr w3.heap.size x dn k v t a tx p d l)) (fun _ i _ => n - (intOf i).toNat)
      case atStart => exact ⟨0, z2, none, 0, [], Nat.zero_le _, rfl, rfl, hz2s, rfl, HV⟩
      case round =>
        obtain ⟨j, zz, p, d, l, hj, rfl, rfl, hzz, HOs, HW⟩ := hrel
        clear HV
        have hsr : w3.heap.size < wr.heap.size := HW.out.sz
        have HAr := hid (HA3.out.below HW.out.bel hwb)
        have HBr := hid (HB3.out.trans (HW.out.bel.mono (by omega)))
        have cNr : wr.cell? ⟨gN, offN, none⟩ = some (.int .i64 (n : Int)) := (HW.out.bel.cell hgNl).trans cN
        by_cases hlt : j < n
        · have HST := hid (outsAt_step HOs.out)
          have HOn : Hid (outsAt R s z2 (j + 1) = none → readJn R s = none) := fun hz => by
            refine readJn_no (jnAt_no3 HN.out HPc.out ?_)
            rw [HOA2.out]
            have := outsAt_none hz (n - (j + 1))
            rwa [show j + 1 + (n - (j + 1)) = n by omega] at this
          go_wp2_with fail
          refine (l4Vars R HR.out s hs zz 1 hzz (by decide) wr).mono ?_
          rintro e w4 ⟨hg4, b4⟩
          have HW4 := hid (HW.out.move b4)
          have HA4 := hid (HAr.out.below b4 HAr.out.lt)
          have HB4 := hid (HBr.out.trans (b4.mono HBr.out.size))
          have hs4 := b4.size
          clear b4 cNr
          by_cases hq : (R (rest s zz)).2 = 0
          · have hn1 : nums R s zz 1 = none := by rw [nums_1, if_pos hq]
            rw [hn1] at hg4
            obtain ⟨v4, rfl⟩ := hg4
            have HNo := hid (HOn.out (by rw [HST.out, if_pos hq]))
            clear hn1 hq
            go_wp2_with fail
            refine (l4TakeNeg s w4).mono ?_
            rintro e w5 ⟨hg5, b5⟩
            obtain rfl : e = _ := hg5
            have HA5 := hid (HA4.out.below b5 HA4.out.lt)
            have HB5 := hid (HB4.out.trans (b5.mono HB4.out.size))
            clear b5
            have a0 := HA5.out.c 0 rfl
            have a1 := HA5.out.c 1 rfl
            have a2 := HA5.out.c 2 rfl
            have a3 := HA5.out.c 3 rfl
            have a4 := HA5.out.c 4 rfl
            have a5 := HA5.out.c 5 rfl
            have a6 := HA5.out.c 6 rfl
            have a7 := HA5.out.c 7 rfl
            have f0 := HA5.out.f 0
            have f1 := HA5.out.f 1
            have f2 := HA5.out.f 2
            have f3 := HA5.out.f 3
            have f4 := HA5.out.f 4
            have f5 := HA5.out.f 5
            have f6 := HA5.out.f 6
            have f7 := HA5.out.f 7
            have HRA := hid (row_set8 HA5.out (.int .i64 0) (.bool false) (.int .i64 0) (.int .i64 0) (.int .i64 0) (.int .i64 0) (.string ⟨#[]⟩) (.slice none 0 0))
            have HBf := hid (HB5.out.trans ((kept_set8 w5 w.heap.size (.int .i64 0) (.bool false) (.int .i64 0) (.int .i64 0) (.int .i64 0) (.int .i64 0) (.string ⟨#[]⟩) (.slice none 0 0)).below HB5.out.size (fun b hb x => by omega)))
            go_wp2
            refine bodyPost_ret (jresults_one rfl _ _ w.heap.size _ _ rfl rfl (load_row HRA.out Tryz.underlying95 rfl (by kernel_rfl))) rfl ?_
            exact ⟨JZ, none, 0, false, Or.inr ⟨HNo.out, rfl, rfl⟩, rfl, jnone_row _ _ _, HBf.out⟩
          have hn1 : nums R s zz 1 = some ([(R (rest s zz)).1], zz + (R (rest s zz)).2) := by rw [nums_1, if_neg hq]
          rw [hn1] at hg4
          obtain ⟨v4, rfl, hI4⟩ := hg4
          have hRV1 := HR.out (rest s zz) (by rw [rest_size]; unfold maxLen; omega)
          have hz3s : zz + (R (rest s zz)).2 ≤ 1048576 := by have := hRV1.le; rw [rest_size] at this; omega
          have HST2 : Hid (outsAt R s z2 (j + 1) = (pieceAt R s (zz + (R (rest s zz)).2)).map fun q => (l ++ [⟨(R (rest s zz)).1, q.1⟩], q.2)) := by rw [Hid, HST.out, if_neg hq]
          obtain ⟨gK, offK, capK, rfl, _, hgKl, hcK⟩ := ir_cells hI4 (by simp)
          have cK := hcK 0 _ rfl
          rw [Nat.add_zero] at cK
          clear hn1 hq hRV1 hI4 hcK HST
          generalize (R (rest s zz)).1 = y at *
          generalize zz + (R (rest s zz)).2 = z3 at *
          have hz30 : (0 : Int) ≤ (z3 : Int) := by omega
          go_wp2_with fail
          refine (l4Take R HR.out s hs z3 hz3s w4).mono ?_
          rintro e w5 ⟨hg5, b5⟩
          have HW5 := hid (HW4.out.move b5)
          have HA5 := hid (HA4.out.below b5 HA4.out.lt)
          have HB5 := hid (HB4.out.trans (b5.mono HB4.out.size))
          have cK5 : w5.cell? ⟨gK, offK, none⟩ = some (.int .i64 y) := (b5.cell hgKl).trans cK
          have hgK5 : gK < w5.heap.size := Nat.lt_of_lt_of_le hgKl b5.size
          clear b5 cK hgKl HW4 HA4 HB4 HW
          cases hp : pieceAt R s z3 with
          | none =>
            rw [hp] at hg5
            obtain rfl : e = _ := hg5
            have HNo := hid (HOn.out (by rw [HST2.out, hp]; rfl))
            clear hp
            have a0 := HA5.out.c 0 rfl
            have a1 := HA5.out.c 1 rfl
            have a2 := HA5.out.c 2 rfl
            have a3 := HA5.out.c 3 rfl
            have a4 := HA5.out.c 4 rfl
            have a5 := HA5.out.c 5 rfl
            have a6 := HA5.out.c 6 rfl
            have a7 := HA5.out.c 7 rfl
            have f0 := HA5.out.f 0
            have f1 := HA5.out.f 1
            have f2 := HA5.out.f 2
            have f3 := HA5.out.f 3
            have f4 := HA5.out.f 4
            have f5 := HA5.out.f 5
            have f6 := HA5.out.f 6
            have f7 := HA5.out.f 7
            have HRA := hid (row_set8 HA5.out (.int .i64 0) (.bool false) (.int .i64 0) (.int .i64 0) (.int .i64 0) (.int .i64 0) (.string ⟨#[]⟩) (.slice none 0 0))
            have HBf := hid (HB5.out.trans ((kept_set8 w5 w.heap.size (.int .i64 0) (.bool false) (.int .i64 0) (.int .i64 0) (.int .i64 0) (.int .i64 0) (.string ⟨#[]⟩) (.slice none 0 0)).below HB5.out.size (fun b hb x => by omega)))
            go_wp2
            refine bodyPost_ret (jresults_one rfl _ _ w.heap.size _ _ rfl rfl (load_row HRA.out Tryz.underlying95 rfl (by kernel_rfl))) rfl ?_
            exact ⟨JZ, none, 0, false, Or.inr ⟨HNo.out, rfl, rfl⟩, rfl, jnone_row _ _ _, HBf.out⟩
          | some pq =>
            obtain ⟨tt, z4⟩ := pq
            rw [hp] at hg5
            obtain rfl : e = _ := hg5
            have HOs2 : Hid (outsAt R s z2 (j + 1) = some (l ++ [⟨y, tt⟩], z4)) := by rw [Hid, HST2.out, hp]; rfl
            have hz4s : z4 ≤ 1048576 := pieceAt_end HR.out hs hp
            have hz40 : (0 : Int) ≤ (z4 : Int) := by omega
            have hlL : l.length + 1 ≤ 1048576 := by have := (outsAt_len HOs.out).1; omega
            have q7 := HW5.out.box.c 7 rfl
            have hG5 : w3.heap.size < w5.heap.size := HW5.out.sz
            clear hp HST2 HOn
            go_wp2
            go_region_law ((refine step_app_jn 59 187 (.agg #[.int .i64 0, .string ByteArray.empty]) 2 24 Tryz.underlying59 infoOut rfl (by decide) (by decide) (by rfl) (.tmp 84) (.tmp 90) (by rfl) (w3.heap.size + 1) (.slice p l.length d) l.length (oc l) (by rfl) (HW5.out.rowA y tt) ⟨w5.heap.size, 0, none⟩ 1 1 [.int .i64 y, .string tt] (by rfl) rfl (one_out w5.drew y tt) (by intro u hu; simp at hu; rcases hu with rfl | rfl <;> rfl) hlL (HW5.out.szA y tt) ?_; intro v' w' r kk; obtain ⟨p', d', e', _⟩ := r.wr; subst e'; have hb' := HW5.out.after kk; have g7 := hb'.c 7 rfl; have gf := hb'.f 7; have HS := hid (HW5.out.step r kk); clear hb'))
            all_goals (go_wp2; exact ⟨⟨j + 1, z4, p', d', l ++ [⟨y, tt⟩], by omega, by go_num, rfl, hz4s, HOs2, HS⟩, by simp [intOf]; omega⟩)
        · obtain rfl : j = n := by omega
          have HJ : Hid (jnAt R s = some ([x, f, k, v, t, a], tx, l)) := jnAt_yes HN.out HPc.out (HOA2.out.trans HOs.out)
          have hsm := jnAt_small HJ.out
          have ho8 := hsm.2.1
          have HSm : Hid (Jn.Small ⟨x, dn, k, v, t, a, tx, l⟩) := ⟨Nat.le_trans hsm.1 hs, by show l.length ≤ _; omega, fun y hy => Nat.le_trans (hsm.2.2 y hy) hs⟩
          have HRd : Hid (readJn R s = if Jn.show ⟨x, dn, k, v, t, a, tx, l⟩ = s then some ⟨x, dn, k, v, t, a, tx, l⟩ else none) := by rw [Hid, readJn_yes HJ.out, HDn.out]
          have HSr : Hid (Ous wr p l) := by
            obtain ⟨a', cap', ea, hW⟩ := Or2.w HW.out.row
            cases ea
            exact Wr.sl hW
          have HZ := hid HW.out.box
          have HO := hid HW.out.row
          clear hsm HJ HOs
          have q0 := HZ.out.c 0 rfl
          have q1 := HZ.out.c 1 rfl
          have q2 := HZ.out.c 2 rfl
          have q3 := HZ.out.c 3 rfl
          have q4 := HZ.out.c 4 rfl
          have q5 := HZ.out.c 5 rfl
          have q6 := HZ.out.c 6 rfl
          have q7 := HZ.out.c 7 rfl
          go_wp2_with fail
          refine (sShowJournal wr ⟨x, dn, k, v, t, a, tx, l⟩ p d HSr.out HSm.out).mono ?_
          rintro e w5 ⟨rfl, b5⟩
          have HA5 := hid (HAr.out.below b5 HAr.out.lt)
          have HZ5 := hid (HZ.out.below b5 HZ.out.lt)
          have HO5 := hid (RowO.below HO.out b5)
          have HB5 := hid (HBr.out.trans (b5.mono HBr.out.size))
          clear b5 HAr HZ HO HBr HSr HSm HW q0 q1 q2 q3 q4 q5 q6 q7 cNr
          have q0 := HZ5.out.c 0 rfl
          have q1 := HZ5.out.c 1 rfl
          have q2 := HZ5.out.c 2 rfl
          have q3 := HZ5.out.c 3 rfl
          have q4 := HZ5.out.c 4 rfl
          have q5 := HZ5.out.c 5 rfl
          have q6 := HZ5.out.c 6 rfl
          have q7 := HZ5.out.c 7 rfl
          by_cases hsh : Jn.show ⟨x, dn, k, v, t, a, tx, l⟩ = s
          · have HN2 : Hid (readJn R s = some ⟨x, dn, k, v, t, a, tx, l⟩) := by rw [Hid, HRd.out, if_pos hsh]
            have hne := Own.eqS_yes hsh
            generalize Jn.show ⟨x, dn, k, v, t, a, tx, l⟩ = sh at *
            have a0 := HA5.out.c 0 rfl
            have a1 := HA5.out.c 1 rfl
            have a2 := HA5.out.c 2 rfl
            have a3 := HA5.out.c 3 rfl
            have a4 := HA5.out.c 4 rfl
            have a5 := HA5.out.c 5 rfl
            have a6 := HA5.out.c 6 rfl
            have a7 := HA5.out.c 7 rfl
            have f0 := HA5.out.f 0
            have f1 := HA5.out.f 1
            have f2 := HA5.out.f 2
            have f3 := HA5.out.f 3
            have f4 := HA5.out.f 4
            have f5 := HA5.out.f 5
            have f6 := HA5.out.f 6
            have f7 := HA5.out.f 7
            have HRA := hid (row_set8 HA5.out (.int .i64 x) (.bool dn) (.int .i64 k) (.int .i64 v) (.int .i64 t) (.int .i64 a) (.string tx) (.slice p l.length d))
            have HKK := hid (kept_set8 w5 w.heap.size (.int .i64 x) (.bool dn) (.int .i64 k) (.int .i64 v) (.int .i64 t) (.int .i64 a) (.string tx) (.slice p l.length d))
            have HBf := hid (HB5.out.trans (HKK.out.below HB5.out.size (fun b hb x => by omega)))
            have HIf := hid (RowO.mono (B' := w.heap.size) (RowO.kept HO5.out HKK.out (fun b hb x => by have := (RowO.lt HO5.out hb).1; omega)) (by omega))
            clear HKK HO5 HB5 HA5 HZ5 HRd
            go_wp2
            refine bodyPost_ret (jresults_one rfl _ _ w.heap.size _ _ rfl rfl (load_row HRA.out Tryz.underlying95 rfl (by kernel_rfl))) rfl ?_
            exact ⟨⟨x, dn, k, v, t, a, tx, l⟩, p, d, true, Or.inl ⟨HN2.out, ho8, rfl⟩, rfl, HIf.out, HBf.out⟩
          · have HNo : Hid (readJn R s = none) := by rw [Hid, HRd.out, if_neg hsh]
            have hne := Own.eqS_no hsh
            generalize Jn.show ⟨x, dn, k, v, t, a, tx, l⟩ = sh at *
            clear HO5 HRd
            have a0 := HA5.out.c 0 rfl
            have a1 := HA5.out.c 1 rfl
            have a2 := HA5.out.c 2 rfl
            have a3 := HA5.out.c 3 rfl
            have a4 := HA5.out.c 4 rfl
            have a5 := HA5.out.c 5 rfl
            have a6 := HA5.out.c 6 rfl
            have a7 := HA5.out.c 7 rfl
            have f0 := HA5.out.f 0
            have f1 := HA5.out.f 1
            have f2 := HA5.out.f 2
            have f3 := HA5.out.f 3
            have f4 := HA5.out.f 4
            have f5 := HA5.out.f 5
            have f6 := HA5.out.f 6
            have f7 := HA5.out.f 7
            have HRA := hid (row_set8 HA5.out (.int .i64 0) (.bool false) (.int .i64 0) (.int .i64 0) (.int .i64 0) (.int .i64 0) (.string ⟨#[]⟩) (.slice none 0 0))
            have HBf := hid (HB5.out.trans ((kept_set8 w5 w.heap.size (.int .i64 0) (.bool false) (.int .i64 0) (.int .i64 0) (.int .i64 0) (.int .i64 0) (.string ⟨#[]⟩) (.slice none 0 0)).below HB5.out.size (fun b hb x => by omega)))
            go_wp2
            refine bodyPost_ret (jresults_one rfl _ _ w.heap.size _ _ rfl rfl (load_row HRA.out Tryz.underlying95 rfl (by kernel_rfl))) rfl ?_
            exact ⟨JZ, none, 0, false, Or.inr ⟨HNo.out, rfl, rfl⟩, rfl, jnone_row _ _ _, HBf.out⟩

end Go.Proofs.YtaopkchkhdbfnaaGreatDoor.Rd

namespace Go.Proofs.YtaopkchkhdbfnaaGreatDoor.Rd
open Go.RowKit Go.Proofs.YtaopkchkhdbfnaaGreatDoor.Mem Go.Proofs.YtaopkchkhdbfnaaGreatDoor.Sec
open Go.Proofs.YtaopkchkhdbfnaaGreatDoor.Var (bl varS)
set_option linter.unusedVariables false

theorem two_steps {R : ByteArray → Int × Nat} {s : ByteArray} {i n : Nat} {x f : Int} {l : List Int} {z : Nat} (h : nums R s i (n + 2) = some (x :: f :: l, z)) :
    ∃ k1 k2, R (rest s i) = (x, k1) ∧ R (rest s (i + k1)) = (f, k2) ∧ k1 ≠ 0 ∧ k2 ≠ 0 := by
  have s1 := nums_step (R := R) (s := s) (i := i) (k := 0) (l := []) (e := i) rfl
  by_cases q1 : (R (rest s i)).2 = 0
  · rw [if_pos q1] at s1
    have := nums_none (k := 1) s1 (n + 1)
    rw [show 1 + (n + 1) = n + 2 by omega] at this
    rw [this] at h
    cases h
  rw [if_neg q1] at s1
  have s2 := nums_step s1
  by_cases q2 : (R (rest s (i + (R (rest s i)).2))).2 = 0
  · rw [if_pos q2] at s2
    have := nums_none (k := 2) s2 n
    rw [show 2 + n = n + 2 by omega] at this
    rw [this] at h
    cases h
  rw [if_neg q2] at s2
  have h7 := nums_split2 (n := n) s2
  rw [h] at h7
  cases hn : nums R s (i + (R (rest s i)).2 + (R (rest s (i + (R (rest s i)).2))).2) n with
  | none => rw [hn] at h7; cases h7
  | some p =>
    rw [hn] at h7
    simp only [Option.map_some, Option.some.injEq, Prod.mk.injEq, List.cons.injEq] at h7
    obtain ⟨⟨rfl, rfl, _⟩, _⟩ := h7
    exact ⟨_, _, rfl, rfl, q1, q2⟩

theorem jvr_of {x : Int} (h0 : 0 ≤ x) (h1 : x ≤ 562949953421311) : vr x = varS x := by unfold vr; rw [if_pos ⟨h0, h1⟩]

theorem jflag_bytes (on : Bool) : ∃ c : UInt8, flag on = ⟨#[c]⟩ ∧ c.toNat ≤ 1 := by
  cases on
  · exact ⟨0, by decide, by decide⟩
  · exact ⟨1, by decide, by decide⟩

theorem no_flagJn (R : ByteArray → Int × Nat) (hR : Reads R) (hT : ∀ s : ByteArray, s.size ≤ maxLen → Tx s (R s)) (s : ByteArray) (hs : s.size ≤ 1048576) : NoJn R s → readJn R s = none := by
  rintro (h | ⟨x, f, l, z, tx, o, h, hf, hj⟩)
  · exact readJn_no h
  have hl := nums_len h
  match l, hl with
  | [k, v, t, a], _ =>
  rw [readJn_yes hj, if_neg]
  intro hsh
  obtain ⟨k1, k2, e1, e2, q1, q2⟩ := two_steps (n := 4) h
  have hb : ∀ i, (rest s i).size ≤ maxLen := fun i => by rw [rest_size]; unfold maxLen; omega
  have r1 := hR _ (hb 5)
  have t1 := (hT _ (hb 5)).1
  have t2 := (hT _ (hb (5 + k1))).2
  rw [e1] at r1 t1
  rw [e2] at t2
  have z1 : (vr x).size = k1 := by rw [jvr_of r1.x0 r1.x1, t1 q1]; have := r1.le; simp at this ⊢; omega
  by_cases hv : Jn.ok ⟨x, decide (f = 1), k, v, t, a, tx, o⟩ = true
  · obtain ⟨c, hc, hc1⟩ := jflag_bytes (decide (f = 1))
    rw [← jn_yes hv] at hsh
    unfold summed Jn.head at hsh
    simp only [] at hsh
    rw [hc] at hsh
    obtain ⟨V, hV⟩ : ∃ V, vr k ++ (vr v ++ (vr t ++ (vr a ++ (Go.Proofs.YtaopkchkhdbfnaaGreatDoor.Sec.piece tx ++ (vr (o.length : Int) ++ outsS o))))) = V := ⟨_, rfl⟩
    generalize hX : Go.Proofs.YtaopkchkhdbfnaaGreatDoor.Fix.fxS (crc _) 4 = A at hsh
    have hA4 : A.size = 4 := by rw [← hX, Go.Proofs.YtaopkchkhdbfnaaGreatDoor.Fix.fxS_size]
    have hs2 : (A ++ ⟨#[106]⟩ ++ vr x) ++ (⟨#[c]⟩ ++ V) = s := by rw [← hsh, ← hV]; simp only [ByteArray.append_assoc]
    have hr := rest_app (A ++ ⟨#[106]⟩ ++ vr x) (⟨#[c]⟩ ++ V) (5 + k1) (by simp only [ByteArray.size_append, hA4, z1]; rfl)
    rw [hs2] at hr
    rw [hr] at t2
    have hg : (bl (⟨#[c]⟩ ++ V)).getD 0 0 = (c.toNat : Int) := by simp [bl]
    rw [hg] at t2
    have := t2 q2 (by omega)
    simp at this
    omega
  · rw [jn_no (by simpa using hv)] at hsh
    have hk := r1.le
    rw [rest_size, ← hsh] at hk
    have h0 : (⟨#[]⟩ : ByteArray).size = 0 := rfl
    rw [h0] at hk
    have : k1 ≤ 0 - 5 := hk
    omega

end Go.Proofs.YtaopkchkhdbfnaaGreatDoor.Rd

namespace Go.Proofs.YtaopkchkhdbfnaaGreatDoor.Pk
open Go.RowKit Go.Proofs.YtaopkchkhdbfnaaGreatDoor.Mem Go.Proofs.YtaopkchkhdbfnaaGreatDoor.Sec Go.Proofs.YtaopkchkhdbfnaaGreatDoor.Rd
set_option linter.unusedVariables false

/-- Is a text a sector of its kind. -/
def secOk (R : ByteArray → Int × Nat) (k : Nat) (s : ByteArray) : Bool :=
  match k with
  | 0 => (readHost R s).isSome
  | 1 => (readJn R s).isSome
  | 2 => (readFrees R s).isSome
  | 3 => (readVol R s).isSome
  | 4 => (readGroup R s).isSome
  | _ => decide ((s.size : Int) ≤ 16)

def kindOf (i : Nat) : Nat := if i < 3 then 0 else if i < 6 then 1 else if i < 9 then 2 else if i < 13 then 3 else if i < 16 then 4 else 5

/-- Are texts a pool's sectors. -/
def poolOk (R : ByteArray → Int × Nat) (l : List ByteArray) : Bool := decide (l.length = 34) && (List.range 34).all fun i => secOk R (kindOf i) (l.getD i ByteArray.empty)

theorem pool_no1 {R : ByteArray → Int × Nat} {l : List ByteArray} (h : ¬ l.length = 34) : poolOk R l = false := by unfold poolOk; rw [decide_eq_false h]; rfl
theorem pool_no2 {R : ByteArray → Int × Nat} {l : List ByteArray} (i : Nat) (hi : i < 34) (h : secOk R (kindOf i) (l.getD i ByteArray.empty) = false) : poolOk R l = false := by
  unfold poolOk
  have : ((List.range 34).all fun i => secOk R (kindOf i) (l.getD i ByteArray.empty)) = false := by
    rw [List.all_eq_false]
    exact ⟨i, List.mem_range.2 hi, by rw [h]; decide⟩
  rw [this, Bool.and_false]
theorem pool_yes {R : ByteArray → Int × Nat} {l : List ByteArray} (hl : l.length = 34) (h : ∀ i, i < 34 → secOk R (kindOf i) (l.getD i ByteArray.empty) = true) : poolOk R l = true := by
  unfold poolOk
  rw [decide_eq_true hl, Bool.true_and, List.all_eq_true]
  intro i hi
  exact h i (List.mem_range.1 hi)

theorem sHost (R : ByteArray → Int × Nat) (hR : Reads R) (s : ByteArray) (hs : s.size ≤ 1048576) (w : World) :
    Calls Tryz.prog 89 #[.string s] w fun e w' => ∃ b x y : Int, e = .returned (.tuple #[.agg #[.int .i64 b, .int .i64 x, .int .i64 y], .bool (secOk R 0 s)]) ∧ Below w.heap.size w w' := by
  refine (sReadHost R hR s hs w).mono ?_
  rintro e w' ⟨h, b⟩
  unfold secOk
  rcases h with ⟨x, y, z, h, rfl⟩ | ⟨h, rfl⟩
  · exact ⟨x, y, z, by rw [h]; rfl, b⟩
  · exact ⟨0, 0, 0, by rw [h]; rfl, b⟩

theorem iHost (R : ByteArray → Int × Nat) (hR : Reads R) (hT : ∀ s : ByteArray, s.size ≤ maxLen → Tx s (R s)) (s : ByteArray) (hs : s.size ≤ 1048576) (w : World) (u : TypeId) (pv : Value) (hL : Lacks w u pv) (T : Sums w) :
    Calls Tryz.prog 149 #[.string s] w fun e w' => ∃ b x y : Int, e = .returned (.tuple #[.agg #[.int .i64 b, .int .i64 x, .int .i64 y], .bool (secOk R 0 s)]) ∧ Below w.heap.size w w' := by
  refine (iReadHost R hR s hs w u pv hL T).mono ?_
  rintro e w' ⟨h, b⟩
  unfold secOk
  rcases h with ⟨x, y, z, h, rfl⟩ | ⟨h, rfl⟩
  · exact ⟨x, y, z, by rw [h]; rfl, b⟩
  · exact ⟨0, 0, 0, by rw [h]; rfl, b⟩

theorem sJournal (R : ByteArray → Int × Nat) (hR : Reads R) (s : ByteArray) (hs : s.size ≤ 1048576) (w : World) :
    Calls Tryz.prog 65 #[.string s] w fun e w' => ∃ (J : Jn) (a : Option Addr) (cap : Nat), e = .returned (.tuple #[.agg #[.int .i64 J.txn, .bool J.done, .int .i64 J.kind, .int .i64 J.vol, .int .i64 J.to, .int .i64 J.at_, .string J.text, .slice a J.outs.length cap], .bool (secOk R 1 s)]) ∧ Below w.heap.size w w' := by
  refine (sReadJournal R hR s hs w).mono ?_
  rintro e w' ⟨J, a, cap, ok, hi, rfl, _, b⟩
  unfold secOk
  rcases hi with ⟨h, _, rfl⟩ | ⟨h, _, rfl⟩
  · exact ⟨J, a, cap, by rw [h]; rfl, b⟩
  · exact ⟨J, a, cap, by rw [h]; rfl, b⟩

theorem iJournal (R : ByteArray → Int × Nat) (hR : Reads R) (hT : ∀ s : ByteArray, s.size ≤ maxLen → Tx s (R s)) (s : ByteArray) (hs : s.size ≤ 1048576) (w : World) (u : TypeId) (pv : Value) (hL : Lacks w u pv) (T : Sums w) :
    Calls Tryz.prog 67 #[.string s] w fun e w' => ∃ (J : Jn) (a : Option Addr) (cap : Nat), e = .returned (.tuple #[.agg #[.int .i64 J.txn, .bool J.done, .int .i64 J.kind, .int .i64 J.vol, .int .i64 J.to, .int .i64 J.at_, .string J.text, .slice a J.outs.length cap], .bool (secOk R 1 s)]) ∧ Below w.heap.size w w' := by
  refine (iReadJournal R hR s hs (no_flagJn R hR hT s hs) w u pv hL T).mono ?_
  rintro e w' ⟨J, a, cap, ok, hi, rfl, _, b⟩
  unfold secOk
  rcases hi with ⟨h, _, rfl⟩ | ⟨h, _, rfl⟩
  · exact ⟨J, a, cap, by rw [h]; rfl, b⟩
  · exact ⟨J, a, cap, by rw [h]; rfl, b⟩

theorem sFrees (R : ByteArray → Int × Nat) (hR : Reads R) (s : ByteArray) (hs : s.size ≤ 1048576) (w : World) :
    Calls Tryz.prog 90 #[.string s] w fun e w' => ∃ v : Value, e = .returned (.tuple #[v, .bool (secOk R 2 s)]) ∧ Below w.heap.size w w' := by
  refine (sReadFrees R hR s hs w).mono ?_
  rintro e w' ⟨v, l, ok, hi, rfl, _, b⟩
  unfold secOk
  rcases hi with ⟨h, rfl⟩ | ⟨h, _, rfl⟩
  · exact ⟨v, by rw [h]; rfl, b⟩
  · exact ⟨v, by rw [h]; rfl, b⟩

theorem iFrees (R : ByteArray → Int × Nat) (hR : Reads R) (hT : ∀ s : ByteArray, s.size ≤ maxLen → Tx s (R s)) (s : ByteArray) (hs : s.size ≤ 1048576) (w : World) (u : TypeId) (pv : Value) (hL : Lacks w u pv) (T : Sums w) :
    Calls Tryz.prog 150 #[.string s] w fun e w' => ∃ v : Value, e = .returned (.tuple #[v, .bool (secOk R 2 s)]) ∧ Below w.heap.size w w' := by
  refine (iReadFrees R hR s hs w u pv hL T).mono ?_
  rintro e w' ⟨v, l, ok, hi, rfl, _, b⟩
  unfold secOk
  rcases hi with ⟨h, rfl⟩ | ⟨h, _, rfl⟩
  · exact ⟨v, by rw [h]; rfl, b⟩
  · exact ⟨v, by rw [h]; rfl, b⟩

theorem sVol (R : ByteArray → Int × Nat) (hR : Reads R) (s : ByteArray) (hs : s.size ≤ 1048576) (w : World) :
    Calls Tryz.prog 70 #[.string s] w fun e w' => ∃ (h p : Int) (on : Bool) (a : Option Addr) (m cap : Nat), e = .returned (.tuple #[.agg #[.int .i64 h, .int .i64 p, .bool on, .slice a m cap], .bool (secOk R 3 s)]) ∧ Below w.heap.size w w' := by
  refine (sReadVol R hR s hs w).mono ?_
  rintro r w' ⟨h, p, on, l, a, cap, ok, hi, rfl, _, b⟩
  unfold secOk
  rcases hi with ⟨q, _, rfl⟩ | ⟨q, _, _, _, _, rfl⟩
  · exact ⟨h, p, on, a, l.length, cap, by rw [q]; rfl, b⟩
  · exact ⟨h, p, on, a, l.length, cap, by rw [q]; rfl, b⟩

theorem iVol (R : ByteArray → Int × Nat) (hR : Reads R) (hT : ∀ s : ByteArray, s.size ≤ maxLen → Tx s (R s)) (s : ByteArray) (hs : s.size ≤ 1048576) (w : World) (u : TypeId) (pv : Value) (hL : Lacks w u pv) (T : Sums w) :
    Calls Tryz.prog 133 #[.string s] w fun e w' => ∃ (h p : Int) (on : Bool) (a : Option Addr) (m cap : Nat), e = .returned (.tuple #[.agg #[.int .i64 h, .int .i64 p, .bool on, .slice a m cap], .bool (secOk R 3 s)]) ∧ Below w.heap.size w w' := by
  refine (iReadVol R hR s hs (no_flag R hR hT s hs) w u pv hL T).mono ?_
  rintro r w' ⟨h, p, on, l, a, cap, ok, hi, rfl, _, b⟩
  unfold secOk
  rcases hi with ⟨q, _, rfl⟩ | ⟨q, _, _, _, _, rfl⟩
  · exact ⟨h, p, on, a, l.length, cap, by rw [q]; rfl, b⟩
  · exact ⟨h, p, on, a, l.length, cap, by rw [q]; rfl, b⟩

theorem sGroup (R : ByteArray → Int × Nat) (hR : Reads R) (s : ByteArray) (hs : s.size ≤ 1048576) (w : World) :
    Calls Tryz.prog 71 #[.string s] w fun e w' => ∃ (h p : Int) (a : Option Addr) (m cap : Nat), e = .returned (.tuple #[.agg #[.int .i64 h, .int .i64 p, .slice a m cap], .bool (secOk R 4 s)]) ∧ Below w.heap.size w w' := by
  refine (sReadGroup R hR s hs w).mono ?_
  rintro r w' ⟨h, p, l, a, cap, ok, hi, rfl, _, b⟩
  unfold secOk
  rcases hi with ⟨q, _, rfl⟩ | ⟨q, _, _, _, rfl⟩
  · exact ⟨h, p, a, l.length, cap, by rw [q]; rfl, b⟩
  · exact ⟨h, p, a, l.length, cap, by rw [q]; rfl, b⟩

theorem iGroup (R : ByteArray → Int × Nat) (hR : Reads R) (hT : ∀ s : ByteArray, s.size ≤ maxLen → Tx s (R s)) (s : ByteArray) (hs : s.size ≤ 1048576) (w : World) (u : TypeId) (pv : Value) (hL : Lacks w u pv) (T : Sums w) :
    Calls Tryz.prog 134 #[.string s] w fun e w' => ∃ (h p : Int) (a : Option Addr) (m cap : Nat), e = .returned (.tuple #[.agg #[.int .i64 h, .int .i64 p, .slice a m cap], .bool (secOk R 4 s)]) ∧ Below w.heap.size w w' := by
  refine (iReadGroup R hR s hs w u pv hL T).mono ?_
  rintro r w' ⟨h, p, l, a, cap, ok, hi, rfl, _, b⟩
  unfold secOk
  rcases hi with ⟨q, _, rfl⟩ | ⟨q, _, _, _, rfl⟩
  · exact ⟨h, p, a, l.length, cap, by rw [q]; rfl, b⟩
  · exact ⟨h, p, a, l.length, cap, by rw [q]; rfl, b⟩

theorem sec0 (m : Nat) (h : m < 3) : Sector.sectorOf 0 (m : Int) = ((0 + m : Nat) : Int) := by
  have h1 := Sector.yes 0 (m : Int) (by decide) (by omega) (by show (m : Int) < 3; omega)
  have h2 : Sector.S 0 = 0 := by decide
  rw [h2] at h1
  have h3 : Sector.sectorOf 0 (m : Int) = (m : Int) + 0 := h1
  rw [h3]; omega
theorem kind0 (m : Nat) (h : m < 3) : kindOf (0 + m) = 0 := by unfold kindOf; rw [if_pos (by omega)]

theorem sec1 (m : Nat) (h : m < 3) : Sector.sectorOf 1 (m : Int) = ((3 + m : Nat) : Int) := by
  have h1 := Sector.yes 1 (m : Int) (by decide) (by omega) (by show (m : Int) < 3; omega)
  have h2 : Sector.S 1 = 3 := by decide
  rw [h2] at h1
  have h3 : Sector.sectorOf 1 (m : Int) = (m : Int) + 3 := h1
  rw [h3]; omega
theorem kind1 (m : Nat) (h : m < 3) : kindOf (3 + m) = 1 := by unfold kindOf; rw [if_neg (by omega)]; rw [if_pos (by omega)]

theorem sec2 (m : Nat) (h : m < 3) : Sector.sectorOf 2 (m : Int) = ((6 + m : Nat) : Int) := by
  have h1 := Sector.yes 2 (m : Int) (by decide) (by omega) (by show (m : Int) < 3; omega)
  have h2 : Sector.S 2 = 6 := by decide
  rw [h2] at h1
  have h3 : Sector.sectorOf 2 (m : Int) = (m : Int) + 6 := h1
  rw [h3]; omega
theorem kind2 (m : Nat) (h : m < 3) : kindOf (6 + m) = 2 := by unfold kindOf; rw [if_neg (by omega)]; rw [if_neg (by omega)]; rw [if_pos (by omega)]

theorem sec3 (m : Nat) (h : m < 4) : Sector.sectorOf 3 (m : Int) = ((9 + m : Nat) : Int) := by
  have h1 := Sector.yes 3 (m : Int) (by decide) (by omega) (by show (m : Int) < 4; omega)
  have h2 : Sector.S 3 = 9 := by decide
  rw [h2] at h1
  have h3 : Sector.sectorOf 3 (m : Int) = (m : Int) + 9 := h1
  rw [h3]; omega
theorem kind3 (m : Nat) (h : m < 4) : kindOf (9 + m) = 3 := by unfold kindOf; rw [if_neg (by omega)]; rw [if_neg (by omega)]; rw [if_neg (by omega)]; rw [if_pos (by omega)]

theorem sec4 (m : Nat) (h : m < 3) : Sector.sectorOf 4 (m : Int) = ((13 + m : Nat) : Int) := by
  have h1 := Sector.yes 4 (m : Int) (by decide) (by omega) (by show (m : Int) < 3; omega)
  have h2 : Sector.S 4 = 13 := by decide
  rw [h2] at h1
  have h3 : Sector.sectorOf 4 (m : Int) = (m : Int) + 13 := h1
  rw [h3]; omega
theorem kind4 (m : Nat) (h : m < 3) : kindOf (13 + m) = 4 := by unfold kindOf; rw [if_neg (by omega)]; rw [if_neg (by omega)]; rw [if_neg (by omega)]; rw [if_neg (by omega)]; rw [if_pos (by omega)]

theorem sec5 (m : Nat) (h : m < 18) : Sector.sectorOf 5 (m : Int) = ((16 + m : Nat) : Int) := by
  have h1 := Sector.yes 5 (m : Int) (by decide) (by omega) (by show (m : Int) < 18; omega)
  have h2 : Sector.S 5 = 16 := by decide
  rw [h2] at h1
  have h3 : Sector.sectorOf 5 (m : Int) = (m : Int) + 16 := h1
  rw [h3]; omega
theorem kind5 (m : Nat) (h : m < 18) : kindOf (16 + m) = 5 := by unfold kindOf; rw [if_neg (by omega)]; rw [if_neg (by omega)]; rw [if_neg (by omega)]; rw [if_neg (by omega)]; rw [if_neg (by omega)]

set_option maxRecDepth 100000 in
set_option maxHeartbeats 1000000 in
theorem isSectorOf (R : ByteArray → Int × Nat) (hR : Reads R) (hT : ∀ s : ByteArray, s.size ≤ maxLen → Tx s (R s)) (k : Nat) (hk : k < 6) (s : ByteArray) (hs : s.size ≤ 1048576) (w : World) (u : TypeId) (pv : Value) (hL : Lacks w u pv) (T : Sums w) :
    Calls Tryz.prog 102 #[.int .i64 (k : Int), .string s] w fun e w' => e = .returned (.bool (secOk R k s)) ∧ Below w.heap.size w w' := by
  have HR := hid hR
  have HTx := hid hT
  have HL := hid hL
  have HT := hid T
  have hc : k = 0 ∨ k = 1 ∨ k = 2 ∨ k = 3 ∨ k = 4 ∨ k = 5 := by omega
  clear hR hT hL T hk
  rcases hc with rfl | rfl | rfl | rfl | rfl | rfl
  · go_enter Tryz.func102, Tryz.ntmps102
    go_wp2_with fail
    refine (iHost R HR.out HTx.out s hs w u pv HL.out HT.out).mono ?_
    rintro e w1 ⟨b, x, y, rfl, b1⟩
    have HB := hid b1
    clear b1
    generalize hq : secOk R 0 s = q
    have HQ := hid hq
    clear hq
    go_wp2
    go_ret
    exact ⟨by rw [HQ.out]; rfl, HB.out⟩
  · go_enter Tryz.func102, Tryz.ntmps102
    go_wp2_with fail
    refine (iJournal R HR.out HTx.out s hs w u pv HL.out HT.out).mono ?_
    rintro e w1 ⟨J, a, cap, rfl, b1⟩
    have HB := hid b1
    clear b1
    generalize hq : secOk R 1 s = q
    have HQ := hid hq
    clear hq
    go_wp2
    go_ret
    exact ⟨by rw [HQ.out]; rfl, HB.out⟩
  · go_enter Tryz.func102, Tryz.ntmps102
    go_wp2_with fail
    refine (iFrees R HR.out HTx.out s hs w u pv HL.out HT.out).mono ?_
    rintro e w1 ⟨v, rfl, b1⟩
    have HB := hid b1
    clear b1
    generalize hq : secOk R 2 s = q
    have HQ := hid hq
    clear hq
    go_wp2
    go_ret
    exact ⟨by rw [HQ.out]; rfl, HB.out⟩
  · go_enter Tryz.func102, Tryz.ntmps102
    go_wp2_with fail
    refine (iVol R HR.out HTx.out s hs w u pv HL.out HT.out).mono ?_
    rintro e w1 ⟨h, p, on, a, m, cap, rfl, b1⟩
    have HB := hid b1
    clear b1
    generalize hq : secOk R 3 s = q
    have HQ := hid hq
    clear hq
    go_wp2
    go_ret
    exact ⟨by rw [HQ.out]; rfl, HB.out⟩
  · go_enter Tryz.func102, Tryz.ntmps102
    go_wp2_with fail
    refine (iGroup R HR.out HTx.out s hs w u pv HL.out HT.out).mono ?_
    rintro e w1 ⟨h, p, a, m, cap, rfl, b1⟩
    have HB := hid b1
    clear b1
    generalize hq : secOk R 4 s = q
    have HQ := hid hq
    clear hq
    go_wp2
    go_ret
    exact ⟨by rw [HQ.out]; rfl, HB.out⟩
  · have HQ : Hid (secOk R 5 s = decide ((s.size : Int) ≤ 16)) := rfl
    go_enter Tryz.func102, Tryz.ntmps102
    go_wp2
    go_ret
    exact ⟨by rw [HQ.out]; rfl, Below.refl _ _⟩

end Go.Proofs.YtaopkchkhdbfnaaGreatDoor.Pk

namespace Go.Proofs.YtaopkchkhdbfnaaGreatDoor.Pl
open Go.RowKit Go.Proofs.YtaopkchkhdbfnaaGreatDoor.Mem Go.Proofs.YtaopkchkhdbfnaaGreatDoor.Sec Go.Proofs.YtaopkchkhdbfnaaGreatDoor.Pk
set_option linter.unusedVariables false

/-- Is the host the one of its place, right, and no newer than the disk says. -/
def hoIs (ep : List Int) (i : Nat) (H : Ho) : Bool := decide (H.id = (i : Int)) && (H.ok && !(H.up && decide (ep.getD i 0 < H.ep)))
def hostsOk (hs : List Ho) (ep : List Int) : Bool := decide (hs.length = 3) && (List.range 3).all fun i => hoIs ep i (hs.getD i Ho.none)
def evOk (e : Ev) : Bool := decide (0 ≤ e.h ∧ e.h < 3) && (decide (1 ≤ e.x ∧ e.x ≤ 1000000) && (opRight e.k e.v e.t e.a e.s && decide (e.k ≤ 6)))
def rpOk (n : Nat) (r : Rp) : Bool := decide (0 ≤ r.h ∧ r.h < 3) && (opRight r.k r.v r.t r.a r.s && (decide (0 ≤ r.c ∧ r.c ≤ 6) && (decide ((r.d.size : Int) ≤ 700) && decide (0 ≤ r.m ∧ r.m ≤ (n : Int)))))
def evsOk (l : List Ev) : Bool := decide (l.length ≤ 400) && l.all evOk
def rpsOk (n : Nat) (l : List Rp) : Bool := decide (l.length ≤ 400) && l.all (rpOk n)
def seenOk (l : List Int) : Bool := decide (l.length = 3) && between 0 1000000 l
/-- Is a world right. -/
def Wd.ok (R : ByteArray → Int × Nat) (X : Wd) : Bool := X.D.right && (poolOk R X.D.sec && (hostsOk X.hs X.D.ep && (seenOk X.seen && (evsOk X.log && rpsOk X.log.length X.rep))))

theorem all_false {α : Type} (l : List α) (p : α → Bool) (d : α) (k : Nat) (hk : k < l.length) (h : p (l.getD k d) = false) : l.all p = false := by
  rw [List.all_eq_false]
  refine ⟨l.getD k d, ?_, by rw [h]; decide⟩
  rw [List.getD, List.getElem?_eq_getElem hk]
  exact List.getElem_mem hk
theorem all_true {α : Type} (l : List α) (p : α → Bool) (d : α) (h : ∀ j, j < l.length → p (l.getD j d) = true) : l.all p = true := by
  rw [List.all_eq_true]
  intro x hx
  obtain ⟨j, hj, rfl⟩ := List.getElem_of_mem hx
  have := h j hj
  rwa [List.getD, List.getElem?_eq_getElem hj] at this

theorem hosts_no1 {hs : List Ho} {ep : List Int} (h : ¬ hs.length = 3) : hostsOk hs ep = false := by unfold hostsOk; rw [decide_eq_false h]; rfl
theorem hosts_no2 {hs : List Ho} {ep : List Int} (i : Nat) (hi : i < 3) (h : hoIs ep i (hs.getD i Ho.none) = false) : hostsOk hs ep = false := by
  unfold hostsOk
  have : ((List.range 3).all fun i => hoIs ep i (hs.getD i Ho.none)) = false := by
    rw [List.all_eq_false]
    exact ⟨i, List.mem_range.2 hi, by rw [h]; decide⟩
  rw [this, Bool.and_false]
theorem hosts_yes {hs : List Ho} {ep : List Int} (h3 : hs.length = 3) (h : ∀ i, i < 3 → hoIs ep i (hs.getD i Ho.none) = true) : hostsOk hs ep = true := by
  unfold hostsOk
  rw [decide_eq_true h3, Bool.true_and, List.all_eq_true]
  exact fun i hi => h i (List.mem_range.1 hi)
theorem hosts_len {hs : List Ho} {ep : List Int} (h : hostsOk hs ep = true) : hs.length = 3 := by
  unfold hostsOk at h
  simp only [Bool.and_eq_true, decide_eq_true_eq] at h
  exact h.1
theorem hosts_at {hs : List Ho} {ep : List Int} (h : hostsOk hs ep = true) (i : Nat) (hi : i < 3) : hoIs ep i (hs.getD i Ho.none) = true := by
  unfold hostsOk at h
  simp only [Bool.and_eq_true] at h
  exact List.all_eq_true.1 h.2 i (List.mem_range.2 hi)

theorem evs_no1 {l : List Ev} (h : 400 < (l.length : Int)) : evsOk l = false := by unfold evsOk; rw [decide_eq_false (by omega)]; rfl
theorem evs_no2 {l : List Ev} (k : Nat) (hk : k < l.length) (h : evOk (l.getD k Ev.none) = false) : evsOk l = false := by unfold evsOk; rw [all_false l evOk Ev.none k hk h, Bool.and_false]
theorem evs_yes {l : List Ev} (h1 : (l.length : Int) ≤ 400) (h : ∀ j, j < l.length → evOk (l.getD j Ev.none) = true) : evsOk l = true := by unfold evsOk; rw [all_true l evOk Ev.none h, decide_eq_true (by omega)]; rfl
theorem rps_no1 {n : Nat} {l : List Rp} (h : 400 < (l.length : Int)) : rpsOk n l = false := by unfold rpsOk; rw [decide_eq_false (by omega)]; rfl
theorem rps_no2 {n : Nat} {l : List Rp} (k : Nat) (hk : k < l.length) (h : rpOk n (l.getD k Rp.none) = false) : rpsOk n l = false := by unfold rpsOk; rw [all_false l (rpOk n) Rp.none k hk h, Bool.and_false]
theorem rps_yes {n : Nat} {l : List Rp} (h1 : (l.length : Int) ≤ 400) (h : ∀ j, j < l.length → rpOk n (l.getD j Rp.none) = true) : rpsOk n l = true := by unfold rpsOk; rw [all_true l (rpOk n) Rp.none h, decide_eq_true (by omega)]; rfl
theorem seen_no1 {l : List Int} (h : ¬ l.length = 3) : seenOk l = false := by unfold seenOk; rw [decide_eq_false h]; rfl

theorem ok_no1 {R : ByteArray → Int × Nat} {X : Wd} (h : X.D.right = false) : X.ok R = false := by unfold Wd.ok; rw [h]; rfl
theorem ok_no2 {R : ByteArray → Int × Nat} {X : Wd} (h : poolOk R X.D.sec = false) : X.ok R = false := by unfold Wd.ok; rw [h]; simp
theorem ok_no3 {R : ByteArray → Int × Nat} {X : Wd} (h : hostsOk X.hs X.D.ep = false) : X.ok R = false := by unfold Wd.ok; rw [h]; simp
theorem ok_no4 {R : ByteArray → Int × Nat} {X : Wd} (h : seenOk X.seen = false) : X.ok R = false := by unfold Wd.ok; rw [h]; simp
theorem ok_no5 {R : ByteArray → Int × Nat} {X : Wd} (h : evsOk X.log = false) : X.ok R = false := by unfold Wd.ok; rw [h]; simp
theorem ok_no6 {R : ByteArray → Int × Nat} {X : Wd} (h : rpsOk X.log.length X.rep = false) : X.ok R = false := by unfold Wd.ok; rw [h]; simp
theorem ok_yes {R : ByteArray → Int × Nat} {X : Wd} (h1 : X.D.right = true) (h2 : poolOk R X.D.sec = true) (h3 : hostsOk X.hs X.D.ep = true) (h4 : seenOk X.seen = true) (h5 : evsOk X.log = true) (h6 : rpsOk X.log.length X.rep = true) : X.ok R = true := by unfold Wd.ok; rw [h1, h2, h3, h4, h5, h6]; rfl
theorem ok_parts {R : ByteArray → Int × Nat} {X : Wd} (h : X.ok R = true) : X.D.right = true ∧ poolOk R X.D.sec = true ∧ hostsOk X.hs X.D.ep = true ∧ seenOk X.seen = true ∧ evsOk X.log = true ∧ rpsOk X.log.length X.rep = true := by
  unfold Wd.ok at h
  simpa only [Bool.and_eq_true] using h

theorem right_ep {D : Dk} (h : D.right = true) : D.ep.length = 3 := by
  unfold Dk.right at h
  exact (of_decide_eq_true h).2.2.1

end Go.Proofs.YtaopkchkhdbfnaaGreatDoor.Pl

namespace Go.Proofs.YtaopkchkhdbfnaaGreatDoor.Pl
open Go.RowKit Go.Proofs.YtaopkchkhdbfnaaGreatDoor.Mem
set_option linter.unusedVariables false

theorem wpList_elem {P : Program} {ops : Array Oper} {rest : List Oper} {o0 o1 o2 : Oper} {a : Act} {w : World} {Q : Exit → Act → World → Prop} (g0 : o0.guard = none) (g1 : o1.guard = none) (g2 : o2.guard = none)
    (ty0 : TypeId) (x0 : Operand) (p0 : o0.op = .load ty0 x0) (b o : Nat) (e0 : a.eval x0 = .pointer (some ⟨b, o, none⟩)) (cs : List Value) (hr : w.rangeAt b o cs) (d0 : TypeDesc) (u0 : P.underlying ty0 = some d0) (k0 : d0.isRow = true) (n0 : (P.info? ty0).map (·.size) = some cs.length)
    (zs : List Value) (ty1 : TypeId) (al : ∀ (ρ : Operand → Value) w, (execOp ρ o1).run P w = .ok (.value (.pointer (some ⟨w.heap.size, 0, none⟩))) (w.alloc (.cells zs.toArray ty1)))
    (ty2 : TypeId) (x2 y2 : Operand) (p2 : o2.op = .store ty2 x2 y2) (i2 : (P.info? ty2).map (·.size) = some zs.length) (hl : cs.length = zs.length) (h1 : cs.all (·.oneCell') = true)
    (e2 : ((a.put o0.dst (.agg cs.toArray)).put o1.dst (.pointer (some ⟨w.heap.size, 0, none⟩))).eval x2 = .pointer (some ⟨w.heap.size, 0, none⟩)) (e3 : ((a.put o0.dst (.agg cs.toArray)).put o1.dst (.pointer (some ⟨w.heap.size, 0, none⟩))).eval y2 = .agg cs.toArray)
    (h : ∀ wz, Row wz w.heap.size cs → Below w.heap.size w wz → wpList P ops Q rest (((a.put o0.dst (.agg cs.toArray)).put o1.dst (.pointer (some ⟨w.heap.size, 0, none⟩))).put o2.dst undef) wz) :
    wpList P ops Q (o0 :: o1 :: o2 :: rest) a w := by
  refine wpList_load_mid g0 ty0 x0 p0 b o e0 cs d0 hr u0 k0 n0 ?_
  refine wpList_plain g1 (fun K hK => ?_)
  unfold Oper.wp
  rw [al, Oper.upon_value]
  refine hK _ _ ?_
  have hn := Row.new w zs ty1
  refine wpList_store_row g2 ty2 x2 y2 p2 w.heap.size e2 zs cs e3 hn hl (by rw [i2, hl]) h1 ?_
  have hrow := puts_row hn 0 cs
  rw [listed_all cs zs 0 (by omega)] at hrow
  exact h _ hrow (puts_below ((Below.refl _ w).alloc (Nat.le_refl _) _) (Nat.le_refl _) 0 cs)

/-- The same with an assignment between. -/
theorem wpList_elemA {P : Program} {ops : Array Oper} {rest : List Oper} {o0 o1 oa o2 : Oper} {a : Act} {w : World} {Q : Exit → Act → World → Prop} (g0 : o0.guard = none) (g1 : o1.guard = none) (ga : oa.guard = none) (g2 : o2.guard = none)
    (ty0 : TypeId) (x0 : Operand) (p0 : o0.op = .load ty0 x0) (b o : Nat) (e0 : a.eval x0 = .pointer (some ⟨b, o, none⟩)) (cs : List Value) (hr : w.rangeAt b o cs) (d0 : TypeDesc) (u0 : P.underlying ty0 = some d0) (k0 : d0.isRow = true) (n0 : (P.info? ty0).map (·.size) = some cs.length)
    (zs : List Value) (ty1 : TypeId) (al : ∀ (ρ : Operand → Value) w, (execOp ρ o1).run P w = .ok (.value (.pointer (some ⟨w.heap.size, 0, none⟩))) (w.alloc (.cells zs.toArray ty1)))
    (va : Value) (ra : ∀ w', (execOp ((a.put o0.dst (.agg cs.toArray)).put o1.dst (.pointer (some ⟨w.heap.size, 0, none⟩))).eval oa).run P w' = .ok (.value va) w')
    (ty2 : TypeId) (x2 y2 : Operand) (p2 : o2.op = .store ty2 x2 y2) (i2 : (P.info? ty2).map (·.size) = some zs.length) (hl : cs.length = zs.length) (h1 : cs.all (·.oneCell') = true)
    (e2 : (((a.put o0.dst (.agg cs.toArray)).put o1.dst (.pointer (some ⟨w.heap.size, 0, none⟩))).put oa.dst va).eval x2 = .pointer (some ⟨w.heap.size, 0, none⟩)) (e3 : (((a.put o0.dst (.agg cs.toArray)).put o1.dst (.pointer (some ⟨w.heap.size, 0, none⟩))).put oa.dst va).eval y2 = .agg cs.toArray)
    (h : ∀ wz, Row wz w.heap.size cs → Below w.heap.size w wz → wpList P ops Q rest ((((a.put o0.dst (.agg cs.toArray)).put o1.dst (.pointer (some ⟨w.heap.size, 0, none⟩))).put oa.dst va).put o2.dst undef) wz) :
    wpList P ops Q (o0 :: o1 :: oa :: o2 :: rest) a w := by
  refine wpList_load_mid g0 ty0 x0 p0 b o e0 cs d0 hr u0 k0 n0 ?_
  refine wpList_plain g1 (fun K hK => ?_)
  unfold Oper.wp
  rw [al, Oper.upon_value]
  refine hK _ _ ?_
  refine wpList_plain ga (fun K hK => ?_)
  unfold Oper.wp
  rw [ra, Oper.upon_value]
  refine hK _ _ ?_
  have hn := Row.new w zs ty1
  refine wpList_store_row g2 ty2 x2 y2 p2 w.heap.size e2 zs cs e3 hn hl (by rw [i2, hl]) h1 ?_
  have hrow := puts_row hn 0 cs
  rw [listed_all cs zs 0 (by omega)] at hrow
  exact h _ hrow (puts_below ((Below.refl _ w).alloc (Nat.le_refl _) _) (Nat.le_refl _) 0 cs)

end Go.Proofs.YtaopkchkhdbfnaaGreatDoor.Pl

namespace Go.Proofs.YtaopkchkhdbfnaaGreatDoor.Pl
open Go.RowKit Go.Proofs.YtaopkchkhdbfnaaGreatDoor.Mem Go.Proofs.YtaopkchkhdbfnaaGreatDoor.Sec
set_option linter.unusedVariables false

set_option maxHeartbeats 400000 in
theorem iIsHost (x : Int) (w : World) :
    Calls Tryz.prog 100 #[.int .i64 x] w fun e w' => e = .returned (.bool (decide (0 ≤ x ∧ x < 3))) ∧ w' = w := by
  by_cases h1 : 0 ≤ x
  · by_cases h2 : x < 3
    · rw [decide_eq_true (And.intro h1 h2)]
      go_enter Tryz.func100, Tryz.ntmps100
      go_wp2
      go_ret
      exact ⟨rfl, rfl⟩
    · rw [decide_eq_false (fun h => h2 h.2)]
      go_enter Tryz.func100, Tryz.ntmps100
      go_wp2
      go_ret
      exact ⟨rfl, rfl⟩
  · rw [decide_eq_false (fun h => h1 h.1)]
    go_enter Tryz.func100, Tryz.ntmps100
    go_wp2
    go_ret
    exact ⟨rfl, rfl⟩

set_option maxRecDepth 100000 in
set_option maxHeartbeats 4000000 in
theorem iKeptPlan (w : World) (cd bk : Int) (tx : ByteArray) (p : Option Addr) (c : Nat) (l : List Ou) (S : Ous w p l) (htx : tx.size ≤ 1048576) (hl : l.length ≤ 1048576) (he : ∀ x ∈ l, x.text.size ≤ 1048576) :
    Calls Tryz.prog 216 #[plnV cd bk tx p l.length c] w fun e w' => e = .returned (.bool (keptPlan cd bk tx l)) ∧ Below w.heap.size w w' := by
  unfold plnV
  have HQ : Hid (keptPlan cd bk tx l = (decide (cd = 0) && (decide (-1 ≤ bk ∧ bk ≤ 17) && (decide ((tx.size : Int) ≤ 16) && (decide (l.length ≤ 8) && outsOk l))))) := rfl
  generalize keptPlan cd bk tx l = q at *
  have HS := hid S
  have HL := hid hl
  have HE := hid he
  clear S hl he
  obtain ⟨wa, hwa, ez, A0, B0⟩ := one_new w [.int .i64 cd, .int .i64 bk, .string tx, .slice p l.length c] 61
  have k0 := A0.c 0 rfl
  have k1 := A0.c 1 rfl
  have k2 := A0.c 2 rfl
  have k3 := A0.c 3 rfl
  have HB := hid B0
  clear A0 B0 ez
  go_enter Tryz.func216, Tryz.ntmps216
  by_cases f1 : cd = 0
  rotate_left
  · rw [decide_eq_false f1, Bool.false_and] at HQ
    have f1' := beq_no f1
    go_wp2
    go_ret
    exact ⟨by rw [HQ.out]; rfl, HB.out⟩
  subst f1
  rw [decide_eq_true rfl, Bool.true_and] at HQ
  go_wp2_with fail
  try simp only [hwa]
  clear hwa
  by_cases f2 : -1 ≤ bk ∧ bk ≤ 17
  rotate_left
  · have f2' := decide_eq_false f2
    rw [f2', Bool.false_and] at HQ
    refine (f2' ▸ isFrom bk (-1) 17 _).mono ?_
    rintro r w7 ⟨rfl, hw⟩
    obtain rfl := hw.symm
    clear f2
    go_wp2
    go_ret
    exact ⟨by rw [HQ.out]; rfl, HB.out⟩
  have f2' := decide_eq_true f2
  rw [f2', Bool.true_and] at HQ
  refine (f2' ▸ isFrom bk (-1) 17 _).mono ?_
  rintro r w7 ⟨rfl, hw⟩
  obtain rfl := hw.symm
  clear f2 f2'
  by_cases f3 : (tx.size : Int) ≤ 16
  rotate_left
  · rw [decide_eq_false f3, Bool.false_and] at HQ
    have f3' := decide_eq_false f3
    go_wp2
    go_ret
    exact ⟨by rw [HQ.out]; rfl, HB.out⟩
  rw [decide_eq_true f3, Bool.true_and] at HQ
  go_wp2_with fail
  refine (areOuts wa p c l (HS.out.below HB.out) HL.out HE.out).mono ?_
  rintro r w8 ⟨rfl, b8⟩
  have HB8 := hid (HB.out.trans (b8.mono HB.out.size))
  clear b8
  go_wp2
  go_ret
  exact ⟨by rw [HQ.out]; rfl, HB8.out⟩

end Go.Proofs.YtaopkchkhdbfnaaGreatDoor.Pl

namespace Go.Proofs.YtaopkchkhdbfnaaGreatDoor.Pl
open Go.RowKit Go.Proofs.YtaopkchkhdbfnaaGreatDoor.Mem Go.Proofs.YtaopkchkhdbfnaaGreatDoor.Sec
set_option linter.unusedVariables false

set_option maxRecDepth 100000 in
set_option maxHeartbeats 8000000 in
theorem iNoCall (w : World) (H : Ho) (p : Option Addr) (c : Nat) (hl : H.l.length ≤ 1048576) :
    Calls Tryz.prog 152 #[hoV H p c] w fun r w' => r = .returned (.bool H.idle) ∧ Below w.heap.size w w' := by
  obtain ⟨id, ep, up, rd, bz, k, v, t, a, s, pc, cd, bk, tx, l, txn⟩ := H
  have HL : Hid (l.length ≤ 1048576) := hl
  clear hl
  have HQ : Hid (Ho.idle ⟨id, ep, up, rd, bz, k, v, t, a, s, pc, cd, bk, tx, l, txn⟩ = (decide (k = 0 ∧ v = 0 ∧ t = 0 ∧ a = 0 ∧ s = ⟨#[]⟩) && (decide (pc = 0) && zeroPlan cd bk tx l))) := rfl
  generalize Ho.idle ⟨id, ep, up, rd, bz, k, v, t, a, s, pc, cd, bk, tx, l, txn⟩ = q at *
  unfold hoV
  try simp only []
  obtain ⟨wa, hwa, ez, A0, B0⟩ := one_new w [.int .i64 id, .int .i64 ep, .bool up, .bool rd, .bool bz, .int .i64 k, .int .i64 v, .int .i64 t, .int .i64 a, .string s, .int .i64 pc, .int .i64 cd, .int .i64 bk, .string tx, .slice p l.length c, .int .i64 txn] 63
  have HA := hid A0
  have HB := hid B0
  clear B0 ez
  have k0 := A0.c 0 rfl
  have k1 := A0.c 1 rfl
  have k2 := A0.c 2 rfl
  have k3 := A0.c 3 rfl
  have k4 := A0.c 4 rfl
  have k5 := A0.c 5 rfl
  have k6 := A0.c 6 rfl
  have k7 := A0.c 7 rfl
  have k8 := A0.c 8 rfl
  have k9 := A0.c 9 rfl
  have k10 := A0.c 10 rfl
  have k11 := A0.c 11 rfl
  have k12 := A0.c 12 rfl
  have k13 := A0.c 13 rfl
  have k14 := A0.c 14 rfl
  have k15 := A0.c 15 rfl
  clear A0
  have hgl := guardOpT
  go_enter Tryz.func152, Tryz.ntmps152
  cases hz : decide (k = 0 ∧ v = 0 ∧ t = 0 ∧ a = 0 ∧ s = ⟨#[]⟩) with
  | false =>
    rw [hz, Bool.false_and] at HQ
    have heq := eql_is hz
    clear hz
    go_wp2
    go_ret
    exact ⟨by rw [HQ.out]; rfl, HB.out⟩
  | true =>
    rw [hz, Bool.true_and] at HQ
    have heq := eql_is hz
    clear hz
    by_cases e2 : pc = 0
    rotate_left
    · rw [decide_eq_false e2, Bool.false_and] at HQ
      have e2' := beq_no e2
      go_wp2
      go_ret
      exact ⟨by rw [HQ.out]; rfl, HB.out⟩
    subst e2
    rw [decide_eq_true rfl, Bool.true_and] at HQ
    go_wp2_with fail
    try simp only [hwa]
    clear hwa
    refine (iZeroPlan _ cd bk tx p c l HL.out).mono ?_
    rintro r w4 ⟨rfl, b4⟩
    have HB4 := hid (HB.out.trans (b4.mono HB.out.size))
    clear b4 heq
    go_wp2
    go_ret
    exact ⟨by rw [HQ.out]; rfl, HB4.out⟩

end Go.Proofs.YtaopkchkhdbfnaaGreatDoor.Pl

namespace Go.Proofs.YtaopkchkhdbfnaaGreatDoor.Pl
open Go.RowKit Go.Proofs.YtaopkchkhdbfnaaGreatDoor.Mem Go.Proofs.YtaopkchkhdbfnaaGreatDoor.Sec
set_option linter.unusedVariables false

set_option maxRecDepth 100000 in
set_option maxHeartbeats 8000000 in
theorem iFallen (w : World) (H : Ho) (p : Option Addr) (c : Nat) (hl : H.l.length ≤ 1048576) :
    Calls Tryz.prog 151 #[hoV H p c] w fun r w' => r = .returned (.bool H.down) ∧ Below w.heap.size w w' := by
  obtain ⟨id, ep, up, rd, bz, k, v, t, a, s, pc, cd, bk, tx, l, txn⟩ := H
  have HL : Hid (l.length ≤ 1048576) := hl
  clear hl
  obtain ⟨I, hI⟩ : ∃ I, Ho.idle ⟨id, ep, up, rd, bz, k, v, t, a, s, pc, cd, bk, tx, l, txn⟩ = I := ⟨_, rfl⟩
  have HI := hid hI
  have HQ : Hid (Ho.down ⟨id, ep, up, rd, bz, k, v, t, a, s, pc, cd, bk, tx, l, txn⟩ = (decide (ep = 0) && (!rd && (!bz && (decide (txn = 0) && Ho.idle ⟨id, ep, up, rd, bz, k, v, t, a, s, pc, cd, bk, tx, l, txn⟩))))) := rfl
  generalize Ho.down ⟨id, ep, up, rd, bz, k, v, t, a, s, pc, cd, bk, tx, l, txn⟩ = q at *
  unfold hoV
  try simp only []
  obtain ⟨wa, hwa, ez, A0, B0⟩ := one_new w [.int .i64 id, .int .i64 ep, .bool up, .bool rd, .bool bz, .int .i64 k, .int .i64 v, .int .i64 t, .int .i64 a, .string s, .int .i64 pc, .int .i64 cd, .int .i64 bk, .string tx, .slice p l.length c, .int .i64 txn] 63
  have HA := hid A0
  have HB := hid B0
  clear B0 ez
  have k0 := A0.c 0 rfl
  have k1 := A0.c 1 rfl
  have k2 := A0.c 2 rfl
  have k3 := A0.c 3 rfl
  have k4 := A0.c 4 rfl
  have k5 := A0.c 5 rfl
  have k6 := A0.c 6 rfl
  have k7 := A0.c 7 rfl
  have k8 := A0.c 8 rfl
  have k9 := A0.c 9 rfl
  have k10 := A0.c 10 rfl
  have k11 := A0.c 11 rfl
  have k12 := A0.c 12 rfl
  have k13 := A0.c 13 rfl
  have k14 := A0.c 14 rfl
  have k15 := A0.c 15 rfl
  clear A0
  have hgl := guardOpT
  go_enter Tryz.func151, Tryz.ntmps151
  rw [HI.out] at HQ
  clear hI
  by_cases e1 : ep = 0
  rotate_left
  · rw [decide_eq_false e1, Bool.false_and] at HQ
    have e1' := beq_no e1
    go_wp2
    go_ret
    exact ⟨by rw [HQ.out]; rfl, HB.out⟩
  subst e1
  rw [decide_eq_true rfl, Bool.true_and] at HQ
  cases rd with
  | true =>
    simp only [Bool.not_true, Bool.false_and] at HQ
    go_wp2
    go_ret
    exact ⟨by rw [HQ.out]; rfl, HB.out⟩
  | false =>
    simp only [Bool.not_false, Bool.true_and] at HQ
    cases bz with
    | true =>
      simp only [Bool.not_true, Bool.false_and] at HQ
      go_wp2
      go_ret
      exact ⟨by rw [HQ.out]; rfl, HB.out⟩
    | false =>
      simp only [Bool.not_false, Bool.true_and] at HQ
      by_cases e3 : txn = 0
      rotate_left
      · rw [decide_eq_false e3, Bool.false_and] at HQ
        have e3' := beq_no e3
        go_wp2
        go_ret
        exact ⟨by rw [HQ.out]; rfl, HB.out⟩
      subst e3
      rw [decide_eq_true rfl, Bool.true_and] at HQ
      go_wp2_with fail
      try simp only [hwa]
      clear hwa
      refine (iNoCall wa ⟨id, 0, up, false, false, k, v, t, a, s, pc, cd, bk, tx, l, 0⟩ p c HL.out).mono ?_
      rintro r w4 ⟨rfl, b4⟩
      have HB4 := hid (HB.out.trans (b4.mono HB.out.size))
      rw [HI.out]
      clear b4
      go_wp2
      go_ret
      exact ⟨by rw [HQ.out]; rfl, HB4.out⟩

end Go.Proofs.YtaopkchkhdbfnaaGreatDoor.Pl

namespace Go.Proofs.YtaopkchkhdbfnaaGreatDoor.Pl
open Go.RowKit Go.Proofs.YtaopkchkhdbfnaaGreatDoor.Mem Go.Proofs.YtaopkchkhdbfnaaGreatDoor.Sec
set_option linter.unusedVariables false

set_option maxRecDepth 100000 in
set_option maxHeartbeats 8000000 in
theorem iRightCall (w : World) (H : Ho) (p : Option Addr) (c : Nat) (S : Ous w p H.l) (hu : H.Upto 1048576) :
    Calls Tryz.prog 153 #[hoV H p c] w fun r w' => r = .returned (.bool H.busy) ∧ Below w.heap.size w w' := by
  obtain ⟨id, ep, up, rd, bz, k, v, t, a, s, pc, cd, bk, tx, l, txn⟩ := H
  have HS : Hid (Ous w p l) := S
  have hs : s.size ≤ 1048576 := hu.s
  have htx : tx.size ≤ 1048576 := hu.tx
  have HL : Hid (l.length ≤ 1048576) := hu.l
  have HE : Hid (∀ x ∈ l, x.text.size ≤ 1048576) := hu.each
  clear S hu
  have HZK := hid (@zero_kept cd bk tx l)
  have HQ : Hid (Ho.busy ⟨id, ep, up, rd, bz, k, v, t, a, s, pc, cd, bk, tx, l, txn⟩ = (opRight k v t a s && (decide (0 ≤ pc ∧ pc ≤ 20) && (!(decide (1 ≤ pc ∧ pc ≤ 3) && decide (1000000 ≤ txn)) && (if pc = 0 then zeroPlan cd bk tx l else keptPlan cd bk tx l))))) := rfl
  generalize Ho.busy ⟨id, ep, up, rd, bz, k, v, t, a, s, pc, cd, bk, tx, l, txn⟩ = q at *
  unfold hoV
  try simp only []
  obtain ⟨wa, hwa, ez, A0, B0⟩ := one_new w [.int .i64 id, .int .i64 ep, .bool up, .bool rd, .bool bz, .int .i64 k, .int .i64 v, .int .i64 t, .int .i64 a, .string s, .int .i64 pc, .int .i64 cd, .int .i64 bk, .string tx, .slice p l.length c, .int .i64 txn] 63
  have HA := hid A0
  have HB := hid B0
  clear B0 ez
  have k0 := A0.c 0 rfl
  have k1 := A0.c 1 rfl
  have k2 := A0.c 2 rfl
  have k3 := A0.c 3 rfl
  have k4 := A0.c 4 rfl
  have k5 := A0.c 5 rfl
  have k6 := A0.c 6 rfl
  have k7 := A0.c 7 rfl
  have k8 := A0.c 8 rfl
  have k9 := A0.c 9 rfl
  have k10 := A0.c 10 rfl
  have k11 := A0.c 11 rfl
  have k12 := A0.c 12 rfl
  have k13 := A0.c 13 rfl
  have k14 := A0.c 14 rfl
  have k15 := A0.c 15 rfl
  clear A0
  have hgl := guardOpT
  go_enter Tryz.func153, Tryz.ntmps153
  go_wp2_with fail
  try simp only [hwa]
  clear hwa
  cases hz : opRight k v t a s with
  | false =>
    rw [hz, Bool.false_and] at HQ
    have ho := iOpOk k v t a s wa hs
    rw [hz] at ho
    refine ho.mono ?_
    rintro r w4 ⟨rfl, b4⟩
    have HB4 := hid (HB.out.trans (b4.mono HB.out.size))
    clear b4 hz ho
    go_wp2
    go_ret
    exact ⟨by rw [HQ.out]; rfl, HB4.out⟩
  | true =>
    rw [hz, Bool.true_and] at HQ
    have ho := iOpOk k v t a s wa hs
    rw [hz] at ho
    refine ho.mono ?_
    rintro r w4 ⟨rfl, b4⟩
    have HB4 := hid (HB.out.trans (b4.mono HB.out.size))
    have HA4 := hid (HA.out.below b4 HA.out.lt)
    clear b4 hz ho k0 k1 k2 k3 k4 k5 k6 k7 k8 k9 k10 k11 k12 k13 k14 k15
    have k10 := HA4.out.c 10 rfl
    have k11 := HA4.out.c 11 rfl
    have k12 := HA4.out.c 12 rfl
    have k13 := HA4.out.c 13 rfl
    have k14 := HA4.out.c 14 rfl
    have k15 := HA4.out.c 15 rfl
    go_wp2_with fail
    by_cases c3 : 0 ≤ pc ∧ pc ≤ 20
    rotate_left
    · have c3' := decide_eq_false c3
      rw [c3', Bool.false_and] at HQ
      refine (c3' ▸ isFrom pc 0 20 _).mono ?_
      rintro r w5 ⟨rfl, hw⟩
      obtain rfl := hw.symm
      clear c3
      go_wp2
      go_ret
      exact ⟨by rw [HQ.out]; rfl, HB4.out⟩
    have c3' := decide_eq_true c3
    rw [c3', Bool.true_and] at HQ
    refine (c3' ▸ isFrom pc 0 20 _).mono ?_
    rintro r w5 ⟨rfl, hw⟩
    obtain rfl := hw.symm
    clear c3 c3'
    go_wp2_with fail
    have hkp := iKeptPlan w4 cd bk tx p c l (HS.out.below HB4.out) htx HL.out HE.out
    cases hk : keptPlan cd bk tx l with
    | false =>
      have hif : (if pc = 0 then zeroPlan cd bk tx l else keptPlan cd bk tx l) = false := by
        split
        · cases hzz : zeroPlan cd bk tx l with
          | false => rfl
          | true => rw [HZK.out hzz] at hk; cases hk
        · exact hk
      rw [hif, Bool.and_false] at HQ
      rw [hk] at hkp
      refine hkp.mono ?_
      rintro r w6 ⟨rfl, b6⟩
      have HB6 := hid (HB4.out.trans (b6.mono HB4.out.size))
      clear b6 hkp hk hif
      go_wp2
      go_ret
      exact ⟨by rw [HQ.out]; rfl, HB6.out⟩
    | true =>
      rw [hk] at hkp HQ
      refine hkp.mono ?_
      rintro r w6 ⟨rfl, b6⟩
      have HB6 := hid (HB4.out.trans (b6.mono HB4.out.size))
      have HA6 := hid (HA4.out.below b6 HA4.out.lt)
      clear b6 hkp hk k10 k11 k12 k13 k14 k15 HZK
      have k10 := HA6.out.c 10 rfl
      have k11 := HA6.out.c 11 rfl
      have k12 := HA6.out.c 12 rfl
      have k13 := HA6.out.c 13 rfl
      have k14 := HA6.out.c 14 rfl
      have k15 := HA6.out.c 15 rfl
      by_cases e6 : pc = 0
      · subst e6
        rw [if_pos rfl] at HQ
        have hzc := iZeroPlan w6 cd bk tx p c l HL.out
        go_wp2_with fail
        cases hzp : zeroPlan cd bk tx l with
        | false =>
          rw [hzp, Bool.and_false] at HQ
          rw [hzp] at hzc
          refine hzc.mono ?_
          rintro r w7 ⟨rfl, b7⟩
          have HB7 := hid (HB6.out.trans (b7.mono HB6.out.size))
          clear b7 hzc hzp
          go_wp2
          go_ret
          exact ⟨by rw [HQ.out]; rfl, HB7.out⟩
        | true =>
          rw [hzp, Bool.and_true] at HQ
          rw [hzp] at hzc
          refine hzc.mono ?_
          rintro r w7 ⟨rfl, b7⟩
          have HB7 := hid (HB6.out.trans (b7.mono HB6.out.size))
          have HA7 := hid (HA6.out.below b7 HA6.out.lt)
          clear b7 hzc hzp k10 k11 k12 k13 k14 k15
          have k10 := HA7.out.c 10 rfl
          have k15 := HA7.out.c 15 rfl
          have hd0 : decide (1 ≤ (0 : Int) ∧ (0 : Int) ≤ 3) = false := by decide
          rw [hd0, Bool.false_and] at HQ
          simp only [Bool.not_false] at HQ
          by_cases c5 : txn < 1000000
          · have c5' := decide_eq_true c5
            go_wp2
            go_ret
            exact ⟨by rw [HQ.out]; rfl, HB7.out⟩
          · have c5' := decide_eq_false c5
            go_wp2_with fail
            refine (hd0 ▸ isFrom 0 1 3 _).mono ?_
            rintro r w8 ⟨rfl, hw⟩
            obtain rfl := hw.symm
            go_wp2
            go_ret
            exact ⟨by rw [HQ.out]; rfl, HB7.out⟩
      · rw [if_neg e6, Bool.and_true] at HQ
        have e6' := beq_no e6
        by_cases c5 : txn < 1000000
        · have c5' := decide_eq_true c5
          rw [decide_eq_false (show ¬ 1000000 ≤ txn by omega), Bool.and_false] at HQ
          simp only [Bool.not_false] at HQ
          go_wp2
          go_ret
          exact ⟨by rw [HQ.out]; rfl, HB6.out⟩
        · have c5' := decide_eq_false c5
          rw [decide_eq_true (show 1000000 ≤ txn by omega), Bool.and_true] at HQ
          go_wp2_with fail
          refine (isFrom pc 1 3 _).mono ?_
          rintro r w8 ⟨rfl, hw⟩
          obtain rfl := hw.symm
          generalize decide (1 ≤ pc ∧ pc ≤ 3) = z at *
          clear c5 e6
          go_wp2
          go_ret
          exact ⟨by rw [HQ.out]; rfl, HB6.out⟩

end Go.Proofs.YtaopkchkhdbfnaaGreatDoor.Pl

namespace Go.Proofs.YtaopkchkhdbfnaaGreatDoor.Pl
open Go.RowKit Go.Proofs.YtaopkchkhdbfnaaGreatDoor.Mem Go.Proofs.YtaopkchkhdbfnaaGreatDoor.Sec
set_option linter.unusedVariables false

set_option maxRecDepth 100000 in
set_option maxHeartbeats 8000000 in
theorem iHostOk (w : World) (H : Ho) (p : Option Addr) (c : Nat) (S : Ous w p H.l) (hu : H.Upto 1048576) :
    Calls Tryz.prog 103 #[hoV H p c] w fun r w' => r = .returned (.bool H.ok) ∧ Below w.heap.size w w' := by
  obtain ⟨id, ep, up, rd, bz, k, v, t, a, s, pc, cd, bk, tx, l, txn⟩ := H
  have HS : Hid (Ous w p l) := S
  have HU : Hid (Ho.Upto 1048576 ⟨id, ep, up, rd, bz, k, v, t, a, s, pc, cd, bk, tx, l, txn⟩) := hu
  clear S hu
  obtain ⟨qidle, hidle⟩ : ∃ I, Ho.idle ⟨id, ep, up, rd, bz, k, v, t, a, s, pc, cd, bk, tx, l, txn⟩ = I := ⟨_, rfl⟩
  have Hidle := hid hidle
  obtain ⟨qdown, hdown⟩ : ∃ I, Ho.down ⟨id, ep, up, rd, bz, k, v, t, a, s, pc, cd, bk, tx, l, txn⟩ = I := ⟨_, rfl⟩
  have Hdown := hid hdown
  obtain ⟨qbusy, hbusy⟩ : ∃ I, Ho.busy ⟨id, ep, up, rd, bz, k, v, t, a, s, pc, cd, bk, tx, l, txn⟩ = I := ⟨_, rfl⟩
  have Hbusy := hid hbusy
  have HQ : Hid (Ho.ok ⟨id, ep, up, rd, bz, k, v, t, a, s, pc, cd, bk, tx, l, txn⟩ = (decide (0 ≤ id ∧ id < 3) && (if up = true then decide (1 ≤ ep ∧ ep ≤ 100000) && (decide (0 ≤ txn ∧ txn ≤ 1000000) && (if bz = true then Ho.busy ⟨id, ep, up, rd, bz, k, v, t, a, s, pc, cd, bk, tx, l, txn⟩ else Ho.idle ⟨id, ep, up, rd, bz, k, v, t, a, s, pc, cd, bk, tx, l, txn⟩)) else Ho.down ⟨id, ep, up, rd, bz, k, v, t, a, s, pc, cd, bk, tx, l, txn⟩))) := rfl
  generalize Ho.ok ⟨id, ep, up, rd, bz, k, v, t, a, s, pc, cd, bk, tx, l, txn⟩ = q at *
  unfold hoV
  try simp only []
  obtain ⟨wa, hwa, ez, A0, B0⟩ := one_new w [.int .i64 id, .int .i64 ep, .bool up, .bool rd, .bool bz, .int .i64 k, .int .i64 v, .int .i64 t, .int .i64 a, .string s, .int .i64 pc, .int .i64 cd, .int .i64 bk, .string tx, .slice p l.length c, .int .i64 txn] 63
  have HA := hid A0
  have HB := hid B0
  clear B0 ez
  have k0 := A0.c 0 rfl
  have k1 := A0.c 1 rfl
  have k2 := A0.c 2 rfl
  have k3 := A0.c 3 rfl
  have k4 := A0.c 4 rfl
  have k5 := A0.c 5 rfl
  have k6 := A0.c 6 rfl
  have k7 := A0.c 7 rfl
  have k8 := A0.c 8 rfl
  have k9 := A0.c 9 rfl
  have k10 := A0.c 10 rfl
  have k11 := A0.c 11 rfl
  have k12 := A0.c 12 rfl
  have k13 := A0.c 13 rfl
  have k14 := A0.c 14 rfl
  have k15 := A0.c 15 rfl
  clear A0
  have hgl := guardOpT
  go_enter Tryz.func103, Tryz.ntmps103
  rw [Hidle.out, Hdown.out, Hbusy.out] at HQ
  clear hidle hdown hbusy
  go_wp2_with fail
  try simp only [hwa]
  clear hwa
  by_cases c0 : 0 ≤ id ∧ id < 3
  rotate_left
  · have c0' := decide_eq_false c0
    rw [c0', Bool.false_and] at HQ
    refine (c0' ▸ iIsHost id _).mono ?_
    rintro r w1 ⟨rfl, hw⟩
    obtain rfl := hw.symm
    clear c0
    go_wp2
    go_ret
    exact ⟨by rw [HQ.out]; rfl, HB.out⟩
  have c0' := decide_eq_true c0
  rw [c0', Bool.true_and] at HQ
  refine (c0' ▸ iIsHost id _).mono ?_
  rintro r w1 ⟨rfl, hw⟩
  obtain rfl := hw.symm
  clear c0 c0'
  cases up with
  | false =>
    simp only [Bool.false_eq_true, if_false] at HQ
    go_wp2_with fail
    refine (iFallen wa ⟨id, ep, false, rd, bz, k, v, t, a, s, pc, cd, bk, tx, l, txn⟩ p c HU.out.l).mono ?_
    rintro r w4 ⟨rfl, b4⟩
    rw [Hdown.out]
    have HB4 := hid (HB.out.trans (b4.mono HB.out.size))
    clear b4
    go_wp2
    go_ret
    exact ⟨by rw [HQ.out]; rfl, HB4.out⟩
  | true =>
    simp only [if_true] at HQ
    go_wp2_with fail
    by_cases c1 : 1 ≤ ep ∧ ep ≤ 100000
    rotate_left
    · have c1' := decide_eq_false c1
      rw [c1', Bool.false_and] at HQ
      refine (c1' ▸ isFrom ep 1 100000 _).mono ?_
      rintro r w2 ⟨rfl, hw⟩
      obtain rfl := hw.symm
      clear c1
      go_wp2
      go_ret
      exact ⟨by rw [HQ.out]; rfl, HB.out⟩
    have c1' := decide_eq_true c1
    rw [c1', Bool.true_and] at HQ
    refine (c1' ▸ isFrom ep 1 100000 _).mono ?_
    rintro r w2 ⟨rfl, hw⟩
    obtain rfl := hw.symm
    clear c1 c1'
    go_wp2_with fail
    by_cases c2 : 0 ≤ txn ∧ txn ≤ 1000000
    rotate_left
    · have c2' := decide_eq_false c2
      rw [c2', Bool.false_and] at HQ
      refine (c2' ▸ isFrom txn 0 1000000 _).mono ?_
      rintro r w3 ⟨rfl, hw⟩
      obtain rfl := hw.symm
      clear c2
      go_wp2
      go_ret
      exact ⟨by rw [HQ.out]; rfl, HB.out⟩
    have c2' := decide_eq_true c2
    rw [c2', Bool.true_and] at HQ
    refine (c2' ▸ isFrom txn 0 1000000 _).mono ?_
    rintro r w3 ⟨rfl, hw⟩
    obtain rfl := hw.symm
    clear c2 c2'
    cases bz with
    | false =>
      simp only [Bool.false_eq_true, if_false] at HQ
      go_wp2_with fail
      refine (iNoCall wa ⟨id, ep, true, rd, false, k, v, t, a, s, pc, cd, bk, tx, l, txn⟩ p c HU.out.l).mono ?_
      rintro r w4 ⟨rfl, b4⟩
      rw [Hidle.out]
      have HB4 := hid (HB.out.trans (b4.mono HB.out.size))
      clear b4
      go_wp2
      go_ret
      exact ⟨by rw [HQ.out]; rfl, HB4.out⟩
    | true =>
      simp only [if_true] at HQ
      go_wp2_with fail
      refine (iRightCall wa ⟨id, ep, true, rd, true, k, v, t, a, s, pc, cd, bk, tx, l, txn⟩ p c (HS.out.below HB.out) HU.out).mono ?_
      rintro r w4 ⟨rfl, b4⟩
      rw [Hbusy.out]
      have HB4 := hid (HB.out.trans (b4.mono HB.out.size))
      clear b4
      go_wp2
      go_ret
      exact ⟨by rw [HQ.out]; rfl, HB4.out⟩

end Go.Proofs.YtaopkchkhdbfnaaGreatDoor.Pl

namespace Go.Proofs.YtaopkchkhdbfnaaGreatDoor.Mem
open Go.RowKit
set_option linter.unusedVariables false

set_option maxHeartbeats 400000 in
theorem isHost (x : Int) (w : World) :
    Calls Tryz.prog 100 #[.int .i64 x] w fun e w' => e = .returned (.bool (decide (0 ≤ x ∧ x < 3))) ∧ w' = w := by
  by_cases h1 : 0 ≤ x
  · by_cases h2 : x < 3
    · rw [decide_eq_true (And.intro h1 h2)]
      go_enter Tryz.func100, Tryz.ntmps100
      go_wp2
      go_ret
      exact ⟨rfl, rfl⟩
    · rw [decide_eq_false (fun h => h2 h.2)]
      go_enter Tryz.func100, Tryz.ntmps100
      go_wp2
      go_ret
      exact ⟨rfl, rfl⟩
  · rw [decide_eq_false (fun h => h1 h.1)]
    go_enter Tryz.func100, Tryz.ntmps100
    go_wp2
    go_ret
    exact ⟨rfl, rfl⟩

set_option maxHeartbeats 400000 in
theorem fitsSector (t : ByteArray) (w : World) :
    Calls Tryz.prog 99 #[.string t] w fun e w' => e = .returned (.bool (decide ((t.size : Int) ≤ 700))) ∧ w' = w := by
  go_enter Tryz.func99, Tryz.ntmps99
  go_wp2
  go_ret
  exact ⟨rfl, rfl⟩

set_option maxHeartbeats 400000 in
theorem isSector (w : World) (v1 v2 v3 : Value) (a : Option Addr) (n c : Nat) (hv : v1 = .slice a n c) (x : Int) :
    Calls Tryz.prog 101 #[.agg #[v1, v2, v3], .int .i64 x] w fun e w' => e = .returned (.bool (decide (0 ≤ x ∧ x < (n : Int)))) ∧ Below w.heap.size w w' := by
  subst hv
  have B0 := ((Below.refl w.heap.size w).alloc (Nat.le_refl _) (.cells #[.slice a n c, v2, v3] 36))
  by_cases h1 : 0 ≤ x
  · by_cases h2 : x < n
    · rw [decide_eq_true (And.intro h1 h2)]
      have HB := hid B0
      clear B0
      go_enter Tryz.func101, Tryz.ntmps101
      go_wp2
      go_ret
      exact ⟨rfl, HB.out⟩
    · rw [decide_eq_false (fun h => h2 h.2)]
      have HB := hid B0
      clear B0
      go_enter Tryz.func101, Tryz.ntmps101
      go_wp2
      go_ret
      exact ⟨rfl, HB.out⟩
  · rw [decide_eq_false (fun h => h1 h.1)]
    have HB := hid B0
    clear B0
    go_enter Tryz.func101, Tryz.ntmps101
    go_wp2
    go_ret
    exact ⟨rfl, HB.out⟩

end Go.Proofs.YtaopkchkhdbfnaaGreatDoor.Mem

namespace Go.Proofs.YtaopkchkhdbfnaaGreatDoor.Pl
open Go.RowKit Go.Proofs.YtaopkchkhdbfnaaGreatDoor.Mem Go.Proofs.YtaopkchkhdbfnaaGreatDoor.Sec
set_option linter.unusedVariables false

/-- Event k, as a range of cells. -/
theorem Evs.range {w : World} {a : Option Addr} {l : List Ev} (h : Evs w a l) (k : Nat) (hk : k < l.length) : ∃ b off, a = some ⟨b, off, none⟩ ∧ w.rangeAt b (off + k * 7) (l.getD k Ev.none).cells := by
  obtain ⟨b, off, rfl, _⟩ := h (k * 7 + 0) (by omega)
  refine ⟨b, off, rfl, fun j v hv => ?_⟩
  have hj : j < 7 := by
    have := (List.getElem?_eq_some_iff.1 hv).1
    simpa [Ev.cells] using this
  obtain ⟨b1, off1, e1, h1⟩ := h (k * 7 + j) (by omega)
  cases e1
  rw [evcell_at l k j hj, List.getD, hv] at h1
  rw [Nat.add_assoc]
  exact h1

set_option maxRecDepth 100000 in
set_option maxHeartbeats 2000000 in
theorem iEvents (w : World) (a : Option Addr) (cap : Nat) (l : List Ev) (S : Evs w a l) (hl : l.length ≤ 1048576) (hz : ∀ x ∈ l, x.s.size ≤ 1048576) :
    Calls Tryz.prog 43 #[.slice a l.length cap] w fun e w' => e = .returned (.bool (evsOk l)) ∧ Below w.heap.size w w' := by
  have HS := hid S
  have Hz : Hid (∀ k, (l.getD k Ev.none).s.size ≤ 1048576) := fun k => by
    by_cases h : k < l.length
    · exact hz _ (by simp [List.getD, h])
    · simp [List.getD, h, Ev.none]
  clear S hz
  by_cases hg : 400 < (l.length : Int)
  · rw [evs_no1 hg]
    go_enter Tryz.func43, Tryz.ntmps43
    go_wp2
    go_ret
    exact ⟨rfl, Below.refl _ _⟩
  have HG := hid (show (l.length : Int) ≤ 400 by omega)
  go_enter Tryz.func43, Tryz.ntmps43
  go_wp2
  go_loopw [10] (fun i wr => ∃ k : Nat, k ≤ l.length ∧ i = .int .i64 (k : Int) ∧ Hid (∀ j, j < k → evOk (l.getD j Ev.none) = true) ∧ Hid (Below w.heap.size w wr)) (fun i _ => l.length - (intOf i).toNat)
  case atStart => exact ⟨0, Nat.zero_le _, rfl, fun j hj => by omega, Below.refl _ _⟩
  case round =>
    obtain ⟨k, hk, rfl, HI, HB⟩ := hrel
    by_cases hlt : k < l.length
    · obtain ⟨b, off, rfl, hrg⟩ := (show Evs wr a l from Sl.below HS.out HB.out).range k hlt
      have HZ := Hz.out k
      generalize hx : l.getD k Ev.none = x at hrg HZ
      have HX := hid hx
      clear hx
      obtain ⟨xh, xx, xk, xv, xt, xa, xs⟩ := x
      replace HZ := hid (show xs.size ≤ 1048576 from HZ)
      have HRG := hid hrg
      clear hrg
      go_upto_region 5 with fail
      apply wp_region_lit
      iterate 3 go_step
      refine wpList_elem rfl rfl rfl 67 _ rfl b (off + k * 7) rfl _ HRG.out _ Tryz.underlying67 rfl (by kernel_rfl) [.int .i64 0, .int .i64 0, .int .i64 0, .int .i64 0, .int .i64 0, .int .i64 0, .string ⟨#[]⟩] 67 (fun ρ w => by unfold execOp; simp [go_sem]) 67 _ _ rfl (by kernel_rfl) rfl rfl rfl rfl ?_
      intro wz R0 B0
      have HRz := hid R0
      have HBz := hid B0
      clear R0 B0
      have c0 := HRz.out.c 0 rfl
      have c1 := HRz.out.c 1 rfl
      have c2 := HRz.out.c 2 rfl
      have c3 := HRz.out.c 3 rfl
      have c4 := HRz.out.c 4 rfl
      have c5 := HRz.out.c 5 rfl
      have c6 := HRz.out.c 6 rfl
      go_wp2_with fail
      refine (iIsHost xh _).mono ?_
      rintro e w20 ⟨rfl, hw⟩
      subst hw
      by_cases h0 : 0 ≤ xh ∧ xh < 3
      rotate_left
      · rw [decide_eq_false (show ¬ (0 ≤ xh ∧ xh < 3) by omega)]
        have HQ := hid h0
        go_wp2
        go_ret
        exact ⟨by rw [evs_no2 k hlt (by rw [HX.out]; unfold evOk; simp only []; rw [decide_eq_false (show ¬ (0 ≤ xh ∧ xh < 3) by have := HQ.out; omega)]; simp)]; rfl, HB.out.trans (HBz.out.mono HB.out.size)⟩
      rw [decide_eq_true h0]
      have HP0 := hid h0
      clear h0
      go_wp2_with fail
      refine (Sec.isFrom xx 1 1000000 _).mono ?_
      rintro e w21 ⟨rfl, hw⟩
      subst hw
      by_cases h1 : 1 ≤ xx ∧ xx ≤ 1000000
      rotate_left
      · rw [decide_eq_false (show ¬ (1 ≤ xx ∧ xx ≤ 1000000) by omega)]
        have HQ := hid h1
        go_wp2
        go_ret
        exact ⟨by rw [evs_no2 k hlt (by rw [HX.out]; unfold evOk; simp only []; rw [decide_eq_false (show ¬ (1 ≤ xx ∧ xx ≤ 1000000) by have := HQ.out; omega)]; simp)]; rfl, HB.out.trans (HBz.out.mono HB.out.size)⟩
      rw [decide_eq_true h1]
      have HP1 := hid h1
      clear h1
      go_wp2_with fail
      refine (iOpOk xk xv xt xa xs _ HZ.out).mono ?_
      rintro e w22 ⟨rfl, hb⟩
      replace HBz := hid (HBz.out.trans (hb.mono HBz.out.size))
      replace HRz := hid (HRz.out.below hb HRz.out.lt)
      clear c2 c3 c4 c5 c6
      have c2 := HRz.out.c 2 rfl
      clear hb
      cases h2 : opRight xk xv xt xa xs
      · have HQ := hid h2
        go_wp2
        go_ret
        exact ⟨by rw [evs_no2 k hlt (by rw [HX.out]; unfold evOk; simp only []; rw [HQ.out]; simp)]; rfl, HB.out.trans (HBz.out.mono HB.out.size)⟩
      have HP2 := hid h2
      clear h2
      by_cases h3 : xk ≤ 6
      rotate_left
      · have HQ := hid h3
        go_wp2
        go_ret
        exact ⟨by rw [evs_no2 k hlt (by rw [HX.out]; unfold evOk; simp only []; rw [decide_eq_false (show ¬ (xk ≤ 6) by have := HQ.out; omega)]; simp)]; rfl, HB.out.trans (HBz.out.mono HB.out.size)⟩
      have HP3 := hid h3
      go_wp2
      refine ⟨⟨k + 1, by omega, by go_num, ?_, HB.out.trans (HBz.out.mono HB.out.size)⟩, by simp [intOf]; omega⟩
      intro j hj
      by_cases hjk : j = k
      · subst hjk
        rw [HX.out]
        unfold evOk
        simp only []
        rw [decide_eq_true HP0.out, decide_eq_true HP1.out, HP2.out, decide_eq_true HP3.out]
        rfl
      · exact HI.out j (by omega)
    · obtain rfl : k = l.length := by omega
      go_wp2
      go_ret
      exact ⟨by rw [evs_yes HG.out HI.out]; rfl, HB.out⟩

set_option maxRecDepth 100000 in
set_option maxHeartbeats 2000000 in
theorem iReplies (w : World) (a : Option Addr) (cap n : Nat) (l : List Rp) (S : Rps w a l) (hl : l.length ≤ 1048576) (hn : n ≤ 1048576) (hz : ∀ x ∈ l, x.s.size ≤ 1048576 ∧ x.d.size ≤ 1048576) :
    Calls Tryz.prog 44 #[.slice a l.length cap, .int .i64 (n : Int)] w fun e w' => e = .returned (.bool (rpsOk n l)) ∧ Below w.heap.size w w' := by
  have HS := hid S
  have Hz : Hid (∀ k, (l.getD k Rp.none).s.size ≤ 1048576 ∧ (l.getD k Rp.none).d.size ≤ 1048576) := fun k => by
    by_cases h : k < l.length
    · exact hz _ (by simp [List.getD, h])
    · simp [List.getD, h, Rp.none]
  clear S hz
  by_cases hg : 400 < (l.length : Int)
  · rw [rps_no1 hg]
    go_enter Tryz.func44, Tryz.ntmps44
    go_wp2
    go_ret
    exact ⟨rfl, Below.refl _ _⟩
  have HG := hid (show (l.length : Int) ≤ 400 by omega)
  go_enter Tryz.func44, Tryz.ntmps44
  go_wp2
  go_loopw [12] (fun i wr => ∃ k : Nat, k ≤ l.length ∧ i = .int .i64 (k : Int) ∧ Hid (∀ j, j < k → rpOk n (l.getD j Rp.none) = true) ∧ Hid (Below w.heap.size w wr)) (fun i _ => l.length - (intOf i).toNat)
  case atStart => exact ⟨0, Nat.zero_le _, rfl, fun j hj => by omega, Below.refl _ _⟩
  case round =>
    obtain ⟨k, hk, rfl, HI, HB⟩ := hrel
    by_cases hlt : k < l.length
    · obtain ⟨b, off, rfl, hrg⟩ := (show Rps wr a l from Sl.below HS.out HB.out).range k hlt
      have HZ := Hz.out k
      generalize hx : l.getD k Rp.none = x at hrg HZ
      have HX := hid hx
      clear hx
      obtain ⟨xh, xk, xv, xt, xa, xs, xc, xd, xm⟩ := x
      have HZd := hid (show xd.size ≤ 1048576 from HZ.2)
      replace HZ := hid (show xs.size ≤ 1048576 from HZ.1)
      have HRG := hid hrg
      clear hrg
      go_upto_region 5 with fail
      apply wp_region_lit
      iterate 3 go_step
      refine wpList_elem rfl rfl rfl 71 _ rfl b (off + k * 9) rfl _ HRG.out _ Tryz.underlying71 rfl (by kernel_rfl) [.int .i64 0, .int .i64 0, .int .i64 0, .int .i64 0, .int .i64 0, .string ⟨#[]⟩, .int .i64 0, .string ⟨#[]⟩, .int .i64 0] 71 (fun ρ w => by unfold execOp; simp [go_sem]) 71 _ _ rfl (by kernel_rfl) rfl rfl rfl rfl ?_
      intro wz R0 B0
      have HRz := hid R0
      have HBz := hid B0
      clear R0 B0
      have c0 := HRz.out.c 0 rfl
      have c1 := HRz.out.c 1 rfl
      have c2 := HRz.out.c 2 rfl
      have c3 := HRz.out.c 3 rfl
      have c4 := HRz.out.c 4 rfl
      have c5 := HRz.out.c 5 rfl
      have c6 := HRz.out.c 6 rfl
      have c7 := HRz.out.c 7 rfl
      have c8 := HRz.out.c 8 rfl
      go_wp2_with fail
      refine (iIsHost xh _).mono ?_
      rintro e w20 ⟨rfl, hw⟩
      subst hw
      by_cases h0 : 0 ≤ xh ∧ xh < 3
      rotate_left
      · rw [decide_eq_false (show ¬ (0 ≤ xh ∧ xh < 3) by omega)]
        have HQ := hid h0
        go_wp2
        go_ret
        exact ⟨by rw [rps_no2 k hlt (by rw [HX.out]; unfold rpOk; simp only []; rw [decide_eq_false (show ¬ (0 ≤ xh ∧ xh < 3) by have := HQ.out; omega)]; simp)]; rfl, HB.out.trans (HBz.out.mono HB.out.size)⟩
      rw [decide_eq_true h0]
      have HP0 := hid h0
      clear h0
      go_wp2_with fail
      refine (iOpOk xk xv xt xa xs _ HZ.out).mono ?_
      rintro e w21 ⟨rfl, hb⟩
      replace HBz := hid (HBz.out.trans (hb.mono HBz.out.size))
      replace HRz := hid (HRz.out.below hb HRz.out.lt)
      clear c1 c2 c3 c4 c5 c6 c7 c8
      have c6 := HRz.out.c 6 rfl
      have c7 := HRz.out.c 7 rfl
      have c8 := HRz.out.c 8 rfl
      clear hb
      cases h1 : opRight xk xv xt xa xs
      · have HQ := hid h1
        go_wp2
        go_ret
        exact ⟨by rw [rps_no2 k hlt (by rw [HX.out]; unfold rpOk; simp only []; rw [HQ.out]; simp)]; rfl, HB.out.trans (HBz.out.mono HB.out.size)⟩
      have HP1 := hid h1
      clear h1
      go_wp2_with fail
      refine (Sec.isFrom xc 0 6 _).mono ?_
      rintro e w22 ⟨rfl, hw⟩
      subst hw
      by_cases h2 : 0 ≤ xc ∧ xc ≤ 6
      rotate_left
      · rw [decide_eq_false (show ¬ (0 ≤ xc ∧ xc ≤ 6) by omega)]
        have HQ := hid h2
        go_wp2
        go_ret
        exact ⟨by rw [rps_no2 k hlt (by rw [HX.out]; unfold rpOk; simp only []; rw [decide_eq_false (show ¬ (0 ≤ xc ∧ xc ≤ 6) by have := HQ.out; omega)]; simp)]; rfl, HB.out.trans (HBz.out.mono HB.out.size)⟩
      rw [decide_eq_true h2]
      have HP2 := hid h2
      clear h2
      go_wp2_with fail
      refine (Mem.fitsSector xd _).mono ?_
      rintro e w23 ⟨rfl, hw⟩
      subst hw
      by_cases h3 : (xd.size : Int) ≤ 700
      rotate_left
      · rw [decide_eq_false (show ¬ ((xd.size : Int) ≤ 700) by omega)]
        have HQ := hid h3
        go_wp2
        go_ret
        exact ⟨by rw [rps_no2 k hlt (by rw [HX.out]; unfold rpOk; simp only []; rw [decide_eq_false (show ¬ ((xd.size : Int) ≤ 700) by have := HQ.out; omega)]; simp)]; rfl, HB.out.trans (HBz.out.mono HB.out.size)⟩
      rw [decide_eq_true h3]
      have HP3 := hid h3
      clear h3
      go_wp2_with fail
      refine (Sec.isFrom xm 0 (n : Int) _).mono ?_
      rintro e w24 ⟨rfl, hw⟩
      subst hw
      by_cases h4 : 0 ≤ xm ∧ xm ≤ (n : Int)
      rotate_left
      · rw [decide_eq_false (show ¬ (0 ≤ xm ∧ xm ≤ (n : Int)) by omega)]
        have HQ := hid h4
        go_wp2
        go_ret
        exact ⟨by rw [rps_no2 k hlt (by rw [HX.out]; unfold rpOk; simp only []; rw [decide_eq_false (show ¬ (0 ≤ xm ∧ xm ≤ (n : Int)) by have := HQ.out; omega)]; simp)]; rfl, HB.out.trans (HBz.out.mono HB.out.size)⟩
      rw [decide_eq_true h4]
      have HP4 := hid h4
      clear h4
      go_wp2
      refine ⟨⟨k + 1, by omega, by go_num, ?_, HB.out.trans (HBz.out.mono HB.out.size)⟩, by simp [intOf]; omega⟩
      intro j hj
      by_cases hjk : j = k
      · subst hjk
        rw [HX.out]
        unfold rpOk
        simp only []
        rw [decide_eq_true HP0.out, HP1.out, decide_eq_true HP2.out, decide_eq_true HP3.out, decide_eq_true HP4.out]
        rfl
      · exact HI.out j (by omega)
    · obtain rfl : k = l.length := by omega
      go_wp2
      go_ret
      exact ⟨by rw [rps_yes HG.out HI.out]; rfl, HB.out⟩

end Go.Proofs.YtaopkchkhdbfnaaGreatDoor.Pl
