/-
  The walks of impl.readKind at a journal's sector and impl.ReadJournal. Condition: the table of sixteen sums and the error of a part that lacks stand in their variables; a flag that is no flag is no journal's (a premise of both, to be proved of the text).
-/
import Derived.Test.YtfbnnhgaedficafDoorRdJn3
import Derived.Tactics
import Derived.Tactics2
import Derived.Defers
import Derived.Recover
import Derived.Laws.ResultCell
namespace Go.Proofs.YtfbnnhgaedficafDoor.Rd
open Go.RowKit Go.Proofs.YtfbnnhgaedficafDoor.Mem Go.Proofs.YtfbnnhgaedficafDoor.Sec
set_option linter.unusedVariables false

def JZ : Jn := ⟨0, false, 0, 0, 0, 0, ⟨#[]⟩, []⟩

/-- What a journal's sector is read as. -/
def readJn (R : ByteArray → Int × Nat) (s : ByteArray) : Option Jn :=
  match jnAt R s with
  | some ([x, f, k, v, t, a], tx, o) => if Jn.show ⟨x, decide (f = 1), k, v, t, a, tx, o⟩ = s then some ⟨x, decide (f = 1), k, v, t, a, tx, o⟩ else none
  | _ => none

theorem readJn_yes {R : ByteArray → Int × Nat} {s : ByteArray} {x f k v t a : Int} {tx : ByteArray} {o : List Ou} (h : jnAt R s = some ([x, f, k, v, t, a], tx, o)) : readJn R s = if Jn.show ⟨x, decide (f = 1), k, v, t, a, tx, o⟩ = s then some ⟨x, decide (f = 1), k, v, t, a, tx, o⟩ else none := by unfold readJn; rw [h]
theorem readJn_no {R : ByteArray → Int × Nat} {s : ByteArray} (h : jnAt R s = none) : readJn R s = none := by unfold readJn; rw [h]

theorem readJn_short (R : ByteArray → Int × Nat) (hR : Reads R) (s : ByteArray) (h : s.size ≤ 5) (hs : s.size ≤ 1048576) : readJn R s = none := readJn_no (jnAt_no1 (nums_short R hR s h hs 5))

theorem outsAll_len {R : ByteArray → Int × Nat} {s : ByteArray} {i : Nat} {l : List Ou} {z : Nat} (h : outsAll R s i = some (l, z)) : l.length ≤ 8 ∧ ∀ x ∈ l, x.text.size ≤ s.size := by
  unfold outsAll at h
  split at h
  · cases h
  · rename_i hn
    have := outsAt_len h
    exact ⟨by rw [this.1]; omega, this.2⟩

theorem jnAt_small {R : ByteArray → Int × Nat} {s : ByteArray} {l : List Int} {tx : ByteArray} {o : List Ou} (h : jnAt R s = some (l, tx, o)) : tx.size ≤ s.size ∧ o.length ≤ 8 ∧ ∀ x ∈ o, x.text.size ≤ s.size := by
  unfold jnAt at h
  split at h
  · split at h
    · split at h
      · rename_i hp _ _ _ ho
        simp only [Option.some.injEq, Prod.mk.injEq] at h
        obtain ⟨_, rfl, rfl⟩ := h
        exact ⟨pieceAt_size hp, outsAll_len ho⟩
      · cases h
    · cases h
  · cases h

set_option maxRecDepth 100000 in
set_option maxHeartbeats 1000000 in
theorem jcatch_some (p q : Nat) (u : TypeId) (pv : Value) (older : List PanicEntry) (w : World) (a0 a1 a2 a3 a4 a5 a6 a7 b0 : Value) (hp : Row w p [a0, a1, a2, a3, a4, a5, a6, a7]) (hq : Row w q [b0]) (hpq : p ≠ q) :
    CallsD Tryd.prog 88 #[.pointer (some ⟨p, 0, none⟩), .pointer (some ⟨q, 0, none⟩)] (.panicking ({ v := .iface u pv, recovered := false } :: older)) w fun e u' w' =>
      e = .returned (.tuple #[]) ∧ u' = .panicking ({ v := .iface u pv, recovered := true } :: older) ∧ Row w' p [.int .i64 0, .bool false, .int .i64 0, .int .i64 0, .int .i64 0, .int .i64 0, .string ⟨#[]⟩, .slice none 0 0] ∧ Row w' q [.bool false] ∧ Kept (fun b => b = p ∨ b = q) w w' := by
  refine callsD_of_wpS Tryd.func88 rfl fun c₀ cs hu => ?_
  obtain ⟨wl, hwl, ez, Z0, B0⟩ := one_new w [.int .i64 0, .bool false, .int .i64 0, .int .i64 0, .int .i64 0, .int .i64 0, .string ⟨#[]⟩, .slice none 0 0] 41
  have hpl := hp.lt
  have hql := hq.lt
  have P0 := hp.below B0 hp.lt
  have Q0 := hq.below B0 hq.lt
  have z0 := Z0.c 0 rfl
  have z1 := Z0.c 1 rfl
  have z2 := Z0.c 2 rfl
  have z3 := Z0.c 3 rfl
  have z4 := Z0.c 4 rfl
  have z5 := Z0.c 5 rfl
  have z6 := Z0.c 6 rfl
  have z7 := Z0.c 7 rfl
  have p0 := P0.c 0 rfl
  have p1 := P0.c 1 rfl
  have p2 := P0.c 2 rfl
  have p3 := P0.c 3 rfl
  have p4 := P0.c 4 rfl
  have p5 := P0.c 5 rfl
  have p6 := P0.c 6 rfl
  have p7 := P0.c 7 rfl
  have q0 := Q0.c 0 rfl
  have f0 := P0.f 0
  have f1 := P0.f 1
  have f2 := P0.f 2
  have f3 := P0.f 3
  have f4 := P0.f 4
  have f5 := P0.f 5
  have f6 := P0.f 6
  have f7 := P0.f 7
  have g0 := Q0.f 0
  have HP := hid ((row_set8 P0 (.int .i64 0) (.bool false) (.int .i64 0) (.int .i64 0) (.int .i64 0) (.int .i64 0) (.string ⟨#[]⟩) (.slice none 0 0)).other (p := ⟨q, 0, none⟩) (by show p ≠ q; exact hpq) (.bool false))
  have HQ := hid ((Q0.kept (kept_set8 wl p (.int .i64 0) (.bool false) (.int .i64 0) (.int .i64 0) (.int .i64 0) (.int .i64 0) (.string ⟨#[]⟩) (.slice none 0 0)) (fun e => hpq e.symm)).set 0 (.bool false))
  have HK : Hid (Kept (fun b => b = p ∨ b = q) w (((((((((wl.setCell ⟨p, 0, none⟩ (.int .i64 0)).setCell ⟨p, 1, none⟩ (.bool false)).setCell ⟨p, 2, none⟩ (.int .i64 0)).setCell ⟨p, 3, none⟩ (.int .i64 0)).setCell ⟨p, 4, none⟩ (.int .i64 0)).setCell ⟨p, 5, none⟩ (.int .i64 0)).setCell ⟨p, 6, none⟩ (.string ⟨#[]⟩)).setCell ⟨p, 7, none⟩ (.slice none 0 0)).setCell ⟨q, 0, none⟩ (.bool false))) :=
    (((Kept.of_below (S := fun _ => False) B0).trans (kept_set8 wl p (.int .i64 0) (.bool false) (.int .i64 0) (.int .i64 0) (.int .i64 0) (.int .i64 0) (.string ⟨#[]⟩) (.slice none 0 0))).trans (kept_set _ _ _ _)).mono (fun b _ x => by rcases x with (x | x) | x; cases x; exact Or.inl x; exact Or.inr x)
  clear hp hq P0 Q0 Z0 B0
  apply wpS_seq
  apply wpS_region
  simp [wpOpsS, go_sem, recoverD, hu, Tryd.ntmps88, Exit.thenS]
  refine wpS_cond (t := true) (by simp [Act.eval, Array.replicate]) ?_
  simp only [if_true]
  refine wpS_of_wp ?_
  go_wp2
  simp [bodyPostS, results, Tryd.results88]
  exact ⟨HP.out, HQ.out, HK.out⟩

set_option maxRecDepth 100000 in
set_option maxHeartbeats 1000000 in
theorem jcatch_none (p q : Addr) (w : World) :
    CallsD Tryd.prog 88 #[.pointer (some p), .pointer (some q)] .returning w fun e u' w' => e = .returned (.tuple #[]) ∧ u' = .returning ∧ w' = w := by
  refine callsD_of_wpS Tryd.func88 rfl fun c₀ cs hu => ?_
  apply wpS_seq
  apply wpS_region
  simp [wpOpsS, go_sem, recoverD, hu, Tryd.ntmps88, Exit.thenS]
  refine wpS_cond (t := false) (by simp [Act.eval, Array.replicate]) ?_
  simp only [Bool.false_eq_true, if_false]
  refine wpS_of_wp (wp_skip ?_)
  cases c₀
  simp_all [bodyPostS, results, Tryd.results88]

/-- What is read, and what is told of it. -/
def JnIs (R : ByteArray → Int × Nat) (s : ByteArray) (J : Jn) (ok : Bool) : Prop := readJn R s = some J ∧ J.outs.length ≤ 8 ∧ ok = true ∨ readJn R s = none ∧ J = JZ ∧ ok = false

/-- What both sides answer: a list of its own, or none. -/
def JnOut (R : ByteArray → Int × Nat) (s : ByteArray) (w w' : World) (r : Ending) : Prop :=
  ∃ J ad cap ok, JnIs R s J ok ∧ r = .returned (.tuple #[jnV J ad cap, .bool ok]) ∧ Or2 w' w.heap.size (.slice ad J.outs.length cap) J.outs ∧ Below w.heap.size w w'

theorem jnone_row (w : World) (B : Nat) (b : Option Addr) : Or2 w B (.slice b JZ.outs.length 0) JZ.outs := Or.inl ⟨b, rfl, rfl, rfl⟩

set_option maxRecDepth 100000 in
set_option maxHeartbeats 4000000 in
theorem readKindJn (R : ByteArray → Int × Nat) (hR : Reads R) (s : ByteArray) (hs : s.size ≤ 1048576) (hnv : NoJn R s → readJn R s = none) (w : World) (u : TypeId) (pv : Value) (hL : Lacks w u pv) (T : Sums w) :
    Calls Tryd.prog 54 #[.string s, .func (.func 55) #[] #[], .func (.func 19) #[] #[]] w fun e w' => JnOut R s w w' e := by
  have hmf : ∀ (fn : Fn) (first cap : Array Value) (w : World), (Instr.makeFunc fn first cap).run Tryd.prog w = .ok (.func fn first cap) w := fun _ _ _ _ => rfl
  have HR := hid hR
  have HNV := hid hnv
  clear hnv
  have HL := hid hL
  have HT := hid T
  clear hR hL T
  go_enter_defers Tryd.func54, Tryd.ntmps54
  go_wp2_with fail
  obtain ⟨wc, hwc, ec, A0, B0, C0, K0⟩ := three_any w [.int .i64 0, .bool false, .int .i64 0, .int .i64 0, .int .i64 0, .int .i64 0, .string ⟨#[]⟩, .slice none 0 0] [.bool false] [.string s] 41 4 110
  simp only [hwc]
  clear hwc
  have HA := hid A0
  have HBq := hid B0
  have HKc := hid K0
  have HLc := hid (HL.out.kept (Kept.of_below (S := fun _ => False) K0) (fun x => x))
  have HCu : Hid (Cur wc (w.heap.size + 1 + 1) s) := C0
  have hgl := HL.out.lt
  clear A0 B0 C0 K0
  by_cases h5 : (s.size : Int) < 5
  · have HN := hid (readJn_short R HR.out s (by omega) hs)
    refine (take_no wc (w.heap.size + 1 + 1) s 5 HCu.out h5 u pv HLc.out).mono ?_
    rintro e w1 ⟨rfl, hw⟩
    obtain rfl := hw.symm
    unfold lack
    go_wp2
    refine leaves_cons (f := 88) (args := #[.pointer (some ⟨w.heap.size, 0, none⟩), .pointer (some ⟨w.heap.size + 1, 0, none⟩)]) (by simp) (by simp [go_sem]) ?_
    refine (jcatch_some w.heap.size (w.heap.size + 1) u pv [] _ _ _ _ _ _ _ _ _ _ HA.out HBq.out (by omega)).mono ?_
    rintro e u' w2 ⟨rfl, rfl, RA, RB, k2⟩
    refine ⟨_, results_two rfl _ w2 w.heap.size (w.heap.size + 1) _ _ rfl rfl (load_row RA Tryd.underlying41 rfl (by kernel_rfl)) (load_bool RB), ?_⟩
    exact ⟨JZ, none, 0, false, Or.inr ⟨HN.out, rfl, rfl⟩, rfl, jnone_row _ _ _, HKc.out.trans (k2.below HKc.out.size (fun b hb x => by rcases x with x | x <;> omega))⟩
  · have h5n : 5 ≤ s.size := by omega
    have HRR : Hid (s.extract 5 s.size = rest s 5) := rfl
    refine (take_yes wc (w.heap.size + 1 + 1) s 5 HCu.out h5n hs).mono ?_
    rintro e w1 ⟨rfl, hw⟩
    have M1 : Moved wc w1 (w.heap.size + 1 + 1) (rest s 5) := by rw [hw, ← HRR.out]; exact moved_set HCu.out _
    have HA1 := hid (HA.out.kept M1.2 (by omega))
    have HB1 := hid (HBq.out.kept M1.2 (by omega))
    have HL1 := hid (HLc.out.kept M1.2 (by omega))
    have HM1 := hid M1
    clear hw M1
    go_wp2_with fail
    refine (journalParts R HR.out s hs w1 (w.heap.size + 1 + 1) HM1.out.1 u pv HL1.out (by omega)).mono ?_
    rintro e w2 ⟨hg, k2⟩
    have HA2 := hid (HA1.out.kept k2 (by omega))
    have HB2 := hid (HB1.out.kept k2 (by omega))
    have k12 : Kept (fun b => b = w.heap.size + 1 + 1) wc w2 := (HM1.out.2.trans k2).mono (fun b _ x => by rcases x with x | x <;> exact x)
    have HBw : Hid (Below w.heap.size w w2) := HKc.out.trans (k12.below HKc.out.size (fun b hb x => by omega))
    have HT2 := hid (HT.out.below HBw.out)
    have hs2 : w.heap.size + 1 + 1 < w2.heap.size := by have := k12.size; omega
    have hs1 : w.heap.size + 1 + 1 < w1.heap.size := HM1.out.1.lt
    clear k2 k12 HM1 HL1 HA1 HB1
    rcases hg with ⟨x, f, k, v, t, a, tx, o, ad, cap, hn, hf1, rfl, hO⟩ | ⟨hn, rfl⟩
    · have HRd := hid (readJn_yes hn)
      have hsm := jnAt_small hn
      have ho8 := hsm.2.1
      have HSm : Hid (Jn.Small ⟨x, decide (f = 1), k, v, t, a, tx, o⟩) := ⟨Nat.le_trans hsm.1 hs, by show o.length ≤ _; omega, fun y hy => Nat.le_trans (hsm.2.2 y hy) hs⟩
      obtain ⟨dn, hdn⟩ : ∃ dn, decide (f = 1) = dn := ⟨_, rfl⟩
      rw [hdn] at HRd HSm ⊢
      clear hdn hf1 hn hsm
      have HO := hid hO
      have hrb : ∀ b, rb (.slice ad o.length cap) = some b → w1.heap.size ≤ b := fun b hb => (RowO.lt HO.out hb).1
      obtain ⟨ad', cap', ea, hW⟩ := hO.w
      cases ea
      have HS2 := hid (Wr.sl hW)
      clear hO hW
      have HV : Hid (jnV ⟨x, dn, k, v, t, a, tx, o⟩ ad cap = .agg #[.int .i64 x, .bool dn, .int .i64 k, .int .i64 v, .int .i64 t, .int .i64 a, .string tx, .slice ad o.length cap]) := rfl
      rw [HV.out]
      go_wp2_with fail
      obtain ⟨w3, hw3, ez3, D3, B3⟩ := one_new w2 [.int .i64 x, .bool dn, .int .i64 k, .int .i64 v, .int .i64 t, .int .i64 a, .string tx, .slice ad o.length cap] 41
      simp only [hw3]
      have HA3 := hid (HA2.out.below B3 HA2.out.lt)
      have HB3 := hid (HB2.out.below B3 HB2.out.lt)
      have HD3 := hid D3
      have HO3 := hid (RowO.below HO.out B3)
      have HS3 : Hid (Ous w3 ad o) := Sl.below HS2.out B3
      have HBw3 := hid (HBw.out.trans (B3.mono HBw.out.size))
      have HT3 := hid (HT2.out.below B3)
      clear hw3 D3 B3 HA2 HB2 HBw HT2 HO HS2
      refine (iShowJournal w3 ⟨x, dn, k, v, t, a, tx, o⟩ ad cap HS3.out HSm.out HT3.out).mono ?_
      rintro e w4 ⟨rfl, b4⟩
      have HA4 := hid (HA3.out.below b4 HA3.out.lt)
      have HB4 := hid (HB3.out.below b4 HB3.out.lt)
      have HD4 := hid (HD3.out.below b4 HD3.out.lt)
      have HO4 := hid (RowO.below HO3.out b4)
      have HBw4 := hid (HBw3.out.trans (b4.mono HBw3.out.size))
      clear b4 HA3 HB3 HD3 HBw3 HT3 HO3 HS3
      have a0 := HA4.out.c 0 rfl
      have a1 := HA4.out.c 1 rfl
      have a2 := HA4.out.c 2 rfl
      have a3 := HA4.out.c 3 rfl
      have a4 := HA4.out.c 4 rfl
      have a5 := HA4.out.c 5 rfl
      have a6 := HA4.out.c 6 rfl
      have a7 := HA4.out.c 7 rfl
      have fa0 := HA4.out.f 0
      have fa1 := HA4.out.f 1
      have fa2 := HA4.out.f 2
      have fa3 := HA4.out.f 3
      have fa4 := HA4.out.f 4
      have fa5 := HA4.out.f 5
      have fa6 := HA4.out.f 6
      have fa7 := HA4.out.f 7
      have q0 := HB4.out.c 0 rfl
      have d0 := HD4.out.c 0 rfl
      have d1 := HD4.out.c 1 rfl
      have d2 := HD4.out.c 2 rfl
      have d3 := HD4.out.c 3 rfl
      have d4 := HD4.out.c 4 rfl
      have d5 := HD4.out.c 5 rfl
      have d6 := HD4.out.c 6 rfl
      have d7 := HD4.out.c 7 rfl
      have fq := HB4.out.f 0
      by_cases hsh : Jn.show ⟨x, dn, k, v, t, a, tx, o⟩ = s
      · have HN2 : Hid (readJn R s = some ⟨x, dn, k, v, t, a, tx, o⟩) := by rw [Hid, HRd.out, if_pos hsh]
        have hne := Own.eqS_yes hsh
        generalize Jn.show ⟨x, dn, k, v, t, a, tx, o⟩ = sh at *
        have HRA := hid ((row_set8 HA4.out (.int .i64 x) (.bool dn) (.int .i64 k) (.int .i64 v) (.int .i64 t) (.int .i64 a) (.string tx) (.slice ad o.length cap)).other (p := ⟨w.heap.size + 1, 0, none⟩) (by show w.heap.size ≠ w.heap.size + 1; omega) (.bool true))
        have HRB := hid ((HB4.out.kept (kept_set8 w4 w.heap.size (.int .i64 x) (.bool dn) (.int .i64 k) (.int .i64 v) (.int .i64 t) (.int .i64 a) (.string tx) (.slice ad o.length cap)) (by omega)).set 0 (.bool true))
        have HKK : Hid (Kept (fun b => b = w.heap.size ∨ b = w.heap.size + 1) w4 (((((((((w4.setCell ⟨w.heap.size, 0, none⟩ (.int .i64 x)).setCell ⟨w.heap.size, 1, none⟩ (.bool dn)).setCell ⟨w.heap.size, 2, none⟩ (.int .i64 k)).setCell ⟨w.heap.size, 3, none⟩ (.int .i64 v)).setCell ⟨w.heap.size, 4, none⟩ (.int .i64 t)).setCell ⟨w.heap.size, 5, none⟩ (.int .i64 a)).setCell ⟨w.heap.size, 6, none⟩ (.string tx)).setCell ⟨w.heap.size, 7, none⟩ (.slice ad o.length cap)).setCell ⟨w.heap.size + 1, 0, none⟩ (.bool true))) := ((kept_set8 w4 w.heap.size (.int .i64 x) (.bool dn) (.int .i64 k) (.int .i64 v) (.int .i64 t) (.int .i64 a) (.string tx) (.slice ad o.length cap)).trans (kept_set _ _ _ _))
        have HBf := hid (HBw4.out.trans (HKK.out.below HBw4.out.size (fun b hb x => by rcases x with x | x <;> omega)))
        have HIf := hid (RowO.mono (B' := w.heap.size) (RowO.kept HO4.out HKK.out (fun b hb x => by have := hrb b hb; rcases x with x | x <;> omega)) (by omega))
        clear HO4 HBw4 HKK HA4 HB4 HD4 HRd HSm
        go_wp2
        refine leaves_cons (f := 88) (args := #[.pointer (some ⟨w.heap.size, 0, none⟩), .pointer (some ⟨w.heap.size + 1, 0, none⟩)]) (by simp) (by simp [go_sem]) ?_
        refine (jcatch_none ⟨w.heap.size, 0, none⟩ ⟨w.heap.size + 1, 0, none⟩ _).mono ?_
        rintro e u' w5 ⟨rfl, rfl, rfl⟩
        refine ⟨_, results_two rfl _ _ w.heap.size (w.heap.size + 1) _ _ rfl rfl (load_row HRA.out Tryd.underlying41 rfl (by kernel_rfl)) (load_bool HRB.out), ?_⟩
        exact ⟨⟨x, dn, k, v, t, a, tx, o⟩, ad, cap, true, Or.inl ⟨HN2.out, ho8, rfl⟩, rfl, HIf.out, HBf.out⟩
      · have HN2 : Hid (readJn R s = none) := by rw [Hid, HRd.out, if_neg hsh]
        have hne := Own.eqS_no hsh
        generalize Jn.show ⟨x, dn, k, v, t, a, tx, o⟩ = sh at *
        have HRA := hid ((row_set8 HA4.out (.int .i64 0) (.bool false) (.int .i64 0) (.int .i64 0) (.int .i64 0) (.int .i64 0) (.string ⟨#[]⟩) (.slice none 0 0)).other (p := ⟨w.heap.size + 1, 0, none⟩) (by show w.heap.size ≠ w.heap.size + 1; omega) (.bool false))
        have HRB := hid ((HB4.out.kept (kept_set8 w4 w.heap.size (.int .i64 0) (.bool false) (.int .i64 0) (.int .i64 0) (.int .i64 0) (.int .i64 0) (.string ⟨#[]⟩) (.slice none 0 0)) (by omega)).set 0 (.bool false))
        have HKK : Hid (Kept (fun b => b = w.heap.size ∨ b = w.heap.size + 1) w4 (((((((((w4.setCell ⟨w.heap.size, 0, none⟩ (.int .i64 0)).setCell ⟨w.heap.size, 1, none⟩ (.bool false)).setCell ⟨w.heap.size, 2, none⟩ (.int .i64 0)).setCell ⟨w.heap.size, 3, none⟩ (.int .i64 0)).setCell ⟨w.heap.size, 4, none⟩ (.int .i64 0)).setCell ⟨w.heap.size, 5, none⟩ (.int .i64 0)).setCell ⟨w.heap.size, 6, none⟩ (.string ⟨#[]⟩)).setCell ⟨w.heap.size, 7, none⟩ (.slice none 0 0)).setCell ⟨w.heap.size + 1, 0, none⟩ (.bool false))) := ((kept_set8 w4 w.heap.size (.int .i64 0) (.bool false) (.int .i64 0) (.int .i64 0) (.int .i64 0) (.int .i64 0) (.string ⟨#[]⟩) (.slice none 0 0)).trans (kept_set _ _ _ _))
        have HBf := hid (HBw4.out.trans (HKK.out.below HBw4.out.size (fun b hb x => by rcases x with x | x <;> omega)))
        clear HO4 HBw4 HKK HA4 HB4 HD4 HRd HSm
        go_wp2
        refine leaves_cons (f := 88) (args := #[.pointer (some ⟨w.heap.size, 0, none⟩), .pointer (some ⟨w.heap.size + 1, 0, none⟩)]) (by simp) (by simp [go_sem]) ?_
        refine (jcatch_none ⟨w.heap.size, 0, none⟩ ⟨w.heap.size + 1, 0, none⟩ _).mono ?_
        rintro e u' w5 ⟨rfl, rfl, rfl⟩
        refine ⟨_, results_two rfl _ _ w.heap.size (w.heap.size + 1) _ _ rfl rfl (load_row HRA.out Tryd.underlying41 rfl (by kernel_rfl)) (load_bool HRB.out), ?_⟩
        exact ⟨JZ, none, 0, false, Or.inr ⟨HN2.out, rfl, rfl⟩, rfl, jnone_row _ _ _, HBf.out⟩
    · have HN : Hid (readJn R s = none) := HNV.out hn
      clear hn
      unfold lack
      go_wp2
      refine leaves_cons (f := 88) (args := #[.pointer (some ⟨w.heap.size, 0, none⟩), .pointer (some ⟨w.heap.size + 1, 0, none⟩)]) (by simp) (by simp [go_sem]) ?_
      refine (jcatch_some w.heap.size (w.heap.size + 1) u pv [] _ _ _ _ _ _ _ _ _ _ HA2.out HB2.out (by omega)).mono ?_
      rintro e u' w3 ⟨rfl, rfl, RA, RB, k3⟩
      refine ⟨_, results_two rfl _ w3 w.heap.size (w.heap.size + 1) _ _ rfl rfl (load_row RA Tryd.underlying41 rfl (by kernel_rfl)) (load_bool RB), ?_⟩
      exact ⟨JZ, none, 0, false, Or.inr ⟨HN.out, rfl, rfl⟩, rfl, jnone_row _ _ _, HBw.out.trans (k3.below HBw.out.size (fun b hb x => by rcases x with x | x <;> omega))⟩

/-- A struct out of its own block, and a slot. -/
theorem jresults_one {P : Program} {fn : Func} {p q : Tmp} {ty : TypeId} (h : fn.results = #[.cell p ty, .tmp q]) (tmps : Array Value) (w : World) (g : Nat) (v b : Value)
    (hp : tmps.getD p undef = .pointer (some ⟨g, 0, none⟩)) (hq : tmps.getD q undef = b) (h1 : (loadVar ty ⟨g, 0, none⟩).run P w = .ok v w) :
    (results fn tmps).run P w = .ok (.tuple #[v, b]) w := by
  rw [results_cell_tmp h, hp, hq]
  simp [asAddr, h1]

set_option maxRecDepth 100000 in
set_option maxHeartbeats 2000000 in
theorem iReadJournal (R : ByteArray → Int × Nat) (hR : Reads R) (s : ByteArray) (hs : s.size ≤ 1048576) (hnv : NoJn R s → readJn R s = none) (w : World) (u : TypeId) (pv : Value) (hL : Lacks w u pv) (T : Sums w) :
    Calls Tryd.prog 22 #[.string s] w fun e w' => JnOut R s w w' e := by
  have HR := hid hR
  have HNV := hid hnv
  clear hnv
  have HL := hid hL
  have HT := hid T
  clear hR hL T
  go_enter Tryd.func22, Tryd.ntmps22
  go_wp2_with fail
  obtain ⟨wc, hwc, ec, A0, K0⟩ := one_new w [.int .i64 0, .bool false, .int .i64 0, .int .i64 0, .int .i64 0, .int .i64 0, .string ⟨#[]⟩, .slice none 0 0] 41
  simp only [hwc]
  clear hwc
  have HA := hid A0
  have HK := hid K0
  clear A0 K0
  refine (readKindJn R HR.out s hs HNV.out wc u pv (HL.out.kept (Kept.of_below (S := fun _ => False) HK.out) (fun x => x)) (HT.out.below HK.out)).mono ?_
  rintro r w1 ⟨J, ad, cap, ok, hi, rfl, hO, b1⟩
  have HIs := hid hi
  have HO := hid hO
  have HA1 := hid (HA.out.below b1 HA.out.lt)
  have HB1 := hid (HK.out.trans (b1.mono HK.out.size))
  clear hi hO b1 HA
  have HV : Hid (jnV J ad cap = .agg #[.int .i64 J.txn, .bool J.done, .int .i64 J.kind, .int .i64 J.vol, .int .i64 J.to, .int .i64 J.at_, .string J.text, .slice ad J.outs.length cap]) := rfl
  rw [HV.out]
  have a0 := HA1.out.c 0 rfl
  have a1 := HA1.out.c 1 rfl
  have a2 := HA1.out.c 2 rfl
  have a3 := HA1.out.c 3 rfl
  have a4 := HA1.out.c 4 rfl
  have a5 := HA1.out.c 5 rfl
  have a6 := HA1.out.c 6 rfl
  have a7 := HA1.out.c 7 rfl
  have f0 := HA1.out.f 0
  have f1 := HA1.out.f 1
  have f2 := HA1.out.f 2
  have f3 := HA1.out.f 3
  have f4 := HA1.out.f 4
  have f5 := HA1.out.f 5
  have f6 := HA1.out.f 6
  have f7 := HA1.out.f 7
  have HRA := hid (row_set8 HA1.out (.int .i64 J.txn) (.bool J.done) (.int .i64 J.kind) (.int .i64 J.vol) (.int .i64 J.to) (.int .i64 J.at_) (.string J.text) (.slice ad J.outs.length cap))
  have HKK := hid (kept_set8 w1 w.heap.size (.int .i64 J.txn) (.bool J.done) (.int .i64 J.kind) (.int .i64 J.vol) (.int .i64 J.to) (.int .i64 J.at_) (.string J.text) (.slice ad J.outs.length cap))
  have HBf := hid (HB1.out.trans (HKK.out.below HB1.out.size (fun b hb x => by omega)))
  have HIf := hid (RowO.mono (B' := w.heap.size) (RowO.kept HO.out HKK.out (fun b hb x => by have := (RowO.lt HO.out hb).1; omega)) (by omega))
  clear HKK HO
  go_wp2
  refine bodyPost_ret (jresults_one rfl _ _ w.heap.size _ _ rfl rfl (load_row HRA.out Tryd.underlying41 rfl (by kernel_rfl))) rfl ?_
  exact ⟨J, ad, cap, ok, HIs.out, rfl, HIf.out, HBf.out⟩

end Go.Proofs.YtfbnnhgaedficafDoor.Rd
