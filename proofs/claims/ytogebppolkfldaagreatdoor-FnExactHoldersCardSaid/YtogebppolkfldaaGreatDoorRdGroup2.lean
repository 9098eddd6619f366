/-
  The walks of impl.readKind at a group's sector and impl.ReadGroup. Condition: the table of sixteen sums and the error of a part that lacks stand in their variables.
-/
import Derived.Test.YtogebppolkfldaaGreatDoorRdGroup
import Derived.Tactics
import Derived.Tactics2
import Derived.Defers
import Derived.Recover
import Derived.Laws.ResultCell
namespace Go.Proofs.YtogebppolkfldaaGreatDoor.Rd
open Go.RowKit Go.Proofs.YtogebppolkfldaaGreatDoor.Mem Go.Proofs.YtogebppolkfldaaGreatDoor.Sec
set_option linter.unusedVariables false

/-- What a group's sector is read as. -/
def readGroup (R : ByteArray → Int × Nat) (s : ByteArray) : Option (Int × Int × List Int) :=
  match nums R s 5 8 with
  | some (x :: y :: l, _) => if showGroup (x - 1) y l = s then some (x - 1, y, l) else none
  | _ => none

theorem readGroup_short (R : ByteArray → Int × Nat) (hR : Reads R) (s : ByteArray) (h : s.size ≤ 5) (hs : s.size ≤ 1048576) : readGroup R s = none := by
  unfold readGroup; rw [nums_short R hR s h hs 7]

set_option maxRecDepth 100000 in
set_option maxHeartbeats 1000000 in
theorem gcatch_some (p q : Nat) (u : TypeId) (pv : Value) (older : List PanicEntry) (w : World) (a0 a1 a2 b0 : Value) (hp : Row w p [a0, a1, a2]) (hq : Row w q [b0]) (hpq : p ≠ q) :
    CallsD Tryz.prog 134 #[.pointer (some ⟨p, 0, none⟩), .pointer (some ⟨q, 0, none⟩)] (.panicking ({ v := .iface u pv, recovered := false } :: older)) w fun e u' w' =>
      e = .returned (.tuple #[]) ∧ u' = .panicking ({ v := .iface u pv, recovered := true } :: older) ∧ Row w' p [.int .i64 0, .int .i64 0, .slice none 0 0] ∧ Row w' q [.bool false] ∧ Kept (fun b => b = p ∨ b = q) w w' := by
  refine callsD_of_wpS Tryz.func134 rfl fun c₀ cs hu => ?_
  obtain ⟨wl, hwl, ez, Z0, B0⟩ := one_new w [.int .i64 0, .int .i64 0, .slice none 0 0] 59
  have hpl := hp.lt
  have hql := hq.lt
  have P0 := hp.below B0 hp.lt
  have Q0 := hq.below B0 hq.lt
  have z0 := Z0.c 0 rfl
  have z1 := Z0.c 1 rfl
  have z2 := Z0.c 2 rfl
  have p0 := P0.c 0 rfl
  have p1 := P0.c 1 rfl
  have p2 := P0.c 2 rfl
  have q0 := Q0.c 0 rfl
  have f0 := P0.f 0
  have f1 := P0.f 1
  have f2 := P0.f 2
  have g0 := Q0.f 0
  have HP := hid ((((P0.set 0 (.int .i64 0)).set 1 (.int .i64 0)).set 2 (.slice none 0 0)).other (p := ⟨q, 0, none⟩) (by show p ≠ q; exact hpq) (.bool false))
  have HQ := hid ((((Q0.other (p := ⟨p, 0, none⟩) (by show q ≠ p; exact fun e => hpq e.symm) (.int .i64 0)).other (p := ⟨p, 1, none⟩) (by show q ≠ p; exact fun e => hpq e.symm) (.int .i64 0)).other (p := ⟨p, 2, none⟩) (by show q ≠ p; exact fun e => hpq e.symm) (.slice none 0 0)).set 0 (.bool false))
  have HK : Hid (Kept (fun b => b = p ∨ b = q) w ((((wl.setCell ⟨p, 0, none⟩ (.int .i64 0)).setCell ⟨p, 1, none⟩ (.int .i64 0)).setCell ⟨p, 2, none⟩ (.slice none 0 0)).setCell ⟨q, 0, none⟩ (.bool false))) :=
    (((((Kept.of_below (S := fun _ => False) B0).trans (kept_set _ _ _ _)).trans (kept_set _ _ _ _)).trans (kept_set _ _ _ _)).trans (kept_set _ _ _ _)).mono (fun b _ x => by rcases x with (((x | x) | x) | x) | x; cases x; exact Or.inl x; exact Or.inl x; exact Or.inl x; exact Or.inr x)
  clear hp hq P0 Q0 Z0 B0
  apply wpS_seq
  apply wpS_region
  simp [wpOpsS, go_sem, recoverD, hu, Tryz.ntmps134, Exit.thenS]
  refine wpS_cond (t := true) (by simp [Act.eval, Array.replicate]) ?_
  simp only [if_true]
  refine wpS_of_wp ?_
  go_wp2
  simp [bodyPostS, results, Tryz.results134]
  exact ⟨HP.out, HQ.out, HK.out⟩

set_option maxRecDepth 100000 in
set_option maxHeartbeats 1000000 in
theorem gcatch_none (p q : Addr) (w : World) :
    CallsD Tryz.prog 134 #[.pointer (some p), .pointer (some q)] .returning w fun e u' w' => e = .returned (.tuple #[]) ∧ u' = .returning ∧ w' = w := by
  refine callsD_of_wpS Tryz.func134 rfl fun c₀ cs hu => ?_
  apply wpS_seq
  apply wpS_region
  simp [wpOpsS, go_sem, recoverD, hu, Tryz.ntmps134, Exit.thenS]
  refine wpS_cond (t := false) (by simp [Act.eval, Array.replicate]) ?_
  simp only [Bool.false_eq_true, if_false]
  refine wpS_of_wp (wp_skip ?_)
  cases c₀
  simp_all [bodyPostS, results, Tryz.results134]

/-- What is read, and what is told of it. -/
def GroupIs (R : ByteArray → Int × Nat) (s : ByteArray) (h e : Int) (l : List Int) (ok : Bool) : Prop := readGroup R s = some (h, e, l) ∧ l.length ≤ 12 ∧ ok = true ∨ readGroup R s = none ∧ h = 0 ∧ e = 0 ∧ l = [] ∧ ok = false

/-- What both sides answer: a list of its own, or none. -/
def GroupOut (R : ByteArray → Int × Nat) (s : ByteArray) (w w' : World) (r : Ending) : Prop :=
  ∃ h e l a cap ok, GroupIs R s h e l ok ∧ r = .returned (.tuple #[gpV h e a l.length cap, .bool ok]) ∧ Ir w' w.heap.size (.slice a l.length cap) l ∧ Below w.heap.size w w'

theorem gnone_row (w : World) (B : Nat) (b : Option Addr) : Ir w B (.slice b ([] : List Int).length 0) [] := Or.inl ⟨b, rfl, rfl, rfl⟩

set_option maxRecDepth 100000 in
set_option maxHeartbeats 2000000 in
theorem readKindGroup (R : ByteArray → Int × Nat) (hR : Reads R) (s : ByteArray) (hs : s.size ≤ 1048576) (w : World) (u : TypeId) (pv : Value) (hL : Lacks w u pv) (T : Sums w) :
    Calls Tryz.prog 100 #[.string s, .func (.func 101) #[] #[], .func (.func 102) #[] #[]] w fun e w' => GroupOut R s w w' e := by
  have hmf : ∀ (fn : Fn) (first cap : Array Value) (w : World), (Instr.makeFunc fn first cap).run Tryz.prog w = .ok (.func fn first cap) w := fun _ _ _ _ => rfl
  have HR := hid hR
  have HL := hid hL
  have HT := hid T
  clear hR hL T
  go_enter_defers Tryz.func100, Tryz.ntmps100
  go_wp2_with fail
  obtain ⟨wc, hwc, ec, A0, B0, C0, K0⟩ := three_any w [.int .i64 0, .int .i64 0, .slice none 0 0] [.bool false] [.string s] 59 4 192
  simp only [hwc]
  clear hwc
  have HA := hid A0
  have HBq := hid B0
  have HKc := hid K0
  have HLc := hid (HL.out.kept (Kept.of_below (S := fun _ => False) K0) (fun x => x))
  have HCu : Hid (Cur wc (w.heap.size + 1 + 1) s) := C0
  have hgl := HL.out.lt
  clear A0 B0 C0 K0
  by_cases h5 : (s.size : Int) < 5
  · have HN := hid (readGroup_short R HR.out s (by omega) hs)
    refine (take_no wc (w.heap.size + 1 + 1) s 5 HCu.out h5 u pv HLc.out).mono ?_
    rintro e w1 ⟨rfl, hw⟩
    obtain rfl := hw.symm
    unfold lack
    go_wp2
    refine leaves_cons (f := 134) (args := #[.pointer (some ⟨w.heap.size, 0, none⟩), .pointer (some ⟨w.heap.size + 1, 0, none⟩)]) (by simp) (by simp [go_sem]) ?_
    refine (gcatch_some w.heap.size (w.heap.size + 1) u pv [] _ _ _ _ _ HA.out HBq.out (by omega)).mono ?_
    rintro e u' w2 ⟨rfl, rfl, RA, RB, k2⟩
    refine ⟨_, results_two rfl _ w2 w.heap.size (w.heap.size + 1) _ _ rfl rfl (load_row RA Tryz.underlying59 rfl (by kernel_rfl)) (load_bool RB), ?_⟩
    exact ⟨0, 0, [], none, 0, false, Or.inr ⟨HN.out, rfl, rfl, rfl, rfl⟩, rfl, gnone_row _ _ _, HKc.out.trans (k2.below HKc.out.size (fun b hb x => by rcases x with x | x <;> omega))⟩
  · have h5n : 5 ≤ s.size := by omega
    have HRR : Hid (s.extract 5 s.size = rest s 5) := rfl
    refine (take_yes wc (w.heap.size + 1 + 1) s 5 HCu.out h5n hs).mono ?_
    rintro e w1 ⟨rfl, hw⟩
    have M1 : Moved wc w1 (w.heap.size + 1 + 1) (rest s 5) := by rw [hw, ← HRR.out]; exact moved_set HCu.out _
    have HA1 := hid (HA.out.kept M1.2 (by omega))
    have HB1 := hid (HBq.out.kept M1.2 (by omega))
    have HL1 := hid (HLc.out.kept M1.2 (by omega))
    have HM1 := hid M1
    clear hw M1
    go_wp2_with fail
    refine (groupParts R HR.out s hs 5 w1 (w.heap.size + 1 + 1) HM1.out.1 u pv HL1.out (by omega)).mono ?_
    rintro e w2 ⟨hg, k2⟩
    have HA2 := hid (HA1.out.kept k2 (by omega))
    have HB2 := hid (HB1.out.kept k2 (by omega))
    have k12 : Kept (fun b => b = w.heap.size + 1 + 1) wc w2 := (HM1.out.2.trans k2).mono (fun b _ x => by rcases x with x | x <;> exact x)
    have HBw : Hid (Below w.heap.size w w2) := HKc.out.trans (k12.below HKc.out.size (fun b hb x => by omega))
    have HT2 := hid (HT.out.below HBw.out)
    have hs2 : w.heap.size + 1 + 1 < w2.heap.size := by have := k12.size; omega
    have hs1 : w.heap.size + 1 + 1 < w1.heap.size := HM1.out.1.lt
    clear k2 k12 HM1 HL1 HA1 HB1
    rcases hg with ⟨x, y, l, z, a, cap, hn, rfl, hI, hl6⟩ | ⟨hn, rfl⟩
    · have HN := hid hn
      have hlen : l.length ≤ 12 := by omega
      have HI := hid hI
      have hrb : ∀ b, rb (.slice a l.length cap) = some b → w1.heap.size ≤ b := fun b hb => (RowO.lt HI.out hb).1
      obtain ⟨a', cap', ea, hW⟩ := hI.w
      cases ea
      have HS2 := hid hW.sl
      clear hn hI hW hl6
      have HV : Hid (gpV (x - 1) y a l.length cap = .agg #[.int .i64 (x - 1), .int .i64 y, .slice a l.length cap]) := rfl
      rw [HV.out]
      go_wp2_with fail
      obtain ⟨w3, hw3, ez3, D3, B3⟩ := one_new w2 [.int .i64 (x - 1), .int .i64 y, .slice a l.length cap] 59
      simp only [hw3]
      have HA3 := hid (HA2.out.below B3 HA2.out.lt)
      have HB3 := hid (HB2.out.below B3 HB2.out.lt)
      have HD3 := hid D3
      have HI3 := hid (RowO.below HI.out B3)
      have HS3 := hid (HS2.out.below B3)
      have HBw3 := hid (HBw.out.trans (B3.mono HBw.out.size))
      have HT3 := hid (HT2.out.below B3)
      clear hw3 D3 B3 HA2 HB2 HBw HT2 HI HS2
      refine (iShowGroup w3 (x - 1) y a cap l HS3.out (by omega) HT3.out).mono ?_
      rintro e w4 ⟨rfl, b4⟩
      have HA4 := hid (HA3.out.below b4 HA3.out.lt)
      have HB4 := hid (HB3.out.below b4 HB3.out.lt)
      have HD4 := hid (HD3.out.below b4 HD3.out.lt)
      have HI4 := hid (RowO.below HI3.out b4)
      have HBw4 := hid (HBw3.out.trans (b4.mono HBw3.out.size))
      clear b4 HA3 HB3 HD3 HBw3 HT3 HI3 HS3
      have a0 := HA4.out.c 0 rfl
      have a1 := HA4.out.c 1 rfl
      have a2 := HA4.out.c 2 rfl
      have q0 := HB4.out.c 0 rfl
      have d0 := HD4.out.c 0 rfl
      have d1 := HD4.out.c 1 rfl
      have d2 := HD4.out.c 2 rfl
      have fa0 := HA4.out.f 0
      have fa1 := HA4.out.f 1
      have fa2 := HA4.out.f 2
      have fq := HB4.out.f 0
      by_cases hsh : showGroup (x - 1) y l = s
      · have HN2 : Hid (readGroup R s = some (x - 1, y, l)) := by unfold Hid readGroup; rw [HN.out]; simp only []; rw [if_pos hsh]
        have hne := Own.eqS_yes hsh
        generalize showGroup (x - 1) y l = sh at *
        have HRA := hid (((((HA4.out).set 0 (.int .i64 (x - 1))).set 1 (.int .i64 y)).set 2 (.slice a l.length cap)).other (p := ⟨w.heap.size + 1, 0, none⟩) (by show w.heap.size ≠ w.heap.size + 1; omega) (.bool true))
        have HRB := hid (((((HB4.out).other (p := ⟨w.heap.size, 0, none⟩) (by show w.heap.size + 1 ≠ w.heap.size; omega) (.int .i64 (x - 1))).other (p := ⟨w.heap.size, 1, none⟩) (by show w.heap.size + 1 ≠ w.heap.size; omega) (.int .i64 y)).other (p := ⟨w.heap.size, 2, none⟩) (by show w.heap.size + 1 ≠ w.heap.size; omega) (.slice a l.length cap)).set 0 (.bool true))
        have HBf := hid (below_set (below_set (below_set (below_set (HBw4.out) w.heap.size 0 (.int .i64 (x - 1)) (Nat.le_refl _)) w.heap.size 1 (.int .i64 y) (Nat.le_refl _)) w.heap.size 2 (.slice a l.length cap) (Nat.le_refl _)) (w.heap.size + 1) 0 (.bool true) (by omega))
        have HIf : Hid (Ir (((((w4).setCell ⟨w.heap.size, 0, none⟩ (.int .i64 (x - 1))).setCell ⟨w.heap.size, 1, none⟩ (.int .i64 y)).setCell ⟨w.heap.size, 2, none⟩ (.slice a l.length cap)).setCell ⟨w.heap.size + 1, 0, none⟩ (.bool true)) w.heap.size (.slice a l.length cap) l) := RowO.mono (RowO.kept HI4.out ((((kept_set _ _ _ _).trans (kept_set _ _ _ _)).trans (kept_set _ _ _ _)).trans (kept_set _ _ _ _)) (fun b hb x => by have := hrb b hb; rcases x with ((x | x) | x) | x <;> omega)) (by omega)
        go_wp2
        refine leaves_cons (f := 134) (args := #[.pointer (some ⟨w.heap.size, 0, none⟩), .pointer (some ⟨w.heap.size + 1, 0, none⟩)]) (by simp) (by simp [go_sem]) ?_
        refine (gcatch_none ⟨w.heap.size, 0, none⟩ ⟨w.heap.size + 1, 0, none⟩ _).mono ?_
        rintro e u' w5 ⟨rfl, rfl, rfl⟩
        refine ⟨_, results_two rfl _ _ w.heap.size (w.heap.size + 1) _ _ rfl rfl (load_row HRA.out Tryz.underlying59 rfl (by kernel_rfl)) (load_bool HRB.out), ?_⟩
        exact ⟨x - 1, y, l, a, cap, true, Or.inl ⟨HN2.out, hlen, rfl⟩, rfl, HIf.out, HBf.out⟩
      · have HN2 : Hid (readGroup R s = none) := by unfold Hid readGroup; rw [HN.out]; simp only []; rw [if_neg hsh]
        have hne := Own.eqS_no hsh
        generalize showGroup (x - 1) y l = sh at *
        have HRA := hid (((((HA4.out).set 0 (.int .i64 0)).set 1 (.int .i64 0)).set 2 (.slice none 0 0)).other (p := ⟨w.heap.size + 1, 0, none⟩) (by show w.heap.size ≠ w.heap.size + 1; omega) (.bool false))
        have HRB := hid (((((HB4.out).other (p := ⟨w.heap.size, 0, none⟩) (by show w.heap.size + 1 ≠ w.heap.size; omega) (.int .i64 0)).other (p := ⟨w.heap.size, 1, none⟩) (by show w.heap.size + 1 ≠ w.heap.size; omega) (.int .i64 0)).other (p := ⟨w.heap.size, 2, none⟩) (by show w.heap.size + 1 ≠ w.heap.size; omega) (.slice none 0 0)).set 0 (.bool false))
        have HBf := hid (below_set (below_set (below_set (below_set (HBw4.out) w.heap.size 0 (.int .i64 0) (Nat.le_refl _)) w.heap.size 1 (.int .i64 0) (Nat.le_refl _)) w.heap.size 2 (.slice none 0 0) (Nat.le_refl _)) (w.heap.size + 1) 0 (.bool false) (by omega))
        go_wp2
        refine leaves_cons (f := 134) (args := #[.pointer (some ⟨w.heap.size, 0, none⟩), .pointer (some ⟨w.heap.size + 1, 0, none⟩)]) (by simp) (by simp [go_sem]) ?_
        refine (gcatch_none ⟨w.heap.size, 0, none⟩ ⟨w.heap.size + 1, 0, none⟩ _).mono ?_
        rintro e u' w5 ⟨rfl, rfl, rfl⟩
        refine ⟨_, results_two rfl _ _ w.heap.size (w.heap.size + 1) _ _ rfl rfl (load_row HRA.out Tryz.underlying59 rfl (by kernel_rfl)) (load_bool HRB.out), ?_⟩
        exact ⟨0, 0, [], none, 0, false, Or.inr ⟨HN2.out, rfl, rfl, rfl, rfl⟩, rfl, gnone_row _ _ _, HBf.out⟩
    · have HN : Hid (readGroup R s = none) := by unfold Hid readGroup; rw [hn]
      clear hn
      unfold lack
      go_wp2
      refine leaves_cons (f := 134) (args := #[.pointer (some ⟨w.heap.size, 0, none⟩), .pointer (some ⟨w.heap.size + 1, 0, none⟩)]) (by simp) (by simp [go_sem]) ?_
      refine (gcatch_some w.heap.size (w.heap.size + 1) u pv [] _ _ _ _ _ HA2.out HB2.out (by omega)).mono ?_
      rintro e u' w3 ⟨rfl, rfl, RA, RB, k3⟩
      refine ⟨_, results_two rfl _ w3 w.heap.size (w.heap.size + 1) _ _ rfl rfl (load_row RA Tryz.underlying59 rfl (by kernel_rfl)) (load_bool RB), ?_⟩
      exact ⟨0, 0, [], none, 0, false, Or.inr ⟨HN.out, rfl, rfl, rfl, rfl⟩, rfl, gnone_row _ _ _, HBw.out.trans (k3.below HBw.out.size (fun b hb x => by rcases x with x | x <;> omega))⟩

/-- A struct out of its own block, and a slot. -/
theorem gresults_one {P : Program} {fn : Func} {p q : Tmp} {ty : TypeId} (h : fn.results = #[.cell p ty, .tmp q]) (tmps : Array Value) (w : World) (g : Nat) (v b : Value)
    (hp : tmps.getD p undef = .pointer (some ⟨g, 0, none⟩)) (hq : tmps.getD q undef = b) (h1 : (loadVar ty ⟨g, 0, none⟩).run P w = .ok v w) :
    (results fn tmps).run P w = .ok (.tuple #[v, b]) w := by
  rw [results_cell_tmp h, hp, hq]
  simp [asAddr, h1]

set_option maxRecDepth 100000 in
set_option maxHeartbeats 2000000 in
theorem iReadGroup (R : ByteArray → Int × Nat) (hR : Reads R) (s : ByteArray) (hs : s.size ≤ 1048576) (w : World) (u : TypeId) (pv : Value) (hL : Lacks w u pv) (T : Sums w) :
    Calls Tryz.prog 63 #[.string s] w fun e w' => GroupOut R s w w' e := by
  have HR := hid hR
  have HL := hid hL
  have HT := hid T
  clear hR hL T
  go_enter Tryz.func63, Tryz.ntmps63
  go_wp2_with fail
  obtain ⟨wc, hwc, ec, A0, K0⟩ := one_new w [.int .i64 0, .int .i64 0, .slice none 0 0] 59
  simp only [hwc]
  clear hwc
  have HA := hid A0
  have HK := hid K0
  clear A0 K0
  refine (readKindGroup R HR.out s hs wc u pv (HL.out.kept (Kept.of_below (S := fun _ => False) HK.out) (fun x => x)) (HT.out.below HK.out)).mono ?_
  rintro r w1 ⟨h, e, l, a, cap, ok, hi, rfl, hI, b1⟩
  have HIs := hid hi
  have HI := hid hI
  have HA1 := hid (HA.out.below b1 HA.out.lt)
  have HB1 := hid (HK.out.trans (b1.mono HK.out.size))
  clear hi hI b1 HA
  have a0 := HA1.out.c 0 rfl
  have a1 := HA1.out.c 1 rfl
  have a2 := HA1.out.c 2 rfl
  have f0 := HA1.out.f 0
  have f1 := HA1.out.f 1
  have f2 := HA1.out.f 2
  have HRA := hid (((HA1.out.set 0 (.int .i64 h)).set 1 (.int .i64 e)).set 2 (.slice a l.length cap))
  have HBf := hid (below_set (below_set (below_set HB1.out w.heap.size 0 (.int .i64 h) (Nat.le_refl _)) w.heap.size 1 (.int .i64 e) (Nat.le_refl _)) w.heap.size 2 (.slice a l.length cap) (Nat.le_refl _))
  have HIf : Hid (Ir (((w1.setCell ⟨w.heap.size, 0, none⟩ (.int .i64 h)).setCell ⟨w.heap.size, 1, none⟩ (.int .i64 e)).setCell ⟨w.heap.size, 2, none⟩ (.slice a l.length cap)) w.heap.size (.slice a l.length cap) l) :=
    RowO.mono (RowO.kept HI.out (((kept_set _ _ _ _).trans (kept_set _ _ _ _)).trans (kept_set _ _ _ _)) (fun b hb x => by have := (RowO.lt HI.out hb).1; rcases x with (x | x) | x <;> omega)) (by omega)
  unfold gpV
  go_wp2
  refine bodyPost_ret (gresults_one rfl _ _ w.heap.size _ _ rfl rfl (load_row HRA.out Tryz.underlying59 rfl (by kernel_rfl))) rfl ?_
  exact ⟨h, e, l, a, cap, ok, HIs.out, rfl, HIf.out, HBf.out⟩

end Go.Proofs.YtogebppolkfldaaGreatDoor.Rd
