/-
  The walks of impl.hostParts, impl.readKind at a host's sector, and impl.ReadHost. Condition: the table of sixteen sums and the error of a part that lacks stand in their variables.
-/
import Derived.Test.YtogebppolkfldaaGreatDoorRdCur
import Derived.Test.YtogebppolkfldaaGreatDoorSecHost2
import Derived.Tactics
import Derived.Tactics2
import Derived.Defers
import Derived.Recover
namespace Go.Proofs.YtogebppolkfldaaGreatDoor.Rd
open Go.RowKit Go.Proofs.YtogebppolkfldaaGreatDoor.Mem Go.Proofs.YtogebppolkfldaaGreatDoor.Sec
set_option linter.unusedVariables false

theorem nums_cons {R : ByteArray → Int × Nat} {s : ByteArray} {i : Nat} (hq : (R (rest s i)).2 ≠ 0) : ∀ k, nums R s i (k + 1) = (nums R s (i + (R (rest s i)).2) k).map (fun p => ((R (rest s i)).1 :: p.1, p.2))
  | 0 => by
    rw [nums_step (l := []) (e := i) rfl, if_neg hq]; rfl
  | k + 1 => by
    conv => lhs; unfold nums
    rw [nums_cons hq k]
    conv => rhs; unfold nums
    cases nums R s (i + (R (rest s i)).2) k with
    | none => rfl
    | some p =>
      simp only [Option.map_some, Option.bind_some]
      split <;> simp

theorem nums_first {R : ByteArray → Int × Nat} {s : ByteArray} {i : Nat} (hq : (R (rest s i)).2 = 0) (k : Nat) : nums R s i (k + 1) = none := by
  have := nums_none (R := R) (s := s) (i := i) (k := 1) (by rw [nums_step (l := []) (e := i) rfl, if_pos hq]) k
  rwa [Nat.add_comm 1 k] at this

set_option maxRecDepth 100000 in
set_option maxHeartbeats 2000000 in
theorem hostParts (R : ByteArray → Int × Nat) (hR : Reads R) (s : ByteArray) (hs : s.size ≤ 1048576) (i : Nat) (w : World) (c : Nat) (h : Cur w c (rest s i)) (u : TypeId) (pv : Value) (hL : Lacks w u pv) (hc : 1 < c) :
    Calls Tryz.prog 144 #[.pointer (some ⟨c, 0, none⟩)] w fun e w' => (∃ b x y z, nums R s i 3 = some ([b, x, y], z) ∧ e = .returned (hsV b (x - 1) y) ∧ Kept (fun b => b = c) w w') ∨ (nums R s i 3 = none ∧ e = lack u pv ∧ Kept (fun b => b = c) w w') := by
  have HR := hid hR
  have HH := hid h
  have HL := hid hL
  have hlt := h.lt
  clear hR h hL
  go_enter Tryz.func144, Tryz.ntmps144
  go_wp2_with fail
  obtain ⟨wl, hwl, ez, A0, B0⟩ := one_new w [.int .i64 0, .int .i64 0, .int .i64 0] 140
  simp only [hwl]
  have HA := hid A0
  have HKl : Hid (Kept (fun b => b = c) w wl) := (Kept.of_below B0)
  have HLl := hid (HL.out.kept (Kept.of_below (S := fun _ => False) B0) (fun x => x))
  have HHl := hid (HH.out.below B0)
  clear hwl A0 B0
  refine (number R HR.out s hs i wl c HHl.out u pv HLl.out).mono ?_
  rintro e w1 (⟨hq, rfl, M1⟩ | ⟨hq, rfl, hw⟩)
  · have HN := hid (nums_cons hq 2)
    have HM1 := hid M1
    have HL1 := hid (HLl.out.kept M1.2 (by omega))
    have HA1 := hid (HA.out.kept M1.2 (by omega))
    have HK1 : Hid (Kept (fun b => b = c) w w1) := (HKl.out.trans M1.2).mono (fun b _ x => by rcases x with x | x <;> exact x)
    have hs1 := M1.2.size
    clear M1 hq
    generalize (R (rest s i)).1 = b at *
    generalize i + (R (rest s i)).2 = i2 at *
    go_wp2_with fail
    refine (lease R HR.out s hs i2 w1 c HM1.out.1 u pv HL1.out hc).mono ?_
    rintro e w2 (⟨x, y, z, hn, rfl, M2⟩ | ⟨hn, rfl, k2⟩)
    · have HN3 : Hid (nums R s i 3 = some ([b, x, y], z)) := by rw [Hid, HN.out, hn]; rfl
      have HA2 := hid (HA1.out.kept M2.2 (by omega))
      have HK2 : Hid (Kept (fun b => b = c) w w2) := (HK1.out.trans M2.2).mono (fun b _ x => by rcases x with x | x <;> exact x)
      clear M2 hn HN
      have c0 := HA2.out.c 0 rfl
      have c1 := HA2.out.c 1 rfl
      have c2 := HA2.out.c 2 rfl
      have f0 := HA2.out.f 0
      have f1 := HA2.out.f 1
      have f2 := HA2.out.f 2
      have HRw := hid (((HA2.out.set 0 (.int .i64 b)).set 1 (.int .i64 (x - 1))).set 2 (.int .i64 y))
      have HKf : Hid (Kept (fun b => b = c) w (((w2.setCell ⟨w.heap.size, 0, none⟩ (.int .i64 b)).setCell ⟨w.heap.size, 1, none⟩ (.int .i64 (x - 1))).setCell ⟨w.heap.size, 2, none⟩ (.int .i64 y))) :=
        (((HK2.out.trans (kept_set _ _ _ _)).trans (kept_set _ _ _ _)).trans (kept_set _ _ _ _)).mono (fun b hb x => by rcases x with ((x | x) | x) | x; exact x; omega; omega; omega)
      go_wp2
      refine bodyPost_ret (results_row rfl _ _ w.heap.size [.int .i64 b, .int .i64 (x - 1), .int .i64 y] _ rfl HRw.out Tryz.underlying140 rfl (by kernel_rfl)) rfl ?_
      exact Or.inl ⟨b, x, y, z, HN3.out, rfl, HKf.out⟩
    · have HN3 : Hid (nums R s i 3 = none) := by rw [Hid, HN.out, hn]; rfl
      have HK2 : Hid (Kept (fun b => b = c) w w2) := (HK1.out.trans k2).mono (fun b _ x => by rcases x with x | x <;> exact x)
      clear hn k2
      unfold lack
      go_wp2
      exact ⟨rfl, Or.inr ⟨HN3.out, rfl, HK2.out⟩⟩
  · have HN3 : Hid (nums R s i 3 = none) := nums_first hq 2
    obtain rfl := hw.symm
    clear hq hw
    unfold lack
    go_wp2
    exact ⟨rfl, Or.inr ⟨HN3.out, rfl, HKl.out⟩⟩

/-- What a host's sector is read as. -/
def readHost (R : ByteArray → Int × Nat) (s : ByteArray) : Option (Int × Int × Int) :=
  match nums R s 5 3 with
  | some ([b, x, y], _) => if showHost b (x - 1) y = s then some (b, x - 1, y) else none
  | _ => none

set_option maxRecDepth 100000 in
set_option maxHeartbeats 1000000 in
theorem catch_some (p q : Nat) (u : TypeId) (pv : Value) (older : List PanicEntry) (w : World) (a0 a1 a2 b0 : Value) (hp : Row w p [a0, a1, a2]) (hq : Row w q [b0]) (hpq : p ≠ q) :
    CallsD Tryz.prog 164 #[.pointer (some ⟨p, 0, none⟩), .pointer (some ⟨q, 0, none⟩)] (.panicking ({ v := .iface u pv, recovered := false } :: older)) w fun e u' w' =>
      e = .returned (.tuple #[]) ∧ u' = .panicking ({ v := .iface u pv, recovered := true } :: older) ∧ Row w' p [.int .i64 0, .int .i64 0, .int .i64 0] ∧ Row w' q [.bool false] ∧ Kept (fun b => b = p ∨ b = q) w w' := by
  refine callsD_of_wpS Tryz.func164 rfl fun c₀ cs hu => ?_
  obtain ⟨wl, hwl, ez, Z0, B0⟩ := one_new w [.int .i64 0, .int .i64 0, .int .i64 0] 140
  have hpl := hp.lt
  have hql := hq.lt
  have P0 := hp.below B0 hp.lt
  have Q0 := hq.below B0 hq.lt
  have z0 := Z0.c 0 rfl
  have z1 := Z0.c 1 rfl
  have z2 := Z0.c 2 rfl
  have p0 := P0.c 0 rfl
  have p1 := P0.c 1 rfl
  have p2 := P0.c 2 rfl
  have q0 := Q0.c 0 rfl
  have f0 := P0.f 0
  have f1 := P0.f 1
  have f2 := P0.f 2
  have g0 := Q0.f 0
  have HP := hid ((((P0.set 0 (.int .i64 0)).set 1 (.int .i64 0)).set 2 (.int .i64 0)).other (p := ⟨q, 0, none⟩) (by show p ≠ q; exact hpq) (.bool false))
  have HQ := hid ((((Q0.other (p := ⟨p, 0, none⟩) (by show q ≠ p; exact fun e => hpq e.symm) (.int .i64 0)).other (p := ⟨p, 1, none⟩) (by show q ≠ p; exact fun e => hpq e.symm) (.int .i64 0)).other (p := ⟨p, 2, none⟩) (by show q ≠ p; exact fun e => hpq e.symm) (.int .i64 0)).set 0 (.bool false))
  have HK : Hid (Kept (fun b => b = p ∨ b = q) w ((((wl.setCell ⟨p, 0, none⟩ (.int .i64 0)).setCell ⟨p, 1, none⟩ (.int .i64 0)).setCell ⟨p, 2, none⟩ (.int .i64 0)).setCell ⟨q, 0, none⟩ (.bool false))) :=
    (((((Kept.of_below (S := fun _ => False) B0).trans (kept_set _ _ _ _)).trans (kept_set _ _ _ _)).trans (kept_set _ _ _ _)).trans (kept_set _ _ _ _)).mono (fun b _ x => by rcases x with (((x | x) | x) | x) | x; cases x; exact Or.inl x; exact Or.inl x; exact Or.inl x; exact Or.inr x)
  clear hp hq P0 Q0 Z0 B0
  apply wpS_seq
  apply wpS_region
  simp [wpOpsS, go_sem, recoverD, hu, Tryz.ntmps164, Exit.thenS]
  refine wpS_cond (t := true) (by simp [Act.eval, Array.replicate]) ?_
  simp only [if_true]
  refine wpS_of_wp ?_
  go_wp2
  simp [bodyPostS, results, Tryz.results164]
  exact ⟨HP.out, HQ.out, HK.out⟩

set_option maxRecDepth 100000 in
set_option maxHeartbeats 1000000 in
theorem catch_none (p q : Addr) (w : World) :
    CallsD Tryz.prog 164 #[.pointer (some p), .pointer (some q)] .returning w fun e u' w' => e = .returned (.tuple #[]) ∧ u' = .returning ∧ w' = w := by
  refine callsD_of_wpS Tryz.func164 rfl fun c₀ cs hu => ?_
  apply wpS_seq
  apply wpS_region
  simp [wpOpsS, go_sem, recoverD, hu, Tryz.ntmps164, Exit.thenS]
  refine wpS_cond (t := false) (by simp [Act.eval, Array.replicate]) ?_
  simp only [Bool.false_eq_true, if_false]
  refine wpS_of_wp (wp_skip ?_)
  cases c₀
  simp_all [bodyPostS, results, Tryz.results164]

theorem load_row {P : Program} {w : World} {g : Nat} {xs : List Value} (hr : Row w g xs) {ty : TypeId} {d : TypeDesc} (hu : P.underlying ty = some d) (hd : (match d with | .struct _ | .array _ _ => true | _ => false) = true) (hi : (P.info? ty).map (·.size) = some xs.length) :
    (loadVar ty ⟨g, 0, none⟩).run P w = .ok (.agg xs.toArray) w := by
  obtain ⟨t, hg⟩ := hr
  exact run_loadVar_row w g t ty xs.toArray (0, 0) d hg hu hd (by simpa using hi)

theorem load_bool {w : World} {k : Nat} {b : Bool} (hb : Row w k [.bool b]) : (loadVar 4 ⟨k, 0, none⟩).run Tryz.prog w = .ok (.bool b) w := by
  have hc := hb.c 0 rfl
  simp [go_sem, hc]

/-- Two results that are handed back out of their own blocks. -/
theorem results_two {fn : Func} {p q : Tmp} {ty tb : TypeId} (h : fn.results = #[.cell p ty, .cell q tb]) (tmps : Array Value) (w : World) (g k : Nat) (v b : Value)
    (hp : tmps.getD p undef = .pointer (some ⟨g, 0, none⟩)) (hq : tmps.getD q undef = .pointer (some ⟨k, 0, none⟩)) (h1 : (loadVar ty ⟨g, 0, none⟩).run Tryz.prog w = .ok v w) (h2 : (loadVar tb ⟨k, 0, none⟩).run Tryz.prog w = .ok b w) :
    (results fn tmps).run Tryz.prog w = .ok (.tuple #[v, b]) w := by
  have hp' : tmps[p]?.getD undef = .pointer (some ⟨g, 0, none⟩) := by simpa using hp
  have hq' : tmps[q]?.getD undef = .pointer (some ⟨k, 0, none⟩) := by simpa using hq
  simp [results, h, hp', hq', asAddr, h1, h2]

theorem three_any (w : World) (xs ys zs : List Value) (t u v : TypeId) :
    ∃ wc, ((w.alloc (.cells xs.toArray t)).alloc (.cells ys.toArray u)).alloc (.cells zs.toArray v) = wc ∧ wc.heap.size = w.heap.size + 1 + 1 + 1 ∧
      Row wc w.heap.size xs ∧ Row wc (w.heap.size + 1) ys ∧ wc.heap[w.heap.size + 1 + 1]? = some (.cells zs.toArray v (0, 0)) ∧ Below w.heap.size w wc := by
  have e0 : (w.alloc (.cells xs.toArray t)).heap.size = w.heap.size + 1 := by simp
  have e1 : ((w.alloc (.cells xs.toArray t)).alloc (.cells ys.toArray u)).heap.size = w.heap.size + 1 + 1 := by simp
  have r1 := Row.new (w.alloc (.cells xs.toArray t)) ys u
  have r2 := heap_alloc_new ((w.alloc (.cells xs.toArray t)).alloc (.cells ys.toArray u)) (.cells zs.toArray v (0, 0))
  rw [e0] at r1
  rw [e1] at r2
  exact ⟨_, rfl, by simp, ((Row.new w xs t).alloc _).alloc _, r1.alloc _, r2, (((Below.refl _ _).alloc (Nat.le_refl _) _).alloc (by omega) _).alloc (by omega) _⟩

theorem nums_short (R : ByteArray → Int × Nat) (hR : Reads R) (s : ByteArray) (h : s.size ≤ 5) (hs : s.size ≤ 1048576) (k : Nat) : nums R s 5 (k + 1) = none := by
  refine nums_first ?_ k
  have := (hR (rest s 5) (by rw [rest_size]; unfold maxLen; omega)).le
  rw [rest_size] at this; omega

theorem readHost_short (R : ByteArray → Int × Nat) (hR : Reads R) (s : ByteArray) (h : s.size ≤ 5) (hs : s.size ≤ 1048576) : readHost R s = none := by
  unfold readHost; rw [nums_short R hR s h hs 2]

set_option maxRecDepth 100000 in
set_option maxHeartbeats 2000000 in
theorem readKindHost (R : ByteArray → Int × Nat) (hR : Reads R) (s : ByteArray) (hs : s.size ≤ 1048576) (w : World) (u : TypeId) (pv : Value) (hL : Lacks w u pv) (T : Sums w) :
    Calls Tryz.prog 143 #[.string s, .func (.func 144) #[] #[], .func (.func 145) #[] #[]] w fun e w' => (∃ b x y, readHost R s = some (b, x, y) ∧ e = .returned (.tuple #[hsV b x y, .bool true]) ∧ Below w.heap.size w w') ∨ (readHost R s = none ∧ e = .returned (.tuple #[hsV 0 0 0, .bool false]) ∧ Below w.heap.size w w') := by
  have hmf : ∀ (fn : Fn) (first cap : Array Value) (w : World), (Instr.makeFunc fn first cap).run Tryz.prog w = .ok (.func fn first cap) w := fun _ _ _ _ => rfl
  have HR := hid hR
  have HL := hid hL
  have HT := hid T
  clear hR hL T
  go_enter_defers Tryz.func143, Tryz.ntmps143
  go_wp2_with fail
  obtain ⟨wc, hwc, ec, A0, B0, C0, K0⟩ := three_any w [.int .i64 0, .int .i64 0, .int .i64 0] [.bool false] [.string s] 140 4 192
  simp only [hwc]
  clear hwc
  have HA := hid A0
  have HBq := hid B0
  have HKc := hid K0
  have HLc := hid (HL.out.kept (Kept.of_below (S := fun _ => False) K0) (fun x => x))
  have HTc := hid (HT.out.below K0)
  have HCu : Hid (Cur wc (w.heap.size + 1 + 1) s) := C0
  have hgl := HL.out.lt
  clear A0 B0 C0 K0
  by_cases h5 : (s.size : Int) < 5
  · have HN : Hid (readHost R s = none) := readHost_short R HR.out s (by omega) hs
    refine (take_no wc (w.heap.size + 1 + 1) s 5 HCu.out h5 u pv HLc.out).mono ?_
    rintro e w1 ⟨rfl, hw⟩
    obtain rfl := hw.symm
    unfold lack
    go_wp2
    refine leaves_cons (f := 164) (args := #[.pointer (some ⟨w.heap.size, 0, none⟩), .pointer (some ⟨w.heap.size + 1, 0, none⟩)]) (by simp) (by simp [go_sem]) ?_
    refine (catch_some w.heap.size (w.heap.size + 1) u pv [] _ _ _ _ _ HA.out HBq.out (by omega)).mono ?_
    rintro e u' w2 ⟨rfl, rfl, RA, RB, k2⟩
    refine ⟨_, results_two rfl _ w2 w.heap.size (w.heap.size + 1) _ _ rfl rfl (load_row RA Tryz.underlying140 rfl (by kernel_rfl)) (load_bool RB), ?_⟩
    exact Or.inr ⟨HN.out, rfl, HKc.out.trans (k2.below HKc.out.size (fun b hb x => by rcases x with x | x <;> omega))⟩
  · have h5n : 5 ≤ s.size := by omega
    have HRR : Hid (s.extract 5 s.size = rest s 5) := rfl
    refine (take_yes wc (w.heap.size + 1 + 1) s 5 HCu.out h5n hs).mono ?_
    rintro e w1 ⟨rfl, hw⟩
    have M1 : Moved wc w1 (w.heap.size + 1 + 1) (rest s 5) := by rw [hw, ← HRR.out]; exact moved_set HCu.out _
    have HA1 := hid (HA.out.kept M1.2 (by omega))
    have HB1 := hid (HBq.out.kept M1.2 (by omega))
    have HL1 := hid (HLc.out.kept M1.2 (by omega))
    have HM1 := hid M1
    clear hw M1
    go_wp2_with fail
    refine (hostParts R HR.out s hs 5 w1 (w.heap.size + 1 + 1) HM1.out.1 u pv HL1.out (by omega)).mono ?_
    rintro e w2 (⟨b, x, y, z, hn, rfl, k2⟩ | ⟨hn, rfl, k2⟩)
    · have HN := hid hn
      have HA2 := hid (HA1.out.kept k2 (by omega))
      have HB2 := hid (HB1.out.kept k2 (by omega))
      have k12 : Kept (fun b => b = w.heap.size + 1 + 1) wc w2 := (HM1.out.2.trans k2).mono (fun b _ x => by rcases x with x | x <;> exact x)
      have HBw : Hid (Below w.heap.size w w2) := HKc.out.trans (k12.below HKc.out.size (fun b hb x => by omega))
      have HT2 := hid (HT.out.below HBw.out)
      have hs2 : w.heap.size + 1 + 1 < w2.heap.size := by have := k12.size; omega
      clear hn k2 k12 HM1 HL1 HA1 HB1
      have HV : Hid (hsV b (x - 1) y = .agg #[.int .i64 b, .int .i64 (x - 1), .int .i64 y]) := rfl
      rw [HV.out]
      go_wp2_with fail
      obtain ⟨w3, hw3, ez3, D3, B3⟩ := one_new w2 [.int .i64 b, .int .i64 (x - 1), .int .i64 y] 140
      simp only [hw3]
      have HA3 := hid (HA2.out.below B3 HA2.out.lt)
      have HB3 := hid (HB2.out.below B3 HB2.out.lt)
      have HD3 := hid D3
      have HBw3 := hid (HBw.out.trans (B3.mono HBw.out.size))
      have HT3 := hid (HT2.out.below B3)
      clear hw3 D3 B3 HA2 HB2 HBw HT2
      refine (iShowHost b (x - 1) y w3 HT3.out).mono ?_
      rintro e w4 ⟨rfl, b4⟩
      have HA4 := hid (HA3.out.below b4 HA3.out.lt)
      have HB4 := hid (HB3.out.below b4 HB3.out.lt)
      have HD4 := hid (HD3.out.below b4 HD3.out.lt)
      have HBw4 := hid (HBw3.out.trans (b4.mono HBw3.out.size))
      clear b4 HA3 HB3 HD3 HBw3 HT3
      have a0 := HA4.out.c 0 rfl
      have a1 := HA4.out.c 1 rfl
      have a2 := HA4.out.c 2 rfl
      have q0 := HB4.out.c 0 rfl
      have d0 := HD4.out.c 0 rfl
      have d1 := HD4.out.c 1 rfl
      have d2 := HD4.out.c 2 rfl
      have fa0 := HA4.out.f 0
      have fa1 := HA4.out.f 1
      have fa2 := HA4.out.f 2
      have fq := HB4.out.f 0
      by_cases hsh : showHost b (x - 1) y = s
      · have HN2 : Hid (readHost R s = some (b, x - 1, y)) := by unfold Hid readHost; rw [HN.out]; simp only []; rw [if_pos hsh]
        have hne := Own.eqS_yes hsh
        generalize showHost b (x - 1) y = sh at *
        have HRA := hid (((((HA4.out).set 0 (.int .i64 b)).set 1 (.int .i64 (x - 1))).set 2 (.int .i64 y)).other (p := ⟨w.heap.size + 1, 0, none⟩) (by show w.heap.size ≠ w.heap.size + 1; omega) (.bool true))
        have HRB := hid (((((HB4.out).other (p := ⟨w.heap.size, 0, none⟩) (by show w.heap.size + 1 ≠ w.heap.size; omega) (.int .i64 b)).other (p := ⟨w.heap.size, 1, none⟩) (by show w.heap.size + 1 ≠ w.heap.size; omega) (.int .i64 (x - 1))).other (p := ⟨w.heap.size, 2, none⟩) (by show w.heap.size + 1 ≠ w.heap.size; omega) (.int .i64 y)).set 0 (.bool true))
        have HBf := hid (below_set (below_set (below_set (below_set (HBw4.out) w.heap.size 0 (.int .i64 b) (Nat.le_refl _)) w.heap.size 1 (.int .i64 (x - 1)) (Nat.le_refl _)) w.heap.size 2 (.int .i64 y) (Nat.le_refl _)) (w.heap.size + 1) 0 (.bool true) (by omega))
        go_wp2
        refine leaves_cons (f := 164) (args := #[.pointer (some ⟨w.heap.size, 0, none⟩), .pointer (some ⟨w.heap.size + 1, 0, none⟩)]) (by simp) (by simp [go_sem]) ?_
        refine (catch_none ⟨w.heap.size, 0, none⟩ ⟨w.heap.size + 1, 0, none⟩ _).mono ?_
        rintro e u' w5 ⟨rfl, rfl, rfl⟩
        refine ⟨_, results_two rfl _ _ w.heap.size (w.heap.size + 1) _ _ rfl rfl (load_row HRA.out Tryz.underlying140 rfl (by kernel_rfl)) (load_bool HRB.out), ?_⟩
        exact Or.inl ⟨b, x - 1, y, HN2.out, rfl, HBf.out⟩
      · have HN2 : Hid (readHost R s = none) := by unfold Hid readHost; rw [HN.out]; simp only []; rw [if_neg hsh]
        have hne := Own.eqS_no hsh
        generalize showHost b (x - 1) y = sh at *
        have HRA := hid (((((HA4.out).set 0 (.int .i64 0)).set 1 (.int .i64 0)).set 2 (.int .i64 0)).other (p := ⟨w.heap.size + 1, 0, none⟩) (by show w.heap.size ≠ w.heap.size + 1; omega) (.bool false))
        have HRB := hid (((((HB4.out).other (p := ⟨w.heap.size, 0, none⟩) (by show w.heap.size + 1 ≠ w.heap.size; omega) (.int .i64 0)).other (p := ⟨w.heap.size, 1, none⟩) (by show w.heap.size + 1 ≠ w.heap.size; omega) (.int .i64 0)).other (p := ⟨w.heap.size, 2, none⟩) (by show w.heap.size + 1 ≠ w.heap.size; omega) (.int .i64 0)).set 0 (.bool false))
        have HBf := hid (below_set (below_set (below_set (below_set (HBw4.out) w.heap.size 0 (.int .i64 0) (Nat.le_refl _)) w.heap.size 1 (.int .i64 0) (Nat.le_refl _)) w.heap.size 2 (.int .i64 0) (Nat.le_refl _)) (w.heap.size + 1) 0 (.bool false) (by omega))
        go_wp2
        refine leaves_cons (f := 164) (args := #[.pointer (some ⟨w.heap.size, 0, none⟩), .pointer (some ⟨w.heap.size + 1, 0, none⟩)]) (by simp) (by simp [go_sem]) ?_
        refine (catch_none ⟨w.heap.size, 0, none⟩ ⟨w.heap.size + 1, 0, none⟩ _).mono ?_
        rintro e u' w5 ⟨rfl, rfl, rfl⟩
        refine ⟨_, results_two rfl _ _ w.heap.size (w.heap.size + 1) _ _ rfl rfl (load_row HRA.out Tryz.underlying140 rfl (by kernel_rfl)) (load_bool HRB.out), ?_⟩
        exact Or.inr ⟨HN2.out, rfl, HBf.out⟩
    · have HN : Hid (readHost R s = none) := by unfold Hid readHost; rw [hn]
      have HA2 := hid (HA1.out.kept k2 (by omega))
      have HB2 := hid (HB1.out.kept k2 (by omega))
      have k12 : Kept (fun b => b = w.heap.size + 1 + 1) wc w2 := (HM1.out.2.trans k2).mono (fun b _ x => by rcases x with x | x <;> exact x)
      have HBw : Hid (Below w.heap.size w w2) := HKc.out.trans (k12.below HKc.out.size (fun b hb x => by omega))
      clear hn k2 k12
      unfold lack
      go_wp2
      refine leaves_cons (f := 164) (args := #[.pointer (some ⟨w.heap.size, 0, none⟩), .pointer (some ⟨w.heap.size + 1, 0, none⟩)]) (by simp) (by simp [go_sem]) ?_
      refine (catch_some w.heap.size (w.heap.size + 1) u pv [] _ _ _ _ _ HA2.out HB2.out (by omega)).mono ?_
      rintro e u' w3 ⟨rfl, rfl, RA, RB, k3⟩
      refine ⟨_, results_two rfl _ w3 w.heap.size (w.heap.size + 1) _ _ rfl rfl (load_row RA Tryz.underlying140 rfl (by kernel_rfl)) (load_bool RB), ?_⟩
      exact Or.inr ⟨HN.out, rfl, HBw.out.trans (k3.below HBw.out.size (fun b hb x => by rcases x with x | x <;> omega))⟩

end Go.Proofs.YtogebppolkfldaaGreatDoor.Rd
