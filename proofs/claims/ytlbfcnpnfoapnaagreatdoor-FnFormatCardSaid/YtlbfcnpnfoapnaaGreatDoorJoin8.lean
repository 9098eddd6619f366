/-
  The walk of laws.FnFormat: the law answers true, and nothing that was there is changed. Condition: a code of at most 2^20 bytes; the tables of sixteen sums and of the kinds' sizes and the error of a part that lacks stand in their variables.
-/
import Derived.Test.YtlbfcnpnfoapnaaGreatDoorJoin5
import Derived.Test.YtlbfcnpnfoapnaaGreatDoorJoin6
import Derived.Test.YtlbfcnpnfoapnaaGreatDoorJoin4
import Derived.Test.YtlbfcnpnfoapnaaGreatDoorJoin7
namespace Go.Proofs.YtlbfcnpnfoapnaaGreatDoor.Ff
open Go.RowKit Go.Proofs.YtlbfcnpnfoapnaaGreatDoor.Mem Go.Proofs.YtlbfcnpnfoapnaaGreatDoor.Sec Go.Proofs.YtlbfcnpnfoapnaaGreatDoor.Rd Go.Proofs.YtlbfcnpnfoapnaaGreatDoor.Pk Go.Proofs.YtlbfcnpnfoapnaaGreatDoor.Pl Go.Proofs.YtlbfcnpnfoapnaaGreatDoor.Tr Go.Proofs.YtlbfcnpnfoapnaaGreatDoor.Ab Go.Proofs.YtlbfcnpnfoapnaaGreatDoor.Rg
open Go.Proofs.YtlbfcnpnfoapnaaGreatDoor.Fm (fmt fmt_length iFormat)
set_option linter.unusedVariables false

theorem sec_all : ∀ n : Nat, n < 8 → ∀ m : Nat, m < 21 → -1 ≤ Sector.sectorOf ((n : Int) - 1) ((m : Int) - 1) ∧ Sector.sectorOf ((n : Int) - 1) ((m : Int) - 1) ≤ 33 := by decide +kernel
theorem sec_bd {k i : Int} (hk : -1 ≤ k ∧ k ≤ 6) (hi : -1 ≤ i ∧ i ≤ 19) : -1 ≤ Sector.sectorOf k i ∧ Sector.sectorOf k i ≤ 33 := by
  have h := sec_all (k + 1).toNat (by omega) (i + 1).toNat (by omega)
  rw [show (((k + 1).toNat : Nat) : Int) - 1 = k by omega, show (((i + 1).toNat : Nat) : Int) - 1 = i by omega] at h
  exact h

def uni (n m p q : Nat) : Bool := decide (Sector.sectorOf ((p : Int) - 1) ((q : Int) - 1) = -1) || !decide (Sector.sectorOf ((p : Int) - 1) ((q : Int) - 1) = Sector.sectorOf (n : Int) (m : Int)) || (decide ((p : Int) - 1 = n) && decide ((q : Int) - 1 = m))
theorem uni_all : ((List.range 6).all fun n => (List.range 18).all fun m => (List.range 8).all fun p => (List.range 21).all fun q => uni n m p q) = true := by decide +kernel
theorem sec_uni (n : Nat) (hn : n < 6) (m : Nat) (hm : m < 18) (p : Nat) (hp : p < 8) (q : Nat) (hq : q < 21) : Sector.sectorOf ((p : Int) - 1) ((q : Int) - 1) = -1 ∨ Sector.sectorOf ((p : Int) - 1) ((q : Int) - 1) ≠ Sector.sectorOf (n : Int) (m : Int) ∨ ((p : Int) - 1 = n ∧ (q : Int) - 1 = m) := by
  have h := uni_all
  rw [List.all_eq_true] at h
  have h := h n (List.mem_range.2 hn)
  rw [List.all_eq_true] at h
  have h := h m (List.mem_range.2 hm)
  rw [List.all_eq_true] at h
  have h := h p (List.mem_range.2 hp)
  rw [List.all_eq_true] at h
  have h := h q (List.mem_range.2 hq)
  unfold uni at h
  rw [Bool.or_eq_true, Bool.or_eq_true, Bool.and_eq_true] at h
  rcases h with (h | h) | h
  · exact Or.inl (of_decide_eq_true h)
  · exact Or.inr (Or.inl (of_decide_eq_false (by simpa using h)))
  · exact Or.inr (Or.inr ⟨of_decide_eq_true h.1, of_decide_eq_true h.2⟩)

theorem sec_inj {n m : Nat} {k i : Int} (hn : n < 6) (hm : m < 18) (h1 : Sector.sectorOf k i ≠ -1) (h : Sector.sectorOf k i = Sector.sectorOf (n : Int) (m : Int)) (hk : -1 ≤ k ∧ k ≤ 6) (hi : -1 ≤ i ∧ i ≤ 19) : k = n ∧ i = m := by
  have hall := sec_uni
  have h9 := hall n hn m hm (k + 1).toNat (by omega) (i + 1).toNat (by omega)
  rw [show (((k + 1).toNat : Nat) : Int) - 1 = k by omega, show (((i + 1).toNat : Nat) : Int) - 1 = i by omega] at h9
  rcases h9 with h9 | h9 | h9
  · exact absurd h9 h1
  · exact absurd h h9
  · exact h9

theorem call_new (vs : Array Value) (w : World) : (callFunc 31 vs).run Tryz.prog w = .ok (.enter 31 vs) w := by simp [go_sem]
theorem call_same (vs : Array Value) (w : World) : (callFunc 30 vs).run Tryz.prog w = .ok (.enter 30 vs) w := by simp [go_sem]
theorem call_refs (vs : Array Value) (w : World) : (callFunc 17 vs).run Tryz.prog w = .ok (.enter 17 vs) w := by simp [go_sem]
theorem call_at (vs : Array Value) (w : World) : (callFunc 26 vs).run Tryz.prog w = .ok (.enter 26 vs) w := by simp [go_sem]

/-- The one value that isn't fixed: a new pool. -/
theorem sp_grow (i : Nat) (p : Value → World → Prop) (hp : (if i = 3 then some (fun V w => ∃ a3 c3 M3, V = .agg #[.slice a3 (M3 : List Pv).length c3] ∧ Pvs w a3 M3 ∧ M3.map Pv.data = List.replicate 4 noneD) else none) = some p) (x : Value) (w w' : World) (hx : p x w) (hb : Below w.heap.size w w') : p x w' := by
  by_cases h : i = 3
  · rw [if_pos h] at hp
    cases hp
    obtain ⟨a3, c3, M3, h1, h2, h3⟩ := hx
    exact ⟨a3, c3, M3, h1, h2.below hb, h3⟩
  · rw [if_neg h] at hp
    cases hp

set_option maxRecDepth 100000 in
set_option maxHeartbeats 8000000 in
theorem lawFormat (w : World) (a : Option Addr) (len cap : Nat) (zs : List Int) (C : Draw.Code w a len cap zs) (u : TypeId) (pv : Value) (hL : Lacks w u pv) (T : Sums w) (K : Sector.Kinds w) (hg : 0 < w.heap.size) :
    Calls Tryz.prog 6 #[.slice a len cap] w fun e w' => e = .returned (.bool true) ∧ Below w.heap.size w w' := by
  obtain ⟨R, hR, hTx, hLow⟩ := reads_ex3
  have HR := hid hR
  have HTx := hid hTx
  have HLow := hid hLow
  have HC := hid C
  have hlen := C.hb
  have HLk := hid hL
  have HT := hid T
  have HK := hid K
  have HG := hid hg
  clear hR hTx hLow C hL T K hg
  have HAt : Hid (∀ (i : Nat) (w' : World), i ≤ 1000 → Below w.heap.size w w' → Calls Tryz.prog 26 #[.slice a len cap, .int .i64 (i : Int)] w' fun e w'' => e = .returned (.int .i64 (atV zs len i : Int)) ∧ w'' = w') := fun i w' hi b => atF w' a len cap zs (HC.out.below b) i hi
  obtain ⟨x1, hx1⟩ : ∃ x, atV zs len 1 = x := ⟨_, rfl⟩
  obtain ⟨x2, hx2⟩ : ∃ x, atV zs len 2 = x := ⟨_, rfl⟩
  have HAt1 : Hid (∀ (w' : World), Below w.heap.size w w' → Calls Tryz.prog 26 #[.slice a len cap, .int .i64 1] w' fun e w'' => e = .returned (.int .i64 (x1 : Int)) ∧ w'' = w') := fun w' b => by have := HAt.out 1 w' (by decide) b; rw [hx1] at this; exact this
  have HAt2 : Hid (∀ (w' : World), Below w.heap.size w w' → Calls Tryz.prog 26 #[.slice a len cap, .int .i64 2] w' fun e w'' => e = .returned (.int .i64 (x2 : Int)) ∧ w'' = w') := fun w' b => by have := HAt.out 2 w' (by decide) b; rw [hx2] at this; exact this
  clear hx1 hx2 HAt
  obtain ⟨n, hn⟩ : ∃ n, x1 % 6 = n := ⟨_, rfl⟩
  obtain ⟨m, hm⟩ : ∃ m, x2 % 18 = m := ⟨_, rfl⟩
  have r1 : Int.tmod (x1 : Int) 6 = (n : Int) := by rw [Int.tmod_eq_emod_of_nonneg (by omega)]; omega
  have r2 : Int.tmod (x2 : Int) 18 = (m : Int) := by rw [Int.tmod_eq_emod_of_nonneg (by omega)]; omega
  have hn6 : n < 6 := by omega
  have hm18 : m < 18 := by omega
  have s1 : IntKind.i64.wrap (n : Int) = (n : Int) := by rw [IntKind.wrap_i64]; omega
  have s2 : IntKind.i64.wrap (m : Int) = (m : Int) := by rw [IntKind.wrap_i64]; omega
  clear hn hm
  go_enter Tryz.func6, Tryz.ntmps6
  go_wp2_with fail
  refine (bigF w a len cap (by unfold maxLen; omega)).mono ?_
  rintro e w1 ⟨rfl, hw1⟩
  obtain rfl := hw1.symm
  have hdec : decide (1048576 < (len : Int)) = false := decide_eq_false (by omega)
  rw [hdec]
  clear hdec
  go_wp2_with fail
  refine (drawSector w a len cap zs HC.out).mono ?_
  rintro e w2 ⟨k, i, hk, hi, rfl, b2⟩
  have HB2 := hid b2
  clear b2
  have HKI := hid (And.intro hk hi)
  have hsb := sec_bd hk hi
  go_wp2_with fail
  refine (Sector.impl_sector k i w2 (kinds_below HK.out HG.out HB2.out)).mono ?_
  rintro e w3 ⟨rfl, hw3⟩
  obtain rfl := hw3.symm
  clear hk hi
  obtain ⟨A, hA⟩ : ∃ A, Sector.sectorOf k i = A := ⟨_, rfl⟩
  rw [hA] at hsb ⊢
  have HA := hid hA
  clear hA
  go_wp2_with fail
  refine (HAt1.out w2 HB2.out).mono ?_
  rintro e w3 ⟨rfl, hw3⟩
  obtain rfl := hw3.symm
  go_wp2_with fail
  refine (HAt2.out w2 HB2.out).mono ?_
  rintro e w3 ⟨rfl, hw3⟩
  obtain rfl := hw3.symm
  go_wp2_with fail
  refine (Sector.impl_sector (n : Int) (m : Int) w2 (kinds_below HK.out HG.out HB2.out)).mono ?_
  rintro e w3 ⟨rfl, hw3⟩
  obtain rfl := hw3.symm
  obtain ⟨B, hB⟩ : ∃ B, Sector.sectorOf (n : Int) (m : Int) = B := ⟨_, rfl⟩
  rw [hB]
  have HB := hid hB
  clear hB
  go_wp2_with fail
  refine (iFormat w2 (HT.out.below HB2.out) (kinds_below HK.out HG.out HB2.out) (Nat.lt_of_lt_of_le HG.out HB2.out.size)).mono ?_
  rintro e w4 ⟨g, rfl, _, hW4, b4⟩
  have HS4 : Hid (Strs w4 (some ⟨g, 0, none⟩) fmt) := Wr.sl hW4
  have HB4 := hid (HB2.out.trans (b4.mono HB2.out.size))
  have HP := hid (fmt_pool HLow.out)
  clear hW4 b4
  have hA1 : ¬ A < -1 := by omega
  have hA2 : ¬ 34 ≤ A := by omega
  have HIP : Hid (∀ w', Below w.heap.size w w' → Strs w' (some ⟨g, 0, none⟩) fmt → Calls Tryz.prog 28 #[.slice (some ⟨g, 0, none⟩) 34 34] w' fun e w'' => e = .returned (.bool true) ∧ Below w'.heap.size w' w'') := fun w' b S => by
    have h9 := iPoolOk R HR.out HTx.out w' (some ⟨g, 0, none⟩) 34 fmt S (by rw [fmt_length]; decide) fmt_small u pv (HLk.out.kept (Kept.of_below (S := fun _ => False) b) (fun x => x)) (HT.out.below b) (kinds_below HK.out HG.out b) (Nat.lt_of_lt_of_le HG.out b.size)
    rw [HP.out, fmt_length] at h9
    exact h9
  have HSP : Hid (∀ w', Strs w' (some ⟨g, 0, none⟩) fmt → Calls Tryz.prog 29 #[.slice (some ⟨g, 0, none⟩) 34 34] w' fun e w'' => e = .returned (.bool true) ∧ Below w'.heap.size w' w'') := fun w' S => by
    have h9 := sPoolOk R HR.out w' (some ⟨g, 0, none⟩) 34 fmt S (by rw [fmt_length]; decide) fmt_small
    rw [HP.out, fmt_length] at h9
    exact h9
  have HIA : Hid (∀ w', Below w.heap.size w w' → Strs w' (some ⟨g, 0, none⟩) fmt → Calls Tryz.prog 19 #[.slice (some ⟨g, 0, none⟩) 34 34] w' fun r w'' => ∃ a' cap' M, r = .returned (.tuple #[plV a' (M : List Pv).length cap', .bool true]) ∧ PvsW w'' w'.heap.size a' M ∧ M.map Pv.data = List.replicate 4 noneD ∧ Below w'.heap.size w' w'') := fun w' b S => by
    have h9 := iAbstract R HR.out HTx.out w' (some ⟨g, 0, none⟩) 34 fmt S (by rw [fmt_length]; decide) fmt_small u pv (HLk.out.kept (Kept.of_below (S := fun _ => False) b) (fun x => x)) (HT.out.below b) (kinds_below HK.out HG.out b) (Nat.lt_of_lt_of_le HG.out b.size)
    rw [fmt_absOk HLow.out, fmt_abs HLow.out, fmt_length] at h9
    exact h9
  have HIR : Hid (∀ w', Below w.heap.size w w' → Strs w' (some ⟨g, 0, none⟩) fmt → Calls Tryz.prog 17 #[.slice (some ⟨g, 0, none⟩) 34 34] w' fun e w'' => e = .returned (.bool true) ∧ Below w'.heap.size w' w'') := fun w' b S => by
    have h9 := iRefsOk R HR.out HTx.out w' (some ⟨g, 0, none⟩) 34 fmt S (by rw [fmt_length]; decide) fmt_small u pv (HLk.out.kept (Kept.of_below (S := fun _ => False) b) (fun x => x)) (HT.out.below b) (kinds_below HK.out HG.out b) (Nat.lt_of_lt_of_le HG.out b.size)
    rw [fmt_refs HLow.out, fmt_length] at h9
    exact h9
  clear HP
  go_wp2_with fail
  refine (HIP.out w4 HB4.out HS4.out).mono ?_
  rintro e w5 ⟨rfl, b5⟩
  have HS5 : Hid (Strs w5 (some ⟨g, 0, none⟩) fmt) := Sl.below HS4.out b5
  have HB5 := hid (HB4.out.trans (b5.mono HB4.out.size))
  clear b5 HS4
  go_wp2_with fail
  refine (HSP.out w5 HS5.out).mono ?_
  rintro e w6 ⟨rfl, b6⟩
  have HS6 : Hid (Strs w6 (some ⟨g, 0, none⟩) fmt) := Sl.below HS5.out b6
  have HB6 := hid (HB5.out.trans (b6.mono HB5.out.size))
  clear b6 HS5
  go_wp2_with fail
  refine (HIA.out w6 HB6.out HS6.out).mono ?_
  rintro e w7 ⟨a2, c2, M2, rfl, P2, D2, b7⟩
  unfold plV
  obtain ⟨w8, hw8, e8, X2, b8⟩ := one_new w7 [.slice a2 M2.length c2] 33
  have HX2 := hid X2
  have HP2 := hid (P2.r.below b8)
  have HD2 := hid D2
  have h68 := b7.trans (b8.mono b7.size)
  have HS8 : Hid (Strs w8 (some ⟨g, 0, none⟩) fmt) := Sl.below HS6.out h68
  have HB8 := hid (HB6.out.trans (h68.mono HB6.out.size))
  have k0 := X2.c 0 rfl
  have HM2 : Hid (M2.length ≤ 1000 ∧ ∀ x ∈ M2, x.hs.length ≤ 1000 ∧ x.ts.length ≤ 1000) := by
    refine ⟨by have := congrArg List.length D2; simp at this; omega, fun x hx => ?_⟩
    have h1 : x.data ∈ M2.map Pv.data := List.mem_map_of_mem hx
    rw [D2] at h1
    have h2 := List.eq_of_mem_replicate h1
    obtain ⟨a, b, c, d, e, f, g⟩ := x
    simp only [Pv.data, noneD, Prod.mk.injEq] at h2
    obtain ⟨rfl, rfl, rfl⟩ := h2
    exact ⟨by show 4 ≤ 1000; decide, by show 4 ≤ 1000; decide⟩
  clear P2 D2 X2 b7 b8 h68 e8 HS6
  go_wp2_with fail
  try simp only [hw8]
  clear hw8
  have HSame : Hid (∀ wN a3 c3 (M3 : List Pv), Below w8.heap.size w8 wN → Pvs wN a3 M3 → M3.map Pv.data = List.replicate 4 noneD → Calls Tryz.prog 30 #[.agg #[.slice a2 M2.length c2], .agg #[.slice a3 M3.length c3]] wN fun e w' => e = .returned (.bool true) ∧ Below wN.heap.size wN w') := fun wN a3 c3 M3 b P D => samePool wN a2 a3 c2 c3 M2 M3 (HP2.out.below b) P (HD2.out.trans D.symm) HM2.out.1 HM2.out.2
  have HNew : Hid (∀ w', Calls Tryz.prog 31 #[] w' fun r w'' => ∃ a3 c3 M3, r = .returned (.agg #[.slice a3 (M3 : List Pv).length c3]) ∧ Pvs w'' a3 M3 ∧ M3.map Pv.data = List.replicate 4 noneD ∧ Below w'.heap.size w' w'') := fun w' => (sNewPool w').mono (fun r w'' ⟨a3, c3, M3, e, P, D, b⟩ => ⟨a3, c3, M3, e, P.r, D, b⟩)
  have HRef : Hid (∀ w', Below w8.heap.size w8 w' → Calls Tryz.prog 17 #[.slice (some ⟨g, 0, none⟩) 34 34] w' fun e w'' => e = .returned (.bool true) ∧ Below w'.heap.size w' w'') := fun w' b => HIR.out w' (HB8.out.trans (b.mono HB8.out.size)) (Sl.below HS8.out b)
  clear HP2 HD2 HM2 HIR HIA HSP HIP HS8
  clear k0
  by_cases hAB : A = B
  · subst hAB
    by_cases hm1 : A = -1
    · subst hm1
      clear HB HA hsb hA1 hA2
      refine region_grow (val := fun i => [.bool true, .bool true, .agg #[.slice a2 M2.length c2], undef, .bool true, .bool true, .bool true, .slice (some ⟨g, 0, none⟩) 34 34, .bool true, .bool true, .bool true, .int .i64 (-1), .int .i64 (-1), .bool false, .bool false, .int .i64 (-1), .bool true, .bool true, .bool true, undef, undef, undef, undef, undef, undef, undef, undef, undef, undef, undef, undef, .bool true, .bool true, .bool true].getD i undef) (sp := fun i => if i = 3 then some (fun V w => ∃ a3 c3 M3, V = .agg #[.slice a3 (M3 : List Pv).length c3] ∧ Pvs w a3 M3 ∧ M3.map Pv.data = List.replicate 4 noneD) else none) true (by kernel_rfl) (by kernel_rfl) [some 54, some 55, some 56, some 57, some 58, some 59, some 60, some 61, some 62, some 63, some 64, some 65, some 66, some 67, some 68, some 69, some 70, some 71, some 72, some 73, some 74, some 75, some 76, some 77, some 78, some 79, some 80, some 81, some 82, some 83, some 84, some 85, some 86, some 2] (by kernel_rfl) sp_grow ?_ (fun v w hb hG => ?_)
      · refine ⟨gVal rfl (.inl ⟨rfl, rfl⟩) rfl (fun L v act wr K => by
          have e1 : act.eval (.tmp 9) = .bool true := (K.off (x := .tmp 9) (by kernel_rfl)).trans rfl
          exact run_move _ rfl e1), ?_⟩
        refine ⟨gVal rfl (.inl ⟨rfl, rfl⟩) rfl (fun L v act wr K => by
          have e1 : act.eval (.tmp 54) = .bool true := K.at_val 0 (by kernel_rfl) (by kernel_rfl) rfl
          exact run_move _ rfl e1), ?_⟩
        refine ⟨gVal rfl (.inr ⟨1, true, 55, rfl, (by kernel_rfl), (by kernel_rfl), rfl, rfl⟩) rfl (fun L v act wr K => run_load_row 33 (.tmp 8) rfl w7.heap.size ((K.off (x := .tmp 8) (by kernel_rfl)).trans rfl) [.slice a2 M2.length c2] _ (HX2.out.below K.bel HX2.out.lt) Tryz.underlying33 rfl (by kernel_rfl)), ?_⟩
        refine ⟨gCall rfl (.inr ⟨1, true, 55, rfl, (by kernel_rfl), (by kernel_rfl), rfl, rfl⟩) 31 #[] #[] (fun _ => #[]) rfl call_new (fun L v act wr K => by simp) (fun v w hb hs => (HNew.out w).mono (fun e w' ⟨a3, c3, M3, h1, h2, h3, h4⟩ => ⟨_, h1, h4, a3, c3, M3, rfl, h2, h3⟩)), ?_⟩
        refine ⟨gCall rfl (.inr ⟨1, true, 55, rfl, (by kernel_rfl), (by kernel_rfl), rfl, rfl⟩) 30 #[.tmp 56, .tmp 57] _ (fun v => #[.agg #[.slice a2 M2.length c2], v 3]) rfl call_same (fun L v act wr K => by
          have e1 : act.eval (.tmp 56) = .agg #[.slice a2 M2.length c2] := K.at_val 2 (by kernel_rfl) (by kernel_rfl) rfl
          have e2 : act.eval (.tmp 57) = v 3 := K.slots.eval_got 3 (K.up 3 (by kernel_rfl)) (by kernel_rfl)
          simp only [List.map_toArray, List.map_cons, List.map_nil, e1, e2]) (fun v w hb hs => by
          obtain ⟨a3, c3, M3, h1, h2, h3⟩ := hs 3 (by kernel_rfl)
          rw [h1]
          exact (HSame.out w a3 c3 M3 hb h2 h3).mono (fun e w' ⟨h1, h2⟩ => ⟨_, h1, h2, rfl⟩)), ?_⟩
        refine ⟨gVal rfl (.inl ⟨rfl, rfl⟩) rfl (fun L v act wr K => by
          have e1 : act.eval (.tmp 55) = .bool true := K.at_val 1 (by kernel_rfl) (by kernel_rfl) rfl
          have e2 : act.eval (.tmp 58) = .bool true := K.at_val 4 (by kernel_rfl) (by kernel_rfl) rfl
          show (execOp act.eval _).run Tryz.prog wr = .ok (.value (.bool true)) wr
          generalize act.eval = ρ at e1 e2 ⊢
          unfold execOp
          simp [go_sem, e1, e2]), ?_⟩
        refine ⟨gVal rfl (.inl ⟨rfl, rfl⟩) rfl (fun L v act wr K => by
          have e1 : act.eval (.tmp 59) = .bool true := K.at_val 5 (by kernel_rfl) (by kernel_rfl) rfl
          exact run_move _ rfl e1), ?_⟩
        refine ⟨gVal rfl (.inr ⟨6, true, 60, rfl, (by kernel_rfl), (by kernel_rfl), rfl, rfl⟩) rfl (fun L v act wr K => by
          have e1 : act.eval (.tmp 7) = .slice (some ⟨g, 0, none⟩) 34 34 := (K.off (x := .tmp 7) (by kernel_rfl)).trans rfl
          exact run_move _ rfl e1), ?_⟩
        refine ⟨gCall rfl (.inr ⟨6, true, 60, rfl, (by kernel_rfl), (by kernel_rfl), rfl, rfl⟩) 17 #[.tmp 61] _ (fun v => #[.slice (some ⟨g, 0, none⟩) 34 34]) rfl call_refs (fun L v act wr K => by
          have e1 : act.eval (.tmp 61) = .slice (some ⟨g, 0, none⟩) 34 34 := K.at_val 7 (by kernel_rfl) (by kernel_rfl) rfl
          simp only [List.map_toArray, List.map_cons, List.map_nil, e1]) (fun v w hb hs => (HRef.out w hb).mono (fun e w' ⟨h1, h2⟩ => ⟨_, h1, h2, rfl⟩)), ?_⟩
        refine ⟨gVal rfl (.inl ⟨rfl, rfl⟩) rfl (fun L v act wr K => by
          have e1 : act.eval (.tmp 60) = .bool true := K.at_val 6 (by kernel_rfl) (by kernel_rfl) rfl
          have e2 : act.eval (.tmp 62) = .bool true := K.at_val 8 (by kernel_rfl) (by kernel_rfl) rfl
          show (execOp act.eval _).run Tryz.prog wr = .ok (.value (.bool true)) wr
          generalize act.eval = ρ at e1 e2 ⊢
          unfold execOp
          simp [go_sem, e1, e2]), ?_⟩
        refine ⟨gVal rfl (.inl ⟨rfl, rfl⟩) rfl (fun L v act wr K => by
          have e1 : act.eval (.tmp 63) = .bool true := K.at_val 9 (by kernel_rfl) (by kernel_rfl) rfl
          exact run_move _ rfl e1), ?_⟩
        refine ⟨gVal rfl (.inr ⟨10, true, 64, rfl, (by kernel_rfl), (by kernel_rfl), rfl, rfl⟩) rfl (fun L v act wr K => by
          have e1 : act.eval (.tmp 5) = .int .i64 (-1) := (K.off (x := .tmp 5) (by kernel_rfl)).trans rfl
          exact run_move _ rfl e1), ?_⟩
        refine ⟨gVal rfl (.inr ⟨10, true, 64, rfl, (by kernel_rfl), (by kernel_rfl), rfl, rfl⟩) rfl (fun L v act wr K => by
          have e1 : act.eval (.tmp 6) = .int .i64 (-1) := (K.off (x := .tmp 6) (by kernel_rfl)).trans rfl
          exact run_move _ rfl e1), ?_⟩
        refine ⟨gVal rfl (.inr ⟨10, true, 64, rfl, (by kernel_rfl), (by kernel_rfl), rfl, rfl⟩) rfl (fun L v act wr K => by
          have e1 : act.eval (.tmp 65) = .int .i64 (-1) := K.at_val 11 (by kernel_rfl) (by kernel_rfl) rfl
          have e2 : act.eval (.tmp 66) = .int .i64 (-1) := K.at_val 12 (by kernel_rfl) (by kernel_rfl) rfl
          show (execOp act.eval _).run Tryz.prog wr = .ok (.value (.bool false)) wr
          generalize act.eval = ρ at e1 e2 ⊢
          unfold execOp
          simp [go_sem, e1, e2]), ?_⟩
        refine ⟨gVal rfl (.inr ⟨10, true, 64, rfl, (by kernel_rfl), (by kernel_rfl), rfl, rfl⟩) rfl (fun L v act wr K => by
          have e1 : act.eval (.tmp 67) = .bool false := K.at_val 13 (by kernel_rfl) (by kernel_rfl) rfl
          exact run_move _ rfl e1), ?_⟩
        refine ⟨gVal rfl (.inr ⟨14, false, 68, rfl, (by kernel_rfl), (by kernel_rfl), rfl, rfl⟩) rfl (fun L v act wr K => by
          have e1 : act.eval (.tmp 5) = .int .i64 (-1) := (K.off (x := .tmp 5) (by kernel_rfl)).trans rfl
          exact run_move _ rfl e1), ?_⟩
        refine ⟨gVal rfl (.inr ⟨14, false, 68, rfl, (by kernel_rfl), (by kernel_rfl), rfl, rfl⟩) rfl (fun L v act wr K => by
          have e1 : act.eval (.tmp 69) = .int .i64 (-1) := K.at_val 15 (by kernel_rfl) (by kernel_rfl) rfl
          have e2 : act.eval (.const (.int .i64 (-1))) = .int .i64 (-1) := rfl
          show (execOp act.eval _).run Tryz.prog wr = .ok (.value (.bool true)) wr
          generalize act.eval = ρ at e1 e2 ⊢
          unfold execOp
          simp [go_sem, e1, e2]), ?_⟩
        refine ⟨gVal rfl (.inr ⟨10, true, 64, rfl, (by kernel_rfl), (by kernel_rfl), rfl, rfl⟩) rfl (fun L v act wr K => by
          have e1 : act.eval (.tmp 68) = .bool false := K.at_val 14 (by kernel_rfl) (by kernel_rfl) rfl
          have e2 : act.eval (.tmp 70) = .bool true := K.at_val 16 (by kernel_rfl) (by kernel_rfl) rfl
          show (execOp act.eval _).run Tryz.prog wr = .ok (.value (.bool true)) wr
          generalize act.eval = ρ at e1 e2 ⊢
          unfold execOp
          simp [go_sem, e1, e2]), ?_⟩
        refine ⟨gVal rfl (.inr ⟨10, true, 64, rfl, (by kernel_rfl), (by kernel_rfl), rfl, rfl⟩) rfl (fun L v act wr K => by
          have e1 : act.eval (.tmp 71) = .bool true := K.at_val 17 (by kernel_rfl) (by kernel_rfl) rfl
          exact run_move _ rfl e1), ?_⟩
        refine ⟨gSkip rfl (.inr ⟨18, false, 72, rfl, (by kernel_rfl), (by kernel_rfl), rfl, rfl⟩) rfl rfl, ?_⟩
        refine ⟨gSkip rfl (.inr ⟨18, false, 72, rfl, (by kernel_rfl), (by kernel_rfl), rfl, rfl⟩) rfl rfl, ?_⟩
        refine ⟨gSkip rfl (.inr ⟨18, false, 72, rfl, (by kernel_rfl), (by kernel_rfl), rfl, rfl⟩) rfl rfl, ?_⟩
        refine ⟨gSkip rfl (.inr ⟨18, false, 72, rfl, (by kernel_rfl), (by kernel_rfl), rfl, rfl⟩) rfl rfl, ?_⟩
        refine ⟨gSkip rfl (.inr ⟨18, false, 72, rfl, (by kernel_rfl), (by kernel_rfl), rfl, rfl⟩) rfl rfl, ?_⟩
        refine ⟨gSkip rfl (.inr ⟨18, false, 72, rfl, (by kernel_rfl), (by kernel_rfl), rfl, rfl⟩) rfl rfl, ?_⟩
        refine ⟨gSkip rfl (.inr ⟨24, true, 78, rfl, (by kernel_rfl), (by kernel_rfl), rfl, rfl⟩) rfl rfl, ?_⟩
        refine ⟨gSkip rfl (.inr ⟨24, true, 78, rfl, (by kernel_rfl), (by kernel_rfl), rfl, rfl⟩) rfl rfl, ?_⟩
        refine ⟨gSkip rfl (.inr ⟨24, true, 78, rfl, (by kernel_rfl), (by kernel_rfl), rfl, rfl⟩) rfl rfl, ?_⟩
        refine ⟨gSkip rfl (.inr ⟨24, true, 78, rfl, (by kernel_rfl), (by kernel_rfl), rfl, rfl⟩) rfl rfl, ?_⟩
        refine ⟨gSkip rfl (.inr ⟨24, true, 78, rfl, (by kernel_rfl), (by kernel_rfl), rfl, rfl⟩) rfl rfl, ?_⟩
        refine ⟨gSkip rfl (.inr ⟨18, false, 72, rfl, (by kernel_rfl), (by kernel_rfl), rfl, rfl⟩) rfl rfl, ?_⟩
        refine ⟨gVal rfl (.inr ⟨10, true, 64, rfl, (by kernel_rfl), (by kernel_rfl), rfl, rfl⟩) rfl (fun L v act wr K => by
          have e1 : act.eval (.tmp 72) = .bool true := K.at_val 18 (by kernel_rfl) (by kernel_rfl) rfl
          have e2 : act.eval (.const (.bool true)) = .bool true := rfl
          show (execOp act.eval _).run Tryz.prog wr = .ok (.value (.bool true)) wr
          generalize act.eval = ρ at e1 e2 ⊢
          unfold execOp
          simp [go_sem, e1, e2]), ?_⟩
        refine ⟨gVal rfl (.inl ⟨rfl, rfl⟩) rfl (fun L v act wr K => by
          have e1 : act.eval (.tmp 64) = .bool true := K.at_val 10 (by kernel_rfl) (by kernel_rfl) rfl
          have e2 : act.eval (.tmp 85) = .bool true := K.at_val 31 (by kernel_rfl) (by kernel_rfl) rfl
          show (execOp act.eval _).run Tryz.prog wr = .ok (.value (.bool true)) wr
          generalize act.eval = ρ at e1 e2 ⊢
          unfold execOp
          simp [go_sem, e1, e2]), ?_⟩
        refine ⟨gVal rfl (.inl ⟨rfl, rfl⟩) rfl (fun L v act wr K => by
          have e1 : act.eval (.tmp 86) = .bool true := K.at_val 32 (by kernel_rfl) (by kernel_rfl) rfl
          exact run_assign _ rfl e1), ?_⟩
        exact trivial
      have e33 : v 33 = .bool true := hG 33 (by show 33 < 34; decide)
      have HBT := hid (HB8.out.trans (hb.mono HB8.out.size))
      clear hG hb
      simp only [putsAll, Act.put, List.setIfInBounds_toArray, List.set_cons_zero, List.set_cons_succ, e33]
      go_wp2
      go_ret
      exact ⟨rfl, HBT.out⟩
    · obtain ⟨rfl, rfl⟩ := sec_inj hn6 hm18 (by rw [HA.out]; exact hm1) (by rw [HA.out, HB.out]) HKI.out.1 HKI.out.2
      have z2 : (A == -1) = false := by simpa using hm1
      clear HB HA hsb hA1 hA2
      refine region_grow (val := fun i => [.bool true, .bool true, .agg #[.slice a2 M2.length c2], undef, .bool true, .bool true, .bool true, .slice (some ⟨g, 0, none⟩) 34 34, .bool true, .bool true, .bool true, .int .i64 A, .int .i64 A, .bool false, .bool false, .int .i64 A, .bool false, .bool false, .bool false, .slice a len cap, .int .i64 (x1 : Int), .int .i64 (n : Int), .int .i64 (n : Int), .bool true, .bool true, .slice a len cap, .int .i64 (x2 : Int), .int .i64 (m : Int), .int .i64 (m : Int), .bool true, .bool true, .bool true, .bool true, .bool true].getD i undef) (sp := fun i => if i = 3 then some (fun V w => ∃ a3 c3 M3, V = .agg #[.slice a3 (M3 : List Pv).length c3] ∧ Pvs w a3 M3 ∧ M3.map Pv.data = List.replicate 4 noneD) else none) true (by kernel_rfl) (by kernel_rfl) [some 54, some 55, some 56, some 57, some 58, some 59, some 60, some 61, some 62, some 63, some 64, some 65, some 66, some 67, some 68, some 69, some 70, some 71, some 72, some 73, some 74, some 75, some 76, some 77, some 78, some 79, some 80, some 81, some 82, some 83, some 84, some 85, some 86, some 2] (by kernel_rfl) sp_grow ?_ (fun v w hb hG => ?_)
      · refine ⟨gVal rfl (.inl ⟨rfl, rfl⟩) rfl (fun L v act wr K => by
          have e1 : act.eval (.tmp 9) = .bool true := (K.off (x := .tmp 9) (by kernel_rfl)).trans rfl
          exact run_move _ rfl e1), ?_⟩
        refine ⟨gVal rfl (.inl ⟨rfl, rfl⟩) rfl (fun L v act wr K => by
          have e1 : act.eval (.tmp 54) = .bool true := K.at_val 0 (by kernel_rfl) (by kernel_rfl) rfl
          exact run_move _ rfl e1), ?_⟩
        refine ⟨gVal rfl (.inr ⟨1, true, 55, rfl, (by kernel_rfl), (by kernel_rfl), rfl, rfl⟩) rfl (fun L v act wr K => run_load_row 33 (.tmp 8) rfl w7.heap.size ((K.off (x := .tmp 8) (by kernel_rfl)).trans rfl) [.slice a2 M2.length c2] _ (HX2.out.below K.bel HX2.out.lt) Tryz.underlying33 rfl (by kernel_rfl)), ?_⟩
        refine ⟨gCall rfl (.inr ⟨1, true, 55, rfl, (by kernel_rfl), (by kernel_rfl), rfl, rfl⟩) 31 #[] #[] (fun _ => #[]) rfl call_new (fun L v act wr K => by simp) (fun v w hb hs => (HNew.out w).mono (fun e w' ⟨a3, c3, M3, h1, h2, h3, h4⟩ => ⟨_, h1, h4, a3, c3, M3, rfl, h2, h3⟩)), ?_⟩
        refine ⟨gCall rfl (.inr ⟨1, true, 55, rfl, (by kernel_rfl), (by kernel_rfl), rfl, rfl⟩) 30 #[.tmp 56, .tmp 57] _ (fun v => #[.agg #[.slice a2 M2.length c2], v 3]) rfl call_same (fun L v act wr K => by
          have e1 : act.eval (.tmp 56) = .agg #[.slice a2 M2.length c2] := K.at_val 2 (by kernel_rfl) (by kernel_rfl) rfl
          have e2 : act.eval (.tmp 57) = v 3 := K.slots.eval_got 3 (K.up 3 (by kernel_rfl)) (by kernel_rfl)
          simp only [List.map_toArray, List.map_cons, List.map_nil, e1, e2]) (fun v w hb hs => by
          obtain ⟨a3, c3, M3, h1, h2, h3⟩ := hs 3 (by kernel_rfl)
          rw [h1]
          exact (HSame.out w a3 c3 M3 hb h2 h3).mono (fun e w' ⟨h1, h2⟩ => ⟨_, h1, h2, rfl⟩)), ?_⟩
        refine ⟨gVal rfl (.inl ⟨rfl, rfl⟩) rfl (fun L v act wr K => by
          have e1 : act.eval (.tmp 55) = .bool true := K.at_val 1 (by kernel_rfl) (by kernel_rfl) rfl
          have e2 : act.eval (.tmp 58) = .bool true := K.at_val 4 (by kernel_rfl) (by kernel_rfl) rfl
          show (execOp act.eval _).run Tryz.prog wr = .ok (.value (.bool true)) wr
          generalize act.eval = ρ at e1 e2 ⊢
          unfold execOp
          simp [go_sem, e1, e2]), ?_⟩
        refine ⟨gVal rfl (.inl ⟨rfl, rfl⟩) rfl (fun L v act wr K => by
          have e1 : act.eval (.tmp 59) = .bool true := K.at_val 5 (by kernel_rfl) (by kernel_rfl) rfl
          exact run_move _ rfl e1), ?_⟩
        refine ⟨gVal rfl (.inr ⟨6, true, 60, rfl, (by kernel_rfl), (by kernel_rfl), rfl, rfl⟩) rfl (fun L v act wr K => by
          have e1 : act.eval (.tmp 7) = .slice (some ⟨g, 0, none⟩) 34 34 := (K.off (x := .tmp 7) (by kernel_rfl)).trans rfl
          exact run_move _ rfl e1), ?_⟩
        refine ⟨gCall rfl (.inr ⟨6, true, 60, rfl, (by kernel_rfl), (by kernel_rfl), rfl, rfl⟩) 17 #[.tmp 61] _ (fun v => #[.slice (some ⟨g, 0, none⟩) 34 34]) rfl call_refs (fun L v act wr K => by
          have e1 : act.eval (.tmp 61) = .slice (some ⟨g, 0, none⟩) 34 34 := K.at_val 7 (by kernel_rfl) (by kernel_rfl) rfl
          simp only [List.map_toArray, List.map_cons, List.map_nil, e1]) (fun v w hb hs => (HRef.out w hb).mono (fun e w' ⟨h1, h2⟩ => ⟨_, h1, h2, rfl⟩)), ?_⟩
        refine ⟨gVal rfl (.inl ⟨rfl, rfl⟩) rfl (fun L v act wr K => by
          have e1 : act.eval (.tmp 60) = .bool true := K.at_val 6 (by kernel_rfl) (by kernel_rfl) rfl
          have e2 : act.eval (.tmp 62) = .bool true := K.at_val 8 (by kernel_rfl) (by kernel_rfl) rfl
          show (execOp act.eval _).run Tryz.prog wr = .ok (.value (.bool true)) wr
          generalize act.eval = ρ at e1 e2 ⊢
          unfold execOp
          simp [go_sem, e1, e2]), ?_⟩
        refine ⟨gVal rfl (.inl ⟨rfl, rfl⟩) rfl (fun L v act wr K => by
          have e1 : act.eval (.tmp 63) = .bool true := K.at_val 9 (by kernel_rfl) (by kernel_rfl) rfl
          exact run_move _ rfl e1), ?_⟩
        refine ⟨gVal rfl (.inr ⟨10, true, 64, rfl, (by kernel_rfl), (by kernel_rfl), rfl, rfl⟩) rfl (fun L v act wr K => by
          have e1 : act.eval (.tmp 5) = .int .i64 A := (K.off (x := .tmp 5) (by kernel_rfl)).trans rfl
          exact run_move _ rfl e1), ?_⟩
        refine ⟨gVal rfl (.inr ⟨10, true, 64, rfl, (by kernel_rfl), (by kernel_rfl), rfl, rfl⟩) rfl (fun L v act wr K => by
          have e1 : act.eval (.tmp 6) = .int .i64 A := (K.off (x := .tmp 6) (by kernel_rfl)).trans rfl
          exact run_move _ rfl e1), ?_⟩
        refine ⟨gVal rfl (.inr ⟨10, true, 64, rfl, (by kernel_rfl), (by kernel_rfl), rfl, rfl⟩) rfl (fun L v act wr K => by
          have e1 : act.eval (.tmp 65) = .int .i64 A := K.at_val 11 (by kernel_rfl) (by kernel_rfl) rfl
          have e2 : act.eval (.tmp 66) = .int .i64 A := K.at_val 12 (by kernel_rfl) (by kernel_rfl) rfl
          show (execOp act.eval _).run Tryz.prog wr = .ok (.value (.bool false)) wr
          generalize act.eval = ρ at e1 e2 ⊢
          unfold execOp
          simp [go_sem, e1, e2]), ?_⟩
        refine ⟨gVal rfl (.inr ⟨10, true, 64, rfl, (by kernel_rfl), (by kernel_rfl), rfl, rfl⟩) rfl (fun L v act wr K => by
          have e1 : act.eval (.tmp 67) = .bool false := K.at_val 13 (by kernel_rfl) (by kernel_rfl) rfl
          exact run_move _ rfl e1), ?_⟩
        refine ⟨gVal rfl (.inr ⟨14, false, 68, rfl, (by kernel_rfl), (by kernel_rfl), rfl, rfl⟩) rfl (fun L v act wr K => by
          have e1 : act.eval (.tmp 5) = .int .i64 A := (K.off (x := .tmp 5) (by kernel_rfl)).trans rfl
          exact run_move _ rfl e1), ?_⟩
        refine ⟨gVal rfl (.inr ⟨14, false, 68, rfl, (by kernel_rfl), (by kernel_rfl), rfl, rfl⟩) rfl (fun L v act wr K => by
          have e1 : act.eval (.tmp 69) = .int .i64 A := K.at_val 15 (by kernel_rfl) (by kernel_rfl) rfl
          have e2 : act.eval (.const (.int .i64 (-1))) = .int .i64 (-1) := rfl
          show (execOp act.eval _).run Tryz.prog wr = .ok (.value (.bool false)) wr
          generalize act.eval = ρ at e1 e2 ⊢
          unfold execOp
          simp [go_sem, e1, e2, z2]), ?_⟩
        refine ⟨gVal rfl (.inr ⟨10, true, 64, rfl, (by kernel_rfl), (by kernel_rfl), rfl, rfl⟩) rfl (fun L v act wr K => by
          have e1 : act.eval (.tmp 68) = .bool false := K.at_val 14 (by kernel_rfl) (by kernel_rfl) rfl
          have e2 : act.eval (.tmp 70) = .bool false := K.at_val 16 (by kernel_rfl) (by kernel_rfl) rfl
          show (execOp act.eval _).run Tryz.prog wr = .ok (.value (.bool false)) wr
          generalize act.eval = ρ at e1 e2 ⊢
          unfold execOp
          simp [go_sem, e1, e2]), ?_⟩
        refine ⟨gVal rfl (.inr ⟨10, true, 64, rfl, (by kernel_rfl), (by kernel_rfl), rfl, rfl⟩) rfl (fun L v act wr K => by
          have e1 : act.eval (.tmp 71) = .bool false := K.at_val 17 (by kernel_rfl) (by kernel_rfl) rfl
          exact run_move _ rfl e1), ?_⟩
        refine ⟨gVal rfl (.inr ⟨18, false, 72, rfl, (by kernel_rfl), (by kernel_rfl), rfl, rfl⟩) rfl (fun L v act wr K => by
          have e1 : act.eval (.tmp 0) = .slice a len cap := (K.off (x := .tmp 0) (by kernel_rfl)).trans rfl
          exact run_move _ rfl e1), ?_⟩
        refine ⟨gCall rfl (.inr ⟨18, false, 72, rfl, (by kernel_rfl), (by kernel_rfl), rfl, rfl⟩) 26 #[.tmp 73, .const (.int .i64 1)] _ (fun v => #[.slice a len cap, .int .i64 1]) rfl call_at (fun L v act wr K => by
          have e1 : act.eval (.tmp 73) = .slice a len cap := K.at_val 19 (by kernel_rfl) (by kernel_rfl) rfl
          have e2 : act.eval (.const (.int .i64 1)) = .int .i64 1 := rfl
          simp only [List.map_toArray, List.map_cons, List.map_nil, e1, e2]) (fun v w' hb hs => (HAt1.out w' (HB8.out.trans (hb.mono HB8.out.size))).mono (fun e w'' ⟨h1, h2⟩ => ⟨_, h1, by rw [h2]; exact Below.refl _ _, rfl⟩)), ?_⟩
        refine ⟨gVal rfl (.inr ⟨18, false, 72, rfl, (by kernel_rfl), (by kernel_rfl), rfl, rfl⟩) rfl (fun L v act wr K => by
          have e1 : act.eval (.tmp 74) = .int .i64 (x1 : Int) := K.at_val 20 (by kernel_rfl) (by kernel_rfl) rfl
          have e2 : act.eval (.const (.int .i64 6)) = .int .i64 6 := rfl
          show (execOp act.eval _).run Tryz.prog wr = .ok (.value (.int .i64 (n : Int))) wr
          generalize act.eval = ρ at e1 e2 ⊢
          unfold execOp
          simp [go_sem, e1, e2, r1]), ?_⟩
        refine ⟨gVal rfl (.inr ⟨18, false, 72, rfl, (by kernel_rfl), (by kernel_rfl), rfl, rfl⟩) rfl (fun L v act wr K => by
          have e1 : act.eval (.tmp 3) = .int .i64 (n : Int) := (K.off (x := .tmp 3) (by kernel_rfl)).trans rfl
          exact run_move _ rfl e1), ?_⟩
        refine ⟨gVal rfl (.inr ⟨18, false, 72, rfl, (by kernel_rfl), (by kernel_rfl), rfl, rfl⟩) rfl (fun L v act wr K => by
          have e1 : act.eval (.tmp 75) = .int .i64 (n : Int) := K.at_val 21 (by kernel_rfl) (by kernel_rfl) rfl
          have e2 : act.eval (.tmp 76) = .int .i64 (n : Int) := K.at_val 22 (by kernel_rfl) (by kernel_rfl) rfl
          show (execOp act.eval _).run Tryz.prog wr = .ok (.value (.bool true)) wr
          generalize act.eval = ρ at e1 e2 ⊢
          unfold execOp
          simp [go_sem, e1, e2]), ?_⟩
        refine ⟨gVal rfl (.inr ⟨18, false, 72, rfl, (by kernel_rfl), (by kernel_rfl), rfl, rfl⟩) rfl (fun L v act wr K => by
          have e1 : act.eval (.tmp 77) = .bool true := K.at_val 23 (by kernel_rfl) (by kernel_rfl) rfl
          exact run_move _ rfl e1), ?_⟩
        refine ⟨gVal rfl (.inr ⟨24, true, 78, rfl, (by kernel_rfl), (by kernel_rfl), rfl, rfl⟩) rfl (fun L v act wr K => by
          have e1 : act.eval (.tmp 0) = .slice a len cap := (K.off (x := .tmp 0) (by kernel_rfl)).trans rfl
          exact run_move _ rfl e1), ?_⟩
        refine ⟨gCall rfl (.inr ⟨24, true, 78, rfl, (by kernel_rfl), (by kernel_rfl), rfl, rfl⟩) 26 #[.tmp 79, .const (.int .i64 2)] _ (fun v => #[.slice a len cap, .int .i64 2]) rfl call_at (fun L v act wr K => by
          have e1 : act.eval (.tmp 79) = .slice a len cap := K.at_val 25 (by kernel_rfl) (by kernel_rfl) rfl
          have e2 : act.eval (.const (.int .i64 2)) = .int .i64 2 := rfl
          simp only [List.map_toArray, List.map_cons, List.map_nil, e1, e2]) (fun v w' hb hs => (HAt2.out w' (HB8.out.trans (hb.mono HB8.out.size))).mono (fun e w'' ⟨h1, h2⟩ => ⟨_, h1, by rw [h2]; exact Below.refl _ _, rfl⟩)), ?_⟩
        refine ⟨gVal rfl (.inr ⟨24, true, 78, rfl, (by kernel_rfl), (by kernel_rfl), rfl, rfl⟩) rfl (fun L v act wr K => by
          have e1 : act.eval (.tmp 80) = .int .i64 (x2 : Int) := K.at_val 26 (by kernel_rfl) (by kernel_rfl) rfl
          have e2 : act.eval (.const (.int .i64 18)) = .int .i64 18 := rfl
          show (execOp act.eval _).run Tryz.prog wr = .ok (.value (.int .i64 (m : Int))) wr
          generalize act.eval = ρ at e1 e2 ⊢
          unfold execOp
          simp [go_sem, e1, e2, r2]), ?_⟩
        refine ⟨gVal rfl (.inr ⟨24, true, 78, rfl, (by kernel_rfl), (by kernel_rfl), rfl, rfl⟩) rfl (fun L v act wr K => by
          have e1 : act.eval (.tmp 4) = .int .i64 (m : Int) := (K.off (x := .tmp 4) (by kernel_rfl)).trans rfl
          exact run_move _ rfl e1), ?_⟩
        refine ⟨gVal rfl (.inr ⟨24, true, 78, rfl, (by kernel_rfl), (by kernel_rfl), rfl, rfl⟩) rfl (fun L v act wr K => by
          have e1 : act.eval (.tmp 81) = .int .i64 (m : Int) := K.at_val 27 (by kernel_rfl) (by kernel_rfl) rfl
          have e2 : act.eval (.tmp 82) = .int .i64 (m : Int) := K.at_val 28 (by kernel_rfl) (by kernel_rfl) rfl
          show (execOp act.eval _).run Tryz.prog wr = .ok (.value (.bool true)) wr
          generalize act.eval = ρ at e1 e2 ⊢
          unfold execOp
          simp [go_sem, e1, e2]), ?_⟩
        refine ⟨gVal rfl (.inr ⟨18, false, 72, rfl, (by kernel_rfl), (by kernel_rfl), rfl, rfl⟩) rfl (fun L v act wr K => by
          have e1 : act.eval (.tmp 78) = .bool true := K.at_val 24 (by kernel_rfl) (by kernel_rfl) rfl
          have e2 : act.eval (.tmp 83) = .bool true := K.at_val 29 (by kernel_rfl) (by kernel_rfl) rfl
          show (execOp act.eval _).run Tryz.prog wr = .ok (.value (.bool true)) wr
          generalize act.eval = ρ at e1 e2 ⊢
          unfold execOp
          simp [go_sem, e1, e2]), ?_⟩
        refine ⟨gVal rfl (.inr ⟨10, true, 64, rfl, (by kernel_rfl), (by kernel_rfl), rfl, rfl⟩) rfl (fun L v act wr K => by
          have e1 : act.eval (.tmp 72) = .bool false := K.at_val 18 (by kernel_rfl) (by kernel_rfl) rfl
          have e2 : act.eval (.tmp 84) = .bool true := K.at_val 30 (by kernel_rfl) (by kernel_rfl) rfl
          show (execOp act.eval _).run Tryz.prog wr = .ok (.value (.bool true)) wr
          generalize act.eval = ρ at e1 e2 ⊢
          unfold execOp
          simp [go_sem, e1, e2]), ?_⟩
        refine ⟨gVal rfl (.inl ⟨rfl, rfl⟩) rfl (fun L v act wr K => by
          have e1 : act.eval (.tmp 64) = .bool true := K.at_val 10 (by kernel_rfl) (by kernel_rfl) rfl
          have e2 : act.eval (.tmp 85) = .bool true := K.at_val 31 (by kernel_rfl) (by kernel_rfl) rfl
          show (execOp act.eval _).run Tryz.prog wr = .ok (.value (.bool true)) wr
          generalize act.eval = ρ at e1 e2 ⊢
          unfold execOp
          simp [go_sem, e1, e2]), ?_⟩
        refine ⟨gVal rfl (.inl ⟨rfl, rfl⟩) rfl (fun L v act wr K => by
          have e1 : act.eval (.tmp 86) = .bool true := K.at_val 32 (by kernel_rfl) (by kernel_rfl) rfl
          exact run_assign _ rfl e1), ?_⟩
        exact trivial
      have e33 : v 33 = .bool true := hG 33 (by show 33 < 34; decide)
      have HBT := hid (HB8.out.trans (hb.mono HB8.out.size))
      clear hG hb
      simp only [putsAll, Act.put, List.setIfInBounds_toArray, List.set_cons_zero, List.set_cons_succ, e33]
      go_wp2
      go_ret
      exact ⟨rfl, HBT.out⟩
  · have z1 : (A != B) = true := by simpa using hAB
    clear HB HA hsb hA1 hA2
    refine region_grow (val := fun i => [.bool true, .bool true, .agg #[.slice a2 M2.length c2], undef, .bool true, .bool true, .bool true, .slice (some ⟨g, 0, none⟩) 34 34, .bool true, .bool true, .bool true, .int .i64 A, .int .i64 B, .bool true, .bool true, undef, undef, .bool true, .bool true, undef, undef, undef, undef, undef, undef, undef, undef, undef, undef, undef, undef, .bool true, .bool true, .bool true].getD i undef) (sp := fun i => if i = 3 then some (fun V w => ∃ a3 c3 M3, V = .agg #[.slice a3 (M3 : List Pv).length c3] ∧ Pvs w a3 M3 ∧ M3.map Pv.data = List.replicate 4 noneD) else none) true (by kernel_rfl) (by kernel_rfl) [some 54, some 55, some 56, some 57, some 58, some 59, some 60, some 61, some 62, some 63, some 64, some 65, some 66, some 67, some 68, some 69, some 70, some 71, some 72, some 73, some 74, some 75, some 76, some 77, some 78, some 79, some 80, some 81, some 82, some 83, some 84, some 85, some 86, some 2] (by kernel_rfl) sp_grow ?_ (fun v w hb hG => ?_)
    · refine ⟨gVal rfl (.inl ⟨rfl, rfl⟩) rfl (fun L v act wr K => by
        have e1 : act.eval (.tmp 9) = .bool true := (K.off (x := .tmp 9) (by kernel_rfl)).trans rfl
        exact run_move _ rfl e1), ?_⟩
      refine ⟨gVal rfl (.inl ⟨rfl, rfl⟩) rfl (fun L v act wr K => by
        have e1 : act.eval (.tmp 54) = .bool true := K.at_val 0 (by kernel_rfl) (by kernel_rfl) rfl
        exact run_move _ rfl e1), ?_⟩
      refine ⟨gVal rfl (.inr ⟨1, true, 55, rfl, (by kernel_rfl), (by kernel_rfl), rfl, rfl⟩) rfl (fun L v act wr K => run_load_row 33 (.tmp 8) rfl w7.heap.size ((K.off (x := .tmp 8) (by kernel_rfl)).trans rfl) [.slice a2 M2.length c2] _ (HX2.out.below K.bel HX2.out.lt) Tryz.underlying33 rfl (by kernel_rfl)), ?_⟩
      refine ⟨gCall rfl (.inr ⟨1, true, 55, rfl, (by kernel_rfl), (by kernel_rfl), rfl, rfl⟩) 31 #[] #[] (fun _ => #[]) rfl call_new (fun L v act wr K => by simp) (fun v w hb hs => (HNew.out w).mono (fun e w' ⟨a3, c3, M3, h1, h2, h3, h4⟩ => ⟨_, h1, h4, a3, c3, M3, rfl, h2, h3⟩)), ?_⟩
      refine ⟨gCall rfl (.inr ⟨1, true, 55, rfl, (by kernel_rfl), (by kernel_rfl), rfl, rfl⟩) 30 #[.tmp 56, .tmp 57] _ (fun v => #[.agg #[.slice a2 M2.length c2], v 3]) rfl call_same (fun L v act wr K => by
        have e1 : act.eval (.tmp 56) = .agg #[.slice a2 M2.length c2] := K.at_val 2 (by kernel_rfl) (by kernel_rfl) rfl
        have e2 : act.eval (.tmp 57) = v 3 := K.slots.eval_got 3 (K.up 3 (by kernel_rfl)) (by kernel_rfl)
        simp only [List.map_toArray, List.map_cons, List.map_nil, e1, e2]) (fun v w hb hs => by
        obtain ⟨a3, c3, M3, h1, h2, h3⟩ := hs 3 (by kernel_rfl)
        rw [h1]
        exact (HSame.out w a3 c3 M3 hb h2 h3).mono (fun e w' ⟨h1, h2⟩ => ⟨_, h1, h2, rfl⟩)), ?_⟩
      refine ⟨gVal rfl (.inl ⟨rfl, rfl⟩) rfl (fun L v act wr K => by
        have e1 : act.eval (.tmp 55) = .bool true := K.at_val 1 (by kernel_rfl) (by kernel_rfl) rfl
        have e2 : act.eval (.tmp 58) = .bool true := K.at_val 4 (by kernel_rfl) (by kernel_rfl) rfl
        show (execOp act.eval _).run Tryz.prog wr = .ok (.value (.bool true)) wr
        generalize act.eval = ρ at e1 e2 ⊢
        unfold execOp
        simp [go_sem, e1, e2]), ?_⟩
      refine ⟨gVal rfl (.inl ⟨rfl, rfl⟩) rfl (fun L v act wr K => by
        have e1 : act.eval (.tmp 59) = .bool true := K.at_val 5 (by kernel_rfl) (by kernel_rfl) rfl
        exact run_move _ rfl e1), ?_⟩
      refine ⟨gVal rfl (.inr ⟨6, true, 60, rfl, (by kernel_rfl), (by kernel_rfl), rfl, rfl⟩) rfl (fun L v act wr K => by
        have e1 : act.eval (.tmp 7) = .slice (some ⟨g, 0, none⟩) 34 34 := (K.off (x := .tmp 7) (by kernel_rfl)).trans rfl
        exact run_move _ rfl e1), ?_⟩
      refine ⟨gCall rfl (.inr ⟨6, true, 60, rfl, (by kernel_rfl), (by kernel_rfl), rfl, rfl⟩) 17 #[.tmp 61] _ (fun v => #[.slice (some ⟨g, 0, none⟩) 34 34]) rfl call_refs (fun L v act wr K => by
        have e1 : act.eval (.tmp 61) = .slice (some ⟨g, 0, none⟩) 34 34 := K.at_val 7 (by kernel_rfl) (by kernel_rfl) rfl
        simp only [List.map_toArray, List.map_cons, List.map_nil, e1]) (fun v w hb hs => (HRef.out w hb).mono (fun e w' ⟨h1, h2⟩ => ⟨_, h1, h2, rfl⟩)), ?_⟩
      refine ⟨gVal rfl (.inl ⟨rfl, rfl⟩) rfl (fun L v act wr K => by
        have e1 : act.eval (.tmp 60) = .bool true := K.at_val 6 (by kernel_rfl) (by kernel_rfl) rfl
        have e2 : act.eval (.tmp 62) = .bool true := K.at_val 8 (by kernel_rfl) (by kernel_rfl) rfl
        show (execOp act.eval _).run Tryz.prog wr = .ok (.value (.bool true)) wr
        generalize act.eval = ρ at e1 e2 ⊢
        unfold execOp
        simp [go_sem, e1, e2]), ?_⟩
      refine ⟨gVal rfl (.inl ⟨rfl, rfl⟩) rfl (fun L v act wr K => by
        have e1 : act.eval (.tmp 63) = .bool true := K.at_val 9 (by kernel_rfl) (by kernel_rfl) rfl
        exact run_move _ rfl e1), ?_⟩
      refine ⟨gVal rfl (.inr ⟨10, true, 64, rfl, (by kernel_rfl), (by kernel_rfl), rfl, rfl⟩) rfl (fun L v act wr K => by
        have e1 : act.eval (.tmp 5) = .int .i64 A := (K.off (x := .tmp 5) (by kernel_rfl)).trans rfl
        exact run_move _ rfl e1), ?_⟩
      refine ⟨gVal rfl (.inr ⟨10, true, 64, rfl, (by kernel_rfl), (by kernel_rfl), rfl, rfl⟩) rfl (fun L v act wr K => by
        have e1 : act.eval (.tmp 6) = .int .i64 B := (K.off (x := .tmp 6) (by kernel_rfl)).trans rfl
        exact run_move _ rfl e1), ?_⟩
      refine ⟨gVal rfl (.inr ⟨10, true, 64, rfl, (by kernel_rfl), (by kernel_rfl), rfl, rfl⟩) rfl (fun L v act wr K => by
        have e1 : act.eval (.tmp 65) = .int .i64 A := K.at_val 11 (by kernel_rfl) (by kernel_rfl) rfl
        have e2 : act.eval (.tmp 66) = .int .i64 B := K.at_val 12 (by kernel_rfl) (by kernel_rfl) rfl
        show (execOp act.eval _).run Tryz.prog wr = .ok (.value (.bool true)) wr
        generalize act.eval = ρ at e1 e2 ⊢
        unfold execOp
        simp [go_sem, e1, e2, z1]), ?_⟩
      refine ⟨gVal rfl (.inr ⟨10, true, 64, rfl, (by kernel_rfl), (by kernel_rfl), rfl, rfl⟩) rfl (fun L v act wr K => by
        have e1 : act.eval (.tmp 67) = .bool true := K.at_val 13 (by kernel_rfl) (by kernel_rfl) rfl
        exact run_move _ rfl e1), ?_⟩
      refine ⟨gSkip rfl (.inr ⟨14, false, 68, rfl, (by kernel_rfl), (by kernel_rfl), rfl, rfl⟩) rfl rfl, ?_⟩
      refine ⟨gSkip rfl (.inr ⟨14, false, 68, rfl, (by kernel_rfl), (by kernel_rfl), rfl, rfl⟩) rfl rfl, ?_⟩
      refine ⟨gVal rfl (.inr ⟨10, true, 64, rfl, (by kernel_rfl), (by kernel_rfl), rfl, rfl⟩) rfl (fun L v act wr K => by
        have e1 : act.eval (.tmp 68) = .bool true := K.at_val 14 (by kernel_rfl) (by kernel_rfl) rfl
        have e2 : act.eval (.const (.bool true)) = .bool true := rfl
        show (execOp act.eval _).run Tryz.prog wr = .ok (.value (.bool true)) wr
        generalize act.eval = ρ at e1 e2 ⊢
        unfold execOp
        simp [go_sem, e1, e2]), ?_⟩
      refine ⟨gVal rfl (.inr ⟨10, true, 64, rfl, (by kernel_rfl), (by kernel_rfl), rfl, rfl⟩) rfl (fun L v act wr K => by
        have e1 : act.eval (.tmp 71) = .bool true := K.at_val 17 (by kernel_rfl) (by kernel_rfl) rfl
        exact run_move _ rfl e1), ?_⟩
      refine ⟨gSkip rfl (.inr ⟨18, false, 72, rfl, (by kernel_rfl), (by kernel_rfl), rfl, rfl⟩) rfl rfl, ?_⟩
      refine ⟨gSkip rfl (.inr ⟨18, false, 72, rfl, (by kernel_rfl), (by kernel_rfl), rfl, rfl⟩) rfl rfl, ?_⟩
      refine ⟨gSkip rfl (.inr ⟨18, false, 72, rfl, (by kernel_rfl), (by kernel_rfl), rfl, rfl⟩) rfl rfl, ?_⟩
      refine ⟨gSkip rfl (.inr ⟨18, false, 72, rfl, (by kernel_rfl), (by kernel_rfl), rfl, rfl⟩) rfl rfl, ?_⟩
      refine ⟨gSkip rfl (.inr ⟨18, false, 72, rfl, (by kernel_rfl), (by kernel_rfl), rfl, rfl⟩) rfl rfl, ?_⟩
      refine ⟨gSkip rfl (.inr ⟨18, false, 72, rfl, (by kernel_rfl), (by kernel_rfl), rfl, rfl⟩) rfl rfl, ?_⟩
      refine ⟨gSkip rfl (.inr ⟨24, true, 78, rfl, (by kernel_rfl), (by kernel_rfl), rfl, rfl⟩) rfl rfl, ?_⟩
      refine ⟨gSkip rfl (.inr ⟨24, true, 78, rfl, (by kernel_rfl), (by kernel_rfl), rfl, rfl⟩) rfl rfl, ?_⟩
      refine ⟨gSkip rfl (.inr ⟨24, true, 78, rfl, (by kernel_rfl), (by kernel_rfl), rfl, rfl⟩) rfl rfl, ?_⟩
      refine ⟨gSkip rfl (.inr ⟨24, true, 78, rfl, (by kernel_rfl), (by kernel_rfl), rfl, rfl⟩) rfl rfl, ?_⟩
      refine ⟨gSkip rfl (.inr ⟨24, true, 78, rfl, (by kernel_rfl), (by kernel_rfl), rfl, rfl⟩) rfl rfl, ?_⟩
      refine ⟨gSkip rfl (.inr ⟨18, false, 72, rfl, (by kernel_rfl), (by kernel_rfl), rfl, rfl⟩) rfl rfl, ?_⟩
      refine ⟨gVal rfl (.inr ⟨10, true, 64, rfl, (by kernel_rfl), (by kernel_rfl), rfl, rfl⟩) rfl (fun L v act wr K => by
        have e1 : act.eval (.tmp 72) = .bool true := K.at_val 18 (by kernel_rfl) (by kernel_rfl) rfl
        have e2 : act.eval (.const (.bool true)) = .bool true := rfl
        show (execOp act.eval _).run Tryz.prog wr = .ok (.value (.bool true)) wr
        generalize act.eval = ρ at e1 e2 ⊢
        unfold execOp
        simp [go_sem, e1, e2]), ?_⟩
      refine ⟨gVal rfl (.inl ⟨rfl, rfl⟩) rfl (fun L v act wr K => by
        have e1 : act.eval (.tmp 64) = .bool true := K.at_val 10 (by kernel_rfl) (by kernel_rfl) rfl
        have e2 : act.eval (.tmp 85) = .bool true := K.at_val 31 (by kernel_rfl) (by kernel_rfl) rfl
        show (execOp act.eval _).run Tryz.prog wr = .ok (.value (.bool true)) wr
        generalize act.eval = ρ at e1 e2 ⊢
        unfold execOp
        simp [go_sem, e1, e2]), ?_⟩
      refine ⟨gVal rfl (.inl ⟨rfl, rfl⟩) rfl (fun L v act wr K => by
        have e1 : act.eval (.tmp 86) = .bool true := K.at_val 32 (by kernel_rfl) (by kernel_rfl) rfl
        exact run_assign _ rfl e1), ?_⟩
      exact trivial
    have e33 : v 33 = .bool true := hG 33 (by show 33 < 34; decide)
    have HBT := hid (HB8.out.trans (hb.mono HB8.out.size))
    clear hG hb
    simp only [putsAll, Act.put, List.setIfInBounds_toArray, List.set_cons_zero, List.set_cons_succ, e33]
    go_wp2
    go_ret
    exact ⟨rfl, HBT.out⟩

end Go.Proofs.YtlbfcnpnfoapnaaGreatDoor.Ff
