/-
  The walks of impl.volumesOf and impl.PoolDo. No condition but lists of at most 2^20.
-/
import Derived.Test.YtieohdfhbfeoaaaPpCh
namespace Go.Proofs.Ytieohdfhbfeoaaa.Pl
open Go.RowKit Go.Proofs.Ytieohdfhbfeoaaa.Mem
set_option linter.unusedVariables false

theorem results_pool2 {P : Program} {fn : Func} {p u : Tmp} {ty : TypeId} (h : fn.results = #[.cell p ty, .tmp u]) (tmps : Array Value) (w : World) (g : Nat) (xs : List Value) (d : TypeDesc)
    (hp : tmps.getD p undef = .pointer (some ⟨g, 0, none⟩)) (hr : Row w g xs)
    (hu : P.underlying ty = some d) (hd : (match d with | .struct _ | .array _ _ => true | _ => false) = true) (hi : (P.info? ty).map (·.size) = some xs.length) :
    (results fn tmps).run P w = .ok (.tuple #[.agg xs.toArray, tmps.getD u undef]) w := by
  obtain ⟨t, hb⟩ := hr
  rw [results_cell_tmp h, hp]
  have hl := run_loadVar_row (P := P) w g t ty xs.toArray (0, 0) d hb hu hd (by simpa using hi)
  simp [asAddr, Result.andThen, hl]

def toIv (x : Pv) : Iv := (x.on, x.h, x.t)
theorem range4 {X : Type} (l : List X) (d : X) (h : l.length = 4) : (List.range 4).map (fun i => l.getD i d) = l := by
  match l, h with
  | [a, b, c, e], _ => rfl
theorem toIv_data {x : Pv} (h1 : x.hs.length = 4) (h2 : x.ts.length = 4) : ivData (toIv x) = x.data := by
  show (x.on, (List.range 4).map (fun i => x.hs.getD i false), (List.range 4).map (fun i => x.ts.getD i ByteArray.empty)) = _
  rw [range4 _ _ h1, range4 _ _ h2]
  rfl
theorem ok_each {L : List Pv} (h : modelOk L = true) : L.length = 4 ∧ ∀ x ∈ L, x.hs.length = 4 ∧ x.ts.length = 4 := by
  unfold modelOk at h
  rw [Bool.and_eq_true] at h
  refine ⟨of_decide_eq_true h.1, fun x hx => ?_⟩
  have := (List.all_eq_true.1 h.2) x hx
  unfold Pv.ok at this
  rw [Bool.and_eq_true, Bool.and_eq_true] at this
  exact ⟨of_decide_eq_true this.1.1, of_decide_eq_true this.1.2⟩
theorem toIv_all {L : List Pv} (h : ∀ x ∈ L, x.hs.length = 4 ∧ x.ts.length = 4) : (L.map toIv).map ivData = L.map Pv.data := by
  rw [List.map_map]
  exact List.map_congr_left (fun x hx => toIv_data (h x hx).1 (h x hx).2)

set_option maxRecDepth 100000 in
set_option maxHeartbeats 4000000 in
theorem volumesOf (w : World) (a : Option Addr) (cap : Nat) (L : List Pv) (S : Pvs w a L) (hl : L.length ≤ 1048575) (he : ∀ x ∈ L, x.hs.length = 4 ∧ x.ts.length = 4) :
    Calls Try.prog 34 #[plV a L.length cap] w fun r w' => ∃ v G, r = .returned v ∧ Vgr w.heap.size G (L.map toIv) v w' ∧ Below w.heap.size w w' := by
  unfold plV
  have HS := hid S
  have HE := hid he
  clear S he
  obtain ⟨wa, hwa, ez, A0, B0⟩ := one_new w [.slice a L.length cap] 24
  have HB := hid B0
  have k0 := A0.c 0 rfl
  clear A0 B0 ez
  go_enter Try.func34, Try.ntmps34
  go_wp2
  try simp only [hwa]
  clear hwa k0
  go_loopw [3, 9] (fun v i wr => ∃ (k : Nat) (G : List Nat), k ≤ L.length ∧ i = .int .i64 (k : Int) ∧ Hid (G.length = k) ∧ Hid (Vgr w.heap.size G ((L.take k).map toIv) v wr) ∧ Hid (Below w.heap.size w wr)) (fun _ i _ => L.length - (intOf i).toNat)
  case atStart => exact ⟨0, [], Nat.zero_le _, rfl, rfl, vgr_none _ _ _ HB.out.size, HB⟩
  case round =>
    obtain ⟨k, G, hk, rfl, HN, HV, HW⟩ := hrel
    by_cases hlt : k < L.length
    · obtain ⟨b, off, rfl, c0, c1, c2, i1, i2⟩ := Pvs.at_ (HS.out.below HW.out) k hlt
      have hx4 := HE.out (L.getD k Pv.none) (by simp [List.getD, hlt])
      have hdx : (L.take (k + 1)).map toIv = (L.take k).map toIv ++ [toIv (L.getD k Pv.none)] := by
        rw [List.take_add_one, List.map_append, List.getElem?_eq_getElem hlt]
        simp only [Option.toList_some, List.map_cons, List.map_nil, List.getD, List.getElem?_eq_getElem hlt, Option.getD_some]
      generalize L.getD k Pv.none = x at c0 c1 c2 i1 i2 hx4 hdx
      have HDx := hid hdx
      have HX4 := hid hx4
      have HXV : Hid (x.val = .agg #[.bool x.on, .slice x.ha x.hs.length x.hc, .slice x.ta x.ts.length x.tc]) := rfl
      obtain ⟨wb, hwb, eb, A1, B1⟩ := one_new wr [.bool x.on, .slice x.ha x.hs.length x.hc, .slice x.ta x.ts.length x.tc] 49
      have HB1 := hid B1
      have HI1 := hid (Sl.below i1 B1)
      have HI2 := hid (Sl.below i2 B1)
      have m0 := A1.c 0 rfl
      have m1 := A1.c 1 rfl
      have m2 := A1.c 2 rfl
      clear A1 B1 i1 i2 eb hdx hx4
      have hgl : G.length + 1 ≤ 1048576 := by have := HN.out; omega
      go_wp2_with fail
      try simp only [hwb]
      clear hwb c0 c1 c2 m0 m1 m2
      rw [← HXV.out]
      refine (volumeOf wb x ⟨HI1.out, HI2.out⟩ HX4.out.1 HX4.out.2).mono ?_
      rintro e w1 ⟨g, rfl, hg1, hg2, R1, b1⟩
      have HBr := hid (HB1.out.trans (b1.mono HB1.out.size))
      have HR1 : Hid (Row w1 g (ivR (toIv x).1 (toIv x).2.1 (toIv x).2.2)) := R1
      have HVb := hid (HV.out.below HBr.out)
      have hgr : wr.heap.size ≤ g := Nat.le_trans HB1.out.size hg1
      have HGr := hid hgr
      clear R1 b1 hg1 hg2 hgr
      go_wp2_with (at_builtin; refine wpList_app 51 52 (.pointer none) 1 8 Try.underlying51 infoPtr rfl (by decide) (by decide) _ rfl (.tmp 13) (.tmp 16) rfl w.heap.size _ G.length (G.map ptrV) rfl (HVb.out.below ((Below.refl _ w1).alloc (Nat.le_refl _) _)).row ⟨w1.heap.size, 0, none⟩ 1 1 [.pointer (some ⟨g, 0, none⟩)] rfl rfl (sl_cells w1 [.pointer (some ⟨g, 0, none⟩)] 52 1 rfl) (by intro u hu; simp at hu; subst hu; rfl) hgl (HVb.out.below ((Below.refl _ w1).alloc (Nat.le_refl _) _)).ge ?_; intro v3 w3 r3 kk3 tri3; have HM := hid (HV.out.more (HBr.out.alloc HBr.out.size _) HGr.out (HR1.out.alloc _) r3 kk3 tri3); have HWb := hid ((HW.out.trans (HBr.out.mono HW.out.size)).alloc (HW.out.trans (HBr.out.mono HW.out.size)).size (.cells #[.pointer (some ⟨g, 0, none⟩)] 52)); have HW3 := hid (HWb.out.trans (kk3.below HWb.out.size (fun b hb e => by have := (RowO.lt HV.out.row e).1; omega))); obtain ⟨pc, cc, ec, _⟩ := r3.wr; subst ec; clear r3 kk3 tri3)
      exact ⟨⟨k + 1, G ++ [g], by omega, by go_num, by rw [Hid, List.length_append, HN.out]; rfl, by rw [HDx.out]; exact HM, HW3⟩, by simp [intOf]; omega⟩
    · obtain rfl : k = L.length := by omega
      have HV' := HV.out
      rw [List.take_length] at HV'
      obtain ⟨a1, cap1, rfl, _⟩ := HV'.ivs
      have HVV := hid HV'
      clear HV' HV
      go_wp2
      go_ret
      exact ⟨_, G, rfl, HVV.out, HW.out⟩

/-- What PoolDo answers. -/
def poolDo (L : List Pv) (k v t m : Int) (s : ByteArray) : List Dt × Bool := if modelOk L = true then doD (L.map Pv.data) k v t m s else ([], false)
theorem poolDo_data {L M : List Pv} (h : L.map Pv.data = M.map Pv.data) (k v t m : Int) (s : ByteArray) : poolDo L k v t m s = poolDo M k v t m s := by unfold poolDo; rw [modelOk_data h, h]

set_option maxRecDepth 100000 in
set_option maxHeartbeats 4000000 in
theorem iPoolDo (w : World) (a : Option Addr) (cap : Nat) (L : List Pv) (k v t m : Int) (s : ByteArray) (S : Pvs w a L) (hl : L.length ≤ 1048576) (hs : s.size ≤ 1048576) :
    Calls Try.prog 19 #[plV a L.length cap, opV k v t m s] w fun r w' => ∃ a' cap' M, r = .returned (.tuple #[plV a' (M : List Pv).length cap', .bool (poolDo L k v t m s).2]) ∧ PvsW w' w.heap.size a' M ∧ M.map Pv.data = (poolDo L k v t m s).1 ∧ Below w.heap.size w w' := by
  have HS := hid S
  have HL := hid hl
  clear S hl
  have HVp : Hid (∀ a n c, plV a n c = .agg #[.slice a n c]) := fun _ _ _ => rfl
  have HV : Hid (opV k v t m s = .agg #[.int .i64 k, .int .i64 v, .int .i64 t, .int .i64 m, .string s]) := rfl
  rw [HV.out, HVp.out]
  generalize hX : poolDo L k v t m s = X
  have HX := hid hX
  clear hX
  obtain ⟨X1, X2⟩ := X
  obtain ⟨wa, hwa, ez, A0, C0, D0, B0⟩ : ∃ wa, ((w.alloc (.cells #[.slice a L.length cap] 24)).alloc (.cells #[.int .i64 k, .int .i64 v, .int .i64 t, .int .i64 m, .string s] 41)).alloc (.cells #[.slice none 0 0] 24) = wa ∧ True ∧ Row wa w.heap.size [.slice a L.length cap] ∧ Row wa (w.heap.size + 1) [.int .i64 k, .int .i64 v, .int .i64 t, .int .i64 m, .string s] ∧ Row wa (w.heap.size + 1 + 1) [.slice none 0 0] ∧ Below w.heap.size w wa :=
    ⟨_, rfl, trivial, three_x w [.slice a L.length cap] [.int .i64 k, .int .i64 v, .int .i64 t, .int .i64 m, .string s] [.slice none 0 0] 24 41 24⟩
  have HA := hid A0
  have HC := hid C0
  have HD := hid D0
  have HB := hid B0
  have k0 := A0.c 0 rfl
  clear A0 B0 C0 D0 ez
  go_enter Try.func19, Try.ntmps19
  go_wp2_with fail
  try simp only [hwa]
  clear hwa k0
  refine (iModelOk wa a cap L (HS.out.below HB.out) HL.out).mono ?_
  rintro e w1 ⟨rfl, b1⟩
  have HA1 := hid (HA.out.below b1 HA.out.lt)
  have HC1 := hid (HC.out.below b1 HC.out.lt)
  have HD1 := hid (HD.out.below b1 HD.out.lt)
  have HB1 := hid (HB.out.trans (b1.mono HB.out.size))
  clear b1 HA HC HD HB
  cases hm : modelOk L with
  | false =>
    have hd := HX.out
    unfold poolDo at hd
    rw [if_neg (by rw [hm]; simp)] at hd
    cases hd
    have d0 := HD1.out.c 0 rfl
    have df := HD1.out.f 0
    clear hm HX
    go_wp2
    refine bodyPost_ret (results_pool2 rfl _ _ (w.heap.size + 1 + 1) [.slice none 0 0] _ rfl (HD1.out.set 0 (.slice none 0 0)) Try.underlying24 rfl (by kernel_rfl)) rfl ?_
    exact ⟨none, 0, [], rfl, ⟨fun i hi => by simp at hi, fun x hx => by simp at hx, fun x hx => by simp at hx, List.Pairwise.nil, fun x hx => by simp at hx⟩, rfl, below_set HB1.out _ _ _ (by omega)⟩
  | true =>
    have hd := HX.out
    unfold poolDo at hd
    rw [if_pos hm] at hd
    obtain ⟨e4, eac⟩ := ok_each hm
    rw [← toIv_all eac] at hd
    have HDd := hid hd
    have HEa := hid eac
    have HE4 := hid e4
    clear hm HX hd eac e4
    have k0 := HA1.out.c 0 rfl
    go_wp2_with fail
    refine (volumesOf w1 a cap L (HS.out.below HB1.out) (by have := HE4.out; omega) HEa.out).mono ?_
    rintro e w2 ⟨vv, G, rfl, hV, b2⟩
    obtain ⟨a2, c2, rfl, hI⟩ := hV.ivs
    have HC2 := hid (HC1.out.below b2 HC1.out.lt)
    have HD2 := hid (HD1.out.below b2 HD1.out.lt)
    have HB2 := hid (HB1.out.trans (b2.mono HB1.out.size))
    have hG4 : G.length = 4 := by rw [hV.len]; simpa using HE4.out
    have HG4 := hid hG4
    have HI := hid hI
    have HND := hid hV.nd
    have HFt : Hid (∀ g ∈ G, ¬ foot a2 G.length g) := fun g hg hf => (hV.far g hg).2 (RowO.foot hV.row rfl (by simpa using hf))
    have HCt : Hid (∀ g ∈ G, w1.heap.size ≤ g) := fun g hg => (hV.far g hg).1
    have HSz := hid hV.ge
    have j0 := HC2.out.c 0 rfl
    have j1 := HC2.out.c 1 rfl
    have j2 := HC2.out.c 2 rfl
    have j3 := HC2.out.c 3 rfl
    have j4 := HC2.out.c 4 rfl
    clear hV hI b2 k0 hG4
    go_wp2_with fail
    rw [← HV.out]
    refine (changeVolumes w2 a2 c2 G _ k v t m s HI.out HG4.out HND.out HFt.out w1.heap.size HCt.out HSz.out hs).mono ?_
    rintro e w3 ⟨rfl, ⟨D', hI', hD'⟩, b3⟩
    rw [HDd.out] at hD' ⊢
    simp only [] at hD' ⊢
    have HI' := hid hI'
    have HD' := hid hD'
    have hlt2 : w.heap.size + 1 + 1 < w1.heap.size := HD1.out.lt
    have HD3 := hid (HD2.out.below b3 hlt2)
    have HB3 := hid (HB2.out.trans (b3.mono HB1.out.size))
    clear hI' hD' b3 j0 j1 j2 j3 j4
    go_wp2_with fail
    refine (poolOf w3 a2 c2 G D' HI'.out (by have := HG4.out; omega)).mono ?_
    rintro e w4 ⟨a', cap', M, rfl, P4, D4, b4⟩
    unfold plV
    have RD := HD3.out.below b4 HD3.out.lt
    have d0 := RD.c 0 rfl
    have df := RD.f 0
    have HRD := hid (RD.set 0 (.slice a' M.length cap'))
    have HP4 := hid P4
    have HD4 := hid (D4.trans HD'.out)
    have HB4 := hid (HB3.out.trans (b4.mono HB3.out.size))
    have hlt3 : w.heap.size + 1 + 1 < w3.heap.size := HD3.out.lt
    have HL3 := hid hlt3
    clear RD P4 D4 b4 hlt2 hlt3
    go_wp2
    refine bodyPost_ret (results_pool2 rfl _ _ (w.heap.size + 1 + 1) [.slice a' M.length cap'] _ rfl HRD.out Try.underlying24 rfl (by kernel_rfl)) rfl ?_
    have hlt3 := HL3.out
    exact ⟨a', cap', M, rfl, (HP4.out.kept (kept_set w4 (w.heap.size + 1 + 1) 0 _) (fun b hb => by omega)).mono (by omega), HD4.out, below_set HB4.out _ _ _ (by omega)⟩

end Go.Proofs.Ytieohdfhbfeoaaa.Pl
