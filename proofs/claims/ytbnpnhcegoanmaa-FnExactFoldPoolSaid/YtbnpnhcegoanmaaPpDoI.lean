/-
  The walks of impl.volumesOf and impl.PoolDo. No condition but lists of at most 2^20.
-/
import Derived.Test.YtbnpnhcegoanmaaPpCh
namespace Go.Proofs.Ytbnpnhcegoanmaa.Pl
open Go.RowKit Go.Proofs.Ytbnpnhcegoanmaa.Mem
set_option linter.unusedVariables false

theorem results_pool2 {P : Program} {fn : Func} {p u : Tmp} {ty : TypeId} (h : fn.results = #[.cell p ty, .tmp u]) (tmps : Array Value) (w : World) (g : Nat) (xs : List Value) (d : TypeDesc)
    (hp : tmps.getD p undef = .pointer (some ⟨g, 0, none⟩)) (hr : Row w g xs)
    (hu : P.underlying ty = some d) (hd : (match d with | .struct _ | .array _ _ => true | _ => false) = true) (hi : (P.info? ty).map (·.size) = some xs.length) :
    (results fn tmps).run P w = .ok (.tuple #[.agg xs.toArray, tmps.getD u undef]) w := by
  obtain ⟨t, hb⟩ := hr
  rw [results_cell_tmp h, hp]
  have hl := run_loadVar_row (P := P) w g t ty xs.toArray (0, 0) d hb hu hd (by simpa using hi)
  simp [asAddr, Result.andThen, hl]

def toIv (x : Pv) : Iv := (x.on, x.h, x.t)
theorem range4 {X : Type} (l : List X) (d : X) (h : l.length = 4) : (List.range 4).map (fun i => l.getD i d) = l := by
  match l, h with
  | [a, b, c, e], _ => rfl
theorem toIv_data {x : Pv} (h1 : x.hs.length = 4) (h2 : x.ts.length = 4) : ivData (toIv x) = x.data := by
  show (x.on, (List.range 4).map (fun i => x.hs.getD i false), (List.range 4).map (fun i => x.ts.getD i ByteArray.empty)) = _
  rw [range4 _ _ h1, range4 _ _ h2]
  rfl
theorem ok_each {L : List Pv} (h : modelOk L = true) : L.length = 4 ∧ ∀ x ∈ L, x.hs.length = 4 ∧ x.ts.length = 4 := by
  unfold modelOk at h
  rw [Bool.and_eq_true] at h
  refine ⟨of_decide_eq_true h.1, fun x hx => ?_⟩
  have := (List.all_eq_true.1 h.2) x hx
  unfold Pv.ok at this
  rw [Bool.and_eq_true, Bool.and_eq_true] at this
  exact ⟨of_decide_eq_true this.1.1, of_decide_eq_true this.1.2⟩
theorem toIv_all {L : List Pv} (h : ∀ x ∈ L, x.hs.length = 4 ∧ x.ts.length = 4) : (L.map toIv).map ivData = L.map Pv.data := by
  rw [List.map_map]
  exact List.map_congr_left (fun x hx => toIv_data (h x hx).1 (h x hx).2)

set_option maxRecDepth 100000 in
set_option maxHeartbeats 4000000 in
theorem volumesOf (w : World) (a : Option Addr) (cap : Nat) (L : List Pv) (S : Pvs w a L) (hl : L.length ≤ 1048575) (he : ∀ x ∈ L, x.hs.length = 4 ∧ x.ts.length = 4) :
    Calls Try.prog 20 #[plV a L.length cap] w fun r w' => ∃ v G, r = .returned v ∧ Vgr w.heap.size G (L.map toIv) v w' ∧ Below w.heap.size w w' := by
  unfold plV
  have HS := hid S
  have HE := hid he
  clear S he
  obtain ⟨wa, hwa, ez, A0, B0⟩ := one_new w [.slice a L.length cap] 26
  have HB := hid B0
  have k0 := A0.c 0 rfl
  clear A0 B0 ez
  go_enter Try.func20, Try.ntmps20
  go_wp2
  try simp only [hwa]
  clear hwa k0
  go_loopw [3, 9] (fun v i wr => ∃ (k : Nat) (G : List Nat), k ≤ L.length ∧ i = .int .i64 (k : Int) ∧ Hid (G.length = k) ∧ Hid (Vgr w.heap.size G ((L.take k).map toIv) v wr) ∧ Hid (Below w.heap.size w wr)) (fun _ i _ => L.length - (intOf i).toNat)
  case atStart => exact ⟨0, [], Nat.zero_le _, rfl, rfl, vgr_none _ _ _ HB.out.size, HB⟩
  case round =>
    obtain ⟨k, G, hk, rfl, HN, HV, HW⟩ := hrel
    by_cases hlt : k < L.length
    · obtain ⟨b, off, rfl, c0, c1, c2, i1, i2⟩ := Pvs.at_ (HS.out.below HW.out) k hlt
      have hx4 := HE.out (L.getD k Pv.none) (by simp [List.getD, hlt])
      have hdx : (L.take (k + 1)).map toIv = (L.take k).map toIv ++ [toIv (L.getD k Pv.none)] := by
        rw [List.take_add_one, List.map_append, List.getElem?_eq_getElem hlt]
        simp only [Option.toList_some, List.map_cons, List.map_nil, List.getD, List.getElem?_eq_getElem hlt, Option.getD_some]
      generalize L.getD k Pv.none = x at c0 c1 c2 i1 i2 hx4 hdx
      have HDx := hid hdx
      have HX4 := hid hx4
      have HXV : Hid (x.val = .agg #[.bool x.on, .slice x.ha x.hs.length x.hc, .slice x.ta x.ts.length x.tc]) := rfl
      obtain ⟨wb, hwb, eb, A1, B1⟩ := one_new wr [.bool x.on, .slice x.ha x.hs.length x.hc, .slice x.ta x.ts.length x.tc] 67
      have HB1 := hid B1
      have HI1 := hid (Sl.below i1 B1)
      have HI2 := hid (Sl.below i2 B1)
      have m0 := A1.c 0 rfl
      have m1 := A1.c 1 rfl
      have m2 := A1.c 2 rfl
      clear A1 B1 i1 i2 eb hdx hx4
      have hgl : G.length + 1 ≤ 1048576 := by have := HN.out; omega
      go_wp2_with fail
      try simp only [hwb]
      clear hwb c0 c1 c2 m0 m1 m2
      rw [← HXV.out]
      refine (volumeOf wb x ⟨HI1.out, HI2.out⟩ HX4.out.1 HX4.out.2).mono ?_
      rintro e w1 ⟨g, rfl, hg1, hg2, R1, b1⟩
      have HBr := hid (HB1.out.trans (b1.mono HB1.out.size))
      have HR1 : Hid (Row w1 g (ivR (toIv x).1 (toIv x).2.1 (toIv x).2.2)) := R1
      have HVb := hid (HV.out.below HBr.out)
      have hgr : wr.heap.size ≤ g := Nat.le_trans HB1.out.size hg1
      have HGr := hid hgr
      clear R1 b1 hg1 hg2 hgr
      go_wp2_with (at_builtin; refine wpList_app 48 68 (.pointer none) 1 8 Try.underlying48 infoPtr rfl (by decide) (by decide) _ rfl (.tmp 13) (.tmp 16) rfl w.heap.size _ G.length (G.map ptrV) rfl (HVb.out.below ((Below.refl _ w1).alloc (Nat.le_refl _) _)).row ⟨w1.heap.size, 0, none⟩ 1 1 [.pointer (some ⟨g, 0, none⟩)] rfl rfl (sl_cells w1 [.pointer (some ⟨g, 0, none⟩)] 68 1 rfl) (by intro u hu; simp at hu; subst hu; rfl) hgl (HVb.out.below ((Below.refl _ w1).alloc (Nat.le_refl _) _)).ge ?_; intro v3 w3 r3 kk3 tri3; have HM := hid (HV.out.more (HBr.out.alloc HBr.out.size _) HGr.out (HR1.out.alloc _) r3 kk3 tri3); have HWb := hid ((HW.out.trans (HBr.out.mono HW.out.size)).alloc (HW.out.trans (HBr.out.mono HW.out.size)).size (.cells #[.pointer (some ⟨g, 0, none⟩)] 68)); have HW3 := hid (HWb.out.trans (kk3.below HWb.out.size (fun b hb e => by have := (RowO.lt HV.out.row e).1; omega))); obtain ⟨pc, cc, ec, _⟩ := r3.wr; subst ec; clear r3 kk3 tri3)
      exact ⟨⟨k + 1, G ++ [g], by omega, by go_num, by rw [Hid, List.length_append, HN.out]; rfl, by rw [HDx.out]; exact HM, HW3⟩, by simp [intOf]; omega⟩
    · obtain rfl : k = L.length := by omega
      have HV' := HV.out
      rw [List.take_length] at HV'
      obtain ⟨a1, cap1, rfl, _⟩ := HV'.ivs
      have HVV := hid HV'
      clear HV' HV
      go_wp2
      go_ret
      exact ⟨_, G, rfl, HVV.out, HW.out⟩

/-- What PoolDo answers. -/
def poolDo (L : List Pv) (k v t m : Int) (s : ByteArray) : List Dt × Bool := if modelOk L = true then doD (L.map Pv.data) k v t m s else ([], false)
theorem poolDo_data {L M : List Pv} (h : L.map Pv.data = M.map Pv.data) (k v t m : Int) (s : ByteArray) : poolDo L k v t m s = poolDo M k v t m s := by unfold poolDo; rw [modelOk_data h, h]

end Go.Proofs.Ytbnpnhcegoanmaa.Pl
