/-
  The walks of impl.showOuts and impl.ShowJournal. Condition for the last: the table of sixteen sums holds what the program's text lays.
-/
import Derived.Test.YtaopkchkhdbfnaaGreatDoorSecJn6
namespace Go.Proofs.YtaopkchkhdbfnaaGreatDoor.Sec
open Go.RowKit Go.Proofs.YtaopkchkhdbfnaaGreatDoor.Mem
set_option linter.unusedVariables false

set_option maxRecDepth 100000 in
set_option maxHeartbeats 2000000 in
theorem showOuts (w : World) (a : Option Addr) (cap : Nat) (l : List Ou) (S : Ous w a l) (hl : l.length ≤ 8) (he : ∀ i, i < l.length → ((l.getD i Ou.none).text.size : Int) ≤ 60) :
    Calls Tryz.prog 188 #[.slice a l.length cap] w fun e w' => e = .returned (.string (vr (l.length : Int) ++ outsS l)) ∧ Below w.heap.size w w' := by
  have HS := hid S
  have HO := hid (outsS_size l hl he)
  have HE := hid he
  have HN := hid (Build.Bd.new w)
  have zl := vr_size (l.length : Int)
  clear S he
  go_enter Tryz.func188, Tryz.ntmps188
  go_wp2_with fail
  obtain ⟨wa, hwa⟩ : ∃ wa, w.alloc (.cells #[.pointer none, .slice none 0 0] 280) = wa := ⟨_, rfl⟩
  have HB0 : Hid (Below w.heap.size w wa) := by rw [← hwa]; exact (Below.refl _ _).alloc (Nat.le_refl _) _
  rw [hwa] at HN
  simp only [hwa]
  clear hwa
  refine (iVar (l.length : Int) _).mono ?_
  rintro e w1 ⟨rfl, b1⟩
  have HB1 := hid (HB0.out.trans (b1.mono HB0.out.size))
  have HD1 := hid (HN.out.below b1)
  clear b1 HN HB0
  go_wp2_with fail
  refine (Build.write w.heap.size w.heap.size _ (vr (l.length : Int)) w1 HD1.out (by show 0 + _ ≤ _; omega) HB1.out.size).mono ?_
  rintro e w2 ⟨rfl, hD2, b2⟩
  rw [empty_append] at hD2
  have HD2 := hid hD2
  have HB2 := hid (HB1.out.trans b2)
  clear hD2 b2 HD1 HB1
  generalize hp : vr (l.length : Int) = p at *
  have HP := hid hp
  clear hp
  go_wp2
  go_loopw [12] (fun i wr => ∃ k : Nat, k ≤ l.length ∧ i = .int .i64 (k : Int) ∧ Hid (Build.Bd w.heap.size w.heap.size (p ++ outsS (l.take k)) wr) ∧ Hid (Below w.heap.size w wr)) (fun i _ => l.length - (intOf i).toNat)
  case atStart => exact ⟨0, Nat.zero_le _, rfl, by rw [show outsS (l.take 0) = ⟨#[]⟩ from rfl, append_empty]; exact HD2, HB2⟩
  case round =>
    obtain ⟨k, hk, rfl, HD, HB⟩ := hrel
    by_cases hlt : k < l.length
    · obtain ⟨b, off, rfl, c0, c1⟩ := Ous.at_ (HS.out.below HB.out) k hlt
      have hsz := HE.out k hlt
      have HT := hid (outsS_take l k hlt)
      have hz := HO.out k (by omega)
      generalize l.getD k Ou.none = x at c0 c1 hsz HT
      obtain ⟨xs, xt⟩ := x
      simp only [] at c0 c1 hsz HT
      generalize outsS (l.take k) = o at *
      have hps : (p ++ o).size ≤ 1000 := by rw [ByteArray.size_append]; omega
      have HAs : Hid (p ++ o ++ vr xs ++ piece xt = p ++ (o ++ vr xs ++ piece xt)) := by rw [Hid, append_assoc, append_assoc, append_assoc]
      generalize p ++ o = q at *
      have y1 := vr_size xs
      have y2 := piece_size xt
      have hlb := HD.out.lt
      go_wp2_with fail
      obtain ⟨wo, hwo⟩ : ∃ wo, wr.alloc (.cells #[.int .i64 xs, .string xt] 187) = wo := ⟨_, rfl⟩
      have RO : wo.heap[wr.heap.size]? = some (.cells [Value.int .i64 xs, .string xt].toArray 187 (0, 0)) := by rw [← hwo]; exact heap_alloc_new wr _
      have B0 : Below wr.heap.size wr wo := by rw [← hwo]; exact (Below.refl _ _).alloc (Nat.le_refl _) _
      have hso : wr.heap.size < wo.heap.size := by rw [← hwo]; exact lt_alloc _ _
      simp only [hwo]
      have HBo := hid (HB.out.trans (B0.mono HB.out.size))
      have HDo := hid (HD.out.below B0)
      clear hwo B0 c0 c1
      refine (iVar xs _).mono ?_
      rintro e w3 ⟨rfl, b3⟩
      have RO3 : w3.heap[wr.heap.size]? = some (.cells [Value.int .i64 xs, .string xt].toArray 187 (0, 0)) := by rw [b3.block _ hso]; exact RO
      have HB3 := hid (HBo.out.trans (b3.mono HBo.out.size))
      have HD3 := hid (HDo.out.below b3)
      have hs3 := b3.size
      clear b3 RO
      have HR3 := hid RO3
      clear RO3
      go_wp2_with fail
      refine (Build.write_others w.heap.size w.heap.size q (vr xs) w3 HD3.out (by omega) HB3.out.size).mono ?_
      rintro e w4 ⟨rfl, hD4, b4, o4⟩
      have HR4 := hid (o4.row (by omega) (by decide) HR3.out)
      have HD4 := hid hD4
      have HB4 := hid (HB3.out.trans b4)
      have d1 : w4.cell? ⟨wr.heap.size, 1, none⟩ = some (.string xt) := by rw [cell_of_row w4 wr.heap.size 1 _ _ (0, 0) HR4.out]; rfl
      have d0 : w4.cell? ⟨wr.heap.size, 0, none⟩ = some (.int .i64 xs) := by rw [cell_of_row w4 wr.heap.size 0 _ _ (0, 0) HR4.out]; rfl
      clear hD4 b4 o4
      go_wp2_with fail
      refine (showPiece xt _ (by omega)).mono ?_
      rintro e w5 ⟨rfl, b5⟩
      have HB5 := hid (HB4.out.trans (b5.mono HB4.out.size))
      have HD5 := hid (HD4.out.below b5)
      clear b5 d0 d1
      have hqv : (q ++ vr xs).size ≤ 1007 := by rw [ByteArray.size_append]; omega
      go_wp2_with fail
      refine (Build.write w.heap.size w.heap.size (q ++ vr xs) (piece xt) w5 HD5.out (by omega) HB5.out.size).mono ?_
      rintro e w6 ⟨rfl, hD6, b6⟩
      have HD6 := hid hD6
      have HB6 := hid (HB5.out.trans b6)
      clear hD6 b6
      go_wp2
      exact ⟨⟨k + 1, by omega, by go_num, by rw [HT.out, ← HAs.out]; exact HD6, HB6⟩, by simp [intOf]; omega⟩
    · obtain rfl : k = l.length := by omega
      have HD' : Hid (Build.Bd w.heap.size w.heap.size (p ++ outsS l) wr) := by have := HD.out; rwa [List.take_length] at this
      go_wp2_with fail
      refine (Build.string w.heap.size w.heap.size (p ++ outsS l) wr HD'.out HB.out.size).mono ?_
      rintro e w1 ⟨rfl, b1⟩
      have HB1 := hid (HB.out.trans b1)
      clear b1
      go_wp2
      go_ret
      exact ⟨Own.ret_str (by rw [HP.out]), HB1.out⟩

theorem vrs4 (k v t a : Int) : vrs 0 [k, v, t, a] = vr k ++ vr v ++ vr t ++ vr a := by
  unfold vrs
  simp only [List.foldl_cons, List.foldl_nil, Int.sub_zero, empty_append]

theorem head_impl (J : Jn) : (⟨#[106]⟩ : ByteArray) ++ vr J.txn ++ flag J.done ++ opS J.kind J.vol J.to J.at_ J.text ++ (vr (J.outs.length : Int) ++ outsS J.outs) = J.head ++ outsS J.outs := by
  unfold opS Jn.head
  rw [vrs4]
  simp only [append_assoc]

set_option maxRecDepth 100000 in
set_option maxHeartbeats 4000000 in
theorem iShowJournal (w : World) (J : Jn) (a : Option Addr) (cap : Nat) (S : Ous w a J.outs) (hs : J.Small) (T : Sums w) :
    Calls Tryz.prog 131 #[jnV J a cap] w fun r w' => r = .returned (.string J.show) ∧ Below w.heap.size w w' := by
  have HS := hid S
  have HSm := hid hs
  have HT := hid T
  clear S hs T
  obtain ⟨txn, dn, k, v, t, at_, s, l⟩ := J
  have HV : Hid (jnV ⟨txn, dn, k, v, t, at_, s, l⟩ a cap = .agg #[.int .i64 txn, .bool dn, .int .i64 k, .int .i64 v, .int .i64 t, .int .i64 at_, .string s, .slice a l.length cap]) := rfl
  rw [HV.out]
  obtain ⟨wa, hwa, ez, A0, B0⟩ := one_new w [.int .i64 txn, .bool dn, .int .i64 k, .int .i64 v, .int .i64 t, .int .i64 at_, .string s, .slice a l.length cap] 95
  have k0 := A0.c 0 rfl
  have k1 := A0.c 1 rfl
  have k2 := A0.c 2 rfl
  have k3 := A0.c 3 rfl
  have k4 := A0.c 4 rfl
  have k5 := A0.c 5 rfl
  have k6 := A0.c 6 rfl
  have k7 := A0.c 7 rfl
  have HA := hid A0
  have HB := hid B0
  clear A0 B0
  go_enter Tryz.func131, Tryz.ntmps131
  go_wp2_with fail
  refine (isJournal wa ⟨txn, dn, k, v, t, at_, s, l⟩ a cap (HS.out.below HB.out) HSm.out).mono ?_
  rintro r w2 ⟨rfl, b2⟩
  have HA2 := hid (HA.out.below b2 HA.out.lt)
  have HB2 := hid (HB.out.trans (b2.mono HB.out.size))
  have HT2 := hid (HT.out.below HB2.out)
  clear b2 hwa HA k0 k1 k2 k3 k4 k5 k6 k7
  cases hf : (Jn.mk txn dn k v t at_ s l).ok with
  | false =>
    have HN := hid (jn_no hf)
    clear hf
    go_wp2
    go_ret
    exact ⟨Own.ret_str HN.out.symm, HB2.out⟩
  | true =>
    have HY := hid (jn_yes hf)
    have HF := hid (Jn.fine hf)
    have HZ := hid (jn_size HF.out)
    have HI := hid (head_impl ⟨txn, dn, k, v, t, at_, s, l⟩)
    have zo : (outsS l).size ≤ 592 := by have := outsS_size l HF.out.outs HF.out.each l.length (Nat.le_refl _); rw [List.take_length] at this; have := HF.out.outs; simp only [] at *; omega
    have z0 := vr_size txn
    have z6 := vr_size (l.length : Int)
    have z7 : (flag dn).size ≤ 7 := vr_size _
    have z8 : (opS k v t at_ s).size ≤ 51 := by
      have h1 := vrs_size 0 [k, v, t, at_]
      have h2 := piece_size s
      have h3 : s.size ≤ 16 := HF.out.text
      have h4 : [k, v, t, at_].length = 4 := rfl
      unfold opS
      rw [ByteArray.size_append]; omega
    have z9 : (vr (l.length : Int) ++ outsS l).size ≤ 599 := by rw [ByteArray.size_append]; omega
    have HZ' : Hid (((⟨#[106]⟩ : ByteArray) ++ vr txn ++ flag dn ++ opS k v t at_ s ++ (vr (l.length : Int) ++ outsS l)).size ≤ 1048576) := by
      rw [Hid, show (⟨#[106]⟩ : ByteArray) ++ vr txn ++ flag dn ++ opS k v t at_ s ++ (vr (l.length : Int) ++ outsS l) = _ from HI.out]; exact HZ.out
    have HR : Hid (summed ((⟨#[106]⟩ : ByteArray) ++ vr txn ++ flag dn ++ opS k v t at_ s ++ (vr (l.length : Int) ++ outsS l)) = (Jn.mk txn dn k v t at_ s l).show) := by
      rw [Hid, show (⟨#[106]⟩ : ByteArray) ++ vr txn ++ flag dn ++ opS k v t at_ s ++ (vr (l.length : Int) ++ outsS l) = _ from HI.out]; exact HY.out
    generalize hou : vr (l.length : Int) ++ outsS l = ou at *
    have HOu := hid hou
    clear hf hou
    go_wp2
    have k0 := BW.cell (HA2.out.c 0 rfl)
    have k1 := BW.cell (HA2.out.c 1 rfl)
    have k2 := BW.cell (HA2.out.c 2 rfl)
    have k3 := BW.cell (HA2.out.c 3 rfl)
    have k4 := BW.cell (HA2.out.c 4 rfl)
    have k5 := BW.cell (HA2.out.c 5 rfl)
    have k6 := BW.cell (HA2.out.c 6 rfl)
    have k7 := BW.cell (HA2.out.c 7 rfl)
    have hne : Nonempty (BW w2) := ⟨⟨w2, Below.refl _ _⟩⟩
    refine wp_region_bw (by kernel_rfl) (by kernel_rfl) ?_
    repeat (go_big_quiet_step (first
      | (go_at_call 185; refine bw_below (iVar _ _))
      | (go_at_call 186; refine bw_below (showFlag dn _))
      | (go_at_call 187; refine bw_below (showOp k v t at_ s _ HF.out.text HF.out.kind HF.out.vol HF.out.to HF.out.at_))
      | (go_at_call 188; refine bw_below (HOu.out ▸ showOuts _ a cap l (HS.out.below (HB2.out.trans ((BW.bel _).mono HB2.out.size))) HF.out.outs HF.out.each))
      | (go_at_call 184; refine bw_below (withSum' _ _ HZ'.out (HT2.out.below (BW.bel _))))))
    refine wpQuiet_nil ?_
    intro _ hw'
    obtain ⟨u, rfl⟩ := hw'
    have HU := hid (HB2.out.trans (u.bel.mono HB2.out.size))
    clear k0 k1 k2 k3 k4 k5 k6 k7
    go_wp2
    go_ret
    exact ⟨Own.ret_str HR.out, HU.out⟩

end Go.Proofs.YtaopkchkhdbfnaaGreatDoor.Sec
