/-
  The walks of spec.ShowJournal, impl.showOp and impl.showOuts. No condition but texts and lists of at most 2^20.
-/
import Derived.Test.YtaopkchkhdbfnaaGreatDoorSecJn4
import Derived.RegionTactic
import Derived.BigRegion
import Derived.Deep.RegionWith
namespace Go.Proofs.YtaopkchkhdbfnaaGreatDoor.Sec
open Go.RowKit Go.Proofs.YtaopkchkhdbfnaaGreatDoor.Mem
set_option linter.unusedVariables false

/-- What a right journal's parts are bounded by. -/
structure Jn.Fine (J : Jn) : Prop where
  text : J.text.size ≤ 16
  outs : J.outs.length ≤ 8
  each : ∀ i, i < J.outs.length → ((J.outs.getD i Ou.none).text.size : Int) ≤ 60
  kind : 0 ≤ J.kind ∧ J.kind ≤ 99
  vol : 0 ≤ J.vol ∧ J.vol ≤ 99
  to : 0 ≤ J.to ∧ J.to ≤ 99
  at_ : 0 ≤ J.at_ ∧ J.at_ ≤ 99

theorem Jn.fine {J : Jn} (h : J.ok = true) : J.Fine := by
  cases hd : J.done with
  | true =>
    rw [jok_done hd, Bool.and_eq_true, Bool.and_eq_true] at h
    obtain ⟨h1, h2, h3⟩ := h
    have a := of_decide_eq_true h2
    have b := of_decide_eq_true h3
    exact ⟨by omega, by omega, fun i hi => by omega, by omega, by omega, by omega, by omega⟩
  | false =>
    rw [jok_not hd, Bool.and_eq_true, Bool.and_eq_true, Bool.and_eq_true] at h
    obtain ⟨h1, h2, h3, h4⟩ := h
    unfold opOk at h2
    rw [Bool.and_eq_true, Bool.and_eq_true, three, Bool.and_eq_true, Bool.and_eq_true, Bool.and_eq_true] at h2
    obtain ⟨⟨a, b, c, d, _⟩, e⟩ := h2
    have a' := of_decide_eq_true a
    have b' := of_decide_eq_true b
    have c' := of_decide_eq_true c
    have d' := of_decide_eq_true d
    have e' := of_decide_eq_true e
    have l' := of_decide_eq_true h3
    exact ⟨by omega, by omega, fun i hi => ((outsOk_iff _).1 h4 i hi).2.2, by omega, by omega, by omega, by omega⟩

theorem jn_no {J : Jn} (h : J.ok = false) : J.show = ⟨#[]⟩ := by unfold Jn.show; rw [h]; rfl
theorem jn_yes {J : Jn} (h : J.ok = true) : summed (J.head ++ outsS J.outs) = J.show := by unfold Jn.show; rw [h]; rfl

theorem jn_size {J : Jn} (h : J.Fine) : (J.head ++ outsS J.outs).size ≤ 1048576 := by
  have h1 := head_size J h.text
  have h2 := outsS_size J.outs h.outs h.each J.outs.length (Nat.le_refl _)
  rw [List.take_length] at h2
  have := h.outs
  rw [ByteArray.size_append]; omega

set_option maxRecDepth 100000 in
set_option maxHeartbeats 4000000 in
theorem sShowJournal (w : World) (J : Jn) (a : Option Addr) (cap : Nat) (S : Ous w a J.outs) (hs : J.Small) :
    Calls Tryz.prog 113 #[jnV J a cap] w fun r w' => r = .returned (.string J.show) ∧ Below w.heap.size w w' := by
  have HS := hid S
  have HSm := hid hs
  clear S hs
  obtain ⟨txn, dn, k, v, t, at_, s, l⟩ := J
  have HV : Hid (jnV ⟨txn, dn, k, v, t, at_, s, l⟩ a cap = .agg #[.int .i64 txn, .bool dn, .int .i64 k, .int .i64 v, .int .i64 t, .int .i64 at_, .string s, .slice a l.length cap]) := rfl
  rw [HV.out]
  obtain ⟨wa, hwa, ez, A0, B0⟩ := one_new w [.int .i64 txn, .bool dn, .int .i64 k, .int .i64 v, .int .i64 t, .int .i64 at_, .string s, .slice a l.length cap] 95
  have k0 := A0.c 0 rfl
  have k1 := A0.c 1 rfl
  have k2 := A0.c 2 rfl
  have k3 := A0.c 3 rfl
  have k4 := A0.c 4 rfl
  have k5 := A0.c 5 rfl
  have k6 := A0.c 6 rfl
  have k7 := A0.c 7 rfl
  have HA := hid A0
  have HB := hid B0
  clear A0 B0
  go_enter Tryz.func113, Tryz.ntmps113
  go_wp2_with fail
  refine (l4JournalOk wa ⟨txn, dn, k, v, t, at_, s, l⟩ a cap (HS.out.below HB.out) HSm.out).mono ?_
  rintro r w2 ⟨rfl, b2⟩
  have HA2 := hid (HA.out.below b2 HA.out.lt)
  have HB2 := hid (HB.out.trans (b2.mono HB.out.size))
  clear b2 hwa HA k0 k1 k2 k3 k4 k5 k6 k7
  cases hf : (Jn.mk txn dn k v t at_ s l).ok with
  | false =>
    have HN := hid (jn_no hf)
    clear hf
    go_wp2
    go_ret
    exact ⟨Own.ret_str HN.out.symm, HB2.out⟩
  | true =>
    have HY := hid (jn_yes hf)
    have HF := hid (Jn.fine hf)
    have HZ := hid (jn_size HF.out)
    have HO := hid (outsS_size l HF.out.outs HF.out.each)
    have HL8 : Hid (l.length ≤ 8) := HF.out.outs
    have HE : Hid (∀ i, i < l.length → ((l.getD i Ou.none).text.size : Int) ≤ 60) := HF.out.each
    have zt : s.size ≤ 16 := HF.out.text
    have z0 := vr_size txn
    have z1 := vr_size k
    have z2 := vr_size v
    have z3 := vr_size t
    have z4 := vr_size at_
    have z5 := piece_size s
    have z6 := vr_size (l.length : Int)
    have z7 : (flag dn).size ≤ 7 := vr_size _
    have HH := hid (head_size ⟨txn, dn, k, v, t, at_, s, l⟩ zt)
    have HD : Hid ((⟨#[106]⟩ : ByteArray) ++ vr txn ++ flag dn ++ vr k ++ vr v ++ vr t ++ vr at_ ++ piece s ++ vr (l.length : Int) = (Jn.mk txn dn k v t at_ s l).head) := rfl
    clear hf
    go_wp2
    have k0 := BW.cell (HA2.out.c 0 rfl)
    have k1 := BW.cell (HA2.out.c 1 rfl)
    have k2 := BW.cell (HA2.out.c 2 rfl)
    have k3 := BW.cell (HA2.out.c 3 rfl)
    have k4 := BW.cell (HA2.out.c 4 rfl)
    have k5 := BW.cell (HA2.out.c 5 rfl)
    have k6 := BW.cell (HA2.out.c 6 rfl)
    have k7 := BW.cell (HA2.out.c 7 rfl)
    have hne : Nonempty (BW w2) := ⟨⟨w2, Below.refl _ _⟩⟩
    refine wp_region_bw (by kernel_rfl) (by kernel_rfl) ?_
    repeat (go_big_quiet_step (first
      | (go_at_call 161; refine bw_below (sVar _ _))
      | (go_at_call 164; refine bw_below (l4Flag dn _))
      | (go_at_call 165; refine bw_below (l4Piece s _ (by omega)))))
    refine wpQuiet_nil ?_
    intro w3 hw'
    obtain ⟨u, hu⟩ := hw'
    have b3 := u.bel
    rw [← hu] at b3
    clear hu
    have HA3 := hid (HA2.out.below b3 HA2.out.lt)
    have HB3 := hid (HB2.out.trans (b3.mono HB2.out.size))
    clear b3 k0 k1 k2 k3 k4 k5 k6 k7 HA2 hne
    rw [HD.out]
    generalize (Jn.mk txn dn k v t at_ s l).head = p at *
    have zp := HH.out
    clear z0 z1 z2 z3 z4 z5 z6 z7
    go_wp2
    go_loopw [3, 4] (fun s i wr => ∃ k : Nat, k ≤ l.length ∧ i = .int .i64 (k : Int) ∧ s = .string (p ++ outsS (l.take k)) ∧ Hid (Below w3.heap.size w3 wr)) (fun _ i _ => l.length - (intOf i).toNat)
    case atStart => exact ⟨0, Nat.zero_le _, rfl, by rw [show outsS (l.take 0) = ⟨#[]⟩ from rfl, append_empty], Below.refl _ _⟩
    case round =>
      obtain ⟨i, hi, rfl, rfl, HBr⟩ := hrel
      have HBw := hid (HB3.out.trans (HBr.out.mono HB3.out.size))
      have m7 := (HA3.out.below HBr.out HA3.out.lt).c 7 rfl
      by_cases hlt : i < l.length
      · obtain ⟨b, off, rfl, e0, e1⟩ := Ous.at_ (HS.out.below HBw.out) i hlt
        have hsz := HE.out i hlt
        have HT := hid (outsS_take l i hlt)
        have hz := HO.out i (by omega)
        have h8 := HL8.out
        generalize l.getD i Ou.none = x at e0 e1 hsz HT
        obtain ⟨xs, xt⟩ := x
        simp only [] at e0 e1 hsz HT
        generalize outsS (l.take i) = o at *
        have hps : (p ++ o).size ≤ 1000 := by rw [ByteArray.size_append]; omega
        have HAs : Hid (p ++ o ++ vr xs ++ piece xt = p ++ (o ++ vr xs ++ piece xt)) := by rw [Hid, append_assoc, append_assoc, append_assoc]
        generalize p ++ o = q at *
        have y1 := vr_size xs
        have y2 := piece_size xt
        have hne : Nonempty (BW wr) := ⟨⟨wr, Below.refl _ _⟩⟩
        replace e0 := BW.cell e0
        replace e1 := BW.cell e1
        have n7 := BW.cell m7
        go_wp2
        refine wp_region_bw (by kernel_rfl) (by kernel_rfl) ?_
        repeat (go_big_quiet_step (first
          | (go_at_call 161; refine bw_below (sVar _ _))
          | (go_at_call 165; refine bw_below (l4Piece xt _ (by omega)))))
        refine wpQuiet_nil ?_
        intro _ hw'
        obtain ⟨u, rfl⟩ := hw'
        have HUr := hid (HBr.out.trans (u.bel.mono HBr.out.size))
        clear e0 e1 n7 m7
        go_wp2
        exact ⟨⟨i + 1, by omega, by go_num, by rw [HT.out, ← HAs.out], HUr⟩, by simp [intOf]; omega⟩
      · obtain rfl : i = l.length := by omega
        have HE2 : Hid (outsS (l.take l.length) = outsS l) := by rw [Hid, List.take_length]
        rw [HE2.out]
        generalize p ++ outsS l = q at *
        go_wp2_with fail
        refine (l4Sum q _ HZ.out).mono ?_
        rintro r w4 ⟨rfl, b4⟩
        have HB4 := hid (HBw.out.trans (b4.mono HBw.out.size))
        clear b4 m7
        go_wp2
        go_ret
        exact ⟨Own.ret_str HY.out, HB4.out⟩

end Go.Proofs.YtaopkchkhdbfnaaGreatDoor.Sec
