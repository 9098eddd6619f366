/-
  The walk of spec.Counts. No condition but texts and lists of at most 2^20.
  Plain: what doing a journal once makes of sectors, and what settling makes of them. No condition.
  The walk of spec.l6Redo: a journal done on sectors of one's own. No condition but texts of at most 2^20.
  The walks of spec.Redo and spec.Settle. No condition but texts and lists of at most 2^20.
  The walks of impl.copyTexts, impl.doneMark, the closure that writes a sector, and impl.replay. Condition: the tables of sixteen sums and of the kinds' sizes stand in their variables.
  The walk of impl.replay. Condition: the tables of sixteen sums and of the kinds' sizes stand in their variables.
  The walk of impl.Redo. Condition: the tables of sixteen sums and of the kinds' sizes and the error of a part that lacks stand in their variables.
  The walk of impl.Settle. Condition: the tables of sixteen sums and of the kinds' sizes and the error of a part that lacks stand in their variables.
  The walks of impl.Counts, of slices.Equal at []int, and of both RefsOk. Condition for impl: the tables of sixteen sums and of the kinds' sizes and the error of a part that lacks stand in their variables.
  The walks of spec.RefsOk and impl.RefsOk. Condition for impl: the tables of sixteen sums and of the kinds' sizes and the error of a part that lacks stand in their variables.
  A list of texts that comes in as an argument: what it is in memory. No condition.
  The walks of laws.FnExactCounts and laws.FnExactRefsOk: each law answers true, and nothing that was there is changed. Condition: the tables of sixteen sums and of the kinds' sizes and the error of a part that lacks stand in their variables.
-/
import Derived.Test.YtlbfcnpnfoapnaaGreatDoorJoin3
import Derived.RegionTactic
import Derived.BigRegion
import Derived.Test.YtlbfcnpnfoapnaaGreatDoorAppRow
import Derived.Test.YtlbfcnpnfoapnaaGreatDoorJoin2
import Derived.Test.YtlbfcnpnfoapnaaGreatDoorSectorWalks
import Derived.Defers
import Derived.Tactics
import Derived.Tactics2
import Derived.Test.YtlbfcnpnfoapnaaGreatDoorJoin1
import Derived.BigQuiet
import Derived.Test.YtlbfcnpnfoapnaaGreatDoorMem
import Derived.Test.YtlbfcnpnfoapnaaGreatDoorRows
import Derived.ProofKit
import Derived.OpenShut
import Derived.ShutString
import Derived.Lib.SmallJoins
import Derived.Deep.Strs
import Derived.Deep.Slices
import Derived.Carry
namespace Go.Proofs.YtlbfcnpnfoapnaaGreatDoor.Tr
open Go.RowKit Go.Proofs.YtlbfcnpnfoapnaaGreatDoor.Mem Go.Proofs.YtlbfcnpnfoapnaaGreatDoor.Sec Go.Proofs.YtlbfcnpnfoapnaaGreatDoor.Rd Go.Proofs.YtlbfcnpnfoapnaaGreatDoor.Pk
set_option linter.unusedVariables false

/-- How often each block stands in a list: eighteen numbers in a block of the call's own. -/
def OutW (w : World) (B g : Nat) (L : List Int) : Prop := Wr w B (some ⟨g, 0, none⟩) 18 (fun i => .int .i64 ((cnt L).getD i 0))

theorem OutW.at_ {w : World} {B g : Nat} {L : List Int} (h : OutW w B g L) (n : Nat) (hn : n < 18) : w.cell? ⟨g, n, none⟩ = some (.int .i64 ((cnt L).getD n 0)) ∧ w.frozen? ⟨g, n, none⟩ = false ∧ B ≤ g ∧ g < w.heap.size := by
  obtain ⟨b, off, e, hB, hc, hf⟩ := h n hn
  cases e
  rw [Nat.zero_add] at hc hf
  exact ⟨hc, hf, hB, Sl.lt h.sl ⟨by omega, _, rfl⟩⟩

theorem out_more (L : List Int) (n : Nat) (h : n < 18) (j : Nat) : (if j = n then Value.int .i64 ((cnt L).getD n 0 + 1) else Value.int .i64 ((cnt L).getD j 0)) = .int .i64 ((cnt (L ++ [(n : Int)])).getD j 0) := by
  rw [cnt_more L n h, getD_set _ _ _ _ _ (by rw [cnt_len]; exact h)]
  by_cases e : j = n
  · subst e; simp
  · rw [if_neg e, if_neg (fun x => e x.symm)]

theorem out_set {w : World} {B g : Nat} {L : List Int} (h : OutW w B g L) (n : Nat) (hn : n < 18) : OutW (w.setCell ⟨g, n, none⟩ (.int .i64 ((cnt L).getD n 0 + 1))).drew B g (L ++ [(n : Int)]) := by
  have hs := Wr.set h n hn (.int .i64 ((cnt L).getD n 0 + 1))
  rw [Nat.zero_add] at hs
  exact Wr.below (hs.congr (fun j _ => out_more L n hn j)) (Below.refl _ _).drew

theorem make18 (w : World) : (Instr.makeSlice 24 (.int .i64 18) (.int .i64 18)).run Tryz.prog w = .ok (.slice (some ⟨w.heap.size, 0, none⟩) 18 18) (w.alloc (.cells (madeCells #[.int .i64 0] 18) 3)) :=
  run_make_row' (P := Tryz.prog) 24 3 (.int .i64 0) 8 Tryz.underlying24 info3 rfl .i64 .i64 18 (by decide) (by decide) w

theorem out_new (w : World) : OutW (w.alloc (.cells (madeCells #[.int .i64 0] 18) 3)) w.heap.size w.heap.size [] :=
  (wr_made w (.int .i64 0) 18 3).congr (fun i hi => by
    rw [cnt_at [] i hi]
    rfl)

theorem set_row {w : World} {g n b : Nat} {xs : List Value} {v : Value} (h : Row w b xs) (hn : g ≠ b) : Row (w.setCell ⟨g, n, none⟩ v).drew b xs := by
  have h2 := h.kept (kept_set w g n v) (fun e => hn e.symm)
  exact h2.below (Below.refl _ _).drew h2.lt
theorem set_wr {w : World} {g n B : Nat} {a : Option Addr} {m : Nat} {f : Nat → Value} {v : Value} (h : Wr w B a m f) (hn : g < B) : Wr (w.setCell ⟨g, n, none⟩ v).drew B a m f := by
  have h2 := h.move (kept_set w g n v) (fun b hb e => by have := Wr.foot_ge h hb; omega)
  exact Wr.below h2 (Below.refl _ _).drew

set_option maxRecDepth 100000 in
set_option maxHeartbeats 4000000 in
theorem sCounts (R : ByteArray → Int × Nat) (hR : Reads R) (w : World) (a : Option Addr) (cap : Nat) (l : List ByteArray) (S : Strs w a l) (hl : l.length ≤ 1048576) (hz : ∀ s ∈ l, s.size ≤ 1048576) :
    Calls Tryz.prog 8 #[.slice a l.length cap] w fun e w' => ∃ a' c', e = .returned (.slice a' (counts R l).length c') ∧ IntsW w' w.heap.size a' (counts R l) ∧ Below w.heap.size w w' := by
  have HR := hid hR
  have HS := hid S
  have HZm := hid hz
  clear hR S hz
  go_enter Tryz.func8, Tryz.ntmps8
  go_wp2_with fail
  refine (sPoolOk R HR.out w a cap l HS.out hl HZm.out).mono ?_
  rintro e w1 ⟨rfl, b1⟩
  have HB1 := hid b1
  clear b1
  cases hp : poolOk R l with
  | false =>
    have HE : Hid (counts R l = []) := by rw [Hid, counts, hp]; rfl
    have HBf := hid (HB1.out.alloc HB1.out.size (.cells #[] 3))
    clear hp
    go_wp2
    go_ret
    rw [HE.out]
    exact ⟨_, _, rfl, fun i hi => (by cases hi), HBf.out⟩
  | true =>
    have h34 := pool_len' hp
    have HE : Hid (counts R l = cnt (holdL R l)) := by rw [Hid, counts, hp]; rfl
    have HZ := hid (getD_size HZm.out)
    have HV := hid (fun i hi => pool_vol hp i hi)
    have HF := hid (fun i hi => pool_frees hp i hi)
    have HVL := hid (fun n hn => volsUp_len HR.out HZm.out hp n hn)
    have HFL := hid (fun n hn => freesUp_len HR.out hp n hn)
    obtain ⟨b, o, rfl, _⟩ := HS.out 0 (by omega)
    have HCell := hid (cells34 HS.out h34)
    have hmk := make18
    have HO1 := hid (out_new w1)
    have B2 : Below w1.heap.size w1 (w1.alloc (.cells (madeCells #[.int .i64 0] 18) 3)) := (Below.refl _ _).alloc (Nat.le_refl _) _
    have HB2 := hid (HB1.out.trans (B2.mono HB1.out.size))
    have HG : Hid (w.heap.size ≤ w1.heap.size) := HB1.out.size
    clear B2 hp hl
    rw [h34]
    clear h34 HS
    go_wp2
    obtain ⟨wz, hwz⟩ : ∃ wz, w1.alloc (.cells (madeCells #[.int .i64 0] 18) 3) = wz := ⟨_, rfl⟩
    rw [hwz] at HO1 HB2
    try rw [hwz]
    clear hwz hmk
    obtain ⟨g, hgg⟩ : ∃ g, w1.heap.size = g := ⟨_, rfl⟩
    rw [hgg] at HO1 HG
    try rw [hgg]
    clear hgg
    go_loopw [4] (fun i wr => ∃ m : Nat, m ≤ 4 ∧ i = .int .i64 (m : Int) ∧ Hid (OutW wr g g (volsUp R l m)) ∧ Hid (Below w.heap.size w wr)) (fun i _ => 4 - (intOf i).toNat)
    case atStart => exact ⟨0, Nat.zero_le _, rfl, HO1, HB2⟩
    case round =>
      obtain ⟨m, hm, rfl, HO, HB⟩ := hrel
      clear HO1
      have hvl := HVL.out m hm
      by_cases hlt : m < 4
      · obtain ⟨⟨h, e, on, M⟩, hq⟩ := HV.out m hlt
        have HM := hid (vol_ok HR.out (HZ.out _) hq)
        have HSu : Hid (volsUp R l (m + 1) = volsUp R l m ++ ups M) := by rw [Hid, volsUp_succ]; unfold volL; rw [hq]
        have hgr := (HO.out.at_ 0 (by decide)).2.2.2
        generalize volsUp R l m = L at *
        go_wp2_with fail
        refine (Sector.spec_sector 3 (m : Int) wr).mono ?_
        rintro e' w2 ⟨rfl, bs⟩
        have HB2 := hid (HB.out.trans (bs.mono HB.out.size))
        have HO2 : Hid (OutW w2 g g L) := Wr.below HO.out bs
        have hs2 := bs.size
        clear bs HO
        rw [sec3 m hlt]
        obtain ⟨p, hp⟩ : ∃ p : Nat, p = 9 + m := ⟨_, rfl⟩
        rw [← hp] at hq ⊢
        have hl : (p : Int) < 34 := by omega
        have hc := HCell.out w2 HB2.out p (by omega)
        have hz := HZ.out p
        obtain ⟨sa, hsa⟩ : ∃ s, s = l.getD p ByteArray.empty := ⟨_, rfl⟩
        rw [← hsa] at hc hz hq
        have HQ := hid hq
        clear hp hsa hq
        go_wp2_with fail
        refine (sVolAt R HR.out sa hz HQ.out w2).mono ?_
        rintro e' w3 ⟨va, vc, rfl, hI3, b3⟩
        have HB3 := hid (HB2.out.trans (b3.mono HB2.out.size))
        have HO3 : Hid (OutW w3 g g L) := Wr.below HO2.out b3
        have HI3 : Hid (IntsW w3 w2.heap.size va M) := by
          obtain ⟨_, _, e, hx⟩ := hI3.w
          cases e
          exact hx
        have hs3 := b3.size
        clear b3 hc hz hI3 HO2
        obtain ⟨w4, hw4, e4, A4, B4⟩ := one_new w3 [.int .i64 h, .int .i64 e, .bool on, .slice va M.length vc] 49
        have HA4 := hid A4
        have HB4 := hid (HB3.out.trans (B4.mono HB3.out.size))
        have HO4 : Hid (OutW w4 g g L) := Wr.below HO3.out B4
        have HI4 : Hid (IntsW w4 w2.heap.size va M) := Wr.below HI3.out B4
        clear A4 B4 e4 HI3 HO3
        have HM4 : Hid (M.length = 4) := HM.out.1
        have hM9 : M.length ≤ 900 := by have := HM.out.1; omega
        have HMb := hid HM.out.2
        have hgx : g < w2.heap.size := by omega
        have hgb : g ≠ w3.heap.size := by omega
        clear HM
        go_wp2_with fail
        try simp only [hw4]
        clear hw4
        obtain ⟨bx, hbx⟩ : ∃ bx, w3.heap.size = bx := ⟨_, rfl⟩
        rw [hbx] at HA4 hgb
        try rw [hbx]
        clear hbx
        obtain ⟨cx, hcx⟩ : ∃ cx, w2.heap.size = cx := ⟨_, rfl⟩
        rw [hcx] at HI4 hgx
        clear hcx
        go_loopw [7] (fun i wr => ∃ k : Nat, k ≤ M.length ∧ i = .int .i64 (k : Int) ∧ Hid (OutW wr g g (L ++ ups (M.take k))) ∧ Hid (IntsW wr cx va M) ∧ Hid (Row wr bx [.int .i64 h, .int .i64 e, .bool on, .slice va M.length vc]) ∧ Hid (Below w.heap.size w wr)) (fun i _ => M.length - (intOf i).toNat)
        case atStart =>
          refine ⟨0, Nat.zero_le _, rfl, ?_, HI4, HA4, HB4⟩
          show OutW _ _ _ (L ++ [])
          rw [List.append_nil]
          exact HO4.out
        case round =>
          obtain ⟨k, hk, rfl, HOk, HIk, HAk, HBk⟩ := hrel
          clear HI4 HA4 HB4 HO4
          have k2 := HAk.out.c 3 rfl
          by_cases hlk : k < M.length
          · obtain ⟨vb, vo, rfl, _, hcm, _⟩ := HIk.out k hlk
            replace hcm : _ = some (Value.int .i64 (M.getD k 0)) := hcm
            have hxb := HMb.out (M.getD k 0) (by simp [List.getD, hlk])
            have HU := hid (ups_take M k hlk)
            generalize M.getD k 0 = x at *
            by_cases hx : 0 ≤ x
            · obtain ⟨n, rfl⟩ : ∃ n : Nat, x = (n : Int) := ⟨x.toNat, by omega⟩
              have hn : n < 18 := by omega
              have hni : (n : Int) < 18 := by omega
              have HU2 : Hid (L ++ ups (M.take (k + 1)) = (L ++ ups (M.take k)) ++ [(n : Int)]) := by rw [Hid, HU.out, if_pos hx, List.append_assoc]
              have hul := ups_len (M.take k)
              rw [List.length_take] at hul
              have hcb := cnt_bd (L ++ ups (M.take k)) n hn
              rw [List.length_append] at hcb
              have HM4' := HM4.out
              have HO5 := hid (out_set HOk.out n hn)
              obtain ⟨hco, hfo, _, _⟩ := HOk.out.at_ n hn
              generalize (cnt (L ++ ups (M.take k))).getD n 0 = c at *
              have hcb2 : 0 ≤ c ∧ c + 1 ≤ 9223372036854775807 := by omega
              have HI5 := hid (set_wr (n := n) (v := .int .i64 (c + 1)) HIk.out hgx)
              have HA5 := hid (set_row (n := n) (v := .int .i64 (c + 1)) HAk.out hgb)
              have HB5 := hid ((below_set HBk.out g n (.int .i64 (c + 1)) HG.out).drew)
              clear hul HU hcb HM4' HOk HIk HAk HBk
              go_wp2
              go_region
              go_wp2
              exact ⟨⟨k + 1, by omega, by go_num, by rw [HU2.out]; exact HO5, HI5, HA5, HB5⟩, by simp [intOf]; omega⟩
            · have HU2 : Hid (L ++ ups (M.take (k + 1)) = L ++ ups (M.take k)) := by rw [Hid, HU.out, if_neg hx, List.append_nil]
              clear HU
              go_wp2
              exact ⟨⟨k + 1, by omega, by go_num, by rw [HU2.out]; exact HOk, HIk, HAk, HBk⟩, by simp [intOf]; omega⟩
          · obtain rfl : k = M.length := by omega
            have HO5 : Hid (OutW wr g g (volsUp R l (m + 1))) := by have := HOk.out; rw [List.take_length] at this; rw [Hid, HSu.out]; exact this
            go_wp2
            exact ⟨⟨m + 1, by omega, by go_num, HO5, HBk⟩, by simp [intOf]; omega⟩
      · obtain rfl : m = 4 := by omega
        obtain ⟨wo, hwo⟩ : ∃ wo, wo = wr := ⟨_, rfl⟩
        subst hwo
        have ho0 := HO.out
        have e0 : volsUp R l 4 = volsUp R l 4 ++ freesUp R l 0 := (List.append_nil _).symm
        rw [e0] at ho0
        have HO0 := hid ho0
        clear ho0 e0
        have HBo := HB
        clear HO HB hlt hm
        simp only [lit4]
        go_wp2
        go_loopw [8] (fun i wr => ∃ m : Nat, m ≤ 3 ∧ i = .int .i64 (m : Int) ∧ Hid (OutW wr g g (volsUp R l 4 ++ freesUp R l m)) ∧ Hid (Below w.heap.size w wr)) (fun i _ => 3 - (intOf i).toNat)
        case atStart => exact ⟨0, Nat.zero_le _, rfl, HO0, HBo⟩
        case round =>
          obtain ⟨m, hm, rfl, HO, HB⟩ := hrel
          clear HO0
          have hfl := HFL.out m hm
          by_cases hlt : m < 3
          · obtain ⟨M, hq⟩ := HF.out m hlt
            have HM := hid (frees_ok HR.out hq)
            have HSu : Hid (volsUp R l 4 ++ freesUp R l (m + 1) = (volsUp R l 4 ++ freesUp R l m) ++ M) := by rw [Hid, freesUp_succ]; unfold freeL; rw [hq, List.append_assoc]
            have hlen : (volsUp R l 4 ++ freesUp R l m).length ≤ 60 := by rw [List.length_append]; omega
            have hgr := (HO.out.at_ 0 (by decide)).2.2.2
            generalize volsUp R l 4 ++ freesUp R l m = L at *
            go_wp2_with fail
            refine (Sector.spec_sector 2 (m : Int) wr).mono ?_
            rintro e' w2 ⟨rfl, bs⟩
            have HB2 := hid (HB.out.trans (bs.mono HB.out.size))
            have HO2 : Hid (OutW w2 g g L) := Wr.below HO.out bs
            have hs2 := bs.size
            clear bs HO
            rw [sec2 m hlt]
            obtain ⟨p, hp⟩ : ∃ p : Nat, p = 6 + m := ⟨_, rfl⟩
            rw [← hp] at hq ⊢
            have hl : (p : Int) < 34 := by omega
            have hc := HCell.out w2 HB2.out p (by omega)
            have hz := HZ.out p
            obtain ⟨sa, hsa⟩ : ∃ s, s = l.getD p ByteArray.empty := ⟨_, rfl⟩
            rw [← hsa] at hc hz hq
            have HQ := hid hq
            clear hp hsa hq
            go_wp2_with fail
            refine (sFreesAt R HR.out sa hz HQ.out w2).mono ?_
            rintro e' w3 ⟨va, vc, rfl, hI3, b3⟩
            have HB3 := hid (HB2.out.trans (b3.mono HB2.out.size))
            have HO3 : Hid (OutW w3 g g L) := Wr.below HO2.out b3
            have HI3 : Hid (IntsW w3 w2.heap.size va M) := by
              obtain ⟨_, _, e, hx⟩ := hI3.w
              cases e
              exact hx
            clear b3 hc hz hI3 HO2
            have HM12 : Hid (M.length ≤ 12) := HM.out.1
            have hM9 : M.length ≤ 900 := by have := HM.out.1; omega
            have HMb := hid HM.out.2
            have hgx : g < w2.heap.size := by omega
            clear HM
            obtain ⟨cx, hcx⟩ : ∃ cx, w2.heap.size = cx := ⟨_, rfl⟩
            rw [hcx] at HI3 hgx
            clear hcx
            go_wp2
            go_loopw [11] (fun i wr => ∃ k : Nat, k ≤ M.length ∧ i = .int .i64 (k : Int) ∧ Hid (OutW wr g g (L ++ M.take k)) ∧ Hid (IntsW wr cx va M) ∧ Hid (Below w.heap.size w wr)) (fun i _ => M.length - (intOf i).toNat)
            case atStart =>
              refine ⟨0, Nat.zero_le _, rfl, ?_, HI3, HB3⟩
              show OutW _ _ _ (L ++ [])
              rw [List.append_nil]
              exact HO3.out
            case round =>
              obtain ⟨k, hk, rfl, HOk, HIk, HBk⟩ := hrel
              clear HI3 HB3 HO3
              by_cases hlk : k < M.length
              · obtain ⟨vb, vo, rfl, _, hcm, _⟩ := HIk.out k hlk
                replace hcm : _ = some (Value.int .i64 (M.getD k 0)) := hcm
                have hxb := HMb.out (M.getD k 0) (by simp [List.getD, hlk])
                have HU : Hid (M.take (k + 1) = M.take k ++ [M.getD k 0]) := by
                  rw [Hid, List.take_add_one]
                  simp [List.getD, hlk]
                generalize M.getD k 0 = x at *
                obtain ⟨n, rfl⟩ : ∃ n : Nat, x = (n : Int) := ⟨x.toNat, by omega⟩
                have hn : n < 18 := by omega
                have hni : (n : Int) < 18 := by omega
                have HU2 : Hid (L ++ M.take (k + 1) = (L ++ M.take k) ++ [(n : Int)]) := by rw [Hid, HU.out, List.append_assoc]
                have hcb := cnt_bd (L ++ M.take k) n hn
                rw [List.length_append, List.length_take] at hcb
                have HM12' := HM12.out
                have HO5 := hid (out_set HOk.out n hn)
                obtain ⟨hco, hfo, _, _⟩ := HOk.out.at_ n hn
                generalize (cnt (L ++ M.take k)).getD n 0 = c at *
                have hcb2 : 0 ≤ c ∧ c + 1 ≤ 9223372036854775807 := by omega
                have HI5 := hid (set_wr (n := n) (v := .int .i64 (c + 1)) HIk.out hgx)
                have HB5 := hid ((below_set HBk.out g n (.int .i64 (c + 1)) HG.out).drew)
                clear HU hcb HM12' HOk HIk HBk
                go_wp2
                go_region
                go_wp2
                exact ⟨⟨k + 1, by omega, by go_num, by rw [HU2.out]; exact HO5, HI5, HB5⟩, by simp [intOf]; omega⟩
              · obtain rfl : k = M.length := by omega
                have HO5 : Hid (OutW wr g g (volsUp R l 4 ++ freesUp R l (m + 1))) := by have := HOk.out; rw [List.take_length] at this; rw [Hid, HSu.out]; exact this
                go_wp2
                exact ⟨⟨m + 1, by omega, by go_num, HO5, HBk⟩, by simp [intOf]; omega⟩
          · obtain rfl : m = 3 := by omega
            have HF : Hid (IntsW wr w.heap.size (some ⟨g, 0, none⟩) (cnt (holdL R l))) := by
              unfold IntsW
              rw [Hid, cnt_len]
              exact HO.out.mono HG.out
            go_wp2
            go_ret
            rw [HE.out, cnt_len]
            exact ⟨_, _, rfl, HF.out, HB.out⟩

end Go.Proofs.YtlbfcnpnfoapnaaGreatDoor.Tr

namespace Go.Proofs.YtlbfcnpnfoapnaaGreatDoor.Re
open Go.RowKit Go.Proofs.YtlbfcnpnfoapnaaGreatDoor.Mem Go.Proofs.YtlbfcnpnfoapnaaGreatDoor.Sec Go.Proofs.YtlbfcnpnfoapnaaGreatDoor.Rd Go.Proofs.YtlbfcnpnfoapnaaGreatDoor.Pk
set_option linter.unusedVariables false

/-- A journal that is done. -/
def JD (t : Int) : Jn := ⟨t, true, 0, 0, 0, 0, ⟨#[]⟩, []⟩

/-- The sectors with some written, in order. -/
def outs (l : List ByteArray) (o : List Ou) : List ByteArray := o.foldl (fun l x => l.set x.sec.toNat x.text) l

def redone (J : Jn) (h : Nat) (l : List ByteArray) : List ByteArray := (outs l J.outs).set (3 + h) (JD J.txn).show

def redo1 (R : ByteArray → Int × Nat) (h : Nat) (l : List ByteArray) : List ByteArray × Bool :=
  match readJn R (l.getD (3 + h) ByteArray.empty) with
  | some J => if J.done then (l, false) else (redone J h l, true)
  | none => (l, false)

def redo (R : ByteArray → Int × Nat) (l : List ByteArray) (h : Int) : List ByteArray × Bool :=
  if poolOk R l then (if 0 ≤ h ∧ h < 3 then redo1 R h.toNat l else (l, false)) else ([], false)

def step (R : ByteArray → Int × Nat) (h : Nat) (l : List ByteArray) : List ByteArray := if poolOk R l then (redo1 R h l).1 else l

def steps (R : ByteArray → Int × Nat) (l : List ByteArray) : Nat → List ByteArray
  | 0 => l
  | k + 1 => step R k (steps R l k)

def settle (R : ByteArray → Int × Nat) (l : List ByteArray) : List ByteArray := if poolOk R l then steps R l 3 else []

theorem outs_length (o : List Ou) : ∀ l, (outs l o).length = l.length := by
  induction o with
  | nil => intro l; rfl
  | cons x o ih => intro l; show (outs (l.set x.sec.toNat x.text) o).length = _; rw [ih, List.length_set]

theorem outs_take (l : List ByteArray) (o : List Ou) (k : Nat) (h : k < o.length) : outs l (o.take (k + 1)) = (outs l (o.take k)).set (o.getD k Ou.none).sec.toNat (o.getD k Ou.none).text := by
  unfold outs
  rw [List.take_add_one, List.foldl_append]
  simp [List.getD, h]

theorem outs_size {n : Nat} (o : List Ou) (ho : ∀ x ∈ o, x.text.size ≤ n) : ∀ l : List ByteArray, (∀ s ∈ l, s.size ≤ n) → ∀ s ∈ outs l o, s.size ≤ n := by
  induction o with
  | nil => intro l h; exact h
  | cons x o ih =>
    intro l h
    refine ih (fun y hy => ho y (List.mem_cons_of_mem _ hy)) _ (fun s hs => ?_)
    rcases List.mem_or_eq_of_mem_set hs with hs | rfl
    · exact h s hs
    · exact ho x (List.mem_cons_self ..)

theorem readJn_is {R : ByteArray → Int × Nat} {s : ByteArray} {J : Jn} (h : readJn R s = some J) : J.show = s := by
  unfold readJn at h
  split at h
  · split at h
    · rename_i e
      simp only [Option.some.injEq] at h
      subst h
      exact e
    · cases h
  · cases h

theorem readJn_ok {R : ByteArray → Int × Nat} (hR : Reads R) {s : ByteArray} {J : Jn} (hs : s.size ≤ 1048576) (h : readJn R s = some J) : J.ok = true := by
  cases e : J.ok with
  | true => rfl
  | false =>
    have h1 := readJn_is h
    unfold Jn.show at h1
    rw [e] at h1
    have h2 : s.size = 0 := by rw [← h1]; rfl
    rw [readJn_short R hR s (by omega) hs] at h
    cases h

theorem open_outs {J : Jn} (h : J.ok = true) (hd : J.done = false) : (∀ i, i < J.outs.length → outAt J.outs i) ∧ J.outs.length ≤ 8 ∧ 0 ≤ J.txn ∧ J.txn ≤ 1000000 := by
  rw [jok_not hd, Bool.and_eq_true, Bool.and_eq_true, Bool.and_eq_true] at h
  obtain ⟨h0, _, h1, h2⟩ := h
  have h0 := of_decide_eq_true h0
  exact ⟨(outsOk_iff _).1 h2, (of_decide_eq_true h1).2, by omega, h0.2⟩

theorem outs_small {o : List Ou} (h : ∀ i, i < o.length → outAt o i) : ∀ x ∈ o, x.text.size ≤ 60 := by
  intro x hx
  obtain ⟨i, hi, rfl⟩ := List.mem_iff_getElem.1 hx
  have := (h i hi).2.2
  simp [List.getD, hi] at this
  omega

theorem JD_size (t : Int) : ((JD t).show).size ≤ 1048576 := by
  have h := head_size (JD t) (by show (0 : Nat) ≤ 16; omega)
  unfold Jn.show
  split
  · have h2 : (outsS (JD t).outs).size = 0 := rfl
    unfold summed
    rw [ByteArray.size_append, Fix.fxS_size, ByteArray.size_append, h2]
    omega
  · exact Nat.zero_le _

theorem JD_small (t : Int) : (JD t).Small := ⟨by show (0 : Nat) ≤ _; omega, by show (0 : Nat) ≤ _; omega, by intro x hx; cases hx⟩

theorem redone_length (J : Jn) (h : Nat) (l : List ByteArray) : (redone J h l).length = l.length := by unfold redone; rw [List.length_set, outs_length]

theorem redone_size {J : Jn} (h : Nat) {l : List ByteArray} (hj : J.ok = true) (hd : J.done = false) (hl : ∀ s ∈ l, s.size ≤ 1048576) : ∀ s ∈ redone J h l, s.size ≤ 1048576 := by
  intro s hs
  unfold redone at hs
  rcases List.mem_or_eq_of_mem_set hs with hs | rfl
  · exact outs_size J.outs (fun x hx => by have := outs_small (open_outs hj hd).1 x hx; omega) l hl s hs
  · exact JD_size _

theorem redo1_length (R : ByteArray → Int × Nat) (h : Nat) (l : List ByteArray) : (redo1 R h l).1.length = l.length := by
  unfold redo1
  split
  · split
    · rfl
    · exact redone_length _ _ _
  · rfl

theorem redo1_size {R : ByteArray → Int × Nat} (hR : Reads R) (h : Nat) {l : List ByteArray} (hl : ∀ s ∈ l, s.size ≤ 1048576) : ∀ s ∈ (redo1 R h l).1, s.size ≤ 1048576 := by
  unfold redo1
  split
  · rename_i J e
    split
    · exact hl
    · rename_i hd
      exact redone_size h (readJn_ok hR (getD_size hl _) e) (by simpa using hd) hl
  · exact hl

theorem step_size {R : ByteArray → Int × Nat} (hR : Reads R) (h : Nat) {l : List ByteArray} (hl : ∀ s ∈ l, s.size ≤ 1048576) : ∀ s ∈ step R h l, s.size ≤ 1048576 := by
  unfold step; split
  · exact redo1_size hR h hl
  · exact hl

theorem step_length (R : ByteArray → Int × Nat) (h : Nat) (l : List ByteArray) : (step R h l).length = l.length := by
  unfold step; split
  · exact redo1_length R h l
  · rfl

theorem steps_size {R : ByteArray → Int × Nat} (hR : Reads R) {l : List ByteArray} (hl : ∀ s ∈ l, s.size ≤ 1048576) (k : Nat) : ∀ s ∈ steps R l k, s.size ≤ 1048576 := by
  induction k with
  | zero => exact hl
  | succ k ih => exact step_size hR k ih

theorem steps_length (R : ByteArray → Int × Nat) (l : List ByteArray) (k : Nat) : (steps R l k).length = l.length := by
  induction k with
  | zero => rfl
  | succ k ih => exact (step_length R k _).trans ih

theorem step_no {R : ByteArray → Int × Nat} {l : List ByteArray} (h : poolOk R l = false) (k : Nat) : step R k l = l := by unfold step; rw [h]; rfl
theorem step_yes {R : ByteArray → Int × Nat} {l : List ByteArray} (h : poolOk R l = true) (k : Nat) : step R k l = (redo1 R k l).1 := by unfold step; rw [h]; rfl

theorem steps_stay {R : ByteArray → Int × Nat} {l : List ByteArray} {k : Nat} (h : poolOk R (steps R l k) = false) (j : Nat) : steps R l (k + j) = steps R l k := by
  induction j with
  | zero => rfl
  | succ j ih =>
    show step R (k + j) (steps R l (k + j)) = _
    rw [ih, step_no h]

theorem steps_rest {R : ByteArray → Int × Nat} {l : List ByteArray} {k : Nat} (h : poolOk R (steps R l k) = false) (hk : k ≤ 3) : steps R l 3 = steps R l k := by
  have := steps_stay h (3 - k)
  rwa [show k + (3 - k) = 3 by omega] at this

theorem pool_len {R : ByteArray → Int × Nat} {l : List ByteArray} (h : poolOk R l = true) : l.length = 34 := by
  unfold poolOk at h
  rw [Bool.and_eq_true] at h
  exact of_decide_eq_true h.1

theorem pool_jn {R : ByteArray → Int × Nat} {l : List ByteArray} (h : poolOk R l = true) (k : Nat) (hk : k < 3) : ∃ J, readJn R (l.getD (3 + k) ByteArray.empty) = some J := by
  unfold poolOk at h
  rw [Bool.and_eq_true, List.all_eq_true] at h
  have := h.2 (3 + k) (List.mem_range.2 (by omega))
  rw [kind1 k hk] at this
  exact Option.isSome_iff_exists.1 this

theorem redo1_done {R : ByteArray → Int × Nat} {h : Nat} {l : List ByteArray} {J : Jn} (e : readJn R (l.getD (3 + h) ByteArray.empty) = some J) (hd : J.done = true) : redo1 R h l = (l, false) := by
  unfold redo1; rw [e]; simp only [hd, if_true]
theorem redo1_open {R : ByteArray → Int × Nat} {h : Nat} {l : List ByteArray} {J : Jn} (e : readJn R (l.getD (3 + h) ByteArray.empty) = some J) (hd : J.done = false) : redo1 R h l = (redone J h l, true) := by
  unfold redo1; rw [e]; simp only [hd]; rfl

theorem redo_no {R : ByteArray → Int × Nat} {l : List ByteArray} (hp : poolOk R l = false) (h : Int) : redo R l h = ([], false) := by unfold redo; rw [hp]; rfl
theorem redo_none {R : ByteArray → Int × Nat} {l : List ByteArray} (hp : poolOk R l = true) {h : Int} (hh : ¬ (0 ≤ h ∧ h < 3)) : redo R l h = (l, false) := by unfold redo; rw [hp, if_neg hh]; rfl
theorem redo_is {R : ByteArray → Int × Nat} {l : List ByteArray} (hp : poolOk R l = true) (h : Nat) (hh : h < 3) : redo R l (h : Int) = redo1 R h l := by
  unfold redo
  rw [hp, if_pos (show (0 : Int) ≤ (h : Int) ∧ (h : Int) < 3 by omega), Int.toNat_natCast]; rfl

theorem redo_length (R : ByteArray → Int × Nat) (l : List ByteArray) (h : Int) : (redo R l h).1.length ≤ 34 := by
  unfold redo
  split
  · rename_i e
    have := pool_len e
    split
    · rw [redo1_length]; omega
    · show l.length ≤ 34; omega
  · exact Nat.zero_le _

theorem settle_length (R : ByteArray → Int × Nat) (l : List ByteArray) : (settle R l).length ≤ 34 := by
  unfold settle
  split
  · rename_i e
    have := pool_len e
    rw [steps_length]; omega
  · exact Nat.zero_le _

/-- A text is stored. -/
theorem strsW_set {w : World} {B b off : Nat} {l : List ByteArray} (h : StrsW w B (some ⟨b, off, none⟩) l) (i : Nat) (hi : i < l.length) (s : ByteArray) :
    StrsW (w.setCell ⟨b, off + i, none⟩ (.string s)) B (some ⟨b, off, none⟩) (l.set i s) := by
  unfold StrsW at h ⊢
  rw [List.length_set]
  refine (h.set i hi (.string s)).congr (fun j hj => ?_)
  show (if j = i then Value.string s else .string (l.getD j ByteArray.empty)) = _
  by_cases e : j = i
  · subst e
    rw [if_pos rfl]
    simp [List.getD, hi]
  · rw [if_neg e]
    simp [List.getD, show ¬ i = j by omega]

end Go.Proofs.YtlbfcnpnfoapnaaGreatDoor.Re

namespace Go.Proofs.YtlbfcnpnfoapnaaGreatDoor.Re
open Go.RowKit Go.Proofs.YtlbfcnpnfoapnaaGreatDoor.Mem Go.Proofs.YtlbfcnpnfoapnaaGreatDoor.Sec Go.Proofs.YtlbfcnpnfoapnaaGreatDoor.Rd Go.Proofs.YtlbfcnpnfoapnaaGreatDoor.Pk
set_option linter.unusedVariables false

theorem infoS : (Tryz.prog.info? 9).map (fun i => (i.zero, i.size, i.bytes)) = some (some (.string ByteArray.empty), 1, 16) := by kernel_rfl

theorem news_sl {w : World} {ad : Addr} {l : List ByteArray} (S : Strs w (some ad) l) : Sl w (some ad) (l.length * 1) (fun i => (l.map Value.string).getD i undef) := by
  unfold Strs at S
  rw [Nat.mul_one]
  exact S.congr (fun i hi => by simp [List.getD, hi])

theorem news_one (l : List ByteArray) : ∀ u ∈ l.map Value.string, u.oneCell' = true := by
  intro u hu
  obtain ⟨s, _, rfl⟩ := List.mem_map.1 hu
  rfl

theorem row_strs {w : World} {B : Nat} {v : Value} {l : List ByteArray} {n : Nat} (h : RowO w B 9 1 v n ([] ++ l.map .string)) : ∃ a cap, v = .slice a l.length cap ∧ StrsW w B a l := by
  have hn := h.len
  simp at hn
  obtain ⟨a, cap, e, hw⟩ := RowO.wr h
  subst hn
  refine ⟨a, cap, e, ?_⟩
  unfold StrsW
  rw [Nat.mul_one] at hw
  exact hw.congr (fun i hi => by simp [List.getD, hi])

/-- Every cell of sectors of one's own. -/
theorem cellsW {w : World} {B b o : Nat} {l : List ByteArray} (S : StrsW w B (some ⟨b, o, none⟩) l) (i : Nat) (hi : i < l.length) : w.cell? ⟨b, o + i, none⟩ = some (.string (l.getD i ByteArray.empty)) ∧ w.frozen? ⟨b, o + i, none⟩ = false := by
  obtain ⟨b', o', e, _, hc, hf⟩ := S i hi
  cases e
  exact ⟨hc, hf⟩

theorem kdrew {S : Nat → Prop} {w w' : World} (h : Kept S w w') : Kept S w w'.drew := ⟨h.os, h.tape, h.output, h.size, h.block⟩

/-- The journal's own block and its list, while sectors are written. -/
structure Way (w wr : World) (B b off G : Nat) (J : Jn) (ad : Option Addr) (cp : Nat) (l : List ByteArray) : Prop where
  secs : StrsW wr B (some ⟨b, off, none⟩) l
  box : Row wr G (J.cells ad cp)
  outs : Ous wr ad J.outs
  kept : Kept (fun k => k = b) w wr

set_option maxRecDepth 100000 in
set_option maxHeartbeats 4000000 in
theorem l6Redo (R : ByteArray → Int × Nat) (hR : Reads R) (w : World) (B b off cap : Nat) (l : List ByteArray) (S : StrsW w B (some ⟨b, off, none⟩) l) (hp : poolOk R l = true) (hz : ∀ s ∈ l, s.size ≤ 1048576) (h : Nat) (hh : h < 3) :
    Calls Tryz.prog 65 #[.slice (some ⟨b, off, none⟩) 34 cap, .int .i64 (h : Int)] w fun e w' => e = .returned (.tuple #[.slice (some ⟨b, off, none⟩) 34 cap, .bool (redo1 R h l).2]) ∧ StrsW w' B (some ⟨b, off, none⟩) (redo1 R h l).1 ∧ Kept (fun k => k = b) w w' := by
  have hl := pool_len hp
  obtain ⟨J, hJ⟩ := pool_jn hp h hh
  have hok := readJn_ok hR (getD_size hz _) hJ
  have HR := hid hR
  have HS := hid S
  have HZ := hid (getD_size hz (3 + h))
  have HD := hid (@redo1_done R h l J hJ)
  have HO := hid (@redo1_open R h l J hJ)
  have HJ := hid hJ
  have HOk := hid hok
  have HL := hid hl
  have hbl : b < w.heap.size := (Wr.sl S).lt ⟨by omega, off, rfl⟩
  clear S hp hz hR hJ hok
  go_enter Tryz.func65, Tryz.ntmps65
  go_wp2_with fail
  refine (Sector.spec_sector 1 (h : Int) w).mono ?_
  rintro e w1 ⟨rfl, b1⟩
  rw [sec1 h hh]
  obtain ⟨p, hpp⟩ : ∃ p : Nat, p = 3 + h := ⟨_, rfl⟩
  have HP := hid hpp
  have hp34 : (p : Int) < 34 := by omega
  have HS1 : Hid (StrsW w1 B (some ⟨b, off, none⟩) l) := HS.out.below b1
  have HK1 : Hid (Kept (fun k => k = b) w w1) := Kept.of_below b1
  have hc := (cellsW HS1.out p (by omega)).1
  rw [← hpp] at HZ HJ
  rw [← hpp]
  clear hpp b1 HS
  obtain ⟨s, hs⟩ : ∃ s, s = l.getD p ByteArray.empty := ⟨_, rfl⟩
  rw [← hs] at hc HZ HJ
  clear hs
  go_wp2_with fail
  refine (sReadJournal R HR.out s HZ.out w1).mono ?_
  rintro e w2 ⟨J', ad, cp, ok, hi, rfl, hO, b2⟩
  have hJJ : J' = J ∧ J.outs.length ≤ 8 := by
    rcases hi with ⟨h1, h2, h3⟩ | ⟨h1, _⟩
    · rw [HJ.out] at h1
      cases h1
      exact ⟨rfl, h2⟩
    · rw [HJ.out] at h1; cases h1
  obtain ⟨rfl, ho8⟩ := hJJ
  obtain ⟨ad', cp', ea, hW⟩ := Or2.w hO
  cases ea
  have HF : Hid (∀ k, foot ad (J'.outs.length * 2) k → w1.heap.size ≤ k) := fun k hk => Wr.foot_ge hW hk
  have HOs : Hid (Ous w2 ad J'.outs) := Wr.sl hW
  have HS2 : Hid (StrsW w2 B (some ⟨b, off, none⟩) l) := HS1.out.below b2
  have HK2 : Hid (Kept (fun k => k = b) w w2) := (HK1.out.trans (Kept.of_below (S := fun k => k = b) b2)).mono (fun k _ x => by rcases x with x | x <;> exact x)
  have h12 := b2.size
  have h01 := HK1.out.size
  clear hi hO hW b2 HS1 HK1 hc HJ HZ
  obtain ⟨txn, dn, k, v, tt, at_, tx, o⟩ := J'
  simp only [] at HD HO ho8 HF HOs
  have HV : Hid (jnV ⟨txn, dn, k, v, tt, at_, tx, o⟩ ad cp = .agg #[.int .i64 txn, .bool dn, .int .i64 k, .int .i64 v, .int .i64 tt, .int .i64 at_, .string tx, .slice ad o.length cp]) := rfl
  rw [HV.out]
  obtain ⟨w3, hw3, ez3, A3, B3⟩ := one_new w2 [.int .i64 txn, .bool dn, .int .i64 k, .int .i64 v, .int .i64 tt, .int .i64 at_, .string tx, .slice ad o.length cp] 85
  have HS3 : Hid (StrsW w3 B (some ⟨b, off, none⟩) l) := HS2.out.below B3
  have HK3 : Hid (Kept (fun k => k = b) w w3) := (HK2.out.trans (Kept.of_below (S := fun k => k = b) B3)).mono (fun k _ x => by rcases x with x | x <;> exact x)
  have HO3 : Hid (Ous w3 ad o) := Sl.below HOs.out B3
  have HA3 := hid A3
  have a1 := A3.c 1 rfl
  clear A3 B3 HS2 HK2 HOs
  cases dn with
  | true =>
    have HE := hid (HD.out rfl)
    clear HD HO
    go_wp2
    go_ret2
    rw [HE.out]
    exact ⟨rfl, HS3.out, HK3.out⟩
  | false =>
    have HE := hid (HO.out rfl)
    have HAt := hid (open_outs HOk.out rfl).1
    have HRd : Hid (redone ⟨txn, false, k, v, tt, at_, tx, o⟩ h l = (outs l o).set (3 + h) (JD txn).show) := rfl
    simp only [] at HAt
    clear HD HO HOk
    have hG : w2.heap.size ≠ b := by omega
    go_wp2
    go_loopw [8] (fun i wr => ∃ m : Nat, m ≤ o.length ∧ i = .int .i64 (m : Int) ∧ Hid (StrsW wr B (some ⟨b, off, none⟩) (outs l (o.take m))) ∧ Hid (Kept (fun k => k = b) w3 wr)) (fun i _ => o.length - (intOf i).toNat)
    case atStart => exact ⟨0, Nat.zero_le _, rfl, HS3, Kept.refl _ _⟩
    case round =>
      obtain ⟨m, hm, rfl, HW, HKw⟩ := hrel
      have HOw : Hid (Ous wr ad o) := Sl.move HO3.out HKw.out (fun k hk x => by have := HF.out k hk; omega)
      have HAw := hid (HA3.out.kept HKw.out hG)
      have hw3r := HKw.out.size
      by_cases hlt : m < o.length
      · obtain ⟨bo, oo, rfl, c0, c1⟩ := Ous.at_ HOw.out m hlt
        have hat := HAt.out m hlt
        have HTk := hid (outs_take l o m hlt)
        have HLen : Hid ((outs l (o.take m)).length = 34) := (outs_length _ _).trans hl
        have hbo : bo ≠ b := by have := HF.out bo ⟨by omega, oo, rfl⟩; omega
        have a7 := HAw.out.c 7 rfl
        unfold outAt at hat
        generalize o.getD m Ou.none = x at c0 c1 hat HTk
        obtain ⟨xs, xt⟩ := x
        simp only [] at c0 c1 hat HTk
        have hx0 := hat.1.1
        have hx1 := hat.1.2
        clear hat
        obtain ⟨q, rfl⟩ : ∃ q : Nat, xs = (q : Int) := ⟨xs.toNat, by omega⟩
        have hq34 : (q : Int) < 34 := by omega
        rw [Int.toNat_natCast] at HTk
        obtain ⟨d0, d1⟩ := cellsW HW.out q (by have := HLen.out; omega)
        generalize (outs l (o.take m)).getD q ByteArray.empty = old at d0
        have HSet := hid (strsW_set HW.out q (by have := HLen.out; omega) xt)
        have HKs : Hid (Kept (fun k => k = b) w3 (wr.setCell ⟨b, off + q, none⟩ (.string xt))) := (HKw.out.trans (kept_set wr b (off + q) (.string xt))).mono (fun k _ x => by rcases x with x | x <;> exact x)
        go_wp2
        go_region
        all_goals (try go_wp2)
        all_goals exact ⟨⟨m + 1, by omega, by go_num, by rw [HTk.out]; exact HSet, kdrew HKs.out⟩, by simp [intOf]; omega⟩
      · obtain rfl : m = o.length := by omega
        have a7 := HAw.out.c 7 rfl
        have a0 := HAw.out.c 0 rfl
        have HLen : Hid ((outs l o).length = 34) := (outs_length _ _).trans hl
        rw [List.take_length] at HW
        have HSec : Hid (∀ w, Calls Tryz.prog 33 #[.int .i64 1, .int .i64 (h : Int)] w fun e w' => e = .returned (.int .i64 (p : Int)) ∧ Below w.heap.size w w') := fun w => by
          have hx := Sector.spec_sector 1 (h : Int) w
          rw [sec1 h hh, ← HP.out] at hx
          exact hx
        have HShow : Hid (∀ w, Calls Tryz.prog 87 #[.agg #[.int .i64 txn, .bool true, .int .i64 0, .int .i64 0, .int .i64 0, .int .i64 0, .string ⟨#[]⟩, .slice none 0 0]] w fun e w' => e = .returned (.string (JD txn).show) ∧ Below w.heap.size w w') := fun w => sShowJournal w (JD txn) none 0 (fun i hi => by cases hi) (JD_small txn)
        rw [← HP.out] at HRd
        generalize (JD txn).show = mk at HRd HShow
        have HPt : Hid (∀ w', Below wr.heap.size wr w' → w'.cell? ⟨w2.heap.size, 0, none⟩ = some (.int .i64 txn) ∧ (∃ old : ByteArray, w'.cell? ⟨b, off + p, none⟩ = some (.string old)) ∧ w'.frozen? ⟨b, off + p, none⟩ = false) := fun w' bw => by
          have hh3 := cellsW (Wr.below HW.out bw) p (by have := HLen.out; omega)
          exact ⟨(HAw.out.below bw HAw.out.lt).c 0 rfl, ⟨_, hh3.1⟩, hh3.2⟩
        have HEnd : Hid (∀ w', Below wr.heap.size wr w' → StrsW (w'.setCell ⟨b, off + p, none⟩ (.string mk)) B (some ⟨b, off, none⟩) ((outs l o).set p mk) ∧ Kept (fun k => k = b) w (w'.setCell ⟨b, off + p, none⟩ (.string mk))) := fun w' bw =>
          ⟨strsW_set (Wr.below HW.out bw) p (by have := HLen.out; omega) mk, ((((HK3.out.trans HKw.out).trans (Kept.of_below (S := fun k => k = b) bw)).trans (kept_set _ _ _ _)).mono (fun k _ x => by rcases x with ((x | x) | x) | x <;> exact x))⟩
        go_wp2
        go_region_with (first
          | (go_at_call 33; refine (HSec.out _).mono ?_; rintro e wx ⟨rfl, bx⟩; first | (have hch2 := hch.trans (bx.mono hch.size); obtain ⟨e0, ⟨old, e1⟩, e2⟩ := HPt.out _ hch2) | (have hch := undrew bx; obtain ⟨e0, ⟨old, e1⟩, e2⟩ := HPt.out _ hch))
          | (go_at_call 87; refine (HShow.out _).mono ?_; rintro e wx ⟨rfl, bx⟩; first | (have hch2 := hch.trans (bx.mono hch.size); obtain ⟨e0, ⟨old, e1⟩, e2⟩ := HPt.out _ hch2) | (have hch := undrew bx; obtain ⟨e0, ⟨old, e1⟩, e2⟩ := HPt.out _ hch)))
        all_goals (have HX := hid (HEnd.out _ hch2); clear hch hch2 bx)
        all_goals (try go_wp2)
        all_goals go_ret2
        all_goals (rw [HE.out, HRd.out]; exact ⟨rfl, HX.out.1, HX.out.2⟩)

end Go.Proofs.YtlbfcnpnfoapnaaGreatDoor.Re

namespace Go.Proofs.YtlbfcnpnfoapnaaGreatDoor.Re
open Go.RowKit Go.Proofs.YtlbfcnpnfoapnaaGreatDoor.Mem Go.Proofs.YtlbfcnpnfoapnaaGreatDoor.Sec Go.Proofs.YtlbfcnpnfoapnaaGreatDoor.Rd Go.Proofs.YtlbfcnpnfoapnaaGreatDoor.Pk
set_option linter.unusedVariables false

set_option maxRecDepth 100000 in
set_option maxHeartbeats 2000000 in
theorem sSettle (R : ByteArray → Int × Nat) (hR : Reads R) (w : World) (a : Option Addr) (cap : Nat) (l : List ByteArray) (S : Strs w a l) (hl : l.length ≤ 1048576) (hz : ∀ s ∈ l, s.size ≤ 1048576) :
    Calls Tryz.prog 39 #[.slice a l.length cap] w fun e w' => ∃ a' c', e = .returned (.slice a' (settle R l).length c') ∧ StrsW w' w.heap.size a' (settle R l) ∧ Below w.heap.size w w' := by
  have HR := hid hR
  have HS := hid S
  have HZ := hid hz
  clear hR S hz
  go_enter Tryz.func39, Tryz.ntmps39
  go_wp2_with fail
  refine (sPoolOk R HR.out w a cap l HS.out hl HZ.out).mono ?_
  rintro e w1 ⟨rfl, b1⟩
  have HB1 := hid b1
  have HS1 : Hid (Strs w1 a l) := Sl.below HS.out b1
  clear b1 HS
  cases hp : poolOk R l with
  | false =>
    have HE : Hid (settle R l = []) := by rw [Hid, settle, hp]; rfl
    have HBf := hid (HB1.out.alloc HB1.out.size (.cells #[] 9))
    clear hp
    go_wp2
    go_ret
    rw [HE.out]
    exact ⟨_, _, rfl, fun i hi => (by cases hi), HBf.out⟩
  | true =>
    have hlen := pool_len hp
    have HE : Hid (settle R l = steps R l 3) := by rw [Hid, settle, hp]; rfl
    have HP := hid hp
    have HSz := hid (steps_size HR.out HZ.out)
    have HSl : Hid (∀ k, (steps R l k).length = 34) := fun k => (steps_length R l k).trans hlen
    clear hp hl
    rw [hlen]
    obtain ⟨b, o, rfl, _⟩ := HS1.out 0 (by omega)
    obtain ⟨w2, hw2⟩ : ∃ w2, w1.alloc (.cells #[] 9) = w2 := ⟨_, rfl⟩
    have b2 : Below w1.heap.size w1 w2 := by rw [← hw2]; exact (Below.refl _ _).alloc (Nat.le_refl _) _
    have HB2 := hid (HB1.out.trans (b2.mono HB1.out.size))
    have HS2 : Hid (Strs w2 (some ⟨b, o, none⟩) l) := Sl.below HS1.out b2
    clear b2
    go_wp2_with (at_builtin; refine wpList_app 22 9 (.string ByteArray.empty) 1 16 Tryz.underlying22 infoS rfl (by decide) (by decide) w2 rfl (.tmp 9) (.tmp 10) rfl w.heap.size _ 0 [] rfl (Or.inl ⟨_, rfl, rfl, rfl⟩) ⟨b, o, none⟩ 34 cap (l.map .string) rfl (by simp [hlen]) (hlen ▸ news_sl HS2.out) (news_one l) (by decide) HB2.out.size ?_; intro v1 w3 r1 kk _; have HB3 := hid (HB2.out.trans (kk.below HB2.out.size (fun b _ x => by cases x))); obtain ⟨a1, c1, rfl, hW⟩ := row_strs r1; have HW := hid hW; obtain ⟨b1, o1, rfl, _⟩ := hW 0 (by omega); clear hW r1 kk; rw [hlen])
    have hbB : w.heap.size ≤ b1 := Wr.foot_ge HW.out ⟨by omega, o1, rfl⟩
    go_loopw [3, 4] (fun t i wr => ∃ m : Nat, m ≤ 3 ∧ i = .int .i64 (m : Int) ∧ t = .slice (some ⟨b1, o1, none⟩) 34 c1 ∧ Hid (StrsW wr w.heap.size (some ⟨b1, o1, none⟩) (steps R l m)) ∧ Hid (Below w.heap.size w wr)) (fun _ i _ => 3 - (intOf i).toNat)
    case atStart => exact ⟨0, Nat.zero_le _, rfl, rfl, HW, HB3⟩
    case round =>
      obtain ⟨m, hm, rfl, rfl, HWm, HBm⟩ := hrel
      by_cases hlt : m < 3
      · have HPo : Hid (Calls Tryz.prog 29 #[.slice (some ⟨b1, o1, none⟩) 34 c1] wr fun e w' => e = .returned (.bool (poolOk R (steps R l m))) ∧ Below wr.heap.size wr w') := by
          have hx := sPoolOk R HR.out wr (some ⟨b1, o1, none⟩) c1 (steps R l m) (Wr.sl HWm.out) (by rw [HSl.out]; decide) (HSz.out m)
          rw [HSl.out] at hx
          exact hx
        go_wp2_with fail
        refine HPo.out.mono ?_
        rintro e w4 ⟨rfl, b4⟩
        have HW4 : Hid (StrsW w4 w.heap.size (some ⟨b1, o1, none⟩) (steps R l m)) := HWm.out.below b4
        have HB4 := hid (HBm.out.trans (b4.mono HBm.out.size))
        clear b4
        cases hp : poolOk R (steps R l m) with
        | false =>
          have HX := hid (steps_rest hp hm)
          clear hp
          go_wp2
          go_ret
          rw [HE.out, HX.out, HSl.out]
          exact ⟨_, c1, rfl, HW4.out, HB4.out⟩
        | true =>
          have HX := hid (step_yes hp m)
          have HL6 := hid (l6Redo R HR.out w4 w.heap.size b1 o1 c1 (steps R l m) HW4.out hp (HSz.out m) m hlt)
          clear hp
          go_wp2_with fail
          refine HL6.out.mono ?_
          rintro e w5 ⟨rfl, hW5, k5⟩
          have HW5 : Hid (StrsW w5 w.heap.size (some ⟨b1, o1, none⟩) (steps R l (m + 1))) := by show StrsW _ _ _ (step R m (steps R l m)); rw [HX.out]; exact hW5
          have HB5 : Hid (Below w.heap.size w w5) := HB4.out.trans (k5.below HB4.out.size (fun k hk x => by omega))
          clear hW5 k5
          go_wp2
          exact ⟨⟨m + 1, by omega, by go_num, rfl, HW5, HB5⟩, by simp [intOf]; omega⟩
      · obtain rfl : m = 3 := by omega
        go_wp2
        go_ret
        rw [HE.out, HSl.out]
        exact ⟨_, c1, rfl, HWm.out, HBm.out⟩

end Go.Proofs.YtlbfcnpnfoapnaaGreatDoor.Re

namespace Go.Proofs.YtlbfcnpnfoapnaaGreatDoor.Re
open Go.RowKit Go.Proofs.YtlbfcnpnfoapnaaGreatDoor.Mem Go.Proofs.YtlbfcnpnfoapnaaGreatDoor.Sec Go.Proofs.YtlbfcnpnfoapnaaGreatDoor.Rd Go.Proofs.YtlbfcnpnfoapnaaGreatDoor.Pk
set_option linter.unusedVariables false

set_option maxRecDepth 100000 in
set_option maxHeartbeats 1000000 in
theorem copyTexts (w : World) (ad : Addr) (cap : Nat) (l : List ByteArray) (S : Strs w (some ad) l) (hl : l.length = 34) :
    Calls Tryz.prog 100 #[.slice (some ad) 34 cap] w fun e w' => ∃ b off c, e = .returned (.slice (some ⟨b, off, none⟩) 34 c) ∧ StrsW w' w.heap.size (some ⟨b, off, none⟩) l ∧ Below w.heap.size w w' := by
  have HN := hid (news_sl S)
  have H1 := hid (news_one l)
  have HL := hid hl
  clear S
  go_enter Tryz.func100, Tryz.ntmps100
  go_wp2_with (at_builtin; refine wpList_app 22 9 (.string ByteArray.empty) 1 16 Tryz.underlying22 infoS rfl (by decide) (by decide) w rfl (.const (.slice none 0 0)) (.tmp 3) rfl w.heap.size (.slice none 0 0) 0 [] rfl (Or.inl ⟨none, rfl, rfl, rfl⟩) ad 34 cap (l.map .string) rfl (by simp [hl]) (hl ▸ HN.out) H1.out (by decide) (Nat.le_refl _) ?_; intro v1 w1 r1 kk _; have HK := hid (kk.below (B := w.heap.size) (Nat.le_refl _) (fun b _ x => by cases x)); obtain ⟨a1, c1, rfl, hW⟩ := row_strs r1; have HW := hid hW; obtain ⟨b1, o1, rfl, _⟩ := hW 0 (by omega); clear hW r1 kk; rw [hl])
  go_ret
  exact ⟨b1, o1, ⟨c1, rfl⟩, HW.out, HK.out⟩

set_option maxRecDepth 100000 in
set_option maxHeartbeats 1000000 in
theorem doneMark (w : World) (h : Nat) (hh : h < 3) (t : Int) (T : Sums w) (K : Sector.Kinds w) (hg : 0 < w.heap.size) :
    Calls Tryz.prog 136 #[.int .i64 (h : Int), .int .i64 t] w fun e w' => e = .returned (.agg #[.int .i64 ((3 + h : Nat) : Int), .string (JD t).show]) ∧ Below w.heap.size w w' := by
  have HT := hid T
  have HK := hid K
  clear T K
  obtain ⟨wa, hwa, ez, A0, B0⟩ := one_new w [.int .i64 0, .string ⟨#[]⟩] 119
  have HShow : Hid (∀ w, Sums w → Calls Tryz.prog 79 #[.agg #[.int .i64 t, .bool true, .int .i64 0, .int .i64 0, .int .i64 0, .int .i64 0, .string ⟨#[]⟩, .slice none 0 0]] w fun e w' => e = .returned (.string (JD t).show) ∧ Below w.heap.size w w') := fun w hw => iShowJournal w (JD t) none 0 (fun i hi => by cases hi) (JD_small t) hw
  have HA := hid A0
  have HB := hid B0
  have HKa := hid (kinds_below HK.out hg B0)
  have HTa := hid (HT.out.below B0)
  clear A0 B0 HT HK
  go_enter Tryz.func136, Tryz.ntmps136
  go_wp2_with fail
  refine (Sector.impl_sector 1 (h : Int) _ (by first | exact HKa.out | (rw [hwa]; exact HKa.out))).mono ?_
  rintro e w1 ⟨rfl, hw1⟩
  obtain rfl := hw1.symm
  rw [sec1 h hh]
  go_wp2_with fail
  refine (HShow.out wa HTa.out).mono ?_
  rintro e w2 ⟨rfl, b2⟩
  have HA2 := hid (HA.out.below b2 HA.out.lt)
  have HB2 := hid (HB.out.trans (b2.mono HB.out.size))
  have c0 := HA2.out.c 0 rfl
  have c1 := HA2.out.c 1 rfl
  have f0 := HA2.out.f 0
  have f1 := HA2.out.f 1
  have HRw := hid ((HA2.out.set 0 (.int .i64 ((3 + h : Nat) : Int))).set 1 (.string (JD t).show))
  have HBf := hid (((HB2.out.setCell (p := ⟨w.heap.size, 0, none⟩) (Nat.le_refl _) (.int .i64 ((3 + h : Nat) : Int))).setCell (p := ⟨w.heap.size, 1, none⟩) (Nat.le_refl _) (.string (JD t).show)))
  clear b2 HA HB
  go_wp2
  refine bodyPost_ret (results_row rfl _ _ w.heap.size [.int .i64 ((3 + h : Nat) : Int), .string (JD t).show] _ rfl HRw.out Tryz.underlying119 rfl (by kernel_rfl)) rfl ?_
  exact ⟨rfl, HBf.out⟩

set_option maxRecDepth 100000 in
set_option maxHeartbeats 1000000 in
theorem writes (w : World) (B g b off cap : Nat) (l : List ByteArray) (S : StrsW w B (some ⟨b, off, none⟩) l) (hl : l.length = 34) (hg : w.cell? ⟨g, 0, none⟩ = some (.slice (some ⟨b, off, none⟩) 34 cap)) (n : Nat) (hn : n < 34) (t : ByteArray) :
    Calls Tryz.prog 103 #[.agg #[.int .i64 (n : Int), .string t], .pointer (some ⟨g, 0, none⟩)] w fun e w' => e = .returned (.tuple #[]) ∧ StrsW w' B (some ⟨b, off, none⟩) (l.set n t) ∧ Kept (fun k => k = b) w w' := by
  have hgl := World.block_lt_of_cell? w _ hg
  have hbl : b < w.heap.size := (Wr.sl S).lt ⟨by omega, off, rfl⟩
  have hn' : (n : Int) < 34 := by omega
  obtain ⟨wa, hwa, ez, A0, B0⟩ := one_new w [.int .i64 (n : Int), .string t] 119
  have hga := (B0.cell (p := ⟨g, 0, none⟩) hgl).trans hg
  have HS : Hid (StrsW wa B (some ⟨b, off, none⟩) l) := Wr.below S B0
  obtain ⟨hc, hf⟩ := cellsW HS.out n (by omega)
  have a0 := A0.c 0 rfl
  have a1 := A0.c 1 rfl
  have HSet := hid (strsW_set HS.out n (by omega) t)
  have HK : Hid (Kept (fun k => k = b) w (wa.setCell ⟨b, off + n, none⟩ (.string t))) := ((Kept.of_below (S := fun k => k = b) B0).trans (kept_set wa b (off + n) (.string t))).mono (fun k _ x => by rcases x with x | x <;> exact x)
  clear S hg A0 B0 HS
  go_enter Tryz.func103, Tryz.ntmps103
  go_wp2
  go_end0
  exact ⟨rfl, HSet.out, HK.out⟩

set_option maxRecDepth 100000 in
set_option maxHeartbeats 1000000 in
theorem writesD (w : World) (B g b off cap : Nat) (l : List ByteArray) (S : StrsW w B (some ⟨b, off, none⟩) l) (hl : l.length = 34) (hg : w.cell? ⟨g, 0, none⟩ = some (.slice (some ⟨b, off, none⟩) 34 cap)) (n : Nat) (hn : n < 34) (t : ByteArray) (u : FrameMode) :
    CallsD Tryz.prog 103 #[.agg #[.int .i64 (n : Int), .string t], .pointer (some ⟨g, 0, none⟩)] u w fun e u' w' => u' = u ∧ e = .returned (.tuple #[]) ∧ StrsW w' B (some ⟨b, off, none⟩) (l.set n t) ∧ Kept (fun k => k = b) w w' := by
  have hgl := World.block_lt_of_cell? w _ hg
  have hbl : b < w.heap.size := (Wr.sl S).lt ⟨by omega, off, rfl⟩
  have hn' : (n : Int) < 34 := by omega
  obtain ⟨wa, hwa, ez, A0, B0⟩ := one_new w [.int .i64 (n : Int), .string t] 119
  have hga := (B0.cell (p := ⟨g, 0, none⟩) hgl).trans hg
  have HS : Hid (StrsW wa B (some ⟨b, off, none⟩) l) := Wr.below S B0
  obtain ⟨hc, hf⟩ := cellsW HS.out n (by omega)
  have a0 := A0.c 0 rfl
  have a1 := A0.c 1 rfl
  have HSet := hid (strsW_set HS.out n (by omega) t)
  have HK : Hid (Kept (fun k => k = b) w (wa.setCell ⟨b, off + n, none⟩ (.string t))) := ((Kept.of_below (S := fun k => k = b) B0).trans (kept_set wa b (off + n) (.string t))).mono (fun k _ x => by rcases x with x | x <;> exact x)
  clear S hg A0 B0 HS
  go_enter_d Tryz.func103, Tryz.ntmps103
  go_wp2
  go_end0
  exact ⟨rfl, HSet.out, HK.out⟩

end Go.Proofs.YtlbfcnpnfoapnaaGreatDoor.Re

namespace Go.Proofs.YtlbfcnpnfoapnaaGreatDoor.Re
open Go.RowKit Go.Proofs.YtlbfcnpnfoapnaaGreatDoor.Mem Go.Proofs.YtlbfcnpnfoapnaaGreatDoor.Sec Go.Proofs.YtlbfcnpnfoapnaaGreatDoor.Rd Go.Proofs.YtlbfcnpnfoapnaaGreatDoor.Pk
set_option linter.unusedVariables false

set_option maxRecDepth 100000 in
set_option maxHeartbeats 2000000 in
theorem replay (w : World) (B g b off cap : Nat) (l : List ByteArray) (S : StrsW w B (some ⟨b, off, none⟩) l) (hl : l.length = 34) (hg : w.cell? ⟨g, 0, none⟩ = some (.slice (some ⟨b, off, none⟩) 34 cap)) (hgb : g ≠ b)
    (J : Jn) (ad : Option Addr) (cp : Nat) (hO : Ous w ad J.outs) (hok : J.ok = true) (hd : J.done = false) (hf : ∀ k, foot ad (J.outs.length * 2) k → k ≠ b) (h : Nat) (hh : h < 3) (T : Sums w) (K : Sector.Kinds w) (hgk : 0 < w.heap.size) :
    Calls Tryz.prog 102 #[jnV J ad cp, .int .i64 (h : Int), .func (.func 103) #[] #[.pointer (some ⟨g, 0, none⟩)]] w fun e w' => e = .returned (.tuple #[]) ∧ StrsW w' B (some ⟨b, off, none⟩) (redone J h l) ∧ Kept (fun k => k = b) w w' := by
  have hgl := World.block_lt_of_cell? w _ hg
  have hbl : b < w.heap.size := (Wr.sl S).lt ⟨by omega, off, rfl⟩
  have hoo := open_outs hok hd
  have HAt := hid hoo.1
  have ho8 := hoo.2.1
  have HRd : Hid (redone J h l = (outs l J.outs).set (3 + h) (JD J.txn).show) := rfl
  obtain ⟨txn, dn, k, v, t, at_, s, o⟩ := J
  simp only [] at HAt ho8 HRd hd hO hf
  subst hd
  have HV : Hid (jnV ⟨txn, false, k, v, t, at_, s, o⟩ ad cp = .agg #[.int .i64 txn, .bool false, .int .i64 k, .int .i64 v, .int .i64 t, .int .i64 at_, .string s, .slice ad o.length cp]) := rfl
  rw [HV.out]
  obtain ⟨wa, hwa, ez, A0, B0⟩ := one_new w [.int .i64 txn, .bool false, .int .i64 k, .int .i64 v, .int .i64 t, .int .i64 at_, .string s, .slice ad o.length cp] 85
  have HA := hid A0
  have HB0 := hid B0
  have HS := hid (Wr.below S B0)
  have HOu : Hid (Ous wa ad o) := Sl.below hO B0
  have HF := hid hf
  have HGc := hid ((B0.cell (p := ⟨g, 0, none⟩) hgl).trans hg)
  have HT := hid (T.below B0)
  have HK := hid (kinds_below K hgk B0)
  have a0 := A0.c 0 rfl
  clear A0 B0 S hO hf hg T K hoo hok hgk
  go_enter_defers Tryz.func102, Tryz.ntmps102
  go_wp2_with fail
  refine (doneMark wa h hh txn HT.out HK.out (by omega)).mono ?_
  rintro e w1 ⟨rfl, b1⟩
  have HA1 := hid (HA.out.below b1 HA.out.lt)
  have HS1 : Hid (StrsW w1 B (some ⟨b, off, none⟩) l) := Wr.below HS.out b1
  have HO1 : Hid (Ous w1 ad o) := Sl.below HOu.out b1
  have hz1 := b1.size
  have hgc1 : w1.cell? ⟨g, 0, none⟩ = some (.slice (some ⟨b, off, none⟩) 34 cap) := (b1.cell (p := ⟨g, 0, none⟩) (by show g < _; omega)).trans HGc.out
  have HG1 := hid hgc1
  have HK1 : Hid (Kept (fun k => k = b) w w1) := ((Kept.of_below (S := fun k => k = b) HB0.out).trans (Kept.of_below (S := fun k => k = b) b1)).mono (fun k _ x => by rcases x with x | x <;> exact x)
  have a7 := HA1.out.c 7 rfl
  clear b1 HA HS HOu HGc HB0 HT HK hgc1 a0
  generalize (JD txn).show = mk at *
  go_wp2
  go_loopw [16] (fun i wr => ∃ m : Nat, m ≤ o.length ∧ i = .int .i64 (m : Int) ∧ Hid (StrsW wr B (some ⟨b, off, none⟩) (outs l (o.take m))) ∧ Hid (Kept (fun k => k = b) w wr) ∧ Hid (wr.cell? ⟨g, 0, none⟩ = some (.slice (some ⟨b, off, none⟩) 34 cap)) ∧ Hid (Ous wr ad o)) (fun i _ => o.length - (intOf i).toNat)
  case atStart => exact ⟨0, Nat.zero_le _, rfl, HS1, HK1, HG1, HO1⟩
  case round =>
    obtain ⟨m, hm, rfl, HW, HKw, HGw, HOw⟩ := hrel
    by_cases hlt : m < o.length
    · obtain ⟨bo, oo, rfl, c0, c1⟩ := Ous.at_ HOw.out m hlt
      have hat := HAt.out m hlt
      have HTk := hid (outs_take l o m hlt)
      have HLen : Hid ((outs l (o.take m)).length = 34) := (outs_length _ _).trans hl
      unfold outAt at hat
      generalize o.getD m Ou.none = x at c0 c1 hat HTk
      obtain ⟨xs, xt⟩ := x
      simp only [] at c0 c1 hat HTk
      have hx0 := hat.1.1
      have hx1 := hat.1.2
      clear hat
      obtain ⟨q, rfl⟩ : ∃ q : Nat, xs = (q : Int) := ⟨xs.toNat, by omega⟩
      have hq34 : q < 34 := by omega
      rw [Int.toNat_natCast] at HTk
      obtain ⟨wx, hwx, ezx, Ax, Bx⟩ := one_new wr [.int .i64 (q : Int), .string xt] 119
      have x0 := Ax.c 0 rfl
      have x1 := Ax.c 1 rfl
      have HWx : Hid (StrsW wx B (some ⟨b, off, none⟩) (outs l (o.take m))) := Wr.below HW.out Bx
      have HGx := hid ((Bx.cell (p := ⟨g, 0, none⟩) (World.block_lt_of_cell? wr _ HGw.out)).trans HGw.out)
      have HOx : Hid (Ous wx (some ⟨bo, oo, none⟩) o) := Sl.below HOw.out Bx
      have HKx : Hid (Kept (fun k => k = b) w wx) := (HKw.out.trans (Kept.of_below (S := fun k => k = b) Bx)).mono (fun k _ x => by rcases x with x | x <;> exact x)
      clear Ax Bx
      go_wp2_with fail
      refine (writes wx B g b off cap _ HWx.out HLen.out HGx.out q hq34 xt).mono ?_
      rintro e w5 ⟨rfl, hW5, k5⟩
      have HW5 := hid hW5
      have HK5 : Hid (Kept (fun k => k = b) w w5) := (HKx.out.trans k5).mono (fun k _ x => by rcases x with x | x <;> exact x)
      have HG5 : Hid (w5.cell? ⟨g, 0, none⟩ = some (.slice (some ⟨b, off, none⟩) 34 cap)) := (cell_block (p := ⟨g, 0, none⟩) (k5.block g (World.block_lt_of_cell? wx _ HGx.out) hgb)).trans HGx.out
      have HO5 : Hid (Ous w5 (some ⟨bo, oo, none⟩) o) := Sl.move HOx.out k5 (fun k hk x => HF.out k hk x)
      clear hW5 k5
      go_wp2
      exact ⟨⟨m + 1, by omega, by go_num, by rw [HTk.out]; exact HW5, HK5, HG5, HO5⟩, by simp [intOf]; omega⟩
    · obtain rfl : m = o.length := by omega
      have HLen : Hid ((outs l o).length = 34) := (outs_length _ _).trans hl
      rw [List.take_length] at HW
      have hsec : 3 + (h : Int) = ((3 + h : Nat) : Int) := by omega
      go_wp2
      rw [hsec]
      refine leaves_cons (f := 103) (args := #[.agg #[.int .i64 ((3 + h : Nat) : Int), .string mk], .pointer (some ⟨g, 0, none⟩)]) (by simp) (by simp [go_sem]) ?_
      refine (writesD wr B g b off cap _ HW.out HLen.out HGw.out (3 + h) (by omega) mk .returning).mono ?_
      rintro e u' w6 ⟨rfl, rfl, hW6, k6⟩
      have HK6 : Kept (fun k => k = b) w w6 := (HKw.out.trans k6).mono (fun k _ x => by rcases x with x | x <;> exact x)
      refine ⟨_, results_none rfl _ _ _, rfl, ?_, HK6⟩
      rw [HRd.out]
      exact hW6

end Go.Proofs.YtlbfcnpnfoapnaaGreatDoor.Re

namespace Go.Proofs.YtlbfcnpnfoapnaaGreatDoor.Re
open Go.RowKit Go.Proofs.YtlbfcnpnfoapnaaGreatDoor.Mem Go.Proofs.YtlbfcnpnfoapnaaGreatDoor.Sec Go.Proofs.YtlbfcnpnfoapnaaGreatDoor.Rd Go.Proofs.YtlbfcnpnfoapnaaGreatDoor.Pk
set_option linter.unusedVariables false

set_option maxRecDepth 100000 in
set_option maxHeartbeats 2000000 in
theorem iRedo (R : ByteArray → Int × Nat) (hR : Reads R) (hTx : ∀ s : ByteArray, s.size ≤ maxLen → Tx s (R s)) (w : World) (a : Option Addr) (cap : Nat) (l : List ByteArray) (S : Strs w a l) (hl : l.length ≤ 1048576) (hz : ∀ s ∈ l, s.size ≤ 1048576) (u : TypeId) (pv : Value) (hL : Lacks w u pv) (T : Sums w) (K : Sector.Kinds w) (hg : 0 < w.heap.size) (h : Int) :
    Calls Tryz.prog 67 #[.slice a l.length cap, .int .i64 h] w fun e w' => ∃ a' c', e = .returned (.tuple #[.slice a' (redo R l h).1.length c', .bool (redo R l h).2]) ∧ StrsW w' w.heap.size a' (redo R l h).1 ∧ Below w.heap.size w w' := by
  have hmf : ∀ (fn : Fn) (first cap : Array Value) (w : World), (Instr.makeFunc fn first cap).run Tryz.prog w = .ok (.func fn first cap) w := fun _ _ _ _ => rfl
  have HR := hid hR
  have HTx := hid hTx
  have HS := hid S
  have HZ := hid hz
  have HL := hid hL
  have HT := hid T
  have HK := hid K
  have HG := hid hg
  clear hR hTx S hz hL T K hg
  go_enter Tryz.func67, Tryz.ntmps67
  go_wp2_with fail
  refine (iPoolOk R HR.out HTx.out w a cap l HS.out hl HZ.out u pv HL.out HT.out HK.out HG.out).mono ?_
  rintro e w1 ⟨rfl, b1⟩
  have HB1 := hid b1
  have HS1 : Hid (Strs w1 a l) := Sl.below HS.out b1
  clear b1 HS
  cases hp : poolOk R l with
  | false =>
    have HE := hid (redo_no hp h)
    clear hp
    go_wp2
    go_ret2
    rw [HE.out]
    exact ⟨none, 0, rfl, fun i hi => (by cases hi), HB1.out⟩
  | true =>
    have hlen := pool_len hp
    have HP := hid hp
    clear hp hl
    rw [hlen]
    obtain ⟨b, o, rfl, _⟩ := HS1.out 0 (by omega)
    go_wp2_with fail
    refine (copyTexts w1 ⟨b, o, none⟩ cap l HS1.out hlen).mono ?_
    rintro e w2 ⟨b2, o2, c2, rfl, hW2, bb2⟩
    obtain ⟨w3, hw3, ez3, A3, B3⟩ := one_new w2 [.slice (some ⟨b2, o2, none⟩) 34 c2] 22
    have HB3 := hid (HB1.out.trans ((bb2.trans (B3.mono bb2.size)).mono HB1.out.size))
    have HW3 : Hid (StrsW w3 w1.heap.size (some ⟨b2, o2, none⟩) l) := Wr.below hW2 B3
    have HA3 := hid A3
    have HS3 : Hid (Strs w3 (some ⟨b, o, none⟩) l) := Sl.below (Sl.below HS1.out bb2) B3
    have hb2 : w1.heap.size ≤ b2 := Wr.foot_ge hW2 ⟨by omega, o2, rfl⟩
    have hb2' : b2 < w2.heap.size := (Wr.sl hW2).lt ⟨by omega, o2, rfl⟩
    have h01 := HB1.out.size
    have a0 := A3.c 0 rfl
    clear hW2 bb2 A3 B3 HS1
    by_cases hh : 0 ≤ h ∧ h < 3
    · obtain ⟨n, rfl⟩ : ∃ n : Nat, h = (n : Int) := ⟨h.toNat, by omega⟩
      have hn : n < 3 := by omega
      have HE := hid (redo_is HP.out n hn)
      obtain ⟨J, hJ⟩ := pool_jn HP.out n hn
      have HOk := hid (readJn_ok HR.out (getD_size HZ.out _) hJ)
      have HD := hid (@redo1_done R n l J hJ)
      have HO := hid (@redo1_open R n l J hJ)
      have HJ := hid hJ
      have HZn := hid (getD_size HZ.out (3 + n))
      clear hJ hh
      go_wp2_with fail
      refine (isHost (n : Int) w3).mono ?_
      rintro e w4 ⟨rfl, hw4⟩
      obtain rfl := hw4.symm
      rw [decide_eq_true (show (0 : Int) ≤ (n : Int) ∧ (n : Int) < 3 by omega)]
      go_wp2_with fail
      refine (Sector.impl_sector 1 (n : Int) w3 (kinds_below HK.out HG.out HB3.out)).mono ?_
      rintro e w4 ⟨rfl, hw4⟩
      obtain rfl := hw4.symm
      rw [sec1 n hn]
      obtain ⟨p, hpp⟩ : ∃ p : Nat, p = 3 + n := ⟨_, rfl⟩
      have HPp := hid hpp
      have hp34 : (p : Int) < 34 := by omega
      have hc := cells34 HS3.out hlen w3 (Below.refl _ _) p (by omega)
      rw [← hpp] at HJ HZn
      rw [← hpp]
      clear hpp
      obtain ⟨s, hs⟩ : ∃ s, s = l.getD p ByteArray.empty := ⟨_, rfl⟩
      rw [← hs] at hc HJ HZn
      clear hs
      go_wp2_with fail
      refine (iReadJournal R HR.out s HZn.out (no_flagJn R HR.out HTx.out s HZn.out) w3 u pv (HL.out.kept (Kept.of_below (S := fun _ => False) HB3.out) (fun x => x)) (HT.out.below HB3.out)).mono ?_
      rintro e w4 ⟨J', ad, cp, ok, hi, rfl, hO4, b4⟩
      have hJJ : J' = J := by
        rcases hi with ⟨h1, h2, h3⟩ | ⟨h1, _⟩
        · rw [HJ.out] at h1
          cases h1
          rfl
        · rw [HJ.out] at h1; cases h1
      obtain rfl := hJJ
      obtain ⟨ad', cp', ea, hWo⟩ := Or2.w hO4
      cases ea
      have HF : Hid (∀ k, foot ad (J'.outs.length * 2) k → w3.heap.size ≤ k) := fun k hk => Wr.foot_ge hWo hk
      have HO4 : Hid (Ous w4 ad J'.outs) := Wr.sl hWo
      have HW4 : Hid (StrsW w4 w1.heap.size (some ⟨b2, o2, none⟩) l) := HW3.out.below b4
      have HB4 := hid (HB3.out.trans (b4.mono HB3.out.size))
      have HA4 := hid (HA3.out.below b4 HA3.out.lt)
      have h34 := b4.size
      clear hi hO4 hWo b4 HW3 HA3 HJ HZn hc a0
      obtain ⟨txn, dn, kd, v, tt, at_, tx, o'⟩ := J'
      simp only [] at HD HO HF HO4
      have HV : Hid (jnV ⟨txn, dn, kd, v, tt, at_, tx, o'⟩ ad cp = .agg #[.int .i64 txn, .bool dn, .int .i64 kd, .int .i64 v, .int .i64 tt, .int .i64 at_, .string tx, .slice ad o'.length cp]) := rfl
      rw [HV.out]
      obtain ⟨w5, hw5, ez5, A5, B5⟩ := one_new w4 [.int .i64 txn, .bool dn, .int .i64 kd, .int .i64 v, .int .i64 tt, .int .i64 at_, .string tx, .slice ad o'.length cp] 85
      have HW5 : Hid (StrsW w5 w1.heap.size (some ⟨b2, o2, none⟩) l) := HW4.out.below B5
      have HB5 := hid (HB4.out.trans (B5.mono HB4.out.size))
      have HO5 : Hid (Ous w5 ad o') := Sl.below HO4.out B5
      have HA5 := hid (HA4.out.below B5 HA4.out.lt)
      have j0 := A5.c 0 rfl
      have j1 := A5.c 1 rfl
      have j2 := A5.c 2 rfl
      have j3 := A5.c 3 rfl
      have j4 := A5.c 4 rfl
      have j5 := A5.c 5 rfl
      have j6 := A5.c 6 rfl
      have j7 := A5.c 7 rfl
      have a0 := HA5.out.c 0 rfl
      clear A5 B5 HW4 HA4 HO4
      cases dn with
      | true =>
        have HX := hid (HD.out rfl)
        clear HD HO
        go_wp2
        go_ret2
        rw [HE.out, HX.out]
        exact ⟨_, c2, by rw [hlen]; rfl, HW5.out.mono h01, HB5.out⟩
      | false =>
        have HX := hid (HO.out rfl)
        clear HD HO
        have HQ : Hid (Calls Tryz.prog 102 #[.agg #[.int .i64 txn, .bool false, .int .i64 kd, .int .i64 v, .int .i64 tt, .int .i64 at_, .string tx, .slice ad o'.length cp], .int .i64 (n : Int), .func (.func 103) #[] #[.pointer (some ⟨w2.heap.size, 0, none⟩)]] w5 fun e w' => e = .returned (.tuple #[]) ∧ StrsW w' w1.heap.size (some ⟨b2, o2, none⟩) (redone ⟨txn, false, kd, v, tt, at_, tx, o'⟩ n l) ∧ Kept (fun k => k = b2) w5 w') :=
          replay w5 w1.heap.size w2.heap.size b2 o2 c2 l HW5.out hlen a0 (by omega) ⟨txn, false, kd, v, tt, at_, tx, o'⟩ ad cp HO5.out HOk.out rfl (fun k hk => by have := HF.out k hk; omega) n hn (HT.out.below HB5.out) (kinds_below HK.out HG.out HB5.out) (Nat.lt_of_lt_of_le HG.out HB5.out.size)
        go_wp2_with fail
        refine HQ.out.mono ?_
        rintro e w6 ⟨rfl, hW6, k6⟩
        have HW6 := hid hW6
        have HB6 : Hid (Below w.heap.size w w6) := HB5.out.trans (k6.below HB5.out.size (fun k hk x => by omega))
        have a6 := (HA5.out.kept k6 (by omega)).c 0 rfl
        clear hW6 k6 HQ j0 j1 j2 j3 j4 j5 j6 j7 a0
        go_wp2
        go_ret2
        rw [HE.out, HX.out]
        exact ⟨_, c2, by rw [redone_length, hlen]; rfl, HW6.out.mono h01, HB6.out⟩
    · have HE := hid (redo_none HP.out hh)
      go_wp2_with fail
      refine (isHost h w3).mono ?_
      rintro e w4 ⟨rfl, hw4⟩
      obtain rfl := hw4.symm
      rw [decide_eq_false hh]
      go_wp2
      go_ret2
      rw [HE.out]
      exact ⟨_, c2, by rw [hlen]; rfl, HW3.out.mono h01, HB3.out⟩

end Go.Proofs.YtlbfcnpnfoapnaaGreatDoor.Re

namespace Go.Proofs.YtlbfcnpnfoapnaaGreatDoor.Re
open Go.RowKit Go.Proofs.YtlbfcnpnfoapnaaGreatDoor.Mem Go.Proofs.YtlbfcnpnfoapnaaGreatDoor.Sec Go.Proofs.YtlbfcnpnfoapnaaGreatDoor.Rd Go.Proofs.YtlbfcnpnfoapnaaGreatDoor.Pk
set_option linter.unusedVariables false

set_option maxRecDepth 100000 in
set_option maxHeartbeats 2000000 in
theorem iSettle (R : ByteArray → Int × Nat) (hR : Reads R) (hTx : ∀ s : ByteArray, s.size ≤ maxLen → Tx s (R s)) (w : World) (a : Option Addr) (cap : Nat) (l : List ByteArray) (S : Strs w a l) (hl : l.length ≤ 1048576) (hz : ∀ s ∈ l, s.size ≤ 1048576) (u : TypeId) (pv : Value) (hL : Lacks w u pv) (T : Sums w) (K : Sector.Kinds w) (hg : 0 < w.heap.size) :
    Calls Tryz.prog 41 #[.slice a l.length cap] w fun e w' => ∃ a' c', e = .returned (.slice a' (settle R l).length c') ∧ StrsW w' w.heap.size a' (settle R l) ∧ Below w.heap.size w w' := by
  have HR := hid hR
  have HTx := hid hTx
  have HL := hid hL
  have HT := hid T
  have HK := hid K
  have HG := hid hg
  have HQ0 := hid (iRedo R hR hTx w a cap l S hl hz u pv hL T K hg 0)
  have HZ := hid hz
  clear hR hTx S hL T K hg hz
  go_enter Tryz.func41, Tryz.ntmps41
  go_wp2_with fail
  refine HQ0.out.mono ?_
  rintro e w1 ⟨a1, c1, rfl, hW1, b1⟩
  have HB1 := hid b1
  have HW1 := hid hW1
  clear hW1 b1
  generalize hq : (redo R l 0).2 = q0
  clear hq
  cases hp : poolOk R l with
  | false =>
    have HE : Hid (settle R l = []) := by rw [Hid, settle, hp]; rfl
    have HX := hid (redo_no hp 0)
    have HNo : Hid (poolOk R [] = false) := pool_no1 (by decide)
    rw [HX.out] at HW1 ⊢
    clear hp
    have HPo : Hid (Calls Tryz.prog 28 #[.slice a1 0 c1] w1 fun e w' => e = .returned (.bool false) ∧ Below w1.heap.size w1 w') := by
      have hx := iPoolOk R HR.out HTx.out w1 a1 c1 [] (Wr.sl HW1.out) (by decide) (fun s hs => by cases hs) u pv (HL.out.kept (Kept.of_below (S := fun _ => False) HB1.out) (fun x => x)) (HT.out.below HB1.out) (kinds_below HK.out HG.out HB1.out) (Nat.lt_of_lt_of_le HG.out HB1.out.size)
      rw [HNo.out] at hx
      exact hx
    simp only [List.length_nil]
    go_wp2
    go_loopw [3, 5] (fun t i wr => t = .slice a1 0 c1 ∧ i = .int .i64 1 ∧ wr = w1) (fun _ i _ => 0)
    case atStart => exact ⟨rfl, rfl, rfl⟩
    case round =>
      obtain ⟨rfl, rfl, rfl⟩ := hrel
      go_wp2_with fail
      refine HPo.out.mono ?_
      rintro e w2 ⟨rfl, b2⟩
      have HB2 := hid (HB1.out.trans (b2.mono HB1.out.size))
      clear b2
      go_wp2
      go_ret
      rw [HE.out]
      exact ⟨_, _, rfl, fun i hi => (by cases hi), HB2.out⟩
  | true =>
    have hlen := pool_len hp
    have HE : Hid (settle R l = steps R l 3) := by rw [Hid, settle, hp]; rfl
    have HSz := hid (steps_size HR.out HZ.out)
    have HSl : Hid (∀ k, (steps R l k).length = 34) := fun k => (steps_length R l k).trans hlen
    have HX : Hid ((redo R l 0).1 = steps R l 1) := by
      have h0 := redo_is hp 0 (by decide)
      show (redo R l ((0 : Nat) : Int)).1 = step R 0 l
      rw [h0, step_yes hp]
    rw [HX.out] at HW1 ⊢
    rw [HSl.out]
    clear hp hl HX
    go_wp2
    go_loopw [3, 5] (fun t i wr => ∃ (m : Nat) (a' : Option Addr) (c' : Nat), 1 ≤ m ∧ m ≤ 3 ∧ i = .int .i64 (m : Int) ∧ t = .slice a' 34 c' ∧ Hid (StrsW wr w.heap.size a' (steps R l m)) ∧ Hid (Below w.heap.size w wr)) (fun _ i _ => 3 - (intOf i).toNat)
    case atStart => exact ⟨1, a1, c1, by decide, by decide, rfl, rfl, HW1, HB1⟩
    case round =>
      obtain ⟨m, a2, c2, hm1, hm, rfl, rfl, HWm, HBm⟩ := hrel
      by_cases hlt : m < 3
      · have HLm := hid (HL.out.kept (Kept.of_below (S := fun _ => False) HBm.out) (fun x => x))
        have HPo : Hid (Calls Tryz.prog 28 #[.slice a2 34 c2] wr fun e w' => e = .returned (.bool (poolOk R (steps R l m))) ∧ Below wr.heap.size wr w') := by
          have hx := iPoolOk R HR.out HTx.out wr a2 c2 (steps R l m) (Wr.sl HWm.out) (by rw [HSl.out]; decide) (HSz.out m) u pv HLm.out (HT.out.below HBm.out) (kinds_below HK.out HG.out HBm.out) (Nat.lt_of_lt_of_le HG.out HBm.out.size)
          rw [HSl.out] at hx
          exact hx
        go_wp2_with fail
        refine HPo.out.mono ?_
        rintro e w4 ⟨rfl, b4⟩
        have HW4 : Hid (StrsW w4 w.heap.size a2 (steps R l m)) := HWm.out.below b4
        have HB4 := hid (HBm.out.trans (b4.mono HBm.out.size))
        clear b4
        cases hp : poolOk R (steps R l m) with
        | false =>
          have HX := hid (steps_rest hp hm)
          clear hp
          go_wp2
          go_ret
          rw [HE.out, HX.out, HSl.out]
          exact ⟨_, c2, rfl, HW4.out, HB4.out⟩
        | true =>
          have HX : Hid ((redo R (steps R l m) (m : Int)).1 = steps R l (m + 1)) := by
            show _ = step R m (steps R l m)
            rw [redo_is hp m hlt, step_yes hp]
          have HQ : Hid (Calls Tryz.prog 67 #[.slice a2 34 c2, .int .i64 (m : Int)] w4 fun e w' => ∃ a' c' q, e = .returned (.tuple #[.slice a' 34 c', .bool q]) ∧ StrsW w' w4.heap.size a' (steps R l (m + 1)) ∧ Below w4.heap.size w4 w') := by
            have hx := iRedo R HR.out HTx.out w4 a2 c2 (steps R l m) (Wr.sl HW4.out) (by rw [HSl.out]; decide) (HSz.out m) u pv (HL.out.kept (Kept.of_below (S := fun _ => False) HB4.out) (fun x => x)) (HT.out.below HB4.out) (kinds_below HK.out HG.out HB4.out) (Nat.lt_of_lt_of_le HG.out HB4.out.size) (m : Int)
            rw [HX.out, HSl.out, HSl.out] at hx
            exact hx.mono (fun e w' ⟨a', c', he, r⟩ => ⟨a', c', _, he, r⟩)
          clear hp
          go_wp2_with fail
          refine HQ.out.mono ?_
          rintro e w5 ⟨a5, c5, q5, rfl, hW5, b5⟩
          have HW5 : Hid (StrsW w5 w.heap.size a5 (steps R l (m + 1))) := hW5.mono HB4.out.size
          have HB5 := hid (HB4.out.trans (b5.mono HB4.out.size))
          clear hW5 b5
          go_wp2
          exact ⟨⟨m + 1, a5, c5, by omega, by omega, by go_num, rfl, HW5, HB5⟩, by simp [intOf]; omega⟩
      · obtain rfl : m = 3 := by omega
        go_wp2
        go_ret
        rw [HE.out, HSl.out]
        exact ⟨_, c2, rfl, HWm.out, HBm.out⟩

end Go.Proofs.YtlbfcnpnfoapnaaGreatDoor.Re

namespace Go.Proofs.YtlbfcnpnfoapnaaGreatDoor.Tr
open Go.RowKit Go.Proofs.YtlbfcnpnfoapnaaGreatDoor.Mem Go.Proofs.YtlbfcnpnfoapnaaGreatDoor.Sec Go.Proofs.YtlbfcnpnfoapnaaGreatDoor.Rd Go.Proofs.YtlbfcnpnfoapnaaGreatDoor.Pk Go.Proofs.YtlbfcnpnfoapnaaGreatDoor.Re
set_option linter.unusedVariables false

theorem cnt_upto (L : List Int) (k : Nat) (h : k < 18) : (cnt L).take (k + 1) = (cnt L).take k ++ [(L.count (k : Int) : Int)] := by
  have hk : k < (cnt L).length := by rw [cnt_len]; exact h
  have h2 := cnt_at L k h
  rw [List.take_add_one]
  simp only [List.getD, List.getElem?_eq_getElem hk, Option.getD_some] at h2
  simp [List.getElem?_eq_getElem hk, h2]

set_option maxRecDepth 100000 in
set_option maxHeartbeats 4000000 in
theorem iCounts (R : ByteArray → Int × Nat) (hR : Reads R) (hT : ∀ s : ByteArray, s.size ≤ maxLen → Tx s (R s)) (w : World) (a : Option Addr) (cap : Nat) (l : List ByteArray) (S : Strs w a l) (hl : l.length ≤ 1048576) (hz : ∀ s ∈ l, s.size ≤ 1048576) (u : TypeId) (pv : Value) (hL : Lacks w u pv) (T : Sums w) (K : Sector.Kinds w) (hg : 0 < w.heap.size) :
    Calls Tryz.prog 10 #[.slice a l.length cap] w fun e w' => ∃ a' c', e = .returned (.slice a' (counts R l).length c') ∧ IntsW w' w.heap.size a' (counts R l) ∧ Below w.heap.size w w' := by
  have HR := hid hR
  have HTx := hid hT
  have HL := hid hL
  have HT := hid T
  have HK := hid K
  have HG := hid hg
  have HZ := hid hz
  have HS := hid S
  have HPO := hid (iPoolOk R hR hT w a cap l S hl hz u pv hL T K hg)
  clear hR hz S hT hL T K hg
  go_enter Tryz.func10, Tryz.ntmps10
  go_wp2_with fail
  refine HPO.out.mono ?_
  rintro e w1 ⟨rfl, b1⟩
  have HB1 := hid b1
  clear b1
  cases hp : poolOk R l with
  | false =>
    have HE : Hid (counts R l = []) := by rw [Hid, counts, hp]; rfl
    clear hp
    go_wp2
    go_ret
    rw [HE.out]
    exact ⟨_, _, rfl, fun i hi => (by cases hi), HB1.out⟩
  | true =>
    have HE : Hid (counts R l = cnt (holdL R l)) := by rw [Hid, counts, hp]; rfl
    have HH := hid (holdings R HR.out HTx.out w1 a cap l (Sl.below HS.out HB1.out) hp HZ.out u pv (HL.out.kept (Kept.of_below (S := fun _ => False) HB1.out) (fun x => x)) (HT.out.below HB1.out) (kinds_below HK.out HG.out HB1.out) (Nat.lt_of_lt_of_le HG.out HB1.out.size))
    have hhl := holdL_len HR.out HZ.out hp
    clear hp
    go_wp2_with fail
    refine HH.out.mono ?_
    rintro e w2 ⟨v2, rfl, hI2, b2⟩
    have HB2 := hid (HB1.out.trans (b2.mono HB1.out.size))
    obtain ⟨a2, c2, rfl, hx2⟩ := hI2.w
    have HI2 : Hid (Ints w2 a2 (holdL R l)) := Wr.sl hx2
    clear b2 hI2 hx2 HH
    generalize holdL R l = L at *
    go_wp2_with fail
    refine (tallyOf L a2 c2 w2 HI2.out (by omega)).mono ?_
    rintro e w3 ⟨v3, T3, rfl, hO3, hT3, b3⟩
    obtain ⟨a3, c3, rfl, hs3⟩ := TalO.s hO3
    have HS3 := hid hs3
    have HT3 := hid hT3
    have htl : T3.length ≤ 1000 := by have := hT3.len; omega
    have HB3 := hid (HB2.out.trans (b3.mono HB2.out.size))
    clear b3 hO3 hs3 hT3
    go_wp2
    go_loopw [4, 12] (fun v i wr => ∃ k : Nat, k ≤ 18 ∧ i = .int .i64 (k : Int) ∧ Hid (Ir wr w3.heap.size v ((cnt L).take k)) ∧ Hid (Below w3.heap.size w3 wr)) (fun _ i _ => 18 - (intOf i).toNat)
    case atStart => exact ⟨0, Nat.zero_le _, rfl, Or.inl ⟨_, rfl, rfl, rfl⟩, Below.refl _ _⟩
    case round =>
      obtain ⟨k, hk, rfl, HI, HB⟩ := hrel
      have hcl : ((cnt L).take k).length ≤ 18 := by rw [List.length_take, cnt_len]; omega
      by_cases hlt : k < 18
      · have HU := hid (cnt_upto L k hlt)
        obtain ⟨a0, c0, rfl, _⟩ := HI.out.w
        go_wp2_with fail
        refine (timesOf T3 L (k : Int) a3 c3 wr (Sl.below HS3.out HB.out) htl HT3.out).mono ?_
        rintro e w4 ⟨rfl, b4⟩
        have HB4 := hid (HB.out.trans (b4.mono HB.out.size))
        have HI4 : Hid (Ir w4 w3.heap.size (.slice a0 ((cnt L).take k).length c0) ((cnt L).take k)) := RowO.below HI.out b4
        clear b4 HI
        generalize hM : (cnt L).take k = M at *
        clear hM
        generalize hx : ((L.count (k : Int) : Nat) : Int) = x at *
        clear hx
        have hwb : w3.heap.size ≤ (w4.alloc (.cells #[.int .i64 x] 3)).heap.size := by have := lt_alloc w4 (.cells #[.int .i64 x] 3); have := HB4.out.size; omega
        go_wp2_with (at_builtin; refine wpList_app 24 3 (.int .i64 0) 1 8 Tryz.underlying24 info3 rfl (by decide) (by decide) _ rfl (.tmp 15) (.tmp 19) rfl w3.heap.size _ M.length (ic M) rfl (RowO.below HI4.out ((Below.refl _ _).alloc (Nat.le_refl _) _)) ⟨w4.heap.size, 0, none⟩ 1 1 [.int .i64 x] rfl rfl (one_row w4 x) (by intro u hu; exact ic_one [x] u (by simpa [ic] using hu)) (by omega) hwb ?_; intro v5 w5 r5 kk hi5)
        have hrb : ∀ b, rb (.slice a0 M.length c0) = some b → w3.heap.size ≤ b := fun b hb => (RowO.lt HI4.out hb).1
        have HB5 : Hid (Below w3.heap.size w3 w5) := (HB4.out.alloc HB4.out.size _).trans (kk.below hwb (fun b hb x => by have := hrb b x; omega))
        refine ⟨⟨k + 1, by omega, by go_num, ?_, HB5⟩, by simp [intOf]; omega⟩
        rw [HU.out]
        unfold Ir
        rw [← ic_app, List.length_append]
        exact r5
      · obtain rfl : k = 18 := by omega
        have hi2 := RowO.mono HI.out HB3.out.size
        rw [List.take_of_length_le (by rw [cnt_len]; exact Nat.le_refl _)] at hi2
        obtain ⟨a0, c0, e0, hx0⟩ := Ir.w hi2
        subst e0
        have HX := hid hx0
        have HBf := hid (HB3.out.trans (HB.out.mono HB3.out.size))
        clear hi2 hx0
        go_wp2
        go_ret
        rw [HE.out]
        exact ⟨_, _, rfl, HX.out, HBf.out⟩

set_option maxRecDepth 100000 in
set_option maxHeartbeats 1000000 in
theorem equal (w : World) (a b : Option Addr) (ca cb : Nat) (l m : List Int) (S : Ints w a l) (T : Ints w b m) (hl : l.length ≤ 1000) (hm : m.length ≤ 1000) :
    Calls Tryz.prog 42 #[.slice a l.length ca, .slice b m.length cb] w fun e w' => e = .returned (.bool (decide (l = m))) ∧ Below w.heap.size w w' := by
  have HS := hid S
  have HT := hid T
  clear S T
  by_cases hln : l.length = m.length
  rotate_left
  · have hb : ((l.length : Int) != (m.length : Int)) = true := by simp; omega
    rw [decide_eq_false (fun e => hln (by rw [e]))]
    go_enter Tryz.func42, Tryz.ntmps42
    go_wp2
    go_ret
    exact ⟨rfl, Below.refl _ _⟩
  have HE : Hid (∀ q : Bool, (q = true ↔ l = m) → decide (l = m) = q) := fun q h => by cases q <;> simp_all
  generalize hq : decide (l = m) = q at *
  have HQ := hid hq
  clear hq
  rw [← hln]
  have HLn := hid hln
  clear hln hm
  go_enter Tryz.func42, Tryz.ntmps42
  go_wp2
  go_loopw [13] (fun i wr => ∃ k : Nat, k ≤ l.length ∧ i = .int .i64 (k : Int) ∧ Hid (∀ j, j < k → l.getD j 0 = m.getD j 0) ∧ Hid (Below w.heap.size w wr)) (fun i _ => l.length - (intOf i).toNat)
  case atStart => exact ⟨0, Nat.zero_le _, rfl, fun j hj => by omega, Below.refl _ _⟩
  case round =>
    obtain ⟨k, hk, rfl, HN, HB⟩ := hrel
    by_cases hlt : k < l.length
    · obtain ⟨b1, o1, rfl, c1⟩ := (Sl.below HS.out HB.out) k hlt
      obtain ⟨b2, o2, rfl, c2⟩ := (Sl.below HT.out HB.out) k (by rw [← HLn.out]; exact hlt)
      replace c1 : wr.cell? ⟨b1, o1 + k, none⟩ = some (.int .i64 (l.getD k 0)) := c1
      replace c2 : wr.cell? ⟨b2, o2 + k, none⟩ = some (.int .i64 (m.getD k 0)) := c2
      obtain ⟨x, hx⟩ : ∃ x, l.getD k 0 = x := ⟨_, rfl⟩
      obtain ⟨y, hy⟩ : ∃ y, m.getD k 0 = y := ⟨_, rfl⟩
      have HX := hid hx
      have HY := hid hy
      rw [hx] at c1
      rw [hy] at c2
      clear hx hy
      by_cases hxy : x = y
      · have HN2 : Hid (∀ j, j < k + 1 → l.getD j 0 = m.getD j 0) := fun j hj => by
          by_cases e : j = k
          · subst e; rw [HX.out, HY.out, hxy]
          · exact HN.out j (by omega)
        subst hxy
        go_wp2
        go_quiet (fail)
        go_wp2
        exact ⟨⟨k + 1, by omega, by go_num, HN2, below_drewN HB.out _⟩, by simp [intOf]; omega⟩
      · have hne : (x != y) = true := by simp [hxy]
        have HF : Hid (q = false) := by rw [Hid, ← HQ.out]; exact decide_eq_false (fun e => hxy (by rw [← HX.out, ← HY.out, e]))
        go_wp2
        go_quiet (fail)
        go_wp2
        go_ret
        exact ⟨by rw [HF.out]; rfl, below_drewN HB.out _⟩
    · obtain rfl : k = l.length := by omega
      have HF : Hid (q = true) := by rw [Hid, ← HQ.out]; exact decide_eq_true (getD_ext 0 HLn.out HN.out)
      go_wp2
      go_ret
      exact ⟨by rw [HF.out]; rfl, HB.out⟩

end Go.Proofs.YtlbfcnpnfoapnaaGreatDoor.Tr

namespace Go.Proofs.YtlbfcnpnfoapnaaGreatDoor.Tr
open Go.RowKit Go.Proofs.YtlbfcnpnfoapnaaGreatDoor.Mem Go.Proofs.YtlbfcnpnfoapnaaGreatDoor.Sec Go.Proofs.YtlbfcnpnfoapnaaGreatDoor.Rd Go.Proofs.YtlbfcnpnfoapnaaGreatDoor.Pk Go.Proofs.YtlbfcnpnfoapnaaGreatDoor.Re
set_option linter.unusedVariables false

/-- What RefsOk answers. -/
def refsA (R : ByteArray → Int × Nat) (l : List ByteArray) : Bool := refsOk R (Re.settle R l)

theorem settle_small {R : ByteArray → Int × Nat} (hR : Reads R) {l : List ByteArray} (hz : ∀ s ∈ l, s.size ≤ 1048576) : ∀ s ∈ Re.settle R l, s.size ≤ 1048576 := by
  unfold Re.settle
  split
  · exact steps_size hR hz 3
  · intro s hs; cases hs

theorem refs_at {R : ByteArray → Int × Nat} (hR : Reads R) {l : List ByteArray} (hz : ∀ s ∈ l, s.size ≤ 1048576) (h : poolOk R l = true) (m k : Nat) (hk : k < 6) : ∀ n, m < n → n ≤ 3 → (refsUp R l n).getD (6 * m + k) 0 = (refL R (l.getD (13 + m) ByteArray.empty)).getD k 0
  | 0, hm, _ => absurd hm (Nat.not_lt_zero _)
  | n + 1, hm, hn => by
    have hl := refsUp_len hR hz h n (by omega)
    rw [refsUp_succ]
    by_cases e : m < n
    · rw [← refs_at hR hz h m k hk n e (by omega)]
      simp only [List.getD]
      rw [List.getElem?_append_left (by omega)]
    · obtain rfl : m = n := by omega
      simp only [List.getD]
      rw [List.getElem?_append_right (by omega), hl]
      congr 2
      omega

theorem refs_yes {R : ByteArray → Int × Nat} (hR : Reads R) {l : List ByteArray} (hz : ∀ s ∈ l, s.size ≤ 1048576) (h : poolOk R l = true) (e : ∀ i, i < 18 → (refsUp R l 3).getD i 0 = (cnt (holdL R l)).getD i 0) : refsOk R l = true := by
  have hl := refsUp_len hR hz h 3 (by decide)
  unfold refsOk
  rw [h, Bool.true_and]
  exact decide_eq_true (getD_ext 0 (by rw [hl, cnt_len]) (fun j hj => e j (by omega)))
theorem refs_no {R : ByteArray → Int × Nat} {l : List ByteArray} (i : Nat) (e : (refsUp R l 3).getD i 0 ≠ (cnt (holdL R l)).getD i 0) : refsOk R l = false := by
  unfold refsOk
  rw [decide_eq_false (fun h => e (by rw [h])), Bool.and_false]

set_option maxRecDepth 100000 in
set_option maxHeartbeats 4000000 in
theorem sRefsOk (R : ByteArray → Int × Nat) (hR : Reads R) (w : World) (a : Option Addr) (cap : Nat) (l : List ByteArray) (S : Strs w a l) (hl : l.length ≤ 1048576) (hz : ∀ s ∈ l, s.size ≤ 1048576) :
    Calls Tryz.prog 16 #[.slice a l.length cap] w fun e w' => e = .returned (.bool (refsA R l)) ∧ Below w.heap.size w w' := by
  have HR := hid hR
  have HS := hid S
  have HZm := hid (settle_small hR hz)
  have hsl := settle_length R l
  have HSe := hid (sSettle R hR w a cap l S hl hz)
  clear hR S hz
  have HA : Hid (refsA R l = refsOk R (Re.settle R l)) := rfl
  generalize Re.settle R l = t at *
  generalize refsA R l = q at *
  go_enter Tryz.func16, Tryz.ntmps16
  go_wp2_with fail
  refine HSe.out.mono ?_
  rintro e w1 ⟨a1, c1, rfl, hW1, b1⟩
  have HS1 : Hid (Strs w1 a1 t) := Wr.sl hW1
  have HB1 := hid b1
  have htl : t.length ≤ 1048576 := by omega
  clear hW1 b1 HSe HS hsl hl
  go_wp2_with fail
  refine (sPoolOk R HR.out w1 a1 c1 t HS1.out htl HZm.out).mono ?_
  rintro e w2 ⟨rfl, b2⟩
  have HB2 := hid (HB1.out.trans (b2.mono HB1.out.size))
  have HS2 : Hid (Strs w2 a1 t) := Sl.below HS1.out b2
  clear b2 HS1
  cases hp : poolOk R t with
  | false =>
    have HF : Hid (q = false) := by rw [Hid, HA.out, refsOk, hp]; rfl
    clear hp
    go_wp2
    go_ret
    exact ⟨by rw [HF.out]; rfl, HB2.out⟩
  | true =>
    have H34 := hid (pool_len' hp)
    have HZ := hid (getD_size HZm.out)
    have HV := hid (fun i hi => pool_group hp i hi)
    have HAt := hid (fun m hm k hk => refs_at HR.out HZm.out hp m k hk 3 hm (by decide))
    have HY := hid (refs_yes HR.out HZm.out hp)
    have HN := hid (@refs_no R t)
    have HC := hid (sCounts R HR.out w2 a1 c1 t HS2.out htl HZm.out)
    have HE : Hid (counts R t = cnt (holdL R t)) := by rw [Hid, counts, hp]; rfl
    rw [HE.out] at HC
    rw [← HA.out] at HY HN
    clear hp htl HA
    go_wp2_with fail
    refine HC.out.mono ?_
    rintro e w3 ⟨a3, c3, rfl, hW3, b3⟩
    have HB3 := hid (HB2.out.trans (b3.mono HB2.out.size))
    have HS3 : Hid (Strs w3 a1 t) := Sl.below HS2.out b3
    have HC3 : Hid (Ints w3 a3 (cnt (holdL R t))) := Wr.sl hW3
    have hcl := cnt_len (holdL R t)
    clear hW3 b3 HS2 HC HE
    have h34 := H34.out
    obtain ⟨b, o, rfl, _⟩ := HS3.out 0 (by omega)
    have HCell := hid (cells34 HS3.out h34)
    rw [h34, hcl]
    have HCl := hid hcl
    clear h34 HS3 hcl H34
    generalize cnt (holdL R t) = C at *
    generalize hrf : refsUp R t 3 = F at *
    clear hrf
    go_wp2
    go_loopw [5] (fun i wr => ∃ m : Nat, m ≤ 3 ∧ i = .int .i64 (m : Int) ∧ Hid (∀ i, i < 6 * m → F.getD i 0 = C.getD i 0) ∧ Hid (Below w3.heap.size w3 wr)) (fun i _ => 3 - (intOf i).toNat)
    case atStart => exact ⟨0, Nat.zero_le _, rfl, fun j hj => by omega, Below.refl _ _⟩
    case round =>
      obtain ⟨m, hm, rfl, HI, HB⟩ := hrel
      by_cases hlt : m < 3
      · obtain ⟨⟨h, e, M⟩, hq⟩ := HV.out m hlt
        have HM := hid (group_ok HR.out (HZ.out _) hq)
        have HAm : Hid (∀ k, k < 6 → F.getD (6 * m + k) 0 = M.getD k 0) := fun k hk => by
          have := HAt.out m hlt k hk
          unfold refL at this
          rw [hq] at this
          exact this
        go_wp2_with fail
        refine (Sector.spec_sector 4 (m : Int) wr).mono ?_
        rintro e' w4 ⟨rfl, bs⟩
        have HB4 := hid (HB.out.trans (bs.mono HB.out.size))
        clear bs
        rw [sec4 m hlt]
        obtain ⟨p, hp⟩ : ∃ p : Nat, p = 13 + m := ⟨_, rfl⟩
        rw [← hp] at hq ⊢
        have hl : (p : Int) < 34 := by omega
        have hc := HCell.out w4 HB4.out p (by omega)
        have hz := HZ.out p
        obtain ⟨sa, hsa⟩ : ∃ s, s = t.getD p ByteArray.empty := ⟨_, rfl⟩
        rw [← hsa] at hc hz hq
        have HQ := hid hq
        clear hp hsa hq
        go_wp2_with fail
        refine (sGroupAt R HR.out sa hz HQ.out w4).mono ?_
        rintro e' w5 ⟨va, vc, rfl, hI5, b5⟩
        have HB5 := hid (HB4.out.trans (b5.mono HB4.out.size))
        have HI5 : Hid (Ints w5 va M) := by
          obtain ⟨_, _, e, hx⟩ := hI5.w
          cases e
          exact Wr.sl hx
        clear b5 hc hz hI5
        obtain ⟨w6, hw6, e6, A6, B6⟩ := one_new w5 [.int .i64 h, .int .i64 e, .slice va M.length vc] 60
        have HA6 := hid A6
        have HB6 := hid (HB5.out.trans (B6.mono HB5.out.size))
        have HI6 : Hid (Ints w6 va M) := Sl.below HI5.out B6
        have HMl : Hid (M.length = 6) := HM.out.1
        clear A6 B6 e6 HI5 HM
        go_wp2_with fail
        try simp only [hw6]
        clear hw6
        obtain ⟨bx, hbx⟩ : ∃ bx, w5.heap.size = bx := ⟨_, rfl⟩
        rw [hbx] at HA6
        try rw [hbx]
        clear hbx
        go_loopw [8] (fun i wr => ∃ k : Nat, k ≤ 6 ∧ i = .int .i64 (k : Int) ∧ Hid (∀ i, i < 6 * m + k → F.getD i 0 = C.getD i 0) ∧ Hid (Below w6.heap.size w6 wr)) (fun i _ => 6 - (intOf i).toNat)
        case atStart => exact ⟨0, Nat.zero_le _, rfl, HI, Below.refl _ _⟩
        case round =>
          obtain ⟨k, hk, rfl, HIk, HBk⟩ := hrel
          have k2 := (HA6.out.below HBk.out HA6.out.lt).c 2 rfl
          have HBf := hid (HB6.out.trans (HBk.out.mono HB6.out.size))
          by_cases hlk : k < 6
          · obtain ⟨vb, vo, rfl, hcm⟩ := (Sl.below HI6.out HBk.out) k (by rw [HMl.out]; exact hlk)
            replace hcm : wr.cell? ⟨vb, vo + k, none⟩ = some (.int .i64 (M.getD k 0)) := hcm
            obtain ⟨n, hn⟩ : ∃ n : Nat, n = 6 * m + k := ⟨_, rfl⟩
            have hn18 : n < 18 := by omega
            obtain ⟨nb, no, rfl, hcn⟩ := (Sl.below HC3.out HBf.out) n (by rw [HCl.out]; exact hn18)
            replace hcn : wr.cell? ⟨nb, no + n, none⟩ = some (.int .i64 (C.getD n 0)) := hcn
            have hx := HAm.out k hlk
            rw [← hn] at hx
            generalize M.getD k 0 = x at *
            obtain ⟨y, hy⟩ : ∃ y, C.getD n 0 = y := ⟨_, rfl⟩
            rw [hy] at hcn
            have hw1 : IntKind.i64.wrap ((m : Int) * 6) = 6 * (m : Int) := by rw [IntKind.wrap_i64]; omega
            have hw2 : IntKind.i64.wrap (6 * (m : Int) + (k : Int)) = (n : Int) := by rw [IntKind.wrap_i64]; omega
            have HX := hid hx
            have HY2 := hid hy
            have HNe := hid hn
            have hxM : (k : Int) < (M.length : Int) := by rw [HMl.out]; omega
            have hn18' : (n : Int) < 18 := by omega
            clear hx hy hn
            by_cases hxy : x = y
            · have HI2 : Hid (∀ i, i < 6 * m + (k + 1) → F.getD i 0 = C.getD i 0) := fun i hi => by
                by_cases e : i = n
                · subst e; rw [HX.out, HY2.out, hxy]
                · have := HNe.out; exact HIk.out i (by omega)
              subst hxy
              go_wp2
              go_quiet (fail)
              go_wp2
              exact ⟨⟨k + 1, by omega, by go_num, HI2, below_drewN HBk.out _⟩, by simp [intOf]; omega⟩
            · have hne : (x != y) = true := by simp [hxy]
              have HF := hid (HN.out n (by rw [HX.out, HY2.out]; exact hxy))
              have HBg := hid (HB3.out.trans (HBf.out.mono HB3.out.size))
              clear HY HN
              go_wp2
              go_quiet (fail)
              go_wp2
              go_ret
              exact ⟨by rw [HF.out]; rfl, below_drewN HBg.out _⟩
          · obtain rfl : k = 6 := by omega
            go_wp2
            exact ⟨⟨m + 1, by omega, by go_num, fun i hi => HIk.out i (by omega), HBf⟩, by simp [intOf]; omega⟩
      · obtain rfl : m = 3 := by omega
        have HF := hid (HY.out (fun i hi => HI.out i (by omega)))
        have HBf := hid (HB3.out.trans (HB.out.mono HB3.out.size))
        clear HY HN
        go_wp2
        go_ret
        exact ⟨by rw [HF.out]; rfl, HBf.out⟩

set_option maxRecDepth 100000 in
set_option maxHeartbeats 4000000 in
theorem iRefsOk (R : ByteArray → Int × Nat) (hR : Reads R) (hT : ∀ s : ByteArray, s.size ≤ maxLen → Tx s (R s)) (w : World) (a : Option Addr) (cap : Nat) (l : List ByteArray) (S : Strs w a l) (hl : l.length ≤ 1048576) (hz : ∀ s ∈ l, s.size ≤ 1048576) (u : TypeId) (pv : Value) (hL : Lacks w u pv) (T : Sums w) (K : Sector.Kinds w) (hg : 0 < w.heap.size) :
    Calls Tryz.prog 17 #[.slice a l.length cap] w fun e w' => e = .returned (.bool (refsA R l)) ∧ Below w.heap.size w w' := by
  have HR := hid hR
  have HTx := hid hT
  have HL := hid hL
  have HT := hid T
  have HK := hid K
  have HG := hid hg
  have HZm := hid (settle_small hR hz)
  have hsl := settle_length R l
  have HSe := hid (iSettle R hR hT w a cap l S hl hz u pv hL T K hg)
  clear hR S hz hT hL T K hg
  have HA : Hid (refsA R l = refsOk R (Re.settle R l)) := rfl
  generalize Re.settle R l = t at *
  generalize refsA R l = q at *
  go_enter Tryz.func17, Tryz.ntmps17
  go_wp2_with fail
  refine HSe.out.mono ?_
  rintro e w1 ⟨a1, c1, rfl, hW1, b1⟩
  have HS1 : Hid (Strs w1 a1 t) := Wr.sl hW1
  have HB1 := hid b1
  have htl : t.length ≤ 1048576 := by omega
  clear hW1 b1 HSe hsl hl
  go_wp2_with fail
  refine (iPoolOk R HR.out HTx.out w1 a1 c1 t HS1.out htl HZm.out u pv (HL.out.kept (Kept.of_below (S := fun _ => False) HB1.out) (fun x => x)) (HT.out.below HB1.out) (kinds_below HK.out HG.out HB1.out) (Nat.lt_of_lt_of_le HG.out HB1.out.size)).mono ?_
  rintro e w2 ⟨rfl, b2⟩
  have HB2 := hid (HB1.out.trans (b2.mono HB1.out.size))
  have HS2 : Hid (Strs w2 a1 t) := Sl.below HS1.out b2
  clear b2 HS1
  cases hp : poolOk R t with
  | false =>
    have HF : Hid (q = false) := by rw [Hid, HA.out, refsOk, hp]; rfl
    clear hp
    go_wp2
    go_ret
    exact ⟨by rw [HF.out]; rfl, HB2.out⟩
  | true =>
    have HE : Hid (counts R t = cnt (holdL R t)) := by rw [Hid, counts, hp]; rfl
    have HF : Hid (q = decide (refsUp R t 3 = cnt (holdL R t))) := by rw [Hid, HA.out, refsOk, hp, Bool.true_and]
    have hrl : (refsUp R t 3).length ≤ 18 := by have := refsUp_len HR.out HZm.out hp 3 (by decide); omega
    have HRe := hid (refsOf R HR.out w2 a1 c1 t HS2.out hp HZm.out u pv (HL.out.kept (Kept.of_below (S := fun _ => False) HB2.out) (fun x => x)) (HT.out.below HB2.out) (kinds_below HK.out HG.out HB2.out) (Nat.lt_of_lt_of_le HG.out HB2.out.size))
    clear hp
    go_wp2_with fail
    refine HRe.out.mono ?_
    rintro e w3 ⟨v3, rfl, hI3, b3⟩
    obtain ⟨a3, c3, rfl, hx3⟩ := hI3.w
    have HB3 := hid (HB2.out.trans (b3.mono HB2.out.size))
    have HS3 : Hid (Strs w3 a1 t) := Sl.below HS2.out b3
    have HI3 : Hid (Ints w3 a3 (refsUp R t 3)) := Wr.sl hx3
    clear hx3 hI3 b3 HS2 HRe
    have HCo := hid (iCounts R HR.out HTx.out w3 a1 c1 t HS3.out htl HZm.out u pv (HL.out.kept (Kept.of_below (S := fun _ => False) HB3.out) (fun x => x)) (HT.out.below HB3.out) (kinds_below HK.out HG.out HB3.out) (Nat.lt_of_lt_of_le HG.out HB3.out.size))
    rw [HE.out] at HCo
    go_wp2_with fail
    refine HCo.out.mono ?_
    rintro e w4 ⟨a4, c4, rfl, hW4, b4⟩
    have HB4 := hid (HB3.out.trans (b4.mono HB3.out.size))
    have HI4 : Hid (Ints w4 a3 (refsUp R t 3)) := Sl.below HI3.out b4
    have HW4 : Hid (Ints w4 a4 (cnt (holdL R t))) := Wr.sl hW4
    have hcl := cnt_len (holdL R t)
    clear hW4 b4 HI3 HCo
    generalize refsUp R t 3 = F at *
    generalize cnt (holdL R t) = C at *
    have HQ := hid (equal w4 a3 a4 c3 c4 F C HI4.out HW4.out (by omega) (by omega))
    clear hrl hcl
    go_wp2_with fail
    refine HQ.out.mono ?_
    rintro e w5 ⟨rfl, b5⟩
    have HB5 := hid (HB4.out.trans (b5.mono HB4.out.size))
    rw [← HF.out]
    clear b5
    go_wp2
    go_ret
    exact ⟨rfl, HB5.out⟩

end Go.Proofs.YtlbfcnpnfoapnaaGreatDoor.Tr

namespace Go.Proofs.YtlbfcnpnfoapnaaGreatDoor.Pk
open Go.RowKit Go.ChangeShapes Go.WideShapes Go.ChangeAt Go.Joins Go.Deep
open Go.Proofs.YtlbfcnpnfoapnaaGreatDoor.Mem
set_option linter.unusedVariables false

variable {H : Type} {enc : TypeId × Value → H} {W : World} {base : Nat} {spare : Nat → Bool} {held : Bool}

theorem sl_of_add {w : World} {a : Addr} {m : Nat} {f : Nat → Value} (h : ∀ i, i < m → w.cell? (a.add i) = some (f i)) : Sl w (some a) m f := by
  intro i hi
  have hc := h i hi
  obtain ⟨b, off, sp⟩ := a
  have hs : sp = none := by simpa [Addr.add] using World.cell?_spot (h 0 (by omega))
  subst hs
  rw [Addr.add_mid] at hc
  exact ⟨b, off, rfl, hc⟩

theorem strs_in {fuel : Nat} {v : Value} {x : DataW H × List MemPlace} (h : DataW.trod enc Tryz.prog W base spare held fuel 22 [v] = some x) :
    ∃ a cap l, v = .slice a (l : List ByteArray).length cap ∧ Strs W a l ∧ l.length ≤ maxLen ∧ ∀ s ∈ l, s.size ≤ maxLen := by
  rcases open_strs Tryz.underlying22 Tryz.underlying9 (by kernel_rfl) h with ⟨hcs, _⟩ | ⟨a, len, cap, m, Sx, hcs, _, hl, hm, hmm, _, hx⟩
  · simp only [List.cons.injEq, and_true] at hcs
    exact ⟨none, 0, [], hcs, fun i hi => by simp at hi, by simp, by simp⟩
  · simp only [List.cons.injEq, and_true] at hcs
    have hlm : len ≤ m := by rw [hmm]; split <;> omega
    refine ⟨some a, cap, (List.range len).map Sx, by rw [hcs]; simp, ?_, by simp; omega, ?_⟩
    · unfold Strs
      rw [List.length_map, List.length_range]
      refine sl_of_add (fun i hi => ?_)
      rw [(hx i (by omega)).1]
      simp [List.getD, hi]
    · intro s hs
      obtain ⟨i, hi, rfl⟩ := List.mem_map.1 hs
      exact (hx i (by have := List.mem_range.1 hi; omega)).2

set_option maxRecDepth 100000 in
theorem strs_arg {v : Value} {d : DataW H} {p : List MemPlace} {r : Reach} {b0 : Nat} (hv : Value.okWide Tryz.prog W r b0 22 v) (h : DataW.Trod enc Tryz.prog W base spare held 22 v d p) :
    ∃ a cap l, v = .slice a (l : List ByteArray).length cap ∧ Strs W a l ∧ l.length ≤ maxLen ∧ ∀ s ∈ l, s.size ≤ maxLen := by
  obtain ⟨fuel, hf⟩ := h
  obtain ⟨a, len, cap, rfl⟩ := okWide_slice Tryz.underlying22 hv
  exact strs_in hf

end Go.Proofs.YtlbfcnpnfoapnaaGreatDoor.Pk

namespace Go.Proofs.YtlbfcnpnfoapnaaGreatDoor.Tr
open Go.RowKit Go.Proofs.YtlbfcnpnfoapnaaGreatDoor.Mem Go.Proofs.YtlbfcnpnfoapnaaGreatDoor.Sec Go.Proofs.YtlbfcnpnfoapnaaGreatDoor.Rd Go.Proofs.YtlbfcnpnfoapnaaGreatDoor.Pk
set_option linter.unusedVariables false

theorem counts_length (R : ByteArray → Int × Nat) (l : List ByteArray) : (counts R l).length ≤ 18 := by
  unfold counts
  split
  · rw [cnt_len]; exact Nat.le_refl _
  · exact Nat.zero_le _

set_option maxRecDepth 100000 in
set_option maxHeartbeats 2000000 in
theorem lawRefsOk (w : World) (a : Option Addr) (cap : Nat) (l : List ByteArray) (S : Strs w a l) (hl : l.length ≤ maxLen) (hz : ∀ s ∈ l, s.size ≤ maxLen) (u : TypeId) (pv : Value) (hL : Lacks w u pv) (T : Sums w) (K : Sector.Kinds w) (hg : 0 < w.heap.size) :
    Calls Tryz.prog 4 #[.slice a l.length cap] w fun e w' => e = .returned (.bool true) ∧ Below w.heap.size w w' := by
  obtain ⟨R, hR, hTx⟩ := reads_ex2
  have HR := hid hR
  have HTx := hid hTx
  have HS := hid S
  have HL := hid hL
  have HT := hid T
  have HK := hid K
  have HG := hid hg
  have HM := hid hl
  have HZ := hid hz
  clear hR hTx S hL T K hg hz
  go_enter Tryz.func4, Tryz.ntmps4
  go_wp2_with fail
  refine (szStringS w a cap l 1048576 HS.out HM.out HZ.out (by decide) (by decide)).mono ?_
  rintro e w1 ⟨r, rfl, hw1, hf⟩
  obtain rfl := hw1.symm
  have HF := hid hf
  clear hf hl
  by_cases hneg : r < 0
  · go_wp2
    go_ret
    exact ⟨rfl, Below.refl _ _⟩
  have hfit : (l.length : Int) ≤ 1048576 ∧ ∀ s ∈ l, (s.size : Int) ≤ 1048576 := by
    rcases HF.out with h | h
    · omega
    · exact h.2.2
  have hl20 : l.length ≤ 1048576 := by omega
  have HZ20 : Hid (∀ s ∈ l, s.size ≤ 1048576) := fun s hs => by have := hfit.2 s hs; omega
  clear hfit HF HZ
  go_wp2_with fail
  refine (toStringS w a cap l HS.out hl20).mono ?_
  rintro e w2 ⟨g, rfl, _, _, hW2, b2⟩
  have HB2 := hid b2
  have HS2 := hid (Wr.sl hW2)
  clear hW2 b2
  go_wp2_with fail
  refine (sRefsOk R HR.out w2 (some ⟨g, 0, none⟩) l.length l HS2.out hl20 HZ20.out).mono ?_
  rintro e w3 ⟨rfl, b3⟩
  have HB3 := hid (HB2.out.trans (b3.mono HB2.out.size))
  clear b3 HS2
  go_wp2_with fail
  refine (toStringS w3 a cap l (Sl.below HS.out HB3.out) hl20).mono ?_
  rintro e w4 ⟨g2, rfl, _, _, hW4, b4⟩
  have HB4 := hid (HB3.out.trans (b4.mono HB3.out.size))
  have HS4 : Hid (Strs w4 (some ⟨g2, 0, none⟩) l) := Wr.sl hW4
  clear hW4 b4
  go_wp2_with fail
  refine (iRefsOk R HR.out HTx.out w4 (some ⟨g2, 0, none⟩) l.length l HS4.out hl20 HZ20.out u pv (HL.out.kept (Kept.of_below (S := fun _ => False) HB4.out) (fun x => x)) (HT.out.below HB4.out) (kinds_below HK.out HG.out HB4.out) (Nat.lt_of_lt_of_le HG.out HB4.out.size)).mono ?_
  rintro e w5 ⟨rfl, b5⟩
  have HB5 := hid (HB4.out.trans (b5.mono HB4.out.size))
  have HS5 : Hid (Strs w5 (some ⟨g2, 0, none⟩) l) := Sl.below HS4.out b5
  clear b5 HS4
  generalize refsA R l = q
  go_wp2_with fail
  refine (toStringS w5 a cap l (Sl.below HS.out HB5.out) hl20).mono ?_
  rintro e w6 ⟨g3, rfl, _, _, hW6, b6⟩
  have HB6 := hid (HB5.out.trans (b6.mono HB5.out.size))
  have HS6 : Hid (Strs w6 (some ⟨g2, 0, none⟩) l) := Sl.below HS5.out b6
  have HS63 : Hid (Strs w6 (some ⟨g3, 0, none⟩) l) := Wr.sl hW6
  clear hW6 b6 HS5
  go_wp2_with fail
  refine (eqStringS w6 (some ⟨g2, 0, none⟩) (some ⟨g3, 0, none⟩) l.length l.length l l HS6.out HS63.out HM.out HM.out).mono ?_
  rintro e w7 ⟨rfl, b7⟩
  have HB7 := hid (HB6.out.trans (b7.mono HB6.out.size))
  rw [decide_eq_true (rfl : l = l)]
  clear b7
  go_wp2
  go_ret
  exact ⟨rfl, HB7.out⟩

set_option maxRecDepth 100000 in
set_option maxHeartbeats 4000000 in
theorem lawCounts (w : World) (a : Option Addr) (cap : Nat) (l : List ByteArray) (S : Strs w a l) (hl : l.length ≤ maxLen) (hz : ∀ s ∈ l, s.size ≤ maxLen) (u : TypeId) (pv : Value) (hL : Lacks w u pv) (T : Sums w) (K : Sector.Kinds w) (hg : 0 < w.heap.size) :
    Calls Tryz.prog 3 #[.slice a l.length cap] w fun e w' => e = .returned (.bool true) ∧ Below w.heap.size w w' := by
  obtain ⟨R, hR, hTx⟩ := reads_ex2
  have HR := hid hR
  have HTx := hid hTx
  have HS := hid S
  have HL := hid hL
  have HT := hid T
  have HK := hid K
  have HG := hid hg
  have HM := hid hl
  have HZ := hid hz
  clear hR hTx S hL T K hg hz
  go_enter Tryz.func3, Tryz.ntmps3
  go_wp2_with fail
  refine (szStringS w a cap l 1048576 HS.out HM.out HZ.out (by decide) (by decide)).mono ?_
  rintro e w1 ⟨r, rfl, hw1, hf⟩
  obtain rfl := hw1.symm
  have HF := hid hf
  clear hf hl
  by_cases hneg : r < 0
  · go_wp2
    go_ret
    exact ⟨rfl, Below.refl _ _⟩
  have hfit : (l.length : Int) ≤ 1048576 ∧ ∀ s ∈ l, (s.size : Int) ≤ 1048576 := by
    rcases HF.out with h | h
    · omega
    · exact h.2.2
  have hl20 : l.length ≤ 1048576 := by omega
  have HZ20 : Hid (∀ s ∈ l, s.size ≤ 1048576) := fun s hs => by have := hfit.2 s hs; omega
  clear hfit HF HZ
  go_wp2_with fail
  refine (toStringS w a cap l HS.out hl20).mono ?_
  rintro e w2 ⟨g, rfl, _, _, hW2, b2⟩
  have HB2 := hid b2
  have HS2 := hid (Wr.sl hW2)
  clear hW2 b2
  go_wp2_with fail
  refine (sCounts R HR.out w2 (some ⟨g, 0, none⟩) l.length l HS2.out hl20 HZ20.out).mono ?_
  rintro e w3 ⟨a0, c0, rfl, hW3, b3⟩
  have HB3 := hid (HB2.out.trans (b3.mono HB2.out.size))
  have hlen := counts_length R l
  have HQ := hid (@iCounts R HR.out HTx.out)
  obtain ⟨L, hL2⟩ : ∃ L, counts R l = L := ⟨_, rfl⟩
  rw [hL2] at hlen hW3 ⊢
  have HP3 := hid (Wr.sl hW3)
  have hml : L.length ≤ maxLen := by unfold maxLen; omega
  clear b3 HS2 hW3
  go_wp2_with fail
  refine (toStringS w3 a cap l (Sl.below HS.out HB3.out) hl20).mono ?_
  rintro e w4 ⟨g2, rfl, hg2, _, hW4, b4⟩
  have HB4 := hid (HB3.out.trans (b4.mono HB3.out.size))
  have HX4 : Hid (StrsW w4 w3.heap.size (some ⟨g2, 0, none⟩) l) := hW4
  have HP4 : Hid (Ints w4 a0 L) := Sl.below HP3.out b4
  have HL3 : Hid (∀ b, foot a0 L.length b → b < w3.heap.size) := fun b hb => HP3.out.lt hb
  clear hW4 b4 HP3
  go_wp2_with fail
  refine (HQ.out w4 (some ⟨g2, 0, none⟩) l.length l (Wr.sl HX4.out) hl20 HZ20.out u pv (HL.out.kept (Kept.of_below (S := fun _ => False) HB4.out) (fun x => x)) (HT.out.below HB4.out) (kinds_below HK.out HG.out HB4.out) (Nat.lt_of_lt_of_le HG.out HB4.out.size)).mono ?_
  rintro e w5 ⟨a1, c1, rfl, hW5, b5⟩
  rw [hL2] at hW5 ⊢
  have HB5 := hid (HB4.out.trans (b5.mono HB4.out.size))
  have HX5 : Hid (StrsW w5 w3.heap.size (some ⟨g2, 0, none⟩) l) := Wr.below HX4.out b5
  have HP5 : Hid (Ints w5 a0 L) := Sl.below HP4.out b5
  have HW5 : Hid (IntsW w5 w4.heap.size a1 L) := hW5
  have HG4 : Hid (∀ b, foot (some ⟨g2, 0, none⟩) l.length b → w3.heap.size ≤ b ∧ b < w4.heap.size) := fun b hb => ⟨Wr.foot_ge HX4.out hb, (Wr.sl HX4.out).lt hb⟩
  have h34 := HB4.out.size
  have h23 : w3.heap.size ≤ w4.heap.size := by have := HG4.out; exact Nat.le_of_lt_succ (by omega)
  clear b5 hW5 HX4 HP4
  go_wp2_with fail
  refine (eqIntS w5 a1 a0 c1 c0 L L (Wr.sl HW5.out) HP5.out hml hml).mono ?_
  rintro e w6 ⟨rfl, b6⟩
  rw [decide_eq_true (rfl : L = L)]
  have HB6 := hid (HB5.out.trans (b6.mono HB5.out.size))
  have HX6 : Hid (StrsW w6 w3.heap.size (some ⟨g2, 0, none⟩) l) := Wr.below HX5.out b6
  have HP6 : Hid (Ints w6 a0 L) := Sl.below HP5.out b6
  have HW6 : Hid (IntsW w6 w4.heap.size a1 L) := Wr.below HW5.out b6
  clear b6 HX5 HP5 HW5
  go_wp2_with fail
  refine (toStringS w6 a cap l (Sl.below HS.out HB6.out) hl20).mono ?_
  rintro e w7 ⟨g3, rfl, _, _, hW7, b7⟩
  have HB7 := hid (HB6.out.trans (b7.mono HB6.out.size))
  have HX7 : Hid (StrsW w7 w3.heap.size (some ⟨g2, 0, none⟩) l) := Wr.below HX6.out b7
  have HP7 : Hid (Ints w7 a0 L) := Sl.below HP6.out b7
  have HW7 : Hid (IntsW w7 w4.heap.size a1 L) := Wr.below HW6.out b7
  have HS7 : Hid (Strs w7 (some ⟨g3, 0, none⟩) l) := Wr.sl hW7
  clear b7 HX6 HP6 HW6 hW7
  go_wp2_with fail
  refine (eqStringS w7 (some ⟨g2, 0, none⟩) (some ⟨g3, 0, none⟩) l.length l.length l l (Wr.sl HX7.out) HS7.out HM.out HM.out).mono ?_
  rintro e w8 ⟨rfl, b8⟩
  rw [decide_eq_true (rfl : l = l)]
  have HB8 := hid (HB7.out.trans (b8.mono HB7.out.size))
  have HX8 : Hid (StrsW w8 w3.heap.size (some ⟨g2, 0, none⟩) l) := Wr.below HX7.out b8
  have HP8 : Hid (Ints w8 a0 L) := Sl.below HP7.out b8
  have HW8 : Hid (IntsW w8 w4.heap.size a1 L) := Wr.below HW7.out b8
  clear b8 HX7 HP7 HW7 HS7
  go_wp2_with fail
  refine (markStringS w8 w3.heap.size (some ⟨g2, 0, none⟩) l.length l.length 1 _ HX8.out (by decide) (by omega)).mono ?_
  rintro e w9 ⟨rfl, _, k9⟩
  have h3w : w.heap.size ≤ w3.heap.size := HB3.out.size
  have HB9 : Hid (Below w.heap.size w w9) := HB8.out.trans (k9.below HB8.out.size (fun b hb x => by have := HG4.out b x; omega))
  have HP9 : Hid (Ints w9 a0 L) := Sl.move HP8.out k9 (fun b hb x => by have := HG4.out b x; have := HL3.out b hb; omega)
  have HW9 : Hid (IntsW w9 w4.heap.size a1 L) := Wr.move HW8.out k9 (fun b hb x => by have := HG4.out b x; have := Wr.foot_ge HW8.out hb; omega)
  have hk9 : (0 : Int) ≤ ((1 + l.length : Nat) : Int) := by omega
  generalize ((1 + l.length : Nat) : Int) = kk at *
  clear k9 HX8 HP8 HW8
  go_wp2_with fail
  refine (eqIntS w9 a1 a0 c1 c0 L L (Wr.sl HW9.out) HP9.out hml hml).mono ?_
  rintro e wa ⟨rfl, ba⟩
  rw [decide_eq_true (rfl : L = L)]
  have HBa := hid (HB9.out.trans (ba.mono HB9.out.size))
  have HPa : Hid (Ints wa a0 L) := Sl.below HP9.out ba
  have HWa : Hid (IntsW wa w4.heap.size a1 L) := Wr.below HW9.out ba
  clear ba HP9 HW9
  go_wp2_with fail
  refine (markIntS wa w4.heap.size a1 L.length c1 1 _ HWa.out (by omega)).mono ?_
  rintro e wb ⟨rfl, hWb, kb⟩
  have HGa : Hid (∀ b, foot a1 L.length b → w4.heap.size ≤ b) := fun b hb => Wr.foot_ge HWa.out hb
  have HBb : Hid (Below w.heap.size w wb) := HBa.out.trans (kb.below HBa.out.size (fun b hb x => by have := HGa.out b x; omega))
  have HPb : Hid (Ints wb a0 L) := Sl.move HPa.out kb (fun b hb x => by have := HGa.out b x; have := HL3.out b hb; omega)
  have HWb := hid hWb
  have hm0 : (0 : Int) ≤ ((1 + L.length : Nat) : Int) := by omega
  obtain ⟨mk, hmk⟩ : ∃ mk : Int, ((1 + L.length : Nat) : Int) = mk := ⟨_, rfl⟩
  rw [hmk] at hm0 ⊢
  have HMK := hid hmk
  clear kb HPa HWa hWb hmk
  go_wp2_with fail
  refine (heldIntS wb a1 L.length c1 1 HWb.out.sl (by omega)).mono ?_
  rintro e wc ⟨rfl, bc⟩
  have HBc := hid (HBb.out.trans (bc.mono HBb.out.size))
  have HPc : Hid (Ints wc a0 L) := Sl.below HPb.out bc
  have HWc := hid (HWb.out.below bc)
  rw [HMK.out]
  clear bc HPb HWb
  go_wp2_with fail
  refine (toStringS wc a cap l (Sl.below HS.out HBc.out) hl20).mono ?_
  rintro e wd ⟨g4, rfl, _, _, hWd, bd⟩
  have HBd := hid (HBc.out.trans (bd.mono HBc.out.size))
  have HPd : Hid (Ints wd a0 L) := Sl.below HPc.out bd
  have HWd := hid (HWc.out.below bd)
  have HSd : Hid (Strs wd (some ⟨g4, 0, none⟩) l) := Wr.sl hWd
  clear bd HPc HWc hWd
  go_wp2_with fail
  refine (HQ.out wd (some ⟨g4, 0, none⟩) l.length l HSd.out hl20 HZ20.out u pv (HL.out.kept (Kept.of_below (S := fun _ => False) HBd.out) (fun x => x)) (HT.out.below HBd.out) (kinds_below HK.out HG.out HBd.out) (Nat.lt_of_lt_of_le HG.out HBd.out.size)).mono ?_
  rintro e we ⟨a2, c2, rfl, hWe, be⟩
  rw [hL2] at hWe ⊢
  have HBe := hid (HBd.out.trans (be.mono HBd.out.size))
  have HPe : Hid (Ints we a0 L) := Sl.below HPd.out be
  have HWe := hid (HWd.out.below be)
  have HSe : Hid (Ints we a2 L) := Wr.sl hWe
  clear be HPd HWd hWe
  go_wp2_with fail
  refine (eqIntS we a2 a0 c2 c0 L L HSe.out HPe.out hml hml).mono ?_
  rintro e wf ⟨rfl, bf⟩
  rw [decide_eq_true (rfl : L = L)]
  have HBf := hid (HBe.out.trans (bf.mono HBe.out.size))
  have HWf := hid (HWe.out.below bf)
  clear bf HPe HWe HSe
  go_wp2_with fail
  refine (heldIntS wf a1 L.length c1 1 HWf.out.sl (by omega)).mono ?_
  rintro e wg ⟨rfl, bg⟩
  rw [HMK.out]
  have HBg := hid (HBf.out.trans (bg.mono HBf.out.size))
  clear bg HWf
  go_wp2
  go_ret
  exact ⟨rfl, HBg.out⟩

end Go.Proofs.YtlbfcnpnfoapnaaGreatDoor.Tr
