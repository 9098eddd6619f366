/-
  The walk of spec.PoolOk. No condition but texts and lists of at most 2^20.
  The walk of impl.PoolOk. Condition: the tables of sixteen sums and of the kinds' sizes and the error of a part that lacks stand in their variables.
  The walk of impl.mappedVolume: a volume with its blocks' texts, in a block of its own. Condition: the table of the kinds' sizes stands in its variable.
  What append makes of a row that a call owns where what is appended may be no slice at all. No condition.
  A tally of numbers: what was met, each thing once, and how often; and the walks of impl's tallyOf, place, timesOf at int. No condition but at most 1,000 things.
  What is read of a right pool's sectors, on both sides; and the walks of impl.heldBlocks, impl.holdings, impl.refsOf. Condition for impl: the tables of sixteen sums and of the kinds' sizes and the error of a part that lacks stand in their variables.
  The walk of spec.Counts. No condition but texts and lists of at most 2^20.
  Plain: what doing a journal once makes of sectors, and what settling makes of them. No condition.
-/
import Derived.Test.YtlbfcnpnfoapnaaGreatDoorJoin3
import Derived.Test.YtlbfcnpnfoapnaaGreatDoorJoin1
import Derived.Deep.RegionWith
import Derived.Test.YtlbfcnpnfoapnaaGreatDoorAppRow
import Derived.Test.YtlbfcnpnfoapnaaGreatDoorRdNum
import Derived.RegionTactic
import Derived.BigRegion
namespace Go.Proofs.YtlbfcnpnfoapnaaGreatDoor.Pk
open Go.RowKit Go.Proofs.YtlbfcnpnfoapnaaGreatDoor.Mem Go.Proofs.YtlbfcnpnfoapnaaGreatDoor.Sec Go.Proofs.YtlbfcnpnfoapnaaGreatDoor.Rd
set_option linter.unusedVariables false

theorem lit3 : ((3 : Nat) : Int) = 3 := rfl
theorem lit4 : ((4 : Nat) : Int) = 4 := rfl

theorem getD_size {l : List ByteArray} {n : Nat} (h : ∀ s ∈ l, s.size ≤ n) (i : Nat) : (l.getD i ByteArray.empty).size ≤ n := by
  rw [List.getD]
  cases hi : l[i]? with
  | none => exact Nat.zero_le _
  | some s => exact h s (List.mem_of_getElem? hi)

/-- Every cell of a slice of thirty-four texts, in every world in which nothing that was there has turned. -/
theorem cells34 {w : World} {b o : Nat} {l : List ByteArray} (S : Strs w (some ⟨b, o, none⟩) l) (h : l.length = 34) (w' : World) (k : Below w.heap.size w w') (i : Nat) (hi : i < 34) : w'.cell? ⟨b, o + i, none⟩ = some (.string (l.getD i ByteArray.empty)) := by
  obtain ⟨b', o', e, hc⟩ := (Sl.below S k) i (by omega)
  cases e
  exact hc

set_option maxRecDepth 100000 in
set_option maxHeartbeats 4000000 in
theorem sPoolOk (R : ByteArray → Int × Nat) (hR : Reads R) (w : World) (a : Option Addr) (cap : Nat) (l : List ByteArray) (S : Strs w a l) (hl : l.length ≤ 1048576) (hz : ∀ s ∈ l, s.size ≤ 1048576) :
    Calls Tryz.prog 29 #[.slice a l.length cap] w fun e w' => e = .returned (.bool (poolOk R l)) ∧ Below w.heap.size w w' := by
  have HR := hid hR
  have HZ := hid (getD_size hz)
  have N1 := hid (@pool_no1 R l)
  have N2 := hid (@pool_no2 R l)
  have NY := hid (@pool_yes R l)
  have HS := hid S
  clear hR hz S
  generalize poolOk R l = q at *
  by_cases h34 : l.length = 34
  rotate_left
  · have hb : ((l.length : Int) != 34) = true := by simp; omega
    have HF := hid (N1.out h34)
    clear N1 N2 NY
    go_enter Tryz.func29, Tryz.ntmps29
    go_wp2
    go_ret
    exact ⟨by rw [HF.out]; rfl, Below.refl _ _⟩
  obtain ⟨b, o, rfl, _⟩ := HS.out 0 (by omega)
  have HCell := hid (cells34 HS.out h34)
  have H34 := hid h34
  have hlen : (l.length : Int) = 34 := by omega
  rw [h34]
  clear h34 N1 HS hl hlen
  go_enter Tryz.func29, Tryz.ntmps29
  go_wp2
  go_loopw [3] (fun i wr => ∃ m : Nat, m ≤ 3 ∧ i = .int .i64 (m : Int) ∧ Hid (∀ j, j < m → secOk R (kindOf (0 + j)) (l.getD (0 + j) ByteArray.empty) = true ∧ secOk R (kindOf (3 + j)) (l.getD (3 + j) ByteArray.empty) = true ∧ secOk R (kindOf (6 + j)) (l.getD (6 + j) ByteArray.empty) = true) ∧ Hid (Below w.heap.size w wr)) (fun i _ => 3 - (intOf i).toNat)
  case atStart => exact ⟨0, Nat.zero_le _, rfl, fun j hj => by omega, Below.refl _ _⟩
  case round =>
    obtain ⟨m, hmm, rfl, HI, HB⟩ := hrel
    by_cases hlt : m < 3
    · have hm0 : m < 3 := hlt
      have hm1 : m < 3 := hlt
      have hm2 : m < 3 := hlt
      go_wp2_with fail
      refine (Sector.spec_sector 0 (m : Int) wr).mono ?_
      rintro e wsa ⟨rfl, bs⟩
      have HBsa := hid (HB.out.trans (bs.mono HB.out.size))
      clear bs
      rw [sec0 m hm0]
      obtain ⟨pa, hpa⟩ : ∃ p : Nat, p = 0 + m := ⟨_, rfl⟩
      have HPa := hid hpa
      have hla : (pa : Int) < 34 := by omega
      have hca := HCell.out wsa HBsa.out pa (by omega)
      have hza := HZ.out pa
      have HOa : Hid (kindOf pa = 0) := by rw [Hid, hpa]; exact kind0 m hm0
      rw [← hpa]
      clear hpa
      obtain ⟨sa, hsa⟩ : ∃ s, s = l.getD pa ByteArray.empty := ⟨_, rfl⟩
      have HSta := hid hsa
      rw [← hsa] at hca hza
      clear hsa
      go_wp2_with fail
      refine (sHost R HR.out sa hza wsa).mono ?_
      rintro e wa ⟨x0, x1, x2, rfl, b2⟩
      have HBa := hid (HBsa.out.trans (b2.mono HBsa.out.size))
      have HQa : Hid (secOk R (kindOf pa) (l.getD pa ByteArray.empty) = secOk R 0 sa) := by rw [Hid, HOa.out, HSta.out]
      clear b2 hca hza
      generalize secOk R 0 sa = qa at *
      obtain ⟨wba, hwba, eba, _, BB⟩ := one_new wa [.int .i64 x0, .int .i64 x1, .int .i64 x2] 78
      have HBba := hid (HBa.out.trans (BB.mono HBa.out.size))
      clear BB
      go_wp2_with fail
      refine (Sector.spec_sector 1 (m : Int) wba).mono ?_
      rintro e wsb ⟨rfl, bs⟩
      have HBsb := hid (HBba.out.trans (bs.mono HBba.out.size))
      clear bs
      rw [sec1 m hm1]
      obtain ⟨pb, hpb⟩ : ∃ p : Nat, p = 3 + m := ⟨_, rfl⟩
      have HPb := hid hpb
      have hlb : (pb : Int) < 34 := by omega
      have hcb := HCell.out wsb HBsb.out pb (by omega)
      have hzb := HZ.out pb
      have HOb : Hid (kindOf pb = 1) := by rw [Hid, hpb]; exact kind1 m hm1
      rw [← hpb]
      clear hpb
      obtain ⟨sb, hsb⟩ : ∃ s, s = l.getD pb ByteArray.empty := ⟨_, rfl⟩
      have HStb := hid hsb
      rw [← hsb] at hcb hzb
      clear hsb
      go_wp2_with fail
      refine (sJournal R HR.out sb hzb wsb).mono ?_
      rintro e wb ⟨J, ja, jc, rfl, b2⟩
      have HBb := hid (HBsb.out.trans (b2.mono HBsb.out.size))
      have HQb : Hid (secOk R (kindOf pb) (l.getD pb ByteArray.empty) = secOk R 1 sb) := by rw [Hid, HOb.out, HStb.out]
      clear b2 hcb hzb
      generalize secOk R 1 sb = qb at *
      obtain ⟨wbb, hwbb, ebb, _, BB⟩ := one_new wb [.int .i64 J.txn, .bool J.done, .int .i64 J.kind, .int .i64 J.vol, .int .i64 J.to, .int .i64 J.at_, .string J.text, .slice ja J.outs.length jc] 85
      have HBbb := hid (HBb.out.trans (BB.mono HBb.out.size))
      clear BB
      go_wp2_with fail
      refine (Sector.spec_sector 2 (m : Int) wbb).mono ?_
      rintro e wsc ⟨rfl, bs⟩
      have HBsc := hid (HBbb.out.trans (bs.mono HBbb.out.size))
      clear bs
      rw [sec2 m hm2]
      obtain ⟨pc, hpc⟩ : ∃ p : Nat, p = 6 + m := ⟨_, rfl⟩
      have HPc := hid hpc
      have hlc : (pc : Int) < 34 := by omega
      have hcc := HCell.out wsc HBsc.out pc (by omega)
      have hzc := HZ.out pc
      have HOc : Hid (kindOf pc = 2) := by rw [Hid, hpc]; exact kind2 m hm2
      rw [← hpc]
      clear hpc
      obtain ⟨sc, hsc⟩ : ∃ s, s = l.getD pc ByteArray.empty := ⟨_, rfl⟩
      have HStc := hid hsc
      rw [← hsc] at hcc hzc
      clear hsc
      go_wp2_with fail
      refine (sFrees R HR.out sc hzc wsc).mono ?_
      rintro e wc ⟨fv, rfl, b2⟩
      have HBc := hid (HBsc.out.trans (b2.mono HBsc.out.size))
      have HQc : Hid (secOk R (kindOf pc) (l.getD pc ByteArray.empty) = secOk R 2 sc) := by rw [Hid, HOc.out, HStc.out]
      clear b2 hcc hzc
      generalize secOk R 2 sc = qc at *

      cases qa with
      | false =>
        have HF := hid (N2.out pa (by omega) (HQa.out.trans rfl))
        clear N2 NY
        go_wp2
        go_ret
        exact ⟨by rw [HF.out]; rfl, HBc.out⟩
      | true =>
        cases qb with
        | false =>
          have HF := hid (N2.out pb (by omega) (HQb.out.trans rfl))
          clear N2 NY
          go_wp2
          go_ret
          exact ⟨by rw [HF.out]; rfl, HBc.out⟩
        | true =>
          cases qc with
          | false =>
            have HF := hid (N2.out pc (by omega) (HQc.out.trans rfl))
            clear N2 NY
            go_wp2
            go_ret
            exact ⟨by rw [HF.out]; rfl, HBc.out⟩
          | true =>
            have HI2 : Hid (∀ j, j < m + 1 → secOk R (kindOf (0 + j)) (l.getD (0 + j) ByteArray.empty) = true ∧ secOk R (kindOf (3 + j)) (l.getD (3 + j) ByteArray.empty) = true ∧ secOk R (kindOf (6 + j)) (l.getD (6 + j) ByteArray.empty) = true) := fun j hj => by
              by_cases h : j = m
              · subst h
                refine ⟨?_, ?_, ?_⟩
                · rw [← HPa.out]; exact HQa.out
                · rw [← HPb.out]; exact HQb.out
                · rw [← HPc.out]; exact HQc.out
              · exact HI.out j (by omega)
            go_wp2
            exact ⟨⟨m + 1, by omega, by go_num, HI2, HBc⟩, by simp [intOf]; omega⟩
    · obtain rfl : m = 3 := by omega
      obtain ⟨wo1, hwo⟩ : ∃ wo, wo = wr := ⟨_, rfl⟩
      subst hwo
      have HI1 := HI
      have HBo1 := HB
      clear HI HB hlt hmm
      simp only [lit3]
      go_wp2
      go_loopw [10] (fun i wr => ∃ m : Nat, m ≤ 4 ∧ i = .int .i64 (m : Int) ∧ Hid (∀ j, j < m → secOk R (kindOf (9 + j)) (l.getD (9 + j) ByteArray.empty) = true) ∧ Hid (Below w.heap.size w wr)) (fun i _ => 4 - (intOf i).toNat)
      case atStart => exact ⟨0, Nat.zero_le _, rfl, fun j hj => by omega, HBo1⟩
      case round =>
        obtain ⟨m, hmm, rfl, HI, HB⟩ := hrel
        by_cases hlt : m < 4
        · have hm3 : m < 4 := hlt
          go_wp2_with fail
          refine (Sector.spec_sector 3 (m : Int) wr).mono ?_
          rintro e wsa ⟨rfl, bs⟩
          have HBsa := hid (HB.out.trans (bs.mono HB.out.size))
          clear bs
          rw [sec3 m hm3]
          obtain ⟨pa, hpa⟩ : ∃ p : Nat, p = 9 + m := ⟨_, rfl⟩
          have HPa := hid hpa
          have hla : (pa : Int) < 34 := by omega
          have hca := HCell.out wsa HBsa.out pa (by omega)
          have hza := HZ.out pa
          have HOa : Hid (kindOf pa = 3) := by rw [Hid, hpa]; exact kind3 m hm3
          rw [← hpa]
          clear hpa
          obtain ⟨sa, hsa⟩ : ∃ s, s = l.getD pa ByteArray.empty := ⟨_, rfl⟩
          have HSta := hid hsa
          rw [← hsa] at hca hza
          clear hsa
          go_wp2_with fail
          refine (sVol R HR.out sa hza wsa).mono ?_
          rintro e wa ⟨h0, h1, on, va, vm, vc, rfl, b2⟩
          have HBa := hid (HBsa.out.trans (b2.mono HBsa.out.size))
          have HQa : Hid (secOk R (kindOf pa) (l.getD pa ByteArray.empty) = secOk R 3 sa) := by rw [Hid, HOa.out, HSta.out]
          clear b2 hca hza
          generalize secOk R 3 sa = qa at *
          obtain ⟨wba, hwba, eba, _, BB⟩ := one_new wa [.int .i64 h0, .int .i64 h1, .bool on, .slice va vm vc] 49
          have HBba := hid (HBa.out.trans (BB.mono HBa.out.size))
          clear BB

          cases qa with
          | false =>
            have HF := hid (N2.out pa (by omega) (HQa.out.trans rfl))
            clear N2 NY
            go_wp2
            go_ret
            exact ⟨by rw [HF.out]; rfl, HBba.out⟩
          | true =>
            have HI2 : Hid (∀ j, j < m + 1 → secOk R (kindOf (9 + j)) (l.getD (9 + j) ByteArray.empty) = true) := fun j hj => by
              by_cases h : j = m
              · subst h; rw [← HPa.out]; exact HQa.out
              · exact HI.out j (by omega)
            go_wp2
            exact ⟨⟨m + 1, by omega, by go_num, HI2, HBba⟩, by simp [intOf]; omega⟩
        · obtain rfl : m = 4 := by omega
          obtain ⟨wo2, hwo⟩ : ∃ wo, wo = wr := ⟨_, rfl⟩
          subst hwo
          have HI2 := HI
          have HBo2 := HB
          clear HI HB hlt hmm
          simp only [lit4]
          go_wp2
          go_loopw [13] (fun i wr => ∃ m : Nat, m ≤ 3 ∧ i = .int .i64 (m : Int) ∧ Hid (∀ j, j < m → secOk R (kindOf (13 + j)) (l.getD (13 + j) ByteArray.empty) = true) ∧ Hid (Below w.heap.size w wr)) (fun i _ => 3 - (intOf i).toNat)
          case atStart => exact ⟨0, Nat.zero_le _, rfl, fun j hj => by omega, HBo2⟩
          case round =>
            obtain ⟨m, hmm, rfl, HI, HB⟩ := hrel
            by_cases hlt : m < 3
            · have hm4 : m < 3 := hlt
              go_wp2_with fail
              refine (Sector.spec_sector 4 (m : Int) wr).mono ?_
              rintro e wsa ⟨rfl, bs⟩
              have HBsa := hid (HB.out.trans (bs.mono HB.out.size))
              clear bs
              rw [sec4 m hm4]
              obtain ⟨pa, hpa⟩ : ∃ p : Nat, p = 13 + m := ⟨_, rfl⟩
              have HPa := hid hpa
              have hla : (pa : Int) < 34 := by omega
              have hca := HCell.out wsa HBsa.out pa (by omega)
              have hza := HZ.out pa
              have HOa : Hid (kindOf pa = 4) := by rw [Hid, hpa]; exact kind4 m hm4
              rw [← hpa]
              clear hpa
              obtain ⟨sa, hsa⟩ : ∃ s, s = l.getD pa ByteArray.empty := ⟨_, rfl⟩
              have HSta := hid hsa
              rw [← hsa] at hca hza
              clear hsa
              go_wp2_with fail
              refine (sGroup R HR.out sa hza wsa).mono ?_
              rintro e wa ⟨h0, h1, va, vm, vc, rfl, b2⟩
              have HBa := hid (HBsa.out.trans (b2.mono HBsa.out.size))
              have HQa : Hid (secOk R (kindOf pa) (l.getD pa ByteArray.empty) = secOk R 4 sa) := by rw [Hid, HOa.out, HSta.out]
              clear b2 hca hza
              generalize secOk R 4 sa = qa at *
              obtain ⟨wba, hwba, eba, _, BB⟩ := one_new wa [.int .i64 h0, .int .i64 h1, .slice va vm vc] 60
              have HBba := hid (HBa.out.trans (BB.mono HBa.out.size))
              clear BB

              cases qa with
              | false =>
                have HF := hid (N2.out pa (by omega) (HQa.out.trans rfl))
                clear N2 NY
                go_wp2
                go_ret
                exact ⟨by rw [HF.out]; rfl, HBba.out⟩
              | true =>
                have HI2 : Hid (∀ j, j < m + 1 → secOk R (kindOf (13 + j)) (l.getD (13 + j) ByteArray.empty) = true) := fun j hj => by
                  by_cases h : j = m
                  · subst h; rw [← HPa.out]; exact HQa.out
                  · exact HI.out j (by omega)
                go_wp2
                exact ⟨⟨m + 1, by omega, by go_num, HI2, HBba⟩, by simp [intOf]; omega⟩
            · obtain rfl : m = 3 := by omega
              obtain ⟨wo3, hwo⟩ : ∃ wo, wo = wr := ⟨_, rfl⟩
              subst hwo
              have HI3 := HI
              have HBo3 := HB
              clear HI HB hlt hmm
              simp only [lit3]
              go_wp2
              go_loopw [16] (fun i wr => ∃ m : Nat, m ≤ 18 ∧ i = .int .i64 (m : Int) ∧ Hid (∀ j, j < m → secOk R (kindOf (16 + j)) (l.getD (16 + j) ByteArray.empty) = true) ∧ Hid (Below w.heap.size w wr)) (fun i _ => 18 - (intOf i).toNat)
              case atStart => exact ⟨0, Nat.zero_le _, rfl, fun j hj => by omega, HBo3⟩
              case round =>
                obtain ⟨m, hmm, rfl, HI, HB⟩ := hrel
                by_cases hlt : m < 18
                · have hm5 : m < 18 := hlt
                  go_wp2_with fail
                  refine (Sector.spec_sector 5 (m : Int) wr).mono ?_
                  rintro e wsa ⟨rfl, bs⟩
                  have HBsa := hid (HB.out.trans (bs.mono HB.out.size))
                  clear bs
                  rw [sec5 m hm5]
                  obtain ⟨pa, hpa⟩ : ∃ p : Nat, p = 16 + m := ⟨_, rfl⟩
                  have HPa := hid hpa
                  have hla : (pa : Int) < 34 := by omega
                  have hca := HCell.out wsa HBsa.out pa (by omega)
                  have hza := HZ.out pa
                  have HOa : Hid (kindOf pa = 5) := by rw [Hid, hpa]; exact kind5 m hm5
                  rw [← hpa]
                  clear hpa
                  obtain ⟨sa, hsa⟩ : ∃ s, s = l.getD pa ByteArray.empty := ⟨_, rfl⟩
                  have HSta := hid hsa
                  rw [← hsa] at hca hza
                  clear hsa

                  have HQa : Hid (secOk R (kindOf pa) (l.getD pa ByteArray.empty) = decide ((sa.size : Int) ≤ 16)) := by rw [Hid, HOa.out, HSta.out]; rfl
                  by_cases h16 : (sa.size : Int) ≤ 16
                  · have HI2 : Hid (∀ j, j < m + 1 → secOk R (kindOf (16 + j)) (l.getD (16 + j) ByteArray.empty) = true) := fun j hj => by
                      by_cases h : j = m
                      · subst h; rw [← HPa.out, HQa.out, decide_eq_true h16]
                      · exact HI.out j (by omega)
                    go_wp2
                    exact ⟨⟨m + 1, by omega, by go_num, HI2, HBsa⟩, by simp [intOf]; omega⟩
                  · have HF := hid (N2.out pa (by omega) (by rw [HQa.out, decide_eq_false h16]))
                    clear N2 NY
                    go_wp2
                    go_ret
                    exact ⟨by rw [HF.out]; rfl, HBsa.out⟩
                · obtain rfl : m = 18 := by omega
                  have HF := hid (NY.out H34.out (fun i hi => by
                    by_cases c0 : i < 3
                    · have := (HI1.out i c0).1; rwa [Nat.zero_add] at this
                    by_cases c1 : i < 6
                    · have := (HI1.out (i - 3) (by omega)).2.1; rwa [show 3 + (i - 3) = i by omega] at this
                    by_cases c2 : i < 9
                    · have := (HI1.out (i - 6) (by omega)).2.2; rwa [show 6 + (i - 6) = i by omega] at this
                    by_cases c3 : i < 13
                    · have := HI2.out (i - 9) (by omega); rwa [show 9 + (i - 9) = i by omega] at this
                    by_cases c4 : i < 16
                    · have := HI3.out (i - 13) (by omega); rwa [show 13 + (i - 13) = i by omega] at this
                    · have := HI.out (i - 16) (by omega); rwa [show 16 + (i - 16) = i by omega] at this))
                  clear N2 NY
                  go_wp2
                  go_ret
                  exact ⟨by rw [HF.out]; rfl, HB.out⟩

end Go.Proofs.YtlbfcnpnfoapnaaGreatDoor.Pk

namespace Go.Proofs.YtlbfcnpnfoapnaaGreatDoor.Pk
open Go.RowKit Go.Proofs.YtlbfcnpnfoapnaaGreatDoor.Mem Go.Proofs.YtlbfcnpnfoapnaaGreatDoor.Sec Go.Proofs.YtlbfcnpnfoapnaaGreatDoor.Rd
set_option linter.unusedVariables false

theorem kinds_below {w w' : World} (T : Sector.Kinds w) (hg : 0 < w.heap.size) (b : Below w.heap.size w w') : Sector.Kinds w' := fun k hk => by
  rw [b.cell (p := ⟨0, k, none⟩) hg]; exact T k hk

def off : Nat → Nat
  | 0 => 0
  | 1 => 3
  | 2 => 6
  | 3 => 9
  | 4 => 13
  | 5 => 16
  | _ => 34

theorem idx0 (w : World) : (Instr.index 75 (.agg #[.int .i64 3, .int .i64 3, .int .i64 3, .int .i64 4, .int .i64 3, .int .i64 18]) (.int .i64 0)).run Tryz.prog w = .ok (.int .i64 3) w := by kernel_rfl
theorem idx1 (w : World) : (Instr.index 75 (.agg #[.int .i64 3, .int .i64 3, .int .i64 3, .int .i64 4, .int .i64 3, .int .i64 18]) (.int .i64 1)).run Tryz.prog w = .ok (.int .i64 3) w := by kernel_rfl
theorem idx2 (w : World) : (Instr.index 75 (.agg #[.int .i64 3, .int .i64 3, .int .i64 3, .int .i64 4, .int .i64 3, .int .i64 18]) (.int .i64 2)).run Tryz.prog w = .ok (.int .i64 3) w := by kernel_rfl
theorem idx3 (w : World) : (Instr.index 75 (.agg #[.int .i64 3, .int .i64 3, .int .i64 3, .int .i64 4, .int .i64 3, .int .i64 18]) (.int .i64 3)).run Tryz.prog w = .ok (.int .i64 4) w := by kernel_rfl
theorem idx4 (w : World) : (Instr.index 75 (.agg #[.int .i64 3, .int .i64 3, .int .i64 3, .int .i64 4, .int .i64 3, .int .i64 18]) (.int .i64 4)).run Tryz.prog w = .ok (.int .i64 3) w := by kernel_rfl
theorem idx5 (w : World) : (Instr.index 75 (.agg #[.int .i64 3, .int .i64 3, .int .i64 3, .int .i64 4, .int .i64 3, .int .i64 18]) (.int .i64 5)).run Tryz.prog w = .ok (.int .i64 18) w := by kernel_rfl
theorem il0 : ((0 : Nat) : Int) = 0 := rfl
theorem il1 : ((1 : Nat) : Int) = 1 := rfl
theorem il2 : ((2 : Nat) : Int) = 2 := rfl
theorem il3 : ((3 : Nat) : Int) = 3 := rfl
theorem il4 : ((4 : Nat) : Int) = 4 := rfl
theorem il5 : ((5 : Nat) : Int) = 5 := rfl

set_option maxRecDepth 100000 in
set_option maxHeartbeats 4000000 in
theorem iPoolOk (R : ByteArray → Int × Nat) (hR : Reads R) (hT : ∀ s : ByteArray, s.size ≤ maxLen → Tx s (R s)) (w : World) (a : Option Addr) (cap : Nat) (l : List ByteArray) (S : Strs w a l) (hl : l.length ≤ 1048576) (hz : ∀ s ∈ l, s.size ≤ 1048576) (u : TypeId) (pv : Value) (hL : Lacks w u pv) (T : Sums w) (K : Sector.Kinds w) (hg : 0 < w.heap.size) :
    Calls Tryz.prog 28 #[.slice a l.length cap] w fun e w' => e = .returned (.bool (poolOk R l)) ∧ Below w.heap.size w w' := by
  have HR := hid hR
  have HTx := hid hT
  have HL := hid hL
  have HT := hid T
  have HK := hid K
  have HG := hid hg
  have HZ := hid (getD_size hz)
  have N1 := hid (@pool_no1 R l)
  have N2 := hid (@pool_no2 R l)
  have NY := hid (@pool_yes R l)
  have HS := hid S
  have g0 : w.cell? ⟨0, 0, none⟩ = some (.int .i64 3) := K 0 (by decide)
  have g1 : w.cell? ⟨0, 1, none⟩ = some (.int .i64 3) := K 1 (by decide)
  have g2 : w.cell? ⟨0, 2, none⟩ = some (.int .i64 3) := K 2 (by decide)
  have g3 : w.cell? ⟨0, 3, none⟩ = some (.int .i64 4) := K 3 (by decide)
  have g4 : w.cell? ⟨0, 4, none⟩ = some (.int .i64 3) := K 4 (by decide)
  have g5 : w.cell? ⟨0, 5, none⟩ = some (.int .i64 18) := K 5 (by decide)
  clear hR hz S hT hL T K hg
  generalize poolOk R l = q at *
  by_cases h34 : l.length = 34
  rotate_left
  · have hb : ((l.length : Int) != 34) = true := by simp; omega
    have HF := hid (N1.out h34)
    clear N1 N2 NY
    go_enter Tryz.func28, Tryz.ntmps28
    go_wp2
    go_ret
    exact ⟨by rw [HF.out]; rfl, Below.refl _ _⟩
  obtain ⟨b, o, rfl, _⟩ := HS.out 0 (by omega)
  have HCell := hid (cells34 HS.out h34)
  have H34 := hid h34
  rw [h34]
  clear h34 N1 HS hl
  go_enter Tryz.func28, Tryz.ntmps28
  go_wp2
  clear g0 g1 g2 g3 g4 g5
  go_loopw [10] (fun i wr => ∃ k : Nat, k ≤ 6 ∧ i = .int .i64 (k : Int) ∧ Hid (∀ j, j < off k → secOk R (kindOf (j)) (l.getD (j) ByteArray.empty) = true) ∧ Hid (Below w.heap.size w wr)) (fun i _ => 6 - (intOf i).toNat)
  case atStart => exact ⟨0, Nat.zero_le _, rfl, fun j hj => absurd hj (Nat.not_lt_zero _), Below.refl _ _⟩
  case round =>
    obtain ⟨k, hk, rfl, HI, HBr⟩ := hrel
    by_cases hlt : k < 6
    · obtain ⟨wo, hwo⟩ : ∃ wo, wo = wr := ⟨_, rfl⟩
      subst hwo
      have hc : k = 0 ∨ k = 1 ∨ k = 2 ∨ k = 3 ∨ k = 4 ∨ k = 5 := by omega
      clear hlt hk
      rcases hc with rfl | rfl | rfl | rfl | rfl | rfl
      · simp only [il0]
        have hix := idx0
        go_wp2
        clear hix
        go_loopw [15] (fun i wr => ∃ m : Nat, m ≤ 3 ∧ i = .int .i64 (m : Int) ∧ Hid (∀ j, j < 0 + m → secOk R (kindOf (j)) (l.getD (j) ByteArray.empty) = true) ∧ Hid (Below w.heap.size w wr)) (fun i _ => 3 - (intOf i).toNat)
        case atStart => exact ⟨0, Nat.zero_le _, rfl, HI, HBr⟩
        case round =>
          obtain ⟨m, hm, rfl, HI', HB'⟩ := hrel
          by_cases hlt : m < 3
          · have HKd := hid (kind0 m hlt)
            go_wp2_with fail
            refine (Sector.impl_sector 0 (m : Int) wr (kinds_below HK.out HG.out HB'.out)).mono ?_
            rintro e w1 ⟨rfl, hw1⟩
            obtain rfl := hw1.symm
            rw [sec0 m hlt]
            obtain ⟨p, hp⟩ : ∃ p : Nat, p = 0 + m := ⟨_, rfl⟩
            have HP := hid hp
            have hl : (p : Int) < 34 := by omega
            have hc := HCell.out wr HB'.out p (by omega)
            have hz := HZ.out p
            rw [← hp] at HKd HI' ⊢
            obtain ⟨sa, hsa⟩ : ∃ s, s = l.getD p ByteArray.empty := ⟨_, rfl⟩
            have HSa := hid hsa
            rw [← hsa] at hc hz
            clear hp hsa
            go_wp2_with fail
            refine (isSectorOf R HR.out HTx.out 0 (by decide) sa hz wr u pv (HL.out.kept (Kept.of_below (S := fun _ => False) HB'.out) (fun x => x)) (HT.out.below HB'.out)).mono ?_
            rintro e w2 ⟨rfl, b2⟩
            have HB2 := hid (HB'.out.trans (b2.mono HB'.out.size))
            have HQ : Hid (secOk R (kindOf p) (l.getD p ByteArray.empty) = secOk R 0 sa) := by rw [Hid, HKd.out, HSa.out]
            clear b2 hc hz
            generalize secOk R 0 sa = z at *
            cases z with
            | false =>
              have HF := hid (N2.out p (by omega) HQ.out)
              clear N2 NY
              go_wp2
              go_ret
              exact ⟨by rw [HF.out]; rfl, HB2.out⟩
            | true =>
              have HI2 : Hid (∀ j, j < 0 + (m + 1) → secOk R (kindOf (j)) (l.getD (j) ByteArray.empty) = true) := fun j hj => by
                have hpm := HP.out
                by_cases h : j = p
                · subst h; exact HQ.out
                · exact HI'.out j (by omega)
              go_wp2
              exact ⟨⟨m + 1, by omega, by go_num, HI2, HB2⟩, by simp [intOf]; omega⟩
          · obtain rfl : m = 3 := by omega
            go_wp2
            exact ⟨⟨0 + 1, by decide, by go_num, HI', HB'⟩, by simp [intOf]⟩
      · simp only [il1]
        have hix := idx1
        go_wp2
        clear hix
        go_loopw [15] (fun i wr => ∃ m : Nat, m ≤ 3 ∧ i = .int .i64 (m : Int) ∧ Hid (∀ j, j < 3 + m → secOk R (kindOf (j)) (l.getD (j) ByteArray.empty) = true) ∧ Hid (Below w.heap.size w wr)) (fun i _ => 3 - (intOf i).toNat)
        case atStart => exact ⟨0, Nat.zero_le _, rfl, HI, HBr⟩
        case round =>
          obtain ⟨m, hm, rfl, HI', HB'⟩ := hrel
          by_cases hlt : m < 3
          · have HKd := hid (kind1 m hlt)
            go_wp2_with fail
            refine (Sector.impl_sector 1 (m : Int) wr (kinds_below HK.out HG.out HB'.out)).mono ?_
            rintro e w1 ⟨rfl, hw1⟩
            obtain rfl := hw1.symm
            rw [sec1 m hlt]
            obtain ⟨p, hp⟩ : ∃ p : Nat, p = 3 + m := ⟨_, rfl⟩
            have HP := hid hp
            have hl : (p : Int) < 34 := by omega
            have hc := HCell.out wr HB'.out p (by omega)
            have hz := HZ.out p
            rw [← hp] at HKd HI' ⊢
            obtain ⟨sa, hsa⟩ : ∃ s, s = l.getD p ByteArray.empty := ⟨_, rfl⟩
            have HSa := hid hsa
            rw [← hsa] at hc hz
            clear hp hsa
            go_wp2_with fail
            refine (isSectorOf R HR.out HTx.out 1 (by decide) sa hz wr u pv (HL.out.kept (Kept.of_below (S := fun _ => False) HB'.out) (fun x => x)) (HT.out.below HB'.out)).mono ?_
            rintro e w2 ⟨rfl, b2⟩
            have HB2 := hid (HB'.out.trans (b2.mono HB'.out.size))
            have HQ : Hid (secOk R (kindOf p) (l.getD p ByteArray.empty) = secOk R 1 sa) := by rw [Hid, HKd.out, HSa.out]
            clear b2 hc hz
            generalize secOk R 1 sa = z at *
            cases z with
            | false =>
              have HF := hid (N2.out p (by omega) HQ.out)
              clear N2 NY
              go_wp2
              go_ret
              exact ⟨by rw [HF.out]; rfl, HB2.out⟩
            | true =>
              have HI2 : Hid (∀ j, j < 3 + (m + 1) → secOk R (kindOf (j)) (l.getD (j) ByteArray.empty) = true) := fun j hj => by
                have hpm := HP.out
                by_cases h : j = p
                · subst h; exact HQ.out
                · exact HI'.out j (by omega)
              go_wp2
              exact ⟨⟨m + 1, by omega, by go_num, HI2, HB2⟩, by simp [intOf]; omega⟩
          · obtain rfl : m = 3 := by omega
            go_wp2
            exact ⟨⟨1 + 1, by decide, by go_num, HI', HB'⟩, by simp [intOf]⟩
      · simp only [il2]
        have hix := idx2
        go_wp2
        clear hix
        go_loopw [15] (fun i wr => ∃ m : Nat, m ≤ 3 ∧ i = .int .i64 (m : Int) ∧ Hid (∀ j, j < 6 + m → secOk R (kindOf (j)) (l.getD (j) ByteArray.empty) = true) ∧ Hid (Below w.heap.size w wr)) (fun i _ => 3 - (intOf i).toNat)
        case atStart => exact ⟨0, Nat.zero_le _, rfl, HI, HBr⟩
        case round =>
          obtain ⟨m, hm, rfl, HI', HB'⟩ := hrel
          by_cases hlt : m < 3
          · have HKd := hid (kind2 m hlt)
            go_wp2_with fail
            refine (Sector.impl_sector 2 (m : Int) wr (kinds_below HK.out HG.out HB'.out)).mono ?_
            rintro e w1 ⟨rfl, hw1⟩
            obtain rfl := hw1.symm
            rw [sec2 m hlt]
            obtain ⟨p, hp⟩ : ∃ p : Nat, p = 6 + m := ⟨_, rfl⟩
            have HP := hid hp
            have hl : (p : Int) < 34 := by omega
            have hc := HCell.out wr HB'.out p (by omega)
            have hz := HZ.out p
            rw [← hp] at HKd HI' ⊢
            obtain ⟨sa, hsa⟩ : ∃ s, s = l.getD p ByteArray.empty := ⟨_, rfl⟩
            have HSa := hid hsa
            rw [← hsa] at hc hz
            clear hp hsa
            go_wp2_with fail
            refine (isSectorOf R HR.out HTx.out 2 (by decide) sa hz wr u pv (HL.out.kept (Kept.of_below (S := fun _ => False) HB'.out) (fun x => x)) (HT.out.below HB'.out)).mono ?_
            rintro e w2 ⟨rfl, b2⟩
            have HB2 := hid (HB'.out.trans (b2.mono HB'.out.size))
            have HQ : Hid (secOk R (kindOf p) (l.getD p ByteArray.empty) = secOk R 2 sa) := by rw [Hid, HKd.out, HSa.out]
            clear b2 hc hz
            generalize secOk R 2 sa = z at *
            cases z with
            | false =>
              have HF := hid (N2.out p (by omega) HQ.out)
              clear N2 NY
              go_wp2
              go_ret
              exact ⟨by rw [HF.out]; rfl, HB2.out⟩
            | true =>
              have HI2 : Hid (∀ j, j < 6 + (m + 1) → secOk R (kindOf (j)) (l.getD (j) ByteArray.empty) = true) := fun j hj => by
                have hpm := HP.out
                by_cases h : j = p
                · subst h; exact HQ.out
                · exact HI'.out j (by omega)
              go_wp2
              exact ⟨⟨m + 1, by omega, by go_num, HI2, HB2⟩, by simp [intOf]; omega⟩
          · obtain rfl : m = 3 := by omega
            go_wp2
            exact ⟨⟨2 + 1, by decide, by go_num, HI', HB'⟩, by simp [intOf]⟩
      · simp only [il3]
        have hix := idx3
        go_wp2
        clear hix
        go_loopw [15] (fun i wr => ∃ m : Nat, m ≤ 4 ∧ i = .int .i64 (m : Int) ∧ Hid (∀ j, j < 9 + m → secOk R (kindOf (j)) (l.getD (j) ByteArray.empty) = true) ∧ Hid (Below w.heap.size w wr)) (fun i _ => 4 - (intOf i).toNat)
        case atStart => exact ⟨0, Nat.zero_le _, rfl, HI, HBr⟩
        case round =>
          obtain ⟨m, hm, rfl, HI', HB'⟩ := hrel
          by_cases hlt : m < 4
          · have HKd := hid (kind3 m hlt)
            go_wp2_with fail
            refine (Sector.impl_sector 3 (m : Int) wr (kinds_below HK.out HG.out HB'.out)).mono ?_
            rintro e w1 ⟨rfl, hw1⟩
            obtain rfl := hw1.symm
            rw [sec3 m hlt]
            obtain ⟨p, hp⟩ : ∃ p : Nat, p = 9 + m := ⟨_, rfl⟩
            have HP := hid hp
            have hl : (p : Int) < 34 := by omega
            have hc := HCell.out wr HB'.out p (by omega)
            have hz := HZ.out p
            rw [← hp] at HKd HI' ⊢
            obtain ⟨sa, hsa⟩ : ∃ s, s = l.getD p ByteArray.empty := ⟨_, rfl⟩
            have HSa := hid hsa
            rw [← hsa] at hc hz
            clear hp hsa
            go_wp2_with fail
            refine (isSectorOf R HR.out HTx.out 3 (by decide) sa hz wr u pv (HL.out.kept (Kept.of_below (S := fun _ => False) HB'.out) (fun x => x)) (HT.out.below HB'.out)).mono ?_
            rintro e w2 ⟨rfl, b2⟩
            have HB2 := hid (HB'.out.trans (b2.mono HB'.out.size))
            have HQ : Hid (secOk R (kindOf p) (l.getD p ByteArray.empty) = secOk R 3 sa) := by rw [Hid, HKd.out, HSa.out]
            clear b2 hc hz
            generalize secOk R 3 sa = z at *
            cases z with
            | false =>
              have HF := hid (N2.out p (by omega) HQ.out)
              clear N2 NY
              go_wp2
              go_ret
              exact ⟨by rw [HF.out]; rfl, HB2.out⟩
            | true =>
              have HI2 : Hid (∀ j, j < 9 + (m + 1) → secOk R (kindOf (j)) (l.getD (j) ByteArray.empty) = true) := fun j hj => by
                have hpm := HP.out
                by_cases h : j = p
                · subst h; exact HQ.out
                · exact HI'.out j (by omega)
              go_wp2
              exact ⟨⟨m + 1, by omega, by go_num, HI2, HB2⟩, by simp [intOf]; omega⟩
          · obtain rfl : m = 4 := by omega
            go_wp2
            exact ⟨⟨3 + 1, by decide, by go_num, HI', HB'⟩, by simp [intOf]⟩
      · simp only [il4]
        have hix := idx4
        go_wp2
        clear hix
        go_loopw [15] (fun i wr => ∃ m : Nat, m ≤ 3 ∧ i = .int .i64 (m : Int) ∧ Hid (∀ j, j < 13 + m → secOk R (kindOf (j)) (l.getD (j) ByteArray.empty) = true) ∧ Hid (Below w.heap.size w wr)) (fun i _ => 3 - (intOf i).toNat)
        case atStart => exact ⟨0, Nat.zero_le _, rfl, HI, HBr⟩
        case round =>
          obtain ⟨m, hm, rfl, HI', HB'⟩ := hrel
          by_cases hlt : m < 3
          · have HKd := hid (kind4 m hlt)
            go_wp2_with fail
            refine (Sector.impl_sector 4 (m : Int) wr (kinds_below HK.out HG.out HB'.out)).mono ?_
            rintro e w1 ⟨rfl, hw1⟩
            obtain rfl := hw1.symm
            rw [sec4 m hlt]
            obtain ⟨p, hp⟩ : ∃ p : Nat, p = 13 + m := ⟨_, rfl⟩
            have HP := hid hp
            have hl : (p : Int) < 34 := by omega
            have hc := HCell.out wr HB'.out p (by omega)
            have hz := HZ.out p
            rw [← hp] at HKd HI' ⊢
            obtain ⟨sa, hsa⟩ : ∃ s, s = l.getD p ByteArray.empty := ⟨_, rfl⟩
            have HSa := hid hsa
            rw [← hsa] at hc hz
            clear hp hsa
            go_wp2_with fail
            refine (isSectorOf R HR.out HTx.out 4 (by decide) sa hz wr u pv (HL.out.kept (Kept.of_below (S := fun _ => False) HB'.out) (fun x => x)) (HT.out.below HB'.out)).mono ?_
            rintro e w2 ⟨rfl, b2⟩
            have HB2 := hid (HB'.out.trans (b2.mono HB'.out.size))
            have HQ : Hid (secOk R (kindOf p) (l.getD p ByteArray.empty) = secOk R 4 sa) := by rw [Hid, HKd.out, HSa.out]
            clear b2 hc hz
            generalize secOk R 4 sa = z at *
            cases z with
            | false =>
              have HF := hid (N2.out p (by omega) HQ.out)
              clear N2 NY
              go_wp2
              go_ret
              exact ⟨by rw [HF.out]; rfl, HB2.out⟩
            | true =>
              have HI2 : Hid (∀ j, j < 13 + (m + 1) → secOk R (kindOf (j)) (l.getD (j) ByteArray.empty) = true) := fun j hj => by
                have hpm := HP.out
                by_cases h : j = p
                · subst h; exact HQ.out
                · exact HI'.out j (by omega)
              go_wp2
              exact ⟨⟨m + 1, by omega, by go_num, HI2, HB2⟩, by simp [intOf]; omega⟩
          · obtain rfl : m = 3 := by omega
            go_wp2
            exact ⟨⟨4 + 1, by decide, by go_num, HI', HB'⟩, by simp [intOf]⟩
      · simp only [il5]
        have hix := idx5
        go_wp2
        clear hix
        go_loopw [15] (fun i wr => ∃ m : Nat, m ≤ 18 ∧ i = .int .i64 (m : Int) ∧ Hid (∀ j, j < 16 + m → secOk R (kindOf (j)) (l.getD (j) ByteArray.empty) = true) ∧ Hid (Below w.heap.size w wr)) (fun i _ => 18 - (intOf i).toNat)
        case atStart => exact ⟨0, Nat.zero_le _, rfl, HI, HBr⟩
        case round =>
          obtain ⟨m, hm, rfl, HI', HB'⟩ := hrel
          by_cases hlt : m < 18
          · have HKd := hid (kind5 m hlt)
            go_wp2_with fail
            refine (Sector.impl_sector 5 (m : Int) wr (kinds_below HK.out HG.out HB'.out)).mono ?_
            rintro e w1 ⟨rfl, hw1⟩
            obtain rfl := hw1.symm
            rw [sec5 m hlt]
            obtain ⟨p, hp⟩ : ∃ p : Nat, p = 16 + m := ⟨_, rfl⟩
            have HP := hid hp
            have hl : (p : Int) < 34 := by omega
            have hc := HCell.out wr HB'.out p (by omega)
            have hz := HZ.out p
            rw [← hp] at HKd HI' ⊢
            obtain ⟨sa, hsa⟩ : ∃ s, s = l.getD p ByteArray.empty := ⟨_, rfl⟩
            have HSa := hid hsa
            rw [← hsa] at hc hz
            clear hp hsa
            go_wp2_with fail
            refine (isSectorOf R HR.out HTx.out 5 (by decide) sa hz wr u pv (HL.out.kept (Kept.of_below (S := fun _ => False) HB'.out) (fun x => x)) (HT.out.below HB'.out)).mono ?_
            rintro e w2 ⟨rfl, b2⟩
            have HB2 := hid (HB'.out.trans (b2.mono HB'.out.size))
            have HQ : Hid (secOk R (kindOf p) (l.getD p ByteArray.empty) = secOk R 5 sa) := by rw [Hid, HKd.out, HSa.out]
            clear b2 hc hz
            generalize secOk R 5 sa = z at *
            cases z with
            | false =>
              have HF := hid (N2.out p (by omega) HQ.out)
              clear N2 NY
              go_wp2
              go_ret
              exact ⟨by rw [HF.out]; rfl, HB2.out⟩
            | true =>
              have HI2 : Hid (∀ j, j < 16 + (m + 1) → secOk R (kindOf (j)) (l.getD (j) ByteArray.empty) = true) := fun j hj => by
                have hpm := HP.out
                by_cases h : j = p
                · subst h; exact HQ.out
                · exact HI'.out j (by omega)
              go_wp2
              exact ⟨⟨m + 1, by omega, by go_num, HI2, HB2⟩, by simp [intOf]; omega⟩
          · obtain rfl : m = 18 := by omega
            go_wp2
            exact ⟨⟨5 + 1, by decide, by go_num, HI', HB'⟩, by simp [intOf]⟩
    · obtain rfl : k = 6 := by omega
      have HF := hid (NY.out H34.out (fun i hi => HI.out i hi))
      clear N2 NY
      go_wp2
      go_ret
      exact ⟨by rw [HF.out]; rfl, HBr.out⟩

end Go.Proofs.YtlbfcnpnfoapnaaGreatDoor.Pk

namespace Go.Proofs.YtlbfcnpnfoapnaaGreatDoor.Ab
open Go.RowKit Go.Proofs.YtlbfcnpnfoapnaaGreatDoor.Mem Go.Proofs.YtlbfcnpnfoapnaaGreatDoor.Sec Go.Proofs.YtlbfcnpnfoapnaaGreatDoor.Rd Go.Proofs.YtlbfcnpnfoapnaaGreatDoor.Pk Go.Proofs.YtlbfcnpnfoapnaaGreatDoor.Pl
set_option linter.unusedVariables false

/-- Is a place of a map a block. -/
def mapH (m : List Int) (k : Nat) : Bool := decide (0 ≤ m.getD k 0)
/-- The text of a place's block. -/
def mapT (t : List ByteArray) (m : List Int) (k : Nat) : ByteArray := if 0 ≤ m.getD k 0 then t.getD (16 + (m.getD k 0).toNat) ByteArray.empty else ⟨#[]⟩

theorem ivK_none (on : Bool) (h : Nat → Bool) (t : Nat → ByteArray) (k : Nat) (hk : k < 4) (h1 : h k = false) (h2 : t k = ⟨#[]⟩) : ivK on h t (k + 1) = ivK on h t k := by
  rw [← ivK_succ on h t k hk, h1, h2]
  have : k = 0 ∨ k = 1 ∨ k = 2 ∨ k = 3 := by omega
  rcases this with rfl | rfl | rfl | rfl <;> rfl

set_option maxRecDepth 100000 in
set_option maxHeartbeats 4000000 in
theorem mappedVolume (w : World) (b o cap : Nat) (t : List ByteArray) (S : Strs w (some ⟨b, o, none⟩) t) (h34 : t.length = 34) (h e : Int) (on : Bool) (m : List Int) (a : Option Addr) (mc : Nat) (SM : Ints w a m) (hm : m.length = 4) (hb : ∀ x ∈ m, -1 ≤ x ∧ x ≤ 17) (K : Sector.Kinds w) (hg : 0 < w.heap.size) :
    Calls Tryz.prog 45 #[.slice (some ⟨b, o, none⟩) 34 cap, .agg #[.int .i64 h, .int .i64 e, .bool on, .slice a m.length mc]] w fun r w' => ∃ g, r = .returned (.pointer (some ⟨g, 0, none⟩)) ∧ w.heap.size ≤ g ∧ g < w'.heap.size ∧ Row w' g (ivR on (mapH m) (mapT t m)) ∧ Below w.heap.size w w' := by
  have HCell := hid (cells34 S h34)
  have HS := hid SM
  have HM := hid hm
  have HMb := hid hb
  have HK := hid K
  have HG := hid hg
  have hm9 : m.length ≤ 900 := by omega
  have HH : Hid (∀ k, mapH m k = decide (0 ≤ m.getD k 0)) := fun _ => rfl
  have HT : Hid (∀ k, mapT t m k = if 0 ≤ m.getD k 0 then t.getD (16 + (m.getD k 0).toNat) ByteArray.empty else ⟨#[]⟩) := fun _ => rfl
  generalize mapH m = hf at *
  generalize mapT t m = tf at *
  clear S SM hm hb K hg h34
  obtain ⟨wa, hwa, ez, A0, C0, B0⟩ := two_new w [.int .i64 h, .int .i64 e, .bool on, .slice a m.length mc] [.bool on, .bool false, .string ⟨#[]⟩, .bool false, .string ⟨#[]⟩, .bool false, .string ⟨#[]⟩, .bool false, .string ⟨#[]⟩] 49 106
  have HA := hid A0
  have HC : Hid (Row wa (w.heap.size + 1) (ivK on hf tf 0)) := C0
  have HB := hid B0
  have k3 := A0.c 3 rfl
  clear A0 B0 C0 ez
  go_enter Tryz.func45, Tryz.ntmps45
  go_wp2
  try simp only [hwa]
  clear hwa
  go_wp2
  clear k3
  go_loopw [15] (fun i wr => ∃ k : Nat, k ≤ m.length ∧ i = .int .i64 (k : Int) ∧ Hid (Row wr (w.heap.size + 1) (ivK on hf tf k)) ∧ Hid (Below w.heap.size w wr)) (fun i _ => m.length - (intOf i).toNat)
  case atStart => exact ⟨0, Nat.zero_le _, rfl, HC, HB⟩
  case round =>
    obtain ⟨k, hk, rfl, HR, HW⟩ := hrel
    by_cases hlt : k < m.length
    · have hk4 : k < 4 := by have := HM.out; omega
      obtain ⟨vb, vo, rfl, hc⟩ := (Sl.below HS.out HW.out) k hlt
      replace hc : wr.cell? ⟨vb, vo + k, none⟩ = some (.int .i64 (m.getD k 0)) := hc
      have hxb := HMb.out (m.getD k 0) (by simp [List.getD, hlt])
      have HHk := hid (HH.out k)
      have HTk := hid (HT.out k)
      generalize m.getD k 0 = x at *
      by_cases hx : 0 ≤ x
      · obtain ⟨n, rfl⟩ : ∃ n : Nat, x = (n : Int) := ⟨x.toNat, by omega⟩
        have hn : n < 18 := by omega
        have HH1 : Hid (hf k = true) := by rw [Hid, HHk.out, decide_eq_true hx]
        have HT1 : Hid (tf k = t.getD (16 + n) ByteArray.empty) := by rw [Hid, HTk.out, if_pos hx]; rfl
        have hp34 : (16 + n : Nat) < 34 := by omega
        have hpi : ((16 + n : Nat) : Int) < 34 := by omega
        have hct := HCell.out wr HW.out (16 + n) hp34
        rw [← HT1.out] at hct
        have HSe : Hid (∀ w9 : World, w9.heap = wr.heap → Calls Tryz.prog 25 #[.int .i64 5, .int .i64 (n : Int)] w9 fun e w' => e = .returned (.int .i64 ((16 + n : Nat) : Int)) ∧ w' = w9) := fun w9 e9 => by
          have := Sector.impl_sector 5 (n : Int) w9 (fun k hk => by
            have h1 := kinds_below HK.out HG.out HW.out k hk
            unfold World.cell? at h1 ⊢
            rw [e9]
            exact h1)
          rw [sec5 n hn] at this
          exact this
        obtain ⟨v0, q0⟩ := row_ex HR.out (1 + k * 2) (by rw [ivK_len]; omega)
        obtain ⟨v1, q1⟩ := row_ex HR.out (1 + k * 2 + 1) (by rw [ivK_len]; omega)
        have z0 := HR.out.f (1 + k * 2)
        have z1 := HR.out.f (1 + k * 2 + 1)
        have HN : Hid (∀ w9 : World, w9.heap = wr.heap → Row ((w9.setCell ⟨w.heap.size + 1, 1 + k * 2, none⟩ (.bool true)).setCell ⟨w.heap.size + 1, 1 + k * 2 + 1, none⟩ (.string (tf k))) (w.heap.size + 1) (ivK on hf tf (k + 1))) := fun w9 e => by
          have h9 : Row w9 (w.heap.size + 1) (ivK on hf tf k) := by
            obtain ⟨ty, hy⟩ := HR.out
            exact ⟨ty, by rw [e]; exact hy⟩
          rw [← ivK_succ on hf tf k hk4, HH1.out]
          exact (h9.set _ _).set _ _
        obtain ⟨p, hp⟩ : ∃ p : Nat, 16 + n = p := ⟨_, rfl⟩
        rw [hp] at hct hpi HSe
        clear hp HHk HTk HH1 HT1
        generalize tf k = tx at hct HN
        go_wp2
        go_region_with (go_at_call 25; refine (HSe.out wr.drew rfl).mono ?_; rintro e w1 ⟨rfl, hw1⟩; obtain rfl := hw1.symm)
        all_goals (go_wp2; exact ⟨⟨k + 1, by omega, by go_num, HN.out wr rfl, Below.drew (below_set (below_set HW.out (w.heap.size + 1) _ _ (by omega)) (w.heap.size + 1) _ _ (by omega))⟩, by simp [intOf]; omega⟩)
      · have HH1 : hf k = false := by rw [HHk.out, decide_eq_false hx]
        have HT1 : tf k = ⟨#[]⟩ := by rw [HTk.out, if_neg hx]
        have HR2 : Hid (Row wr (w.heap.size + 1) (ivK on hf tf (k + 1))) := by rw [Hid, ivK_none on hf tf k hk4 HH1 HT1]; exact HR.out
        clear HHk HTk HH1 HT1
        go_wp2
        exact ⟨⟨k + 1, by omega, by go_num, HR2, HW⟩, by simp [intOf]; omega⟩
    · obtain rfl : k = 4 := by have := HM.out; omega
      have HR2 : Hid (Row wr (w.heap.size + 1) (ivR on hf tf)) := HR.out
      go_wp2
      go_ret
      exact ⟨_, rfl, by omega, HR2.out.lt, HR2.out, HW.out⟩

end Go.Proofs.YtlbfcnpnfoapnaaGreatDoor.Ab

namespace Go.Proofs.YtlbfcnpnfoapnaaGreatDoor.Mem
open Go.RowKit
set_option linter.unusedVariables false

/-- 'append' of nothing on an owned row. -/
theorem run_app_none {P : Program} (w : World) (B : Nat) (t ty e : TypeId) (z : Value) (k bytes : Nat) (ht : P.underlying t = some (.slice e)) (hinfo : (P.info? e).map (fun i => (i.zero, i.size, i.bytes)) = some (some z, k, bytes)) (hzs : z.cells.size = k) (hk : 0 < k)
    (v : Value) (n : Nat) (xs : List Value) (h : RowO w B e k v n xs) (c : Nat) :
    (Builtin.append_ #[t, t] ty #[v, .slice none 0 c]).run P w = .ok v w := by
  obtain ⟨i, hi, hzz⟩ := Option.map_eq_some_iff.1 hinfo
  simp only [Prod.mk.injEq] at hzz
  obtain ⟨hz, rfl, rfl⟩ := hzz
  have hs := src_of (P := P) (w := w) (a := none) (m := 0) (c := c) (news := []) ht (by simp) hk (fun i hi => by omega) (fun u hu => by simp at hu)
  rcases h with ⟨b, rfl, rfl, rfl⟩ | ⟨h, a, c', rfl⟩
  · cases b with
    | none => simp [Builtin.append_, run_underlying ht, sizeOf, typeInfo, hi, hs.cells, Builtin.lenOf]
    | some ad => simp [Builtin.append_, run_underlying ht, sizeOf, typeInfo, hi, hs.cells, Builtin.lenOf, storeCells]
  · obtain ⟨hl, h⟩ := h
    rcases h with ⟨e, _⟩ | ⟨g, cap, cur, e, hB, hg, hn, hm, hsz, htk⟩
    · cases e
    · cases e
      simp [Builtin.append_, run_underlying ht, sizeOf, typeInfo, hi, hs.cells, Builtin.lenOf, storeCells, hn]

/-- 'append' on an owned row, at the list of a plain region's operations; what is appended may be no slice at all. -/
theorem wpList_appO {P : Program} (t e : TypeId) (z : Value) (k bytes : Nat) (ht : P.underlying t = some (.slice e)) (hinfo : (P.info? e).map (fun i => (i.zero, i.size, i.bytes)) = some (some z, k, bytes)) (hzs : z.cells.size = k) (hk : 0 < k) (hby : bytes ≤ 1048576)
    {ops : Array Oper} {rest : List Oper} {o : Oper} {a : Act} {Q : Exit → Act → World → Prop} (w : World) (hgd : o.guard = none) (s x : Operand)
    (ho : o.op = .call { callee := .builtin .append, args := #[s, x], argTypes := #[t, t] })
    (B : Nat) (v : Value) (n : Nat) (xs : List Value) (hs : a.eval s = v) (h : RowO w B e k v n xs) (ad : Option Addr) (m c : Nat) (news : List Value) (hx : a.eval x = .slice ad m c) (hl : news.length = m * k) (hS : Sl w ad (m * k) (fun i => news.getD i undef)) (h1 : ∀ u ∈ news, u.oneCell' = true)
    (hm : n + m ≤ 1048576) (hB : B ≤ w.heap.size)
    (hK : ∀ v' w', RowO w' B e k v' (n + m) (xs ++ news) → Kept (fun b => rb v = some b) w w' → (rb v' = none ∨ rb v' = rb v ∨ (rb v' = some w.heap.size ∧ w.heap.size < w'.heap.size)) → wpList P ops Q rest (a.put o.dst v') w') :
    wpList P ops Q (o :: rest) a w := by
  cases ad with
  | some ad => exact wpList_app t e z k bytes ht hinfo hzs hk hby w hgd s x ho B v n xs hs h ad m c news hx hl hS h1 hm hB hK
  | none =>
    have hm0 : m = 0 := by
      rcases Nat.eq_zero_or_pos m with h | h
      · exact h
      · obtain ⟨_, _, e, _⟩ := hS 0 (Nat.mul_pos h hk)
        cases e
    subst hm0
    have hn0 : news = [] := List.eq_nil_of_length_eq_zero (by simpa using hl)
    subst hn0
    refine wpList_plain hgd fun K hK' => ?_
    have hr := run_app_none (P := P) w B t o.type e z k bytes ht hinfo hzs hk v n xs h c
    unfold Oper.wp execOp
    simp only [ho, resolve, invoke, builtin, Sem.run_bind, Sem.run_pure, Result.andThen_ok, List.map_toArray, List.map_cons, List.map_nil, hs, hx, hr]
    exact hK' _ _ (hK v w (by simpa using h) (Kept.refl _ _) (Or.inr (Or.inl rfl)))

end Go.Proofs.YtlbfcnpnfoapnaaGreatDoor.Mem

namespace Go.Proofs.YtlbfcnpnfoapnaaGreatDoor.Tr
open Go.RowKit Go.Proofs.YtlbfcnpnfoapnaaGreatDoor.Mem Go.Proofs.YtlbfcnpnfoapnaaGreatDoor.Rd
set_option linter.unusedVariables false

abbrev Tal := List (Int × Int)
def tcs (T : Tal) : List Value := T.flatMap fun p => [.int .i64 p.1, .int .i64 p.2]

theorem tcs_length (T : Tal) : (tcs T).length = T.length * 2 := by
  induction T with
  | nil => rfl
  | cons x T ih =>
    show ([Value.int .i64 x.1, .int .i64 x.2] ++ tcs T).length = _
    rw [List.length_append, ih]
    simp; omega
theorem tcs_at (T : Tal) (i : Nat) (h : i < T.length) : (tcs T).getD (i * 2) undef = .int .i64 (T.getD i (0, 0)).1 ∧ (tcs T).getD (i * 2 + 1) undef = .int .i64 (T.getD i (0, 0)).2 := by
  induction T generalizing i with
  | nil => simp at h
  | cons x T ih =>
    cases i with
    | zero => exact ⟨rfl, rfl⟩
    | succ i =>
      have h2 := ih i (by simpa using h)
      rw [show (i + 1) * 2 = i * 2 + 2 by omega]
      exact h2
theorem tcs_more (T : Tal) (p : Int × Int) : tcs (T ++ [p]) = tcs T ++ [.int .i64 p.1, .int .i64 p.2] := by simp [tcs]
theorem tcs_set (T : Tal) (i : Nat) (h : i < T.length) (n : Int) : (tcs T).set (i * 2 + 1) (.int .i64 n) = tcs (T.set i ((T.getD i (0, 0)).1, n)) := by
  induction T generalizing i with
  | nil => simp at h
  | cons x T ih =>
    cases i with
    | zero => rfl
    | succ i =>
      have h2 := ih i (by simpa using h)
      rw [show (i + 1) * 2 + 1 = (i * 2 + 1) + 2 by omega]
      show Value.int .i64 x.1 :: Value.int .i64 x.2 :: (tcs T).set (i * 2 + 1) (.int .i64 n) = _
      rw [h2]
      rfl

/-- The place of a thing in a tally, or that it has none. -/
def PlaceIs (T : Tal) (x z : Int) : Prop := (∃ i : Nat, i < T.length ∧ z = (i : Int) ∧ (T.getD i (0, 0)).1 = x) ∨ (z = -1 ∧ ∀ j, j < T.length → (T.getD j (0, 0)).1 ≠ x)

/-- A tally is one of a list. -/
structure TalIs (T : Tal) (L : List Int) : Prop where
  len : T.length ≤ L.length
  key : ∀ i j, i < T.length → j < T.length → (T.getD i (0, 0)).1 = (T.getD j (0, 0)).1 → i = j
  num : ∀ i, i < T.length → (T.getD i (0, 0)).2 = (L.count (T.getD i (0, 0)).1 : Int)
  all : ∀ x ∈ L, ∃ i, i < T.length ∧ (T.getD i (0, 0)).1 = x

theorem tal_nil : TalIs [] [] := ⟨Nat.le_refl _, fun i j h => by simp at h, fun i h => by simp at h, fun x h => by simp at h⟩

theorem getD_set {α : Type} (T : List α) (i j : Nat) (p d : α) (hi : i < T.length) : (T.set i p).getD j d = if i = j then p else T.getD j d := by
  simp only [List.getD, List.getElem?_set]
  by_cases h : i = j
  · subst h; simp [hi]
  · simp [h]

theorem count_more (L : List Int) (x y : Int) : (L ++ [x]).count y = L.count y + (if x = y then 1 else 0) := by
  rw [List.count_append]
  congr 1
  by_cases h : x = y
  · subst h; simp
  · simp [h]

theorem tal_found {T : Tal} {L : List Int} (h : TalIs T L) {x : Int} {i : Nat} (hi : i < T.length) (hx : (T.getD i (0, 0)).1 = x) : TalIs (T.set i ((T.getD i (0, 0)).1, (T.getD i (0, 0)).2 + 1)) (L ++ [x]) := by
  have hk : ∀ j, ((T.set i ((T.getD i (0, 0)).1, (T.getD i (0, 0)).2 + 1)).getD j (0, 0)).1 = (T.getD j (0, 0)).1 := fun j => by
    rw [getD_set T i j _ _ hi]
    split
    · rename_i e; rw [e]
    · rfl
  refine ⟨?_, ?_, ?_, ?_⟩
  · rw [List.length_set, List.length_append]
    have := h.len
    omega
  · intro a b ha hb e
    rw [List.length_set] at ha hb
    rw [hk, hk] at e
    exact h.key a b ha hb e
  · intro j hj
    rw [List.length_set] at hj
    rw [hk, count_more, getD_set T i j _ _ hi]
    by_cases e : i = j
    · subst e
      rw [if_pos rfl, if_pos hx.symm]
      show (T.getD i (0, 0)).2 + 1 = _
      rw [h.num i hi]
      omega
    · rw [if_neg e, if_neg (fun e2 => e (h.key i j hi hj (by rw [hx, e2]))), h.num j hj]
      simp
  · intro y hy
    rw [List.length_set]
    rcases List.mem_append.1 hy with hy | hy
    · obtain ⟨j, hj, e⟩ := h.all y hy
      exact ⟨j, hj, by rw [hk]; exact e⟩
    · obtain rfl : y = x := by simpa using hy
      exact ⟨i, hi, by rw [hk]; exact hx⟩

theorem tal_new {T : Tal} {L : List Int} (h : TalIs T L) {x : Int} (hx : ∀ j, j < T.length → (T.getD j (0, 0)).1 ≠ x) : TalIs (T ++ [(x, 1)]) (L ++ [x]) := by
  have hg : ∀ j, j < T.length → (T ++ [(x, 1)]).getD j (0, 0) = T.getD j (0, 0) := fun j hj => by
    simp [List.getD, List.getElem?_append_left hj]
  have hl : (T ++ [(x, (1 : Int))]).getD T.length (0, 0) = (x, 1) := by simp [List.getD]
  have hn : L.count x = 0 := List.count_eq_zero.2 (fun hm => by
    obtain ⟨j, hj, e⟩ := h.all x hm
    exact hx j hj e)
  refine ⟨?_, ?_, ?_, ?_⟩
  · simp only [List.length_append, List.length_cons, List.length_nil]
    have := h.len
    omega
  · intro a b ha hb e
    simp only [List.length_append, List.length_cons, List.length_nil] at ha hb
    by_cases h1 : a < T.length <;> by_cases h2 : b < T.length
    · rw [hg a h1, hg b h2] at e
      exact h.key a b h1 h2 e
    · obtain rfl : b = T.length := by omega
      rw [hg a h1, hl] at e
      exact absurd e (hx a h1)
    · obtain rfl : a = T.length := by omega
      rw [hg b h2, hl] at e
      exact absurd e.symm (hx b h2)
    · omega
  · intro j hj
    simp only [List.length_append, List.length_cons, List.length_nil] at hj
    by_cases h1 : j < T.length
    · rw [hg j h1, count_more, if_neg (fun e => hx j h1 e.symm), h.num j h1]
      simp
    · obtain rfl : j = T.length := by omega
      rw [hl, count_more, hn]
      simp
  · intro y hy
    simp only [List.length_append, List.length_cons, List.length_nil]
    rcases List.mem_append.1 hy with hy | hy
    · obtain ⟨j, hj, e⟩ := h.all y hy
      exact ⟨j, by omega, by rw [hg j hj]; exact e⟩
    · obtain rfl : y = x := by simpa using hy
      exact ⟨T.length, by omega, by rw [hl]⟩

theorem tal_in {T : Tal} {L : List Int} (h : TalIs T L) {x : Int} {i : Nat} (hi : i < T.length) (hx : (T.getD i (0, 0)).1 = x) : (T.getD i (0, 0)).2 = (L.count x : Int) := by rw [h.num i hi, hx]
theorem tal_out {T : Tal} {L : List Int} (h : TalIs T L) {x : Int} (hx : ∀ j, j < T.length → (T.getD j (0, 0)).1 ≠ x) : L.count x = 0 := List.count_eq_zero.2 (fun hm => by
  obtain ⟨j, hj, e⟩ := h.all x hm
  exact hx j hj e)

/-- A tally in memory: read. -/
def TalS (w : World) (a : Option Addr) (T : Tal) : Prop := Sl w a (T.length * 2) (fun i => (tcs T).getD i undef)
/-- A tally of the call's own. -/
def TalO (w : World) (B : Nat) (v : Value) (T : Tal) : Prop := RowO w B 95 2 v T.length (tcs T)

theorem TalO.s {w : World} {B : Nat} {v : Value} {T : Tal} (h : TalO w B v T) : ∃ a cap, v = .slice a T.length cap ∧ TalS w a T := by
  obtain ⟨a, cap, e, hw⟩ := RowO.wr h
  exact ⟨a, cap, e, hw.sl⟩

set_option maxRecDepth 100000 in
set_option maxHeartbeats 1000000 in
theorem placeFn (p q x : Int) (c : Nat) (w : World) (h : Row w c [.int .i64 x]) :
    Calls Tryz.prog 96 #[.agg #[.int .i64 p, .int .i64 q], .pointer (some ⟨c, 0, none⟩)] w fun e w' => e = .returned (.bool (decide (p = x))) ∧ Below w.heap.size w w' := by
  obtain ⟨wa, hwa, ez, A0, B0⟩ := one_new w [.int .i64 p, .int .i64 q] 95
  have c0 := (h.below B0 h.lt).c 0 rfl
  have a0 := A0.c 0 rfl
  have HB := hid B0
  clear A0 B0 ez h
  go_enter Tryz.func96, Tryz.ntmps96
  go_wp2_with fail
  try simp only [hwa]
  go_wp2
  go_ret
  refine ⟨?_, HB.out⟩
  first | rfl | (congr 2; by_cases hx : p = x <;> simp [hx])

set_option maxRecDepth 100000 in
set_option maxHeartbeats 1000000 in
theorem indexFunc (T : Tal) (x : Int) (a : Option Addr) (cap c : Nat) (w : World) (S : TalS w a T) (h : Row w c [.int .i64 x]) (hl : T.length ≤ 1000) :
    Calls Tryz.prog 95 #[.slice a T.length cap, .func (.func 96) #[] #[.pointer (some ⟨c, 0, none⟩)]] w fun e w' => ∃ z, e = .returned (.int .i64 z) ∧ PlaceIs T x z ∧ Below w.heap.size w w' := by
  have HS := hid S
  have HC := hid h
  clear S h
  go_enter Tryz.func95, Tryz.ntmps95
  go_wp2
  go_loopw [8] (fun i wr => ∃ k : Nat, k ≤ T.length ∧ i = .int .i64 (k : Int) ∧ Hid (∀ j, j < k → (T.getD j (0, 0)).1 ≠ x) ∧ Hid (Below w.heap.size w wr)) (fun i _ => T.length - (intOf i).toNat)
  case atStart => exact ⟨0, Nat.zero_le _, rfl, fun j hj => by omega, Below.refl _ _⟩
  case round =>
    obtain ⟨k, hk, rfl, HN, HB⟩ := hrel
    by_cases hlt : k < T.length
    · obtain ⟨b, off, rfl, c0⟩ := (Sl.below HS.out HB.out) (k * 2) (by omega)
      obtain ⟨b1, off1, e1, c1⟩ := (Sl.below HS.out HB.out) (k * 2 + 1) (by omega)
      cases e1
      replace c0 := c0.trans (congrArg some (tcs_at T k hlt).1)
      replace c1 := c1.trans (congrArg some (tcs_at T k hlt).2)
      rw [← Nat.add_assoc] at c1
      have HR : Hid (Row wr c [.int .i64 x]) := HC.out.below HB.out HC.out.lt
      obtain ⟨q, hq⟩ : ∃ q, T.getD k (0, 0) = q := ⟨_, rfl⟩
      have HQ := hid hq
      rw [hq] at c0 c1
      clear hq
      obtain ⟨q1, q2⟩ := q
      simp only [] at c0 c1
      go_wp2_with fail
      refine (placeFn q1 q2 x c wr HR.out).mono ?_
      rintro e w1 ⟨rfl, b1⟩
      have HB1 := hid (HB.out.trans (b1.mono HB.out.size))
      clear b1
      by_cases hx : q1 = x
      · have HX : Hid (PlaceIs T x (k : Int)) := Or.inl ⟨k, hlt, rfl, by rw [HQ.out]; exact hx⟩
        rw [decide_eq_true hx]
        go_wp2
        go_ret
        exact ⟨_, rfl, HX.out, HB1.out⟩
      · have HX : Hid (∀ j, j < k + 1 → (T.getD j (0, 0)).1 ≠ x) := fun j hj => by
          by_cases e : j = k
          · subst e; rw [HQ.out]; exact hx
          · exact HN.out j (by omega)
        rw [decide_eq_false hx]
        go_wp2
        exact ⟨⟨k + 1, by omega, by go_num, HX, HB1⟩, by simp [intOf]; omega⟩
    · obtain rfl : k = T.length := by omega
      go_wp2
      go_ret
      exact ⟨_, rfl, Or.inr ⟨rfl, HN.out⟩, HB.out⟩

set_option maxRecDepth 100000 in
set_option maxHeartbeats 1000000 in
theorem place (T : Tal) (x : Int) (a : Option Addr) (cap : Nat) (w : World) (S : TalS w a T) (hl : T.length ≤ 1000) :
    Calls Tryz.prog 62 #[.slice a T.length cap, .int .i64 x] w fun e w' => ∃ z, e = .returned (.int .i64 z) ∧ PlaceIs T x z ∧ Below w.heap.size w w' := by
  have hmf : ∀ (fn : Fn) (first cap : Array Value) (w : World), (Instr.makeFunc fn first cap).run Tryz.prog w = .ok (.func fn first cap) w := fun _ _ _ _ => rfl
  obtain ⟨wa, hwa, ez, A0, B0⟩ := one_new w [.int .i64 x] 3
  have HS : Hid (TalS wa a T) := Sl.below S B0
  have HA := hid A0
  have HB := hid B0
  clear A0 B0 ez S
  go_enter Tryz.func62, Tryz.ntmps62
  go_wp2_with fail
  try simp only [hwa]
  go_wp2_with fail
  refine (indexFunc T x a cap w.heap.size wa HS.out HA.out hl).mono ?_
  rintro e w1 ⟨z, rfl, hz, b1⟩
  have HZ := hid hz
  have HB1 := hid (HB.out.trans (b1.mono HB.out.size))
  clear hz b1
  go_wp2
  go_ret
  exact ⟨_, rfl, HZ.out, HB1.out⟩

set_option maxRecDepth 100000 in
set_option maxHeartbeats 1000000 in
theorem timesOf (T : Tal) (L : List Int) (x : Int) (a : Option Addr) (cap : Nat) (w : World) (S : TalS w a T) (hl : T.length ≤ 1000) (hT : TalIs T L) :
    Calls Tryz.prog 37 #[.slice a T.length cap, .int .i64 x] w fun e w' => e = .returned (.int .i64 (L.count x : Int)) ∧ Below w.heap.size w w' := by
  have HS := hid S
  have HT := hid hT
  clear S hT
  go_enter Tryz.func37, Tryz.ntmps37
  go_wp2_with fail
  refine (place T x a cap w HS.out hl).mono ?_
  rintro e w1 ⟨z, rfl, hz, b1⟩
  have HB := hid b1
  have HS1 : Hid (TalS w1 a T) := Sl.below HS.out b1
  clear b1 HS
  rcases hz with ⟨i, hi, rfl, hx⟩ | ⟨rfl, hx⟩
  · obtain ⟨b, off, rfl, c1⟩ := HS1.out (i * 2 + 1) (by omega)
    replace c1 := c1.trans (congrArg some (tcs_at T i hi).2)
    rw [← Nat.add_assoc] at c1
    have HN := hid (tal_in HT.out hi hx)
    generalize (T.getD i (0, 0)).2 = n at *
    clear hx
    go_wp2
    go_ret
    exact ⟨by rw [← HN.out]; rfl, HB.out⟩
  · have HN := hid (tal_out HT.out hx)
    clear hx
    go_wp2
    go_ret
    exact ⟨by rw [HN.out]; rfl, HB.out⟩

theorem infoMeet : (Tryz.prog.info? 95).map (fun i => (i.zero, i.size, i.bytes)) = some (some (.agg #[.int .i64 0, .int .i64 0]), 2, 16) := by kernel_rfl

theorem two_row (w : World) (x y : Int) : Sl (w.alloc (.cells #[.int .i64 x, .int .i64 y] 95)) (some ⟨w.heap.size, 0, none⟩) (1 * 2) (fun i => [Value.int .i64 x, .int .i64 y].getD i undef) :=
  (wr_new w #[.int .i64 x, .int .i64 y] _ 2 _ (fun i hi => by
    rcases i with _ | _ | i
    · rfl
    · rfl
    · omega)).sl

theorem rowO_form {w : World} {B : Nat} {e : TypeId} {k : Nat} {v : Value} {n : Nat} {xs : List Value} (h : RowO w B e k v n xs) (hn : 0 < n) : ∃ g c, v = .slice (some ⟨g, 0, none⟩) n (c + 1) := by
  rcases h with ⟨_, _, rfl, _⟩ | ⟨h, a, c, e⟩
  · omega
  · rcases h.2 with ⟨e', _⟩ | ⟨g, cap, cur, e', _⟩
    · rw [e] at e'; cases e'
    · rw [e] at e'
      cases e'
      exact ⟨g, c, e⟩

theorem rowO_set {w : World} {B : Nat} {e : TypeId} {k : Nat} {g n cap : Nat} {xs : List Value} (h : RowO w B e k (.slice (some ⟨g, 0, none⟩) n cap) n xs) (i : Nat) (hi : i < n * k) (u : Value) :
    RowO (w.setCell ⟨g, i, none⟩ u) B e k (.slice (some ⟨g, 0, none⟩) n cap) n (xs.set i u) := by
  rcases h with ⟨_, _, rfl, _⟩ | ⟨h, hc⟩
  · omega
  · exact Or.inr ⟨(h.stored i u).1, hc⟩

set_option maxRecDepth 100000 in
set_option maxHeartbeats 2000000 in
theorem tallyOf (L : List Int) (a : Option Addr) (cap : Nat) (w : World) (S : Ints w a L) (hl : L.length ≤ 900) :
    Calls Tryz.prog 35 #[.slice a L.length cap] w fun e w' => ∃ v T, e = .returned v ∧ TalO w' w.heap.size v T ∧ TalIs T L ∧ Below w.heap.size w w' := by
  have HS := hid S
  clear S
  go_enter Tryz.func35, Tryz.ntmps35
  go_wp2
  go_loopw [3, 9] (fun v i wr => ∃ (k : Nat) (T : Tal), k ≤ L.length ∧ i = .int .i64 (k : Int) ∧ Hid (TalO wr w.heap.size v T) ∧ Hid (TalIs T (L.take k)) ∧ Hid (Below w.heap.size w wr)) (fun _ i _ => L.length - (intOf i).toNat)
  case atStart => exact ⟨0, [], Nat.zero_le _, rfl, Or.inl ⟨_, rfl, rfl, rfl⟩, tal_nil, Below.refl _ _⟩
  case round =>
    obtain ⟨k, T, hk, rfl, HO, HT, HB⟩ := hrel
    have hTl : T.length ≤ 900 := by
      have h1 := HT.out.len
      rw [List.length_take] at h1
      omega
    obtain ⟨a1, c1, rfl, hs1⟩ := TalO.s HO.out
    have HS1 := hid hs1
    clear hs1
    by_cases hlt : k < L.length
    · obtain ⟨b, off, rfl, hc⟩ := (Sl.below HS.out HB.out) k hlt
      replace hc : wr.cell? ⟨b, off + k, none⟩ = some (.int .i64 (L.getD k 0)) := hc
      have HTk : Hid (L.take (k + 1) = L.take k ++ [L.getD k 0]) := by
        rw [Hid, List.take_add_one]
        simp [List.getD, hlt]
      generalize L.getD k 0 = x at *
      go_wp2_with fail
      refine (place T x a1 c1 wr HS1.out (by omega)).mono ?_
      rintro e w1 ⟨z, rfl, hz, b1⟩
      have HB1 := hid (HB.out.trans (b1.mono HB.out.size))
      have HO1 : Hid (TalO w1 w.heap.size (.slice a1 T.length c1) T) := RowO.below HO.out b1
      have hsz := HB1.out.size
      clear b1 hc HS1 HO
      rcases hz with ⟨i, hi, rfl, hx⟩ | ⟨rfl, hx⟩
      · obtain ⟨g, cc, e⟩ := rowO_form HO1.out (by omega)
        simp only [Value.slice.injEq] at e
        obtain ⟨rfl, _, rfl⟩ := e
        obtain ⟨a2, c2, e2, hw⟩ := RowO.wr HO1.out
        cases e2
        obtain ⟨b2, o2, e2, hB2, hc2, hf2⟩ := hw (i * 2 + 1) (by omega)
        cases e2
        simp only [Nat.zero_add] at hc2 hf2
        replace hc2 := hc2.trans (congrArg some (tcs_at T i hi).2)
        have HT2 := hid (tal_found HT.out hi hx)
        have HO2 := hid (rowO_set HO1.out (i * 2 + 1) (by omega) (.int .i64 ((T.getD i (0, 0)).2 + 1)))
        have HE := hid (tcs_set T i hi ((T.getD i (0, 0)).2 + 1))
        have hbd : 0 ≤ (T.getD i (0, 0)).2 ∧ (T.getD i (0, 0)).2 ≤ 900 := by
          rw [tal_in HT.out hi hx]
          have := List.count_le_length (a := x) (l := L.take k)
          rw [List.length_take] at this
          omega
        have HBs := hid (below_set HB1.out g (i * 2 + 1) (.int .i64 ((T.getD i (0, 0)).2 + 1)) hB2)
        clear hw
        generalize hn : (T.getD i (0, 0)).2 = n at *
        have HN := hid hn
        clear hn
        go_wp2
        refine ⟨⟨k + 1, T.set i ((T.getD i (0, 0)).1, n + 1), by omega, by go_num, ?_, by rw [HTk.out]; exact HT2.out, HBs.out⟩, by simp [intOf]; omega⟩
        show RowO _ _ _ _ _ (T.set i ((T.getD i (0, 0)).1, n + 1)).length _
        rw [List.length_set, ← HE.out]
        exact HO2.out
      · have HT2 := hid (tal_new HT.out hx)
        have hwb : w.heap.size ≤ (w1.alloc (.cells #[.int .i64 x, .int .i64 1] 95)).heap.size := by have := lt_alloc w1 (.cells #[.int .i64 x, .int .i64 1] 95); omega
        clear hx
        go_wp2_with (at_builtin; refine wpList_app 55 95 (.agg #[.int .i64 0, .int .i64 0]) 2 16 Tryz.underlying55 infoMeet rfl (by decide) (by decide) _ rfl (.tmp 26) (.tmp 29) rfl w.heap.size _ T.length (tcs T) rfl (RowO.below HO1.out ((Below.refl _ _).alloc (Nat.le_refl _) _)) ⟨w1.heap.size, 0, none⟩ 1 1 [.int .i64 x, .int .i64 1] rfl rfl (two_row w1 x 1) (by intro u hu; simp only [List.mem_cons, List.not_mem_nil, or_false] at hu; rcases hu with rfl | rfl <;> rfl) (by omega) hwb ?_; intro v2 w2 r2 kk hi2)
        have hrb : ∀ b, rb (.slice a1 T.length c1) = some b → w.heap.size ≤ b := fun b hb => (RowO.lt HO1.out hb).1
        have HB2 : Hid (Below w.heap.size w w2) := (HB1.out.alloc HB1.out.size _).trans (kk.below hwb (fun b hb x => by have := hrb b x; omega))
        refine ⟨⟨k + 1, T ++ [(x, 1)], by omega, by go_num, ?_, by rw [HTk.out]; exact HT2.out, HB2⟩, by simp [intOf]; omega⟩
        show RowO _ _ _ _ _ (T ++ [(x, 1)]).length _
        rw [tcs_more, List.length_append]
        exact r2
    · obtain rfl : k = L.length := by omega
      have HT2 : Hid (TalIs T L) := by have := HT.out; rwa [List.take_length] at this
      go_wp2
      go_ret
      exact ⟨_, T, rfl, HO.out, HT2.out, HB.out⟩

end Go.Proofs.YtlbfcnpnfoapnaaGreatDoor.Tr

namespace Go.Proofs.YtlbfcnpnfoapnaaGreatDoor.Tr
open Go.RowKit Go.Proofs.YtlbfcnpnfoapnaaGreatDoor.Mem Go.Proofs.YtlbfcnpnfoapnaaGreatDoor.Sec Go.Proofs.YtlbfcnpnfoapnaaGreatDoor.Rd Go.Proofs.YtlbfcnpnfoapnaaGreatDoor.Pk
set_option linter.unusedVariables false

theorem iVolAt (R : ByteArray → Int × Nat) (hR : Reads R) (hT : ∀ s : ByteArray, s.size ≤ maxLen → Tx s (R s)) (s : ByteArray) (hs : s.size ≤ 1048576) {h e : Int} {on : Bool} {m : List Int} (q : readVol R s = some (h, e, on, m)) (w : World) (u : TypeId) (pv : Value) (hL : Lacks w u pv) (T : Sums w) :
    Calls Tryz.prog 44 #[.string s] w fun r w' => ∃ a cap, r = .returned (.tuple #[.agg #[.int .i64 h, .int .i64 e, .bool on, .slice a m.length cap], .bool true]) ∧ Ir w' w.heap.size (.slice a m.length cap) m ∧ Below w.heap.size w w' := by
  refine (iReadVol R hR s hs (no_flag R hR hT s hs) w u pv hL T).mono ?_
  rintro r w' ⟨h', e', on', l, a, cap, ok, hi, rfl, hI, b⟩
  rcases hi with ⟨q', _, rfl⟩ | ⟨q', _⟩
  · rw [q] at q'
    simp only [Option.some.injEq, Prod.mk.injEq] at q'
    obtain ⟨rfl, rfl, rfl, rfl⟩ := q'
    exact ⟨a, cap, rfl, hI, b⟩
  · rw [q] at q'; cases q'

theorem sVolAt (R : ByteArray → Int × Nat) (hR : Reads R) (s : ByteArray) (hs : s.size ≤ 1048576) {h e : Int} {on : Bool} {m : List Int} (q : readVol R s = some (h, e, on, m)) (w : World) :
    Calls Tryz.prog 32 #[.string s] w fun r w' => ∃ a cap, r = .returned (.tuple #[.agg #[.int .i64 h, .int .i64 e, .bool on, .slice a m.length cap], .bool true]) ∧ Ir w' w.heap.size (.slice a m.length cap) m ∧ Below w.heap.size w w' := by
  refine (sReadVol R hR s hs w).mono ?_
  rintro r w' ⟨h', e', on', l, a, cap, ok, hi, rfl, hI, b⟩
  rcases hi with ⟨q', _, rfl⟩ | ⟨q', _⟩
  · rw [q] at q'
    simp only [Option.some.injEq, Prod.mk.injEq] at q'
    obtain ⟨rfl, rfl, rfl, rfl⟩ := q'
    exact ⟨a, cap, rfl, hI, b⟩
  · rw [q] at q'; cases q'

theorem iFreesAt (R : ByteArray → Int × Nat) (hR : Reads R) (s : ByteArray) (hs : s.size ≤ 1048576) {m : List Int} (q : readFrees R s = some m) (w : World) (u : TypeId) (pv : Value) (hL : Lacks w u pv) (T : Sums w) :
    Calls Tryz.prog 64 #[.string s] w fun r w' => ∃ a cap, r = .returned (.tuple #[.slice a m.length cap, .bool true]) ∧ Ir w' w.heap.size (.slice a m.length cap) m ∧ Below w.heap.size w w' := by
  refine (iReadFrees R hR s hs w u pv hL T).mono ?_
  rintro r w' ⟨v, l, ok, hi, rfl, hI, b⟩
  obtain ⟨a, cap, rfl, _⟩ := hI.w
  rcases hi with ⟨q', rfl⟩ | ⟨q', _⟩
  · rw [q] at q'
    simp only [Option.some.injEq] at q'
    subst q'
    exact ⟨a, cap, rfl, hI, b⟩
  · rw [q] at q'; cases q'

theorem sFreesAt (R : ByteArray → Int × Nat) (hR : Reads R) (s : ByteArray) (hs : s.size ≤ 1048576) {m : List Int} (q : readFrees R s = some m) (w : World) :
    Calls Tryz.prog 34 #[.string s] w fun r w' => ∃ a cap, r = .returned (.tuple #[.slice a m.length cap, .bool true]) ∧ Ir w' w.heap.size (.slice a m.length cap) m ∧ Below w.heap.size w w' := by
  refine (sReadFrees R hR s hs w).mono ?_
  rintro r w' ⟨v, l, ok, hi, rfl, hI, b⟩
  obtain ⟨a, cap, rfl, _⟩ := hI.w
  rcases hi with ⟨q', rfl⟩ | ⟨q', _⟩
  · rw [q] at q'
    simp only [Option.some.injEq] at q'
    subst q'
    exact ⟨a, cap, rfl, hI, b⟩
  · rw [q] at q'; cases q'

theorem iGroupAt (R : ByteArray → Int × Nat) (hR : Reads R) (s : ByteArray) (hs : s.size ≤ 1048576) {h e : Int} {m : List Int} (q : readGroup R s = some (h, e, m)) (w : World) (u : TypeId) (pv : Value) (hL : Lacks w u pv) (T : Sums w) :
    Calls Tryz.prog 68 #[.string s] w fun r w' => ∃ a cap, r = .returned (.tuple #[.agg #[.int .i64 h, .int .i64 e, .slice a m.length cap], .bool true]) ∧ Ir w' w.heap.size (.slice a m.length cap) m ∧ Below w.heap.size w w' := by
  refine (iReadGroup R hR s hs w u pv hL T).mono ?_
  rintro r w' ⟨h', e', l, a, cap, ok, hi, rfl, hI, b⟩
  rcases hi with ⟨q', _, rfl⟩ | ⟨q', _⟩
  · rw [q] at q'
    simp only [Option.some.injEq, Prod.mk.injEq] at q'
    obtain ⟨rfl, rfl, rfl⟩ := q'
    exact ⟨a, cap, rfl, hI, b⟩
  · rw [q] at q'; cases q'

theorem sGroupAt (R : ByteArray → Int × Nat) (hR : Reads R) (s : ByteArray) (hs : s.size ≤ 1048576) {h e : Int} {m : List Int} (q : readGroup R s = some (h, e, m)) (w : World) :
    Calls Tryz.prog 40 #[.string s] w fun r w' => ∃ a cap, r = .returned (.tuple #[.agg #[.int .i64 h, .int .i64 e, .slice a m.length cap], .bool true]) ∧ Ir w' w.heap.size (.slice a m.length cap) m ∧ Below w.heap.size w w' := by
  refine (sReadGroup R hR s hs w).mono ?_
  rintro r w' ⟨h', e', l, a, cap, ok, hi, rfl, hI, b⟩
  rcases hi with ⟨q', _, rfl⟩ | ⟨q', _⟩
  · rw [q] at q'
    simp only [Option.some.injEq, Prod.mk.injEq] at q'
    obtain ⟨rfl, rfl, rfl⟩ := q'
    exact ⟨a, cap, rfl, hI, b⟩
  · rw [q] at q'; cases q'

theorem ic_apps (l m : List Int) : ic l ++ ic m = ic (l ++ m) := by simp [ic]
theorem ic_len (l : List Int) : (ic l).length = l.length := by simp [ic]

set_option maxRecDepth 100000 in
set_option maxHeartbeats 1000000 in
theorem heldBlocks (h e : Int) (on : Bool) (m : List Int) (a : Option Addr) (cap : Nat) (w : World) (S : Ints w a m) (hl : m.length ≤ 900) :
    Calls Tryz.prog 63 #[.agg #[.int .i64 h, .int .i64 e, .bool on, .slice a m.length cap]] w fun r w' => ∃ v, r = .returned v ∧ Ir w' w.heap.size v (ups m) ∧ Below w.heap.size w w' := by
  obtain ⟨wa, hwa, ez, A0, B0⟩ := one_new w [.int .i64 h, .int .i64 e, .bool on, .slice a m.length cap] 49
  have HS : Hid (Ints wa a m) := Sl.below S B0
  have k3 := A0.c 3 rfl
  have HB0 := hid B0
  clear A0 B0 S ez
  go_enter Tryz.func63, Tryz.ntmps63
  go_wp2_with fail
  try simp only [hwa]
  go_wp2
  go_loopw [3, 9] (fun v i wr => ∃ k : Nat, k ≤ m.length ∧ i = .int .i64 (k : Int) ∧ Hid (Ir wr wa.heap.size v (ups (m.take k))) ∧ Hid (Below wa.heap.size wa wr)) (fun _ i _ => m.length - (intOf i).toNat)
  case atStart => exact ⟨0, Nat.zero_le _, rfl, Or.inl ⟨_, rfl, rfl, rfl⟩, Below.refl _ _⟩
  case round =>
    obtain ⟨k, hk, rfl, HI, HA⟩ := hrel
    clear k3
    by_cases hlt : k < m.length
    · obtain ⟨b, off, rfl, hc⟩ := (Sl.below HS.out HA.out) k hlt
      replace hc : wr.cell? ⟨b, off + k, none⟩ = some (.int .i64 (m.getD k 0)) := hc
      have HU := hid (ups_take m k hlt)
      have hul : (ups (m.take k)).length ≤ 900 := by
        have h1 := ups_len (m.take k)
        rw [List.length_take] at h1
        omega
      generalize m.getD k 0 = x at *
      generalize ups (m.take k) = L at *
      obtain ⟨a1, c1, rfl, _⟩ := HI.out.w
      by_cases hx : 0 ≤ x
      · have hwb : wa.heap.size ≤ (wr.alloc (.cells #[.int .i64 x] 3)).heap.size := by have := lt_alloc wr (.cells #[.int .i64 x] 3); have := HA.out.size; omega
        have HU2 : Hid (ups (m.take (k + 1)) = L ++ [x]) := by rw [Hid, HU.out, if_pos hx]
        go_wp2_with (at_builtin; refine wpList_app 24 3 (.int .i64 0) 1 8 Tryz.underlying24 info3 rfl (by decide) (by decide) _ rfl (.tmp 15) (.tmp 17) rfl wa.heap.size _ L.length (ic L) rfl (RowO.below HI.out ((Below.refl _ _).alloc (Nat.le_refl _) _)) ⟨wr.heap.size, 0, none⟩ 1 1 [.int .i64 x] rfl rfl (one_row wr x) (by intro u hu; exact ic_one [x] u (by simpa [ic] using hu)) (by omega) hwb ?_; intro v2 w2 r2 kk hi2)
        have hrb : ∀ b, rb (.slice a1 L.length c1) = some b → wa.heap.size ≤ b := fun b hb => (RowO.lt HI.out hb).1
        have HA2 : Hid (Below wa.heap.size wa w2) := (HA.out.alloc HA.out.size _).trans (kk.below hwb (fun b hb x => by have := hrb b x; omega))
        refine ⟨⟨k + 1, by omega, by go_num, ?_, HA2⟩, by simp [intOf]; omega⟩
        rw [HU2.out]
        unfold Ir
        rw [← ic_app, List.length_append]
        exact r2
      · have HU2 : Hid (ups (m.take (k + 1)) = L) := by rw [Hid, HU.out, if_neg hx, List.append_nil]
        go_wp2
        exact ⟨⟨k + 1, by omega, by go_num, by rw [HU2.out]; exact HI, HA⟩, by simp [intOf]; omega⟩
    · obtain rfl : k = m.length := by omega
      have hi2 := RowO.mono HI.out HB0.out.size
      rw [List.take_length] at hi2
      have HI2 := hid hi2
      clear hi2
      have HBf := hid (HB0.out.trans (HA.out.mono HB0.out.size))
      go_wp2
      go_ret
      exact ⟨_, rfl, HI2.out, HBf.out⟩

theorem news_ints {w : World} {a : Option Addr} {m : List Int} {B cap : Nat} (h : Ir w B (.slice a m.length cap) m) : Sl w a (m.length * 1) (fun i => (ic m).getD i undef) := by
  obtain ⟨a1, c1, e, hw⟩ := RowO.wr h
  cases e
  exact hw.sl

set_option maxRecDepth 100000 in
set_option maxHeartbeats 4000000 in
theorem holdings (R : ByteArray → Int × Nat) (hR : Reads R) (hT : ∀ s : ByteArray, s.size ≤ maxLen → Tx s (R s)) (w : World) (a : Option Addr) (cap : Nat) (l : List ByteArray) (S : Strs w a l) (hp : poolOk R l = true) (hz : ∀ s ∈ l, s.size ≤ 1048576) (u : TypeId) (pv : Value) (hL : Lacks w u pv) (T : Sums w) (K : Sector.Kinds w) (hg : 0 < w.heap.size) :
    Calls Tryz.prog 36 #[.slice a l.length cap] w fun e w' => ∃ v, e = .returned v ∧ Ir w' w.heap.size v (holdL R l) ∧ Below w.heap.size w w' := by
  have h34 := pool_len' hp
  have HR := hid hR
  have HTx := hid hT
  have HL := hid hL
  have HT := hid T
  have HK := hid K
  have HG := hid hg
  have HZ := hid (getD_size hz)
  have HS := hid S
  have HV := hid (fun i hi => pool_vol hp i hi)
  have HF := hid (fun i hi => pool_frees hp i hi)
  have HVL := hid (fun n hn => volsUp_len hR hz hp n hn)
  have HFL := hid (fun n hn => freesUp_len hR hp n hn)
  obtain ⟨b, o, rfl, _⟩ := HS.out 0 (by omega)
  have HCell := hid (cells34 HS.out h34)
  rw [h34]
  clear hR hz S hT hL T K hg hp h34 HS
  go_enter Tryz.func36, Tryz.ntmps36
  go_wp2
  go_loopw [3, 10] (fun v i wr => ∃ m : Nat, m ≤ 4 ∧ i = .int .i64 (m : Int) ∧ Hid (Ir wr w.heap.size v (volsUp R l m)) ∧ Hid (Below w.heap.size w wr)) (fun _ i _ => 4 - (intOf i).toNat)
  case atStart => exact ⟨0, Nat.zero_le _, rfl, Or.inl ⟨_, rfl, rfl, rfl⟩, Below.refl _ _⟩
  case round =>
    obtain ⟨m, hm, rfl, HI, HB⟩ := hrel
    have hvl := HVL.out m hm
    by_cases hlt : m < 4
    · obtain ⟨⟨h, e, on, M⟩, hq⟩ := HV.out m hlt
      have HM := hid (vol_ok HR.out (HZ.out _) hq)
      have HSu : Hid (volsUp R l (m + 1) = volsUp R l m ++ ups M) := by rw [Hid, volsUp_succ]; unfold volL; rw [hq]
      generalize volsUp R l m = L at *
      obtain ⟨a0, c0, rfl, _⟩ := HI.out.w
      go_wp2_with fail
      refine (Sector.impl_sector 3 (m : Int) wr (kinds_below HK.out HG.out HB.out)).mono ?_
      rintro e' w1 ⟨rfl, hw1⟩
      obtain rfl := hw1.symm
      rw [sec3 m hlt]
      obtain ⟨p, hp⟩ : ∃ p : Nat, p = 9 + m := ⟨_, rfl⟩
      rw [← hp] at hq ⊢
      have hl : (p : Int) < 34 := by omega
      have hc := HCell.out wr HB.out p (by omega)
      have hz := HZ.out p
      obtain ⟨sa, hsa⟩ : ∃ s, s = l.getD p ByteArray.empty := ⟨_, rfl⟩
      rw [← hsa] at hc hz hq
      have HQ := hid hq
      clear hp hsa hq
      go_wp2_with fail
      refine (iVolAt R HR.out HTx.out sa hz HQ.out wr u pv (HL.out.kept (Kept.of_below (S := fun _ => False) HB.out) (fun x => x)) (HT.out.below HB.out)).mono ?_
      rintro e' w2 ⟨va, vc, rfl, hI2, b2⟩
      have HB2 := hid (HB.out.trans (b2.mono HB.out.size))
      have HIa : Hid (Ir w2 w.heap.size (.slice a0 L.length c0) L) := RowO.below HI.out b2
      have HIm := hid hI2
      clear b2 hc hz hI2 HI
      obtain ⟨w3, hw3, e3, A3, B3⟩ := one_new w2 [.int .i64 h, .int .i64 e, .bool on, .slice va M.length vc] 49
      have k0 := A3.c 0 rfl
      have k1 := A3.c 1 rfl
      have k2 := A3.c 2 rfl
      have k3 := A3.c 3 rfl
      have HB3 := hid (HB2.out.trans (B3.mono HB2.out.size))
      have HI3 : Hid (Ir w3 w.heap.size (.slice a0 L.length c0) L) := RowO.below HIa.out B3
      have HM3 : Hid (Ir w3 wr.heap.size (.slice va M.length vc) M) := RowO.below HIm.out B3
      clear A3 B3 e3 HIa HIm
      have hMl : M.length ≤ 900 := by have := HM.out.1; omega
      have HMs : Hid (Ints w3 va M) := by
        obtain ⟨_, _, e, hx⟩ := HM3.out.w
        cases e
        exact Wr.sl hx
      go_wp2_with fail
      try simp only [hw3]
      clear hw3
      go_wp2_with fail
      refine (heldBlocks h e on M va vc w3 HMs.out hMl).mono ?_
      rintro e' w4 ⟨v4, rfl, hI4, b4⟩
      obtain ⟨a4, c4, rfl, _⟩ := hI4.w
      have HI4 := hid hI4
      have HB4 := hid (HB3.out.trans (b4.mono HB3.out.size))
      have HI5 : Hid (Ir w4 w.heap.size (.slice a0 L.length c0) L) := RowO.below HI3.out b4
      have hul := ups_len M
      clear hI4 b4 k0 k1 k2 k3
      have hM4 := HM.out.1
      go_wp2_with (at_builtin; refine wpList_appO 24 3 (.int .i64 0) 1 8 Tryz.underlying24 info3 rfl (by decide) (by decide) _ rfl (.tmp 22) (.tmp 24) rfl w.heap.size _ L.length (ic L) rfl HI5.out a4 (ups M).length c4 (ic (ups M)) rfl (by rw [ic_len, Nat.mul_one]) (news_ints HI4.out) (ic_one _) (by omega) HB4.out.size ?_; intro v5 w5 r5 kk hi5)
      have hrb : ∀ b, rb (.slice a0 L.length c0) = some b → w.heap.size ≤ b := fun b hb => (RowO.lt HI5.out hb).1
      have HB5 : Hid (Below w.heap.size w w5) := HB4.out.trans (kk.below HB4.out.size (fun b hb x => by have := hrb b x; omega))
      refine ⟨⟨m + 1, by omega, by go_num, ?_, HB5⟩, by simp [intOf]; omega⟩
      rw [HSu.out]
      unfold Ir
      rw [← ic_apps, List.length_append]
      exact r5
    · obtain rfl : m = 4 := by omega
      obtain ⟨wo, hwo⟩ : ∃ wo, wo = wr := ⟨_, rfl⟩
      subst hwo
      have hi0 := HI.out
      have e0 : volsUp R l 4 = volsUp R l 4 ++ freesUp R l 0 := (List.append_nil _).symm
      rw [e0] at hi0
      have HI0 := hid hi0
      clear hi0 e0
      have HBo := HB
      have hv4 := HVL.out 4 (by decide)
      clear hvl HI HB hlt hm
      simp only [lit4]
      go_wp2
      go_loopw [3, 27] (fun v i wr => ∃ m : Nat, m ≤ 3 ∧ i = .int .i64 (m : Int) ∧ Hid (Ir wr w.heap.size v (volsUp R l 4 ++ freesUp R l m)) ∧ Hid (Below w.heap.size w wr)) (fun _ i _ => 3 - (intOf i).toNat)
      case atStart => exact ⟨0, Nat.zero_le _, rfl, HI0, HBo⟩
      case round =>
        obtain ⟨m, hm, rfl, HI, HB⟩ := hrel
        have hfl := HFL.out m hm
        clear HI0
        by_cases hlt : m < 3
        · obtain ⟨M, hq⟩ := HF.out m hlt
          have HM := hid (frees_ok HR.out hq)
          have HSu : Hid (volsUp R l 4 ++ freesUp R l (m + 1) = (volsUp R l 4 ++ freesUp R l m) ++ M) := by rw [Hid, freesUp_succ]; unfold freeL; rw [hq, List.append_assoc]
          have hlen : (volsUp R l 4 ++ freesUp R l m).length ≤ 60 := by rw [List.length_append]; omega
          generalize volsUp R l 4 ++ freesUp R l m = L at *
          obtain ⟨a0, c0, rfl, _⟩ := HI.out.w
          go_wp2_with fail
          refine (Sector.impl_sector 2 (m : Int) wr (kinds_below HK.out HG.out HB.out)).mono ?_
          rintro e' w1 ⟨rfl, hw1⟩
          obtain rfl := hw1.symm
          rw [sec2 m hlt]
          obtain ⟨p, hp⟩ : ∃ p : Nat, p = 6 + m := ⟨_, rfl⟩
          rw [← hp] at hq ⊢
          have hl : (p : Int) < 34 := by omega
          have hc := HCell.out wr HB.out p (by omega)
          have hz := HZ.out p
          obtain ⟨sa, hsa⟩ : ∃ s, s = l.getD p ByteArray.empty := ⟨_, rfl⟩
          rw [← hsa] at hc hz hq
          have HQ := hid hq
          clear hp hsa hq
          go_wp2_with fail
          refine (iFreesAt R HR.out sa hz HQ.out wr u pv (HL.out.kept (Kept.of_below (S := fun _ => False) HB.out) (fun x => x)) (HT.out.below HB.out)).mono ?_
          rintro e' w2 ⟨va, vc, rfl, hI2, b2⟩
          have HB2 := hid (HB.out.trans (b2.mono HB.out.size))
          have HIa : Hid (Ir w2 w.heap.size (.slice a0 L.length c0) L) := RowO.below HI.out b2
          have HIm := hid hI2
          clear b2 hc hz hI2 HI
          have hM12 := HM.out.1
          go_wp2_with (at_builtin; refine wpList_appO 24 3 (.int .i64 0) 1 8 Tryz.underlying24 info3 rfl (by decide) (by decide) _ rfl (.tmp 39) (.tmp 40) rfl w.heap.size _ L.length (ic L) rfl HIa.out va M.length vc (ic M) rfl (by rw [ic_len, Nat.mul_one]) (news_ints HIm.out) (ic_one _) (by omega) HB2.out.size ?_; intro v5 w5 r5 kk hi5)
          have hrb : ∀ b, rb (.slice a0 L.length c0) = some b → w.heap.size ≤ b := fun b hb => (RowO.lt HIa.out hb).1
          have HB5 : Hid (Below w.heap.size w w5) := HB2.out.trans (kk.below HB2.out.size (fun b hb x => by have := hrb b x; omega))
          refine ⟨⟨m + 1, by omega, by go_num, ?_, HB5⟩, by simp [intOf]; omega⟩
          rw [HSu.out]
          unfold Ir
          rw [← ic_apps, List.length_append]
          exact r5
        · obtain rfl : m = 3 := by omega
          go_wp2
          go_ret
          exact ⟨_, rfl, HI.out, HB.out⟩

set_option maxRecDepth 100000 in
set_option maxHeartbeats 4000000 in
theorem refsOf (R : ByteArray → Int × Nat) (hR : Reads R) (w : World) (a : Option Addr) (cap : Nat) (l : List ByteArray) (S : Strs w a l) (hp : poolOk R l = true) (hz : ∀ s ∈ l, s.size ≤ 1048576) (u : TypeId) (pv : Value) (hL : Lacks w u pv) (T : Sums w) (K : Sector.Kinds w) (hg : 0 < w.heap.size) :
    Calls Tryz.prog 43 #[.slice a l.length cap] w fun e w' => ∃ v, e = .returned v ∧ Ir w' w.heap.size v (refsUp R l 3) ∧ Below w.heap.size w w' := by
  have h34 := pool_len' hp
  have HR := hid hR
  have HL := hid hL
  have HT := hid T
  have HK := hid K
  have HG := hid hg
  have HZ := hid (getD_size hz)
  have HS := hid S
  have HV := hid (fun i hi => pool_group hp i hi)
  have HVL := hid (fun n hn => refsUp_len hR hz hp n hn)
  obtain ⟨b, o, rfl, _⟩ := HS.out 0 (by omega)
  have HCell := hid (cells34 HS.out h34)
  rw [h34]
  clear hR hz S hL T K hg hp h34 HS
  go_enter Tryz.func43, Tryz.ntmps43
  go_wp2
  go_loopw [3, 7] (fun v i wr => ∃ m : Nat, m ≤ 3 ∧ i = .int .i64 (m : Int) ∧ Hid (Ir wr w.heap.size v (refsUp R l m)) ∧ Hid (Below w.heap.size w wr)) (fun _ i _ => 3 - (intOf i).toNat)
  case atStart => exact ⟨0, Nat.zero_le _, rfl, Or.inl ⟨_, rfl, rfl, rfl⟩, Below.refl _ _⟩
  case round =>
    obtain ⟨m, hm, rfl, HI, HB⟩ := hrel
    have hvl : (refsUp R l m).length ≤ 18 := by have := HVL.out m hm; omega
    by_cases hlt : m < 3
    · obtain ⟨⟨h, e, M⟩, hq⟩ := HV.out m hlt
      have HM := hid (group_ok HR.out (HZ.out _) hq)
      have HSu : Hid (refsUp R l (m + 1) = refsUp R l m ++ M) := by rw [Hid, refsUp_succ]; unfold refL; rw [hq]
      generalize refsUp R l m = L at *
      obtain ⟨a0, c0, rfl, _⟩ := HI.out.w
      go_wp2_with fail
      refine (Sector.impl_sector 4 (m : Int) wr (kinds_below HK.out HG.out HB.out)).mono ?_
      rintro e' w1 ⟨rfl, hw1⟩
      obtain rfl := hw1.symm
      rw [sec4 m hlt]
      obtain ⟨p, hp⟩ : ∃ p : Nat, p = 13 + m := ⟨_, rfl⟩
      rw [← hp] at hq ⊢
      have hl : (p : Int) < 34 := by omega
      have hc := HCell.out wr HB.out p (by omega)
      have hz := HZ.out p
      obtain ⟨sa, hsa⟩ : ∃ s, s = l.getD p ByteArray.empty := ⟨_, rfl⟩
      rw [← hsa] at hc hz hq
      have HQ := hid hq
      clear hp hsa hq
      go_wp2_with fail
      refine (iGroupAt R HR.out sa hz HQ.out wr u pv (HL.out.kept (Kept.of_below (S := fun _ => False) HB.out) (fun x => x)) (HT.out.below HB.out)).mono ?_
      rintro e' w2 ⟨va, vc, rfl, hI2, b2⟩
      have HB2 := hid (HB.out.trans (b2.mono HB.out.size))
      have HIa : Hid (Ir w2 w.heap.size (.slice a0 L.length c0) L) := RowO.below HI.out b2
      have HIm := hid hI2
      clear b2 hc hz hI2 HI
      obtain ⟨w3, hw3, e3, A3, B3⟩ := one_new w2 [.int .i64 h, .int .i64 e, .slice va M.length vc] 60
      have k2 := A3.c 2 rfl
      have HB3 := hid (HB2.out.trans (B3.mono HB2.out.size))
      have HI3 : Hid (Ir w3 w.heap.size (.slice a0 L.length c0) L) := RowO.below HIa.out B3
      have HM3 : Hid (Ir w3 wr.heap.size (.slice va M.length vc) M) := RowO.below HIm.out B3
      clear A3 B3 e3 HIa HIm
      have hM6 : M.length ≤ 6 := by have := HM.out.1; omega
      go_wp2_with (at_builtin; refine wpList_appO 24 3 (.int .i64 0) 1 8 Tryz.underlying24 info3 rfl (by decide) (by decide) _ rfl (.tmp 19) (.tmp 21) rfl w.heap.size _ L.length (ic L) rfl HI3.out va M.length vc (ic M) rfl (by rw [ic_len, Nat.mul_one]) (news_ints HM3.out) (ic_one _) (by omega) HB3.out.size ?_; intro v5 w5 r5 kk hi5)
      have hrb : ∀ b, rb (.slice a0 L.length c0) = some b → w.heap.size ≤ b := fun b hb => (RowO.lt HI3.out hb).1
      have HB5 : Hid (Below w.heap.size w w5) := HB3.out.trans (kk.below HB3.out.size (fun b hb x => by have := hrb b x; omega))
      refine ⟨⟨m + 1, by omega, by go_num, ?_, HB5⟩, by simp [intOf]; omega⟩
      rw [HSu.out]
      unfold Ir
      rw [← ic_apps, List.length_append]
      exact r5
    · obtain rfl : m = 3 := by omega
      go_wp2
      go_ret
      exact ⟨_, rfl, HI.out, HB.out⟩

end Go.Proofs.YtlbfcnpnfoapnaaGreatDoor.Tr

namespace Go.Proofs.YtlbfcnpnfoapnaaGreatDoor.Tr
open Go.RowKit Go.Proofs.YtlbfcnpnfoapnaaGreatDoor.Mem Go.Proofs.YtlbfcnpnfoapnaaGreatDoor.Sec Go.Proofs.YtlbfcnpnfoapnaaGreatDoor.Rd Go.Proofs.YtlbfcnpnfoapnaaGreatDoor.Pk
set_option linter.unusedVariables false

/-- How often each block stands in a list: eighteen numbers in a block of the call's own. -/
def OutW (w : World) (B g : Nat) (L : List Int) : Prop := Wr w B (some ⟨g, 0, none⟩) 18 (fun i => .int .i64 ((cnt L).getD i 0))

theorem OutW.at_ {w : World} {B g : Nat} {L : List Int} (h : OutW w B g L) (n : Nat) (hn : n < 18) : w.cell? ⟨g, n, none⟩ = some (.int .i64 ((cnt L).getD n 0)) ∧ w.frozen? ⟨g, n, none⟩ = false ∧ B ≤ g ∧ g < w.heap.size := by
  obtain ⟨b, off, e, hB, hc, hf⟩ := h n hn
  cases e
  rw [Nat.zero_add] at hc hf
  exact ⟨hc, hf, hB, Sl.lt h.sl ⟨by omega, _, rfl⟩⟩

theorem out_more (L : List Int) (n : Nat) (h : n < 18) (j : Nat) : (if j = n then Value.int .i64 ((cnt L).getD n 0 + 1) else Value.int .i64 ((cnt L).getD j 0)) = .int .i64 ((cnt (L ++ [(n : Int)])).getD j 0) := by
  rw [cnt_more L n h, getD_set _ _ _ _ _ (by rw [cnt_len]; exact h)]
  by_cases e : j = n
  · subst e; simp
  · rw [if_neg e, if_neg (fun x => e x.symm)]

theorem out_set {w : World} {B g : Nat} {L : List Int} (h : OutW w B g L) (n : Nat) (hn : n < 18) : OutW (w.setCell ⟨g, n, none⟩ (.int .i64 ((cnt L).getD n 0 + 1))).drew B g (L ++ [(n : Int)]) := by
  have hs := Wr.set h n hn (.int .i64 ((cnt L).getD n 0 + 1))
  rw [Nat.zero_add] at hs
  exact Wr.below (hs.congr (fun j _ => out_more L n hn j)) (Below.refl _ _).drew

theorem make18 (w : World) : (Instr.makeSlice 24 (.int .i64 18) (.int .i64 18)).run Tryz.prog w = .ok (.slice (some ⟨w.heap.size, 0, none⟩) 18 18) (w.alloc (.cells (madeCells #[.int .i64 0] 18) 3)) :=
  run_make_row' (P := Tryz.prog) 24 3 (.int .i64 0) 8 Tryz.underlying24 info3 rfl .i64 .i64 18 (by decide) (by decide) w

theorem out_new (w : World) : OutW (w.alloc (.cells (madeCells #[.int .i64 0] 18) 3)) w.heap.size w.heap.size [] :=
  (wr_made w (.int .i64 0) 18 3).congr (fun i hi => by
    rw [cnt_at [] i hi]
    rfl)

theorem set_row {w : World} {g n b : Nat} {xs : List Value} {v : Value} (h : Row w b xs) (hn : g ≠ b) : Row (w.setCell ⟨g, n, none⟩ v).drew b xs := by
  have h2 := h.kept (kept_set w g n v) (fun e => hn e.symm)
  exact h2.below (Below.refl _ _).drew h2.lt
theorem set_wr {w : World} {g n B : Nat} {a : Option Addr} {m : Nat} {f : Nat → Value} {v : Value} (h : Wr w B a m f) (hn : g < B) : Wr (w.setCell ⟨g, n, none⟩ v).drew B a m f := by
  have h2 := h.move (kept_set w g n v) (fun b hb e => by have := Wr.foot_ge h hb; omega)
  exact Wr.below h2 (Below.refl _ _).drew

set_option maxRecDepth 100000 in
set_option maxHeartbeats 4000000 in
theorem sCounts (R : ByteArray → Int × Nat) (hR : Reads R) (w : World) (a : Option Addr) (cap : Nat) (l : List ByteArray) (S : Strs w a l) (hl : l.length ≤ 1048576) (hz : ∀ s ∈ l, s.size ≤ 1048576) :
    Calls Tryz.prog 8 #[.slice a l.length cap] w fun e w' => ∃ a' c', e = .returned (.slice a' (counts R l).length c') ∧ IntsW w' w.heap.size a' (counts R l) ∧ Below w.heap.size w w' := by
  have HR := hid hR
  have HS := hid S
  have HZm := hid hz
  clear hR S hz
  go_enter Tryz.func8, Tryz.ntmps8
  go_wp2_with fail
  refine (sPoolOk R HR.out w a cap l HS.out hl HZm.out).mono ?_
  rintro e w1 ⟨rfl, b1⟩
  have HB1 := hid b1
  clear b1
  cases hp : poolOk R l with
  | false =>
    have HE : Hid (counts R l = []) := by rw [Hid, counts, hp]; rfl
    have HBf := hid (HB1.out.alloc HB1.out.size (.cells #[] 3))
    clear hp
    go_wp2
    go_ret
    rw [HE.out]
    exact ⟨_, _, rfl, fun i hi => (by cases hi), HBf.out⟩
  | true =>
    have h34 := pool_len' hp
    have HE : Hid (counts R l = cnt (holdL R l)) := by rw [Hid, counts, hp]; rfl
    have HZ := hid (getD_size HZm.out)
    have HV := hid (fun i hi => pool_vol hp i hi)
    have HF := hid (fun i hi => pool_frees hp i hi)
    have HVL := hid (fun n hn => volsUp_len HR.out HZm.out hp n hn)
    have HFL := hid (fun n hn => freesUp_len HR.out hp n hn)
    obtain ⟨b, o, rfl, _⟩ := HS.out 0 (by omega)
    have HCell := hid (cells34 HS.out h34)
    have hmk := make18
    have HO1 := hid (out_new w1)
    have B2 : Below w1.heap.size w1 (w1.alloc (.cells (madeCells #[.int .i64 0] 18) 3)) := (Below.refl _ _).alloc (Nat.le_refl _) _
    have HB2 := hid (HB1.out.trans (B2.mono HB1.out.size))
    have HG : Hid (w.heap.size ≤ w1.heap.size) := HB1.out.size
    clear B2 hp hl
    rw [h34]
    clear h34 HS
    go_wp2
    obtain ⟨wz, hwz⟩ : ∃ wz, w1.alloc (.cells (madeCells #[.int .i64 0] 18) 3) = wz := ⟨_, rfl⟩
    rw [hwz] at HO1 HB2
    try rw [hwz]
    clear hwz hmk
    obtain ⟨g, hgg⟩ : ∃ g, w1.heap.size = g := ⟨_, rfl⟩
    rw [hgg] at HO1 HG
    try rw [hgg]
    clear hgg
    go_loopw [4] (fun i wr => ∃ m : Nat, m ≤ 4 ∧ i = .int .i64 (m : Int) ∧ Hid (OutW wr g g (volsUp R l m)) ∧ Hid (Below w.heap.size w wr)) (fun i _ => 4 - (intOf i).toNat)
    case atStart => exact ⟨0, Nat.zero_le _, rfl, HO1, HB2⟩
    case round =>
      obtain ⟨m, hm, rfl, HO, HB⟩ := hrel
      clear HO1
      have hvl := HVL.out m hm
      by_cases hlt : m < 4
      · obtain ⟨⟨h, e, on, M⟩, hq⟩ := HV.out m hlt
        have HM := hid (vol_ok HR.out (HZ.out _) hq)
        have HSu : Hid (volsUp R l (m + 1) = volsUp R l m ++ ups M) := by rw [Hid, volsUp_succ]; unfold volL; rw [hq]
        have hgr := (HO.out.at_ 0 (by decide)).2.2.2
        generalize volsUp R l m = L at *
        go_wp2_with fail
        refine (Sector.spec_sector 3 (m : Int) wr).mono ?_
        rintro e' w2 ⟨rfl, bs⟩
        have HB2 := hid (HB.out.trans (bs.mono HB.out.size))
        have HO2 : Hid (OutW w2 g g L) := Wr.below HO.out bs
        have hs2 := bs.size
        clear bs HO
        rw [sec3 m hlt]
        obtain ⟨p, hp⟩ : ∃ p : Nat, p = 9 + m := ⟨_, rfl⟩
        rw [← hp] at hq ⊢
        have hl : (p : Int) < 34 := by omega
        have hc := HCell.out w2 HB2.out p (by omega)
        have hz := HZ.out p
        obtain ⟨sa, hsa⟩ : ∃ s, s = l.getD p ByteArray.empty := ⟨_, rfl⟩
        rw [← hsa] at hc hz hq
        have HQ := hid hq
        clear hp hsa hq
        go_wp2_with fail
        refine (sVolAt R HR.out sa hz HQ.out w2).mono ?_
        rintro e' w3 ⟨va, vc, rfl, hI3, b3⟩
        have HB3 := hid (HB2.out.trans (b3.mono HB2.out.size))
        have HO3 : Hid (OutW w3 g g L) := Wr.below HO2.out b3
        have HI3 : Hid (IntsW w3 w2.heap.size va M) := by
          obtain ⟨_, _, e, hx⟩ := hI3.w
          cases e
          exact hx
        have hs3 := b3.size
        clear b3 hc hz hI3 HO2
        obtain ⟨w4, hw4, e4, A4, B4⟩ := one_new w3 [.int .i64 h, .int .i64 e, .bool on, .slice va M.length vc] 49
        have HA4 := hid A4
        have HB4 := hid (HB3.out.trans (B4.mono HB3.out.size))
        have HO4 : Hid (OutW w4 g g L) := Wr.below HO3.out B4
        have HI4 : Hid (IntsW w4 w2.heap.size va M) := Wr.below HI3.out B4
        clear A4 B4 e4 HI3 HO3
        have HM4 : Hid (M.length = 4) := HM.out.1
        have hM9 : M.length ≤ 900 := by have := HM.out.1; omega
        have HMb := hid HM.out.2
        have hgx : g < w2.heap.size := by omega
        have hgb : g ≠ w3.heap.size := by omega
        clear HM
        go_wp2_with fail
        try simp only [hw4]
        clear hw4
        obtain ⟨bx, hbx⟩ : ∃ bx, w3.heap.size = bx := ⟨_, rfl⟩
        rw [hbx] at HA4 hgb
        try rw [hbx]
        clear hbx
        obtain ⟨cx, hcx⟩ : ∃ cx, w2.heap.size = cx := ⟨_, rfl⟩
        rw [hcx] at HI4 hgx
        clear hcx
        go_loopw [7] (fun i wr => ∃ k : Nat, k ≤ M.length ∧ i = .int .i64 (k : Int) ∧ Hid (OutW wr g g (L ++ ups (M.take k))) ∧ Hid (IntsW wr cx va M) ∧ Hid (Row wr bx [.int .i64 h, .int .i64 e, .bool on, .slice va M.length vc]) ∧ Hid (Below w.heap.size w wr)) (fun i _ => M.length - (intOf i).toNat)
        case atStart =>
          refine ⟨0, Nat.zero_le _, rfl, ?_, HI4, HA4, HB4⟩
          show OutW _ _ _ (L ++ [])
          rw [List.append_nil]
          exact HO4.out
        case round =>
          obtain ⟨k, hk, rfl, HOk, HIk, HAk, HBk⟩ := hrel
          clear HI4 HA4 HB4 HO4
          have k2 := HAk.out.c 3 rfl
          by_cases hlk : k < M.length
          · obtain ⟨vb, vo, rfl, _, hcm, _⟩ := HIk.out k hlk
            replace hcm : _ = some (Value.int .i64 (M.getD k 0)) := hcm
            have hxb := HMb.out (M.getD k 0) (by simp [List.getD, hlk])
            have HU := hid (ups_take M k hlk)
            generalize M.getD k 0 = x at *
            by_cases hx : 0 ≤ x
            · obtain ⟨n, rfl⟩ : ∃ n : Nat, x = (n : Int) := ⟨x.toNat, by omega⟩
              have hn : n < 18 := by omega
              have hni : (n : Int) < 18 := by omega
              have HU2 : Hid (L ++ ups (M.take (k + 1)) = (L ++ ups (M.take k)) ++ [(n : Int)]) := by rw [Hid, HU.out, if_pos hx, List.append_assoc]
              have hul := ups_len (M.take k)
              rw [List.length_take] at hul
              have hcb := cnt_bd (L ++ ups (M.take k)) n hn
              rw [List.length_append] at hcb
              have HM4' := HM4.out
              have HO5 := hid (out_set HOk.out n hn)
              obtain ⟨hco, hfo, _, _⟩ := HOk.out.at_ n hn
              generalize (cnt (L ++ ups (M.take k))).getD n 0 = c at *
              have hcb2 : 0 ≤ c ∧ c + 1 ≤ 9223372036854775807 := by omega
              have HI5 := hid (set_wr (n := n) (v := .int .i64 (c + 1)) HIk.out hgx)
              have HA5 := hid (set_row (n := n) (v := .int .i64 (c + 1)) HAk.out hgb)
              have HB5 := hid ((below_set HBk.out g n (.int .i64 (c + 1)) HG.out).drew)
              clear hul HU hcb HM4' HOk HIk HAk HBk
              go_wp2
              go_region
              go_wp2
              exact ⟨⟨k + 1, by omega, by go_num, by rw [HU2.out]; exact HO5, HI5, HA5, HB5⟩, by simp [intOf]; omega⟩
            · have HU2 : Hid (L ++ ups (M.take (k + 1)) = L ++ ups (M.take k)) := by rw [Hid, HU.out, if_neg hx, List.append_nil]
              clear HU
              go_wp2
              exact ⟨⟨k + 1, by omega, by go_num, by rw [HU2.out]; exact HOk, HIk, HAk, HBk⟩, by simp [intOf]; omega⟩
          · obtain rfl : k = M.length := by omega
            have HO5 : Hid (OutW wr g g (volsUp R l (m + 1))) := by have := HOk.out; rw [List.take_length] at this; rw [Hid, HSu.out]; exact this
            go_wp2
            exact ⟨⟨m + 1, by omega, by go_num, HO5, HBk⟩, by simp [intOf]; omega⟩
      · obtain rfl : m = 4 := by omega
        obtain ⟨wo, hwo⟩ : ∃ wo, wo = wr := ⟨_, rfl⟩
        subst hwo
        have ho0 := HO.out
        have e0 : volsUp R l 4 = volsUp R l 4 ++ freesUp R l 0 := (List.append_nil _).symm
        rw [e0] at ho0
        have HO0 := hid ho0
        clear ho0 e0
        have HBo := HB
        clear HO HB hlt hm
        simp only [lit4]
        go_wp2
        go_loopw [8] (fun i wr => ∃ m : Nat, m ≤ 3 ∧ i = .int .i64 (m : Int) ∧ Hid (OutW wr g g (volsUp R l 4 ++ freesUp R l m)) ∧ Hid (Below w.heap.size w wr)) (fun i _ => 3 - (intOf i).toNat)
        case atStart => exact ⟨0, Nat.zero_le _, rfl, HO0, HBo⟩
        case round =>
          obtain ⟨m, hm, rfl, HO, HB⟩ := hrel
          clear HO0
          have hfl := HFL.out m hm
          by_cases hlt : m < 3
          · obtain ⟨M, hq⟩ := HF.out m hlt
            have HM := hid (frees_ok HR.out hq)
            have HSu : Hid (volsUp R l 4 ++ freesUp R l (m + 1) = (volsUp R l 4 ++ freesUp R l m) ++ M) := by rw [Hid, freesUp_succ]; unfold freeL; rw [hq, List.append_assoc]
            have hlen : (volsUp R l 4 ++ freesUp R l m).length ≤ 60 := by rw [List.length_append]; omega
            have hgr := (HO.out.at_ 0 (by decide)).2.2.2
            generalize volsUp R l 4 ++ freesUp R l m = L at *
            go_wp2_with fail
            refine (Sector.spec_sector 2 (m : Int) wr).mono ?_
            rintro e' w2 ⟨rfl, bs⟩
            have HB2 := hid (HB.out.trans (bs.mono HB.out.size))
            have HO2 : Hid (OutW w2 g g L) := Wr.below HO.out bs
            have hs2 := bs.size
            clear bs HO
            rw [sec2 m hlt]
            obtain ⟨p, hp⟩ : ∃ p : Nat, p = 6 + m := ⟨_, rfl⟩
            rw [← hp] at hq ⊢
            have hl : (p : Int) < 34 := by omega
            have hc := HCell.out w2 HB2.out p (by omega)
            have hz := HZ.out p
            obtain ⟨sa, hsa⟩ : ∃ s, s = l.getD p ByteArray.empty := ⟨_, rfl⟩
            rw [← hsa] at hc hz hq
            have HQ := hid hq
            clear hp hsa hq
            go_wp2_with fail
            refine (sFreesAt R HR.out sa hz HQ.out w2).mono ?_
            rintro e' w3 ⟨va, vc, rfl, hI3, b3⟩
            have HB3 := hid (HB2.out.trans (b3.mono HB2.out.size))
            have HO3 : Hid (OutW w3 g g L) := Wr.below HO2.out b3
            have HI3 : Hid (IntsW w3 w2.heap.size va M) := by
              obtain ⟨_, _, e, hx⟩ := hI3.w
              cases e
              exact hx
            clear b3 hc hz hI3 HO2
            have HM12 : Hid (M.length ≤ 12) := HM.out.1
            have hM9 : M.length ≤ 900 := by have := HM.out.1; omega
            have HMb := hid HM.out.2
            have hgx : g < w2.heap.size := by omega
            clear HM
            obtain ⟨cx, hcx⟩ : ∃ cx, w2.heap.size = cx := ⟨_, rfl⟩
            rw [hcx] at HI3 hgx
            clear hcx
            go_wp2
            go_loopw [11] (fun i wr => ∃ k : Nat, k ≤ M.length ∧ i = .int .i64 (k : Int) ∧ Hid (OutW wr g g (L ++ M.take k)) ∧ Hid (IntsW wr cx va M) ∧ Hid (Below w.heap.size w wr)) (fun i _ => M.length - (intOf i).toNat)
            case atStart =>
              refine ⟨0, Nat.zero_le _, rfl, ?_, HI3, HB3⟩
              show OutW _ _ _ (L ++ [])
              rw [List.append_nil]
              exact HO3.out
            case round =>
              obtain ⟨k, hk, rfl, HOk, HIk, HBk⟩ := hrel
              clear HI3 HB3 HO3
              by_cases hlk : k < M.length
              · obtain ⟨vb, vo, rfl, _, hcm, _⟩ := HIk.out k hlk
                replace hcm : _ = some (Value.int .i64 (M.getD k 0)) := hcm
                have hxb := HMb.out (M.getD k 0) (by simp [List.getD, hlk])
                have HU : Hid (M.take (k + 1) = M.take k ++ [M.getD k 0]) := by
                  rw [Hid, List.take_add_one]
                  simp [List.getD, hlk]
                generalize M.getD k 0 = x at *
                obtain ⟨n, rfl⟩ : ∃ n : Nat, x = (n : Int) := ⟨x.toNat, by omega⟩
                have hn : n < 18 := by omega
                have hni : (n : Int) < 18 := by omega
                have HU2 : Hid (L ++ M.take (k + 1) = (L ++ M.take k) ++ [(n : Int)]) := by rw [Hid, HU.out, List.append_assoc]
                have hcb := cnt_bd (L ++ M.take k) n hn
                rw [List.length_append, List.length_take] at hcb
                have HM12' := HM12.out
                have HO5 := hid (out_set HOk.out n hn)
                obtain ⟨hco, hfo, _, _⟩ := HOk.out.at_ n hn
                generalize (cnt (L ++ M.take k)).getD n 0 = c at *
                have hcb2 : 0 ≤ c ∧ c + 1 ≤ 9223372036854775807 := by omega
                have HI5 := hid (set_wr (n := n) (v := .int .i64 (c + 1)) HIk.out hgx)
                have HB5 := hid ((below_set HBk.out g n (.int .i64 (c + 1)) HG.out).drew)
                clear HU hcb HM12' HOk HIk HBk
                go_wp2
                go_region
                go_wp2
                exact ⟨⟨k + 1, by omega, by go_num, by rw [HU2.out]; exact HO5, HI5, HB5⟩, by simp [intOf]; omega⟩
              · obtain rfl : k = M.length := by omega
                have HO5 : Hid (OutW wr g g (volsUp R l 4 ++ freesUp R l (m + 1))) := by have := HOk.out; rw [List.take_length] at this; rw [Hid, HSu.out]; exact this
                go_wp2
                exact ⟨⟨m + 1, by omega, by go_num, HO5, HBk⟩, by simp [intOf]; omega⟩
          · obtain rfl : m = 3 := by omega
            have HF : Hid (IntsW wr w.heap.size (some ⟨g, 0, none⟩) (cnt (holdL R l))) := by
              unfold IntsW
              rw [Hid, cnt_len]
              exact HO.out.mono HG.out
            go_wp2
            go_ret
            rw [HE.out, cnt_len]
            exact ⟨_, _, rfl, HF.out, HB.out⟩

end Go.Proofs.YtlbfcnpnfoapnaaGreatDoor.Tr

namespace Go.Proofs.YtlbfcnpnfoapnaaGreatDoor.Re
open Go.RowKit Go.Proofs.YtlbfcnpnfoapnaaGreatDoor.Mem Go.Proofs.YtlbfcnpnfoapnaaGreatDoor.Sec Go.Proofs.YtlbfcnpnfoapnaaGreatDoor.Rd Go.Proofs.YtlbfcnpnfoapnaaGreatDoor.Pk
set_option linter.unusedVariables false

/-- A journal that is done. -/
def JD (t : Int) : Jn := ⟨t, true, 0, 0, 0, 0, ⟨#[]⟩, []⟩

/-- The sectors with some written, in order. -/
def outs (l : List ByteArray) (o : List Ou) : List ByteArray := o.foldl (fun l x => l.set x.sec.toNat x.text) l

def redone (J : Jn) (h : Nat) (l : List ByteArray) : List ByteArray := (outs l J.outs).set (3 + h) (JD J.txn).show

def redo1 (R : ByteArray → Int × Nat) (h : Nat) (l : List ByteArray) : List ByteArray × Bool :=
  match readJn R (l.getD (3 + h) ByteArray.empty) with
  | some J => if J.done then (l, false) else (redone J h l, true)
  | none => (l, false)

def redo (R : ByteArray → Int × Nat) (l : List ByteArray) (h : Int) : List ByteArray × Bool :=
  if poolOk R l then (if 0 ≤ h ∧ h < 3 then redo1 R h.toNat l else (l, false)) else ([], false)

def step (R : ByteArray → Int × Nat) (h : Nat) (l : List ByteArray) : List ByteArray := if poolOk R l then (redo1 R h l).1 else l

def steps (R : ByteArray → Int × Nat) (l : List ByteArray) : Nat → List ByteArray
  | 0 => l
  | k + 1 => step R k (steps R l k)

def settle (R : ByteArray → Int × Nat) (l : List ByteArray) : List ByteArray := if poolOk R l then steps R l 3 else []

theorem outs_length (o : List Ou) : ∀ l, (outs l o).length = l.length := by
  induction o with
  | nil => intro l; rfl
  | cons x o ih => intro l; show (outs (l.set x.sec.toNat x.text) o).length = _; rw [ih, List.length_set]

theorem outs_take (l : List ByteArray) (o : List Ou) (k : Nat) (h : k < o.length) : outs l (o.take (k + 1)) = (outs l (o.take k)).set (o.getD k Ou.none).sec.toNat (o.getD k Ou.none).text := by
  unfold outs
  rw [List.take_add_one, List.foldl_append]
  simp [List.getD, h]

theorem outs_size {n : Nat} (o : List Ou) (ho : ∀ x ∈ o, x.text.size ≤ n) : ∀ l : List ByteArray, (∀ s ∈ l, s.size ≤ n) → ∀ s ∈ outs l o, s.size ≤ n := by
  induction o with
  | nil => intro l h; exact h
  | cons x o ih =>
    intro l h
    refine ih (fun y hy => ho y (List.mem_cons_of_mem _ hy)) _ (fun s hs => ?_)
    rcases List.mem_or_eq_of_mem_set hs with hs | rfl
    · exact h s hs
    · exact ho x (List.mem_cons_self ..)

theorem readJn_is {R : ByteArray → Int × Nat} {s : ByteArray} {J : Jn} (h : readJn R s = some J) : J.show = s := by
  unfold readJn at h
  split at h
  · split at h
    · rename_i e
      simp only [Option.some.injEq] at h
      subst h
      exact e
    · cases h
  · cases h

theorem readJn_ok {R : ByteArray → Int × Nat} (hR : Reads R) {s : ByteArray} {J : Jn} (hs : s.size ≤ 1048576) (h : readJn R s = some J) : J.ok = true := by
  cases e : J.ok with
  | true => rfl
  | false =>
    have h1 := readJn_is h
    unfold Jn.show at h1
    rw [e] at h1
    have h2 : s.size = 0 := by rw [← h1]; rfl
    rw [readJn_short R hR s (by omega) hs] at h
    cases h

theorem open_outs {J : Jn} (h : J.ok = true) (hd : J.done = false) : (∀ i, i < J.outs.length → outAt J.outs i) ∧ J.outs.length ≤ 8 ∧ 0 ≤ J.txn ∧ J.txn ≤ 1000000 := by
  rw [jok_not hd, Bool.and_eq_true, Bool.and_eq_true, Bool.and_eq_true] at h
  obtain ⟨h0, _, h1, h2⟩ := h
  have h0 := of_decide_eq_true h0
  exact ⟨(outsOk_iff _).1 h2, (of_decide_eq_true h1).2, by omega, h0.2⟩

theorem outs_small {o : List Ou} (h : ∀ i, i < o.length → outAt o i) : ∀ x ∈ o, x.text.size ≤ 60 := by
  intro x hx
  obtain ⟨i, hi, rfl⟩ := List.mem_iff_getElem.1 hx
  have := (h i hi).2.2
  simp [List.getD, hi] at this
  omega

theorem JD_size (t : Int) : ((JD t).show).size ≤ 1048576 := by
  have h := head_size (JD t) (by show (0 : Nat) ≤ 16; omega)
  unfold Jn.show
  split
  · have h2 : (outsS (JD t).outs).size = 0 := rfl
    unfold summed
    rw [ByteArray.size_append, Fix.fxS_size, ByteArray.size_append, h2]
    omega
  · exact Nat.zero_le _

theorem JD_small (t : Int) : (JD t).Small := ⟨by show (0 : Nat) ≤ _; omega, by show (0 : Nat) ≤ _; omega, by intro x hx; cases hx⟩

theorem redone_length (J : Jn) (h : Nat) (l : List ByteArray) : (redone J h l).length = l.length := by unfold redone; rw [List.length_set, outs_length]

theorem redone_size {J : Jn} (h : Nat) {l : List ByteArray} (hj : J.ok = true) (hd : J.done = false) (hl : ∀ s ∈ l, s.size ≤ 1048576) : ∀ s ∈ redone J h l, s.size ≤ 1048576 := by
  intro s hs
  unfold redone at hs
  rcases List.mem_or_eq_of_mem_set hs with hs | rfl
  · exact outs_size J.outs (fun x hx => by have := outs_small (open_outs hj hd).1 x hx; omega) l hl s hs
  · exact JD_size _

theorem redo1_length (R : ByteArray → Int × Nat) (h : Nat) (l : List ByteArray) : (redo1 R h l).1.length = l.length := by
  unfold redo1
  split
  · split
    · rfl
    · exact redone_length _ _ _
  · rfl

theorem redo1_size {R : ByteArray → Int × Nat} (hR : Reads R) (h : Nat) {l : List ByteArray} (hl : ∀ s ∈ l, s.size ≤ 1048576) : ∀ s ∈ (redo1 R h l).1, s.size ≤ 1048576 := by
  unfold redo1
  split
  · rename_i J e
    split
    · exact hl
    · rename_i hd
      exact redone_size h (readJn_ok hR (getD_size hl _) e) (by simpa using hd) hl
  · exact hl

theorem step_size {R : ByteArray → Int × Nat} (hR : Reads R) (h : Nat) {l : List ByteArray} (hl : ∀ s ∈ l, s.size ≤ 1048576) : ∀ s ∈ step R h l, s.size ≤ 1048576 := by
  unfold step; split
  · exact redo1_size hR h hl
  · exact hl

theorem step_length (R : ByteArray → Int × Nat) (h : Nat) (l : List ByteArray) : (step R h l).length = l.length := by
  unfold step; split
  · exact redo1_length R h l
  · rfl

theorem steps_size {R : ByteArray → Int × Nat} (hR : Reads R) {l : List ByteArray} (hl : ∀ s ∈ l, s.size ≤ 1048576) (k : Nat) : ∀ s ∈ steps R l k, s.size ≤ 1048576 := by
  induction k with
  | zero => exact hl
  | succ k ih => exact step_size hR k ih

theorem steps_length (R : ByteArray → Int × Nat) (l : List ByteArray) (k : Nat) : (steps R l k).length = l.length := by
  induction k with
  | zero => rfl
  | succ k ih => exact (step_length R k _).trans ih

theorem step_no {R : ByteArray → Int × Nat} {l : List ByteArray} (h : poolOk R l = false) (k : Nat) : step R k l = l := by unfold step; rw [h]; rfl
theorem step_yes {R : ByteArray → Int × Nat} {l : List ByteArray} (h : poolOk R l = true) (k : Nat) : step R k l = (redo1 R k l).1 := by unfold step; rw [h]; rfl

theorem steps_stay {R : ByteArray → Int × Nat} {l : List ByteArray} {k : Nat} (h : poolOk R (steps R l k) = false) (j : Nat) : steps R l (k + j) = steps R l k := by
  induction j with
  | zero => rfl
  | succ j ih =>
    show step R (k + j) (steps R l (k + j)) = _
    rw [ih, step_no h]

theorem steps_rest {R : ByteArray → Int × Nat} {l : List ByteArray} {k : Nat} (h : poolOk R (steps R l k) = false) (hk : k ≤ 3) : steps R l 3 = steps R l k := by
  have := steps_stay h (3 - k)
  rwa [show k + (3 - k) = 3 by omega] at this

theorem pool_len {R : ByteArray → Int × Nat} {l : List ByteArray} (h : poolOk R l = true) : l.length = 34 := by
  unfold poolOk at h
  rw [Bool.and_eq_true] at h
  exact of_decide_eq_true h.1

theorem pool_jn {R : ByteArray → Int × Nat} {l : List ByteArray} (h : poolOk R l = true) (k : Nat) (hk : k < 3) : ∃ J, readJn R (l.getD (3 + k) ByteArray.empty) = some J := by
  unfold poolOk at h
  rw [Bool.and_eq_true, List.all_eq_true] at h
  have := h.2 (3 + k) (List.mem_range.2 (by omega))
  rw [kind1 k hk] at this
  exact Option.isSome_iff_exists.1 this

theorem redo1_done {R : ByteArray → Int × Nat} {h : Nat} {l : List ByteArray} {J : Jn} (e : readJn R (l.getD (3 + h) ByteArray.empty) = some J) (hd : J.done = true) : redo1 R h l = (l, false) := by
  unfold redo1; rw [e]; simp only [hd, if_true]
theorem redo1_open {R : ByteArray → Int × Nat} {h : Nat} {l : List ByteArray} {J : Jn} (e : readJn R (l.getD (3 + h) ByteArray.empty) = some J) (hd : J.done = false) : redo1 R h l = (redone J h l, true) := by
  unfold redo1; rw [e]; simp only [hd]; rfl

theorem redo_no {R : ByteArray → Int × Nat} {l : List ByteArray} (hp : poolOk R l = false) (h : Int) : redo R l h = ([], false) := by unfold redo; rw [hp]; rfl
theorem redo_none {R : ByteArray → Int × Nat} {l : List ByteArray} (hp : poolOk R l = true) {h : Int} (hh : ¬ (0 ≤ h ∧ h < 3)) : redo R l h = (l, false) := by unfold redo; rw [hp, if_neg hh]; rfl
theorem redo_is {R : ByteArray → Int × Nat} {l : List ByteArray} (hp : poolOk R l = true) (h : Nat) (hh : h < 3) : redo R l (h : Int) = redo1 R h l := by
  unfold redo
  rw [hp, if_pos (show (0 : Int) ≤ (h : Int) ∧ (h : Int) < 3 by omega), Int.toNat_natCast]; rfl

theorem redo_length (R : ByteArray → Int × Nat) (l : List ByteArray) (h : Int) : (redo R l h).1.length ≤ 34 := by
  unfold redo
  split
  · rename_i e
    have := pool_len e
    split
    · rw [redo1_length]; omega
    · show l.length ≤ 34; omega
  · exact Nat.zero_le _

theorem settle_length (R : ByteArray → Int × Nat) (l : List ByteArray) : (settle R l).length ≤ 34 := by
  unfold settle
  split
  · rename_i e
    have := pool_len e
    rw [steps_length]; omega
  · exact Nat.zero_le _

/-- A text is stored. -/
theorem strsW_set {w : World} {B b off : Nat} {l : List ByteArray} (h : StrsW w B (some ⟨b, off, none⟩) l) (i : Nat) (hi : i < l.length) (s : ByteArray) :
    StrsW (w.setCell ⟨b, off + i, none⟩ (.string s)) B (some ⟨b, off, none⟩) (l.set i s) := by
  unfold StrsW at h ⊢
  rw [List.length_set]
  refine (h.set i hi (.string s)).congr (fun j hj => ?_)
  show (if j = i then Value.string s else .string (l.getD j ByteArray.empty)) = _
  by_cases e : j = i
  · subst e
    rw [if_pos rfl]
    simp [List.getD, hi]
  · rw [if_neg e]
    simp [List.getD, show ¬ i = j by omega]

end Go.Proofs.YtlbfcnpnfoapnaaGreatDoor.Re
