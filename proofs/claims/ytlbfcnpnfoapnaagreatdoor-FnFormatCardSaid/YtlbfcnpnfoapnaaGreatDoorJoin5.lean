/-
  The walk of spec.l6Redo: a journal done on sectors of one's own. No condition but texts of at most 2^20.
  The walks of spec.Redo and spec.Settle. No condition but texts and lists of at most 2^20.
  The walks of impl.copyTexts, impl.doneMark, the closure that writes a sector, and impl.replay. Condition: the tables of sixteen sums and of the kinds' sizes stand in their variables.
  The walk of impl.replay. Condition: the tables of sixteen sums and of the kinds' sizes stand in their variables.
  The walk of impl.Redo. Condition: the tables of sixteen sums and of the kinds' sizes and the error of a part that lacks stand in their variables.
  The walk of impl.Settle. Condition: the tables of sixteen sums and of the kinds' sizes and the error of a part that lacks stand in their variables.
  The walks of impl.Counts, of slices.Equal at []int, and of both RefsOk. Condition for impl: the tables of sixteen sums and of the kinds' sizes and the error of a part that lacks stand in their variables.
  The walks of spec.RefsOk and impl.RefsOk. Condition for impl: the tables of sixteen sums and of the kinds' sizes and the error of a part that lacks stand in their variables.
  The walks of spec.l7None, spec.NewPool and impl.NewPool. No condition.
  What Abstract answers, as data; and the walk of impl.Abstract. Condition: the tables of sixteen sums and of the kinds' sizes and the error of a part that lacks stand in their variables.
  Plain: what a new disk's sectors are; a row that a call makes by append. The walks of spec.l4NoMap and impl.noBlocks. No condition.
  Plain: a new disk's sectors are a pool's; what they say of volumes, of blocks and of groups. No condition.
-/
import Derived.Test.YtlbfcnpnfoapnaaGreatDoorJoin4
import Derived.Test.YtlbfcnpnfoapnaaGreatDoorAppRow
import Derived.Test.YtlbfcnpnfoapnaaGreatDoorJoin2
import Derived.Test.YtlbfcnpnfoapnaaGreatDoorSectorWalks
import Derived.Defers
import Derived.Tactics
import Derived.Tactics2
import Derived.Test.YtlbfcnpnfoapnaaGreatDoorJoin1
import Derived.BigQuiet
import Derived.Deep.RegionLaw
import Derived.Deep.RegionWith
import Derived.Test.YtlbfcnpnfoapnaaGreatDoorSecVol
import Derived.Test.YtlbfcnpnfoapnaaGreatDoorSecGroup
import Derived.Test.YtlbfcnpnfoapnaaGreatDoorSecFrees
namespace Go.Proofs.YtlbfcnpnfoapnaaGreatDoor.Re
open Go.RowKit Go.Proofs.YtlbfcnpnfoapnaaGreatDoor.Mem Go.Proofs.YtlbfcnpnfoapnaaGreatDoor.Sec Go.Proofs.YtlbfcnpnfoapnaaGreatDoor.Rd Go.Proofs.YtlbfcnpnfoapnaaGreatDoor.Pk
set_option linter.unusedVariables false

theorem infoS : (Tryz.prog.info? 9).map (fun i => (i.zero, i.size, i.bytes)) = some (some (.string ByteArray.empty), 1, 16) := by kernel_rfl

theorem news_sl {w : World} {ad : Addr} {l : List ByteArray} (S : Strs w (some ad) l) : Sl w (some ad) (l.length * 1) (fun i => (l.map Value.string).getD i undef) := by
  unfold Strs at S
  rw [Nat.mul_one]
  exact S.congr (fun i hi => by simp [List.getD, hi])

theorem news_one (l : List ByteArray) : ∀ u ∈ l.map Value.string, u.oneCell' = true := by
  intro u hu
  obtain ⟨s, _, rfl⟩ := List.mem_map.1 hu
  rfl

theorem row_strs {w : World} {B : Nat} {v : Value} {l : List ByteArray} {n : Nat} (h : RowO w B 9 1 v n ([] ++ l.map .string)) : ∃ a cap, v = .slice a l.length cap ∧ StrsW w B a l := by
  have hn := h.len
  simp at hn
  obtain ⟨a, cap, e, hw⟩ := RowO.wr h
  subst hn
  refine ⟨a, cap, e, ?_⟩
  unfold StrsW
  rw [Nat.mul_one] at hw
  exact hw.congr (fun i hi => by simp [List.getD, hi])

/-- Every cell of sectors of one's own. -/
theorem cellsW {w : World} {B b o : Nat} {l : List ByteArray} (S : StrsW w B (some ⟨b, o, none⟩) l) (i : Nat) (hi : i < l.length) : w.cell? ⟨b, o + i, none⟩ = some (.string (l.getD i ByteArray.empty)) ∧ w.frozen? ⟨b, o + i, none⟩ = false := by
  obtain ⟨b', o', e, _, hc, hf⟩ := S i hi
  cases e
  exact ⟨hc, hf⟩

theorem kdrew {S : Nat → Prop} {w w' : World} (h : Kept S w w') : Kept S w w'.drew := ⟨h.os, h.tape, h.output, h.size, h.block⟩

/-- The journal's own block and its list, while sectors are written. -/
structure Way (w wr : World) (B b off G : Nat) (J : Jn) (ad : Option Addr) (cp : Nat) (l : List ByteArray) : Prop where
  secs : StrsW wr B (some ⟨b, off, none⟩) l
  box : Row wr G (J.cells ad cp)
  outs : Ous wr ad J.outs
  kept : Kept (fun k => k = b) w wr

set_option maxRecDepth 100000 in
set_option maxHeartbeats 4000000 in
theorem l6Redo (R : ByteArray → Int × Nat) (hR : Reads R) (w : World) (B b off cap : Nat) (l : List ByteArray) (S : StrsW w B (some ⟨b, off, none⟩) l) (hp : poolOk R l = true) (hz : ∀ s ∈ l, s.size ≤ 1048576) (h : Nat) (hh : h < 3) :
    Calls Tryz.prog 65 #[.slice (some ⟨b, off, none⟩) 34 cap, .int .i64 (h : Int)] w fun e w' => e = .returned (.tuple #[.slice (some ⟨b, off, none⟩) 34 cap, .bool (redo1 R h l).2]) ∧ StrsW w' B (some ⟨b, off, none⟩) (redo1 R h l).1 ∧ Kept (fun k => k = b) w w' := by
  have hl := pool_len hp
  obtain ⟨J, hJ⟩ := pool_jn hp h hh
  have hok := readJn_ok hR (getD_size hz _) hJ
  have HR := hid hR
  have HS := hid S
  have HZ := hid (getD_size hz (3 + h))
  have HD := hid (@redo1_done R h l J hJ)
  have HO := hid (@redo1_open R h l J hJ)
  have HJ := hid hJ
  have HOk := hid hok
  have HL := hid hl
  have hbl : b < w.heap.size := (Wr.sl S).lt ⟨by omega, off, rfl⟩
  clear S hp hz hR hJ hok
  go_enter Tryz.func65, Tryz.ntmps65
  go_wp2_with fail
  refine (Sector.spec_sector 1 (h : Int) w).mono ?_
  rintro e w1 ⟨rfl, b1⟩
  rw [sec1 h hh]
  obtain ⟨p, hpp⟩ : ∃ p : Nat, p = 3 + h := ⟨_, rfl⟩
  have HP := hid hpp
  have hp34 : (p : Int) < 34 := by omega
  have HS1 : Hid (StrsW w1 B (some ⟨b, off, none⟩) l) := HS.out.below b1
  have HK1 : Hid (Kept (fun k => k = b) w w1) := Kept.of_below b1
  have hc := (cellsW HS1.out p (by omega)).1
  rw [← hpp] at HZ HJ
  rw [← hpp]
  clear hpp b1 HS
  obtain ⟨s, hs⟩ : ∃ s, s = l.getD p ByteArray.empty := ⟨_, rfl⟩
  rw [← hs] at hc HZ HJ
  clear hs
  go_wp2_with fail
  refine (sReadJournal R HR.out s HZ.out w1).mono ?_
  rintro e w2 ⟨J', ad, cp, ok, hi, rfl, hO, b2⟩
  have hJJ : J' = J ∧ J.outs.length ≤ 8 := by
    rcases hi with ⟨h1, h2, h3⟩ | ⟨h1, _⟩
    · rw [HJ.out] at h1
      cases h1
      exact ⟨rfl, h2⟩
    · rw [HJ.out] at h1; cases h1
  obtain ⟨rfl, ho8⟩ := hJJ
  obtain ⟨ad', cp', ea, hW⟩ := Or2.w hO
  cases ea
  have HF : Hid (∀ k, foot ad (J'.outs.length * 2) k → w1.heap.size ≤ k) := fun k hk => Wr.foot_ge hW hk
  have HOs : Hid (Ous w2 ad J'.outs) := Wr.sl hW
  have HS2 : Hid (StrsW w2 B (some ⟨b, off, none⟩) l) := HS1.out.below b2
  have HK2 : Hid (Kept (fun k => k = b) w w2) := (HK1.out.trans (Kept.of_below (S := fun k => k = b) b2)).mono (fun k _ x => by rcases x with x | x <;> exact x)
  have h12 := b2.size
  have h01 := HK1.out.size
  clear hi hO hW b2 HS1 HK1 hc HJ HZ
  obtain ⟨txn, dn, k, v, tt, at_, tx, o⟩ := J'
  simp only [] at HD HO ho8 HF HOs
  have HV : Hid (jnV ⟨txn, dn, k, v, tt, at_, tx, o⟩ ad cp = .agg #[.int .i64 txn, .bool dn, .int .i64 k, .int .i64 v, .int .i64 tt, .int .i64 at_, .string tx, .slice ad o.length cp]) := rfl
  rw [HV.out]
  obtain ⟨w3, hw3, ez3, A3, B3⟩ := one_new w2 [.int .i64 txn, .bool dn, .int .i64 k, .int .i64 v, .int .i64 tt, .int .i64 at_, .string tx, .slice ad o.length cp] 85
  have HS3 : Hid (StrsW w3 B (some ⟨b, off, none⟩) l) := HS2.out.below B3
  have HK3 : Hid (Kept (fun k => k = b) w w3) := (HK2.out.trans (Kept.of_below (S := fun k => k = b) B3)).mono (fun k _ x => by rcases x with x | x <;> exact x)
  have HO3 : Hid (Ous w3 ad o) := Sl.below HOs.out B3
  have HA3 := hid A3
  have a1 := A3.c 1 rfl
  clear A3 B3 HS2 HK2 HOs
  cases dn with
  | true =>
    have HE := hid (HD.out rfl)
    clear HD HO
    go_wp2
    go_ret2
    rw [HE.out]
    exact ⟨rfl, HS3.out, HK3.out⟩
  | false =>
    have HE := hid (HO.out rfl)
    have HAt := hid (open_outs HOk.out rfl).1
    have HRd : Hid (redone ⟨txn, false, k, v, tt, at_, tx, o⟩ h l = (outs l o).set (3 + h) (JD txn).show) := rfl
    simp only [] at HAt
    clear HD HO HOk
    have hG : w2.heap.size ≠ b := by omega
    go_wp2
    go_loopw [8] (fun i wr => ∃ m : Nat, m ≤ o.length ∧ i = .int .i64 (m : Int) ∧ Hid (StrsW wr B (some ⟨b, off, none⟩) (outs l (o.take m))) ∧ Hid (Kept (fun k => k = b) w3 wr)) (fun i _ => o.length - (intOf i).toNat)
    case atStart => exact ⟨0, Nat.zero_le _, rfl, HS3, Kept.refl _ _⟩
    case round =>
      obtain ⟨m, hm, rfl, HW, HKw⟩ := hrel
      have HOw : Hid (Ous wr ad o) := Sl.move HO3.out HKw.out (fun k hk x => by have := HF.out k hk; omega)
      have HAw := hid (HA3.out.kept HKw.out hG)
      have hw3r := HKw.out.size
      by_cases hlt : m < o.length
      · obtain ⟨bo, oo, rfl, c0, c1⟩ := Ous.at_ HOw.out m hlt
        have hat := HAt.out m hlt
        have HTk := hid (outs_take l o m hlt)
        have HLen : Hid ((outs l (o.take m)).length = 34) := (outs_length _ _).trans hl
        have hbo : bo ≠ b := by have := HF.out bo ⟨by omega, oo, rfl⟩; omega
        have a7 := HAw.out.c 7 rfl
        unfold outAt at hat
        generalize o.getD m Ou.none = x at c0 c1 hat HTk
        obtain ⟨xs, xt⟩ := x
        simp only [] at c0 c1 hat HTk
        have hx0 := hat.1.1
        have hx1 := hat.1.2
        clear hat
        obtain ⟨q, rfl⟩ : ∃ q : Nat, xs = (q : Int) := ⟨xs.toNat, by omega⟩
        have hq34 : (q : Int) < 34 := by omega
        rw [Int.toNat_natCast] at HTk
        obtain ⟨d0, d1⟩ := cellsW HW.out q (by have := HLen.out; omega)
        generalize (outs l (o.take m)).getD q ByteArray.empty = old at d0
        have HSet := hid (strsW_set HW.out q (by have := HLen.out; omega) xt)
        have HKs : Hid (Kept (fun k => k = b) w3 (wr.setCell ⟨b, off + q, none⟩ (.string xt))) := (HKw.out.trans (kept_set wr b (off + q) (.string xt))).mono (fun k _ x => by rcases x with x | x <;> exact x)
        go_wp2
        go_region
        all_goals (try go_wp2)
        all_goals exact ⟨⟨m + 1, by omega, by go_num, by rw [HTk.out]; exact HSet, kdrew HKs.out⟩, by simp [intOf]; omega⟩
      · obtain rfl : m = o.length := by omega
        have a7 := HAw.out.c 7 rfl
        have a0 := HAw.out.c 0 rfl
        have HLen : Hid ((outs l o).length = 34) := (outs_length _ _).trans hl
        rw [List.take_length] at HW
        have HSec : Hid (∀ w, Calls Tryz.prog 33 #[.int .i64 1, .int .i64 (h : Int)] w fun e w' => e = .returned (.int .i64 (p : Int)) ∧ Below w.heap.size w w') := fun w => by
          have hx := Sector.spec_sector 1 (h : Int) w
          rw [sec1 h hh, ← HP.out] at hx
          exact hx
        have HShow : Hid (∀ w, Calls Tryz.prog 87 #[.agg #[.int .i64 txn, .bool true, .int .i64 0, .int .i64 0, .int .i64 0, .int .i64 0, .string ⟨#[]⟩, .slice none 0 0]] w fun e w' => e = .returned (.string (JD txn).show) ∧ Below w.heap.size w w') := fun w => sShowJournal w (JD txn) none 0 (fun i hi => by cases hi) (JD_small txn)
        rw [← HP.out] at HRd
        generalize (JD txn).show = mk at HRd HShow
        have HPt : Hid (∀ w', Below wr.heap.size wr w' → w'.cell? ⟨w2.heap.size, 0, none⟩ = some (.int .i64 txn) ∧ (∃ old : ByteArray, w'.cell? ⟨b, off + p, none⟩ = some (.string old)) ∧ w'.frozen? ⟨b, off + p, none⟩ = false) := fun w' bw => by
          have hh3 := cellsW (Wr.below HW.out bw) p (by have := HLen.out; omega)
          exact ⟨(HAw.out.below bw HAw.out.lt).c 0 rfl, ⟨_, hh3.1⟩, hh3.2⟩
        have HEnd : Hid (∀ w', Below wr.heap.size wr w' → StrsW (w'.setCell ⟨b, off + p, none⟩ (.string mk)) B (some ⟨b, off, none⟩) ((outs l o).set p mk) ∧ Kept (fun k => k = b) w (w'.setCell ⟨b, off + p, none⟩ (.string mk))) := fun w' bw =>
          ⟨strsW_set (Wr.below HW.out bw) p (by have := HLen.out; omega) mk, ((((HK3.out.trans HKw.out).trans (Kept.of_below (S := fun k => k = b) bw)).trans (kept_set _ _ _ _)).mono (fun k _ x => by rcases x with ((x | x) | x) | x <;> exact x))⟩
        go_wp2
        go_region_with (first
          | (go_at_call 33; refine (HSec.out _).mono ?_; rintro e wx ⟨rfl, bx⟩; first | (have hch2 := hch.trans (bx.mono hch.size); obtain ⟨e0, ⟨old, e1⟩, e2⟩ := HPt.out _ hch2) | (have hch := undrew bx; obtain ⟨e0, ⟨old, e1⟩, e2⟩ := HPt.out _ hch))
          | (go_at_call 87; refine (HShow.out _).mono ?_; rintro e wx ⟨rfl, bx⟩; first | (have hch2 := hch.trans (bx.mono hch.size); obtain ⟨e0, ⟨old, e1⟩, e2⟩ := HPt.out _ hch2) | (have hch := undrew bx; obtain ⟨e0, ⟨old, e1⟩, e2⟩ := HPt.out _ hch)))
        all_goals (have HX := hid (HEnd.out _ hch2); clear hch hch2 bx)
        all_goals (try go_wp2)
        all_goals go_ret2
        all_goals (rw [HE.out, HRd.out]; exact ⟨rfl, HX.out.1, HX.out.2⟩)

end Go.Proofs.YtlbfcnpnfoapnaaGreatDoor.Re

namespace Go.Proofs.YtlbfcnpnfoapnaaGreatDoor.Re
open Go.RowKit Go.Proofs.YtlbfcnpnfoapnaaGreatDoor.Mem Go.Proofs.YtlbfcnpnfoapnaaGreatDoor.Sec Go.Proofs.YtlbfcnpnfoapnaaGreatDoor.Rd Go.Proofs.YtlbfcnpnfoapnaaGreatDoor.Pk
set_option linter.unusedVariables false

set_option maxRecDepth 100000 in
set_option maxHeartbeats 2000000 in
theorem sSettle (R : ByteArray → Int × Nat) (hR : Reads R) (w : World) (a : Option Addr) (cap : Nat) (l : List ByteArray) (S : Strs w a l) (hl : l.length ≤ 1048576) (hz : ∀ s ∈ l, s.size ≤ 1048576) :
    Calls Tryz.prog 39 #[.slice a l.length cap] w fun e w' => ∃ a' c', e = .returned (.slice a' (settle R l).length c') ∧ StrsW w' w.heap.size a' (settle R l) ∧ Below w.heap.size w w' := by
  have HR := hid hR
  have HS := hid S
  have HZ := hid hz
  clear hR S hz
  go_enter Tryz.func39, Tryz.ntmps39
  go_wp2_with fail
  refine (sPoolOk R HR.out w a cap l HS.out hl HZ.out).mono ?_
  rintro e w1 ⟨rfl, b1⟩
  have HB1 := hid b1
  have HS1 : Hid (Strs w1 a l) := Sl.below HS.out b1
  clear b1 HS
  cases hp : poolOk R l with
  | false =>
    have HE : Hid (settle R l = []) := by rw [Hid, settle, hp]; rfl
    have HBf := hid (HB1.out.alloc HB1.out.size (.cells #[] 9))
    clear hp
    go_wp2
    go_ret
    rw [HE.out]
    exact ⟨_, _, rfl, fun i hi => (by cases hi), HBf.out⟩
  | true =>
    have hlen := pool_len hp
    have HE : Hid (settle R l = steps R l 3) := by rw [Hid, settle, hp]; rfl
    have HP := hid hp
    have HSz := hid (steps_size HR.out HZ.out)
    have HSl : Hid (∀ k, (steps R l k).length = 34) := fun k => (steps_length R l k).trans hlen
    clear hp hl
    rw [hlen]
    obtain ⟨b, o, rfl, _⟩ := HS1.out 0 (by omega)
    obtain ⟨w2, hw2⟩ : ∃ w2, w1.alloc (.cells #[] 9) = w2 := ⟨_, rfl⟩
    have b2 : Below w1.heap.size w1 w2 := by rw [← hw2]; exact (Below.refl _ _).alloc (Nat.le_refl _) _
    have HB2 := hid (HB1.out.trans (b2.mono HB1.out.size))
    have HS2 : Hid (Strs w2 (some ⟨b, o, none⟩) l) := Sl.below HS1.out b2
    clear b2
    go_wp2_with (at_builtin; refine wpList_app 22 9 (.string ByteArray.empty) 1 16 Tryz.underlying22 infoS rfl (by decide) (by decide) w2 rfl (.tmp 9) (.tmp 10) rfl w.heap.size _ 0 [] rfl (Or.inl ⟨_, rfl, rfl, rfl⟩) ⟨b, o, none⟩ 34 cap (l.map .string) rfl (by simp [hlen]) (hlen ▸ news_sl HS2.out) (news_one l) (by decide) HB2.out.size ?_; intro v1 w3 r1 kk _; have HB3 := hid (HB2.out.trans (kk.below HB2.out.size (fun b _ x => by cases x))); obtain ⟨a1, c1, rfl, hW⟩ := row_strs r1; have HW := hid hW; obtain ⟨b1, o1, rfl, _⟩ := hW 0 (by omega); clear hW r1 kk; rw [hlen])
    have hbB : w.heap.size ≤ b1 := Wr.foot_ge HW.out ⟨by omega, o1, rfl⟩
    go_loopw [3, 4] (fun t i wr => ∃ m : Nat, m ≤ 3 ∧ i = .int .i64 (m : Int) ∧ t = .slice (some ⟨b1, o1, none⟩) 34 c1 ∧ Hid (StrsW wr w.heap.size (some ⟨b1, o1, none⟩) (steps R l m)) ∧ Hid (Below w.heap.size w wr)) (fun _ i _ => 3 - (intOf i).toNat)
    case atStart => exact ⟨0, Nat.zero_le _, rfl, rfl, HW, HB3⟩
    case round =>
      obtain ⟨m, hm, rfl, rfl, HWm, HBm⟩ := hrel
      by_cases hlt : m < 3
      · have HPo : Hid (Calls Tryz.prog 29 #[.slice (some ⟨b1, o1, none⟩) 34 c1] wr fun e w' => e = .returned (.bool (poolOk R (steps R l m))) ∧ Below wr.heap.size wr w') := by
          have hx := sPoolOk R HR.out wr (some ⟨b1, o1, none⟩) c1 (steps R l m) (Wr.sl HWm.out) (by rw [HSl.out]; decide) (HSz.out m)
          rw [HSl.out] at hx
          exact hx
        go_wp2_with fail
        refine HPo.out.mono ?_
        rintro e w4 ⟨rfl, b4⟩
        have HW4 : Hid (StrsW w4 w.heap.size (some ⟨b1, o1, none⟩) (steps R l m)) := HWm.out.below b4
        have HB4 := hid (HBm.out.trans (b4.mono HBm.out.size))
        clear b4
        cases hp : poolOk R (steps R l m) with
        | false =>
          have HX := hid (steps_rest hp hm)
          clear hp
          go_wp2
          go_ret
          rw [HE.out, HX.out, HSl.out]
          exact ⟨_, c1, rfl, HW4.out, HB4.out⟩
        | true =>
          have HX := hid (step_yes hp m)
          have HL6 := hid (l6Redo R HR.out w4 w.heap.size b1 o1 c1 (steps R l m) HW4.out hp (HSz.out m) m hlt)
          clear hp
          go_wp2_with fail
          refine HL6.out.mono ?_
          rintro e w5 ⟨rfl, hW5, k5⟩
          have HW5 : Hid (StrsW w5 w.heap.size (some ⟨b1, o1, none⟩) (steps R l (m + 1))) := by show StrsW _ _ _ (step R m (steps R l m)); rw [HX.out]; exact hW5
          have HB5 : Hid (Below w.heap.size w w5) := HB4.out.trans (k5.below HB4.out.size (fun k hk x => by omega))
          clear hW5 k5
          go_wp2
          exact ⟨⟨m + 1, by omega, by go_num, rfl, HW5, HB5⟩, by simp [intOf]; omega⟩
      · obtain rfl : m = 3 := by omega
        go_wp2
        go_ret
        rw [HE.out, HSl.out]
        exact ⟨_, c1, rfl, HWm.out, HBm.out⟩

end Go.Proofs.YtlbfcnpnfoapnaaGreatDoor.Re

namespace Go.Proofs.YtlbfcnpnfoapnaaGreatDoor.Re
open Go.RowKit Go.Proofs.YtlbfcnpnfoapnaaGreatDoor.Mem Go.Proofs.YtlbfcnpnfoapnaaGreatDoor.Sec Go.Proofs.YtlbfcnpnfoapnaaGreatDoor.Rd Go.Proofs.YtlbfcnpnfoapnaaGreatDoor.Pk
set_option linter.unusedVariables false

set_option maxRecDepth 100000 in
set_option maxHeartbeats 1000000 in
theorem copyTexts (w : World) (ad : Addr) (cap : Nat) (l : List ByteArray) (S : Strs w (some ad) l) (hl : l.length = 34) :
    Calls Tryz.prog 100 #[.slice (some ad) 34 cap] w fun e w' => ∃ b off c, e = .returned (.slice (some ⟨b, off, none⟩) 34 c) ∧ StrsW w' w.heap.size (some ⟨b, off, none⟩) l ∧ Below w.heap.size w w' := by
  have HN := hid (news_sl S)
  have H1 := hid (news_one l)
  have HL := hid hl
  clear S
  go_enter Tryz.func100, Tryz.ntmps100
  go_wp2_with (at_builtin; refine wpList_app 22 9 (.string ByteArray.empty) 1 16 Tryz.underlying22 infoS rfl (by decide) (by decide) w rfl (.const (.slice none 0 0)) (.tmp 3) rfl w.heap.size (.slice none 0 0) 0 [] rfl (Or.inl ⟨none, rfl, rfl, rfl⟩) ad 34 cap (l.map .string) rfl (by simp [hl]) (hl ▸ HN.out) H1.out (by decide) (Nat.le_refl _) ?_; intro v1 w1 r1 kk _; have HK := hid (kk.below (B := w.heap.size) (Nat.le_refl _) (fun b _ x => by cases x)); obtain ⟨a1, c1, rfl, hW⟩ := row_strs r1; have HW := hid hW; obtain ⟨b1, o1, rfl, _⟩ := hW 0 (by omega); clear hW r1 kk; rw [hl])
  go_ret
  exact ⟨b1, o1, ⟨c1, rfl⟩, HW.out, HK.out⟩

set_option maxRecDepth 100000 in
set_option maxHeartbeats 1000000 in
theorem doneMark (w : World) (h : Nat) (hh : h < 3) (t : Int) (T : Sums w) (K : Sector.Kinds w) (hg : 0 < w.heap.size) :
    Calls Tryz.prog 136 #[.int .i64 (h : Int), .int .i64 t] w fun e w' => e = .returned (.agg #[.int .i64 ((3 + h : Nat) : Int), .string (JD t).show]) ∧ Below w.heap.size w w' := by
  have HT := hid T
  have HK := hid K
  clear T K
  obtain ⟨wa, hwa, ez, A0, B0⟩ := one_new w [.int .i64 0, .string ⟨#[]⟩] 119
  have HShow : Hid (∀ w, Sums w → Calls Tryz.prog 79 #[.agg #[.int .i64 t, .bool true, .int .i64 0, .int .i64 0, .int .i64 0, .int .i64 0, .string ⟨#[]⟩, .slice none 0 0]] w fun e w' => e = .returned (.string (JD t).show) ∧ Below w.heap.size w w') := fun w hw => iShowJournal w (JD t) none 0 (fun i hi => by cases hi) (JD_small t) hw
  have HA := hid A0
  have HB := hid B0
  have HKa := hid (kinds_below HK.out hg B0)
  have HTa := hid (HT.out.below B0)
  clear A0 B0 HT HK
  go_enter Tryz.func136, Tryz.ntmps136
  go_wp2_with fail
  refine (Sector.impl_sector 1 (h : Int) _ (by first | exact HKa.out | (rw [hwa]; exact HKa.out))).mono ?_
  rintro e w1 ⟨rfl, hw1⟩
  obtain rfl := hw1.symm
  rw [sec1 h hh]
  go_wp2_with fail
  refine (HShow.out wa HTa.out).mono ?_
  rintro e w2 ⟨rfl, b2⟩
  have HA2 := hid (HA.out.below b2 HA.out.lt)
  have HB2 := hid (HB.out.trans (b2.mono HB.out.size))
  have c0 := HA2.out.c 0 rfl
  have c1 := HA2.out.c 1 rfl
  have f0 := HA2.out.f 0
  have f1 := HA2.out.f 1
  have HRw := hid ((HA2.out.set 0 (.int .i64 ((3 + h : Nat) : Int))).set 1 (.string (JD t).show))
  have HBf := hid (((HB2.out.setCell (p := ⟨w.heap.size, 0, none⟩) (Nat.le_refl _) (.int .i64 ((3 + h : Nat) : Int))).setCell (p := ⟨w.heap.size, 1, none⟩) (Nat.le_refl _) (.string (JD t).show)))
  clear b2 HA HB
  go_wp2
  refine bodyPost_ret (results_row rfl _ _ w.heap.size [.int .i64 ((3 + h : Nat) : Int), .string (JD t).show] _ rfl HRw.out Tryz.underlying119 rfl (by kernel_rfl)) rfl ?_
  exact ⟨rfl, HBf.out⟩

set_option maxRecDepth 100000 in
set_option maxHeartbeats 1000000 in
theorem writes (w : World) (B g b off cap : Nat) (l : List ByteArray) (S : StrsW w B (some ⟨b, off, none⟩) l) (hl : l.length = 34) (hg : w.cell? ⟨g, 0, none⟩ = some (.slice (some ⟨b, off, none⟩) 34 cap)) (n : Nat) (hn : n < 34) (t : ByteArray) :
    Calls Tryz.prog 103 #[.agg #[.int .i64 (n : Int), .string t], .pointer (some ⟨g, 0, none⟩)] w fun e w' => e = .returned (.tuple #[]) ∧ StrsW w' B (some ⟨b, off, none⟩) (l.set n t) ∧ Kept (fun k => k = b) w w' := by
  have hgl := World.block_lt_of_cell? w _ hg
  have hbl : b < w.heap.size := (Wr.sl S).lt ⟨by omega, off, rfl⟩
  have hn' : (n : Int) < 34 := by omega
  obtain ⟨wa, hwa, ez, A0, B0⟩ := one_new w [.int .i64 (n : Int), .string t] 119
  have hga := (B0.cell (p := ⟨g, 0, none⟩) hgl).trans hg
  have HS : Hid (StrsW wa B (some ⟨b, off, none⟩) l) := Wr.below S B0
  obtain ⟨hc, hf⟩ := cellsW HS.out n (by omega)
  have a0 := A0.c 0 rfl
  have a1 := A0.c 1 rfl
  have HSet := hid (strsW_set HS.out n (by omega) t)
  have HK : Hid (Kept (fun k => k = b) w (wa.setCell ⟨b, off + n, none⟩ (.string t))) := ((Kept.of_below (S := fun k => k = b) B0).trans (kept_set wa b (off + n) (.string t))).mono (fun k _ x => by rcases x with x | x <;> exact x)
  clear S hg A0 B0 HS
  go_enter Tryz.func103, Tryz.ntmps103
  go_wp2
  go_end0
  exact ⟨rfl, HSet.out, HK.out⟩

set_option maxRecDepth 100000 in
set_option maxHeartbeats 1000000 in
theorem writesD (w : World) (B g b off cap : Nat) (l : List ByteArray) (S : StrsW w B (some ⟨b, off, none⟩) l) (hl : l.length = 34) (hg : w.cell? ⟨g, 0, none⟩ = some (.slice (some ⟨b, off, none⟩) 34 cap)) (n : Nat) (hn : n < 34) (t : ByteArray) (u : FrameMode) :
    CallsD Tryz.prog 103 #[.agg #[.int .i64 (n : Int), .string t], .pointer (some ⟨g, 0, none⟩)] u w fun e u' w' => u' = u ∧ e = .returned (.tuple #[]) ∧ StrsW w' B (some ⟨b, off, none⟩) (l.set n t) ∧ Kept (fun k => k = b) w w' := by
  have hgl := World.block_lt_of_cell? w _ hg
  have hbl : b < w.heap.size := (Wr.sl S).lt ⟨by omega, off, rfl⟩
  have hn' : (n : Int) < 34 := by omega
  obtain ⟨wa, hwa, ez, A0, B0⟩ := one_new w [.int .i64 (n : Int), .string t] 119
  have hga := (B0.cell (p := ⟨g, 0, none⟩) hgl).trans hg
  have HS : Hid (StrsW wa B (some ⟨b, off, none⟩) l) := Wr.below S B0
  obtain ⟨hc, hf⟩ := cellsW HS.out n (by omega)
  have a0 := A0.c 0 rfl
  have a1 := A0.c 1 rfl
  have HSet := hid (strsW_set HS.out n (by omega) t)
  have HK : Hid (Kept (fun k => k = b) w (wa.setCell ⟨b, off + n, none⟩ (.string t))) := ((Kept.of_below (S := fun k => k = b) B0).trans (kept_set wa b (off + n) (.string t))).mono (fun k _ x => by rcases x with x | x <;> exact x)
  clear S hg A0 B0 HS
  go_enter_d Tryz.func103, Tryz.ntmps103
  go_wp2
  go_end0
  exact ⟨rfl, HSet.out, HK.out⟩

end Go.Proofs.YtlbfcnpnfoapnaaGreatDoor.Re

namespace Go.Proofs.YtlbfcnpnfoapnaaGreatDoor.Re
open Go.RowKit Go.Proofs.YtlbfcnpnfoapnaaGreatDoor.Mem Go.Proofs.YtlbfcnpnfoapnaaGreatDoor.Sec Go.Proofs.YtlbfcnpnfoapnaaGreatDoor.Rd Go.Proofs.YtlbfcnpnfoapnaaGreatDoor.Pk
set_option linter.unusedVariables false

set_option maxRecDepth 100000 in
set_option maxHeartbeats 2000000 in
theorem replay (w : World) (B g b off cap : Nat) (l : List ByteArray) (S : StrsW w B (some ⟨b, off, none⟩) l) (hl : l.length = 34) (hg : w.cell? ⟨g, 0, none⟩ = some (.slice (some ⟨b, off, none⟩) 34 cap)) (hgb : g ≠ b)
    (J : Jn) (ad : Option Addr) (cp : Nat) (hO : Ous w ad J.outs) (hok : J.ok = true) (hd : J.done = false) (hf : ∀ k, foot ad (J.outs.length * 2) k → k ≠ b) (h : Nat) (hh : h < 3) (T : Sums w) (K : Sector.Kinds w) (hgk : 0 < w.heap.size) :
    Calls Tryz.prog 102 #[jnV J ad cp, .int .i64 (h : Int), .func (.func 103) #[] #[.pointer (some ⟨g, 0, none⟩)]] w fun e w' => e = .returned (.tuple #[]) ∧ StrsW w' B (some ⟨b, off, none⟩) (redone J h l) ∧ Kept (fun k => k = b) w w' := by
  have hgl := World.block_lt_of_cell? w _ hg
  have hbl : b < w.heap.size := (Wr.sl S).lt ⟨by omega, off, rfl⟩
  have hoo := open_outs hok hd
  have HAt := hid hoo.1
  have ho8 := hoo.2.1
  have HRd : Hid (redone J h l = (outs l J.outs).set (3 + h) (JD J.txn).show) := rfl
  obtain ⟨txn, dn, k, v, t, at_, s, o⟩ := J
  simp only [] at HAt ho8 HRd hd hO hf
  subst hd
  have HV : Hid (jnV ⟨txn, false, k, v, t, at_, s, o⟩ ad cp = .agg #[.int .i64 txn, .bool false, .int .i64 k, .int .i64 v, .int .i64 t, .int .i64 at_, .string s, .slice ad o.length cp]) := rfl
  rw [HV.out]
  obtain ⟨wa, hwa, ez, A0, B0⟩ := one_new w [.int .i64 txn, .bool false, .int .i64 k, .int .i64 v, .int .i64 t, .int .i64 at_, .string s, .slice ad o.length cp] 85
  have HA := hid A0
  have HB0 := hid B0
  have HS := hid (Wr.below S B0)
  have HOu : Hid (Ous wa ad o) := Sl.below hO B0
  have HF := hid hf
  have HGc := hid ((B0.cell (p := ⟨g, 0, none⟩) hgl).trans hg)
  have HT := hid (T.below B0)
  have HK := hid (kinds_below K hgk B0)
  have a0 := A0.c 0 rfl
  clear A0 B0 S hO hf hg T K hoo hok hgk
  go_enter_defers Tryz.func102, Tryz.ntmps102
  go_wp2_with fail
  refine (doneMark wa h hh txn HT.out HK.out (by omega)).mono ?_
  rintro e w1 ⟨rfl, b1⟩
  have HA1 := hid (HA.out.below b1 HA.out.lt)
  have HS1 : Hid (StrsW w1 B (some ⟨b, off, none⟩) l) := Wr.below HS.out b1
  have HO1 : Hid (Ous w1 ad o) := Sl.below HOu.out b1
  have hz1 := b1.size
  have hgc1 : w1.cell? ⟨g, 0, none⟩ = some (.slice (some ⟨b, off, none⟩) 34 cap) := (b1.cell (p := ⟨g, 0, none⟩) (by show g < _; omega)).trans HGc.out
  have HG1 := hid hgc1
  have HK1 : Hid (Kept (fun k => k = b) w w1) := ((Kept.of_below (S := fun k => k = b) HB0.out).trans (Kept.of_below (S := fun k => k = b) b1)).mono (fun k _ x => by rcases x with x | x <;> exact x)
  have a7 := HA1.out.c 7 rfl
  clear b1 HA HS HOu HGc HB0 HT HK hgc1 a0
  generalize (JD txn).show = mk at *
  go_wp2
  go_loopw [16] (fun i wr => ∃ m : Nat, m ≤ o.length ∧ i = .int .i64 (m : Int) ∧ Hid (StrsW wr B (some ⟨b, off, none⟩) (outs l (o.take m))) ∧ Hid (Kept (fun k => k = b) w wr) ∧ Hid (wr.cell? ⟨g, 0, none⟩ = some (.slice (some ⟨b, off, none⟩) 34 cap)) ∧ Hid (Ous wr ad o)) (fun i _ => o.length - (intOf i).toNat)
  case atStart => exact ⟨0, Nat.zero_le _, rfl, HS1, HK1, HG1, HO1⟩
  case round =>
    obtain ⟨m, hm, rfl, HW, HKw, HGw, HOw⟩ := hrel
    by_cases hlt : m < o.length
    · obtain ⟨bo, oo, rfl, c0, c1⟩ := Ous.at_ HOw.out m hlt
      have hat := HAt.out m hlt
      have HTk := hid (outs_take l o m hlt)
      have HLen : Hid ((outs l (o.take m)).length = 34) := (outs_length _ _).trans hl
      unfold outAt at hat
      generalize o.getD m Ou.none = x at c0 c1 hat HTk
      obtain ⟨xs, xt⟩ := x
      simp only [] at c0 c1 hat HTk
      have hx0 := hat.1.1
      have hx1 := hat.1.2
      clear hat
      obtain ⟨q, rfl⟩ : ∃ q : Nat, xs = (q : Int) := ⟨xs.toNat, by omega⟩
      have hq34 : q < 34 := by omega
      rw [Int.toNat_natCast] at HTk
      obtain ⟨wx, hwx, ezx, Ax, Bx⟩ := one_new wr [.int .i64 (q : Int), .string xt] 119
      have x0 := Ax.c 0 rfl
      have x1 := Ax.c 1 rfl
      have HWx : Hid (StrsW wx B (some ⟨b, off, none⟩) (outs l (o.take m))) := Wr.below HW.out Bx
      have HGx := hid ((Bx.cell (p := ⟨g, 0, none⟩) (World.block_lt_of_cell? wr _ HGw.out)).trans HGw.out)
      have HOx : Hid (Ous wx (some ⟨bo, oo, none⟩) o) := Sl.below HOw.out Bx
      have HKx : Hid (Kept (fun k => k = b) w wx) := (HKw.out.trans (Kept.of_below (S := fun k => k = b) Bx)).mono (fun k _ x => by rcases x with x | x <;> exact x)
      clear Ax Bx
      go_wp2_with fail
      refine (writes wx B g b off cap _ HWx.out HLen.out HGx.out q hq34 xt).mono ?_
      rintro e w5 ⟨rfl, hW5, k5⟩
      have HW5 := hid hW5
      have HK5 : Hid (Kept (fun k => k = b) w w5) := (HKx.out.trans k5).mono (fun k _ x => by rcases x with x | x <;> exact x)
      have HG5 : Hid (w5.cell? ⟨g, 0, none⟩ = some (.slice (some ⟨b, off, none⟩) 34 cap)) := (cell_block (p := ⟨g, 0, none⟩) (k5.block g (World.block_lt_of_cell? wx _ HGx.out) hgb)).trans HGx.out
      have HO5 : Hid (Ous w5 (some ⟨bo, oo, none⟩) o) := Sl.move HOx.out k5 (fun k hk x => HF.out k hk x)
      clear hW5 k5
      go_wp2
      exact ⟨⟨m + 1, by omega, by go_num, by rw [HTk.out]; exact HW5, HK5, HG5, HO5⟩, by simp [intOf]; omega⟩
    · obtain rfl : m = o.length := by omega
      have HLen : Hid ((outs l o).length = 34) := (outs_length _ _).trans hl
      rw [List.take_length] at HW
      have hsec : 3 + (h : Int) = ((3 + h : Nat) : Int) := by omega
      go_wp2
      rw [hsec]
      refine leaves_cons (f := 103) (args := #[.agg #[.int .i64 ((3 + h : Nat) : Int), .string mk], .pointer (some ⟨g, 0, none⟩)]) (by simp) (by simp [go_sem]) ?_
      refine (writesD wr B g b off cap _ HW.out HLen.out HGw.out (3 + h) (by omega) mk .returning).mono ?_
      rintro e u' w6 ⟨rfl, rfl, hW6, k6⟩
      have HK6 : Kept (fun k => k = b) w w6 := (HKw.out.trans k6).mono (fun k _ x => by rcases x with x | x <;> exact x)
      refine ⟨_, results_none rfl _ _ _, rfl, ?_, HK6⟩
      rw [HRd.out]
      exact hW6

end Go.Proofs.YtlbfcnpnfoapnaaGreatDoor.Re

namespace Go.Proofs.YtlbfcnpnfoapnaaGreatDoor.Re
open Go.RowKit Go.Proofs.YtlbfcnpnfoapnaaGreatDoor.Mem Go.Proofs.YtlbfcnpnfoapnaaGreatDoor.Sec Go.Proofs.YtlbfcnpnfoapnaaGreatDoor.Rd Go.Proofs.YtlbfcnpnfoapnaaGreatDoor.Pk
set_option linter.unusedVariables false

set_option maxRecDepth 100000 in
set_option maxHeartbeats 2000000 in
theorem iRedo (R : ByteArray → Int × Nat) (hR : Reads R) (hTx : ∀ s : ByteArray, s.size ≤ maxLen → Tx s (R s)) (w : World) (a : Option Addr) (cap : Nat) (l : List ByteArray) (S : Strs w a l) (hl : l.length ≤ 1048576) (hz : ∀ s ∈ l, s.size ≤ 1048576) (u : TypeId) (pv : Value) (hL : Lacks w u pv) (T : Sums w) (K : Sector.Kinds w) (hg : 0 < w.heap.size) (h : Int) :
    Calls Tryz.prog 67 #[.slice a l.length cap, .int .i64 h] w fun e w' => ∃ a' c', e = .returned (.tuple #[.slice a' (redo R l h).1.length c', .bool (redo R l h).2]) ∧ StrsW w' w.heap.size a' (redo R l h).1 ∧ Below w.heap.size w w' := by
  have hmf : ∀ (fn : Fn) (first cap : Array Value) (w : World), (Instr.makeFunc fn first cap).run Tryz.prog w = .ok (.func fn first cap) w := fun _ _ _ _ => rfl
  have HR := hid hR
  have HTx := hid hTx
  have HS := hid S
  have HZ := hid hz
  have HL := hid hL
  have HT := hid T
  have HK := hid K
  have HG := hid hg
  clear hR hTx S hz hL T K hg
  go_enter Tryz.func67, Tryz.ntmps67
  go_wp2_with fail
  refine (iPoolOk R HR.out HTx.out w a cap l HS.out hl HZ.out u pv HL.out HT.out HK.out HG.out).mono ?_
  rintro e w1 ⟨rfl, b1⟩
  have HB1 := hid b1
  have HS1 : Hid (Strs w1 a l) := Sl.below HS.out b1
  clear b1 HS
  cases hp : poolOk R l with
  | false =>
    have HE := hid (redo_no hp h)
    clear hp
    go_wp2
    go_ret2
    rw [HE.out]
    exact ⟨none, 0, rfl, fun i hi => (by cases hi), HB1.out⟩
  | true =>
    have hlen := pool_len hp
    have HP := hid hp
    clear hp hl
    rw [hlen]
    obtain ⟨b, o, rfl, _⟩ := HS1.out 0 (by omega)
    go_wp2_with fail
    refine (copyTexts w1 ⟨b, o, none⟩ cap l HS1.out hlen).mono ?_
    rintro e w2 ⟨b2, o2, c2, rfl, hW2, bb2⟩
    obtain ⟨w3, hw3, ez3, A3, B3⟩ := one_new w2 [.slice (some ⟨b2, o2, none⟩) 34 c2] 22
    have HB3 := hid (HB1.out.trans ((bb2.trans (B3.mono bb2.size)).mono HB1.out.size))
    have HW3 : Hid (StrsW w3 w1.heap.size (some ⟨b2, o2, none⟩) l) := Wr.below hW2 B3
    have HA3 := hid A3
    have HS3 : Hid (Strs w3 (some ⟨b, o, none⟩) l) := Sl.below (Sl.below HS1.out bb2) B3
    have hb2 : w1.heap.size ≤ b2 := Wr.foot_ge hW2 ⟨by omega, o2, rfl⟩
    have hb2' : b2 < w2.heap.size := (Wr.sl hW2).lt ⟨by omega, o2, rfl⟩
    have h01 := HB1.out.size
    have a0 := A3.c 0 rfl
    clear hW2 bb2 A3 B3 HS1
    by_cases hh : 0 ≤ h ∧ h < 3
    · obtain ⟨n, rfl⟩ : ∃ n : Nat, h = (n : Int) := ⟨h.toNat, by omega⟩
      have hn : n < 3 := by omega
      have HE := hid (redo_is HP.out n hn)
      obtain ⟨J, hJ⟩ := pool_jn HP.out n hn
      have HOk := hid (readJn_ok HR.out (getD_size HZ.out _) hJ)
      have HD := hid (@redo1_done R n l J hJ)
      have HO := hid (@redo1_open R n l J hJ)
      have HJ := hid hJ
      have HZn := hid (getD_size HZ.out (3 + n))
      clear hJ hh
      go_wp2_with fail
      refine (isHost (n : Int) w3).mono ?_
      rintro e w4 ⟨rfl, hw4⟩
      obtain rfl := hw4.symm
      rw [decide_eq_true (show (0 : Int) ≤ (n : Int) ∧ (n : Int) < 3 by omega)]
      go_wp2_with fail
      refine (Sector.impl_sector 1 (n : Int) w3 (kinds_below HK.out HG.out HB3.out)).mono ?_
      rintro e w4 ⟨rfl, hw4⟩
      obtain rfl := hw4.symm
      rw [sec1 n hn]
      obtain ⟨p, hpp⟩ : ∃ p : Nat, p = 3 + n := ⟨_, rfl⟩
      have HPp := hid hpp
      have hp34 : (p : Int) < 34 := by omega
      have hc := cells34 HS3.out hlen w3 (Below.refl _ _) p (by omega)
      rw [← hpp] at HJ HZn
      rw [← hpp]
      clear hpp
      obtain ⟨s, hs⟩ : ∃ s, s = l.getD p ByteArray.empty := ⟨_, rfl⟩
      rw [← hs] at hc HJ HZn
      clear hs
      go_wp2_with fail
      refine (iReadJournal R HR.out s HZn.out (no_flagJn R HR.out HTx.out s HZn.out) w3 u pv (HL.out.kept (Kept.of_below (S := fun _ => False) HB3.out) (fun x => x)) (HT.out.below HB3.out)).mono ?_
      rintro e w4 ⟨J', ad, cp, ok, hi, rfl, hO4, b4⟩
      have hJJ : J' = J := by
        rcases hi with ⟨h1, h2, h3⟩ | ⟨h1, _⟩
        · rw [HJ.out] at h1
          cases h1
          rfl
        · rw [HJ.out] at h1; cases h1
      obtain rfl := hJJ
      obtain ⟨ad', cp', ea, hWo⟩ := Or2.w hO4
      cases ea
      have HF : Hid (∀ k, foot ad (J'.outs.length * 2) k → w3.heap.size ≤ k) := fun k hk => Wr.foot_ge hWo hk
      have HO4 : Hid (Ous w4 ad J'.outs) := Wr.sl hWo
      have HW4 : Hid (StrsW w4 w1.heap.size (some ⟨b2, o2, none⟩) l) := HW3.out.below b4
      have HB4 := hid (HB3.out.trans (b4.mono HB3.out.size))
      have HA4 := hid (HA3.out.below b4 HA3.out.lt)
      have h34 := b4.size
      clear hi hO4 hWo b4 HW3 HA3 HJ HZn hc a0
      obtain ⟨txn, dn, kd, v, tt, at_, tx, o'⟩ := J'
      simp only [] at HD HO HF HO4
      have HV : Hid (jnV ⟨txn, dn, kd, v, tt, at_, tx, o'⟩ ad cp = .agg #[.int .i64 txn, .bool dn, .int .i64 kd, .int .i64 v, .int .i64 tt, .int .i64 at_, .string tx, .slice ad o'.length cp]) := rfl
      rw [HV.out]
      obtain ⟨w5, hw5, ez5, A5, B5⟩ := one_new w4 [.int .i64 txn, .bool dn, .int .i64 kd, .int .i64 v, .int .i64 tt, .int .i64 at_, .string tx, .slice ad o'.length cp] 85
      have HW5 : Hid (StrsW w5 w1.heap.size (some ⟨b2, o2, none⟩) l) := HW4.out.below B5
      have HB5 := hid (HB4.out.trans (B5.mono HB4.out.size))
      have HO5 : Hid (Ous w5 ad o') := Sl.below HO4.out B5
      have HA5 := hid (HA4.out.below B5 HA4.out.lt)
      have j0 := A5.c 0 rfl
      have j1 := A5.c 1 rfl
      have j2 := A5.c 2 rfl
      have j3 := A5.c 3 rfl
      have j4 := A5.c 4 rfl
      have j5 := A5.c 5 rfl
      have j6 := A5.c 6 rfl
      have j7 := A5.c 7 rfl
      have a0 := HA5.out.c 0 rfl
      clear A5 B5 HW4 HA4 HO4
      cases dn with
      | true =>
        have HX := hid (HD.out rfl)
        clear HD HO
        go_wp2
        go_ret2
        rw [HE.out, HX.out]
        exact ⟨_, c2, by rw [hlen]; rfl, HW5.out.mono h01, HB5.out⟩
      | false =>
        have HX := hid (HO.out rfl)
        clear HD HO
        have HQ : Hid (Calls Tryz.prog 102 #[.agg #[.int .i64 txn, .bool false, .int .i64 kd, .int .i64 v, .int .i64 tt, .int .i64 at_, .string tx, .slice ad o'.length cp], .int .i64 (n : Int), .func (.func 103) #[] #[.pointer (some ⟨w2.heap.size, 0, none⟩)]] w5 fun e w' => e = .returned (.tuple #[]) ∧ StrsW w' w1.heap.size (some ⟨b2, o2, none⟩) (redone ⟨txn, false, kd, v, tt, at_, tx, o'⟩ n l) ∧ Kept (fun k => k = b2) w5 w') :=
          replay w5 w1.heap.size w2.heap.size b2 o2 c2 l HW5.out hlen a0 (by omega) ⟨txn, false, kd, v, tt, at_, tx, o'⟩ ad cp HO5.out HOk.out rfl (fun k hk => by have := HF.out k hk; omega) n hn (HT.out.below HB5.out) (kinds_below HK.out HG.out HB5.out) (Nat.lt_of_lt_of_le HG.out HB5.out.size)
        go_wp2_with fail
        refine HQ.out.mono ?_
        rintro e w6 ⟨rfl, hW6, k6⟩
        have HW6 := hid hW6
        have HB6 : Hid (Below w.heap.size w w6) := HB5.out.trans (k6.below HB5.out.size (fun k hk x => by omega))
        have a6 := (HA5.out.kept k6 (by omega)).c 0 rfl
        clear hW6 k6 HQ j0 j1 j2 j3 j4 j5 j6 j7 a0
        go_wp2
        go_ret2
        rw [HE.out, HX.out]
        exact ⟨_, c2, by rw [redone_length, hlen]; rfl, HW6.out.mono h01, HB6.out⟩
    · have HE := hid (redo_none HP.out hh)
      go_wp2_with fail
      refine (isHost h w3).mono ?_
      rintro e w4 ⟨rfl, hw4⟩
      obtain rfl := hw4.symm
      rw [decide_eq_false hh]
      go_wp2
      go_ret2
      rw [HE.out]
      exact ⟨_, c2, by rw [hlen]; rfl, HW3.out.mono h01, HB3.out⟩

end Go.Proofs.YtlbfcnpnfoapnaaGreatDoor.Re

namespace Go.Proofs.YtlbfcnpnfoapnaaGreatDoor.Re
open Go.RowKit Go.Proofs.YtlbfcnpnfoapnaaGreatDoor.Mem Go.Proofs.YtlbfcnpnfoapnaaGreatDoor.Sec Go.Proofs.YtlbfcnpnfoapnaaGreatDoor.Rd Go.Proofs.YtlbfcnpnfoapnaaGreatDoor.Pk
set_option linter.unusedVariables false

set_option maxRecDepth 100000 in
set_option maxHeartbeats 2000000 in
theorem iSettle (R : ByteArray → Int × Nat) (hR : Reads R) (hTx : ∀ s : ByteArray, s.size ≤ maxLen → Tx s (R s)) (w : World) (a : Option Addr) (cap : Nat) (l : List ByteArray) (S : Strs w a l) (hl : l.length ≤ 1048576) (hz : ∀ s ∈ l, s.size ≤ 1048576) (u : TypeId) (pv : Value) (hL : Lacks w u pv) (T : Sums w) (K : Sector.Kinds w) (hg : 0 < w.heap.size) :
    Calls Tryz.prog 41 #[.slice a l.length cap] w fun e w' => ∃ a' c', e = .returned (.slice a' (settle R l).length c') ∧ StrsW w' w.heap.size a' (settle R l) ∧ Below w.heap.size w w' := by
  have HR := hid hR
  have HTx := hid hTx
  have HL := hid hL
  have HT := hid T
  have HK := hid K
  have HG := hid hg
  have HQ0 := hid (iRedo R hR hTx w a cap l S hl hz u pv hL T K hg 0)
  have HZ := hid hz
  clear hR hTx S hL T K hg hz
  go_enter Tryz.func41, Tryz.ntmps41
  go_wp2_with fail
  refine HQ0.out.mono ?_
  rintro e w1 ⟨a1, c1, rfl, hW1, b1⟩
  have HB1 := hid b1
  have HW1 := hid hW1
  clear hW1 b1
  generalize hq : (redo R l 0).2 = q0
  clear hq
  cases hp : poolOk R l with
  | false =>
    have HE : Hid (settle R l = []) := by rw [Hid, settle, hp]; rfl
    have HX := hid (redo_no hp 0)
    have HNo : Hid (poolOk R [] = false) := pool_no1 (by decide)
    rw [HX.out] at HW1 ⊢
    clear hp
    have HPo : Hid (Calls Tryz.prog 28 #[.slice a1 0 c1] w1 fun e w' => e = .returned (.bool false) ∧ Below w1.heap.size w1 w') := by
      have hx := iPoolOk R HR.out HTx.out w1 a1 c1 [] (Wr.sl HW1.out) (by decide) (fun s hs => by cases hs) u pv (HL.out.kept (Kept.of_below (S := fun _ => False) HB1.out) (fun x => x)) (HT.out.below HB1.out) (kinds_below HK.out HG.out HB1.out) (Nat.lt_of_lt_of_le HG.out HB1.out.size)
      rw [HNo.out] at hx
      exact hx
    simp only [List.length_nil]
    go_wp2
    go_loopw [3, 5] (fun t i wr => t = .slice a1 0 c1 ∧ i = .int .i64 1 ∧ wr = w1) (fun _ i _ => 0)
    case atStart => exact ⟨rfl, rfl, rfl⟩
    case round =>
      obtain ⟨rfl, rfl, rfl⟩ := hrel
      go_wp2_with fail
      refine HPo.out.mono ?_
      rintro e w2 ⟨rfl, b2⟩
      have HB2 := hid (HB1.out.trans (b2.mono HB1.out.size))
      clear b2
      go_wp2
      go_ret
      rw [HE.out]
      exact ⟨_, _, rfl, fun i hi => (by cases hi), HB2.out⟩
  | true =>
    have hlen := pool_len hp
    have HE : Hid (settle R l = steps R l 3) := by rw [Hid, settle, hp]; rfl
    have HSz := hid (steps_size HR.out HZ.out)
    have HSl : Hid (∀ k, (steps R l k).length = 34) := fun k => (steps_length R l k).trans hlen
    have HX : Hid ((redo R l 0).1 = steps R l 1) := by
      have h0 := redo_is hp 0 (by decide)
      show (redo R l ((0 : Nat) : Int)).1 = step R 0 l
      rw [h0, step_yes hp]
    rw [HX.out] at HW1 ⊢
    rw [HSl.out]
    clear hp hl HX
    go_wp2
    go_loopw [3, 5] (fun t i wr => ∃ (m : Nat) (a' : Option Addr) (c' : Nat), 1 ≤ m ∧ m ≤ 3 ∧ i = .int .i64 (m : Int) ∧ t = .slice a' 34 c' ∧ Hid (StrsW wr w.heap.size a' (steps R l m)) ∧ Hid (Below w.heap.size w wr)) (fun _ i _ => 3 - (intOf i).toNat)
    case atStart => exact ⟨1, a1, c1, by decide, by decide, rfl, rfl, HW1, HB1⟩
    case round =>
      obtain ⟨m, a2, c2, hm1, hm, rfl, rfl, HWm, HBm⟩ := hrel
      by_cases hlt : m < 3
      · have HLm := hid (HL.out.kept (Kept.of_below (S := fun _ => False) HBm.out) (fun x => x))
        have HPo : Hid (Calls Tryz.prog 28 #[.slice a2 34 c2] wr fun e w' => e = .returned (.bool (poolOk R (steps R l m))) ∧ Below wr.heap.size wr w') := by
          have hx := iPoolOk R HR.out HTx.out wr a2 c2 (steps R l m) (Wr.sl HWm.out) (by rw [HSl.out]; decide) (HSz.out m) u pv HLm.out (HT.out.below HBm.out) (kinds_below HK.out HG.out HBm.out) (Nat.lt_of_lt_of_le HG.out HBm.out.size)
          rw [HSl.out] at hx
          exact hx
        go_wp2_with fail
        refine HPo.out.mono ?_
        rintro e w4 ⟨rfl, b4⟩
        have HW4 : Hid (StrsW w4 w.heap.size a2 (steps R l m)) := HWm.out.below b4
        have HB4 := hid (HBm.out.trans (b4.mono HBm.out.size))
        clear b4
        cases hp : poolOk R (steps R l m) with
        | false =>
          have HX := hid (steps_rest hp hm)
          clear hp
          go_wp2
          go_ret
          rw [HE.out, HX.out, HSl.out]
          exact ⟨_, c2, rfl, HW4.out, HB4.out⟩
        | true =>
          have HX : Hid ((redo R (steps R l m) (m : Int)).1 = steps R l (m + 1)) := by
            show _ = step R m (steps R l m)
            rw [redo_is hp m hlt, step_yes hp]
          have HQ : Hid (Calls Tryz.prog 67 #[.slice a2 34 c2, .int .i64 (m : Int)] w4 fun e w' => ∃ a' c' q, e = .returned (.tuple #[.slice a' 34 c', .bool q]) ∧ StrsW w' w4.heap.size a' (steps R l (m + 1)) ∧ Below w4.heap.size w4 w') := by
            have hx := iRedo R HR.out HTx.out w4 a2 c2 (steps R l m) (Wr.sl HW4.out) (by rw [HSl.out]; decide) (HSz.out m) u pv (HL.out.kept (Kept.of_below (S := fun _ => False) HB4.out) (fun x => x)) (HT.out.below HB4.out) (kinds_below HK.out HG.out HB4.out) (Nat.lt_of_lt_of_le HG.out HB4.out.size) (m : Int)
            rw [HX.out, HSl.out, HSl.out] at hx
            exact hx.mono (fun e w' ⟨a', c', he, r⟩ => ⟨a', c', _, he, r⟩)
          clear hp
          go_wp2_with fail
          refine HQ.out.mono ?_
          rintro e w5 ⟨a5, c5, q5, rfl, hW5, b5⟩
          have HW5 : Hid (StrsW w5 w.heap.size a5 (steps R l (m + 1))) := hW5.mono HB4.out.size
          have HB5 := hid (HB4.out.trans (b5.mono HB4.out.size))
          clear hW5 b5
          go_wp2
          exact ⟨⟨m + 1, a5, c5, by omega, by omega, by go_num, rfl, HW5, HB5⟩, by simp [intOf]; omega⟩
      · obtain rfl : m = 3 := by omega
        go_wp2
        go_ret
        rw [HE.out, HSl.out]
        exact ⟨_, c2, rfl, HWm.out, HBm.out⟩

end Go.Proofs.YtlbfcnpnfoapnaaGreatDoor.Re

namespace Go.Proofs.YtlbfcnpnfoapnaaGreatDoor.Tr
open Go.RowKit Go.Proofs.YtlbfcnpnfoapnaaGreatDoor.Mem Go.Proofs.YtlbfcnpnfoapnaaGreatDoor.Sec Go.Proofs.YtlbfcnpnfoapnaaGreatDoor.Rd Go.Proofs.YtlbfcnpnfoapnaaGreatDoor.Pk Go.Proofs.YtlbfcnpnfoapnaaGreatDoor.Re
set_option linter.unusedVariables false

theorem cnt_upto (L : List Int) (k : Nat) (h : k < 18) : (cnt L).take (k + 1) = (cnt L).take k ++ [(L.count (k : Int) : Int)] := by
  have hk : k < (cnt L).length := by rw [cnt_len]; exact h
  have h2 := cnt_at L k h
  rw [List.take_add_one]
  simp only [List.getD, List.getElem?_eq_getElem hk, Option.getD_some] at h2
  simp [List.getElem?_eq_getElem hk, h2]

set_option maxRecDepth 100000 in
set_option maxHeartbeats 4000000 in
theorem iCounts (R : ByteArray → Int × Nat) (hR : Reads R) (hT : ∀ s : ByteArray, s.size ≤ maxLen → Tx s (R s)) (w : World) (a : Option Addr) (cap : Nat) (l : List ByteArray) (S : Strs w a l) (hl : l.length ≤ 1048576) (hz : ∀ s ∈ l, s.size ≤ 1048576) (u : TypeId) (pv : Value) (hL : Lacks w u pv) (T : Sums w) (K : Sector.Kinds w) (hg : 0 < w.heap.size) :
    Calls Tryz.prog 10 #[.slice a l.length cap] w fun e w' => ∃ a' c', e = .returned (.slice a' (counts R l).length c') ∧ IntsW w' w.heap.size a' (counts R l) ∧ Below w.heap.size w w' := by
  have HR := hid hR
  have HTx := hid hT
  have HL := hid hL
  have HT := hid T
  have HK := hid K
  have HG := hid hg
  have HZ := hid hz
  have HS := hid S
  have HPO := hid (iPoolOk R hR hT w a cap l S hl hz u pv hL T K hg)
  clear hR hz S hT hL T K hg
  go_enter Tryz.func10, Tryz.ntmps10
  go_wp2_with fail
  refine HPO.out.mono ?_
  rintro e w1 ⟨rfl, b1⟩
  have HB1 := hid b1
  clear b1
  cases hp : poolOk R l with
  | false =>
    have HE : Hid (counts R l = []) := by rw [Hid, counts, hp]; rfl
    clear hp
    go_wp2
    go_ret
    rw [HE.out]
    exact ⟨_, _, rfl, fun i hi => (by cases hi), HB1.out⟩
  | true =>
    have HE : Hid (counts R l = cnt (holdL R l)) := by rw [Hid, counts, hp]; rfl
    have HH := hid (holdings R HR.out HTx.out w1 a cap l (Sl.below HS.out HB1.out) hp HZ.out u pv (HL.out.kept (Kept.of_below (S := fun _ => False) HB1.out) (fun x => x)) (HT.out.below HB1.out) (kinds_below HK.out HG.out HB1.out) (Nat.lt_of_lt_of_le HG.out HB1.out.size))
    have hhl := holdL_len HR.out HZ.out hp
    clear hp
    go_wp2_with fail
    refine HH.out.mono ?_
    rintro e w2 ⟨v2, rfl, hI2, b2⟩
    have HB2 := hid (HB1.out.trans (b2.mono HB1.out.size))
    obtain ⟨a2, c2, rfl, hx2⟩ := hI2.w
    have HI2 : Hid (Ints w2 a2 (holdL R l)) := Wr.sl hx2
    clear b2 hI2 hx2 HH
    generalize holdL R l = L at *
    go_wp2_with fail
    refine (tallyOf L a2 c2 w2 HI2.out (by omega)).mono ?_
    rintro e w3 ⟨v3, T3, rfl, hO3, hT3, b3⟩
    obtain ⟨a3, c3, rfl, hs3⟩ := TalO.s hO3
    have HS3 := hid hs3
    have HT3 := hid hT3
    have htl : T3.length ≤ 1000 := by have := hT3.len; omega
    have HB3 := hid (HB2.out.trans (b3.mono HB2.out.size))
    clear b3 hO3 hs3 hT3
    go_wp2
    go_loopw [4, 12] (fun v i wr => ∃ k : Nat, k ≤ 18 ∧ i = .int .i64 (k : Int) ∧ Hid (Ir wr w3.heap.size v ((cnt L).take k)) ∧ Hid (Below w3.heap.size w3 wr)) (fun _ i _ => 18 - (intOf i).toNat)
    case atStart => exact ⟨0, Nat.zero_le _, rfl, Or.inl ⟨_, rfl, rfl, rfl⟩, Below.refl _ _⟩
    case round =>
      obtain ⟨k, hk, rfl, HI, HB⟩ := hrel
      have hcl : ((cnt L).take k).length ≤ 18 := by rw [List.length_take, cnt_len]; omega
      by_cases hlt : k < 18
      · have HU := hid (cnt_upto L k hlt)
        obtain ⟨a0, c0, rfl, _⟩ := HI.out.w
        go_wp2_with fail
        refine (timesOf T3 L (k : Int) a3 c3 wr (Sl.below HS3.out HB.out) htl HT3.out).mono ?_
        rintro e w4 ⟨rfl, b4⟩
        have HB4 := hid (HB.out.trans (b4.mono HB.out.size))
        have HI4 : Hid (Ir w4 w3.heap.size (.slice a0 ((cnt L).take k).length c0) ((cnt L).take k)) := RowO.below HI.out b4
        clear b4 HI
        generalize hM : (cnt L).take k = M at *
        clear hM
        generalize hx : ((L.count (k : Int) : Nat) : Int) = x at *
        clear hx
        have hwb : w3.heap.size ≤ (w4.alloc (.cells #[.int .i64 x] 3)).heap.size := by have := lt_alloc w4 (.cells #[.int .i64 x] 3); have := HB4.out.size; omega
        go_wp2_with (at_builtin; refine wpList_app 24 3 (.int .i64 0) 1 8 Tryz.underlying24 info3 rfl (by decide) (by decide) _ rfl (.tmp 15) (.tmp 19) rfl w3.heap.size _ M.length (ic M) rfl (RowO.below HI4.out ((Below.refl _ _).alloc (Nat.le_refl _) _)) ⟨w4.heap.size, 0, none⟩ 1 1 [.int .i64 x] rfl rfl (one_row w4 x) (by intro u hu; exact ic_one [x] u (by simpa [ic] using hu)) (by omega) hwb ?_; intro v5 w5 r5 kk hi5)
        have hrb : ∀ b, rb (.slice a0 M.length c0) = some b → w3.heap.size ≤ b := fun b hb => (RowO.lt HI4.out hb).1
        have HB5 : Hid (Below w3.heap.size w3 w5) := (HB4.out.alloc HB4.out.size _).trans (kk.below hwb (fun b hb x => by have := hrb b x; omega))
        refine ⟨⟨k + 1, by omega, by go_num, ?_, HB5⟩, by simp [intOf]; omega⟩
        rw [HU.out]
        unfold Ir
        rw [← ic_app, List.length_append]
        exact r5
      · obtain rfl : k = 18 := by omega
        have hi2 := RowO.mono HI.out HB3.out.size
        rw [List.take_of_length_le (by rw [cnt_len]; exact Nat.le_refl _)] at hi2
        obtain ⟨a0, c0, e0, hx0⟩ := Ir.w hi2
        subst e0
        have HX := hid hx0
        have HBf := hid (HB3.out.trans (HB.out.mono HB3.out.size))
        clear hi2 hx0
        go_wp2
        go_ret
        rw [HE.out]
        exact ⟨_, _, rfl, HX.out, HBf.out⟩

set_option maxRecDepth 100000 in
set_option maxHeartbeats 1000000 in
theorem equal (w : World) (a b : Option Addr) (ca cb : Nat) (l m : List Int) (S : Ints w a l) (T : Ints w b m) (hl : l.length ≤ 1000) (hm : m.length ≤ 1000) :
    Calls Tryz.prog 42 #[.slice a l.length ca, .slice b m.length cb] w fun e w' => e = .returned (.bool (decide (l = m))) ∧ Below w.heap.size w w' := by
  have HS := hid S
  have HT := hid T
  clear S T
  by_cases hln : l.length = m.length
  rotate_left
  · have hb : ((l.length : Int) != (m.length : Int)) = true := by simp; omega
    rw [decide_eq_false (fun e => hln (by rw [e]))]
    go_enter Tryz.func42, Tryz.ntmps42
    go_wp2
    go_ret
    exact ⟨rfl, Below.refl _ _⟩
  have HE : Hid (∀ q : Bool, (q = true ↔ l = m) → decide (l = m) = q) := fun q h => by cases q <;> simp_all
  generalize hq : decide (l = m) = q at *
  have HQ := hid hq
  clear hq
  rw [← hln]
  have HLn := hid hln
  clear hln hm
  go_enter Tryz.func42, Tryz.ntmps42
  go_wp2
  go_loopw [13] (fun i wr => ∃ k : Nat, k ≤ l.length ∧ i = .int .i64 (k : Int) ∧ Hid (∀ j, j < k → l.getD j 0 = m.getD j 0) ∧ Hid (Below w.heap.size w wr)) (fun i _ => l.length - (intOf i).toNat)
  case atStart => exact ⟨0, Nat.zero_le _, rfl, fun j hj => by omega, Below.refl _ _⟩
  case round =>
    obtain ⟨k, hk, rfl, HN, HB⟩ := hrel
    by_cases hlt : k < l.length
    · obtain ⟨b1, o1, rfl, c1⟩ := (Sl.below HS.out HB.out) k hlt
      obtain ⟨b2, o2, rfl, c2⟩ := (Sl.below HT.out HB.out) k (by rw [← HLn.out]; exact hlt)
      replace c1 : wr.cell? ⟨b1, o1 + k, none⟩ = some (.int .i64 (l.getD k 0)) := c1
      replace c2 : wr.cell? ⟨b2, o2 + k, none⟩ = some (.int .i64 (m.getD k 0)) := c2
      obtain ⟨x, hx⟩ : ∃ x, l.getD k 0 = x := ⟨_, rfl⟩
      obtain ⟨y, hy⟩ : ∃ y, m.getD k 0 = y := ⟨_, rfl⟩
      have HX := hid hx
      have HY := hid hy
      rw [hx] at c1
      rw [hy] at c2
      clear hx hy
      by_cases hxy : x = y
      · have HN2 : Hid (∀ j, j < k + 1 → l.getD j 0 = m.getD j 0) := fun j hj => by
          by_cases e : j = k
          · subst e; rw [HX.out, HY.out, hxy]
          · exact HN.out j (by omega)
        subst hxy
        go_wp2
        go_quiet (fail)
        go_wp2
        exact ⟨⟨k + 1, by omega, by go_num, HN2, below_drewN HB.out _⟩, by simp [intOf]; omega⟩
      · have hne : (x != y) = true := by simp [hxy]
        have HF : Hid (q = false) := by rw [Hid, ← HQ.out]; exact decide_eq_false (fun e => hxy (by rw [← HX.out, ← HY.out, e]))
        go_wp2
        go_quiet (fail)
        go_wp2
        go_ret
        exact ⟨by rw [HF.out]; rfl, below_drewN HB.out _⟩
    · obtain rfl : k = l.length := by omega
      have HF : Hid (q = true) := by rw [Hid, ← HQ.out]; exact decide_eq_true (getD_ext 0 HLn.out HN.out)
      go_wp2
      go_ret
      exact ⟨by rw [HF.out]; rfl, HB.out⟩

end Go.Proofs.YtlbfcnpnfoapnaaGreatDoor.Tr

namespace Go.Proofs.YtlbfcnpnfoapnaaGreatDoor.Tr
open Go.RowKit Go.Proofs.YtlbfcnpnfoapnaaGreatDoor.Mem Go.Proofs.YtlbfcnpnfoapnaaGreatDoor.Sec Go.Proofs.YtlbfcnpnfoapnaaGreatDoor.Rd Go.Proofs.YtlbfcnpnfoapnaaGreatDoor.Pk Go.Proofs.YtlbfcnpnfoapnaaGreatDoor.Re
set_option linter.unusedVariables false

/-- What RefsOk answers. -/
def refsA (R : ByteArray → Int × Nat) (l : List ByteArray) : Bool := refsOk R (Re.settle R l)

theorem settle_small {R : ByteArray → Int × Nat} (hR : Reads R) {l : List ByteArray} (hz : ∀ s ∈ l, s.size ≤ 1048576) : ∀ s ∈ Re.settle R l, s.size ≤ 1048576 := by
  unfold Re.settle
  split
  · exact steps_size hR hz 3
  · intro s hs; cases hs

theorem refs_at {R : ByteArray → Int × Nat} (hR : Reads R) {l : List ByteArray} (hz : ∀ s ∈ l, s.size ≤ 1048576) (h : poolOk R l = true) (m k : Nat) (hk : k < 6) : ∀ n, m < n → n ≤ 3 → (refsUp R l n).getD (6 * m + k) 0 = (refL R (l.getD (13 + m) ByteArray.empty)).getD k 0
  | 0, hm, _ => absurd hm (Nat.not_lt_zero _)
  | n + 1, hm, hn => by
    have hl := refsUp_len hR hz h n (by omega)
    rw [refsUp_succ]
    by_cases e : m < n
    · rw [← refs_at hR hz h m k hk n e (by omega)]
      simp only [List.getD]
      rw [List.getElem?_append_left (by omega)]
    · obtain rfl : m = n := by omega
      simp only [List.getD]
      rw [List.getElem?_append_right (by omega), hl]
      congr 2
      omega

theorem refs_yes {R : ByteArray → Int × Nat} (hR : Reads R) {l : List ByteArray} (hz : ∀ s ∈ l, s.size ≤ 1048576) (h : poolOk R l = true) (e : ∀ i, i < 18 → (refsUp R l 3).getD i 0 = (cnt (holdL R l)).getD i 0) : refsOk R l = true := by
  have hl := refsUp_len hR hz h 3 (by decide)
  unfold refsOk
  rw [h, Bool.true_and]
  exact decide_eq_true (getD_ext 0 (by rw [hl, cnt_len]) (fun j hj => e j (by omega)))
theorem refs_no {R : ByteArray → Int × Nat} {l : List ByteArray} (i : Nat) (e : (refsUp R l 3).getD i 0 ≠ (cnt (holdL R l)).getD i 0) : refsOk R l = false := by
  unfold refsOk
  rw [decide_eq_false (fun h => e (by rw [h])), Bool.and_false]

set_option maxRecDepth 100000 in
set_option maxHeartbeats 4000000 in
theorem sRefsOk (R : ByteArray → Int × Nat) (hR : Reads R) (w : World) (a : Option Addr) (cap : Nat) (l : List ByteArray) (S : Strs w a l) (hl : l.length ≤ 1048576) (hz : ∀ s ∈ l, s.size ≤ 1048576) :
    Calls Tryz.prog 16 #[.slice a l.length cap] w fun e w' => e = .returned (.bool (refsA R l)) ∧ Below w.heap.size w w' := by
  have HR := hid hR
  have HS := hid S
  have HZm := hid (settle_small hR hz)
  have hsl := settle_length R l
  have HSe := hid (sSettle R hR w a cap l S hl hz)
  clear hR S hz
  have HA : Hid (refsA R l = refsOk R (Re.settle R l)) := rfl
  generalize Re.settle R l = t at *
  generalize refsA R l = q at *
  go_enter Tryz.func16, Tryz.ntmps16
  go_wp2_with fail
  refine HSe.out.mono ?_
  rintro e w1 ⟨a1, c1, rfl, hW1, b1⟩
  have HS1 : Hid (Strs w1 a1 t) := Wr.sl hW1
  have HB1 := hid b1
  have htl : t.length ≤ 1048576 := by omega
  clear hW1 b1 HSe HS hsl hl
  go_wp2_with fail
  refine (sPoolOk R HR.out w1 a1 c1 t HS1.out htl HZm.out).mono ?_
  rintro e w2 ⟨rfl, b2⟩
  have HB2 := hid (HB1.out.trans (b2.mono HB1.out.size))
  have HS2 : Hid (Strs w2 a1 t) := Sl.below HS1.out b2
  clear b2 HS1
  cases hp : poolOk R t with
  | false =>
    have HF : Hid (q = false) := by rw [Hid, HA.out, refsOk, hp]; rfl
    clear hp
    go_wp2
    go_ret
    exact ⟨by rw [HF.out]; rfl, HB2.out⟩
  | true =>
    have H34 := hid (pool_len' hp)
    have HZ := hid (getD_size HZm.out)
    have HV := hid (fun i hi => pool_group hp i hi)
    have HAt := hid (fun m hm k hk => refs_at HR.out HZm.out hp m k hk 3 hm (by decide))
    have HY := hid (refs_yes HR.out HZm.out hp)
    have HN := hid (@refs_no R t)
    have HC := hid (sCounts R HR.out w2 a1 c1 t HS2.out htl HZm.out)
    have HE : Hid (counts R t = cnt (holdL R t)) := by rw [Hid, counts, hp]; rfl
    rw [HE.out] at HC
    rw [← HA.out] at HY HN
    clear hp htl HA
    go_wp2_with fail
    refine HC.out.mono ?_
    rintro e w3 ⟨a3, c3, rfl, hW3, b3⟩
    have HB3 := hid (HB2.out.trans (b3.mono HB2.out.size))
    have HS3 : Hid (Strs w3 a1 t) := Sl.below HS2.out b3
    have HC3 : Hid (Ints w3 a3 (cnt (holdL R t))) := Wr.sl hW3
    have hcl := cnt_len (holdL R t)
    clear hW3 b3 HS2 HC HE
    have h34 := H34.out
    obtain ⟨b, o, rfl, _⟩ := HS3.out 0 (by omega)
    have HCell := hid (cells34 HS3.out h34)
    rw [h34, hcl]
    have HCl := hid hcl
    clear h34 HS3 hcl H34
    generalize cnt (holdL R t) = C at *
    generalize hrf : refsUp R t 3 = F at *
    clear hrf
    go_wp2
    go_loopw [5] (fun i wr => ∃ m : Nat, m ≤ 3 ∧ i = .int .i64 (m : Int) ∧ Hid (∀ i, i < 6 * m → F.getD i 0 = C.getD i 0) ∧ Hid (Below w3.heap.size w3 wr)) (fun i _ => 3 - (intOf i).toNat)
    case atStart => exact ⟨0, Nat.zero_le _, rfl, fun j hj => by omega, Below.refl _ _⟩
    case round =>
      obtain ⟨m, hm, rfl, HI, HB⟩ := hrel
      by_cases hlt : m < 3
      · obtain ⟨⟨h, e, M⟩, hq⟩ := HV.out m hlt
        have HM := hid (group_ok HR.out (HZ.out _) hq)
        have HAm : Hid (∀ k, k < 6 → F.getD (6 * m + k) 0 = M.getD k 0) := fun k hk => by
          have := HAt.out m hlt k hk
          unfold refL at this
          rw [hq] at this
          exact this
        go_wp2_with fail
        refine (Sector.spec_sector 4 (m : Int) wr).mono ?_
        rintro e' w4 ⟨rfl, bs⟩
        have HB4 := hid (HB.out.trans (bs.mono HB.out.size))
        clear bs
        rw [sec4 m hlt]
        obtain ⟨p, hp⟩ : ∃ p : Nat, p = 13 + m := ⟨_, rfl⟩
        rw [← hp] at hq ⊢
        have hl : (p : Int) < 34 := by omega
        have hc := HCell.out w4 HB4.out p (by omega)
        have hz := HZ.out p
        obtain ⟨sa, hsa⟩ : ∃ s, s = t.getD p ByteArray.empty := ⟨_, rfl⟩
        rw [← hsa] at hc hz hq
        have HQ := hid hq
        clear hp hsa hq
        go_wp2_with fail
        refine (sGroupAt R HR.out sa hz HQ.out w4).mono ?_
        rintro e' w5 ⟨va, vc, rfl, hI5, b5⟩
        have HB5 := hid (HB4.out.trans (b5.mono HB4.out.size))
        have HI5 : Hid (Ints w5 va M) := by
          obtain ⟨_, _, e, hx⟩ := hI5.w
          cases e
          exact Wr.sl hx
        clear b5 hc hz hI5
        obtain ⟨w6, hw6, e6, A6, B6⟩ := one_new w5 [.int .i64 h, .int .i64 e, .slice va M.length vc] 60
        have HA6 := hid A6
        have HB6 := hid (HB5.out.trans (B6.mono HB5.out.size))
        have HI6 : Hid (Ints w6 va M) := Sl.below HI5.out B6
        have HMl : Hid (M.length = 6) := HM.out.1
        clear A6 B6 e6 HI5 HM
        go_wp2_with fail
        try simp only [hw6]
        clear hw6
        obtain ⟨bx, hbx⟩ : ∃ bx, w5.heap.size = bx := ⟨_, rfl⟩
        rw [hbx] at HA6
        try rw [hbx]
        clear hbx
        go_loopw [8] (fun i wr => ∃ k : Nat, k ≤ 6 ∧ i = .int .i64 (k : Int) ∧ Hid (∀ i, i < 6 * m + k → F.getD i 0 = C.getD i 0) ∧ Hid (Below w6.heap.size w6 wr)) (fun i _ => 6 - (intOf i).toNat)
        case atStart => exact ⟨0, Nat.zero_le _, rfl, HI, Below.refl _ _⟩
        case round =>
          obtain ⟨k, hk, rfl, HIk, HBk⟩ := hrel
          have k2 := (HA6.out.below HBk.out HA6.out.lt).c 2 rfl
          have HBf := hid (HB6.out.trans (HBk.out.mono HB6.out.size))
          by_cases hlk : k < 6
          · obtain ⟨vb, vo, rfl, hcm⟩ := (Sl.below HI6.out HBk.out) k (by rw [HMl.out]; exact hlk)
            replace hcm : wr.cell? ⟨vb, vo + k, none⟩ = some (.int .i64 (M.getD k 0)) := hcm
            obtain ⟨n, hn⟩ : ∃ n : Nat, n = 6 * m + k := ⟨_, rfl⟩
            have hn18 : n < 18 := by omega
            obtain ⟨nb, no, rfl, hcn⟩ := (Sl.below HC3.out HBf.out) n (by rw [HCl.out]; exact hn18)
            replace hcn : wr.cell? ⟨nb, no + n, none⟩ = some (.int .i64 (C.getD n 0)) := hcn
            have hx := HAm.out k hlk
            rw [← hn] at hx
            generalize M.getD k 0 = x at *
            obtain ⟨y, hy⟩ : ∃ y, C.getD n 0 = y := ⟨_, rfl⟩
            rw [hy] at hcn
            have hw1 : IntKind.i64.wrap ((m : Int) * 6) = 6 * (m : Int) := by rw [IntKind.wrap_i64]; omega
            have hw2 : IntKind.i64.wrap (6 * (m : Int) + (k : Int)) = (n : Int) := by rw [IntKind.wrap_i64]; omega
            have HX := hid hx
            have HY2 := hid hy
            have HNe := hid hn
            have hxM : (k : Int) < (M.length : Int) := by rw [HMl.out]; omega
            have hn18' : (n : Int) < 18 := by omega
            clear hx hy hn
            by_cases hxy : x = y
            · have HI2 : Hid (∀ i, i < 6 * m + (k + 1) → F.getD i 0 = C.getD i 0) := fun i hi => by
                by_cases e : i = n
                · subst e; rw [HX.out, HY2.out, hxy]
                · have := HNe.out; exact HIk.out i (by omega)
              subst hxy
              go_wp2
              go_quiet (fail)
              go_wp2
              exact ⟨⟨k + 1, by omega, by go_num, HI2, below_drewN HBk.out _⟩, by simp [intOf]; omega⟩
            · have hne : (x != y) = true := by simp [hxy]
              have HF := hid (HN.out n (by rw [HX.out, HY2.out]; exact hxy))
              have HBg := hid (HB3.out.trans (HBf.out.mono HB3.out.size))
              clear HY HN
              go_wp2
              go_quiet (fail)
              go_wp2
              go_ret
              exact ⟨by rw [HF.out]; rfl, below_drewN HBg.out _⟩
          · obtain rfl : k = 6 := by omega
            go_wp2
            exact ⟨⟨m + 1, by omega, by go_num, fun i hi => HIk.out i (by omega), HBf⟩, by simp [intOf]; omega⟩
      · obtain rfl : m = 3 := by omega
        have HF := hid (HY.out (fun i hi => HI.out i (by omega)))
        have HBf := hid (HB3.out.trans (HB.out.mono HB3.out.size))
        clear HY HN
        go_wp2
        go_ret
        exact ⟨by rw [HF.out]; rfl, HBf.out⟩

set_option maxRecDepth 100000 in
set_option maxHeartbeats 4000000 in
theorem iRefsOk (R : ByteArray → Int × Nat) (hR : Reads R) (hT : ∀ s : ByteArray, s.size ≤ maxLen → Tx s (R s)) (w : World) (a : Option Addr) (cap : Nat) (l : List ByteArray) (S : Strs w a l) (hl : l.length ≤ 1048576) (hz : ∀ s ∈ l, s.size ≤ 1048576) (u : TypeId) (pv : Value) (hL : Lacks w u pv) (T : Sums w) (K : Sector.Kinds w) (hg : 0 < w.heap.size) :
    Calls Tryz.prog 17 #[.slice a l.length cap] w fun e w' => e = .returned (.bool (refsA R l)) ∧ Below w.heap.size w w' := by
  have HR := hid hR
  have HTx := hid hT
  have HL := hid hL
  have HT := hid T
  have HK := hid K
  have HG := hid hg
  have HZm := hid (settle_small hR hz)
  have hsl := settle_length R l
  have HSe := hid (iSettle R hR hT w a cap l S hl hz u pv hL T K hg)
  clear hR S hz hT hL T K hg
  have HA : Hid (refsA R l = refsOk R (Re.settle R l)) := rfl
  generalize Re.settle R l = t at *
  generalize refsA R l = q at *
  go_enter Tryz.func17, Tryz.ntmps17
  go_wp2_with fail
  refine HSe.out.mono ?_
  rintro e w1 ⟨a1, c1, rfl, hW1, b1⟩
  have HS1 : Hid (Strs w1 a1 t) := Wr.sl hW1
  have HB1 := hid b1
  have htl : t.length ≤ 1048576 := by omega
  clear hW1 b1 HSe hsl hl
  go_wp2_with fail
  refine (iPoolOk R HR.out HTx.out w1 a1 c1 t HS1.out htl HZm.out u pv (HL.out.kept (Kept.of_below (S := fun _ => False) HB1.out) (fun x => x)) (HT.out.below HB1.out) (kinds_below HK.out HG.out HB1.out) (Nat.lt_of_lt_of_le HG.out HB1.out.size)).mono ?_
  rintro e w2 ⟨rfl, b2⟩
  have HB2 := hid (HB1.out.trans (b2.mono HB1.out.size))
  have HS2 : Hid (Strs w2 a1 t) := Sl.below HS1.out b2
  clear b2 HS1
  cases hp : poolOk R t with
  | false =>
    have HF : Hid (q = false) := by rw [Hid, HA.out, refsOk, hp]; rfl
    clear hp
    go_wp2
    go_ret
    exact ⟨by rw [HF.out]; rfl, HB2.out⟩
  | true =>
    have HE : Hid (counts R t = cnt (holdL R t)) := by rw [Hid, counts, hp]; rfl
    have HF : Hid (q = decide (refsUp R t 3 = cnt (holdL R t))) := by rw [Hid, HA.out, refsOk, hp, Bool.true_and]
    have hrl : (refsUp R t 3).length ≤ 18 := by have := refsUp_len HR.out HZm.out hp 3 (by decide); omega
    have HRe := hid (refsOf R HR.out w2 a1 c1 t HS2.out hp HZm.out u pv (HL.out.kept (Kept.of_below (S := fun _ => False) HB2.out) (fun x => x)) (HT.out.below HB2.out) (kinds_below HK.out HG.out HB2.out) (Nat.lt_of_lt_of_le HG.out HB2.out.size))
    clear hp
    go_wp2_with fail
    refine HRe.out.mono ?_
    rintro e w3 ⟨v3, rfl, hI3, b3⟩
    obtain ⟨a3, c3, rfl, hx3⟩ := hI3.w
    have HB3 := hid (HB2.out.trans (b3.mono HB2.out.size))
    have HS3 : Hid (Strs w3 a1 t) := Sl.below HS2.out b3
    have HI3 : Hid (Ints w3 a3 (refsUp R t 3)) := Wr.sl hx3
    clear hx3 hI3 b3 HS2 HRe
    have HCo := hid (iCounts R HR.out HTx.out w3 a1 c1 t HS3.out htl HZm.out u pv (HL.out.kept (Kept.of_below (S := fun _ => False) HB3.out) (fun x => x)) (HT.out.below HB3.out) (kinds_below HK.out HG.out HB3.out) (Nat.lt_of_lt_of_le HG.out HB3.out.size))
    rw [HE.out] at HCo
    go_wp2_with fail
    refine HCo.out.mono ?_
    rintro e w4 ⟨a4, c4, rfl, hW4, b4⟩
    have HB4 := hid (HB3.out.trans (b4.mono HB3.out.size))
    have HI4 : Hid (Ints w4 a3 (refsUp R t 3)) := Sl.below HI3.out b4
    have HW4 : Hid (Ints w4 a4 (cnt (holdL R t))) := Wr.sl hW4
    have hcl := cnt_len (holdL R t)
    clear hW4 b4 HI3 HCo
    generalize refsUp R t 3 = F at *
    generalize cnt (holdL R t) = C at *
    have HQ := hid (equal w4 a3 a4 c3 c4 F C HI4.out HW4.out (by omega) (by omega))
    clear hrl hcl
    go_wp2_with fail
    refine HQ.out.mono ?_
    rintro e w5 ⟨rfl, b5⟩
    have HB5 := hid (HB4.out.trans (b5.mono HB4.out.size))
    rw [← HF.out]
    clear b5
    go_wp2
    go_ret
    exact ⟨rfl, HB5.out⟩

end Go.Proofs.YtlbfcnpnfoapnaaGreatDoor.Tr

namespace Go.Proofs.YtlbfcnpnfoapnaaGreatDoor.Pl
open Go.RowKit Go.Proofs.YtlbfcnpnfoapnaaGreatDoor.Mem
set_option linter.unusedVariables false

/-- A volume without anything. -/
def noneD : Bool × List Bool × List ByteArray := (false, [false, false, false, false], [⟨#[]⟩, ⟨#[]⟩, ⟨#[]⟩, ⟨#[]⟩])

theorem make4B (w : World) : (Instr.makeSlice 63 (.int .i64 4) (.int .i64 4)).run Tryz.prog w = .ok (.slice (some ⟨w.heap.size, 0, none⟩) 4 4) (w.alloc (.cells #[.bool false, .bool false, .bool false, .bool false] 4)) := by
  have h := make_rows (P := Tryz.prog) 63 4 (.bool false) 1 1 Tryz.underlying63 infoBl .i64 .i64 4 (by decide) (by decide) w
  have e : madeCells (Value.bool false).cells (4 * 1) = #[.bool false, .bool false, .bool false, .bool false] := by kernel_rfl
  rw [e] at h
  exact h
theorem make4S (w : World) : (Instr.makeSlice 22 (.int .i64 4) (.int .i64 4)).run Tryz.prog w = .ok (.slice (some ⟨w.heap.size, 0, none⟩) 4 4) (w.alloc (.cells #[.string ⟨#[]⟩, .string ⟨#[]⟩, .string ⟨#[]⟩, .string ⟨#[]⟩] 9)) := by
  have h := make_rows (P := Tryz.prog) 22 9 (.string ByteArray.empty) 1 16 Tryz.underlying22 info9 .i64 .i64 4 (by decide) (by decide) w
  have e : madeCells (Value.string ByteArray.empty).cells (4 * 1) = #[.string ⟨#[]⟩, .string ⟨#[]⟩, .string ⟨#[]⟩, .string ⟨#[]⟩] := by kernel_rfl
  rw [e] at h
  exact h

theorem three_x (w : World) (xs ys zs : List Value) (t u v : TypeId) :
    Row (((w.alloc (.cells xs.toArray t)).alloc (.cells ys.toArray u)).alloc (.cells zs.toArray v)) w.heap.size xs ∧ Row (((w.alloc (.cells xs.toArray t)).alloc (.cells ys.toArray u)).alloc (.cells zs.toArray v)) (w.heap.size + 1) ys ∧
      Row (((w.alloc (.cells xs.toArray t)).alloc (.cells ys.toArray u)).alloc (.cells zs.toArray v)) (w.heap.size + 1 + 1) zs ∧ Below w.heap.size w (((w.alloc (.cells xs.toArray t)).alloc (.cells ys.toArray u)).alloc (.cells zs.toArray v)) := by
  have e0 : (w.alloc (.cells xs.toArray t)).heap.size = w.heap.size + 1 := by simp
  have e1 : ((w.alloc (.cells xs.toArray t)).alloc (.cells ys.toArray u)).heap.size = w.heap.size + 1 + 1 := by simp
  have r1 := Row.new (w.alloc (.cells xs.toArray t)) ys u
  have r2 := Row.new ((w.alloc (.cells xs.toArray t)).alloc (.cells ys.toArray u)) zs v
  rw [e0] at r1
  rw [e1] at r2
  exact ⟨((Row.new w xs t).alloc _).alloc _, r1.alloc _, r2, (((Below.refl _ _).alloc (Nat.le_refl _) _).alloc (by omega) _).alloc (by omega) _⟩

theorem row_bls {w : World} {B g : Nat} {l : List Bool} (h : Row w g (l.map .bool)) (hB : B ≤ g) : BlsW w B (some ⟨g, 0, none⟩) l := fun i hi =>
  ⟨g, 0, rfl, hB, by rw [Nat.zero_add]; exact h.c i (by simp [List.getD, hi]), h.f _⟩
theorem row_strs {w : World} {B g : Nat} {l : List ByteArray} (h : Row w g (l.map .string)) (hB : B ≤ g) : StrsW w B (some ⟨g, 0, none⟩) l := fun i hi =>
  ⟨g, 0, rfl, hB, by rw [Nat.zero_add]; exact h.c i (by simp [List.getD, hi]), h.f _⟩

set_option maxRecDepth 100000 in
set_option maxHeartbeats 1000000 in
theorem l7None (w : World) : Calls Tryz.prog 57 #[] w fun r w' => ∃ x : Pv, r = .returned x.val ∧ x.data = noneD ∧ Two w.heap.size x w' ∧ Below w.heap.size w w' := by
  have h1 := make4B
  have h2 := make4S
  go_enter Tryz.func57, Tryz.ntmps57
  go_wp2
  go_region
  · obtain ⟨t1, t2, t3, t4⟩ := three_x w [.bool false, .slice (some ⟨w.heap.size + 1, 0, none⟩) 4 4, .slice (some ⟨w.heap.size + 1 + 1, 0, none⟩) 4 4] [.bool false, .bool false, .bool false, .bool false] [.string ⟨#[]⟩, .string ⟨#[]⟩, .string ⟨#[]⟩, .string ⟨#[]⟩] 65 4 9
    have T1 := hid t1
    have T2 := hid t2
    have T3 := hid t3
    have T4 := hid t4
    clear t1 t2 t3 t4 h1 h2
    go_wp2
    refine bodyPost_ret (results_row rfl _ _ w.heap.size [.bool false, .slice (some ⟨w.heap.size + 1, 0, none⟩) 4 4, .slice (some ⟨w.heap.size + 1 + 1, 0, none⟩) 4 4] _ rfl T1.out Tryz.underlying65 rfl (by kernel_rfl)) rfl ?_
    exact ⟨⟨false, some ⟨w.heap.size + 1, 0, none⟩, 4, [false, false, false, false], some ⟨w.heap.size + 1 + 1, 0, none⟩, 4, [⟨#[]⟩, ⟨#[]⟩, ⟨#[]⟩, ⟨#[]⟩]⟩, rfl, rfl, ⟨row_bls (l := [false, false, false, false]) T2.out (by omega), row_strs (l := [⟨#[]⟩, ⟨#[]⟩, ⟨#[]⟩, ⟨#[]⟩]) T3.out (by omega), fun b e1 e2 => by have := foot_new e1; have := foot_new e2; omega⟩, T4.out.drew⟩
  · obtain ⟨t1, t2, t3, t4⟩ := three_x w [.bool false, .slice (some ⟨w.heap.size + 1 + 1, 0, none⟩) 4 4, .slice (some ⟨w.heap.size + 1, 0, none⟩) 4 4] [.string ⟨#[]⟩, .string ⟨#[]⟩, .string ⟨#[]⟩, .string ⟨#[]⟩] [.bool false, .bool false, .bool false, .bool false] 65 9 4
    have T1 := hid t1
    have T2 := hid t2
    have T3 := hid t3
    have T4 := hid t4
    clear t1 t2 t3 t4 h1 h2
    go_wp2
    refine bodyPost_ret (results_row rfl _ _ w.heap.size [.bool false, .slice (some ⟨w.heap.size + 1 + 1, 0, none⟩) 4 4, .slice (some ⟨w.heap.size + 1, 0, none⟩) 4 4] _ rfl T1.out Tryz.underlying65 rfl (by kernel_rfl)) rfl ?_
    exact ⟨⟨false, some ⟨w.heap.size + 1 + 1, 0, none⟩, 4, [false, false, false, false], some ⟨w.heap.size + 1, 0, none⟩, 4, [⟨#[]⟩, ⟨#[]⟩, ⟨#[]⟩, ⟨#[]⟩]⟩, rfl, rfl, ⟨row_bls (l := [false, false, false, false]) T3.out (by omega), row_strs (l := [⟨#[]⟩, ⟨#[]⟩, ⟨#[]⟩, ⟨#[]⟩]) T2.out (by omega), fun b e1 e2 => by have := foot_new e1; have := foot_new e2; omega⟩, T4.out.drew⟩

/-- 'append' on an owned row, as one step of a region that draws its order. -/
theorem step_app {P : Program} (t e : TypeId) (z : Value) (k bytes : Nat) (ht : P.underlying t = some (.slice e)) (hinfo : (P.info? e).map (fun i => (i.zero, i.size, i.bytes)) = some (some z, k, bytes)) (hzs : z.cells.size = k) (hk : 0 < k) (hby : bytes ≤ 1048576)
    {ops : Array Oper} {o : Oper} {a : Act} {w : World} {K : Act → World → Prop} {Q : Exit → Act → World → Prop} {E : Prop} (hgd : o.guard = none) (s x : Operand)
    (ho : o.op = .call { callee := .builtin .append, args := #[s, x], argTypes := #[t, t] })
    (B : Nat) (v : Value) (n : Nat) (xs : List Value) (hs : a.eval s = v) (h : RowO w B e k v n xs) (ad : Addr) (m c : Nat) (news : List Value) (hx : a.eval x = .slice (some ad) m c) (hl : news.length = m * k) (hS : Sl w (some ad) (m * k) (fun i => news.getD i undef)) (h1 : ∀ u ∈ news, u.oneCell' = true)
    (hm : n + m ≤ 1048576) (hB : B ≤ w.heap.size)
    (hK : ∀ v' w', RowO w' B e k v' (n + m) (xs ++ news) → Kept (fun b => rb v = some b) w w' → (rb v' = none ∨ rb v' = rb v ∨ (rb v' = some w.heap.size ∧ w.heap.size < w'.heap.size)) → K (a.put o.dst v') w') :
    if Region.wanted o (yielded ops a.tmps) = true then Oper.wp P o a w K Q else E := by
  have hw : Region.wanted o (yielded ops a.tmps) = true := by simp [Region.wanted, hgd]
  rw [if_pos hw]
  obtain ⟨v', w', hr, h2, h3, h4⟩ := run_app (P := P) w B t o.type e z k bytes ht hinfo hzs hk v n xs h ad m c news hl hS h1 hm hby hB
  unfold Oper.wp execOp
  simp only [ho, resolve, invoke, builtin, Sem.run_bind, Sem.run_pure, Result.andThen_ok, List.map_toArray, List.map_cons, List.map_nil, hs, hx, hr]
  exact hK v' w' h2 h3 h4

theorem enters_none (a : Act) (o : Oper) (w : World) (ho : o.op = .call { callee := .value (.func 57), args := #[], argTypes := #[] }) :
    (execOp a.eval o).run Tryz.prog w = .ok (.enter 57 #[]) w := by
  unfold execOp
  simp [ho, go_sem, resolve, invoke]

/-- A new volume, as one step of a region that draws its order. -/
theorem step_none {ops : Array Oper} {o : Oper} {a : Act} {w : World} {K : Act → World → Prop} {Q : Exit → Act → World → Prop} {E : Prop} (hgd : o.guard = none)
    (ho : o.op = .call { callee := .value (.func 57), args := #[], argTypes := #[] })
    (hK : ∀ (x : Pv) w', x.data = noneD → Two w.heap.size x w' → Below w.heap.size w w' → K (a.put o.dst (.agg #[.bool x.on, .slice x.ha x.hs.length x.hc, .slice x.ta x.ts.length x.tc])) w') :
    if Region.wanted o (yielded ops a.tmps) = true then Oper.wp Tryz.prog o a w K Q else E := by
  have hw : Region.wanted o (yielded ops a.tmps) = true := by simp [Region.wanted, hgd]
  rw [if_pos hw]
  unfold Oper.wp
  rw [enters_none a o w ho, Oper.upon_enter]
  refine (l7None w).mono ?_
  rintro e w' ⟨x, rfl, hd, h2, hb⟩
  exact hK x w' hd h2 hb

/-- The list in its box. -/
structure Bxd (w0 : World) (M : List Pv) (v : Value) (w : World) : Prop where
  out : Row w (w0.heap.size + 1) [v]
  res : Row w w0.heap.size [.slice none 0 0]
  grw : Grw (w0.heap.size + 2) M v w
  bel : Below w0.heap.size w0 w
theorem Bxd.below {w0 : World} {M : List Pv} {v : Value} {w w' : World} (h : Bxd w0 M v w) (k : Below w.heap.size w w') : Bxd w0 M v w' :=
  ⟨h.out.below k h.out.lt, h.res.below k h.res.lt, h.grw.below k, h.bel.trans (k.mono h.bel.size)⟩
theorem Bxd.more {w0 : World} {M : List Pv} {v v' : Value} {w w2 w3 : World} {x : Pv} {E : Nat} (h : Bxd w0 M v w) (hE : w.heap.size ≤ E) (hb : Below w.heap.size w w2) (h2 : Two E x w2)
    (r : RowO w3 (w0.heap.size + 2) 65 3 v' (M.length + 1) (pcs M ++ x.cells)) (k : Kept (fun b => rb v = some b) w2 w3) (t : rb v' = none ∨ rb v' = rb v ∨ (rb v' = some w2.heap.size ∧ w2.heap.size < w3.heap.size)) :
    Row w3 (w0.heap.size + 1) [v] ∧ Bxd w0 (M ++ [x]) v' (w3.setCell ⟨w0.heap.size + 1, 0, none⟩ v') := by
  have hfar : ∀ b, b < w0.heap.size + 2 → ¬ rb v = some b := (fun b hb e => by have := (RowO.lt h.grw.row e).1; omega)
  have h2' := h.below hb
  have o3 := h2'.out.kept k (hfar _ (by omega))
  have r3 := h2'.res.kept k (hfar _ (by omega))
  have b3 := h2'.bel.trans (k.below h2'.bel.size (fun b hb => hfar b (by omega)))
  have g3 := h.grw.more hE hb h2 r k t
  exact ⟨o3, o3.set 0 v', r3.other (p := ⟨w0.heap.size + 1, 0, none⟩) (by show w0.heap.size ≠ w0.heap.size + 1; omega) _, g3.kept (kept_set w3 (w0.heap.size + 1) 0 _) (fun b hb => by omega), below_set b3 (w0.heap.size + 1) 0 _ (by omega)⟩

set_option maxRecDepth 100000 in
set_option maxHeartbeats 2000000 in
theorem sNewPool (w : World) : Calls Tryz.prog 31 #[] w fun r w' => ∃ a cap M, r = .returned (plV a (M : List Pv).length cap) ∧ PvsW w' w.heap.size a M ∧ M.map Pv.data = List.replicate 4 noneD ∧ Below w.heap.size w w' := by
  obtain ⟨wa, hwa, ez, A0, C0, B0⟩ := two_new w [.slice none 0 0] [.slice none 0 0] 33 33
  have HX : Hid (Bxd w [] (.slice none 0 0) wa) := ⟨C0, A0, grw_none _ _ _ (by omega), B0⟩
  have HWa := hid hwa
  clear A0 B0 C0 ez hwa
  go_enter Tryz.func31, Tryz.ntmps31
  go_wp2
  have hwa := HWa.out
  try simp only [hwa]
  clear hwa HWa
  go_loopw [2] (fun i wr => ∃ (k : Nat) (M : List Pv) (v : Value), k ≤ 4 ∧ i = .int .i64 (k : Int) ∧ Hid (M.length = k) ∧ Hid (M.map Pv.data = List.replicate k noneD) ∧ Hid (Bxd w M v wr)) (fun i _ => 4 - (intOf i).toNat)
  case atStart => exact ⟨0, [], .slice none 0 0, Nat.zero_le _, rfl, rfl, rfl, HX⟩
  case round =>
    obtain ⟨k, M, v, hk, rfl, HN, HD, HB⟩ := hrel
    clear HX
    by_cases hlt : k < 4
    · have o0 := HB.out.out.c 0 rfl
      have hml : M.length + 1 ≤ 1048576 := by have := HN.out; omega
      go_wp2
      go_region_law (first
        | (refine step_none rfl rfl ?_; intro x w1 hxd hx2 b1; have HB1 := hid (HB.out.below (w' := w1) (undrew b1)); have o1 := HB1.out.out.c 0 rfl; have o2 := fun o => ((HB1.out.below ((Below.refl _ w1).alloc (Nat.le_refl _) o)).out.c 0 rfl))
        | (refine step_app 31 65 Pv.none.val 3 56 Tryz.underlying31 infoPvI rfl (by decide) (by decide) rfl (.tmp 9) (.tmp 11) rfl (w.heap.size + 2) _ M.length (pcs M) rfl (HB1.out.grw.alloc _).row ⟨w1.heap.size, 0, none⟩ 1 1 x.cells rfl rfl (sl_cells w1 x.cells 65 3 rfl) (pcells_one x) hml (HB1.out.grw.alloc _).ge ?_; intro v3 w3 r3 kk3 tri3; have HM := hid (HB.out.more (Nat.le_refl _) (Below.alloc (undrew b1) (by have := (undrew b1).size; exact this) _) (hx2.below ((Below.refl _ _).alloc (Nat.le_refl _) _)) r3 kk3 tri3); obtain ⟨pc, cc, ec, _⟩ := r3.wr; subst ec; have z0 := HM.out.1.c 0 rfl; have zf := HM.out.1.f 0; clear r3 kk3 tri3))
      all_goals (go_wp2; exact ⟨⟨k + 1, M ++ [x], _, by omega, by go_num, by rw [Hid, List.length_append, HN.out]; rfl, by rw [Hid, List.map_append, HD.out, List.replicate_succ']; show _ ++ [x.data] = _; rw [hxd], HM.out.2⟩, by simp [intOf]; omega⟩)
    · obtain rfl : k = 4 := by omega
      have o0 := HB.out.out.c 0 rfl
      have e0 := HB.out.res.c 0 rfl
      have ef := HB.out.res.f 0
      obtain ⟨a', cap', rfl, hP⟩ := HB.out.grw.whole
      have HP := hid hP
      clear hP
      go_wp2
      refine bodyPost_ret (results_row rfl _ _ w.heap.size [.slice a' M.length cap'] _ rfl (HB.out.res.set 0 _) Tryz.underlying33 rfl (by kernel_rfl)) rfl ?_
      exact ⟨a', cap', M, rfl, (HP.out.kept (kept_set wr w.heap.size 0 _) (fun b hb => by omega)).mono (by omega), HD.out, below_set HB.out.bel w.heap.size 0 _ (Nat.le_refl _)⟩

def ptrV (g : Nat) : Value := .pointer (some ⟨g, 0, none⟩)
theorem infoPtr : (Tryz.prog.info? 67).map (fun i => (i.zero, i.size, i.bytes)) = some (some (.pointer none), 1, 8) := by kernel_rfl

/-- The program's volumes so far: a list of pointers, each to a block of its own. -/
structure Vgr (C : Nat) (G : List Nat) (D : List Iv) (v : Value) (w : World) : Prop where
  len : G.length = D.length
  row : RowO w C 67 1 v G.length (G.map ptrV)
  each : ∀ i, i < G.length → Row w (G.getD i 0) (ivR (D.getD i Iv.none).1 (D.getD i Iv.none).2.1 (D.getD i Iv.none).2.2)
  far : ∀ g ∈ G, C ≤ g ∧ ¬ rb v = some g
  nd : G.Nodup
  ge : C ≤ w.heap.size

theorem vgr_none (C : Nat) (b : Option Addr) (w : World) (h : C ≤ w.heap.size) : Vgr C [] [] (.slice b 0 0) w :=
  ⟨rfl, Or.inl ⟨b, rfl, rfl, rfl⟩, fun i hi => by simp at hi, fun g hg => by simp at hg, List.nodup_nil, h⟩
theorem Vgr.below {C : Nat} {G : List Nat} {D : List Iv} {v : Value} {w w' : World} (h : Vgr C G D v w) (k : Below w.heap.size w w') : Vgr C G D v w' :=
  ⟨h.len, RowO.below h.row k, fun i hi => (h.each i hi).below k (h.each i hi).lt, h.far, h.nd, Nat.le_trans h.ge k.size⟩
theorem Vgr.lt {C : Nat} {G : List Nat} {D : List Iv} {v : Value} {w : World} (h : Vgr C G D v w) {g : Nat} (hg : g ∈ G) : g < w.heap.size := by
  obtain ⟨i, hi, rfl⟩ := List.getElem_of_mem hg
  have := (h.each i hi).lt
  rwa [List.getD, List.getElem?_eq_getElem hi] at this

/-- One more volume, in a block that is new. -/
theorem Vgr.more {C g : Nat} {G : List Nat} {D : List Iv} {d : Iv} {v v' : Value} {w0 w w1 : World} (h0 : Vgr C G D v w0) (hb : Below w0.heap.size w0 w) (hg : w0.heap.size ≤ g) (R : Row w g (ivR d.1 d.2.1 d.2.2))
    (r : RowO w1 C 67 1 v' (G.length + 1) (G.map ptrV ++ [ptrV g])) (k : Kept (fun b => rb v = some b) w w1) (t : rb v' = none ∨ rb v' = rb v ∨ (rb v' = some w.heap.size ∧ w.heap.size < w1.heap.size)) : Vgr C (G ++ [g]) (D ++ [d]) v' w1 := by
  have h := h0.below hb
  have hv : ∀ b, rb v = some b → b < w0.heap.size := fun b e => (RowO.lt h0.row e).2
  have hgl := R.lt
  refine ⟨by simp [h.len], by simpa using r, fun i hi => ?_, fun g' hg' => ?_, ?_, Nat.le_trans h.ge k.size⟩
  · by_cases hi' : i < G.length
    · have e1 : (G ++ [g]).getD i 0 = G.getD i 0 := by simp [List.getD, List.getElem?_append_left hi']
      have e2 : (D ++ [d]).getD i Iv.none = D.getD i Iv.none := by simp [List.getD, List.getElem?_append_left (h.len ▸ hi')]
      rw [e1, e2]
      have hm : G.getD i 0 ∈ G := by simp [List.getD, hi']
      exact (h.each i hi').kept k (h.far _ hm).2
    · obtain rfl : i = G.length := by simp at hi; omega
      have e1 : (G ++ [g]).getD G.length 0 = g := by simp [List.getD]
      have e2 : (D ++ [d]).getD G.length Iv.none = d := by rw [h.len]; simp [List.getD]
      rw [e1, e2]
      exact R.kept k (fun e => by have := hv _ e; omega)
  · have hc := h0.ge
    rcases List.mem_append.1 hg' with hg' | hg'
    · refine ⟨(h.far g' hg').1, fun e => ?_⟩
      rcases t with t | t | ⟨t, _⟩
      · rw [t] at e; cases e
      · rw [t] at e; exact (h.far g' hg').2 e
      · rw [t] at e; cases e; have := h.lt hg'; omega
    · obtain rfl : g' = g := by simpa using hg'
      refine ⟨by omega, fun e => ?_⟩
      rcases t with t | t | ⟨t, _⟩
      · rw [t] at e; cases e
      · rw [t] at e; have := hv _ e; omega
      · rw [t] at e; cases e; omega
  · refine List.nodup_append.2 ⟨h.nd, by simp, fun a ha b hb => ?_⟩
    obtain rfl : b = g := by simpa using hb
    have := h0.lt ha
    omega

theorem Vgr.ivs {C : Nat} {G : List Nat} {D : List Iv} {v : Value} {w : World} (h : Vgr C G D v w) : ∃ a cap, v = .slice a G.length cap ∧ Ivs w a G D := by
  obtain ⟨a, cap, rfl, hw⟩ := h.row.wr
  refine ⟨a, cap, rfl, h.len, ?_, h.each⟩
  simp only [Nat.mul_one] at hw
  exact hw.sl.congr (fun i hi => by simp [List.getD, hi, ptrV])

theorem ivData_none : ivData Iv.none = noneD := rfl

end Go.Proofs.YtlbfcnpnfoapnaaGreatDoor.Pl

namespace Go.Proofs.YtlbfcnpnfoapnaaGreatDoor.Ab
open Go.RowKit Go.Proofs.YtlbfcnpnfoapnaaGreatDoor.Mem Go.Proofs.YtlbfcnpnfoapnaaGreatDoor.Sec Go.Proofs.YtlbfcnpnfoapnaaGreatDoor.Rd Go.Proofs.YtlbfcnpnfoapnaaGreatDoor.Pk Go.Proofs.YtlbfcnpnfoapnaaGreatDoor.Pl Go.Proofs.YtlbfcnpnfoapnaaGreatDoor.Tr
set_option linter.unusedVariables false

/-- A volume as its sector says it. -/
def avol (R : ByteArray → Int × Nat) (t : List ByteArray) (i : Nat) : Iv := match readVol R (t.getD (9 + i) ByteArray.empty) with
  | some (_, _, on, m) => (on, mapH m, mapT t m)
  | none => Iv.none

def avols (R : ByteArray → Int × Nat) (t : List ByteArray) (n : Nat) : List Iv := (List.range n).map (avol R t)
theorem avols_succ (R : ByteArray → Int × Nat) (t : List ByteArray) (n : Nat) : avols R t (n + 1) = avols R t n ++ [avol R t n] := by
  unfold avols; rw [List.range_succ, List.map_append]; rfl

def absOk (R : ByteArray → Int × Nat) (l : List ByteArray) : Bool := poolOk R (Re.settle R l)
def absD (R : ByteArray → Int × Nat) (l : List ByteArray) : List (Bool × List Bool × List ByteArray) := if absOk R l then (avols R (Re.settle R l) 4).map ivData else []

theorem results_ct {P : Program} {fn : Func} {p u : Tmp} {ty : TypeId} (h : fn.results = #[.cell p ty, .tmp u]) (tmps : Array Value) (w : World) (g : Nat) (xs : List Value) (d : TypeDesc)
    (hp : tmps.getD p undef = .pointer (some ⟨g, 0, none⟩)) (hr : Row w g xs)
    (hu : P.underlying ty = some d) (hd : (match d with | .struct _ | .array _ _ => true | _ => false) = true) (hi : (P.info? ty).map (·.size) = some xs.length) :
    (results fn tmps).run P w = .ok (.tuple #[.agg xs.toArray, tmps.getD u undef]) w := by
  obtain ⟨t, hb⟩ := hr
  rw [results_cell_tmp h, hp]
  have hl := run_loadVar_row (P := P) w g t ty xs.toArray (0, 0) d hb hu hd (by simpa using hi)
  simp [asAddr, Result.andThen, hl]

theorem pvs_none (w : World) (B : Nat) : PvsW w B none [] := ⟨fun i hi => by simp at hi, fun x hx => by simp at hx, fun x hx => by simp at hx, List.Pairwise.nil, fun x hx => by simp at hx⟩

set_option maxRecDepth 100000 in
set_option maxHeartbeats 4000000 in
theorem iAbstract (R : ByteArray → Int × Nat) (hR : Reads R) (hT : ∀ s : ByteArray, s.size ≤ maxLen → Tx s (R s)) (w : World) (a : Option Addr) (cap : Nat) (l : List ByteArray) (S : Strs w a l) (hl : l.length ≤ 1048576) (hz : ∀ s ∈ l, s.size ≤ 1048576) (u : TypeId) (pv : Value) (hL : Lacks w u pv) (T : Sums w) (K : Sector.Kinds w) (hg : 0 < w.heap.size) :
    Calls Tryz.prog 19 #[.slice a l.length cap] w fun r w' => ∃ a' cap' M, r = .returned (.tuple #[plV a' (M : List Pv).length cap', .bool (absOk R l)]) ∧ PvsW w' w.heap.size a' M ∧ M.map Pv.data = absD R l ∧ Below w.heap.size w w' := by
  obtain ⟨wa, hwa, ez, A0, B0⟩ := one_new w [.slice none 0 0] 33
  have HA := hid A0
  have HB := hid B0
  have HR := hid hR
  have HTx := hid hT
  have HLa := hid (hL.kept (Kept.of_below (S := fun _ => False) B0) (fun x => x))
  have HTa := hid (T.below B0)
  have HKa := hid (kinds_below K hg B0)
  have HGa := hid (Nat.lt_of_lt_of_le hg B0.size)
  have HZm := hid (settle_small hR hz)
  have hsl := Re.settle_length R l
  have HSe := hid (Re.iSettle R hR hT wa a cap l (Sl.below S B0) hl hz u pv HLa.out HTa.out HKa.out HGa.out)
  have HOk : Hid (absOk R l = poolOk R (Re.settle R l)) := rfl
  have HD : Hid (absD R l = if absOk R l then (avols R (Re.settle R l) 4).map ivData else []) := rfl
  generalize Re.settle R l = t at *
  generalize absOk R l = q at *
  generalize absD R l = D at *
  clear hR hz S hT hL T K hg A0 B0 ez hl
  have HVp : Hid (∀ a n c, plV a n c = .agg #[.slice a n c]) := fun _ _ _ => rfl
  go_enter Tryz.func19, Tryz.ntmps19
  go_wp2_with fail
  try simp only [hwa]
  clear hwa
  refine HSe.out.mono ?_
  rintro e w1 ⟨a1, c1, rfl, hW1, b1⟩
  have HS1 : Hid (Strs w1 a1 t) := Wr.sl hW1
  have hB1 := hid b1
  have htl : t.length ≤ 1048576 := by omega
  clear hW1 b1 HSe hsl
  go_wp2_with fail
  refine (iPoolOk R HR.out HTx.out w1 a1 c1 t HS1.out htl HZm.out u pv (HLa.out.kept (Kept.of_below (S := fun _ => False) hB1.out) (fun x => x)) (HTa.out.below hB1.out) (kinds_below HKa.out HGa.out hB1.out) (Nat.lt_of_lt_of_le HGa.out hB1.out.size)).mono ?_
  rintro e w2 ⟨rfl, b2⟩
  have HB2 := hid (hB1.out.trans (b2.mono hB1.out.size))
  have HS2 : Hid (Strs w2 a1 t) := Sl.below HS1.out b2
  have HR2 := hid (HA.out.below HB2.out HA.out.lt)
  have HBw := hid (HB.out.trans (HB2.out.mono HB.out.size))
  clear b2 HS1 hB1
  cases hp : poolOk R t with
  | false =>
    have HQ : Hid (q = false) := by rw [Hid, HOk.out, hp]
    have HDe : Hid (D = []) := by rw [Hid, HD.out, HQ.out]; rfl
    have d0 := HR2.out.c 0 rfl
    have df := HR2.out.f 0
    clear hp
    go_wp2
    refine bodyPost_ret (results_ct rfl _ _ w.heap.size [.slice none 0 0] _ rfl (HR2.out.set 0 (.slice none 0 0)) Tryz.underlying33 rfl (by kernel_rfl)) rfl ?_
    exact ⟨none, 0, [], by rw [HQ.out]; rfl, pvs_none _ _, by rw [HDe.out]; rfl, below_set HBw.out _ _ _ (Nat.le_refl _)⟩
  | true =>
    have HQ : Hid (q = true) := by rw [Hid, HOk.out, hp]
    have HDe : Hid (D = (avols R t 4).map ivData) := by rw [Hid, HD.out, HQ.out]; rfl
    have h34 := pool_len' hp
    have HZ := hid (getD_size HZm.out)
    have HV := hid (fun i hi => pool_vol hp i hi)
    obtain ⟨b, o, rfl, _⟩ := HS2.out 0 (by omega)
    have HCell := hid (cells34 HS2.out h34)
    have H34 := hid h34
    rw [h34]
    clear hp h34 htl HOk HD
    go_wp2
    go_loopw [5, 15] (fun v i wr => ∃ (k : Nat) (G : List Nat), k ≤ 4 ∧ i = .int .i64 (k : Int) ∧ Hid (G.length = k) ∧ Hid (Vgr w2.heap.size G (avols R t k) v wr) ∧ Hid (Below w2.heap.size w2 wr)) (fun _ i _ => 4 - (intOf i).toNat)
    case atStart => exact ⟨0, [], Nat.zero_le _, rfl, rfl, vgr_none _ _ _ (Nat.le_refl _), Below.refl _ _⟩
    case round =>
      obtain ⟨k, G, hk, rfl, HN, HG, HW⟩ := hrel
      have HWa := hid (HB2.out.trans (HW.out.mono HB2.out.size))
      by_cases hlt : k < 4
      · obtain ⟨⟨h, e, on, M⟩, hq⟩ := HV.out k hlt
        have HM := hid (vol_ok HR.out (HZ.out _) hq)
        have HAv : Hid (avols R t (k + 1) = avols R t k ++ [(on, mapH M, mapT t M)]) := by rw [Hid, avols_succ]; unfold avol; rw [hq]
        obtain ⟨a0, c0, rfl, _⟩ := HG.out.ivs
        go_wp2_with fail
        refine (Sector.impl_sector 3 (k : Int) wr (kinds_below HKa.out HGa.out HWa.out)).mono ?_
        rintro e' w3 ⟨rfl, hw3⟩
        obtain rfl := hw3.symm
        rw [sec3 k hlt]
        obtain ⟨p, hp⟩ : ∃ p : Nat, p = 9 + k := ⟨_, rfl⟩
        rw [← hp] at hq ⊢
        have hl : (p : Int) < 34 := by omega
        have hc := HCell.out wr HW.out p (by omega)
        have hz := HZ.out p
        obtain ⟨sa, hsa⟩ : ∃ s, s = t.getD p ByteArray.empty := ⟨_, rfl⟩
        rw [← hsa] at hc hz hq
        have HQv := hid hq
        clear hp hsa hq
        go_wp2_with fail
        refine (iVolAt R HR.out HTx.out sa hz HQv.out wr u pv (HLa.out.kept (Kept.of_below (S := fun _ => False) HWa.out) (fun x => x)) (HTa.out.below HWa.out)).mono ?_
        rintro e' w4 ⟨va, vc, rfl, hI4, b4⟩
        have Hb4 := hid b4
        have HI4 : Hid (Ints w4 va M) := by
          obtain ⟨_, _, e, hx⟩ := hI4.w
          cases e
          exact Wr.sl hx
        clear b4 hc hz hI4
        obtain ⟨w5, hw5, e5, A5, B5⟩ := one_new w4 [.int .i64 h, .int .i64 e, .bool on, .slice va M.length vc] 49
        have k0 := A5.c 0 rfl
        have k1 := A5.c 1 rfl
        have k2 := A5.c 2 rfl
        have k3 := A5.c 3 rfl
        have Hb5 := hid (Hb4.out.trans (B5.mono Hb4.out.size))
        have HI5 : Hid (Ints w5 va M) := Sl.below HI4.out B5
        have hMl : M.length ≤ 900 := by have := HM.out.1; omega
        clear A5 B5 e5 HI4
        have HW5 := hid (HW.out.trans (Hb5.out.mono HW.out.size))
        have HWa5 := hid (HWa.out.trans (Hb5.out.mono HWa.out.size))
        have HMv := hid (mappedVolume w5 b o c1 t (Sl.below HS2.out HW5.out) H34.out h e on M va vc HI5.out HM.out.1 HM.out.2 (kinds_below HKa.out HGa.out HWa5.out) (Nat.lt_of_lt_of_le HGa.out HWa5.out.size))
        go_wp2_with fail
        try simp only [hw5]
        clear hw5
        go_wp2_with fail
        refine HMv.out.mono ?_
        rintro e' w6 ⟨g, rfl, hg1, hg2, R6, b6⟩
        have Hb6 := hid (Hb5.out.trans (b6.mono Hb5.out.size))
        have HR6 : Hid (Row w6 g (ivR ((on, mapH M, mapT t M) : Iv).1 ((on, mapH M, mapT t M) : Iv).2.1 ((on, mapH M, mapT t M) : Iv).2.2)) := R6
        have hgr : wr.heap.size ≤ g := Nat.le_trans Hb5.out.size hg1
        have HGr := hid hgr
        have HG6 := hid (HG.out.below Hb6.out)
        have hgl : G.length + 1 ≤ 1048576 := by have := HN.out; omega
        clear R6 b6 hg1 hg2 hgr k0 k1 k2 k3 HMv
        go_wp2_with (at_builtin; refine wpList_app 66 67 (.pointer none) 1 8 Tryz.underlying66 infoPtr rfl (by decide) (by decide) _ rfl (.tmp 27) (.tmp 31) rfl w2.heap.size _ G.length (G.map ptrV) rfl (HG6.out.below ((Below.refl _ w6).alloc (Nat.le_refl _) _)).row ⟨w6.heap.size, 0, none⟩ 1 1 [.pointer (some ⟨g, 0, none⟩)] rfl rfl (sl_cells w6 [.pointer (some ⟨g, 0, none⟩)] 67 1 rfl) (by intro u hu; simp at hu; subst hu; rfl) hgl (HG6.out.below ((Below.refl _ w6).alloc (Nat.le_refl _) _)).ge ?_; intro v7 w7 r7 kk7 tri7; obtain ⟨pc, cc, ec, _⟩ := r7.wr; subst ec)
        have HM7 := hid (Vgr.more (d := (on, mapH M, mapT t M)) HG.out (Hb6.out.alloc Hb6.out.size _) HGr.out (HR6.out.alloc _) r7 kk7 tri7)
        have HWb := hid ((HW.out.trans (Hb6.out.mono HW.out.size)).alloc (HW.out.trans (Hb6.out.mono HW.out.size)).size (.cells #[.pointer (some ⟨g, 0, none⟩)] 67))
        have HW7 := hid (HWb.out.trans (kk7.below HWb.out.size (fun b hb e => by have := (RowO.lt HG.out.row e).1; omega)))
        exact ⟨⟨k + 1, G ++ [g], by omega, by go_num, by rw [Hid, List.length_append, HN.out]; rfl, by rw [HAv.out]; exact HM7, HW7⟩, by simp [intOf]; omega⟩
      · obtain rfl : k = 4 := by omega
        obtain ⟨a3, c3, rfl, hI⟩ := HG.out.ivs
        have HI := hid hI
        have hg4 : G.length ≤ 1048575 := by have := HN.out; omega
        clear hI
        go_wp2_with fail
        refine (poolOf wr a3 c3 G _ HI.out hg4).mono ?_
        rintro e w4 ⟨a', cap', M, rfl, hP, hD, b4⟩
        unfold plV
        have HP := hid hP
        have HDt : Hid (M.map Pv.data = D) := by rw [Hid, hD, HDe.out]
        have RA := (HA.out.below HWa.out HA.out.lt).below b4 (HA.out.below HWa.out HA.out.lt).lt
        have e0 := RA.c 0 rfl
        have ef := RA.f 0
        have HRs := hid (RA.set 0 (.slice a' M.length cap'))
        have HB4 := hid ((HB.out.trans (HWa.out.mono HB.out.size)).trans (b4.mono (HB.out.trans (HWa.out.mono HB.out.size)).size))
        have hwl : w.heap.size < wr.heap.size := (HA.out.below HWa.out HA.out.lt).lt
        have HL := hid hwl
        clear hP hD RA b4 hwl
        go_wp2
        refine bodyPost_ret (results_ct rfl _ _ w.heap.size [.slice a' M.length cap'] _ rfl HRs.out Tryz.underlying33 rfl (by kernel_rfl)) rfl ?_
        have hwl := HL.out
        exact ⟨a', cap', M, by rw [HQ.out]; rfl, (HP.out.kept (kept_set w4 w.heap.size 0 _) (fun b hb => by omega)).mono (by omega), HDt.out, below_set HB4.out w.heap.size 0 _ (Nat.le_refl _)⟩

end Go.Proofs.YtlbfcnpnfoapnaaGreatDoor.Ab

namespace Go.Proofs.YtlbfcnpnfoapnaaGreatDoor.Fm
open Go.RowKit Go.Proofs.YtlbfcnpnfoapnaaGreatDoor.Mem Go.Proofs.YtlbfcnpnfoapnaaGreatDoor.Sec
set_option linter.unusedVariables false

/-- A journal that is done. -/
def J0 : Jn := ⟨0, true, 0, 0, 0, 0, ⟨#[]⟩, []⟩

/-- A new sector of each kind. -/
def fresh : Nat → ByteArray
  | 0 => showHost 0 (-1) 0
  | 1 => J0.show
  | 2 => showFrees []
  | 3 => showVol (-1) 0 false [-1, -1, -1, -1]
  | 4 => showGroup (-1) 0 [0, 0, 0, 0, 0, 0]
  | _ => ⟨#[]⟩

def fmt : List ByteArray := List.replicate 3 (fresh 0) ++ List.replicate 3 (fresh 1) ++ List.replicate 3 (fresh 2) ++ List.replicate 4 (fresh 3) ++ List.replicate 3 (fresh 4) ++ List.replicate 18 (fresh 5)

theorem fmt_length : fmt.length = 34 := by simp [fmt]

/-- A row that a call makes by append, in blocks of its own. -/
structure Grow (w wr : World) (v : Value) (e : TypeId) (xs : List Value) : Prop where
  row : RowO wr w.heap.size e 1 v xs.length xs
  bel : Below w.heap.size w wr

theorem Grow.move {w wr w1 : World} {v : Value} {e : TypeId} {xs : List Value} (h : Grow w wr v e xs) (b : Below wr.heap.size wr w1) : Grow w w1 v e xs :=
  ⟨RowO.below h.row b, h.bel.trans (b.mono h.bel.size)⟩

theorem Grow.alloc {w wr : World} {v : Value} {e : TypeId} {xs : List Value} (h : Grow w wr v e xs) (o : Obj) : RowO (wr.alloc o) w.heap.size e 1 v xs.length xs :=
  RowO.below h.row ((Below.refl _ _).alloc (Nat.le_refl _) _)

theorem Grow.szA {w wr : World} {v : Value} {e : TypeId} {xs : List Value} (h : Grow w wr v e xs) (o : Obj) : w.heap.size ≤ (wr.alloc o).heap.size := by
  have := h.bel.size
  simp
  omega

theorem Grow.step {w wr w1 : World} {v v1 : Value} {e : TypeId} {xs : List Value} {u : Value} {o : Obj} (h : Grow w wr v e xs) (r : RowO w1 w.heap.size e 1 v1 (xs.length + 1) (xs ++ [u])) (k : Kept (fun b => rb v = some b) (wr.alloc o) w1) : Grow w w1 v1 e (xs ++ [u]) := by
  refine ⟨by simpa using r, ?_⟩
  have h1 : Below w.heap.size w (wr.alloc o) := h.bel.alloc h.bel.size _
  exact h1.trans (k.below h1.size (fun b hb e => by have := (RowO.lt h.row e).1; omega))

theorem one_cell (w : World) (v : Value) (t : TypeId) : Sl (w.alloc (.cells #[v] t)) (some ⟨w.heap.size, 0, none⟩) (1 * 1) (fun i => [v].getD i undef) := fun i hi => by
  obtain rfl : i = 0 := by omega
  exact ⟨w.heap.size, 0, rfl, by rw [cell_of_row _ w.heap.size (0 + 0) _ _ (0, 0) (heap_alloc_new w _)]; rfl⟩

theorem infoInt : (Tryz.prog.info? 3).map (fun i => (i.zero, i.size, i.bytes)) = some (some (.int .i64 0), 1, 8) := by kernel_rfl
theorem infoStr : (Tryz.prog.info? 9).map (fun i => (i.zero, i.size, i.bytes)) = some (some (.string ByteArray.empty), 1, 16) := by kernel_rfl

theorem grow_none (w w1 : World) (b : Option Addr) (e : TypeId) (h : Below w.heap.size w w1) : Grow w w1 (.slice b 0 0) e [] := ⟨Or.inl ⟨b, rfl, rfl, rfl⟩, h⟩

theorem grow_ints {w wr : World} {v : Value} {l : List Int} (h : Grow w wr v 3 (l.map (.int .i64))) : ∃ a cap, v = .slice a l.length cap ∧ IntsW wr w.heap.size a l := by
  obtain ⟨a, cap, e, hW⟩ := h.row.wr
  refine ⟨a, cap, by simpa using e, ?_⟩
  unfold IntsW
  simp only [List.length_map, Nat.mul_one] at hW
  exact hW.congr (fun i hi => by simp [List.getD, hi])

theorem grow_strs {w wr : World} {v : Value} {l : List ByteArray} (h : Grow w wr v 9 (l.map .string)) : ∃ a cap, v = .slice a l.length cap ∧ StrsW wr w.heap.size a l := by
  obtain ⟨a, cap, e, hW⟩ := h.row.wr
  refine ⟨a, cap, by simpa using e, ?_⟩
  unfold StrsW
  simp only [List.length_map, Nat.mul_one] at hW
  exact hW.congr (fun i hi => by simp [List.getD, hi])

theorem make4 (w : World) : (Instr.makeSlice 24 (.int .i64 4) (.int .i64 4)).run Tryz.prog w = .ok (.slice (some ⟨w.heap.size, 0, none⟩) 4 4) (w.alloc (.cells #[.int .i64 0, .int .i64 0, .int .i64 0, .int .i64 0] 3)) := by
  have h := make_rows (P := Tryz.prog) 24 3 (.int .i64 0) 1 8 Tryz.underlying24 infoInt .i64 .i64 4 (by decide) (by decide) w
  have e : madeCells (Value.int .i64 0).cells (4 * 1) = #[.int .i64 0, .int .i64 0, .int .i64 0, .int .i64 0] := by kernel_rfl
  rw [e] at h
  exact h
theorem make6 (w : World) : (Instr.makeSlice 24 (.int .i64 6) (.int .i64 6)).run Tryz.prog w = .ok (.slice (some ⟨w.heap.size, 0, none⟩) 6 6) (w.alloc (.cells #[.int .i64 0, .int .i64 0, .int .i64 0, .int .i64 0, .int .i64 0, .int .i64 0] 3)) := by
  have h := make_rows (P := Tryz.prog) 24 3 (.int .i64 0) 1 8 Tryz.underlying24 infoInt .i64 .i64 6 (by decide) (by decide) w
  have e : madeCells (Value.int .i64 0).cells (6 * 1) = #[.int .i64 0, .int .i64 0, .int .i64 0, .int .i64 0, .int .i64 0, .int .i64 0] := by kernel_rfl
  rw [e] at h
  exact h
theorem ints6 (w : World) : Ints (w.alloc (.cells #[.int .i64 0, .int .i64 0, .int .i64 0, .int .i64 0, .int .i64 0, .int .i64 0] 3)) (some ⟨w.heap.size, 0, none⟩) [0, 0, 0, 0, 0, 0] :=
  (wr_new w _ 3 6 _ (fun i hi => by
    have : i = 0 ∨ i = 1 ∨ i = 2 ∨ i = 3 ∨ i = 4 ∨ i = 5 := by omega
    rcases this with rfl | rfl | rfl | rfl | rfl | rfl <;> rfl)).sl

set_option maxRecDepth 100000 in
set_option maxHeartbeats 1000000 in
theorem noBlocks (w : World) : Calls Tryz.prog 81 #[] w fun r w' => ∃ a cap, r = .returned (.slice a 4 cap) ∧ IntsW w' w.heap.size a [-1, -1, -1, -1] ∧ Below w.heap.size w w' := by
  go_enter Tryz.func81, Tryz.ntmps81
  have hmk := make4
  have HW : Hid (Wr (w.alloc (.cells #[.int .i64 0, .int .i64 0, .int .i64 0, .int .i64 0] 3)) w.heap.size (some ⟨w.heap.size, 0, none⟩) 4 (fun j => if j < 0 then .int .i64 (-1) else .int .i64 0)) :=
    wr_new w _ 3 4 _ (fun i hi => by
      have : i = 0 ∨ i = 1 ∨ i = 2 ∨ i = 3 := by omega
      rcases this with rfl | rfl | rfl | rfl <;> rfl)
  go_wp2
  clear hmk
  go_loopw [6] (fun i wr => ∃ k : Nat, k ≤ 4 ∧ i = .int .i64 (k : Int) ∧ Hid (Wr wr w.heap.size (some ⟨w.heap.size, 0, none⟩) 4 (fun j => if j < k then .int .i64 (-1) else .int .i64 0)) ∧ Hid (Below w.heap.size w wr)) (fun i _ => 4 - (intOf i).toNat)
  case atStart => exact ⟨0, Nat.zero_le _, rfl, HW, (Below.refl _ _).alloc (Nat.le_refl _) _⟩
  case round =>
    obtain ⟨k, hk, rfl, HW', HB⟩ := hrel
    clear HW
    by_cases hlt : k < 4
    · obtain ⟨b, off, e, _, hc, hf⟩ := HW'.out k hlt
      cases e
      rw [Nat.zero_add] at hc hf
      have HN := hid (HW'.out.set k hlt (.int .i64 (-1)))
      go_wp2
      refine ⟨⟨k + 1, by omega, by go_num, ?_, below_set HB.out w.heap.size k _ (Nat.le_refl _)⟩, by simp [intOf]; omega⟩
      have := HN.out
      rw [Nat.zero_add] at this
      exact this.congr (fun j _ => by
        by_cases h1 : j = k
        · subst h1; rw [if_pos rfl, if_pos (by omega)]
        · by_cases h2 : j < k
          · rw [if_neg h1, if_pos h2, if_pos (by omega)]
          · rw [if_neg h1, if_neg h2, if_neg (by omega)])
    · obtain rfl : k = 4 := by omega
      go_wp2
      go_ret
      refine ⟨_, _, rfl, ?_, HB.out⟩
      unfold IntsW
      exact HW'.out.congr (fun i hi => by
        rw [if_pos hi]
        have : i = 0 ∨ i = 1 ∨ i = 2 ∨ i = 3 := by have h4 : i < 4 := hi; omega
        rcases this with rfl | rfl | rfl | rfl <;> rfl)

end Go.Proofs.YtlbfcnpnfoapnaaGreatDoor.Fm

namespace Go.Proofs.YtlbfcnpnfoapnaaGreatDoor.Ff
open Go.RowKit Go.Proofs.YtlbfcnpnfoapnaaGreatDoor.Mem Go.Proofs.YtlbfcnpnfoapnaaGreatDoor.Sec Go.Proofs.YtlbfcnpnfoapnaaGreatDoor.Rd Go.Proofs.YtlbfcnpnfoapnaaGreatDoor.Pk Go.Proofs.YtlbfcnpnfoapnaaGreatDoor.Pl Go.Proofs.YtlbfcnpnfoapnaaGreatDoor.Tr Go.Proofs.YtlbfcnpnfoapnaaGreatDoor.Ab Go.Proofs.YtlbfcnpnfoapnaaGreatDoor.Fm
open Go.Proofs.YtlbfcnpnfoapnaaGreatDoor.Var (bl val varS first_low spec_hit spec_none impl_read impl_cut impl_none hit_of hit_shape val_le len_take bl_length)
set_option linter.unusedVariables false

/-- A first byte below 128 is read as itself. -/
def Low (R : ByteArray → Int × Nat) : Prop := ∀ s : ByteArray, s.size ≤ maxLen → 0 < s.size → (bl s).getD 0 0 < 128 → R s = ((bl s).getD 0 0, 1)

theorem rv_ex3 (s : ByteArray) (hs : s.size ≤ maxLen) : ∃ p : Int × Nat, RV s p ∧ Tx s p ∧ (0 < s.size → (bl s).getD 0 0 < 128 → p = ((bl s).getD 0 0, 1)) := by
  by_cases h : 0 < s.size ∧ (bl s).getD 0 0 < 128
  · obtain ⟨h0, h3⟩ := h
    have hv := val_le ((bl s).take (0 + 1)) (by have := len_take s (0 + 1); omega)
    have hf : val ((bl s).take 1) = (bl s).getD 0 0 := val_first s h0 h3
    refine ⟨(val ((bl s).take (0 + 1)), 0 + 1), ⟨fun w => spec_hit s 0 w hs (by omega) (by omega) (hit_of s 0 (by omega) (by omega) (fun j hj => absurd hj (Nat.not_lt_zero _)) h3 (Or.inl rfl)) ?_, fun w => impl_read s 0 w hs (by omega) (by omega) (fun j hj => absurd hj (Nat.not_lt_zero _)) h3 (Or.inl rfl), by show 0 + 1 ≤ s.size; omega, hv.1, hv.2⟩, ⟨fun _ => hit_of s 0 (by omega) (by omega) (fun j hj => absurd hj (Nat.not_lt_zero _)) h3 (Or.inl rfl), fun _ hb => hf⟩, fun _ _ => ?_⟩
    · intro k hk1 hkm hh
      omega
    · show (val ((bl s).take 1), 1) = _
      rw [hf]
  · obtain ⟨p, h1, h2⟩ := rv_ex2 s hs
    exact ⟨p, h1, h2, fun a b => absurd ⟨a, b⟩ h⟩

theorem reads_ex3 : ∃ R, Reads R ∧ (∀ s : ByteArray, s.size ≤ maxLen → Tx s (R s)) ∧ Low R := by
  have h : ∀ s : ByteArray, ∃ p : Int × Nat, s.size ≤ maxLen → RV s p ∧ Tx s p ∧ (0 < s.size → (bl s).getD 0 0 < 128 → p = ((bl s).getD 0 0, 1)) := fun s => by
    by_cases hs : s.size ≤ maxLen
    · obtain ⟨p, hp⟩ := rv_ex3 s hs
      exact ⟨p, fun _ => hp⟩
    · exact ⟨(0, 0), fun h => absurd h hs⟩
  obtain ⟨R, hR⟩ := Classical.axiomOfChoice h
  exact ⟨R, fun s hs => (hR s hs).1, fun s hs => (hR s hs).2.1, fun s hs => (hR s hs).2.2⟩

theorem bl_rest (s : ByteArray) (k : Nat) (hk : k < s.size) : (bl (rest s k)).getD 0 0 = (bl s).getD k 0 := by
  have h1 : (rest s k).data.toList = s.data.toList.drop k := by
    unfold rest
    simp [ByteArray.data_extract]
    exact List.take_of_length_le (by simp)
  unfold bl
  rw [h1, List.map_drop]
  simp [List.getD]

theorem low_at {R : ByteArray → Int × Nat} (h : Low R) (s : ByteArray) (hs : s.size ≤ 1000) (k : Nat) (hk : k < s.size) {c : Int} (hc : (bl s).getD k 0 = c) (h128 : c < 128) : R (rest s k) = (c, 1) := by
  have := h (rest s k) (by rw [rest_size]; unfold maxLen; omega) (by rw [rest_size]; omega) (by rw [bl_rest s k hk, hc]; exact h128)
  rw [this, bl_rest s k hk, hc]

theorem nums_low {R : ByteArray → Int × Nat} {s : ByteArray} {i : Nat} {f : Nat → Int} : ∀ n, (∀ j, j < n → R (rest s (i + j)) = (f j, 1)) → nums R s i n = some ((List.range n).map f, i + n)
  | 0, _ => rfl
  | n + 1, h => by
    rw [nums_step (nums_low n (fun j hj => h j (by omega))), h n (by omega)]
    simp [List.range_succ]
    omega

/-- A text that has noughts from its fifth byte on, but for one at its seventh. -/
def plainText (s : ByteArray) (n : Nat) (one : Bool) : Bool := decide (s.size = n) && (List.range n).all fun k => decide (k < 5) || decide ((bl s).getD k 0 = if one && k == 6 then 1 else 0)

theorem plain_at {R : ByteArray → Int × Nat} (h : Low R) {s : ByteArray} {n : Nat} {one : Bool} (hn : n ≤ 1000) (hp : plainText s n one = true) (k : Nat) (h5 : 5 ≤ k) (hk : k < n) : R (rest s k) = (if one && k == 6 then 1 else 0, 1) := by
  unfold plainText at hp
  rw [Bool.and_eq_true] at hp
  have hz := of_decide_eq_true hp.1
  have h1 := List.all_eq_true.1 hp.2 k (List.mem_range.2 hk)
  rw [Bool.or_eq_true] at h1
  rcases h1 with h1 | h1
  · have := of_decide_eq_true h1; omega
  · exact low_at h s (by omega) k (by omega) (of_decide_eq_true h1) (by split <;> decide)

theorem text0 : plainText (fresh 0) 8 false = true := by decide +kernel
theorem text1 : plainText (fresh 1) 13 true = true := by decide +kernel
theorem text2 : plainText (fresh 2) 6 false = true := by decide +kernel
theorem text3 : plainText (fresh 3) 12 false = true := by decide +kernel
theorem text4 : plainText (fresh 4) 13 false = true := by decide +kernel

theorem size0 : (fresh 0).size ≤ 1048576 := by decide +kernel

theorem show0 : showHost 0 ((0 : Int) - 1) 0 = fresh 0 := by decide +kernel
theorem show1 : Jn.show ⟨0, decide ((1 : Int) = 1), 0, 0, 0, 0, ⟨#[]⟩, []⟩ = fresh 1 := by decide +kernel
theorem show2 : showFrees [] = fresh 2 := rfl
theorem show3 : showVol ((0 : Int) - 1) 0 (decide ((0 : Int) = 1)) ([0, 0, 0, 0].map (· + -1)) = fresh 3 := by decide +kernel
theorem show4 : showGroup ((0 : Int) - 1) 0 [0, 0, 0, 0, 0, 0] = fresh 4 := by decide +kernel

theorem read0 {R : ByteArray → Int × Nat} (h : Low R) : readHost R (fresh 0) = some (-1 + 1, -1, 0) := by
  have hp := fun k h5 hk => plain_at h (by decide) text0 k h5 hk
  have hn := nums_low (R := R) (s := fresh 0) (i := 5) (f := fun _ => 0) 3 (fun j hj => by rw [hp (5 + j) (by omega) (by omega)]; rfl)
  unfold readHost
  rw [hn]
  show (if showHost 0 (0 - 1) 0 = fresh 0 then some ((0 : Int), (0 : Int) - 1, (0 : Int)) else none) = _
  rw [if_pos show0]
  rfl

theorem read1 {R : ByteArray → Int × Nat} (h : Low R) : readJn R (fresh 1) = some J0 := by
  have hp := fun k h5 hk => plain_at h (by decide) text1 k h5 hk
  have hn := nums_low (R := R) (s := fresh 1) (i := 5) (f := fun j => if j = 1 then 1 else 0) 6 (fun j hj => by
    rw [hp (5 + j) (by omega) (by omega)]
    have : j = 0 ∨ j = 1 ∨ j = 2 ∨ j = 3 ∨ j = 4 ∨ j = 5 := by omega
    rcases this with rfl | rfl | rfl | rfl | rfl | rfl <;> rfl)
  have h11 := hp 11 (by decide) (by decide)
  have h12 := hp 12 (by decide) (by decide)
  have hpc : pieceAt R (fresh 1) 11 = some (⟨#[]⟩, 12) := by
    unfold pieceAt
    rw [h11]
    rw [if_neg (by decide), if_neg (by show ¬ (((rest (fresh 1) (11 + 1)).size : Int) < 0); omega)]
    have e : (rest (fresh 1) (11 + 1)).extract 0 (0 : Int).toNat = ⟨#[]⟩ := by
      have hs : ((rest (fresh 1) (11 + 1)).extract 0 (0 : Int).toNat).size = 0 := by simp
      exact ByteArray.ext (Array.eq_empty_of_size_eq_zero hs)
    show some ((rest (fresh 1) (11 + 1)).extract 0 (0 : Int).toNat, 11 + 1 + (0 : Int).toNat) = _
    rw [e]
    rfl
  have ho : outsAll R (fresh 1) 12 = some ([], 13) := by
    unfold outsAll
    rw [h12]
    rw [if_neg (by decide)]
    rfl
  have hj : jnAt R (fresh 1) = some ([0, 1, 0, 0, 0, 0], ⟨#[]⟩, []) := by
    have hn2 : nums R (fresh 1) 5 6 = some ([0, 1, 0, 0, 0, 0], 11) := hn.trans rfl
    unfold jnAt
    simp only [hn2, hpc, ho]
  rw [readJn_yes hj, if_pos show1]
  rfl

theorem read2 {R : ByteArray → Int × Nat} (h : Low R) : readFrees R (fresh 2) = some [] := by
  have hp := plain_at h (by decide) text2 5 (by decide) (by decide)
  have hf : freesNums R (fresh 2) = some ([], 6) := by
    unfold freesNums
    rw [hp, if_neg (by decide)]
    rfl
  unfold readFrees
  rw [hf]
  show (if showFrees [] = fresh 2 then some ([] : List Int) else none) = _
  rw [if_pos show2]

theorem read3 {R : ByteArray → Int × Nat} (h : Low R) : readVol R (fresh 3) = some (-1, 0, false, [-1, -1, -1, -1]) := by
  have hp := fun k h5 hk => plain_at h (by decide) text3 k h5 hk
  have hn := nums_low (R := R) (s := fresh 3) (i := 5) (f := fun _ => 0) 7 (fun j hj => by rw [hp (5 + j) (by omega) (by omega)]; rfl)
  unfold readVol
  rw [hn]
  show (if showVol ((0 : Int) - 1) 0 (decide ((0 : Int) = 1)) ([0, 0, 0, 0].map (· + -1)) = fresh 3 then some ((0 : Int) - 1, (0 : Int), decide ((0 : Int) = 1), ([0, 0, 0, 0] : List Int).map (· + -1)) else none) = _
  rw [if_pos show3]
  rfl

theorem read4 {R : ByteArray → Int × Nat} (h : Low R) : readGroup R (fresh 4) = some (-1, 0, [0, 0, 0, 0, 0, 0]) := by
  have hp := fun k h5 hk => plain_at h (by decide) text4 k h5 hk
  have hn := nums_low (R := R) (s := fresh 4) (i := 5) (f := fun _ => 0) 8 (fun j hj => by rw [hp (5 + j) (by omega) (by omega)]; rfl)
  unfold readGroup
  rw [hn]
  show (if showGroup ((0 : Int) - 1) 0 [0, 0, 0, 0, 0, 0] = fresh 4 then some ((0 : Int) - 1, (0 : Int), ([0, 0, 0, 0, 0, 0] : List Int)) else none) = _
  rw [if_pos show4]
  rfl

theorem fmt_at : ∀ i, i < 34 → fmt.getD i ByteArray.empty = fresh (kindOf i) := by decide +kernel
theorem fmt_small : ∀ s ∈ fmt, s.size ≤ 1048576 := by decide +kernel
theorem kind_le : ∀ i, i < 34 → kindOf i < 6 := by decide +kernel

theorem fmt_pool {R : ByteArray → Int × Nat} (h : Low R) : poolOk R fmt = true := pool_yes fmt_length (fun i hi => by
  rw [fmt_at i hi]
  have hk := kind_le i hi
  generalize kindOf i = k at *
  have : k = 0 ∨ k = 1 ∨ k = 2 ∨ k = 3 ∨ k = 4 ∨ k = 5 := by omega
  rcases this with rfl | rfl | rfl | rfl | rfl | rfl
  · show (readHost R (fresh 0)).isSome = true; rw [read0 h]; rfl
  · show (readJn R (fresh 1)).isSome = true; rw [read1 h]; rfl
  · show (readFrees R (fresh 2)).isSome = true; rw [read2 h]; rfl
  · show (readVol R (fresh 3)).isSome = true; rw [read3 h]; rfl
  · show (readGroup R (fresh 4)).isSome = true; rw [read4 h]; rfl
  · show decide (((fresh 5).size : Int) ≤ 16) = true; decide +kernel)

theorem fmt_step {R : ByteArray → Int × Nat} (h : Low R) (k : Nat) (hk : k < 3) : Re.step R k fmt = fmt := by
  unfold Re.step
  rw [if_pos (fmt_pool h)]
  unfold Re.redo1
  rw [fmt_at (3 + k) (by omega), kind1 k hk]
  show (match readJn R (fresh 1) with | some J => if J.done then (fmt, false) else (Re.redone J k fmt, true) | none => (fmt, false)).1 = fmt
  rw [read1 h]
  rfl

theorem fmt_settle {R : ByteArray → Int × Nat} (h : Low R) : Re.settle R fmt = fmt := by
  unfold Re.settle
  rw [if_pos (fmt_pool h)]
  show Re.step R 2 (Re.step R 1 (Re.step R 0 fmt)) = fmt
  rw [fmt_step h 0 (by decide), fmt_step h 1 (by decide), fmt_step h 2 (by decide)]

theorem fmt_vol {R : ByteArray → Int × Nat} (h : Low R) (i : Nat) (hi : i < 4) : readVol R (fmt.getD (9 + i) ByteArray.empty) = some (-1, 0, false, [-1, -1, -1, -1]) := by
  rw [fmt_at (9 + i) (by omega), kind3 i hi]; exact read3 h

theorem fmt_absOk {R : ByteArray → Int × Nat} (h : Low R) : absOk R fmt = true := by unfold absOk; rw [fmt_settle h]; exact fmt_pool h

theorem fmt_avol {R : ByteArray → Int × Nat} (h : Low R) (i : Nat) (hi : i < 4) : ivData (avol R fmt i) = noneD := by
  unfold avol
  rw [fmt_vol h i hi]
  rfl

theorem fmt_abs {R : ByteArray → Int × Nat} (h : Low R) : absD R fmt = List.replicate 4 noneD := by
  unfold absD
  rw [if_pos (fmt_absOk h), fmt_settle h]
  show [ivData (avol R fmt 0), ivData (avol R fmt 1), ivData (avol R fmt 2), ivData (avol R fmt 3)] = _
  rw [fmt_avol h 0 (by decide), fmt_avol h 1 (by decide), fmt_avol h 2 (by decide), fmt_avol h 3 (by decide)]
  rfl

theorem fmt_refs {R : ByteArray → Int × Nat} (h : Low R) : refsA R fmt = true := by
  unfold refsA
  rw [fmt_settle h]
  unfold refsOk
  rw [fmt_pool h, Bool.true_and]
  have hv : ∀ i, i < 4 → ups (volL R (fmt.getD (9 + i) ByteArray.empty)) = [] := fun i hi => by unfold volL; rw [fmt_vol h i hi]; rfl
  have hf : ∀ i, i < 3 → freeL R (fmt.getD (6 + i) ByteArray.empty) = [] := fun i hi => by unfold freeL; rw [fmt_at (6 + i) (by omega), kind2 i hi, read2 h]
  have hg : ∀ i, i < 3 → refL R (fmt.getD (13 + i) ByteArray.empty) = [0, 0, 0, 0, 0, 0] := fun i hi => by unfold refL; rw [fmt_at (13 + i) (by omega), kind4 i hi, read4 h]
  have e1 : holdL R fmt = [] := by
    unfold holdL
    rw [volsUp_succ, volsUp_succ, volsUp_succ, volsUp_succ, hv 0 (by decide), hv 1 (by decide), hv 2 (by decide), hv 3 (by decide), freesUp_succ, freesUp_succ, freesUp_succ, hf 0 (by decide), hf 1 (by decide), hf 2 (by decide)]
    rfl
  have e2 : refsUp R fmt 3 = List.replicate 18 0 := by
    rw [refsUp_succ, refsUp_succ, refsUp_succ, hg 0 (by decide), hg 1 (by decide), hg 2 (by decide)]
    rfl
  rw [e1, e2, cnt_nil]
  exact decide_eq_true rfl

end Go.Proofs.YtlbfcnpnfoapnaaGreatDoor.Ff
