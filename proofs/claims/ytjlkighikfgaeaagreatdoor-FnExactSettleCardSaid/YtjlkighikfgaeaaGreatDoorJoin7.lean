/-
  The walks of impl.copyTexts, impl.doneMark, the closure that writes a sector, and impl.replay. Condition: the tables of sixteen sums and of the kinds' sizes stand in their variables.
  The walk of impl.replay. Condition: the tables of sixteen sums and of the kinds' sizes stand in their variables.
  The walk of impl.Redo. Condition: the tables of sixteen sums and of the kinds' sizes and the error of a part that lacks stand in their variables.
  The walk of impl.Settle. Condition: the tables of sixteen sums and of the kinds' sizes and the error of a part that lacks stand in their variables.
  The walk of laws.FnExactSettle: the law answers true, and nothing that was there is changed. Condition: the tables of sixteen sums and of the kinds' sizes and the error of a part that lacks stand in their variables.
  A list of texts that comes in as an argument: what it is in memory. No condition.
-/
import Derived.Test.YtjlkighikfgaeaaGreatDoorJoin6
import Derived.Test.YtjlkighikfgaeaaGreatDoorJoin5
import Derived.Test.YtjlkighikfgaeaaGreatDoorJoin2
import Derived.Defers
import Derived.Tactics
import Derived.Tactics2
import Derived.Test.YtjlkighikfgaeaaGreatDoorJoin3
import Derived.Test.YtjlkighikfgaeaaGreatDoorJoin1
import Derived.Test.YtjlkighikfgaeaaGreatDoorRows
import Derived.ProofKit
import Derived.OpenShut
import Derived.ShutString
import Derived.Lib.SmallJoins
import Derived.Deep.Strs
import Derived.Deep.Slices
import Derived.Carry
namespace Go.Proofs.YtjlkighikfgaeaaGreatDoor.Re
open Go.RowKit Go.Proofs.YtjlkighikfgaeaaGreatDoor.Mem Go.Proofs.YtjlkighikfgaeaaGreatDoor.Sec Go.Proofs.YtjlkighikfgaeaaGreatDoor.Rd Go.Proofs.YtjlkighikfgaeaaGreatDoor.Pk
set_option linter.unusedVariables false

set_option maxRecDepth 100000 in
set_option maxHeartbeats 1000000 in
theorem copyTexts (w : World) (ad : Addr) (cap : Nat) (l : List ByteArray) (S : Strs w (some ad) l) (hl : l.length = 34) :
    Calls Tryz.prog 36 #[.slice (some ad) 34 cap] w fun e w' => ∃ b off c, e = .returned (.slice (some ⟨b, off, none⟩) 34 c) ∧ StrsW w' w.heap.size (some ⟨b, off, none⟩) l ∧ Below w.heap.size w w' := by
  have HN := hid (news_sl S)
  have H1 := hid (news_one l)
  have HL := hid hl
  clear S
  go_enter Tryz.func36, Tryz.ntmps36
  go_wp2_with (at_builtin; refine wpList_app 24 9 (.string ByteArray.empty) 1 16 Tryz.underlying24 infoS rfl (by decide) (by decide) w rfl (.const (.slice none 0 0)) (.tmp 3) rfl w.heap.size (.slice none 0 0) 0 [] rfl (Or.inl ⟨none, rfl, rfl, rfl⟩) ad 34 cap (l.map .string) rfl (by simp [hl]) (hl ▸ HN.out) H1.out (by decide) (Nat.le_refl _) ?_; intro v1 w1 r1 kk _; have HK := hid (kk.below (B := w.heap.size) (Nat.le_refl _) (fun b _ x => by cases x)); obtain ⟨a1, c1, rfl, hW⟩ := row_strs r1; have HW := hid hW; obtain ⟨b1, o1, rfl, _⟩ := hW 0 (by omega); clear hW r1 kk; rw [hl])
  go_ret
  exact ⟨b1, o1, ⟨c1, rfl⟩, HW.out, HK.out⟩

set_option maxRecDepth 100000 in
set_option maxHeartbeats 1000000 in
theorem doneMark (w : World) (h : Nat) (hh : h < 3) (t : Int) (T : Sums w) (K : Sector.Kinds w) (hg : 0 < w.heap.size) :
    Calls Tryz.prog 88 #[.int .i64 (h : Int), .int .i64 t] w fun e w' => e = .returned (.agg #[.int .i64 ((3 + h : Nat) : Int), .string (JD t).show]) ∧ Below w.heap.size w w' := by
  have HT := hid T
  have HK := hid K
  clear T K
  obtain ⟨wa, hwa, ez, A0, B0⟩ := one_new w [.int .i64 0, .string ⟨#[]⟩] 75
  have HShow : Hid (∀ w, Sums w → Calls Tryz.prog 87 #[.agg #[.int .i64 t, .bool true, .int .i64 0, .int .i64 0, .int .i64 0, .int .i64 0, .string ⟨#[]⟩, .slice none 0 0]] w fun e w' => e = .returned (.string (JD t).show) ∧ Below w.heap.size w w') := fun w hw => iShowJournal w (JD t) none 0 (fun i hi => by cases hi) (JD_small t) hw
  have HA := hid A0
  have HB := hid B0
  have HKa := hid (kinds_below HK.out hg B0)
  have HTa := hid (HT.out.below B0)
  clear A0 B0 HT HK
  go_enter Tryz.func88, Tryz.ntmps88
  go_wp2_with fail
  refine (Sector.impl_sector 1 (h : Int) _ (by first | exact HKa.out | (rw [hwa]; exact HKa.out))).mono ?_
  rintro e w1 ⟨rfl, hw1⟩
  obtain rfl := hw1.symm
  rw [sec1 h hh]
  go_wp2_with fail
  refine (HShow.out wa HTa.out).mono ?_
  rintro e w2 ⟨rfl, b2⟩
  have HA2 := hid (HA.out.below b2 HA.out.lt)
  have HB2 := hid (HB.out.trans (b2.mono HB.out.size))
  have c0 := HA2.out.c 0 rfl
  have c1 := HA2.out.c 1 rfl
  have f0 := HA2.out.f 0
  have f1 := HA2.out.f 1
  have HRw := hid ((HA2.out.set 0 (.int .i64 ((3 + h : Nat) : Int))).set 1 (.string (JD t).show))
  have HBf := hid (((HB2.out.setCell (p := ⟨w.heap.size, 0, none⟩) (Nat.le_refl _) (.int .i64 ((3 + h : Nat) : Int))).setCell (p := ⟨w.heap.size, 1, none⟩) (Nat.le_refl _) (.string (JD t).show)))
  clear b2 HA HB
  go_wp2
  refine bodyPost_ret (results_row rfl _ _ w.heap.size [.int .i64 ((3 + h : Nat) : Int), .string (JD t).show] _ rfl HRw.out Tryz.underlying75 rfl (by kernel_rfl)) rfl ?_
  exact ⟨rfl, HBf.out⟩

set_option maxRecDepth 100000 in
set_option maxHeartbeats 1000000 in
theorem writes (w : World) (B g b off cap : Nat) (l : List ByteArray) (S : StrsW w B (some ⟨b, off, none⟩) l) (hl : l.length = 34) (hg : w.cell? ⟨g, 0, none⟩ = some (.slice (some ⟨b, off, none⟩) 34 cap)) (n : Nat) (hn : n < 34) (t : ByteArray) :
    Calls Tryz.prog 41 #[.agg #[.int .i64 (n : Int), .string t], .pointer (some ⟨g, 0, none⟩)] w fun e w' => e = .returned (.tuple #[]) ∧ StrsW w' B (some ⟨b, off, none⟩) (l.set n t) ∧ Kept (fun k => k = b) w w' := by
  have hgl := World.block_lt_of_cell? w _ hg
  have hbl : b < w.heap.size := (Wr.sl S).lt ⟨by omega, off, rfl⟩
  have hn' : (n : Int) < 34 := by omega
  obtain ⟨wa, hwa, ez, A0, B0⟩ := one_new w [.int .i64 (n : Int), .string t] 75
  have hga := (B0.cell (p := ⟨g, 0, none⟩) hgl).trans hg
  have HS : Hid (StrsW wa B (some ⟨b, off, none⟩) l) := Wr.below S B0
  obtain ⟨hc, hf⟩ := cellsW HS.out n (by omega)
  have a0 := A0.c 0 rfl
  have a1 := A0.c 1 rfl
  have HSet := hid (strsW_set HS.out n (by omega) t)
  have HK : Hid (Kept (fun k => k = b) w (wa.setCell ⟨b, off + n, none⟩ (.string t))) := ((Kept.of_below (S := fun k => k = b) B0).trans (kept_set wa b (off + n) (.string t))).mono (fun k _ x => by rcases x with x | x <;> exact x)
  clear S hg A0 B0 HS
  go_enter Tryz.func41, Tryz.ntmps41
  go_wp2
  go_end0
  exact ⟨rfl, HSet.out, HK.out⟩

set_option maxRecDepth 100000 in
set_option maxHeartbeats 1000000 in
theorem writesD (w : World) (B g b off cap : Nat) (l : List ByteArray) (S : StrsW w B (some ⟨b, off, none⟩) l) (hl : l.length = 34) (hg : w.cell? ⟨g, 0, none⟩ = some (.slice (some ⟨b, off, none⟩) 34 cap)) (n : Nat) (hn : n < 34) (t : ByteArray) (u : FrameMode) :
    CallsD Tryz.prog 41 #[.agg #[.int .i64 (n : Int), .string t], .pointer (some ⟨g, 0, none⟩)] u w fun e u' w' => u' = u ∧ e = .returned (.tuple #[]) ∧ StrsW w' B (some ⟨b, off, none⟩) (l.set n t) ∧ Kept (fun k => k = b) w w' := by
  have hgl := World.block_lt_of_cell? w _ hg
  have hbl : b < w.heap.size := (Wr.sl S).lt ⟨by omega, off, rfl⟩
  have hn' : (n : Int) < 34 := by omega
  obtain ⟨wa, hwa, ez, A0, B0⟩ := one_new w [.int .i64 (n : Int), .string t] 75
  have hga := (B0.cell (p := ⟨g, 0, none⟩) hgl).trans hg
  have HS : Hid (StrsW wa B (some ⟨b, off, none⟩) l) := Wr.below S B0
  obtain ⟨hc, hf⟩ := cellsW HS.out n (by omega)
  have a0 := A0.c 0 rfl
  have a1 := A0.c 1 rfl
  have HSet := hid (strsW_set HS.out n (by omega) t)
  have HK : Hid (Kept (fun k => k = b) w (wa.setCell ⟨b, off + n, none⟩ (.string t))) := ((Kept.of_below (S := fun k => k = b) B0).trans (kept_set wa b (off + n) (.string t))).mono (fun k _ x => by rcases x with x | x <;> exact x)
  clear S hg A0 B0 HS
  go_enter_d Tryz.func41, Tryz.ntmps41
  go_wp2
  go_end0
  exact ⟨rfl, HSet.out, HK.out⟩

end Go.Proofs.YtjlkighikfgaeaaGreatDoor.Re

namespace Go.Proofs.YtjlkighikfgaeaaGreatDoor.Re
open Go.RowKit Go.Proofs.YtjlkighikfgaeaaGreatDoor.Mem Go.Proofs.YtjlkighikfgaeaaGreatDoor.Sec Go.Proofs.YtjlkighikfgaeaaGreatDoor.Rd Go.Proofs.YtjlkighikfgaeaaGreatDoor.Pk
set_option linter.unusedVariables false

set_option maxRecDepth 100000 in
set_option maxHeartbeats 2000000 in
theorem replay (w : World) (B g b off cap : Nat) (l : List ByteArray) (S : StrsW w B (some ⟨b, off, none⟩) l) (hl : l.length = 34) (hg : w.cell? ⟨g, 0, none⟩ = some (.slice (some ⟨b, off, none⟩) 34 cap)) (hgb : g ≠ b)
    (J : Jn) (ad : Option Addr) (cp : Nat) (hO : Ous w ad J.outs) (hok : J.ok = true) (hd : J.done = false) (hf : ∀ k, foot ad (J.outs.length * 2) k → k ≠ b) (h : Nat) (hh : h < 3) (T : Sums w) (K : Sector.Kinds w) (hgk : 0 < w.heap.size) :
    Calls Tryz.prog 40 #[jnV J ad cp, .int .i64 (h : Int), .func (.func 41) #[] #[.pointer (some ⟨g, 0, none⟩)]] w fun e w' => e = .returned (.tuple #[]) ∧ StrsW w' B (some ⟨b, off, none⟩) (redone J h l) ∧ Kept (fun k => k = b) w w' := by
  have hgl := World.block_lt_of_cell? w _ hg
  have hbl : b < w.heap.size := (Wr.sl S).lt ⟨by omega, off, rfl⟩
  have hoo := open_outs hok hd
  have HAt := hid hoo.1
  have ho8 := hoo.2.1
  have HRd : Hid (redone J h l = (outs l J.outs).set (3 + h) (JD J.txn).show) := rfl
  obtain ⟨txn, dn, k, v, t, at_, s, o⟩ := J
  simp only [] at HAt ho8 HRd hd hO hf
  subst hd
  have HV : Hid (jnV ⟨txn, false, k, v, t, at_, s, o⟩ ad cp = .agg #[.int .i64 txn, .bool false, .int .i64 k, .int .i64 v, .int .i64 t, .int .i64 at_, .string s, .slice ad o.length cp]) := rfl
  rw [HV.out]
  obtain ⟨wa, hwa, ez, A0, B0⟩ := one_new w [.int .i64 txn, .bool false, .int .i64 k, .int .i64 v, .int .i64 t, .int .i64 at_, .string s, .slice ad o.length cp] 69
  have HA := hid A0
  have HB0 := hid B0
  have HS := hid (Wr.below S B0)
  have HOu : Hid (Ous wa ad o) := Sl.below hO B0
  have HF := hid hf
  have HGc := hid ((B0.cell (p := ⟨g, 0, none⟩) hgl).trans hg)
  have HT := hid (T.below B0)
  have HK := hid (kinds_below K hgk B0)
  have a0 := A0.c 0 rfl
  clear A0 B0 S hO hf hg T K hoo hok hgk
  go_enter_defers Tryz.func40, Tryz.ntmps40
  go_wp2_with fail
  refine (doneMark wa h hh txn HT.out HK.out (by omega)).mono ?_
  rintro e w1 ⟨rfl, b1⟩
  have HA1 := hid (HA.out.below b1 HA.out.lt)
  have HS1 : Hid (StrsW w1 B (some ⟨b, off, none⟩) l) := Wr.below HS.out b1
  have HO1 : Hid (Ous w1 ad o) := Sl.below HOu.out b1
  have hz1 := b1.size
  have hgc1 : w1.cell? ⟨g, 0, none⟩ = some (.slice (some ⟨b, off, none⟩) 34 cap) := (b1.cell (p := ⟨g, 0, none⟩) (by show g < _; omega)).trans HGc.out
  have HG1 := hid hgc1
  have HK1 : Hid (Kept (fun k => k = b) w w1) := ((Kept.of_below (S := fun k => k = b) HB0.out).trans (Kept.of_below (S := fun k => k = b) b1)).mono (fun k _ x => by rcases x with x | x <;> exact x)
  have a7 := HA1.out.c 7 rfl
  clear b1 HA HS HOu HGc HB0 HT HK hgc1 a0
  generalize (JD txn).show = mk at *
  go_wp2
  go_loopw [16] (fun i wr => ∃ m : Nat, m ≤ o.length ∧ i = .int .i64 (m : Int) ∧ Hid (StrsW wr B (some ⟨b, off, none⟩) (outs l (o.take m))) ∧ Hid (Kept (fun k => k = b) w wr) ∧ Hid (wr.cell? ⟨g, 0, none⟩ = some (.slice (some ⟨b, off, none⟩) 34 cap)) ∧ Hid (Ous wr ad o)) (fun i _ => o.length - (intOf i).toNat)
  case atStart => exact ⟨0, Nat.zero_le _, rfl, HS1, HK1, HG1, HO1⟩
  case round =>
    obtain ⟨m, hm, rfl, HW, HKw, HGw, HOw⟩ := hrel
    by_cases hlt : m < o.length
    · obtain ⟨bo, oo, rfl, c0, c1⟩ := Ous.at_ HOw.out m hlt
      have hat := HAt.out m hlt
      have HTk := hid (outs_take l o m hlt)
      have HLen : Hid ((outs l (o.take m)).length = 34) := (outs_length _ _).trans hl
      unfold outAt at hat
      generalize o.getD m Ou.none = x at c0 c1 hat HTk
      obtain ⟨xs, xt⟩ := x
      simp only [] at c0 c1 hat HTk
      have hx0 := hat.1.1
      have hx1 := hat.1.2
      clear hat
      obtain ⟨q, rfl⟩ : ∃ q : Nat, xs = (q : Int) := ⟨xs.toNat, by omega⟩
      have hq34 : q < 34 := by omega
      rw [Int.toNat_natCast] at HTk
      obtain ⟨wx, hwx, ezx, Ax, Bx⟩ := one_new wr [.int .i64 (q : Int), .string xt] 75
      have x0 := Ax.c 0 rfl
      have x1 := Ax.c 1 rfl
      have HWx : Hid (StrsW wx B (some ⟨b, off, none⟩) (outs l (o.take m))) := Wr.below HW.out Bx
      have HGx := hid ((Bx.cell (p := ⟨g, 0, none⟩) (World.block_lt_of_cell? wr _ HGw.out)).trans HGw.out)
      have HOx : Hid (Ous wx (some ⟨bo, oo, none⟩) o) := Sl.below HOw.out Bx
      have HKx : Hid (Kept (fun k => k = b) w wx) := (HKw.out.trans (Kept.of_below (S := fun k => k = b) Bx)).mono (fun k _ x => by rcases x with x | x <;> exact x)
      clear Ax Bx
      go_wp2_with fail
      refine (writes wx B g b off cap _ HWx.out HLen.out HGx.out q hq34 xt).mono ?_
      rintro e w5 ⟨rfl, hW5, k5⟩
      have HW5 := hid hW5
      have HK5 : Hid (Kept (fun k => k = b) w w5) := (HKx.out.trans k5).mono (fun k _ x => by rcases x with x | x <;> exact x)
      have HG5 : Hid (w5.cell? ⟨g, 0, none⟩ = some (.slice (some ⟨b, off, none⟩) 34 cap)) := (cell_block (p := ⟨g, 0, none⟩) (k5.block g (World.block_lt_of_cell? wx _ HGx.out) hgb)).trans HGx.out
      have HO5 : Hid (Ous w5 (some ⟨bo, oo, none⟩) o) := Sl.move HOx.out k5 (fun k hk x => HF.out k hk x)
      clear hW5 k5
      go_wp2
      exact ⟨⟨m + 1, by omega, by go_num, by rw [HTk.out]; exact HW5, HK5, HG5, HO5⟩, by simp [intOf]; omega⟩
    · obtain rfl : m = o.length := by omega
      have HLen : Hid ((outs l o).length = 34) := (outs_length _ _).trans hl
      rw [List.take_length] at HW
      have hsec : 3 + (h : Int) = ((3 + h : Nat) : Int) := by omega
      go_wp2
      rw [hsec]
      refine leaves_cons (f := 41) (args := #[.agg #[.int .i64 ((3 + h : Nat) : Int), .string mk], .pointer (some ⟨g, 0, none⟩)]) (by simp) (by simp [go_sem]) ?_
      refine (writesD wr B g b off cap _ HW.out HLen.out HGw.out (3 + h) (by omega) mk .returning).mono ?_
      rintro e u' w6 ⟨rfl, rfl, hW6, k6⟩
      have HK6 : Kept (fun k => k = b) w w6 := (HKw.out.trans k6).mono (fun k _ x => by rcases x with x | x <;> exact x)
      refine ⟨_, results_none rfl _ _ _, rfl, ?_, HK6⟩
      rw [HRd.out]
      exact hW6

end Go.Proofs.YtjlkighikfgaeaaGreatDoor.Re

namespace Go.Proofs.YtjlkighikfgaeaaGreatDoor.Re
open Go.RowKit Go.Proofs.YtjlkighikfgaeaaGreatDoor.Mem Go.Proofs.YtjlkighikfgaeaaGreatDoor.Sec Go.Proofs.YtjlkighikfgaeaaGreatDoor.Rd Go.Proofs.YtjlkighikfgaeaaGreatDoor.Pk
set_option linter.unusedVariables false

set_option maxRecDepth 100000 in
set_option maxHeartbeats 2000000 in
theorem iRedo (R : ByteArray → Int × Nat) (hR : Reads R) (hTx : ∀ s : ByteArray, s.size ≤ maxLen → Tx s (R s)) (w : World) (a : Option Addr) (cap : Nat) (l : List ByteArray) (S : Strs w a l) (hl : l.length ≤ 1048576) (hz : ∀ s ∈ l, s.size ≤ 1048576) (u : TypeId) (pv : Value) (hL : Lacks w u pv) (T : Sums w) (K : Sector.Kinds w) (hg : 0 < w.heap.size) (h : Int) :
    Calls Tryz.prog 9 #[.slice a l.length cap, .int .i64 h] w fun e w' => ∃ a' c', e = .returned (.tuple #[.slice a' (redo R l h).1.length c', .bool (redo R l h).2]) ∧ StrsW w' w.heap.size a' (redo R l h).1 ∧ Below w.heap.size w w' := by
  have hmf : ∀ (fn : Fn) (first cap : Array Value) (w : World), (Instr.makeFunc fn first cap).run Tryz.prog w = .ok (.func fn first cap) w := fun _ _ _ _ => rfl
  have HR := hid hR
  have HTx := hid hTx
  have HS := hid S
  have HZ := hid hz
  have HL := hid hL
  have HT := hid T
  have HK := hid K
  have HG := hid hg
  clear hR hTx S hz hL T K hg
  go_enter Tryz.func9, Tryz.ntmps9
  go_wp2_with fail
  refine (iPoolOk R HR.out HTx.out w a cap l HS.out hl HZ.out u pv HL.out HT.out HK.out HG.out).mono ?_
  rintro e w1 ⟨rfl, b1⟩
  have HB1 := hid b1
  have HS1 : Hid (Strs w1 a l) := Sl.below HS.out b1
  clear b1 HS
  cases hp : poolOk R l with
  | false =>
    have HE := hid (redo_no hp h)
    clear hp
    go_wp2
    go_ret2
    rw [HE.out]
    exact ⟨none, 0, rfl, fun i hi => (by cases hi), HB1.out⟩
  | true =>
    have hlen := pool_len hp
    have HP := hid hp
    clear hp hl
    rw [hlen]
    obtain ⟨b, o, rfl, _⟩ := HS1.out 0 (by omega)
    go_wp2_with fail
    refine (copyTexts w1 ⟨b, o, none⟩ cap l HS1.out hlen).mono ?_
    rintro e w2 ⟨b2, o2, c2, rfl, hW2, bb2⟩
    obtain ⟨w3, hw3, ez3, A3, B3⟩ := one_new w2 [.slice (some ⟨b2, o2, none⟩) 34 c2] 24
    have HB3 := hid (HB1.out.trans ((bb2.trans (B3.mono bb2.size)).mono HB1.out.size))
    have HW3 : Hid (StrsW w3 w1.heap.size (some ⟨b2, o2, none⟩) l) := Wr.below hW2 B3
    have HA3 := hid A3
    have HS3 : Hid (Strs w3 (some ⟨b, o, none⟩) l) := Sl.below (Sl.below HS1.out bb2) B3
    have hb2 : w1.heap.size ≤ b2 := Wr.foot_ge hW2 ⟨by omega, o2, rfl⟩
    have hb2' : b2 < w2.heap.size := (Wr.sl hW2).lt ⟨by omega, o2, rfl⟩
    have h01 := HB1.out.size
    have a0 := A3.c 0 rfl
    clear hW2 bb2 A3 B3 HS1
    by_cases hh : 0 ≤ h ∧ h < 3
    · obtain ⟨n, rfl⟩ : ∃ n : Nat, h = (n : Int) := ⟨h.toNat, by omega⟩
      have hn : n < 3 := by omega
      have HE := hid (redo_is HP.out n hn)
      obtain ⟨J, hJ⟩ := pool_jn HP.out n hn
      have HOk := hid (readJn_ok HR.out (getD_size HZ.out _) hJ)
      have HD := hid (@redo1_done R n l J hJ)
      have HO := hid (@redo1_open R n l J hJ)
      have HJ := hid hJ
      have HZn := hid (getD_size HZ.out (3 + n))
      clear hJ hh
      go_wp2_with fail
      refine (isHost (n : Int) w3).mono ?_
      rintro e w4 ⟨rfl, hw4⟩
      obtain rfl := hw4.symm
      rw [decide_eq_true (show (0 : Int) ≤ (n : Int) ∧ (n : Int) < 3 by omega)]
      go_wp2_with fail
      refine (Sector.impl_sector 1 (n : Int) w3 (kinds_below HK.out HG.out HB3.out)).mono ?_
      rintro e w4 ⟨rfl, hw4⟩
      obtain rfl := hw4.symm
      rw [sec1 n hn]
      obtain ⟨p, hpp⟩ : ∃ p : Nat, p = 3 + n := ⟨_, rfl⟩
      have HPp := hid hpp
      have hp34 : (p : Int) < 34 := by omega
      have hc := cells34 HS3.out hlen w3 (Below.refl _ _) p (by omega)
      rw [← hpp] at HJ HZn
      rw [← hpp]
      clear hpp
      obtain ⟨s, hs⟩ : ∃ s, s = l.getD p ByteArray.empty := ⟨_, rfl⟩
      rw [← hs] at hc HJ HZn
      clear hs
      go_wp2_with fail
      refine (iReadJournal R HR.out s HZn.out (no_flagJn R HR.out HTx.out s HZn.out) w3 u pv (HL.out.kept (Kept.of_below (S := fun _ => False) HB3.out) (fun x => x)) (HT.out.below HB3.out)).mono ?_
      rintro e w4 ⟨J', ad, cp, ok, hi, rfl, hO4, b4⟩
      have hJJ : J' = J := by
        rcases hi with ⟨h1, h2, h3⟩ | ⟨h1, _⟩
        · rw [HJ.out] at h1
          cases h1
          rfl
        · rw [HJ.out] at h1; cases h1
      obtain rfl := hJJ
      obtain ⟨ad', cp', ea, hWo⟩ := Or2.w hO4
      cases ea
      have HF : Hid (∀ k, foot ad (J'.outs.length * 2) k → w3.heap.size ≤ k) := fun k hk => Wr.foot_ge hWo hk
      have HO4 : Hid (Ous w4 ad J'.outs) := Wr.sl hWo
      have HW4 : Hid (StrsW w4 w1.heap.size (some ⟨b2, o2, none⟩) l) := HW3.out.below b4
      have HB4 := hid (HB3.out.trans (b4.mono HB3.out.size))
      have HA4 := hid (HA3.out.below b4 HA3.out.lt)
      have h34 := b4.size
      clear hi hO4 hWo b4 HW3 HA3 HJ HZn hc a0
      obtain ⟨txn, dn, kd, v, tt, at_, tx, o'⟩ := J'
      simp only [] at HD HO HF HO4
      have HV : Hid (jnV ⟨txn, dn, kd, v, tt, at_, tx, o'⟩ ad cp = .agg #[.int .i64 txn, .bool dn, .int .i64 kd, .int .i64 v, .int .i64 tt, .int .i64 at_, .string tx, .slice ad o'.length cp]) := rfl
      rw [HV.out]
      obtain ⟨w5, hw5, ez5, A5, B5⟩ := one_new w4 [.int .i64 txn, .bool dn, .int .i64 kd, .int .i64 v, .int .i64 tt, .int .i64 at_, .string tx, .slice ad o'.length cp] 69
      have HW5 : Hid (StrsW w5 w1.heap.size (some ⟨b2, o2, none⟩) l) := HW4.out.below B5
      have HB5 := hid (HB4.out.trans (B5.mono HB4.out.size))
      have HO5 : Hid (Ous w5 ad o') := Sl.below HO4.out B5
      have HA5 := hid (HA4.out.below B5 HA4.out.lt)
      have j0 := A5.c 0 rfl
      have j1 := A5.c 1 rfl
      have j2 := A5.c 2 rfl
      have j3 := A5.c 3 rfl
      have j4 := A5.c 4 rfl
      have j5 := A5.c 5 rfl
      have j6 := A5.c 6 rfl
      have j7 := A5.c 7 rfl
      have a0 := HA5.out.c 0 rfl
      clear A5 B5 HW4 HA4 HO4
      cases dn with
      | true =>
        have HX := hid (HD.out rfl)
        clear HD HO
        go_wp2
        go_ret2
        rw [HE.out, HX.out]
        exact ⟨_, c2, by rw [hlen]; rfl, HW5.out.mono h01, HB5.out⟩
      | false =>
        have HX := hid (HO.out rfl)
        clear HD HO
        have HQ : Hid (Calls Tryz.prog 40 #[.agg #[.int .i64 txn, .bool false, .int .i64 kd, .int .i64 v, .int .i64 tt, .int .i64 at_, .string tx, .slice ad o'.length cp], .int .i64 (n : Int), .func (.func 41) #[] #[.pointer (some ⟨w2.heap.size, 0, none⟩)]] w5 fun e w' => e = .returned (.tuple #[]) ∧ StrsW w' w1.heap.size (some ⟨b2, o2, none⟩) (redone ⟨txn, false, kd, v, tt, at_, tx, o'⟩ n l) ∧ Kept (fun k => k = b2) w5 w') :=
          replay w5 w1.heap.size w2.heap.size b2 o2 c2 l HW5.out hlen a0 (by omega) ⟨txn, false, kd, v, tt, at_, tx, o'⟩ ad cp HO5.out HOk.out rfl (fun k hk => by have := HF.out k hk; omega) n hn (HT.out.below HB5.out) (kinds_below HK.out HG.out HB5.out) (Nat.lt_of_lt_of_le HG.out HB5.out.size)
        go_wp2_with fail
        refine HQ.out.mono ?_
        rintro e w6 ⟨rfl, hW6, k6⟩
        have HW6 := hid hW6
        have HB6 : Hid (Below w.heap.size w w6) := HB5.out.trans (k6.below HB5.out.size (fun k hk x => by omega))
        have a6 := (HA5.out.kept k6 (by omega)).c 0 rfl
        clear hW6 k6 HQ j0 j1 j2 j3 j4 j5 j6 j7 a0
        go_wp2
        go_ret2
        rw [HE.out, HX.out]
        exact ⟨_, c2, by rw [redone_length, hlen]; rfl, HW6.out.mono h01, HB6.out⟩
    · have HE := hid (redo_none HP.out hh)
      go_wp2_with fail
      refine (isHost h w3).mono ?_
      rintro e w4 ⟨rfl, hw4⟩
      obtain rfl := hw4.symm
      rw [decide_eq_false hh]
      go_wp2
      go_ret2
      rw [HE.out]
      exact ⟨_, c2, by rw [hlen]; rfl, HW3.out.mono h01, HB3.out⟩

end Go.Proofs.YtjlkighikfgaeaaGreatDoor.Re

namespace Go.Proofs.YtjlkighikfgaeaaGreatDoor.Re
open Go.RowKit Go.Proofs.YtjlkighikfgaeaaGreatDoor.Mem Go.Proofs.YtjlkighikfgaeaaGreatDoor.Sec Go.Proofs.YtjlkighikfgaeaaGreatDoor.Rd Go.Proofs.YtjlkighikfgaeaaGreatDoor.Pk
set_option linter.unusedVariables false

set_option maxRecDepth 100000 in
set_option maxHeartbeats 2000000 in
theorem iSettle (R : ByteArray → Int × Nat) (hR : Reads R) (hTx : ∀ s : ByteArray, s.size ≤ maxLen → Tx s (R s)) (w : World) (a : Option Addr) (cap : Nat) (l : List ByteArray) (S : Strs w a l) (hl : l.length ≤ 1048576) (hz : ∀ s ∈ l, s.size ≤ 1048576) (u : TypeId) (pv : Value) (hL : Lacks w u pv) (T : Sums w) (K : Sector.Kinds w) (hg : 0 < w.heap.size) :
    Calls Tryz.prog 13 #[.slice a l.length cap] w fun e w' => ∃ a' c', e = .returned (.slice a' (settle R l).length c') ∧ StrsW w' w.heap.size a' (settle R l) ∧ Below w.heap.size w w' := by
  have HR := hid hR
  have HTx := hid hTx
  have HL := hid hL
  have HT := hid T
  have HK := hid K
  have HG := hid hg
  have HQ0 := hid (iRedo R hR hTx w a cap l S hl hz u pv hL T K hg 0)
  have HZ := hid hz
  clear hR hTx S hL T K hg hz
  go_enter Tryz.func13, Tryz.ntmps13
  go_wp2_with fail
  refine HQ0.out.mono ?_
  rintro e w1 ⟨a1, c1, rfl, hW1, b1⟩
  have HB1 := hid b1
  have HW1 := hid hW1
  clear hW1 b1
  generalize hq : (redo R l 0).2 = q0
  clear hq
  cases hp : poolOk R l with
  | false =>
    have HE : Hid (settle R l = []) := by rw [Hid, settle, hp]; rfl
    have HX := hid (redo_no hp 0)
    have HNo : Hid (poolOk R [] = false) := pool_no1 (by decide)
    rw [HX.out] at HW1 ⊢
    clear hp
    have HPo : Hid (Calls Tryz.prog 35 #[.slice a1 0 c1] w1 fun e w' => e = .returned (.bool false) ∧ Below w1.heap.size w1 w') := by
      have hx := iPoolOk R HR.out HTx.out w1 a1 c1 [] (Wr.sl HW1.out) (by decide) (fun s hs => by cases hs) u pv (HL.out.kept (Kept.of_below (S := fun _ => False) HB1.out) (fun x => x)) (HT.out.below HB1.out) (kinds_below HK.out HG.out HB1.out) (Nat.lt_of_lt_of_le HG.out HB1.out.size)
      rw [HNo.out] at hx
      exact hx
    simp only [List.length_nil]
    go_wp2
    go_loopw [3, 5] (fun t i wr => t = .slice a1 0 c1 ∧ i = .int .i64 1 ∧ wr = w1) (fun _ i _ => 0)
    case atStart => exact ⟨rfl, rfl, rfl⟩
    case round =>
      obtain ⟨rfl, rfl, rfl⟩ := hrel
      go_wp2_with fail
      refine HPo.out.mono ?_
      rintro e w2 ⟨rfl, b2⟩
      have HB2 := hid (HB1.out.trans (b2.mono HB1.out.size))
      clear b2
      go_wp2
      go_ret
      rw [HE.out]
      exact ⟨_, _, rfl, fun i hi => (by cases hi), HB2.out⟩
  | true =>
    have hlen := pool_len hp
    have HE : Hid (settle R l = steps R l 3) := by rw [Hid, settle, hp]; rfl
    have HSz := hid (steps_size HR.out HZ.out)
    have HSl : Hid (∀ k, (steps R l k).length = 34) := fun k => (steps_length R l k).trans hlen
    have HX : Hid ((redo R l 0).1 = steps R l 1) := by
      have h0 := redo_is hp 0 (by decide)
      show (redo R l ((0 : Nat) : Int)).1 = step R 0 l
      rw [h0, step_yes hp]
    rw [HX.out] at HW1 ⊢
    rw [HSl.out]
    clear hp hl HX
    go_wp2
    go_loopw [3, 5] (fun t i wr => ∃ (m : Nat) (a' : Option Addr) (c' : Nat), 1 ≤ m ∧ m ≤ 3 ∧ i = .int .i64 (m : Int) ∧ t = .slice a' 34 c' ∧ Hid (StrsW wr w.heap.size a' (steps R l m)) ∧ Hid (Below w.heap.size w wr)) (fun _ i _ => 3 - (intOf i).toNat)
    case atStart => exact ⟨1, a1, c1, by decide, by decide, rfl, rfl, HW1, HB1⟩
    case round =>
      obtain ⟨m, a2, c2, hm1, hm, rfl, rfl, HWm, HBm⟩ := hrel
      by_cases hlt : m < 3
      · have HLm := hid (HL.out.kept (Kept.of_below (S := fun _ => False) HBm.out) (fun x => x))
        have HPo : Hid (Calls Tryz.prog 35 #[.slice a2 34 c2] wr fun e w' => e = .returned (.bool (poolOk R (steps R l m))) ∧ Below wr.heap.size wr w') := by
          have hx := iPoolOk R HR.out HTx.out wr a2 c2 (steps R l m) (Wr.sl HWm.out) (by rw [HSl.out]; decide) (HSz.out m) u pv HLm.out (HT.out.below HBm.out) (kinds_below HK.out HG.out HBm.out) (Nat.lt_of_lt_of_le HG.out HBm.out.size)
          rw [HSl.out] at hx
          exact hx
        go_wp2_with fail
        refine HPo.out.mono ?_
        rintro e w4 ⟨rfl, b4⟩
        have HW4 : Hid (StrsW w4 w.heap.size a2 (steps R l m)) := HWm.out.below b4
        have HB4 := hid (HBm.out.trans (b4.mono HBm.out.size))
        clear b4
        cases hp : poolOk R (steps R l m) with
        | false =>
          have HX := hid (steps_rest hp hm)
          clear hp
          go_wp2
          go_ret
          rw [HE.out, HX.out, HSl.out]
          exact ⟨_, c2, rfl, HW4.out, HB4.out⟩
        | true =>
          have HX : Hid ((redo R (steps R l m) (m : Int)).1 = steps R l (m + 1)) := by
            show _ = step R m (steps R l m)
            rw [redo_is hp m hlt, step_yes hp]
          have HQ : Hid (Calls Tryz.prog 9 #[.slice a2 34 c2, .int .i64 (m : Int)] w4 fun e w' => ∃ a' c' q, e = .returned (.tuple #[.slice a' 34 c', .bool q]) ∧ StrsW w' w4.heap.size a' (steps R l (m + 1)) ∧ Below w4.heap.size w4 w') := by
            have hx := iRedo R HR.out HTx.out w4 a2 c2 (steps R l m) (Wr.sl HW4.out) (by rw [HSl.out]; decide) (HSz.out m) u pv (HL.out.kept (Kept.of_below (S := fun _ => False) HB4.out) (fun x => x)) (HT.out.below HB4.out) (kinds_below HK.out HG.out HB4.out) (Nat.lt_of_lt_of_le HG.out HB4.out.size) (m : Int)
            rw [HX.out, HSl.out, HSl.out] at hx
            exact hx.mono (fun e w' ⟨a', c', he, r⟩ => ⟨a', c', _, he, r⟩)
          clear hp
          go_wp2_with fail
          refine HQ.out.mono ?_
          rintro e w5 ⟨a5, c5, q5, rfl, hW5, b5⟩
          have HW5 : Hid (StrsW w5 w.heap.size a5 (steps R l (m + 1))) := hW5.mono HB4.out.size
          have HB5 := hid (HB4.out.trans (b5.mono HB4.out.size))
          clear hW5 b5
          go_wp2
          exact ⟨⟨m + 1, a5, c5, by omega, by omega, by go_num, rfl, HW5, HB5⟩, by simp [intOf]; omega⟩
      · obtain rfl : m = 3 := by omega
        go_wp2
        go_ret
        rw [HE.out, HSl.out]
        exact ⟨_, c2, rfl, HWm.out, HBm.out⟩

end Go.Proofs.YtjlkighikfgaeaaGreatDoor.Re

namespace Go.Proofs.YtjlkighikfgaeaaGreatDoor.Re
open Go.RowKit Go.Proofs.YtjlkighikfgaeaaGreatDoor.Mem Go.Proofs.YtjlkighikfgaeaaGreatDoor.Sec Go.Proofs.YtjlkighikfgaeaaGreatDoor.Rd Go.Proofs.YtjlkighikfgaeaaGreatDoor.Pk
set_option linter.unusedVariables false

set_option maxRecDepth 100000 in
set_option maxHeartbeats 4000000 in
theorem lawSettle (w : World) (a : Option Addr) (cap : Nat) (l : List ByteArray) (S : Strs w a l) (hl : l.length ≤ maxLen) (hz : ∀ s ∈ l, s.size ≤ maxLen) (u : TypeId) (pv : Value) (hL : Lacks w u pv) (T : Sums w) (K : Sector.Kinds w) (hg : 0 < w.heap.size) :
    Calls Tryz.prog 6 #[.slice a l.length cap] w fun e w' => e = .returned (.bool true) ∧ Below w.heap.size w w' := by
  obtain ⟨R, hR, hTx⟩ := reads_ex2
  have HR := hid hR
  have HTx := hid hTx
  have HS := hid S
  have HL := hid hL
  have HT := hid T
  have HK := hid K
  have HG := hid hg
  have HM := hid hl
  have HZ := hid hz
  clear hR hTx S hL T K hg hz
  go_enter Tryz.func6, Tryz.ntmps6
  go_wp2_with fail
  refine (szStringS w a cap l 1048576 HS.out HM.out HZ.out (by decide) (by decide)).mono ?_
  rintro e w1 ⟨r, rfl, hw1, hf⟩
  obtain rfl := hw1.symm
  have HF := hid hf
  clear hf hl
  by_cases hneg : r < 0
  · go_wp2
    go_ret
    exact ⟨rfl, Below.refl _ _⟩
  have hfit : (l.length : Int) ≤ 1048576 ∧ ∀ s ∈ l, (s.size : Int) ≤ 1048576 := by
    rcases HF.out with h | h
    · omega
    · exact h.2.2
  have hl20 : l.length ≤ 1048576 := by omega
  have HZ20 : Hid (∀ s ∈ l, s.size ≤ 1048576) := fun s hs => by have := hfit.2 s hs; omega
  clear hfit HF HZ
  go_wp2_with fail
  refine (toStringS w a cap l HS.out hl20).mono ?_
  rintro e w2 ⟨g, rfl, _, _, hW2, b2⟩
  have HB2 := hid b2
  have HS2 := hid (Wr.sl hW2)
  clear hW2 b2
  go_wp2_with fail
  refine (sSettle R HR.out w2 (some ⟨g, 0, none⟩) l.length l HS2.out hl20 HZ20.out).mono ?_
  rintro e w3 ⟨a0, c0, rfl, hW3, b3⟩
  have HB3 := hid (HB2.out.trans (b3.mono HB2.out.size))
  have hlen := settle_length R l
  have HQ := hid (@iSettle R HR.out HTx.out)
  obtain ⟨L, hL2⟩ : ∃ L, settle R l = L := ⟨_, rfl⟩
  rw [hL2] at hlen hW3 ⊢
  have HP3 := hid (Wr.sl hW3)
  have hml : L.length ≤ maxLen := by unfold maxLen; omega
  clear b3 HS2 hW3
  go_wp2_with fail
  refine (toStringS w3 a cap l (Sl.below HS.out HB3.out) hl20).mono ?_
  rintro e w4 ⟨g2, rfl, hg2, _, hW4, b4⟩
  have HB4 := hid (HB3.out.trans (b4.mono HB3.out.size))
  have HX4 : Hid (StrsW w4 w3.heap.size (some ⟨g2, 0, none⟩) l) := hW4
  have HP4 : Hid (Strs w4 a0 L) := Sl.below HP3.out b4
  have HL3 : Hid (∀ b, foot a0 L.length b → b < w3.heap.size) := fun b hb => HP3.out.lt hb
  clear hW4 b4 HP3
  go_wp2_with fail
  refine (HQ.out w4 (some ⟨g2, 0, none⟩) l.length l (Wr.sl HX4.out) hl20 HZ20.out u pv (HL.out.kept (Kept.of_below (S := fun _ => False) HB4.out) (fun x => x)) (HT.out.below HB4.out) (kinds_below HK.out HG.out HB4.out) (Nat.lt_of_lt_of_le HG.out HB4.out.size)).mono ?_
  rintro e w5 ⟨a1, c1, rfl, hW5, b5⟩
  rw [hL2] at hW5 ⊢
  have HB5 := hid (HB4.out.trans (b5.mono HB4.out.size))
  have HX5 : Hid (StrsW w5 w3.heap.size (some ⟨g2, 0, none⟩) l) := Wr.below HX4.out b5
  have HP5 : Hid (Strs w5 a0 L) := Sl.below HP4.out b5
  have HW5 : Hid (StrsW w5 w4.heap.size a1 L) := hW5
  have HG4 : Hid (∀ b, foot (some ⟨g2, 0, none⟩) l.length b → w3.heap.size ≤ b ∧ b < w4.heap.size) := fun b hb => ⟨Wr.foot_ge HX4.out hb, (Wr.sl HX4.out).lt hb⟩
  have h34 := HB4.out.size
  have h23 : w3.heap.size ≤ w4.heap.size := by have := HG4.out; exact Nat.le_of_lt_succ (by omega)
  clear b5 hW5 HX4 HP4
  go_wp2_with fail
  refine (eqStringS w5 a1 a0 c1 c0 L L (Wr.sl HW5.out) HP5.out hml hml).mono ?_
  rintro e w6 ⟨rfl, b6⟩
  rw [decide_eq_true (rfl : L = L)]
  have HB6 := hid (HB5.out.trans (b6.mono HB5.out.size))
  have HX6 : Hid (StrsW w6 w3.heap.size (some ⟨g2, 0, none⟩) l) := Wr.below HX5.out b6
  have HP6 : Hid (Strs w6 a0 L) := Sl.below HP5.out b6
  have HW6 : Hid (StrsW w6 w4.heap.size a1 L) := Wr.below HW5.out b6
  clear b6 HX5 HP5 HW5
  go_wp2_with fail
  refine (toStringS w6 a cap l (Sl.below HS.out HB6.out) hl20).mono ?_
  rintro e w7 ⟨g3, rfl, _, _, hW7, b7⟩
  have HB7 := hid (HB6.out.trans (b7.mono HB6.out.size))
  have HX7 : Hid (StrsW w7 w3.heap.size (some ⟨g2, 0, none⟩) l) := Wr.below HX6.out b7
  have HP7 : Hid (Strs w7 a0 L) := Sl.below HP6.out b7
  have HW7 : Hid (StrsW w7 w4.heap.size a1 L) := Wr.below HW6.out b7
  have HS7 : Hid (Strs w7 (some ⟨g3, 0, none⟩) l) := Wr.sl hW7
  clear b7 HX6 HP6 HW6 hW7
  go_wp2_with fail
  refine (eqStringS w7 (some ⟨g2, 0, none⟩) (some ⟨g3, 0, none⟩) l.length l.length l l (Wr.sl HX7.out) HS7.out HM.out HM.out).mono ?_
  rintro e w8 ⟨rfl, b8⟩
  rw [decide_eq_true (rfl : l = l)]
  have HB8 := hid (HB7.out.trans (b8.mono HB7.out.size))
  have HX8 : Hid (StrsW w8 w3.heap.size (some ⟨g2, 0, none⟩) l) := Wr.below HX7.out b8
  have HP8 : Hid (Strs w8 a0 L) := Sl.below HP7.out b8
  have HW8 : Hid (StrsW w8 w4.heap.size a1 L) := Wr.below HW7.out b8
  clear b8 HX7 HP7 HW7 HS7
  go_wp2_with fail
  refine (markStringS w8 w3.heap.size (some ⟨g2, 0, none⟩) l.length l.length 1 _ HX8.out (by decide) (by omega)).mono ?_
  rintro e w9 ⟨rfl, _, k9⟩
  have h3w : w.heap.size ≤ w3.heap.size := HB3.out.size
  have HB9 : Hid (Below w.heap.size w w9) := HB8.out.trans (k9.below HB8.out.size (fun b hb x => by have := HG4.out b x; omega))
  have HP9 : Hid (Strs w9 a0 L) := Sl.move HP8.out k9 (fun b hb x => by have := HG4.out b x; have := HL3.out b hb; omega)
  have HW9 : Hid (StrsW w9 w4.heap.size a1 L) := Wr.move HW8.out k9 (fun b hb x => by have := HG4.out b x; have := Wr.foot_ge HW8.out hb; omega)
  have hk9 : (0 : Int) ≤ ((1 + l.length : Nat) : Int) := by omega
  generalize ((1 + l.length : Nat) : Int) = kk at *
  clear k9 HX8 HP8 HW8
  go_wp2_with fail
  refine (eqStringS w9 a1 a0 c1 c0 L L (Wr.sl HW9.out) HP9.out hml hml).mono ?_
  rintro e wa ⟨rfl, ba⟩
  rw [decide_eq_true (rfl : L = L)]
  have HBa := hid (HB9.out.trans (ba.mono HB9.out.size))
  have HPa : Hid (Strs wa a0 L) := Sl.below HP9.out ba
  have HWa : Hid (StrsW wa w4.heap.size a1 L) := Wr.below HW9.out ba
  clear ba HP9 HW9
  go_wp2_with fail
  refine (markStringS wa w4.heap.size a1 L.length c1 1 _ HWa.out (by decide) (by omega)).mono ?_
  rintro e wb ⟨rfl, hWb, kb⟩
  have HGa : Hid (∀ b, foot a1 L.length b → w4.heap.size ≤ b) := fun b hb => Wr.foot_ge HWa.out hb
  have HBb : Hid (Below w.heap.size w wb) := HBa.out.trans (kb.below HBa.out.size (fun b hb x => by have := HGa.out b x; omega))
  have HPb : Hid (Strs wb a0 L) := Sl.move HPa.out kb (fun b hb x => by have := HGa.out b x; have := HL3.out b hb; omega)
  have HWb := hid hWb
  have hm0 : (0 : Int) ≤ ((1 + L.length : Nat) : Int) := by omega
  obtain ⟨mk, hmk⟩ : ∃ mk : Int, ((1 + L.length : Nat) : Int) = mk := ⟨_, rfl⟩
  rw [hmk] at hm0 ⊢
  have HMK := hid hmk
  clear kb HPa HWa hWb hmk
  go_wp2_with fail
  refine (heldStringS wb a1 L.length c1 1 HWb.out.sl (by decide) (by omega)).mono ?_
  rintro e wc ⟨rfl, bc⟩
  have HBc := hid (HBb.out.trans (bc.mono HBb.out.size))
  have HPc : Hid (Strs wc a0 L) := Sl.below HPb.out bc
  have HWc := hid (HWb.out.below bc)
  rw [HMK.out]
  clear bc HPb HWb
  go_wp2_with fail
  refine (toStringS wc a cap l (Sl.below HS.out HBc.out) hl20).mono ?_
  rintro e wd ⟨g4, rfl, _, _, hWd, bd⟩
  have HBd := hid (HBc.out.trans (bd.mono HBc.out.size))
  have HPd : Hid (Strs wd a0 L) := Sl.below HPc.out bd
  have HWd := hid (HWc.out.below bd)
  have HSd : Hid (Strs wd (some ⟨g4, 0, none⟩) l) := Wr.sl hWd
  clear bd HPc HWc hWd
  go_wp2_with fail
  refine (HQ.out wd (some ⟨g4, 0, none⟩) l.length l HSd.out hl20 HZ20.out u pv (HL.out.kept (Kept.of_below (S := fun _ => False) HBd.out) (fun x => x)) (HT.out.below HBd.out) (kinds_below HK.out HG.out HBd.out) (Nat.lt_of_lt_of_le HG.out HBd.out.size)).mono ?_
  rintro e we ⟨a2, c2, rfl, hWe, be⟩
  rw [hL2] at hWe ⊢
  have HBe := hid (HBd.out.trans (be.mono HBd.out.size))
  have HPe : Hid (Strs we a0 L) := Sl.below HPd.out be
  have HWe := hid (HWd.out.below be)
  have HSe : Hid (Strs we a2 L) := Wr.sl hWe
  clear be HPd HWd hWe
  go_wp2_with fail
  refine (eqStringS we a2 a0 c2 c0 L L HSe.out HPe.out hml hml).mono ?_
  rintro e wf ⟨rfl, bf⟩
  rw [decide_eq_true (rfl : L = L)]
  have HBf := hid (HBe.out.trans (bf.mono HBe.out.size))
  have HWf := hid (HWe.out.below bf)
  clear bf HPe HWe HSe
  go_wp2_with fail
  refine (heldStringS wf a1 L.length c1 1 HWf.out.sl (by decide) (by omega)).mono ?_
  rintro e wg ⟨rfl, bg⟩
  rw [HMK.out]
  have HBg := hid (HBf.out.trans (bg.mono HBf.out.size))
  clear bg HWf
  go_wp2
  go_ret
  exact ⟨rfl, HBg.out⟩

end Go.Proofs.YtjlkighikfgaeaaGreatDoor.Re

namespace Go.Proofs.YtjlkighikfgaeaaGreatDoor.Pk
open Go.RowKit Go.ChangeShapes Go.WideShapes Go.ChangeAt Go.Joins Go.Deep
open Go.Proofs.YtjlkighikfgaeaaGreatDoor.Mem
set_option linter.unusedVariables false

variable {H : Type} {enc : TypeId × Value → H} {W : World} {base : Nat} {spare : Nat → Bool} {held : Bool}

theorem sl_of_add {w : World} {a : Addr} {m : Nat} {f : Nat → Value} (h : ∀ i, i < m → w.cell? (a.add i) = some (f i)) : Sl w (some a) m f := by
  intro i hi
  have hc := h i hi
  obtain ⟨b, off, sp⟩ := a
  have hs : sp = none := by simpa [Addr.add] using World.cell?_spot (h 0 (by omega))
  subst hs
  rw [Addr.add_mid] at hc
  exact ⟨b, off, rfl, hc⟩

theorem strs_in {fuel : Nat} {v : Value} {x : DataW H × List MemPlace} (h : DataW.trod enc Tryz.prog W base spare held fuel 24 [v] = some x) :
    ∃ a cap l, v = .slice a (l : List ByteArray).length cap ∧ Strs W a l ∧ l.length ≤ maxLen ∧ ∀ s ∈ l, s.size ≤ maxLen := by
  rcases open_strs Tryz.underlying24 Tryz.underlying9 (by kernel_rfl) h with ⟨hcs, _⟩ | ⟨a, len, cap, m, Sx, hcs, _, hl, hm, hmm, _, hx⟩
  · simp only [List.cons.injEq, and_true] at hcs
    exact ⟨none, 0, [], hcs, fun i hi => by simp at hi, by simp, by simp⟩
  · simp only [List.cons.injEq, and_true] at hcs
    have hlm : len ≤ m := by rw [hmm]; split <;> omega
    refine ⟨some a, cap, (List.range len).map Sx, by rw [hcs]; simp, ?_, by simp; omega, ?_⟩
    · unfold Strs
      rw [List.length_map, List.length_range]
      refine sl_of_add (fun i hi => ?_)
      rw [(hx i (by omega)).1]
      simp [List.getD, hi]
    · intro s hs
      obtain ⟨i, hi, rfl⟩ := List.mem_map.1 hs
      exact (hx i (by have := List.mem_range.1 hi; omega)).2

set_option maxRecDepth 100000 in
theorem strs_arg {v : Value} {d : DataW H} {p : List MemPlace} {r : Reach} {b0 : Nat} (hv : Value.okWide Tryz.prog W r b0 24 v) (h : DataW.Trod enc Tryz.prog W base spare held 24 v d p) :
    ∃ a cap l, v = .slice a (l : List ByteArray).length cap ∧ Strs W a l ∧ l.length ≤ maxLen ∧ ∀ s ∈ l, s.size ≤ maxLen := by
  obtain ⟨fuel, hf⟩ := h
  obtain ⟨a, len, cap, rfl⟩ := okWide_slice Tryz.underlying24 hv
  exact strs_in hf

end Go.Proofs.YtjlkighikfgaeaaGreatDoor.Pk
