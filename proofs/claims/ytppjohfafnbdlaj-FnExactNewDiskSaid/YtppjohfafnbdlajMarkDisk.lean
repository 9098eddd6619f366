/-
  The walks of laws.markWriteS, laws.markDisk, laws.heldWriteS and laws.heldDisk: marks are laid into a disk and found there again. No condition but a disk that may be written and numbers that are not too great.
-/
import Derived.Test.YtppjohfafnbdlajMarkRows
import Derived.Test.YtppjohfafnbdlajToDisk
namespace Go.Proofs.Ytppjohfafnbdlaj.Mem
open Go.RowKit
set_option linter.unusedVariables false

theorem Wr.setAt {w : World} {B b off o : Nat} {m : Nat} {f : Nat → Value} (h : Wr w B (some ⟨b, off, none⟩) m f) (i : Nat) (hi : i < m) (ho : o = off + i) (v : Value) :
    Wr (w.setCell ⟨b, o, none⟩ v) B (some ⟨b, off, none⟩) m (fun j => if j = i then v else f j) := by subst ho; exact h.set i hi v

/-- The four cells of write k, which may be written, wherever the slice begins. -/
theorem wr_at' {w : World} {B b off : Nat} {m : Nat} {f : Nat → Value} (h : Wr w B (some ⟨b, off, none⟩) m f) (k : Nat) (hk : k * 4 + 4 ≤ m) :
    (∃ v, w.cell? ⟨b, off + k * 4, none⟩ = some v) ∧ (∃ v, w.cell? ⟨b, off + k * 4 + 1, none⟩ = some v) ∧ (∃ v, w.cell? ⟨b, off + k * 4 + 2, none⟩ = some v) ∧ (∃ v, w.cell? ⟨b, off + k * 4 + 3, none⟩ = some v) ∧
    w.frozen? ⟨b, off + k * 4, none⟩ = false ∧ w.frozen? ⟨b, off + k * 4 + 1, none⟩ = false ∧ w.frozen? ⟨b, off + k * 4 + 2, none⟩ = false ∧ w.frozen? ⟨b, off + k * 4 + 3, none⟩ = false := by
  obtain ⟨_, _, e0, _, h0, z0⟩ := h (k * 4) (by omega)
  obtain ⟨_, _, e1, _, h1, z1⟩ := h (k * 4 + 1) (by omega)
  obtain ⟨_, _, e2, _, h2, z2⟩ := h (k * 4 + 2) (by omega)
  obtain ⟨_, _, e3, _, h3, z3⟩ := h (k * 4 + 3) (by omega)
  cases e0; cases e1; cases e2; cases e3
  rw [← Nat.add_assoc] at h1 h2 h3 z1 z2 z3
  exact ⟨⟨_, h0⟩, ⟨_, h1⟩, ⟨_, h2⟩, ⟨_, h3⟩, z0, z1, z2, z3⟩

/-- Cell i of a list of writes that was marked from k on. -/
def mw (k i : Nat) : Value := if i % 4 = 3 then .string (markS (k + i)) else .int .i64 ((k + i : Nat) : Int)
def msW (f : Nat → Value) (k j : Nat) (i : Nat) : Value := if i < j * 4 then mw k i else f i

theorem msW_succ (f : Nat → Value) (k j : Nat) (i : Nat) :
    (if i = j * 4 + 3 then Value.string (markS (k + (j * 4 + 3))) else if i = j * 4 + 2 then Value.int .i64 ((k + (j * 4 + 2) : Nat) : Int) else if i = j * 4 + 1 then Value.int .i64 ((k + (j * 4 + 1) : Nat) : Int) else if i = j * 4 then Value.int .i64 ((k + j * 4 : Nat) : Int) else msW f k j i) = msW f k (j + 1) i := by
  unfold msW mw
  by_cases h3 : i = j * 4 + 3
  · subst h3; rw [if_pos rfl, if_pos (by omega), if_pos (by omega)]
  by_cases h2 : i = j * 4 + 2
  · subst h2; rw [if_neg h3, if_pos rfl, if_pos (by omega), if_neg (by omega)]
  by_cases h1 : i = j * 4 + 1
  · subst h1; rw [if_neg h3, if_neg h2, if_pos rfl, if_pos (by omega), if_neg (by omega)]
  by_cases h0 : i = j * 4
  · subst h0; rw [if_neg h3, if_neg h2, if_neg h1, if_pos rfl, if_pos (by omega), if_neg (by omega)]
  rw [if_neg h3, if_neg h2, if_neg h1, if_neg h0]
  by_cases h : i < j * 4
  · rw [if_pos h, if_pos (show i < (j + 1) * 4 by omega)]
  · rw [if_neg h, if_neg (show ¬ i < (j + 1) * 4 by omega)]

set_option maxRecDepth 100000 in
set_option maxHeartbeats 1000000 in
theorem markWriteS (w : World) (B : Nat) (a : Option Addr) (n cap k : Nat) (f : Nat → Value) (S : Wr w B a (n * 4) f) (hk : 0 < k) (hb : k + n * 4 ≤ 4611686018427387904) :
    Calls Try.prog 40 #[.slice a n cap, .int .i64 (k : Int)] w fun e w' => e = .returned (.int .i64 ((k + n * 4 : Nat) : Int)) ∧ Wr w' B a (n * 4) (mw k) ∧ Kept (foot a (n * 4)) w w' := by
  have HS := hid S
  clear S
  go_enter Try.func40, Try.ntmps40
  go_wp2
  go_loopw [1, 5] (fun x i wr => ∃ j : Nat, j ≤ n ∧ i = .int .i64 (j : Int) ∧ x = .int .i64 ((k + j * 4 : Nat) : Int) ∧ Hid (Wr wr B a (n * 4) (msW f k j)) ∧ Hid (Kept (foot a (n * 4)) w wr)) (fun _ i _ => n - (intOf i).toNat)
  case atStart => exact ⟨0, Nat.zero_le _, rfl, rfl, HS.out.congr (fun i _ => by simp [msW]), Kept.refl _ _⟩
  case round =>
    obtain ⟨j, hj, rfl, rfl, HW, HK⟩ := hrel
    by_cases hlt : j < n
    · obtain ⟨b, off, rfl, hB, _, _⟩ := HW.out (j * 4) (by omega)
      obtain ⟨⟨u0, d0⟩, ⟨u1, d1⟩, ⟨u2, d2⟩, ⟨u3, d3⟩, z0, z1, z2, z3⟩ := wr_at' HW.out j (by omega)
      go_wp2_with fail
      have ek : ((k : Int) + (j : Int) * 4 + 1 + 1 + 1) = ((k + (j * 4 + 3) : Nat) : Int) := by omega
      have q0 := HW.out.setAt (o := off + j * 4) (j * 4) (by omega) rfl (.int .i64 ((k : Int) + (j : Int) * 4))
      have q1 := q0.setAt (o := off + j * 4 + 1) (j * 4 + 1) (by omega) (by omega) (.int .i64 ((k : Int) + (j : Int) * 4 + 1))
      have q2 := q1.setAt (o := off + j * 4 + 2) (j * 4 + 2) (by omega) (by omega) (.int .i64 ((k : Int) + (j : Int) * 4 + 1 + 1))
      have p2 := HK.out.trans (((kept_set wr b (off + j * 4) (.int .i64 ((k : Int) + (j : Int) * 4))).trans (kept_set _ b (off + j * 4 + 1) (.int .i64 ((k : Int) + (j : Int) * 4 + 1)))).trans (kept_set _ b (off + j * 4 + 2) (.int .i64 ((k : Int) + (j : Int) * 4 + 1 + 1))))
      generalize ((wr.setCell ⟨b, off + j * 4, none⟩ (.int .i64 ((k : Int) + (j : Int) * 4))).setCell ⟨b, off + j * 4 + 1, none⟩ (.int .i64 ((k : Int) + (j : Int) * 4 + 1))).setCell ⟨b, off + j * 4 + 2, none⟩ (.int .i64 ((k : Int) + (j : Int) * 4 + 1 + 1)) = w0 at *
      rw [ek]
      clear q0 q1 d0 d1 d2 d3 z0 z1 z2 z3
      refine (markText (k + (j * 4 + 3)) w0 (by omega) (by omega)).mono ?_
      rintro e w1 ⟨rfl, b1⟩
      have HW1 := hid (q2.below b1)
      have HK1 := hid (p2.trans (Kept.of_below (S := fun _ => False) b1))
      obtain ⟨_, _, _, ⟨u3, d3⟩, _, _, _, z3⟩ := wr_at' HW1.out j (by omega)
      clear b1 q2 p2
      go_wp2
      refine ⟨⟨j + 1, by omega, by go_num, ?_, ?_, ?_⟩, by simp [intOf]; omega⟩
      · congr 1; omega
      · refine (HW1.out.setAt (o := off + j * 4 + 3) (j * 4 + 3) (by omega) (by omega) (.string (markS (k + (j * 4 + 3))))).congr (fun i _ => ?_)
        rw [← msW_succ, show ((k + (j * 4 + 2) : Nat) : Int) = (k : Int) + (j : Int) * 4 + 1 + 1 by omega, show ((k + (j * 4 + 1) : Nat) : Int) = (k : Int) + (j : Int) * 4 + 1 by omega, show ((k + j * 4 : Nat) : Int) = (k : Int) + (j : Int) * 4 by omega]
      · exact (HK1.out.trans (kept_set w1 b (off + j * 4 + 3) _)).mono (fun b2 _ h => by
          rcases h with ((h | ((h | h) | h)) | h) | h
          · exact h
          · subst h; exact ⟨by omega, off, rfl⟩
          · subst h; exact ⟨by omega, off, rfl⟩
          · subst h; exact ⟨by omega, off, rfl⟩
          · exact h.elim
          · subst h; exact ⟨by omega, off, rfl⟩)
    · obtain rfl : j = n := by omega
      go_wp2
      go_ret
      exact ⟨rfl, HW.out.congr (fun i hi => by simp [msW, hi]), HK.out⟩

set_option maxRecDepth 100000 in
set_option maxHeartbeats 2000000 in
theorem heldWriteS (w : World) (a : Option Addr) (n cap k : Nat) (S : Sl w a (n * 4) (mw k)) (hk : 0 < k) (hb : k + n * 4 ≤ 4611686018427387904) :
    Calls Try.prog 43 #[.slice a n cap, .int .i64 (k : Int)] w fun e w' => e = .returned (.int .i64 ((k + n * 4 : Nat) : Int)) ∧ Below w.heap.size w w' := by
  have HS := hid S
  clear S
  go_enter Try.func43, Try.ntmps43
  go_wp2
  go_loopw [1, 5] (fun x i wr => ∃ j : Nat, j ≤ n ∧ i = .int .i64 (j : Int) ∧ x = .int .i64 ((k + j * 4 : Nat) : Int) ∧ Hid (Below w.heap.size w wr)) (fun _ i _ => n - (intOf i).toNat)
  case atStart => exact ⟨0, Nat.zero_le _, rfl, rfl, Below.refl _ _⟩
  case round =>
    obtain ⟨j, hj, rfl, rfl, HB⟩ := hrel
    by_cases hlt : j < n
    · obtain ⟨b, off, rfl, c0⟩ := (HS.out.below HB.out) (j * 4) (by omega)
      obtain ⟨_, _, e1, c1⟩ := (HS.out.below HB.out) (j * 4 + 1) (by omega)
      obtain ⟨_, _, e2, c2⟩ := (HS.out.below HB.out) (j * 4 + 2) (by omega)
      obtain ⟨_, _, e3, c3⟩ := (HS.out.below HB.out) (j * 4 + 3) (by omega)
      cases e1; cases e2; cases e3
      replace c0 : wr.cell? ⟨b, off + j * 4, none⟩ = some (.int .i64 ((k : Int) + (j : Int) * 4)) := by
        rw [c0]; unfold mw; rw [if_neg (by omega)]; congr 2
      replace c1 : wr.cell? ⟨b, off + j * 4 + 1, none⟩ = some (.int .i64 ((k : Int) + (j : Int) * 4 + 1)) := by
        rw [Nat.add_assoc, c1]; unfold mw; rw [if_neg (by omega)]; congr 2
      replace c2 : wr.cell? ⟨b, off + j * 4 + 2, none⟩ = some (.int .i64 ((k : Int) + (j : Int) * 4 + 1 + 1)) := by
        rw [Nat.add_assoc, c2]; unfold mw; rw [if_neg (by omega)]; congr 2
      replace c3 : wr.cell? ⟨b, off + j * 4 + 3, none⟩ = some (.string (markS (k + (j * 4 + 3)))) := by
        rw [Nat.add_assoc, c3]; unfold mw; rw [if_pos (by omega)]
      have hlb := World.block_lt_of_cell? wr _ c3
      have he' : ((markS (k + (j * 4 + 3))).toList == (markS (k + (j * 4 + 3))).toList) = true := Own.eqS_yes rfl
      have ek : ((k : Int) + (j : Int) * 4 + 1 + 1 + 1) = ((k + (j * 4 + 3) : Nat) : Int) := by omega
      have HT : Hid (∀ wx, Calls Try.prog 58 #[.int .i64 ((k : Int) + (j : Int) * 4 + 1 + 1 + 1)] wx fun e w' => e = .returned (.string (markS (k + (j * 4 + 3)))) ∧ Below wx.heap.size wx w') := fun wx => by
        rw [ek]; exact markText (k + (j * 4 + 3)) wx (by omega) (by omega)
      clear ek
      go_wp2
      go_region_with (go_at_call 58; refine (HT.out _).mono ?_; rintro e w1 ⟨rfl, b1'⟩; have b1 := undrew b1'; have hc1 := (b1.cell (p := ⟨b, off + j * 4 + 3, none⟩) hlb).trans c3)
      all_goals (have HB1 := hid (HB.out.trans (b1.mono HB.out.size)); clear b1 b1' c0 c1 c2 c3 hc1; go_wp2)
      all_goals exact ⟨⟨j + 1, by omega, by go_num, by congr 1; omega, HB1⟩, by simp [intOf]; omega⟩
    · obtain rfl : j = n := by omega
      go_wp2
      go_ret
      exact ⟨rfl, HB.out⟩

/-- The blocks that a disk's three lists take. -/
def DkFoot (v : Value) (b : Nat) : Prop := ∃ a1 n1 c1 a2 n2 c2 a3 n3 c3, v = .agg #[.slice a1 n1 c1, .slice a2 n2 c2, .slice a3 n3 c3] ∧ (foot a1 n1 b ∨ foot a2 n2 b ∨ foot a3 (n3 * 4) b)

theorem DkR.kept {S : Nat → Prop} {w w' : World} {v : Value} {D : Dk} (h : DkR w v D) (k : Kept S w w') (hn : ∀ b, DkFoot v b → ¬ S b) : DkR w' v D := by
  obtain ⟨a1, c1, a2, c2, a3, c3, rfl, s1, s2, s3⟩ := h
  exact ⟨a1, c1, a2, c2, a3, c3, rfl, Sl.move s1 k (fun b hb => hn b ⟨_, _, _, _, _, _, _, _, _, rfl, Or.inl hb⟩), Sl.move s2 k (fun b hb => hn b ⟨_, _, _, _, _, _, _, _, _, rfl, Or.inr (Or.inl hb)⟩), Sl.move s3 k (fun b hb => hn b ⟨_, _, _, _, _, _, _, _, _, rfl, Or.inr (Or.inr hb)⟩)⟩

theorem DkR.foot_lt {w : World} {v : Value} {D : Dk} (h : DkR w v D) {b : Nat} (hb : DkFoot v b) : b < w.heap.size := by
  obtain ⟨a1, c1, a2, c2, a3, c3, rfl, s1, s2, s3⟩ := h
  obtain ⟨_, _, _, _, _, _, _, _, _, e, hf⟩ := hb
  cases e
  rcases hf with hf | hf | hf
  · exact Sl.lt s1 hf
  · exact Sl.lt s2 hf
  · exact Sl.lt s3 hf

theorem DkW.foot_ge {w : World} {B : Nat} {v : Value} {D : Dk} (h : DkW w B v D) {b : Nat} (hb : DkFoot v b) : B ≤ b := by
  obtain ⟨a1, c1, a2, c2, a3, c3, rfl, s1, s2, s3, _, _⟩ := h
  obtain ⟨_, _, _, _, _, _, _, _, _, e, hf⟩ := hb
  cases e
  rcases hf with hf | hf | hf
  · exact Wr.foot_ge s1 hf
  · exact Wr.foot_ge s2 hf
  · exact Wr.foot_ge s3 hf

/-- v is a disk of such lengths that was marked from k on. -/
def Marked (w : World) (v : Value) (n1 n2 n3 k : Nat) : Prop := ∃ a1 c1 a2 c2 a3 c3, v = .agg #[.slice a1 n1 c1, .slice a2 n2 c2, .slice a3 n3 c3] ∧
  Sl w a1 n1 (fun i => .string (markS (k + i))) ∧ Sl w a2 n2 (fun i => .int .i64 ((k + n1 + i : Nat) : Int)) ∧ Sl w a3 (n3 * 4) (mw (k + n1 + n2))

theorem Marked.below {w w' : World} {v : Value} {n1 n2 n3 k : Nat} (h : Marked w v n1 n2 n3 k) (b : Below w.heap.size w w') : Marked w' v n1 n2 n3 k := by
  obtain ⟨a1, c1, a2, c2, a3, c3, e, s1, s2, s3⟩ := h
  exact ⟨a1, c1, a2, c2, a3, c3, e, s1.below b, s2.below b, s3.below b⟩

set_option maxRecDepth 100000 in
set_option maxHeartbeats 1000000 in
theorem markDisk (w : World) (B : Nat) (v : Value) (D : Dk) (k : Nat) (h : DkW w B v D) (hk : 0 < k) (hb : k + D.sec.length + D.ep.length + D.pe.length * 4 ≤ 4611686018427387904) :
    Calls Try.prog 15 #[v, .int .i64 (k : Int)] w fun e w' => e = .returned (.int .i64 ((k + D.sec.length + D.ep.length + D.pe.length * 4 : Nat) : Int)) ∧ Marked w' v D.sec.length D.ep.length D.pe.length k ∧ Kept (DkFoot v) w w' := by
  obtain ⟨a1, c1, a2, c2, a3, c3, rfl, s1, s2, s3, f1, f2⟩ := h
  have HS1 := hid s1
  have HS2 := hid s2
  have HS3 := hid s3
  have HF1 := hid f1
  have HF2 := hid f2
  clear s1 s2 s3 f1 f2
  generalize hn1 : D.sec.length = n1 at *
  generalize hn2 : D.ep.length = n2 at *
  generalize hn3 : D.pe.length = n3 at *
  have T1 : Hid (Wr w B a1 n1 (fun i => .string (D.sec.getD i ByteArray.empty))) := by have := HS1.out; unfold StrsW at this; rw [hn1] at this; exact this
  have T2 : Hid (Wr w B a2 n2 (fun i => .int .i64 (D.ep.getD i 0))) := by have := HS2.out; unfold IntsW at this; rw [hn2] at this; exact this
  have T3 : Hid (Wr w B a3 (n3 * 4) (wcell D.pe)) := by have := HS3.out; unfold WtsW at this; rw [hn3] at this; exact this
  clear HS1 HS2 HS3 hn1 hn2 hn3
  go_enter Try.func15, Try.ntmps15
  go_wp2_with fail
  obtain ⟨wb, hwb, ez, A0, B0⟩ := one_new w [.slice a1 n1 c1, .slice a2 n2 c2, .slice a3 n3 c3] 31
  simp only [hwb]
  clear hwb
  have K0 : Kept (fun _ => False) w wb := Kept.of_below B0
  have l1 := fun b hb => T1.out.sl.lt (b := b) hb
  have l2 := fun b hb => T2.out.sl.lt (b := b) hb
  have l3 := fun b hb => T3.out.sl.lt (b := b) hb
  have HL1 := hid l1
  have HL2 := hid l2
  have HL3 := hid l3
  clear l1 l2 l3
  refine (markStringS wb B a1 n1 c1 k _ (T1.out.below B0) hk (by omega)).mono ?_
  rintro e w1 ⟨rfl, m1, k1⟩
  have A1 := A0.kept k1 (fun hf => by have := HL1.out _ hf; omega)
  have W2 := (T2.out.below B0).move k1 (fun b hb hf => (HF1.out b hf).1 hb)
  have W3 := (T3.out.below B0).move k1 (fun b hb hf => (HF1.out b hf).2 hb)
  have KK := K0.trans k1
  have HA := hid A1
  have HW2 := hid W2
  have HW3 := hid W3
  have HM1 := hid m1
  have HK := hid KK
  have ca := A1.c 1 rfl
  clear A0 A1 B0 K0 W2 W3 m1 k1 KK T1 T2 T3
  go_wp2_with fail
  refine (markIntS w1 B a2 n2 c2 (k + n1) _ HW2.out (by omega)).mono ?_
  rintro e w2 ⟨rfl, m2, k2⟩
  have A1 := HA.out.kept k2 (fun hf => by have := HL2.out _ hf; omega)
  have M1 := HM1.out.move k2 (fun b hb hf => (HF1.out b hb).1 hf)
  have W3 := HW3.out.move k2 (fun b hb hf => HF2.out b hf hb)
  have KK := HK.out.trans k2
  have HM1' := hid M1
  have HM2 := hid m2
  have HW3' := hid W3
  have HK2 := hid KK
  replace ca := A1.c 2 rfl
  clear A1 M1 m2 W3 KK k2 HA HM1 HW2 HW3 HK
  go_wp2_with fail
  refine (markWriteS w2 B a3 n3 c3 (k + n1 + n2) _ HW3'.out (by omega) (by omega)).mono ?_
  rintro e w3 ⟨rfl, m3, k3⟩
  have M1 := HM1'.out.move k3 (fun b hb hf => (HF1.out b hb).2 hf)
  have M2 := HM2.out.move k3 (fun b hb hf => HF2.out b hb hf)
  have HM : Hid (Marked w3 (.agg #[.slice a1 n1 c1, .slice a2 n2 c2, .slice a3 n3 c3]) n1 n2 n3 k) := ⟨a1, c1, a2, c2, a3, c3, rfl, M1.sl, M2.sl, m3.sl⟩
  have HK3 := hid ((HK2.out.trans k3).mono (T := DkFoot (.agg #[.slice a1 n1 c1, .slice a2 n2 c2, .slice a3 n3 c3])) (fun b _ h => by
    rcases h with ((h | h) | h) | h
    · exact h.elim
    · exact ⟨_, _, _, _, _, _, _, _, _, rfl, Or.inl h⟩
    · exact ⟨_, _, _, _, _, _, _, _, _, rfl, Or.inr (Or.inl h)⟩
    · exact ⟨_, _, _, _, _, _, _, _, _, rfl, Or.inr (Or.inr h)⟩))
  clear M1 M2 m3 k3 ca
  go_wp2
  go_ret
  exact ⟨rfl, HM.out, HK3.out⟩

set_option maxRecDepth 100000 in
set_option maxHeartbeats 1000000 in
theorem heldDisk (w : World) (v : Value) (n1 n2 n3 k : Nat) (h : Marked w v n1 n2 n3 k) (hk : 0 < k) (hb : k + n1 + n2 + n3 * 4 ≤ 4611686018427387904) :
    Calls Try.prog 16 #[v, .int .i64 (k : Int)] w fun e w' => e = .returned (.int .i64 ((k + n1 + n2 + n3 * 4 : Nat) : Int)) ∧ Below w.heap.size w w' := by
  obtain ⟨a1, c1, a2, c2, a3, c3, rfl, s1, s2, s3⟩ := h
  have HS1 := hid s1
  have HS2 := hid s2
  have HS3 := hid s3
  clear s1 s2 s3
  go_enter Try.func16, Try.ntmps16
  go_wp2_with fail
  obtain ⟨wb, hwb, ez, A0, B0⟩ := one_new w [.slice a1 n1 c1, .slice a2 n2 c2, .slice a3 n3 c3] 31
  simp only [hwb]
  clear hwb
  refine (heldStringS wb a1 n1 c1 k (HS1.out.below B0) hk (by omega)).mono ?_
  rintro e w1 ⟨rfl, b1⟩
  have HA := hid (A0.below b1 A0.lt)
  have HB := hid (B0.trans (b1.mono B0.size))
  have ca := HA.out.c 1 rfl
  have hn : ¬ ((k + n1 : Nat) : Int) < 0 := by omega
  clear A0 B0 b1
  go_wp2_with fail
  refine (heldIntS w1 a2 n2 c2 (k + n1) (HS2.out.below HB.out) (by omega)).mono ?_
  rintro e w2 ⟨rfl, b2⟩
  have HA2 := hid (HA.out.below b2 HA.out.lt)
  have HB2 := hid (HB.out.trans (b2.mono HB.out.size))
  replace ca := HA2.out.c 2 rfl
  have hn2 : ¬ ((k + n1 + n2 : Nat) : Int) < 0 := by omega
  clear b2 HA HB
  go_wp2_with fail
  refine (heldWriteS w2 a3 n3 c3 (k + n1 + n2) (HS3.out.below HB2.out) (by omega) (by omega)).mono ?_
  rintro e w3 ⟨rfl, b3⟩
  have HB3 := hid (HB2.out.trans (b3.mono HB2.out.size))
  have hn3 : ¬ ((k + n1 + n2 + n3 * 4 : Nat) : Int) < 0 := by omega
  clear b3 HA2 HB2 ca
  go_wp2
  go_ret
  exact ⟨rfl, HB3.out⟩

end Go.Proofs.Ytppjohfafnbdlaj.Mem
