/-
  The walks of laws.toWrite, laws.toWriteS and laws.toDisk: a disk laid anew. No condition but lengths of at most 2^20.
-/
import Derived.Test.YtaopkchkhdbfnaaGreatDoorToRows
namespace Go.Proofs.YtaopkchkhdbfnaaGreatDoor.Mem
open Go.RowKit
set_option linter.unusedVariables false

/-- A write under way. -/
structure Wt where
  host : Int
  epoch : Int
  sector : Int
  text : ByteArray

def Wt.none : Wt := ⟨0, 0, 0, ByteArray.empty⟩
def Wt.cells (x : Wt) : List Value := [.int .i64 x.host, .int .i64 x.epoch, .int .i64 x.sector, .string x.text]
def Wt.val (x : Wt) : Value := .agg #[.int .i64 x.host, .int .i64 x.epoch, .int .i64 x.sector, .string x.text]

/-- Cell i of a list of writes, four cells each. -/
def wcell (l : List Wt) (i : Nat) : Value := (l.getD (i / 4) Wt.none).cells.getD (i % 4) undef
def Wts (w : World) (a : Option Addr) (l : List Wt) : Prop := Sl w a (l.length * 4) (wcell l)
def WtsW (w : World) (B : Nat) (a : Option Addr) (l : List Wt) : Prop := Wr w B a (l.length * 4) (wcell l)

theorem wcell_at (l : List Wt) (k j : Nat) (hj : j < 4) : wcell l (k * 4 + j) = (l.getD k Wt.none).cells.getD j undef := by
  unfold wcell
  rw [show (k * 4 + j) / 4 = k by omega, show (k * 4 + j) % 4 = j by omega]

/-- The four cells of write k. -/
theorem Wts.at_ {w : World} {a : Option Addr} {l : List Wt} (h : Wts w a l) (k : Nat) (hk : k < l.length) : ∃ b off, a = some ⟨b, off, none⟩ ∧
    w.cell? ⟨b, off + k * 4, none⟩ = some (.int .i64 (l.getD k Wt.none).host) ∧ w.cell? ⟨b, off + k * 4 + 1, none⟩ = some (.int .i64 (l.getD k Wt.none).epoch) ∧
    w.cell? ⟨b, off + k * 4 + 2, none⟩ = some (.int .i64 (l.getD k Wt.none).sector) ∧ w.cell? ⟨b, off + k * 4 + 3, none⟩ = some (.string (l.getD k Wt.none).text) := by
  obtain ⟨b, off, rfl, h0⟩ := h (k * 4 + 0) (by omega)
  obtain ⟨b1, off1, e1, h1⟩ := h (k * 4 + 1) (by omega)
  obtain ⟨b2, off2, e2, h2⟩ := h (k * 4 + 2) (by omega)
  obtain ⟨b3, off3, e3, h3⟩ := h (k * 4 + 3) (by omega)
  cases e1; cases e2; cases e3
  rw [wcell_at l k _ (by omega)] at h0 h1 h2 h3
  exact ⟨b, off, rfl, h0, by rw [Nat.add_assoc]; exact h1, by rw [Nat.add_assoc]; exact h2, by rw [Nat.add_assoc]; exact h3⟩

set_option maxRecDepth 100000 in
set_option maxHeartbeats 1000000 in
theorem toWrite (w : World) (x : Wt) : Calls Tryz.prog 146 #[x.val] w fun e w' => e = .returned x.val ∧ Below w.heap.size w w' := by
  obtain ⟨h, ep, s, t⟩ := x
  unfold Wt.val
  go_enter Tryz.func146, Tryz.ntmps146
  go_wp2
  go_returns
  exact ⟨rfl, by go_grown⟩

theorem infoW : (Tryz.prog.info? 148).map (fun i => (i.zero, i.size, i.bytes)) = some (some Wt.none.val, 4, 40) := by kernel_rfl

/-- What stands in the new row behind k rounds. -/
def partW (l : List Wt) (k : Nat) (i : Nat) : Value := if i < k * 4 then wcell l i else Wt.none.cells.getD (i % 4) undef

theorem partW_succ (l : List Wt) (k : Nat) (j : Nat) : (if j / 4 = k then [Value.int .i64 (l.getD k Wt.none).host, .int .i64 (l.getD k Wt.none).epoch, .int .i64 (l.getD k Wt.none).sector, .string (l.getD k Wt.none).text].getD (j % 4) undef else partW l k j) = partW l (k + 1) j := by
  unfold partW
  by_cases h : j / 4 = k
  · rw [if_pos h, if_pos (by omega)]
    unfold wcell
    rw [h]; rfl
  · by_cases h2 : j < k * 4
    · rw [if_neg h, if_pos h2, if_pos (by omega)]
    · rw [if_neg h, if_neg h2, if_neg (by omega)]

/-- The four cells of write k, which may be written. -/
theorem wr_at {w : World} {B b : Nat} {m : Nat} {f : Nat → Value} (h : Wr w B (some ⟨b, 0, none⟩) m f) (k : Nat) (hk : k * 4 + 4 ≤ m) :
    (∃ v, w.cell? ⟨b, k * 4, none⟩ = some v) ∧ (∃ v, w.cell? ⟨b, k * 4 + 1, none⟩ = some v) ∧ (∃ v, w.cell? ⟨b, k * 4 + 2, none⟩ = some v) ∧ (∃ v, w.cell? ⟨b, k * 4 + 3, none⟩ = some v) ∧
    w.frozen? ⟨b, k * 4, none⟩ = false ∧ w.frozen? ⟨b, k * 4 + 1, none⟩ = false ∧ w.frozen? ⟨b, k * 4 + 2, none⟩ = false ∧ w.frozen? ⟨b, k * 4 + 3, none⟩ = false := by
  obtain ⟨_, _, e0, _, h0, z0⟩ := h (k * 4) (by omega)
  obtain ⟨_, _, e1, _, h1, z1⟩ := h (k * 4 + 1) (by omega)
  obtain ⟨_, _, e2, _, h2, z2⟩ := h (k * 4 + 2) (by omega)
  obtain ⟨_, _, e3, _, h3, z3⟩ := h (k * 4 + 3) (by omega)
  cases e0; cases e1; cases e2; cases e3
  rw [Nat.zero_add] at h0 h1 h2 h3 z0 z1 z2 z3
  exact ⟨⟨_, h0⟩, ⟨_, h1⟩, ⟨_, h2⟩, ⟨_, h3⟩, z0, z1, z2, z3⟩

set_option maxRecDepth 100000 in
set_option maxHeartbeats 1000000 in
theorem toWriteS (w : World) (a : Option Addr) (cap : Nat) (l : List Wt) (S : Wts w a l) (hl : l.length ≤ 1048576) :
    Calls Tryz.prog 95 #[.slice a l.length cap] w fun e w' => ∃ g, e = .returned (.slice (some ⟨g, 0, none⟩) l.length l.length) ∧ w.heap.size ≤ g ∧ g < w'.heap.size ∧ WtsW w' w.heap.size (some ⟨g, 0, none⟩) l ∧ Below w.heap.size w w' := by
  have hmk := make_rows (P := Tryz.prog) 34 148 Wt.none.val 4 40 Tryz.underlying34 infoW .i64 .i64 l.length (by omega) (by omega)
  have HS := hid S
  have hw0 := wr_new w (madeCells Wt.none.val.cells (l.length * 4)) 148 (l.length * 4) (partW l 0) (fun i hi => by
    simp [madeCells, hi, partW, Wt.none, Wt.val, Wt.cells, Value.cells]
    have : i % 4 = 0 ∨ i % 4 = 1 ∨ i % 4 = 2 ∨ i % 4 = 3 := by omega
    rcases this with h | h | h | h <;> simp [h])
  generalize madeCells Wt.none.val.cells (l.length * 4) = cur at hmk hw0
  have HW := hid hw0
  clear S hw0
  go_enter Tryz.func95, Tryz.ntmps95
  go_wp2
  go_loopw [4] (fun i wr => ∃ k : Nat, k ≤ l.length ∧ i = .int .i64 (k : Int) ∧ w.heap.size < wr.heap.size ∧ Hid (Wr wr w.heap.size (some ⟨w.heap.size, 0, none⟩) (l.length * 4) (partW l k)) ∧ Hid (Below w.heap.size w wr)) (fun i _ => l.length - (intOf i).toNat)
  case atStart => exact ⟨0, Nat.zero_le _, rfl, lt_alloc _ _, HW, (Below.refl _ _).alloc (Nat.le_refl _) _⟩
  case round =>
    obtain ⟨k, hk, rfl, hsz, HW', HB⟩ := hrel
    by_cases hlt : k < l.length
    · obtain ⟨b, off, rfl, c0, c1, c2, c3⟩ := Wts.at_ (HS.out.below HB.out) k hlt
      generalize hx : l.getD k Wt.none = x at c0 c1 c2 c3
      have HX := hid hx
      clear hx
      go_wp2_with fail
      refine (toWrite _ x).mono ?_
      rintro e w1 ⟨rfl, hb1⟩
      have HW1 := hid (HW'.out.below hb1)
      have HB1 := hid (HB.out.trans (hb1.mono (Nat.le_of_lt hsz)))
      have hsz1 : w.heap.size < w1.heap.size := Nat.lt_of_lt_of_le hsz hb1.size
      obtain ⟨⟨u0, d0⟩, ⟨u1, d1⟩, ⟨u2, d2⟩, ⟨u3, d3⟩, z0, z1, z2, z3⟩ := wr_at HW1.out k (by omega)
      clear hb1 c0 c1 c2 c3
      unfold Wt.val
      go_wp2
      refine ⟨⟨k + 1, by omega, by go_num, by simpa using hsz1, ?_, (((HB1.out.setCell (Nat.le_refl _) _).setCell (Nat.le_refl _) _).setCell (Nat.le_refl _) _).setCell (Nat.le_refl _) _⟩, by simp [intOf]; omega⟩
      exact (HW1.out.set4 k (by omega) _ _ _ _).congr (fun j _ => by rw [← partW_succ, HX.out])
    · obtain rfl : k = l.length := by omega
      go_wp2
      go_ret
      exact ⟨_, rfl, Nat.le_refl _, hsz, HW'.out.congr (fun i hi => by simp [partW, hi]), HB.out⟩

/-- A disk. -/
structure Dk where
  sec : List ByteArray
  ep : List Int
  pe : List Wt

/-- v is the disk D in world w. -/
def DkR (w : World) (v : Value) (D : Dk) : Prop := ∃ a1 c1 a2 c2 a3 c3, v = .agg #[.slice a1 D.sec.length c1, .slice a2 D.ep.length c2, .slice a3 D.pe.length c3] ∧ Strs w a1 D.sec ∧ Ints w a2 D.ep ∧ Wts w a3 D.pe

/-- The same, in blocks from B on, no two lists in one block; they may be written. -/
def DkW (w : World) (B : Nat) (v : Value) (D : Dk) : Prop := ∃ a1 c1 a2 c2 a3 c3, v = .agg #[.slice a1 D.sec.length c1, .slice a2 D.ep.length c2, .slice a3 D.pe.length c3] ∧ StrsW w B a1 D.sec ∧ IntsW w B a2 D.ep ∧ WtsW w B a3 D.pe ∧
  (∀ b, foot a1 D.sec.length b → ¬ foot a2 D.ep.length b ∧ ¬ foot a3 (D.pe.length * 4) b) ∧ (∀ b, foot a2 D.ep.length b → ¬ foot a3 (D.pe.length * 4) b)

theorem DkR.below {w w' : World} {v : Value} {D : Dk} (h : DkR w v D) (b : Below w.heap.size w w') : DkR w' v D := by
  obtain ⟨a1, c1, a2, c2, a3, c3, e, s1, s2, s3⟩ := h
  exact ⟨a1, c1, a2, c2, a3, c3, e, Sl.below s1 b, Sl.below s2 b, Sl.below s3 b⟩

theorem DkW.read {w : World} {B : Nat} {v : Value} {D : Dk} (h : DkW w B v D) : DkR w v D := by
  obtain ⟨a1, c1, a2, c2, a3, c3, e, s1, s2, s3, _⟩ := h
  exact ⟨a1, c1, a2, c2, a3, c3, e, Wr.sl s1, Wr.sl s2, Wr.sl s3⟩

theorem DkW.below {w w' : World} {B : Nat} {v : Value} {D : Dk} (h : DkW w B v D) (b : Below w.heap.size w w') : DkW w' B v D := by
  obtain ⟨a1, c1, a2, c2, a3, c3, e, s1, s2, s3, f1, f2⟩ := h
  exact ⟨a1, c1, a2, c2, a3, c3, e, Wr.below s1 b, Wr.below s2 b, Wr.below s3 b, f1, f2⟩

set_option maxRecDepth 100000 in
set_option maxHeartbeats 1000000 in
theorem toDisk (w : World) (v : Value) (D : Dk) (h : DkR w v D) (h1 : D.sec.length ≤ 1048576) (h2 : D.ep.length ≤ 1048576) (h3 : D.pe.length ≤ 1048576) :
    Calls Tryz.prog 34 #[v] w fun e w' => ∃ v', e = .returned v' ∧ DkW w' w.heap.size v' D ∧ Below w.heap.size w w' := by
  obtain ⟨a1, c1, a2, c2, a3, c3, rfl, s1, s2, s3⟩ := h
  have HS1 := hid s1
  have HS2 := hid s2
  have HS3 := hid s3
  clear s1 s2 s3
  go_enter Tryz.func34, Tryz.ntmps34
  go_wp2_with fail
  obtain ⟨wc, hwc, e2, A0, R0, O0, B0⟩ := three_new w [.slice a1 D.sec.length c1, .slice a2 D.ep.length c2, .slice a3 D.pe.length c3] [.slice none 0 0, .slice none 0 0, .slice none 0 0] 26 36
  simp only [hwc]
  clear hwc
  refine (toStringS wc a1 c1 D.sec (HS1.out.below B0) h1).mono ?_
  rintro e w1 ⟨g1, rfl, hg1, hl1, S1, b1⟩
  replace A0 := A0.below b1 (by omega)
  replace R0 := R0.below b1 (by omega)
  replace O0 := O0.below b1 (by omega)
  replace B0 := B0.trans (b1.mono (by omega))
  have ca := A0.c 1 rfl
  have co := O0.c 0 rfl
  have fo := O0.f 0
  have HA := hid A0
  have HR := hid R0
  have HO := hid O0
  clear A0 R0 O0 b1
  go_wp2_with fail
  have A0 := HA.out.other (p := ⟨w.heap.size + 1 + 1, 0, none⟩) (by show w.heap.size ≠ w.heap.size + 1 + 1; omega) (.slice (some ⟨g1, 0, none⟩) D.sec.length D.sec.length)
  have R0 := HR.out.other (p := ⟨w.heap.size + 1 + 1, 0, none⟩) (by show w.heap.size + 1 ≠ w.heap.size + 1 + 1; omega) (.slice (some ⟨g1, 0, none⟩) D.sec.length D.sec.length)
  have O0 := HO.out.set 0 (.slice (some ⟨g1, 0, none⟩) D.sec.length D.sec.length)
  replace B0 := below_set B0 (w.heap.size + 1 + 1) 0 (.slice (some ⟨g1, 0, none⟩) D.sec.length D.sec.length) (by omega)
  replace S1 := S1.move (kept_set w1 (w.heap.size + 1 + 1) 0 (.slice (some ⟨g1, 0, none⟩) D.sec.length D.sec.length)) (fun b hb => by have := S1.foot_ge hb; omega)
  have es : (w1.setCell ⟨w.heap.size + 1 + 1, 0, none⟩ (.slice (some ⟨g1, 0, none⟩) D.sec.length D.sec.length)).heap.size = w1.heap.size := by simp
  generalize w1.setCell ⟨w.heap.size + 1 + 1, 0, none⟩ (.slice (some ⟨g1, 0, none⟩) D.sec.length D.sec.length) = w1' at *
  clear ca co fo HA HR HO
  refine (toIntS w1' a2 c2 D.ep (HS2.out.below B0) h2).mono ?_
  rintro e w2 ⟨g2, rfl, hg2, hl2, S2, b2⟩
  replace A0 := A0.below b2 A0.lt
  replace R0 := R0.below b2 R0.lt
  replace O0 := O0.below b2 O0.lt
  replace S1 := S1.below b2
  replace B0 := B0.trans (b2.mono (by omega))
  have ca := A0.c 2 rfl
  have co := O0.c 1 rfl
  have fo := O0.f 1
  have HA := hid A0
  have HR := hid R0
  have HO := hid O0
  clear A0 R0 O0 b2
  go_wp2_with fail
  have R0 := HR.out.other (p := ⟨w.heap.size + 1 + 1, 1, none⟩) (by show w.heap.size + 1 ≠ w.heap.size + 1 + 1; omega) (.slice (some ⟨g2, 0, none⟩) D.ep.length D.ep.length)
  have O0 := HO.out.set 1 (.slice (some ⟨g2, 0, none⟩) D.ep.length D.ep.length)
  replace B0 := below_set B0 (w.heap.size + 1 + 1) 1 (.slice (some ⟨g2, 0, none⟩) D.ep.length D.ep.length) (by omega)
  replace S1 := S1.move (kept_set w2 (w.heap.size + 1 + 1) 1 (.slice (some ⟨g2, 0, none⟩) D.ep.length D.ep.length)) (fun b hb => by have := S1.foot_ge hb; omega)
  replace S2 := S2.move (kept_set w2 (w.heap.size + 1 + 1) 1 (.slice (some ⟨g2, 0, none⟩) D.ep.length D.ep.length)) (fun b hb => by have := S2.foot_ge hb; omega)
  have es2 : (w2.setCell ⟨w.heap.size + 1 + 1, 1, none⟩ (.slice (some ⟨g2, 0, none⟩) D.ep.length D.ep.length)).heap.size = w2.heap.size := by simp
  generalize w2.setCell ⟨w.heap.size + 1 + 1, 1, none⟩ (.slice (some ⟨g2, 0, none⟩) D.ep.length D.ep.length) = w2' at *
  clear ca co fo HA HR HO
  refine (toWriteS w2' a3 c3 D.pe (HS3.out.below B0) h3).mono ?_
  rintro e w3 ⟨g3, rfl, hg3, hl3, S3, b3⟩
  replace R0 := R0.below b3 R0.lt
  replace O0 := O0.below b3 O0.lt
  replace S1 := S1.below b3
  replace S2 := S2.below b3
  replace B0 := B0.trans (b3.mono (by omega))
  have co0 := O0.c 0 rfl
  have co1 := O0.c 1 rfl
  have co2 := O0.c 2 rfl
  have fo := O0.f 2
  have cr0 := R0.c 0 rfl
  have cr1 := R0.c 1 rfl
  have cr2 := R0.c 2 rfl
  have fr0 := R0.f 0
  have fr1 := R0.f 1
  have fr2 := R0.f 2
  have HS1' := hid S1
  have HS2' := hid S2
  have HS3' := hid S3
  have HB := hid B0
  have HR := hid (((((R0.other (p := ⟨w.heap.size + 1 + 1, 2, none⟩) (by show w.heap.size + 1 ≠ w.heap.size + 1 + 1; omega) (.slice (some ⟨g3, 0, none⟩) D.pe.length D.pe.length)).set 0 (.slice (some ⟨g1, 0, none⟩) D.sec.length D.sec.length)).set 1 (.slice (some ⟨g2, 0, none⟩) D.ep.length D.ep.length)).set 2 (.slice (some ⟨g3, 0, none⟩) D.pe.length D.pe.length)))
  clear R0 O0 b3 S1 S2 S3 B0
  go_wp2
  refine bodyPost_ret (results_row rfl _ _ (w.heap.size + 1) [.slice (some ⟨g1, 0, none⟩) D.sec.length D.sec.length, .slice (some ⟨g2, 0, none⟩) D.ep.length D.ep.length, .slice (some ⟨g3, 0, none⟩) D.pe.length D.pe.length] _ rfl HR.out Tryz.underlying36 rfl (by kernel_rfl)) rfl ?_
  have hk : ∀ v0 v1 v2 v3, Kept (fun b => b < wc.heap.size) w3 ((((w3.setCell ⟨w.heap.size + 1 + 1, 2, none⟩ v0).setCell ⟨w.heap.size + 1, 0, none⟩ v1).setCell ⟨w.heap.size + 1, 1, none⟩ v2).setCell ⟨w.heap.size + 1, 2, none⟩ v3) := fun v0 v1 v2 v3 =>
    ((((kept_set _ _ _ _).trans (kept_set _ _ _ _)).trans (kept_set _ _ _ _)).trans (kept_set _ _ _ _)).mono (fun b _ hb => by rcases hb with ((h | h) | h) | h <;> omega)
  refine ⟨_, rfl, ⟨_, _, _, _, _, _, rfl, ?_, ?_, ?_, ?_, ?_⟩, ?_⟩
  · exact (HS1'.out.move (hk _ _ _ _) (fun b hb => by have := HS1'.out.foot_ge hb; omega)).mono (by omega)
  · exact (HS2'.out.move (hk _ _ _ _) (fun b hb => by have := HS2'.out.foot_ge hb; omega)).mono (by omega)
  · exact (HS3'.out.move (hk _ _ _ _) (fun b hb => by have := HS3'.out.foot_ge hb; omega)).mono (by omega)
  · rintro b ⟨_, o1, e1⟩
    cases e1
    exact ⟨fun ⟨_, o2, e2'⟩ => by cases e2'; omega, fun ⟨_, o2, e2'⟩ => by cases e2'; omega⟩
  · rintro b ⟨_, o1, e1⟩ ⟨_, o2, e2'⟩
    cases e1; cases e2'; omega
  · exact below_set (below_set (below_set (below_set HB.out _ _ _ (by omega)) _ _ _ (by omega)) _ _ _ (by omega)) _ _ _ (by omega)

end Go.Proofs.YtaopkchkhdbfnaaGreatDoor.Mem
