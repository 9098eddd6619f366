/-
  A list of a pool's volumes in memory, and the walks of laws.szPVolS, laws.eqPVolS and what they call. No condition but lists of at most 2^20.
-/
import Derived.Test.YtbnpnhcegoanmaaPp
import Derived.Test.YtbnpnhcegoanmaaQuietB
import Derived.Test.YtbnpnhcegoanmaaPuts
namespace Go.Proofs.Ytbnpnhcegoanmaa.Pl
open Go.RowKit Go.Proofs.Ytbnpnhcegoanmaa.Mem
set_option linter.unusedVariables false

/-- A volume without blocks: what it holds, and where its two lists lie. -/
structure Pv where
  on : Bool
  ha : Option Addr
  hc : Nat
  hs : List Bool
  ta : Option Addr
  tc : Nat
  ts : List ByteArray

def Pv.none : Pv := ⟨false, Option.none, 0, [], Option.none, 0, []⟩
def Pv.cells (x : Pv) : List Value := [.bool x.on, .slice x.ha x.hs.length x.hc, .slice x.ta x.ts.length x.tc]
def Pv.val (x : Pv) : Value := .agg #[.bool x.on, .slice x.ha x.hs.length x.hc, .slice x.ta x.ts.length x.tc]
/-- What it holds, wherever it lies. -/
def Pv.data (x : Pv) : Bool × List Bool × List ByteArray := (x.on, x.hs, x.ts)
def Pv.foot (x : Pv) (b : Nat) : Prop := Mem.foot x.ha x.hs.length b ∨ Mem.foot x.ta x.ts.length b
def Pv.apart (x y : Pv) : Prop := ∀ b, x.foot b → ¬ y.foot b

def pcell (L : List Pv) (i : Nat) : Value := (L.getD (i / 3) Pv.none).cells.getD (i % 3) undef

structure Pvs (w : World) (a : Option Addr) (L : List Pv) : Prop where
  row : Sl w a (L.length * 3) (pcell L)
  each : ∀ x ∈ L, Bls w x.ha x.hs ∧ Strs w x.ta x.ts

structure PvsW (w : World) (B : Nat) (a : Option Addr) (L : List Pv) : Prop where
  row : Wr w B a (L.length * 3) (pcell L)
  each : ∀ x ∈ L, BlsW w B x.ha x.hs ∧ StrsW w B x.ta x.ts
  own : ∀ x ∈ L, ∀ b, foot x.ha x.hs.length b → ¬ foot x.ta x.ts.length b
  two : L.Pairwise Pv.apart
  off : ∀ x ∈ L, ∀ b, x.foot b → ¬ foot a (L.length * 3) b

/-- A pool's value. -/
def plV (a : Option Addr) (n cap : Nat) : Value := .agg #[.slice a n cap]

theorem PvsW.r {w : World} {B : Nat} {a : Option Addr} {L : List Pv} (h : PvsW w B a L) : Pvs w a L := ⟨h.row.sl, fun x hx => ⟨(h.each x hx).1.sl, (h.each x hx).2.sl⟩⟩
theorem Pvs.below {w w' : World} {a : Option Addr} {L : List Pv} (h : Pvs w a L) (k : Below w.heap.size w w') : Pvs w' a L := ⟨h.row.below k, fun x hx => ⟨Sl.below (h.each x hx).1 k, Sl.below (h.each x hx).2 k⟩⟩
theorem PvsW.below {w w' : World} {B : Nat} {a : Option Addr} {L : List Pv} (h : PvsW w B a L) (k : Below w.heap.size w w') : PvsW w' B a L := ⟨h.row.below k, fun x hx => ⟨Wr.below (h.each x hx).1 k, Wr.below (h.each x hx).2 k⟩, h.own, h.two, h.off⟩
theorem PvsW.mono {w : World} {B B' : Nat} {a : Option Addr} {L : List Pv} (h : PvsW w B a L) (hb : B' ≤ B) : PvsW w B' a L := ⟨h.row.mono hb, fun x hx => ⟨Wr.mono (h.each x hx).1 hb, Wr.mono (h.each x hx).2 hb⟩, h.own, h.two, h.off⟩
theorem PvsW.foot_ge {w : World} {B : Nat} {a : Option Addr} {L : List Pv} (h : PvsW w B a L) {x : Pv} (hx : x ∈ L) {b : Nat} (hb : x.foot b) : B ≤ b := by
  rcases hb with hb | hb
  · exact Wr.foot_ge (h.each x hx).1 hb
  · exact Wr.foot_ge (h.each x hx).2 hb
/-- What lies in blocks from B on stands where only blocks below B turn. -/
theorem PvsW.kept {S : Nat → Prop} {w w' : World} {B : Nat} {a : Option Addr} {L : List Pv} (h : PvsW w B a L) (k : Kept S w w') (hn : ∀ b, B ≤ b → ¬ S b) : PvsW w' B a L :=
  ⟨h.row.move k (fun b hb => hn b (h.row.foot_ge hb)), fun x hx => ⟨Wr.move (h.each x hx).1 k (fun b hb => hn b (Wr.foot_ge (h.each x hx).1 hb)), Wr.move (h.each x hx).2 k (fun b hb => hn b (Wr.foot_ge (h.each x hx).2 hb))⟩, h.own, h.two, h.off⟩

theorem pcell_at (L : List Pv) (k j : Nat) (hj : j < 3) : pcell L (k * 3 + j) = (L.getD k Pv.none).cells.getD j undef := by
  unfold pcell
  rw [show (k * 3 + j) / 3 = k by omega, show (k * 3 + j) % 3 = j by omega]

theorem Pvs.at_ {w : World} {a : Option Addr} {L : List Pv} (h : Pvs w a L) (k : Nat) (hk : k < L.length) : ∃ b off, a = some ⟨b, off, none⟩ ∧
    w.cell? ⟨b, off + k * 3, none⟩ = some (.bool (L.getD k Pv.none).on) ∧ w.cell? ⟨b, off + k * 3 + 1, none⟩ = some (.slice (L.getD k Pv.none).ha (L.getD k Pv.none).hs.length (L.getD k Pv.none).hc) ∧ w.cell? ⟨b, off + k * 3 + 2, none⟩ = some (.slice (L.getD k Pv.none).ta (L.getD k Pv.none).ts.length (L.getD k Pv.none).tc) ∧ Bls w (L.getD k Pv.none).ha (L.getD k Pv.none).hs ∧ Strs w (L.getD k Pv.none).ta (L.getD k Pv.none).ts := by
  obtain ⟨b, off, rfl, h0⟩ := h.row (k * 3 + 0) (by omega)
  obtain ⟨b1, off1, e1, h1⟩ := h.row (k * 3 + 1) (by omega)
  cases e1
  obtain ⟨b2, off2, e2, h2⟩ := h.row (k * 3 + 2) (by omega)
  cases e2
  rw [pcell_at L k _ (by omega)] at h0 h1 h2
  exact ⟨b, off, rfl, h0, by rw [Nat.add_assoc]; exact h1, by rw [Nat.add_assoc]; exact h2, h.each _ (by simp [List.getD, hk])⟩

/-- At most n of each. -/
def Pv.Upto (n : Int) (x : Pv) : Prop := (x.hs.length : Int) ≤ n ∧ (x.ts.length : Int) ≤ n ∧ ∀ s ∈ x.ts, (s.size : Int) ≤ n
theorem Pv.Upto.mono {n m : Int} {x : Pv} (h : x.Upto n) (hm : n ≤ m) : x.Upto m := ⟨Int.le_trans h.1 hm, Int.le_trans h.2.1 hm, fun s hs => Int.le_trans (h.2.2 s hs) hm⟩

/-- What is left: a number below 0, or one not above what was, and all fits. -/
def FitPv (r left : Int) (L : List Pv) : Prop := r < 0 ∨ (0 ≤ r ∧ r ≤ left ∧ (L.length : Int) ≤ left ∧ ∀ x ∈ L, x.Upto left)

set_option maxRecDepth 100000 in
set_option maxHeartbeats 1000000 in
theorem eqPVol (w : World) (x y : Pv) (S : Bls w x.ha x.hs ∧ Strs w x.ta x.ts) (T : Bls w y.ha y.hs ∧ Strs w y.ta y.ts) (hd : x.data = y.data) (hx : x.Upto maxLen) :
    Calls Try.prog 40 #[x.val, y.val] w fun r w' => r = .returned (.bool true) ∧ Below w.heap.size w w' := by
  obtain ⟨on, ha, hc, hs, ta, tc, ts⟩ := x
  obtain ⟨on', ha', hc', hs', ta', tc', ts'⟩ := y
  simp only [Pv.data, Prod.mk.injEq] at hd
  obtain ⟨rfl, rfl, rfl⟩ := hd
  unfold Pv.val
  simp only [] at S T ⊢
  have h3 : hs.length ≤ maxLen := by have := hx.1; simp only [] at this; omega
  have h4 : ts.length ≤ maxLen := by have := hx.2.1; simp only [] at this; omega
  have HS := hid S
  have HT := hid T
  have H3 := hid h3
  have H4 := hid h4
  clear S T hx h3 h4
  obtain ⟨wa, hwa, ez, A0, C0, B0⟩ := two_new w [.bool on, .slice ha hs.length hc, .slice ta ts.length tc] [.bool on, .slice ha' hs.length hc', .slice ta' ts.length tc'] 67 67
  have k0 := A0.c 0 rfl
  have k1 := A0.c 1 rfl
  have j0 := C0.c 0 rfl
  have j1 := C0.c 1 rfl
  have HA := hid A0
  have HC := hid C0
  have HB := hid B0
  clear A0 B0 C0
  go_enter Try.func40, Try.ntmps40
  go_wp2_with fail
  refine (eqBoolS wa ha ha' hc hc' hs hs (HS.out.1.below HB.out) (HT.out.1.below HB.out) H3.out rfl).mono ?_
  rintro r w1 ⟨rfl, b1⟩
  have k2 := (HA.out.below b1 HA.out.lt).c 2 rfl
  have j2 := (HC.out.below b1 HC.out.lt).c 2 rfl
  have HB1 := hid (HB.out.trans (b1.mono HB.out.size))
  clear b1 hwa k0 k1 j0 j1
  go_wp2_with fail
  refine (eqStringS w1 ta ta' tc tc' ts ts (HS.out.2.below HB1.out) (HT.out.2.below HB1.out) H4.out H4.out).mono ?_
  rintro r w2 ⟨rfl, b2⟩
  have HB2 := hid (HB1.out.trans (b2.mono HB1.out.size))
  rw [decide_eq_true rfl]
  clear b2
  go_wp2
  go_ret
  exact ⟨rfl, HB2.out⟩

set_option maxRecDepth 100000 in
set_option maxHeartbeats 1000000 in
theorem eqPVolS (w : World) (a b : Option Addr) (ca cb : Nat) (L M : List Pv) (S : Pvs w a L) (T : Pvs w b M) (hd : L.map Pv.data = M.map Pv.data) (hl : L.length ≤ maxLen) (he : ∀ x ∈ L, x.Upto maxLen) :
    Calls Try.prog 25 #[.slice a L.length ca, .slice b M.length cb] w fun e w' => e = .returned (.bool true) ∧ Below w.heap.size w w' := by
  have hlm : L.length = M.length := by have := congrArg List.length hd; simpa using this
  rw [← hlm]
  unfold maxLen at hl
  have HS := hid S
  have HT := hid T
  have HE : Hid (∀ k, k < L.length → (L.getD k Pv.none).data = (M.getD k Pv.none).data ∧ (L.getD k Pv.none).Upto maxLen) := fun k hk => by
    have h1 : (L.map Pv.data)[k]? = (M.map Pv.data)[k]? := by rw [hd]
    have hk2 : k < M.length := by omega
    simp only [List.getElem?_map, List.getElem?_eq_getElem hk, List.getElem?_eq_getElem hk2, Option.map_some, Option.some.injEq] at h1
    simp only [List.getD, List.getElem?_eq_getElem hk, List.getElem?_eq_getElem hk2, Option.getD_some]
    exact ⟨h1, he _ (List.getElem_mem hk)⟩
  have HL := hid hlm
  clear S T hd he hlm
  go_enter Try.func25, Try.ntmps25
  go_wp2
  go_loopw [5] (fun i wr => ∃ k : Nat, k ≤ L.length ∧ i = .int .i64 (k : Int) ∧ Hid (Below w.heap.size w wr)) (fun i _ => L.length - (intOf i).toNat)
  case atStart => exact ⟨0, Nat.zero_le _, rfl, Below.refl _ _⟩
  case round =>
    obtain ⟨k, hk, rfl, HB⟩ := hrel
    by_cases hlt : k < L.length
    · obtain ⟨b1, o1, rfl, c0, c1, c2, i1, i2⟩ := Pvs.at_ (HS.out.below HB.out) k hlt
      obtain ⟨b2, o2, rfl, d0, d1, d2, j1, j2⟩ := Pvs.at_ (HT.out.below HB.out) k (by have := HL.out; omega)
      obtain ⟨hx, hm⟩ := HE.out k hlt
      generalize L.getD k Pv.none = x at c0 c1 c2 i1 i2 hx hm
      generalize M.getD k Pv.none = y at d0 d1 d2 j1 j2 hx
      have HI1 := hid i1
      have HI2 := hid i2
      have HJ1 := hid j1
      have HJ2 := hid j2
      have HM := hid hm
      have HX := hid hx
      have hne : Nonempty (BW wr) := ⟨⟨wr, Below.refl _ _⟩⟩
      replace c0 := BW.cell c0
      replace c1 := BW.cell c1
      replace c2 := BW.cell c2
      replace d0 := BW.cell d0
      replace d1 := BW.cell d1
      replace d2 := BW.cell d2
      clear i1 i2 j1 j2 hm hx
      go_wp2
      refine wp_region_bw (by kernel_rfl) (by kernel_rfl) ?_
      repeat (go_big_quiet_step (first
        | (go_at_call 40; refine bw_below (eqPVol _ x y ⟨Sl.below HI1.out (BW.bel _), Sl.below HI2.out (BW.bel _)⟩ ⟨Sl.below HJ1.out (BW.bel _), Sl.below HJ2.out (BW.bel _)⟩ HX.out HM.out))))
      refine wpQuiet_nil ?_
      intro _ hw'
      obtain ⟨u, rfl⟩ := hw'
      have HU := hid (HB.out.trans (u.bel.mono HB.out.size))
      clear c0 c1 c2 d0 d1 d2
      go_wp2
      exact ⟨⟨k + 1, by omega, by go_num, HU⟩, by simp [intOf]; omega⟩
    · obtain rfl : k = L.length := by omega
      go_wp2
      go_ret
      exact ⟨rfl, HB.out⟩

set_option maxRecDepth 100000 in
set_option maxHeartbeats 1000000 in
theorem eqPool (w : World) (a b : Option Addr) (ca cb : Nat) (L M : List Pv) (S : Pvs w a L) (T : Pvs w b M) (hd : L.map Pv.data = M.map Pv.data) (hl : L.length ≤ maxLen) (he : ∀ x ∈ L, x.Upto maxLen) :
    Calls Try.prog 8 #[plV a L.length ca, plV b M.length cb] w fun e w' => e = .returned (.bool true) ∧ Below w.heap.size w w' := by
  unfold plV
  have HS := hid S
  have HT := hid T
  have HD := hid hd
  have HL := hid hl
  have HE := hid he
  clear S T hd hl he
  obtain ⟨wa, hwa, ez, A0, C0, B0⟩ := two_new w [.slice a L.length ca] [.slice b M.length cb] 26 26
  have k0 := A0.c 0 rfl
  have j0 := C0.c 0 rfl
  have HB := hid B0
  clear A0 B0 C0
  go_enter Try.func8, Try.ntmps8
  go_wp2_with fail
  refine (eqPVolS wa a b ca cb L M (HS.out.below HB.out) (HT.out.below HB.out) HD.out HL.out HE.out).mono ?_
  rintro r w1 ⟨rfl, b1⟩
  have HB1 := hid (HB.out.trans (b1.mono HB.out.size))
  clear b1 hwa k0 j0
  go_wp2
  go_ret
  exact ⟨rfl, HB1.out⟩

end Go.Proofs.Ytbnpnhcegoanmaa.Pl
