/-
  A list of groups' sectors in memory, and the walks of laws.szGroupSecS, laws.toGroupSecS and laws.eqGroupSecS. No condition but lists of at most 2^20.
-/
import Derived.Test.YteaiciofcffkgaaSecOk2
namespace Go.Proofs.Yteaiciofcffkgaa.Pl
open Go.RowKit Go.Proofs.Yteaiciofcffkgaa.Mem Go.Proofs.Yteaiciofcffkgaa.Sec
set_option linter.unusedVariables false

/-- One of them: what it holds, and where its own list lies. -/
structure Gs where
  h : Int
  e : Int
  a : Option Addr
  cap : Nat
  l : List Int

def Gs.none : Gs := ⟨0, 0, Option.none, 0, []⟩
def Gs.cells (x : Gs) : List Value := [.int .i64 x.h, .int .i64 x.e, .slice x.a x.l.length x.cap]
/-- What it holds, wherever it lies. -/
def Gs.data (x : Gs) : Int × Int × List Int := (x.h, x.e, x.l)

def gcell (L : List Gs) (i : Nat) : Value := (L.getD (i / 3) Gs.none).cells.getD (i % 3) undef

structure Grps (w : World) (a : Option Addr) (L : List Gs) : Prop where
  row : Sl w a (L.length * 3) (gcell L)
  each : ∀ x ∈ L, Ints w x.a x.l

structure GrpsW (w : World) (B : Nat) (a : Option Addr) (L : List Gs) : Prop where
  row : Wr w B a (L.length * 3) (gcell L)
  each : ∀ x ∈ L, IntsW w B x.a x.l

theorem GrpsW.r {w : World} {B : Nat} {a : Option Addr} {L : List Gs} (h : GrpsW w B a L) : Grps w a L := ⟨h.row.sl, fun x hx => (h.each x hx).sl⟩
theorem Grps.below {w w' : World} {a : Option Addr} {L : List Gs} (h : Grps w a L) (k : Below w.heap.size w w') : Grps w' a L := ⟨h.row.below k, fun x hx => Sl.below (h.each x hx) k⟩
theorem GrpsW.below {w w' : World} {B : Nat} {a : Option Addr} {L : List Gs} (h : GrpsW w B a L) (k : Below w.heap.size w w') : GrpsW w' B a L := ⟨h.row.below k, fun x hx => Wr.below (h.each x hx) k⟩
theorem GrpsW.mono {w : World} {B B' : Nat} {a : Option Addr} {L : List Gs} (h : GrpsW w B a L) (hb : B' ≤ B) : GrpsW w B' a L := ⟨h.row.mono hb, fun x hx => Wr.mono (h.each x hx) hb⟩
/-- What lies in blocks from B on stands where only blocks below B turn. -/
theorem GrpsW.kept {S : Nat → Prop} {w w' : World} {B : Nat} {a : Option Addr} {L : List Gs} (h : GrpsW w B a L) (k : Kept S w w') (hn : ∀ b, B ≤ b → ¬ S b) : GrpsW w' B a L :=
  ⟨h.row.move k (fun b hb => hn b (h.row.foot_ge hb)), fun x hx => Wr.move (h.each x hx) k (fun b hb => hn b (Wr.foot_ge (h.each x hx) hb))⟩

theorem gcell_at (L : List Gs) (k j : Nat) (hj : j < 3) : gcell L (k * 3 + j) = (L.getD k Gs.none).cells.getD j undef := by
  unfold gcell
  rw [show (k * 3 + j) / 3 = k by omega, show (k * 3 + j) % 3 = j by omega]

theorem Grps.at_ {w : World} {a : Option Addr} {L : List Gs} (h : Grps w a L) (k : Nat) (hk : k < L.length) : ∃ b off, a = some ⟨b, off, none⟩ ∧
    w.cell? ⟨b, off + k * 3, none⟩ = some (.int .i64 (L.getD k Gs.none).h) ∧ w.cell? ⟨b, off + k * 3 + 1, none⟩ = some (.int .i64 (L.getD k Gs.none).e) ∧ w.cell? ⟨b, off + k * 3 + 2, none⟩ = some (.slice (L.getD k Gs.none).a (L.getD k Gs.none).l.length (L.getD k Gs.none).cap) ∧ Ints w (L.getD k Gs.none).a (L.getD k Gs.none).l := by
  obtain ⟨b, off, rfl, h0⟩ := h.row (k * 3 + 0) (by omega)
  obtain ⟨b1, off1, e1, h1⟩ := h.row (k * 3 + 1) (by omega)
  cases e1
  obtain ⟨b2, off2, e2, h2⟩ := h.row (k * 3 + 2) (by omega)
  cases e2
  rw [gcell_at L k _ (by omega)] at h0 h1 h2
  exact ⟨b, off, rfl, h0, by rw [Nat.add_assoc]; exact h1, by rw [Nat.add_assoc]; exact h2, h.each _ (by simp [List.getD, hk])⟩

/-- What is left: a number below 0, or one not above what was, and all fits. -/
def FitGs (r left : Int) (L : List Gs) : Prop := r < 0 ∨ (0 ≤ r ∧ r ≤ left ∧ (L.length : Int) ≤ left ∧ ∀ x ∈ L, (x.l.length : Int) ≤ left)

set_option maxRecDepth 100000 in
set_option maxHeartbeats 1000000 in
theorem szGroupSecS (w : World) (a : Option Addr) (cap : Nat) (L : List Gs) (left : Int) (S : Grps w a L) (hl : L.length ≤ maxLen) (hs : ∀ x ∈ L, x.l.length ≤ maxLen) (h0 : 0 ≤ left) (h1 : left ≤ 1048576) :
    Calls Try.prog 20 #[.slice a L.length cap, .int .i64 left] w fun e w' => ∃ r, e = .returned (.int .i64 r) ∧ Below w.heap.size w w' ∧ FitGs r left L := by
  unfold maxLen at hl
  have HS := hid S
  have Hs := hid hs
  clear S hs
  by_cases hb : left < (L.length : Int)
  · go_enter Try.func20, Try.ntmps20
    go_wp2
    go_ret
    exact ⟨_, rfl, Below.refl _ _, Or.inl (by decide)⟩
  go_enter Try.func20, Try.ntmps20
  go_wp2
  go_loopw [1, 5] (fun z i wr => ∃ (k : Nat) (m : Int), k ≤ L.length ∧ i = .int .i64 (k : Int) ∧ z = .int .i64 m ∧ 0 ≤ m ∧ m ≤ left ∧ Hid (∀ j, j < k → ((L.getD j Gs.none).l.length : Int) ≤ left) ∧ Hid (Below w.heap.size w wr)) (fun _ i _ => L.length - (intOf i).toNat)
  case atStart => exact ⟨0, left - L.length, Nat.zero_le _, rfl, rfl, by omega, by omega, fun j hj => by omega, Below.refl _ _⟩
  case round =>
    obtain ⟨k, m, hk, rfl, rfl, hm0, hm1, HJ, HB⟩ := hrel
    by_cases hlt : k < L.length
    · obtain ⟨b, off, rfl, c0, c1, c2, _⟩ := Grps.at_ (HS.out.below HB.out) k hlt
      have hx : (L.getD k Gs.none).l.length ≤ maxLen := Hs.out _ (by simp [List.getD, hlt])
      generalize hq : L.getD k Gs.none = x at c0 c1 c2 hx
      have HX := hid hq
      clear hq
      obtain ⟨xh, xe, xa, xc, xl⟩ := x
      simp only [] at c0 c1 c2 hx
      have hx' := hx
      unfold maxLen at hx'
      go_wp2_with fail
      refine (szGroupSec wr xh xe xa xc xl.length m hx hm0 (by omega)).mono ?_
      rintro e w1 ⟨r, rfl, b1, hf⟩
      have HB1 := hid (HB.out.trans (b1.mono HB.out.size))
      have HF := hid hf
      clear b1 hf c0 c1 c2 hx hx'
      by_cases hr : r < 0
      · go_wp2
        go_ret
        exact ⟨_, rfl, HB1.out, Or.inl (by decide)⟩
      · have hf : 0 ≤ r ∧ r ≤ m ∧ (xl.length : Int) ≤ m := by
          rcases HF.out with h | h
          · omega
          · exact h
        have hf1 := hf.1
        have hf2 := hf.2.1
        have HF2 := hid hf.2.2
        clear hf HF
        go_wp2
        exact ⟨⟨k + 1, r, by omega, by go_num, rfl, hf1, by omega, fun j hj => by
          by_cases h : j = k
          · subst h; rw [HX.out]; have := HF2.out; show (xl.length : Int) ≤ left; omega
          · exact HJ.out j (by omega), HB1⟩, by simp [intOf]; omega⟩
    · obtain rfl : k = L.length := by omega
      go_wp2
      go_ret
      refine ⟨_, rfl, HB.out, Or.inr ⟨hm0, hm1, by omega, fun x hx => ?_⟩⟩
      obtain ⟨j, hj, rfl⟩ := List.getElem_of_mem hx
      have := HJ.out j hj
      rwa [List.getD, List.getElem?_eq_getElem hj] at this

set_option maxRecDepth 100000 in
set_option maxHeartbeats 1000000 in
theorem eqGroupSecS (w : World) (a b : Option Addr) (ca cb : Nat) (L M : List Gs) (S : Grps w a L) (T : Grps w b M) (hd : L.map Gs.data = M.map Gs.data) (hl : L.length ≤ maxLen) (he : ∀ x ∈ L, x.l.length ≤ maxLen) :
    Calls Try.prog 37 #[.slice a L.length ca, .slice b M.length cb] w fun e w' => e = .returned (.bool true) ∧ Below w.heap.size w w' := by
  have hlm : L.length = M.length := by have := congrArg List.length hd; simpa using this
  rw [← hlm]
  unfold maxLen at hl
  have HS := hid S
  have HT := hid T
  have HE : Hid (∀ k, k < L.length → (L.getD k Gs.none).data = (M.getD k Gs.none).data ∧ (L.getD k Gs.none).l.length ≤ maxLen) := fun k hk => by
    have h1 : (L.map Gs.data)[k]? = (M.map Gs.data)[k]? := by rw [hd]
    have hk2 : k < M.length := by omega
    simp only [List.getElem?_map, List.getElem?_eq_getElem hk, List.getElem?_eq_getElem hk2, Option.map_some, Option.some.injEq] at h1
    simp only [List.getD, List.getElem?_eq_getElem hk, List.getElem?_eq_getElem hk2, Option.getD_some]
    exact ⟨h1, he _ (List.getElem_mem hk)⟩
  have HL := hid hlm
  clear S T hd he hlm
  go_enter Try.func37, Try.ntmps37
  go_wp2
  go_loopw [5] (fun i wr => ∃ k : Nat, k ≤ L.length ∧ i = .int .i64 (k : Int) ∧ Hid (Below w.heap.size w wr)) (fun i _ => L.length - (intOf i).toNat)
  case atStart => exact ⟨0, Nat.zero_le _, rfl, Below.refl _ _⟩
  case round =>
    obtain ⟨k, hk, rfl, HB⟩ := hrel
    by_cases hlt : k < L.length
    · obtain ⟨b1, o1, rfl, c0, c1, c2, i1⟩ := Grps.at_ (HS.out.below HB.out) k hlt
      obtain ⟨b2, o2, rfl, d0, d1, d2, i2⟩ := Grps.at_ (HT.out.below HB.out) k (by have := HL.out; omega)
      obtain ⟨hx, hm⟩ := HE.out k hlt
      generalize L.getD k Gs.none = x at c0 c1 c2 i1 hx hm
      generalize M.getD k Gs.none = y at d0 d1 d2 i2 hx
      obtain ⟨xh, xe, xa, xc, xl⟩ := x
      obtain ⟨yh, ye, ya, yc, yl⟩ := y
      simp only [Gs.data, Prod.mk.injEq] at hx
      obtain ⟨rfl, rfl, rfl⟩ := hx
      simp only [] at c0 c1 c2 d0 d1 d2 i1 i2 hm
      have HI1 := hid i1
      have HI2 := hid i2
      have HM := hid hm
      have hne : Nonempty (BW wr) := ⟨⟨wr, Below.refl _ _⟩⟩
      replace c0 := BW.cell c0
      replace c1 := BW.cell c1
      replace c2 := BW.cell c2
      replace d0 := BW.cell d0
      replace d1 := BW.cell d1
      replace d2 := BW.cell d2
      clear i1 i2 hm
      go_wp2
      refine wp_region_bw (by kernel_rfl) (by kernel_rfl) ?_
      repeat (go_big_quiet_step (first
        | (go_at_call 49; refine bw_below (eqGroupSec _ xh xe xa ya xc yc xl xl (Sl.below HI1.out (BW.bel _)) (Sl.below HI2.out (BW.bel _)) HM.out HM.out rfl))))
      refine wpQuiet_nil ?_
      intro _ hw'
      obtain ⟨u, rfl⟩ := hw'
      have HU := hid (HB.out.trans (u.bel.mono HB.out.size))
      clear c0 c1 c2 d0 d1 d2
      go_wp2
      exact ⟨⟨k + 1, by omega, by go_num, HU⟩, by simp [intOf]; omega⟩
    · obtain rfl : k = L.length := by omega
      go_wp2
      go_ret
      exact ⟨rfl, HB.out⟩

theorem infoGs : (Try.prog.info? 60).map (fun i => (i.zero, i.size, i.bytes)) = some (some (.agg #[.int .i64 0, .int .i64 0, .slice none 0 0]), 3, 40) := by kernel_rfl

/-- The cells of the new row behind k rounds. -/
def partGs (L : List Gs) (i : Nat) : Value := if i < L.length * 3 then gcell L i else Gs.none.cells.getD (i % 3) undef

theorem setGs {w : World} {B b : Nat} {m : Nat} {f : Nat → Value} (h : Wr w B (some ⟨b, 0, none⟩) m f) (k : Nat) (hk : k * 3 + 3 ≤ m) (v0 v1 v2 : Value) :
    Wr (((w.setCell ⟨b, k * 3, none⟩ v0).setCell ⟨b, k * 3 + 1, none⟩ v1).setCell ⟨b, k * 3 + 2, none⟩ v2) B (some ⟨b, 0, none⟩) m (fun j => if j / 3 = k then [v0, v1, v2].getD (j % 3) undef else f j) := by
  have h0 := h.set (k * 3) (by omega) v0
  have h1 := h0.set (k * 3 + 1) (by omega) v1
  have h2 := h1.set (k * 3 + 2) (by omega) v2
  simp only [Nat.zero_add] at h2
  refine h2.congr (fun j _ => ?_)
  by_cases hj : j / 3 = k
  · have : j = k * 3 ∨ j = k * 3 + 1 ∨ j = k * 3 + 2 := by omega
    rcases this with rfl | rfl | rfl
    · rw [if_neg (by omega), if_neg (by omega), if_pos rfl, if_pos (by omega), show k * 3 % 3 = 0 by omega]; rfl
    · rw [if_neg (by omega), if_pos rfl, if_pos (by omega), show (k * 3 + 1) % 3 = 1 by omega]; rfl
    · rw [if_pos rfl, if_pos (by omega), show (k * 3 + 2) % 3 = 2 by omega]; rfl
  · rw [if_neg (by omega), if_neg (by omega), if_neg (by omega), if_neg hj]

theorem partGs_succ (L : List Gs) (x : Gs) (j : Nat) : (if j / 3 = L.length then x.cells.getD (j % 3) undef else partGs L j) = partGs (L ++ [x]) j := by
  unfold partGs gcell
  simp only [List.length_append, List.length_cons, List.length_nil]
  by_cases h : j / 3 = L.length
  · rw [if_pos h, if_pos (by omega), h]
    simp [List.getD]
  · by_cases h2 : j < L.length * 3
    · have h3 : j / 3 < L.length := by omega
      rw [if_neg h, if_pos h2, if_pos (by omega)]
      simp [List.getD, List.getElem?_append_left h3]
    · rw [if_neg h, if_neg h2, if_neg (by omega)]

theorem wr_Gs {w : World} {B b : Nat} {m : Nat} {f : Nat → Value} (h : Wr w B (some ⟨b, 0, none⟩) m f) (k : Nat) (hk : k * 3 + 3 ≤ m) :
    (∃ v, w.cell? ⟨b, k * 3, none⟩ = some v) ∧ (∃ v, w.cell? ⟨b, k * 3 + 1, none⟩ = some v) ∧ (∃ v, w.cell? ⟨b, k * 3 + 2, none⟩ = some v) ∧ w.frozen? ⟨b, k * 3, none⟩ = false ∧ w.frozen? ⟨b, k * 3 + 1, none⟩ = false ∧ w.frozen? ⟨b, k * 3 + 2, none⟩ = false := by
  obtain ⟨_, _, e0, _, h0, z0⟩ := h (k * 3) (by omega)
  obtain ⟨_, _, e1, _, h1, z1⟩ := h (k * 3 + 1) (by omega)
  obtain ⟨_, _, e2, _, h2, z2⟩ := h (k * 3 + 2) (by omega)
  cases e0
  cases e1
  cases e2
  rw [Nat.zero_add] at h0 h1 h2 z0 z1 z2
  exact ⟨⟨_, h0⟩, ⟨_, h1⟩, ⟨_, h2⟩, z0, z1, z2⟩

theorem kept_Gs (w : World) (b k : Nat) (v0 v1 v2 : Value) : Kept (fun x => x = b) w (((w.setCell ⟨b, k * 3, none⟩ v0).setCell ⟨b, k * 3 + 1, none⟩ v1).setCell ⟨b, k * 3 + 2, none⟩ v2) := ((((kept_set _ _ _ _).trans (kept_set _ _ _ _)).trans (kept_set _ _ _ _))).mono (fun b _ h => by rcases h with (h | h) | h <;> exact h)

set_option maxRecDepth 100000 in
set_option maxHeartbeats 2000000 in
theorem toGroupSecS (w : World) (a : Option Addr) (cap : Nat) (L : List Gs) (S : Grps w a L) (hl : L.length ≤ 1048576) (he : ∀ x ∈ L, x.l.length ≤ 1048576) :
    Calls Try.prog 28 #[.slice a L.length cap] w fun e w' => ∃ g M, e = .returned (.slice (some ⟨g, 0, none⟩) M.length M.length) ∧ w.heap.size ≤ g ∧ g < w'.heap.size ∧ GrpsW w' w.heap.size (some ⟨g, 0, none⟩) M ∧ L.map Gs.data = M.map Gs.data ∧ Below w.heap.size w w' := by
  have hmk := make_rows (P := Try.prog) 40 60 (.agg #[.int .i64 0, .int .i64 0, .slice none 0 0]) 3 40 Try.underlying40 infoGs .i64 .i64 L.length (by omega) (by omega)
  have HS := hid S
  have HE := hid he
  have hw0 := wr_new w (madeCells (Value.agg #[.int .i64 0, .int .i64 0, .slice none 0 0]).cells (L.length * 3)) 60 (L.length * 3) (partGs []) (fun i hi => by
    simp [madeCells, hi, partGs, Gs.none, Gs.cells, Value.cells]
    have : i % 3 = 0 ∨ i % 3 = 1 ∨ i % 3 = 2 := by omega
    rcases this with h | h | h <;> simp [h])
  generalize madeCells (Value.agg #[.int .i64 0, .int .i64 0, .slice none 0 0]).cells (L.length * 3) = cur at hmk hw0
  have HW := hid hw0
  clear S hw0 he
  go_enter Try.func28, Try.ntmps28
  go_wp2
  go_loopw [4] (fun i wr => ∃ (k : Nat) (M : List Gs), k ≤ L.length ∧ i = .int .i64 (k : Int) ∧ w.heap.size < wr.heap.size ∧ Hid (M.length = k) ∧ Hid ((L.take k).map Gs.data = M.map Gs.data) ∧ Hid (Wr wr w.heap.size (some ⟨w.heap.size, 0, none⟩) (L.length * 3) (partGs M)) ∧ Hid (∀ x ∈ M, IntsW wr (w.heap.size + 1) x.a x.l) ∧ Hid (Below w.heap.size w wr)) (fun i _ => L.length - (intOf i).toNat)
  case atStart => exact ⟨0, [], Nat.zero_le _, rfl, lt_alloc _ _, rfl, rfl, HW, fun x hx => by simp at hx, (Below.refl _ _).alloc (Nat.le_refl _) _⟩
  case round =>
    obtain ⟨k, M, hk, rfl, hsz, HK, HD, HW', HI, HB⟩ := hrel
    by_cases hlt : k < L.length
    · obtain ⟨b, off, rfl, c0, c1, c2, i1⟩ := Grps.at_ (HS.out.below HB.out) k hlt
      have hx : (L.getD k Gs.none).l.length ≤ 1048576 := HE.out _ (by simp [List.getD, hlt])
      have hdx : (L.take (k + 1)).map Gs.data = (L.take k).map Gs.data ++ [(L.getD k Gs.none).data] := by
        rw [List.take_add_one, List.map_append, List.getElem?_eq_getElem hlt]
        simp only [Option.toList_some, List.map_cons, List.map_nil, List.getD, List.getElem?_eq_getElem hlt, Option.getD_some]
      generalize L.getD k Gs.none = x at c0 c1 c2 i1 hx hdx
      have HX := hid hdx
      clear hdx
      obtain ⟨xh, xe, xa, xc, xl⟩ := x
      simp only [] at c0 c1 c2 i1 hx
      have HI1 := hid i1
      clear i1
      go_wp2_with fail
      refine (toGroupSec _ xh xe xa xc xl HI1.out hx).mono ?_
      rintro e w1 ⟨g, rfl, hg0, hg1, S1, hb1⟩
      have HW1 := hid (HW'.out.below hb1)
      have HS1 := hid S1
      have HI2 : Hid (∀ x ∈ M, IntsW w1 (w.heap.size + 1) x.a x.l) := fun x hx => Wr.below (HI.out x hx) hb1
      have HB1 := hid (HB.out.trans (hb1.mono (Nat.le_of_lt hsz)))
      have hsz1 : w.heap.size < w1.heap.size := Nat.lt_of_lt_of_le hsz hb1.size
      obtain ⟨⟨u0, d0⟩, ⟨u1, d1⟩, ⟨u2, d2⟩, z0, z1, z2⟩ := wr_Gs HW1.out k (by omega)
      clear hb1 S1 c0 c1 c2
      unfold gpV
      go_wp2
      refine ⟨⟨k + 1, M ++ [⟨xh, xe, some ⟨g, 0, none⟩, xl.length, xl⟩], by omega, by go_num, by simpa using hsz1, by rw [Hid, List.length_append, HK.out]; rfl, ?_, ?_, ?_, (((HB1.out.setCell (Nat.le_refl _) _).setCell (Nat.le_refl _) _).setCell (Nat.le_refl _) _)⟩, by simp [intOf]; omega⟩
      · rw [Hid, HX.out, HD.out, List.map_append]; rfl
      · exact (setGs HW1.out k (by omega) _ _ _).congr (fun j _ => by rw [← partGs_succ, HK.out]; rfl)
      · intro y hy
        have hk4 := kept_Gs w1 w.heap.size k (.int .i64 xh) (.int .i64 xe) (.slice (some ⟨g, 0, none⟩) xl.length xl.length)
        rcases List.mem_append.1 hy with hy | hy
        · exact Wr.move (HI2.out y hy) hk4 (fun b hb => by have := Wr.foot_ge (HI2.out y hy) hb; omega)
        · obtain rfl : y = ⟨xh, xe, some ⟨g, 0, none⟩, xl.length, xl⟩ := by simpa using hy
          exact Wr.move (Wr.mono HS1.out (by omega)) hk4 (fun b hb => by have := Wr.foot_ge HS1.out hb; omega)
    · obtain rfl : k = L.length := by omega
      go_wp2
      go_ret
      refine ⟨w.heap.size, M, by rw [HK.out]; rfl, Nat.le_refl _, hsz, ⟨?_, fun x hx => Wr.mono (HI.out x hx) (by omega)⟩, ?_, HB.out⟩
      · rw [HK.out]
        exact HW'.out.congr (fun i hi => by unfold partGs; rw [HK.out, if_pos hi])
      · have := HD.out
        rwa [List.take_length] at this

end Go.Proofs.Yteaiciofcffkgaa.Pl
