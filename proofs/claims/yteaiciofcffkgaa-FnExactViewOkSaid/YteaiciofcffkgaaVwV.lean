/-
  A list of volumes' sectors in memory, and the walks of laws.szVolSecS, laws.toVolSecS and laws.eqVolSecS. No condition but lists of at most 2^20.
-/
import Derived.Test.YteaiciofcffkgaaSecOk2
namespace Go.Proofs.Yteaiciofcffkgaa.Pl
open Go.RowKit Go.Proofs.Yteaiciofcffkgaa.Mem Go.Proofs.Yteaiciofcffkgaa.Sec
set_option linter.unusedVariables false

/-- One of them: what it holds, and where its own list lies. -/
structure Vs where
  h : Int
  e : Int
  on : Bool
  a : Option Addr
  cap : Nat
  l : List Int

def Vs.none : Vs := ⟨0, 0, false, Option.none, 0, []⟩
def Vs.cells (x : Vs) : List Value := [.int .i64 x.h, .int .i64 x.e, .bool x.on, .slice x.a x.l.length x.cap]
/-- What it holds, wherever it lies. -/
def Vs.data (x : Vs) : Int × Int × Bool × List Int := (x.h, x.e, x.on, x.l)

def vcell (L : List Vs) (i : Nat) : Value := (L.getD (i / 4) Vs.none).cells.getD (i % 4) undef

structure Vols (w : World) (a : Option Addr) (L : List Vs) : Prop where
  row : Sl w a (L.length * 4) (vcell L)
  each : ∀ x ∈ L, Ints w x.a x.l

structure VolsW (w : World) (B : Nat) (a : Option Addr) (L : List Vs) : Prop where
  row : Wr w B a (L.length * 4) (vcell L)
  each : ∀ x ∈ L, IntsW w B x.a x.l

theorem VolsW.r {w : World} {B : Nat} {a : Option Addr} {L : List Vs} (h : VolsW w B a L) : Vols w a L := ⟨h.row.sl, fun x hx => (h.each x hx).sl⟩
theorem Vols.below {w w' : World} {a : Option Addr} {L : List Vs} (h : Vols w a L) (k : Below w.heap.size w w') : Vols w' a L := ⟨h.row.below k, fun x hx => Sl.below (h.each x hx) k⟩
theorem VolsW.below {w w' : World} {B : Nat} {a : Option Addr} {L : List Vs} (h : VolsW w B a L) (k : Below w.heap.size w w') : VolsW w' B a L := ⟨h.row.below k, fun x hx => Wr.below (h.each x hx) k⟩
theorem VolsW.mono {w : World} {B B' : Nat} {a : Option Addr} {L : List Vs} (h : VolsW w B a L) (hb : B' ≤ B) : VolsW w B' a L := ⟨h.row.mono hb, fun x hx => Wr.mono (h.each x hx) hb⟩
/-- What lies in blocks from B on stands where only blocks below B turn. -/
theorem VolsW.kept {S : Nat → Prop} {w w' : World} {B : Nat} {a : Option Addr} {L : List Vs} (h : VolsW w B a L) (k : Kept S w w') (hn : ∀ b, B ≤ b → ¬ S b) : VolsW w' B a L :=
  ⟨h.row.move k (fun b hb => hn b (h.row.foot_ge hb)), fun x hx => Wr.move (h.each x hx) k (fun b hb => hn b (Wr.foot_ge (h.each x hx) hb))⟩

theorem vcell_at (L : List Vs) (k j : Nat) (hj : j < 4) : vcell L (k * 4 + j) = (L.getD k Vs.none).cells.getD j undef := by
  unfold vcell
  rw [show (k * 4 + j) / 4 = k by omega, show (k * 4 + j) % 4 = j by omega]

theorem Vols.at_ {w : World} {a : Option Addr} {L : List Vs} (h : Vols w a L) (k : Nat) (hk : k < L.length) : ∃ b off, a = some ⟨b, off, none⟩ ∧
    w.cell? ⟨b, off + k * 4, none⟩ = some (.int .i64 (L.getD k Vs.none).h) ∧ w.cell? ⟨b, off + k * 4 + 1, none⟩ = some (.int .i64 (L.getD k Vs.none).e) ∧ w.cell? ⟨b, off + k * 4 + 2, none⟩ = some (.bool (L.getD k Vs.none).on) ∧ w.cell? ⟨b, off + k * 4 + 3, none⟩ = some (.slice (L.getD k Vs.none).a (L.getD k Vs.none).l.length (L.getD k Vs.none).cap) ∧ Ints w (L.getD k Vs.none).a (L.getD k Vs.none).l := by
  obtain ⟨b, off, rfl, h0⟩ := h.row (k * 4 + 0) (by omega)
  obtain ⟨b1, off1, e1, h1⟩ := h.row (k * 4 + 1) (by omega)
  cases e1
  obtain ⟨b2, off2, e2, h2⟩ := h.row (k * 4 + 2) (by omega)
  cases e2
  obtain ⟨b3, off3, e3, h3⟩ := h.row (k * 4 + 3) (by omega)
  cases e3
  rw [vcell_at L k _ (by omega)] at h0 h1 h2 h3
  exact ⟨b, off, rfl, h0, by rw [Nat.add_assoc]; exact h1, by rw [Nat.add_assoc]; exact h2, by rw [Nat.add_assoc]; exact h3, h.each _ (by simp [List.getD, hk])⟩

/-- What is left: a number below 0, or one not above what was, and all fits. -/
def FitVs (r left : Int) (L : List Vs) : Prop := r < 0 ∨ (0 ≤ r ∧ r ≤ left ∧ (L.length : Int) ≤ left ∧ ∀ x ∈ L, (x.l.length : Int) ≤ left)

set_option maxRecDepth 100000 in
set_option maxHeartbeats 1000000 in
theorem szVolSecS (w : World) (a : Option Addr) (cap : Nat) (L : List Vs) (left : Int) (S : Vols w a L) (hl : L.length ≤ maxLen) (hs : ∀ x ∈ L, x.l.length ≤ maxLen) (h0 : 0 ≤ left) (h1 : left ≤ 1048576) :
    Calls Try.prog 19 #[.slice a L.length cap, .int .i64 left] w fun e w' => ∃ r, e = .returned (.int .i64 r) ∧ Below w.heap.size w w' ∧ FitVs r left L := by
  unfold maxLen at hl
  have HS := hid S
  have Hs := hid hs
  clear S hs
  by_cases hb : left < (L.length : Int)
  · go_enter Try.func19, Try.ntmps19
    go_wp2
    go_ret
    exact ⟨_, rfl, Below.refl _ _, Or.inl (by decide)⟩
  go_enter Try.func19, Try.ntmps19
  go_wp2
  go_loopw [1, 5] (fun z i wr => ∃ (k : Nat) (m : Int), k ≤ L.length ∧ i = .int .i64 (k : Int) ∧ z = .int .i64 m ∧ 0 ≤ m ∧ m ≤ left ∧ Hid (∀ j, j < k → ((L.getD j Vs.none).l.length : Int) ≤ left) ∧ Hid (Below w.heap.size w wr)) (fun _ i _ => L.length - (intOf i).toNat)
  case atStart => exact ⟨0, left - L.length, Nat.zero_le _, rfl, rfl, by omega, by omega, fun j hj => by omega, Below.refl _ _⟩
  case round =>
    obtain ⟨k, m, hk, rfl, rfl, hm0, hm1, HJ, HB⟩ := hrel
    by_cases hlt : k < L.length
    · obtain ⟨b, off, rfl, c0, c1, c2, c3, _⟩ := Vols.at_ (HS.out.below HB.out) k hlt
      have hx : (L.getD k Vs.none).l.length ≤ maxLen := Hs.out _ (by simp [List.getD, hlt])
      generalize hq : L.getD k Vs.none = x at c0 c1 c2 c3 hx
      have HX := hid hq
      clear hq
      obtain ⟨xh, xe, xon, xa, xc, xl⟩ := x
      simp only [] at c0 c1 c2 c3 hx
      have hx' := hx
      unfold maxLen at hx'
      go_wp2_with fail
      refine (szVolSec wr xh xe xon xa xc xl.length m hx hm0 (by omega)).mono ?_
      rintro e w1 ⟨r, rfl, b1, hf⟩
      have HB1 := hid (HB.out.trans (b1.mono HB.out.size))
      have HF := hid hf
      clear b1 hf c0 c1 c2 c3 hx hx'
      by_cases hr : r < 0
      · go_wp2
        go_ret
        exact ⟨_, rfl, HB1.out, Or.inl (by decide)⟩
      · have hf : 0 ≤ r ∧ r ≤ m ∧ (xl.length : Int) ≤ m := by
          rcases HF.out with h | h
          · omega
          · exact h
        have hf1 := hf.1
        have hf2 := hf.2.1
        have HF2 := hid hf.2.2
        clear hf HF
        go_wp2
        exact ⟨⟨k + 1, r, by omega, by go_num, rfl, hf1, by omega, fun j hj => by
          by_cases h : j = k
          · subst h; rw [HX.out]; have := HF2.out; show (xl.length : Int) ≤ left; omega
          · exact HJ.out j (by omega), HB1⟩, by simp [intOf]; omega⟩
    · obtain rfl : k = L.length := by omega
      go_wp2
      go_ret
      refine ⟨_, rfl, HB.out, Or.inr ⟨hm0, hm1, by omega, fun x hx => ?_⟩⟩
      obtain ⟨j, hj, rfl⟩ := List.getElem_of_mem hx
      have := HJ.out j hj
      rwa [List.getD, List.getElem?_eq_getElem hj] at this

set_option maxRecDepth 100000 in
set_option maxHeartbeats 1000000 in
theorem eqVolSecS (w : World) (a b : Option Addr) (ca cb : Nat) (L M : List Vs) (S : Vols w a L) (T : Vols w b M) (hd : L.map Vs.data = M.map Vs.data) (hl : L.length ≤ maxLen) (he : ∀ x ∈ L, x.l.length ≤ maxLen) :
    Calls Try.prog 36 #[.slice a L.length ca, .slice b M.length cb] w fun e w' => e = .returned (.bool true) ∧ Below w.heap.size w w' := by
  have hlm : L.length = M.length := by have := congrArg List.length hd; simpa using this
  rw [← hlm]
  unfold maxLen at hl
  have HS := hid S
  have HT := hid T
  have HE : Hid (∀ k, k < L.length → (L.getD k Vs.none).data = (M.getD k Vs.none).data ∧ (L.getD k Vs.none).l.length ≤ maxLen) := fun k hk => by
    have h1 : (L.map Vs.data)[k]? = (M.map Vs.data)[k]? := by rw [hd]
    have hk2 : k < M.length := by omega
    simp only [List.getElem?_map, List.getElem?_eq_getElem hk, List.getElem?_eq_getElem hk2, Option.map_some, Option.some.injEq] at h1
    simp only [List.getD, List.getElem?_eq_getElem hk, List.getElem?_eq_getElem hk2, Option.getD_some]
    exact ⟨h1, he _ (List.getElem_mem hk)⟩
  have HL := hid hlm
  clear S T hd he hlm
  go_enter Try.func36, Try.ntmps36
  go_wp2
  go_loopw [5] (fun i wr => ∃ k : Nat, k ≤ L.length ∧ i = .int .i64 (k : Int) ∧ Hid (Below w.heap.size w wr)) (fun i _ => L.length - (intOf i).toNat)
  case atStart => exact ⟨0, Nat.zero_le _, rfl, Below.refl _ _⟩
  case round =>
    obtain ⟨k, hk, rfl, HB⟩ := hrel
    by_cases hlt : k < L.length
    · obtain ⟨b1, o1, rfl, c0, c1, c2, c3, i1⟩ := Vols.at_ (HS.out.below HB.out) k hlt
      obtain ⟨b2, o2, rfl, d0, d1, d2, d3, i2⟩ := Vols.at_ (HT.out.below HB.out) k (by have := HL.out; omega)
      obtain ⟨hx, hm⟩ := HE.out k hlt
      generalize L.getD k Vs.none = x at c0 c1 c2 c3 i1 hx hm
      generalize M.getD k Vs.none = y at d0 d1 d2 d3 i2 hx
      obtain ⟨xh, xe, xon, xa, xc, xl⟩ := x
      obtain ⟨yh, ye, yon, ya, yc, yl⟩ := y
      simp only [Vs.data, Prod.mk.injEq] at hx
      obtain ⟨rfl, rfl, rfl, rfl⟩ := hx
      simp only [] at c0 c1 c2 c3 d0 d1 d2 d3 i1 i2 hm
      have HI1 := hid i1
      have HI2 := hid i2
      have HM := hid hm
      have hne : Nonempty (BW wr) := ⟨⟨wr, Below.refl _ _⟩⟩
      replace c0 := BW.cell c0
      replace c1 := BW.cell c1
      replace c2 := BW.cell c2
      replace c3 := BW.cell c3
      replace d0 := BW.cell d0
      replace d1 := BW.cell d1
      replace d2 := BW.cell d2
      replace d3 := BW.cell d3
      clear i1 i2 hm
      go_wp2
      refine wp_region_bw (by kernel_rfl) (by kernel_rfl) ?_
      repeat (go_big_quiet_step (first
        | (go_at_call 48; refine bw_below (eqVolSec _ xh xe xon xa ya xc yc xl xl (Sl.below HI1.out (BW.bel _)) (Sl.below HI2.out (BW.bel _)) HM.out HM.out rfl))))
      refine wpQuiet_nil ?_
      intro _ hw'
      obtain ⟨u, rfl⟩ := hw'
      have HU := hid (HB.out.trans (u.bel.mono HB.out.size))
      clear c0 c1 c2 c3 d0 d1 d2 d3
      go_wp2
      exact ⟨⟨k + 1, by omega, by go_num, HU⟩, by simp [intOf]; omega⟩
    · obtain rfl : k = L.length := by omega
      go_wp2
      go_ret
      exact ⟨rfl, HB.out⟩

theorem infoVs : (Try.prog.info? 57).map (fun i => (i.zero, i.size, i.bytes)) = some (some (.agg #[.int .i64 0, .int .i64 0, .bool false, .slice none 0 0]), 4, 48) := by kernel_rfl

/-- The cells of the new row behind k rounds. -/
def partVs (L : List Vs) (i : Nat) : Value := if i < L.length * 4 then vcell L i else Vs.none.cells.getD (i % 4) undef

theorem setVs {w : World} {B b : Nat} {m : Nat} {f : Nat → Value} (h : Wr w B (some ⟨b, 0, none⟩) m f) (k : Nat) (hk : k * 4 + 4 ≤ m) (v0 v1 v2 v3 : Value) :
    Wr ((((w.setCell ⟨b, k * 4, none⟩ v0).setCell ⟨b, k * 4 + 1, none⟩ v1).setCell ⟨b, k * 4 + 2, none⟩ v2).setCell ⟨b, k * 4 + 3, none⟩ v3) B (some ⟨b, 0, none⟩) m (fun j => if j / 4 = k then [v0, v1, v2, v3].getD (j % 4) undef else f j) := by
  have h0 := h.set (k * 4) (by omega) v0
  have h1 := h0.set (k * 4 + 1) (by omega) v1
  have h2 := h1.set (k * 4 + 2) (by omega) v2
  have h3 := h2.set (k * 4 + 3) (by omega) v3
  simp only [Nat.zero_add] at h3
  refine h3.congr (fun j _ => ?_)
  by_cases hj : j / 4 = k
  · have : j = k * 4 ∨ j = k * 4 + 1 ∨ j = k * 4 + 2 ∨ j = k * 4 + 3 := by omega
    rcases this with rfl | rfl | rfl | rfl
    · rw [if_neg (by omega), if_neg (by omega), if_neg (by omega), if_pos rfl, if_pos (by omega), show k * 4 % 4 = 0 by omega]; rfl
    · rw [if_neg (by omega), if_neg (by omega), if_pos rfl, if_pos (by omega), show (k * 4 + 1) % 4 = 1 by omega]; rfl
    · rw [if_neg (by omega), if_pos rfl, if_pos (by omega), show (k * 4 + 2) % 4 = 2 by omega]; rfl
    · rw [if_pos rfl, if_pos (by omega), show (k * 4 + 3) % 4 = 3 by omega]; rfl
  · rw [if_neg (by omega), if_neg (by omega), if_neg (by omega), if_neg (by omega), if_neg hj]

theorem partVs_succ (L : List Vs) (x : Vs) (j : Nat) : (if j / 4 = L.length then x.cells.getD (j % 4) undef else partVs L j) = partVs (L ++ [x]) j := by
  unfold partVs vcell
  simp only [List.length_append, List.length_cons, List.length_nil]
  by_cases h : j / 4 = L.length
  · rw [if_pos h, if_pos (by omega), h]
    simp [List.getD]
  · by_cases h2 : j < L.length * 4
    · have h3 : j / 4 < L.length := by omega
      rw [if_neg h, if_pos h2, if_pos (by omega)]
      simp [List.getD, List.getElem?_append_left h3]
    · rw [if_neg h, if_neg h2, if_neg (by omega)]

theorem wr_Vs {w : World} {B b : Nat} {m : Nat} {f : Nat → Value} (h : Wr w B (some ⟨b, 0, none⟩) m f) (k : Nat) (hk : k * 4 + 4 ≤ m) :
    (∃ v, w.cell? ⟨b, k * 4, none⟩ = some v) ∧ (∃ v, w.cell? ⟨b, k * 4 + 1, none⟩ = some v) ∧ (∃ v, w.cell? ⟨b, k * 4 + 2, none⟩ = some v) ∧ (∃ v, w.cell? ⟨b, k * 4 + 3, none⟩ = some v) ∧ w.frozen? ⟨b, k * 4, none⟩ = false ∧ w.frozen? ⟨b, k * 4 + 1, none⟩ = false ∧ w.frozen? ⟨b, k * 4 + 2, none⟩ = false ∧ w.frozen? ⟨b, k * 4 + 3, none⟩ = false := by
  obtain ⟨_, _, e0, _, h0, z0⟩ := h (k * 4) (by omega)
  obtain ⟨_, _, e1, _, h1, z1⟩ := h (k * 4 + 1) (by omega)
  obtain ⟨_, _, e2, _, h2, z2⟩ := h (k * 4 + 2) (by omega)
  obtain ⟨_, _, e3, _, h3, z3⟩ := h (k * 4 + 3) (by omega)
  cases e0
  cases e1
  cases e2
  cases e3
  rw [Nat.zero_add] at h0 h1 h2 h3 z0 z1 z2 z3
  exact ⟨⟨_, h0⟩, ⟨_, h1⟩, ⟨_, h2⟩, ⟨_, h3⟩, z0, z1, z2, z3⟩

theorem kept_Vs (w : World) (b k : Nat) (v0 v1 v2 v3 : Value) : Kept (fun x => x = b) w ((((w.setCell ⟨b, k * 4, none⟩ v0).setCell ⟨b, k * 4 + 1, none⟩ v1).setCell ⟨b, k * 4 + 2, none⟩ v2).setCell ⟨b, k * 4 + 3, none⟩ v3) := (((((kept_set _ _ _ _).trans (kept_set _ _ _ _)).trans (kept_set _ _ _ _)).trans (kept_set _ _ _ _))).mono (fun b _ h => by rcases h with ((h | h) | h) | h <;> exact h)

set_option maxRecDepth 100000 in
set_option maxHeartbeats 2000000 in
theorem toVolSecS (w : World) (a : Option Addr) (cap : Nat) (L : List Vs) (S : Vols w a L) (hl : L.length ≤ 1048576) (he : ∀ x ∈ L, x.l.length ≤ 1048576) :
    Calls Try.prog 27 #[.slice a L.length cap] w fun e w' => ∃ g M, e = .returned (.slice (some ⟨g, 0, none⟩) M.length M.length) ∧ w.heap.size ≤ g ∧ g < w'.heap.size ∧ VolsW w' w.heap.size (some ⟨g, 0, none⟩) M ∧ L.map Vs.data = M.map Vs.data ∧ Below w.heap.size w w' := by
  have hmk := make_rows (P := Try.prog) 39 57 (.agg #[.int .i64 0, .int .i64 0, .bool false, .slice none 0 0]) 4 48 Try.underlying39 infoVs .i64 .i64 L.length (by omega) (by omega)
  have HS := hid S
  have HE := hid he
  have hw0 := wr_new w (madeCells (Value.agg #[.int .i64 0, .int .i64 0, .bool false, .slice none 0 0]).cells (L.length * 4)) 57 (L.length * 4) (partVs []) (fun i hi => by
    simp [madeCells, hi, partVs, Vs.none, Vs.cells, Value.cells]
    have : i % 4 = 0 ∨ i % 4 = 1 ∨ i % 4 = 2 ∨ i % 4 = 3 := by omega
    rcases this with h | h | h | h <;> simp [h])
  generalize madeCells (Value.agg #[.int .i64 0, .int .i64 0, .bool false, .slice none 0 0]).cells (L.length * 4) = cur at hmk hw0
  have HW := hid hw0
  clear S hw0 he
  go_enter Try.func27, Try.ntmps27
  go_wp2
  go_loopw [4] (fun i wr => ∃ (k : Nat) (M : List Vs), k ≤ L.length ∧ i = .int .i64 (k : Int) ∧ w.heap.size < wr.heap.size ∧ Hid (M.length = k) ∧ Hid ((L.take k).map Vs.data = M.map Vs.data) ∧ Hid (Wr wr w.heap.size (some ⟨w.heap.size, 0, none⟩) (L.length * 4) (partVs M)) ∧ Hid (∀ x ∈ M, IntsW wr (w.heap.size + 1) x.a x.l) ∧ Hid (Below w.heap.size w wr)) (fun i _ => L.length - (intOf i).toNat)
  case atStart => exact ⟨0, [], Nat.zero_le _, rfl, lt_alloc _ _, rfl, rfl, HW, fun x hx => by simp at hx, (Below.refl _ _).alloc (Nat.le_refl _) _⟩
  case round =>
    obtain ⟨k, M, hk, rfl, hsz, HK, HD, HW', HI, HB⟩ := hrel
    by_cases hlt : k < L.length
    · obtain ⟨b, off, rfl, c0, c1, c2, c3, i1⟩ := Vols.at_ (HS.out.below HB.out) k hlt
      have hx : (L.getD k Vs.none).l.length ≤ 1048576 := HE.out _ (by simp [List.getD, hlt])
      have hdx : (L.take (k + 1)).map Vs.data = (L.take k).map Vs.data ++ [(L.getD k Vs.none).data] := by
        rw [List.take_add_one, List.map_append, List.getElem?_eq_getElem hlt]
        simp only [Option.toList_some, List.map_cons, List.map_nil, List.getD, List.getElem?_eq_getElem hlt, Option.getD_some]
      generalize L.getD k Vs.none = x at c0 c1 c2 c3 i1 hx hdx
      have HX := hid hdx
      clear hdx
      obtain ⟨xh, xe, xon, xa, xc, xl⟩ := x
      simp only [] at c0 c1 c2 c3 i1 hx
      have HI1 := hid i1
      clear i1
      go_wp2_with fail
      refine (toVolSec _ xh xe xon xa xc xl HI1.out hx).mono ?_
      rintro e w1 ⟨g, rfl, hg0, hg1, S1, hb1⟩
      have HW1 := hid (HW'.out.below hb1)
      have HS1 := hid S1
      have HI2 : Hid (∀ x ∈ M, IntsW w1 (w.heap.size + 1) x.a x.l) := fun x hx => Wr.below (HI.out x hx) hb1
      have HB1 := hid (HB.out.trans (hb1.mono (Nat.le_of_lt hsz)))
      have hsz1 : w.heap.size < w1.heap.size := Nat.lt_of_lt_of_le hsz hb1.size
      obtain ⟨⟨u0, d0⟩, ⟨u1, d1⟩, ⟨u2, d2⟩, ⟨u3, d3⟩, z0, z1, z2, z3⟩ := wr_Vs HW1.out k (by omega)
      clear hb1 S1 c0 c1 c2 c3
      unfold vlV
      go_wp2
      refine ⟨⟨k + 1, M ++ [⟨xh, xe, xon, some ⟨g, 0, none⟩, xl.length, xl⟩], by omega, by go_num, by simpa using hsz1, by rw [Hid, List.length_append, HK.out]; rfl, ?_, ?_, ?_, ((((HB1.out.setCell (Nat.le_refl _) _).setCell (Nat.le_refl _) _).setCell (Nat.le_refl _) _).setCell (Nat.le_refl _) _)⟩, by simp [intOf]; omega⟩
      · rw [Hid, HX.out, HD.out, List.map_append]; rfl
      · exact (setVs HW1.out k (by omega) _ _ _ _).congr (fun j _ => by rw [← partVs_succ, HK.out]; rfl)
      · intro y hy
        have hk4 := kept_Vs w1 w.heap.size k (.int .i64 xh) (.int .i64 xe) (.bool xon) (.slice (some ⟨g, 0, none⟩) xl.length xl.length)
        rcases List.mem_append.1 hy with hy | hy
        · exact Wr.move (HI2.out y hy) hk4 (fun b hb => by have := Wr.foot_ge (HI2.out y hy) hb; omega)
        · obtain rfl : y = ⟨xh, xe, xon, some ⟨g, 0, none⟩, xl.length, xl⟩ := by simpa using hy
          exact Wr.move (Wr.mono HS1.out (by omega)) hk4 (fun b hb => by have := Wr.foot_ge HS1.out hb; omega)
    · obtain rfl : k = L.length := by omega
      go_wp2
      go_ret
      refine ⟨w.heap.size, M, by rw [HK.out]; rfl, Nat.le_refl _, hsz, ⟨?_, fun x hx => Wr.mono (HI.out x hx) (by omega)⟩, ?_, HB.out⟩
      · rw [HK.out]
        exact HW'.out.congr (fun i hi => by unfold partVs; rw [HK.out, if_pos hi])
      · have := HD.out
        rwa [List.take_length] at this

end Go.Proofs.Yteaiciofcffkgaa.Pl
