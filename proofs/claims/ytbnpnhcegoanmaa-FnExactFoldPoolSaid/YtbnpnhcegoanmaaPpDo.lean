/-
  The walk of spec.l7Do. No condition but a right pool of the call's own.
-/
import Derived.Test.YtbnpnhcegoanmaaPpDoS
import Derived.Test.YtbnpnhcegoanmaaPpDoI
import Derived.Deep.RegionHeldLaw
namespace Go.Proofs.Ytbnpnhcegoanmaa.Pl
open Go.RowKit Go.Proofs.Ytbnpnhcegoanmaa.Mem
set_option linter.unusedVariables false

/-- What stands while the call is done. -/
structure Dng (w : World) (L0 : List Pv) (B : Nat) (a : Option Addr) (cap : Nat) (ov : List Value) (M : List Pv) (w' : World) : Prop where
  pb : Row w' w.heap.size [.slice a 4 cap]
  ob : Row w' (w.heap.size + 1) ov
  rs : Row w' (w.heap.size + 1 + 1) [.slice none 0 0]
  pv : PvsW w' B a M
  far : ∀ b, pfoot a M b → ¬ b = w.heap.size ∧ ¬ b = w.heap.size + 1 ∧ ¬ b = w.heap.size + 1 + 1
  bel : Below B w w'
  len : M.length = 4
  sz : w.heap.size + 1 + 1 < w'.heap.size
  kp : Kept (pfoot a L0) w w'
  ft : ∀ b, pfoot a M b → pfoot a L0 b ∨ w.heap.size ≤ b

theorem Dng.below {w : World} {L0 : List Pv} {B : Nat} {a : Option Addr} {cap : Nat} {ov : List Value} {M : List Pv} {w' w'' : World} (h : Dng w L0 B a cap ov M w') (hB : B ≤ w.heap.size) (b : Below w'.heap.size w' w'') : Dng w L0 B a cap ov M w'' :=
  ⟨h.pb.below b h.pb.lt, h.ob.below b h.ob.lt, h.rs.below b h.rs.lt, h.pv.below b, h.far, h.bel.trans (b.mono (Nat.le_trans hB h.bel.size)), h.len, Nat.lt_of_lt_of_le h.sz b.size, (h.kp.trans (Kept.of_below (S := fun _ => False) b)).mono (fun c _ hc => by rcases hc with hc | hc; exact hc; exact hc.elim), h.ft⟩

/-- The pool is written, in its own blocks. -/
theorem Dng.turn {w : World} {L0 : List Pv} {B : Nat} {a : Option Addr} {cap : Nat} {ov : List Value} {M M' : List Pv} {w' w'' : World} (h : Dng w L0 B a cap ov M w') (hB : B ≤ w.heap.size) (k : Kept (pfoot a M) w' w'') (hp : PvsW w'' B a M') (hf : ∀ b, pfoot a M' b → pfoot a M b) (hl : M'.length = 4) : Dng w L0 B a cap ov M' w'' :=
  ⟨h.pb.kept k (fun e => (h.far _ e).1 rfl), h.ob.kept k (fun e => (h.far _ e).2.1 rfl), h.rs.kept k (fun e => (h.far _ e).2.2 rfl), hp, fun b hb => h.far b (hf b hb), h.bel.trans (k.below (Nat.le_trans hB h.bel.size) (fun b hb e => by have := (h.pv.pfoot_ge e).1; omega)), hl, Nat.lt_of_lt_of_le h.sz k.size, (h.kp.trans k).mono (fun c hc hx => by
    rcases hx with hx | hx
    · exact hx
    · rcases h.ft c hx with h9 | h9
      · exact h9
      · omega), fun b hb => h.ft b (hf b hb)⟩

theorem Dng.fin {w : World} {L0 : List Pv} {B : Nat} {a : Option Addr} {cap : Nat} {ov : List Value} {M : List Pv} {w' : World} (h : Dng w L0 B a cap ov M w') (hB : B ≤ w.heap.size) (v : Value) : PvsW (w'.setCell ⟨w.heap.size + 1 + 1, 0, none⟩ v) B a M ∧ Below B w (w'.setCell ⟨w.heap.size + 1 + 1, 0, none⟩ v) ∧ Kept (pfoot a L0) w (w'.setCell ⟨w.heap.size + 1 + 1, 0, none⟩ v) ∧ ∀ b, pfoot a M b → pfoot a L0 b ∨ w.heap.size ≤ b :=
  ⟨h.pv.move (kept_set _ _ _ _) (fun b hb e => (h.far b hb).2.2 e), below_set h.bel _ _ _ (by omega), (h.kp.trans (kept_set _ _ _ _)).mono (fun c hc hx => by
    rcases hx with hx | hx
    · exact hx
    · omega), h.ft⟩

theorem foot_same {a : Option Addr} {P Q : List Pv} {x y : Pv} (hf : ∀ b, y.foot b → x.foot b) (b : Nat) (h : pfoot a (P ++ y :: Q) b) : pfoot a (P ++ x :: Q) b := by
  rcases h with h | ⟨z, hz, h⟩
  · left; simpa using h
  · right
    rcases List.mem_append.1 hz with hz | hz
    · exact ⟨z, by simp [hz], h⟩
    · rcases List.mem_cons.1 hz with rfl | hz
      · exact ⟨x, by simp, hf b h⟩
      · exact ⟨z, by simp [hz], h⟩

/-- A new volume is stored. -/
theorem Dng.vol {w : World} {L0 : List Pv} {B : Nat} {b off cap : Nat} {ov : List Value} {P Q : List Pv} {x y : Pv} {w' w1 : World} {E : Nat} (h : Dng w L0 B (some ⟨b, off, none⟩) cap ov (P ++ x :: Q) w') (hB : B ≤ w.heap.size) (hb : Below w'.heap.size w' w1) (h2 : Two E y w1) (hE : w'.heap.size ≤ E) :
    Dng w L0 B (some ⟨b, off, none⟩) cap ov (P ++ y :: Q) (((w1.setCell ⟨b, off + P.length * 3, none⟩ (.bool y.on)).setCell ⟨b, off + P.length * 3 + 1, none⟩ (.slice y.ha y.hs.length y.hc)).setCell ⟨b, off + P.length * 3 + 2, none⟩ (.slice y.ta y.ts.length y.tc)) := by
  have h1 := h.below hB hb
  have hBw : B ≤ w'.heap.size := Nat.le_trans hB h.bel.size
  have hp := h.pv.setVol hb h2 hE (Nat.le_trans hBw hE)
  have hk : Kept (fun c => c = b) w1 (((w1.setCell ⟨b, off + P.length * 3, none⟩ (.bool y.on)).setCell ⟨b, off + P.length * 3 + 1, none⟩ (.slice y.ha y.hs.length y.hc)).setCell ⟨b, off + P.length * 3 + 2, none⟩ (.slice y.ta y.ts.length y.tc)) :=
    (((kept_set _ _ _ _).trans (kept_set _ _ _ _)).trans (kept_set _ _ _ _)).mono (fun b _ h => by rcases h with (h | h) | h <;> exact h)
  have hbf : pfoot (some ⟨b, off, none⟩) (P ++ x :: Q) b := Or.inl ⟨by rw [h.len]; decide, off, rfl⟩
  have hsz := h.sz
  have hsz0 := h.bel.size
  refine ⟨h1.pb.kept hk (fun e => (h.far _ hbf).1 e.symm), h1.ob.kept hk (fun e => (h.far _ hbf).2.1 e.symm), h1.rs.kept hk (fun e => (h.far _ hbf).2.2 e.symm), hp, fun c hc => ?_, h1.bel.trans (hk.below (Nat.le_trans hB h1.bel.size) (fun c hc e => by have := (h.pv.pfoot_ge hbf).1; omega)), by have := h.len; simpa using this, Nat.lt_of_lt_of_le h1.sz hk.size, (h1.kp.trans hk).mono (fun c hc hx => by
    rcases hx with hx | hx
    · exact hx
    · subst hx
      rcases h.ft c hbf with h9 | h9
      · exact h9
      · omega), fun c hc => ?_⟩
  · rcases hc with hc | ⟨z, hz, hc⟩
    · exact h.far c (Or.inl (by simpa using hc))
    · rcases List.mem_append.1 hz with hz | hz
      · exact h.far c (Or.inr ⟨z, by simp [hz], hc⟩)
      · rcases List.mem_cons.1 hz with rfl | hz
        · have := (h2.foot hc).1
          refine ⟨?_, ?_, ?_⟩ <;> omega
        · exact h.far c (Or.inr ⟨z, by simp [hz], hc⟩)
  · rcases hc with hc | ⟨z, hz, hc⟩
    · exact h.ft c (Or.inl (by simpa using hc))
    · rcases List.mem_append.1 hz with hz | hz
      · exact h.ft c (Or.inr ⟨z, by simp [hz], hc⟩)
      · rcases List.mem_cons.1 hz with rfl | hz
        · have := (h2.foot hc).1
          right
          omega
        · exact h.ft c (Or.inr ⟨z, by simp [hz], hc⟩)

/-- Where the copy's statement writes. -/
def SnT (b off j : Nat) (w' : World) : Prop := ∀ i, i < 3 → ∃ u, w'.cell? ⟨b, off + j * 3 + i, none⟩ = some u ∧ w'.frozen? ⟨b, off + j * 3 + i, none⟩ = false
theorem sn_below {w : World} {b off n j cap : Nat} {x : Pv} {w' w'' : World} (h : w'.cell? ⟨w.heap.size, 0, none⟩ = some (.slice (some ⟨b, off, none⟩) 4 cap) ∧ w'.cell? ⟨w.heap.size + 1, 1, none⟩ = some (.int .i64 (n : Int)) ∧ w'.cell? ⟨w.heap.size + 1, 2, none⟩ = some (.int .i64 (j : Int)) ∧ w'.cell? ⟨b, off + n * 3, none⟩ = some (.bool x.on) ∧ w'.cell? ⟨b, off + n * 3 + 1, none⟩ = some (.slice x.ha x.hs.length x.hc) ∧ w'.cell? ⟨b, off + n * 3 + 2, none⟩ = some (.slice x.ta x.ts.length x.tc) ∧ SnT b off j w') (k : Below w'.heap.size w' w'') : w''.cell? ⟨w.heap.size, 0, none⟩ = some (.slice (some ⟨b, off, none⟩) 4 cap) ∧ w''.cell? ⟨w.heap.size + 1, 1, none⟩ = some (.int .i64 (n : Int)) ∧ w''.cell? ⟨w.heap.size + 1, 2, none⟩ = some (.int .i64 (j : Int)) ∧ w''.cell? ⟨b, off + n * 3, none⟩ = some (.bool x.on) ∧ w''.cell? ⟨b, off + n * 3 + 1, none⟩ = some (.slice x.ha x.hs.length x.hc) ∧ w''.cell? ⟨b, off + n * 3 + 2, none⟩ = some (.slice x.ta x.ts.length x.tc) ∧ SnT b off j w'' := by
  obtain ⟨h0, h1, h2, h3, h4, h5, h6⟩ := h
  have go : ∀ {p : Addr} {u : Value}, w'.cell? p = some u → w''.cell? p = some u := fun {p} {u} hu => (k.cell (World.block_lt_of_cell? w' _ hu)).trans hu
  exact ⟨go h0, go h1, go h2, go h3, go h4, go h5, fun i hi => by
    obtain ⟨u, hu, hf⟩ := h6 i hi
    exact ⟨u, go hu, (k.frozen (World.block_lt_of_cell? w' _ hu)).trans hf⟩⟩
theorem sn_set {w : World} {b off n j cap o : Nat} {x : Pv} {w' : World} (hb0 : ¬ b = w.heap.size) (hb1 : ¬ b = w.heap.size + 1) (hnj : ¬ n = j) (ho : ∃ i, i < 3 ∧ o = off + j * 3 + i) (v : Value) (h : w'.cell? ⟨w.heap.size, 0, none⟩ = some (.slice (some ⟨b, off, none⟩) 4 cap) ∧ w'.cell? ⟨w.heap.size + 1, 1, none⟩ = some (.int .i64 (n : Int)) ∧ w'.cell? ⟨w.heap.size + 1, 2, none⟩ = some (.int .i64 (j : Int)) ∧ w'.cell? ⟨b, off + n * 3, none⟩ = some (.bool x.on) ∧ w'.cell? ⟨b, off + n * 3 + 1, none⟩ = some (.slice x.ha x.hs.length x.hc) ∧ w'.cell? ⟨b, off + n * 3 + 2, none⟩ = some (.slice x.ta x.ts.length x.tc) ∧ SnT b off j w') : (w'.setCell ⟨b, o, none⟩ v).cell? ⟨w.heap.size, 0, none⟩ = some (.slice (some ⟨b, off, none⟩) 4 cap) ∧ (w'.setCell ⟨b, o, none⟩ v).cell? ⟨w.heap.size + 1, 1, none⟩ = some (.int .i64 (n : Int)) ∧ (w'.setCell ⟨b, o, none⟩ v).cell? ⟨w.heap.size + 1, 2, none⟩ = some (.int .i64 (j : Int)) ∧ (w'.setCell ⟨b, o, none⟩ v).cell? ⟨b, off + n * 3, none⟩ = some (.bool x.on) ∧ (w'.setCell ⟨b, o, none⟩ v).cell? ⟨b, off + n * 3 + 1, none⟩ = some (.slice x.ha x.hs.length x.hc) ∧ (w'.setCell ⟨b, o, none⟩ v).cell? ⟨b, off + n * 3 + 2, none⟩ = some (.slice x.ta x.ts.length x.tc) ∧ SnT b off j (w'.setCell ⟨b, o, none⟩ v) := by
  obtain ⟨i, hi, rfl⟩ := ho
  obtain ⟨h0, h1, h2, h3, h4, h5, h6⟩ := h
  have go : ∀ {p : Addr} {u : Value}, (⟨b, off + j * 3 + i, none⟩ : Addr) ≠ p → w'.cell? p = some u → (w'.setCell ⟨b, off + j * 3 + i, none⟩ v).cell? p = some u := fun {p} {u} hne hu => by rw [World.cell?_setCell_other _ _ _ _ hne]; exact hu
  exact ⟨go (fun e => by injection e; omega) h0, go (fun e => by injection e; omega) h1, go (fun e => by injection e; omega) h2, go (fun e => by injection e; omega) h3, go (fun e => by injection e; omega) h4, go (fun e => by injection e; omega) h5, fun i' hi' => by
    obtain ⟨u, hu, hf⟩ := h6 i' hi'
    obtain ⟨u2, hu2⟩ : ∃ u2, (w'.setCell ⟨b, off + j * 3 + i, none⟩ v).cell? ⟨b, off + j * 3 + i', none⟩ = some u2 := cell?_setCell_some hu
    exact ⟨u2, hu2, by rw [World.frozen?_setCell]; exact hf⟩⟩

set_option maxRecDepth 100000 in
set_option maxHeartbeats 8000000 in
theorem l7Do (w : World) (B : Nat) (a : Option Addr) (cap : Nat) (L L0 : List Pv) (hL0 : L0 = L) (k v t m : Int) (s : ByteArray) (S : PvsW w B a L) (h4 : L.length = 4) (he : ∀ x ∈ L, x.hs.length = 4 ∧ x.ts.length = 4) (hu : ∀ x ∈ L, x.Upto 1048576) (hB : B ≤ w.heap.size) (hs : s.size ≤ 1048576) :
    Calls Try.prog 34 #[plV a 4 cap, opV k v t m s] w fun r w' => ∃ M, r = .returned (.tuple #[plV a 4 cap, .bool (doD (L.map Pv.data) k v t m s).2]) ∧ M.length = 4 ∧ PvsW w' B a M ∧ M.map Pv.data = (doD (L.map Pv.data) k v t m s).1 ∧ Below B w w' ∧ Kept (pfoot a L0) w w' ∧ ∀ b, pfoot a M b → pfoot a L0 b ∨ w.heap.size ≤ b := by
  have HVp : Hid (∀ a n c, plV a n c = .agg #[.slice a n c]) := fun _ _ _ => rfl
  have HV : Hid (opV k v t m s = .agg #[.int .i64 k, .int .i64 v, .int .i64 t, .int .i64 m, .string s]) := rfl
  rw [HV.out, HVp.out]
  have HEa := hid he
  have HUa := hid hu
  generalize hX : doD (L.map Pv.data) k v t m s = X
  have HX := hid hX
  obtain ⟨X1, X2⟩ := X
  obtain ⟨wa, hwa, ez, A0, C0, D0, B0⟩ : ∃ wa, ((w.alloc (.cells #[.slice a 4 cap] 26)).alloc (.cells #[.int .i64 k, .int .i64 v, .int .i64 t, .int .i64 m, .string s] 43)).alloc (.cells #[.slice none 0 0] 26) = wa ∧ True ∧ Row wa w.heap.size [.slice a 4 cap] ∧ Row wa (w.heap.size + 1) [.int .i64 k, .int .i64 v, .int .i64 t, .int .i64 m, .string s] ∧ Row wa (w.heap.size + 1 + 1) [.slice none 0 0] ∧ Below w.heap.size w wa :=
    ⟨_, rfl, trivial, three_x w [.slice a 4 cap] [.int .i64 k, .int .i64 v, .int .i64 t, .int .i64 m, .string s] [.slice none 0 0] 26 43 26⟩
  have HD0 : Hid (Dng w L0 B a cap [.int .i64 k, .int .i64 v, .int .i64 t, .int .i64 m, .string s] L wa) := ⟨A0, C0, D0, S.below B0, fun b hb => by have := (S.pfoot_ge hb).2; refine ⟨?_, ?_, ?_⟩ <;> omega, B0.mono hB, h4, D0.lt, Kept.of_below B0, fun b hb => Or.inl (by rw [hL0]; exact hb)⟩
  have j0 := C0.c 0 rfl
  have j1 := C0.c 1 rfl
  have j2 := C0.c 2 rfl
  have j3 := C0.c 3 rfl
  have j4 := C0.c 4 rfl
  clear A0 B0 C0 D0 ez S he hu hX h4 hL0
  go_enter Try.func34, Try.ntmps34
  go_wp2_with fail
  try simp only [hwa]
  clear hwa j0 j1 j2 j3 j4
  rw [← HV.out]
  refine (sOpOk k v t m s wa hs).mono ?_
  rintro e w1 ⟨rfl, b1⟩
  rw [HV.out]
  have HD1 := hid (HD0.out.below hB b1)
  clear b1 HD0
  have p0 := HD1.out.pb.c 0 rfl
  have j0 := HD1.out.ob.c 0 rfl
  have j1 := HD1.out.ob.c 1 rfl
  have r0 := HD1.out.rs.c 0 rfl
  have rf := HD1.out.rs.f 0
  cases ho : opRight k v t m s with
  | false =>
    have hd := HX.out
    rw [do_no (by rw [ho]; simp)] at hd
    cases hd
    clear ho HX
    go_wp2
    refine bodyPost_ret (results_pool2 rfl _ _ (w.heap.size + 1 + 1) [.slice a 4 cap] _ rfl (HD1.out.rs.set 0 (.slice a 4 cap)) Try.underlying26 rfl (by kernel_rfl)) rfl ?_
    exact ⟨L, rfl, HD1.out.len, (HD1.out.fin hB _).1, rfl, (HD1.out.fin hB _).2⟩
  | true =>
    by_cases h6 : k ≤ 6
    rotate_left
    · have hd := HX.out
      rw [do_no (fun h => h6 h.2)] at hd
      cases hd
      have h6' : 6 < k := by omega
      clear ho HX
      go_wp2
      refine bodyPost_ret (results_pool2 rfl _ _ (w.heap.size + 1 + 1) [.slice a 4 cap] _ rfl (HD1.out.rs.set 0 (.slice a 4 cap)) Try.underlying26 rfl (by kernel_rfl)) rfl ?_
      exact ⟨L, rfl, HD1.out.len, (HD1.out.fin hB _).1, rfl, (HD1.out.fin hB _).2⟩
    have HO := hid ho
    have HOK : Hid (opRight k v t m s = true ∧ k ≤ 6) := ⟨ho, h6⟩
    clear ho
    have h6n : ¬ 6 < k := by omega
    by_cases hk6 : k = 6
    · subst hk6
      have hd := HX.out
      rw [do_6 HOK.out rfl] at hd
      cases hd
      clear HX
      go_wp2
      refine bodyPost_ret (results_pool2 rfl _ _ (w.heap.size + 1 + 1) [.slice a 4 cap] _ rfl (HD1.out.rs.set 0 (.slice a 4 cap)) Try.underlying26 rfl (by kernel_rfl)) rfl ?_
      exact ⟨L, rfl, HD1.out.len, (HD1.out.fin hB _).1, rfl, (HD1.out.fin hB _).2⟩
    have hk6b : (k == 6) = false := by simpa using hk6
    obtain ⟨hv0, hv1⟩ := op_v HO.out h6 hk6
    obtain ⟨n, rfl⟩ := Int.eq_ofNat_of_zero_le hv0
    have hn4 : n < 4 := by omega
    obtain ⟨P, x, Q, hL, hP⟩ := split_at L n (by rw [HD1.out.len]; exact hn4)
    subst hL
    have HP := hid hP
    have hgd : ((P ++ x :: Q).map Pv.data).getD (n : Int).toNat noneD = x.data := by rw [← hP]; exact data_mid P Q x
    have HG := hid hgd
    have HE4 := hid (HEa.out x (by simp))
    obtain ⟨b, off, rfl, c0, c1, c2, _, _⟩ := Pvs.at_ HD1.out.pv.r n (by rw [HD1.out.len]; exact hn4)
    rw [show (P ++ x :: Q).getD n Pv.none = x by rw [← hP]; exact getD_mid P Q x] at c0 c1 c2
    have HC1 := hid c1
    have HC2 := hid c2
    have HH : Hid ((((P ++ x :: Q).map Pv.data).getD (n : Int).toNat noneD).1 = x.on) := by rw [Hid, HG.out]; rfl
    clear hgd hP c1 c2
    obtain ⟨on, hon⟩ : ∃ on, x.on = on := ⟨_, rfl⟩
    rw [hon] at c0 HH
    have HON := hid hon
    clear hon
    by_cases hsame : on = decide (k = 1)
    · have hd := HX.out
      rw [do_same HOK.out hk6 (by rw [HH.out]; exact hsame)] at hd
      cases hd
      clear HX
      by_cases hk1 : k = 1
      · rw [decide_eq_true hk1] at hsame
        subst hsame
        subst hk1
        go_wp2
        go_quiet (fail)
        obtain ⟨wq, hwq, bq⟩ : ∃ wq, w1.drewN nq = wq ∧ Below w1.heap.size w1 wq := ⟨_, rfl, below_drewN (Below.refl _ w1) nq⟩
        simp only [hwq]
        have HDq := hid (HD1.out.below hB bq)
        clear p0 j0 j1 r0 rf c0 hwq bq HD1 HC1 HC2
        have p0 := HDq.out.pb.c 0 rfl
        have j0 := HDq.out.ob.c 0 rfl
        have j1 := HDq.out.ob.c 1 rfl
        have r0 := HDq.out.rs.c 0 rfl
        have rf := HDq.out.rs.f 0
        have HF := HDq
        go_wp2
        refine bodyPost_ret (results_pool2 rfl _ _ (w.heap.size + 1 + 1) [.slice (some ⟨b, off, none⟩) 4 cap] _ rfl (HF.out.rs.set 0 (.slice (some ⟨b, off, none⟩) 4 cap)) Try.underlying26 rfl (by kernel_rfl)) rfl ?_
        exact ⟨_, rfl, HF.out.len, (HF.out.fin hB _).1, rfl, (HF.out.fin hB _).2⟩
      · rw [decide_eq_false hk1] at hsame
        subst hsame
        have hk1b : (k == 1) = false := by simpa using hk1
        go_wp2
        go_quiet (fail)
        obtain ⟨wq, hwq, bq⟩ : ∃ wq, w1.drewN nq = wq ∧ Below w1.heap.size w1 wq := ⟨_, rfl, below_drewN (Below.refl _ w1) nq⟩
        simp only [hwq]
        have HDq := hid (HD1.out.below hB bq)
        clear p0 j0 j1 r0 rf c0 hwq bq HD1 HC1 HC2
        have p0 := HDq.out.pb.c 0 rfl
        have j0 := HDq.out.ob.c 0 rfl
        have j1 := HDq.out.ob.c 1 rfl
        have r0 := HDq.out.rs.c 0 rfl
        have rf := HDq.out.rs.f 0
        have HF := HDq
        go_wp2
        refine bodyPost_ret (results_pool2 rfl _ _ (w.heap.size + 1 + 1) [.slice (some ⟨b, off, none⟩) 4 cap] _ rfl (HF.out.rs.set 0 (.slice (some ⟨b, off, none⟩) 4 cap)) Try.underlying26 rfl (by kernel_rfl)) rfl ?_
        exact ⟨_, rfl, HF.out.len, (HF.out.fin hB _).1, rfl, (HF.out.fin hB _).2⟩
    have hk1n : ∀ c : Int, c ≠ 1 → k = c → on = true := fun c hc e => by
      cases on with
      | true => rfl
      | false => exact absurd (by rw [e, decide_eq_false hc]) hsame
    have hon1 : k = 1 → on = false := fun e => by
      cases on with
      | false => rfl
      | true => exact absurd (by rw [e]; rfl) hsame
    have HK1 := hid hk1n
    have HN1 := hid hon1
    have HE : Hid (¬ (((P ++ x :: Q).map Pv.data).getD (n : Int).toNat noneD).1 = decide (k = 1)) := by rw [Hid, HH.out]; exact hsame
    have HNn : Hid ((n : Int).toNat = P.length) := by rw [Hid, HP.out]; rfl
    clear hk1n hon1 hsame
    rcases op_kind HO.out h6 with hk | hk | hk | hk | hk | hk
    · -- create
      have hon := HN1.out hk
      have hd := HX.out
      rw [do_1 HOK.out HE.out hk, HG.out, HNn.out] at hd
      cases hd
      subst hon
      subst hk
      clear HX HK1 HN1 HE HG
      go_wp2
      go_quiet (fail)
      obtain ⟨wq, hwq, bq⟩ : ∃ wq, w1.drewN nq = wq ∧ Below w1.heap.size w1 wq := ⟨_, rfl, below_drewN (Below.refl _ w1) nq⟩
      simp only [hwq]
      have HDq := hid (HD1.out.below hB bq)
      clear p0 j0 j1 r0 rf c0 hwq bq HD1 HC1 HC2
      have p0 := HDq.out.pb.c 0 rfl
      have j0 := HDq.out.ob.c 0 rfl
      have j1 := HDq.out.ob.c 1 rfl
      obtain ⟨b5, o5, e5, _, c5, z5⟩ := HDq.out.pv.row (n * 3) (by rw [HDq.out.len]; omega)
      cases e5
      obtain ⟨w2, hw2⟩ : ∃ w2, wq.setCell ⟨b, off + n * 3, none⟩ (.bool true) = w2 := ⟨_, rfl⟩
      have HF : Hid (Dng w L0 B (some ⟨b, off, none⟩) cap [.int .i64 1, .int .i64 (n : Int), .int .i64 t, .int .i64 m, .string s] (P ++ { x with on := true } :: Q) w2) := by
        have hp := HDq.out.pv.setOn true
        rw [HP.out, hw2] at hp
        refine HDq.out.turn hB ?_ hp (fun c hc => foot_same (P := P) (Q := Q) (x := x) (y := { x with on := true }) (fun _ h => h) c hc) (by have := HDq.out.len; simpa using this)
        rw [← hw2]
        exact (kept_set wq b (off + n * 3) _).mono (fun c _ e => by subst e; exact Or.inl ⟨by rw [HDq.out.len]; decide, off, rfl⟩)
      have p9 := HF.out.pb.c 0 rfl; have r9 := HF.out.rs.c 0 rfl; have rf9 := HF.out.rs.f 0
      go_wp2
      refine bodyPost_ret (results_pool2 rfl _ _ (w.heap.size + 1 + 1) [.slice (some ⟨b, off, none⟩) 4 cap] _ rfl (HF.out.rs.set 0 (.slice (some ⟨b, off, none⟩) 4 cap)) Try.underlying26 rfl (by kernel_rfl)) rfl ?_
      first | exact ⟨_, rfl, HF.out.len, (HF.out.fin hB _).1, by first | (rw [data_set P Q x]; rfl) | (simp only [List.map_append, List.map_cons]; rfl), (HF.out.fin hB _).2⟩ | exact ⟨rfl, _, HF.out.len, (HF.out.fin hB _).1, by first | (rw [data_set P Q x]; rfl) | (simp only [List.map_append, List.map_cons]; rfl), (HF.out.fin hB _).2⟩
    · -- delete
      have hon := HK1.out 2 (by decide) hk
      have hd := HX.out
      rw [do_2 HOK.out HE.out hk, HNn.out] at hd
      cases hd
      subst hon
      subst hk
      clear HX HK1 HN1 HE HG
      go_wp2
      go_quiet (fail)
      obtain ⟨wq, hwq, bq⟩ : ∃ wq, w1.drewN nq = wq ∧ Below w1.heap.size w1 wq := ⟨_, rfl, below_drewN (Below.refl _ w1) nq⟩
      simp only [hwq]
      have HDq := hid (HD1.out.below hB bq)
      clear p0 j0 j1 r0 rf c0 hwq bq HD1 HC1 HC2
      have p0 := HDq.out.pb.c 0 rfl
      have j0 := HDq.out.ob.c 0 rfl
      have j1 := HDq.out.ob.c 1 rfl
      go_wp2
      go_region_law (refine step_none rfl rfl ?_; intro y w2 hyd hy2 b2; have HD2 := hid (HDq.out.below hB (undrew b2)); have p2 := HD2.out.pb.c 0 rfl; have i1 := HD2.out.ob.c 1 rfl; obtain ⟨b5, o5, e5, _, c5, z5⟩ := HD2.out.pv.row (n * 3) (by rw [HD2.out.len]; omega); cases e5; obtain ⟨b6, o6, e6, _, c6, z6⟩ := HD2.out.pv.row (n * 3 + 1) (by rw [HD2.out.len]; omega); cases e6; obtain ⟨b7, o7, e7, _, c7, z7⟩ := HD2.out.pv.row (n * 3 + 2) (by rw [HD2.out.len]; omega); cases e7; rw [← Nat.add_assoc] at c6 z6 c7 z7)
      all_goals
        obtain ⟨w3, hw3⟩ : ∃ w3, ((w2.setCell ⟨b, off + n * 3, none⟩ (.bool y.on)).setCell ⟨b, off + n * 3 + 1, none⟩ (.slice y.ha y.hs.length y.hc)).setCell ⟨b, off + n * 3 + 2, none⟩ (.slice y.ta y.ts.length y.tc) = w3 := ⟨_, rfl⟩
        have HF : Hid (Dng w L0 B (some ⟨b, off, none⟩) cap [.int .i64 2, .int .i64 (n : Int), .int .i64 t, .int .i64 m, .string s] (P ++ y :: Q) w3) := by
          have hp := HDq.out.vol hB (undrew b2) hy2 (Nat.le_refl _)
          rw [HP.out, hw3] at hp
          exact hp
        have p9 := HF.out.pb.c 0 rfl; have r9 := HF.out.rs.c 0 rfl; have rf9 := HF.out.rs.f 0
        simp only [hw3]
        clear hw3 c5 z5 c6 z6 c7 z7 b2 hy2
        go_wp2
        refine bodyPost_ret (results_pool2 rfl _ _ (w.heap.size + 1 + 1) [.slice (some ⟨b, off, none⟩) 4 cap] _ rfl (HF.out.rs.set 0 (.slice (some ⟨b, off, none⟩) 4 cap)) Try.underlying26 rfl (by kernel_rfl)) rfl ?_
        exact ⟨_, rfl, HF.out.len, (HF.out.fin hB _).1, by rw [data_set P Q x, hyd], (HF.out.fin hB _).2⟩
    · -- write
      have hon := HK1.out 3 (by decide) hk
      have hd := HX.out
      rw [do_3 HOK.out HE.out hk, HG.out, HNn.out] at hd
      cases hd
      obtain ⟨_, ⟨hm0, hm1⟩, _⟩ := op_34 HO.out (Or.inl hk)
      obtain ⟨y, rfl⟩ := Int.eq_ofNat_of_zero_le hm0
      have hy : y < 4 := by omega
      subst hon
      subst hk
      clear HX HK1 HN1 HE HG
      go_wp2
      go_quiet (fail)
      obtain ⟨wq, hwq, bq⟩ : ∃ wq, w1.drewN nq = wq ∧ Below w1.heap.size w1 wq := ⟨_, rfl, below_drewN (Below.refl _ w1) nq⟩
      simp only [hwq]
      have HDq := hid (HD1.out.below hB bq)
      clear p0 j0 j1 r0 rf c0 hwq bq HD1 HC1 HC2
      have p0 := HDq.out.pb.c 0 rfl
      have j0 := HDq.out.ob.c 0 rfl
      have j1 := HDq.out.ob.c 1 rfl
      have j3 := HDq.out.ob.c 3 rfl
      obtain ⟨b3, off3, e3, _, c1, _, _, _⟩ := Pvs.at_ HDq.out.pv.r n (by rw [HDq.out.len]; exact hn4)
      cases e3
      rw [show (P ++ x :: Q).getD n Pv.none = x by rw [← HP.out]; exact getD_mid P Q x] at c1
      obtain ⟨b5, o5, e5, _, c5, z5⟩ := (HDq.out.pv.each x (by simp)).1 y (by rw [HE4.out.1]; exact hy)
      rw [e5, HE4.out.1] at c1
      have HE5 := hid e5
      clear e5
      go_wp2
      go_region
      obtain ⟨w2, hw2⟩ : ∃ w2, (wq.setCell ⟨b5, o5 + y, none⟩ (.bool true)).drew = w2 := ⟨_, rfl⟩
      have HD2 : Hid (Dng w L0 B (some ⟨b, off, none⟩) cap [.int .i64 3, .int .i64 (n : Int), .int .i64 t, .int .i64 (y : Int), .string s] (P ++ { x with hs := x.hs.set y true } :: Q) w2) := by
        have hk := (kept_set wq b5 (o5 + y) (.bool true)).mono (T := foot x.ha x.hs.length) (fun c _ e => by subst e; exact ⟨by rw [HE4.out.1]; decide, o5, HE5.out⟩)
        have hl : BlsW (wq.setCell ⟨b5, o5 + y, none⟩ (.bool true)) B x.ha (x.hs.set y true) := by
          have h9 := (HDq.out.pv.each x (by simp)).1
          rw [HE5.out] at h9 ⊢
          exact wr_list h9 y (by rw [HE4.out.1]; exact hy) true
        have hp := HDq.out.pv.setHas hk (x.hs.set y true) (by simp) hl
        have ht := HDq.out.turn hB (hk.mono (fun c _ hc => Or.inr ⟨x, by simp, Or.inl hc⟩)) hp (fun b hb => foot_same (fun b hb => by simpa [Pv.foot] using hb) b hb) (by have := HDq.out.len; simpa using this)
        rw [← hw2]
        exact ht.below hB (Below.refl _ _).drew
      simp only [hw2]
      clear hw2 p0 j0 j1 j3 c1 c5 z5
      have p0 := HD2.out.pb.c 0 rfl
      have j0 := HD2.out.ob.c 0 rfl
      have j1 := HD2.out.ob.c 1 rfl
      have j3 := HD2.out.ob.c 3 rfl
      have j4 := HD2.out.ob.c 4 rfl
      obtain ⟨b4, off4, e4, _, _, c2, _, _⟩ := Pvs.at_ HD2.out.pv.r n (by rw [HD2.out.len]; exact hn4)
      cases e4
      rw [show (P ++ { x with hs := x.hs.set y true } :: Q).getD n Pv.none = { x with hs := x.hs.set y true } by rw [← HP.out]; exact getD_mid P Q _] at c2
      simp only [] at c2
      obtain ⟨b6, o6, e6, _, c6, z6⟩ := (HD2.out.pv.each { x with hs := x.hs.set y true } (by simp)).2 y (by show y < x.ts.length; rw [HE4.out.2]; exact hy)
      replace e6 : x.ta = some ⟨b6, o6, none⟩ := e6
      rw [e6, HE4.out.2] at c2
      have HE6 := hid e6
      clear e6
      go_wp2
      go_region
      obtain ⟨w3, hw3⟩ : ∃ w3, (w2.setCell ⟨b6, o6 + y, none⟩ (.string s)).drew = w3 := ⟨_, rfl⟩
      have HF : Hid (Dng w L0 B (some ⟨b, off, none⟩) cap [.int .i64 3, .int .i64 (n : Int), .int .i64 t, .int .i64 (y : Int), .string s] (P ++ { { x with hs := x.hs.set y true } with ts := x.ts.set y s } :: Q) w3) := by
        have hk := (kept_set w2 b6 (o6 + y) (.string s)).mono (T := foot x.ta x.ts.length) (fun c _ e => by subst e; exact ⟨by rw [HE4.out.2]; decide, o6, HE6.out⟩)
        have hl : StrsW (w2.setCell ⟨b6, o6 + y, none⟩ (.string s)) B x.ta (x.ts.set y s) := by
          have h9 : StrsW w2 B x.ta x.ts := (HD2.out.pv.each { x with hs := x.hs.set y true } (by simp)).2
          rw [HE6.out] at h9 ⊢
          exact wr_texts h9 y (by rw [HE4.out.2]; exact hy) s
        have hp := HD2.out.pv.setTexts hk (x.ts.set y s) (by simp) hl
        have ht := HD2.out.turn hB (hk.mono (fun c _ hc => Or.inr ⟨{ x with hs := x.hs.set y true }, by simp, Or.inr hc⟩)) hp (fun b hb => foot_same (fun b hb => by simpa [Pv.foot] using hb) b hb) (by have := HD2.out.len; simpa using this)
        rw [← hw3]
        exact ht.below hB (Below.refl _ _).drew
      simp only [hw3]
      have p9 := HF.out.pb.c 0 rfl; have r9 := HF.out.rs.c 0 rfl; have rf9 := HF.out.rs.f 0
      clear hw3 p0 j0 j1 j3 j4 c2 c6 z6
      go_wp2
      refine bodyPost_ret (results_pool2 rfl _ _ (w.heap.size + 1 + 1) [.slice (some ⟨b, off, none⟩) 4 cap] _ rfl (HF.out.rs.set 0 (.slice (some ⟨b, off, none⟩) 4 cap)) Try.underlying26 rfl (by kernel_rfl)) rfl ?_
      first | exact ⟨_, rfl, HF.out.len, (HF.out.fin hB _).1, by first | (rw [data_set P Q x]; rfl) | (simp only [List.map_append, List.map_cons]; rfl), (HF.out.fin hB _).2⟩ | exact ⟨rfl, _, HF.out.len, (HF.out.fin hB _).1, by first | (rw [data_set P Q x]; rfl) | (simp only [List.map_append, List.map_cons]; rfl), (HF.out.fin hB _).2⟩
    · -- discard
      have hon := HK1.out 4 (by decide) hk
      have hd := HX.out
      rw [do_4 HOK.out HE.out hk, HG.out, HNn.out] at hd
      cases hd
      obtain ⟨_, ⟨hm0, hm1⟩, _⟩ := op_34 HO.out (Or.inr hk)
      obtain ⟨y, rfl⟩ := Int.eq_ofNat_of_zero_le hm0
      have hy : y < 4 := by omega
      subst hon
      subst hk
      clear HX HK1 HN1 HE HG
      go_wp2
      go_quiet (fail)
      obtain ⟨wq, hwq, bq⟩ : ∃ wq, w1.drewN nq = wq ∧ Below w1.heap.size w1 wq := ⟨_, rfl, below_drewN (Below.refl _ w1) nq⟩
      simp only [hwq]
      have HDq := hid (HD1.out.below hB bq)
      clear p0 j0 j1 r0 rf c0 hwq bq HD1 HC1 HC2
      have p0 := HDq.out.pb.c 0 rfl
      have j0 := HDq.out.ob.c 0 rfl
      have j1 := HDq.out.ob.c 1 rfl
      have j3 := HDq.out.ob.c 3 rfl
      obtain ⟨b3, off3, e3, _, c1, _, _, _⟩ := Pvs.at_ HDq.out.pv.r n (by rw [HDq.out.len]; exact hn4)
      cases e3
      rw [show (P ++ x :: Q).getD n Pv.none = x by rw [← HP.out]; exact getD_mid P Q x] at c1
      obtain ⟨b5, o5, e5, _, c5, z5⟩ := (HDq.out.pv.each x (by simp)).1 y (by rw [HE4.out.1]; exact hy)
      rw [e5, HE4.out.1] at c1
      have HE5 := hid e5
      clear e5
      go_wp2
      go_region
      obtain ⟨w2, hw2⟩ : ∃ w2, (wq.setCell ⟨b5, o5 + y, none⟩ (.bool false)).drew = w2 := ⟨_, rfl⟩
      have HD2 : Hid (Dng w L0 B (some ⟨b, off, none⟩) cap [.int .i64 4, .int .i64 (n : Int), .int .i64 t, .int .i64 (y : Int), .string s] (P ++ { x with hs := x.hs.set y false } :: Q) w2) := by
        have hk := (kept_set wq b5 (o5 + y) (.bool false)).mono (T := foot x.ha x.hs.length) (fun c _ e => by subst e; exact ⟨by rw [HE4.out.1]; decide, o5, HE5.out⟩)
        have hl : BlsW (wq.setCell ⟨b5, o5 + y, none⟩ (.bool false)) B x.ha (x.hs.set y false) := by
          have h9 := (HDq.out.pv.each x (by simp)).1
          rw [HE5.out] at h9 ⊢
          exact wr_list h9 y (by rw [HE4.out.1]; exact hy) false
        have hp := HDq.out.pv.setHas hk (x.hs.set y false) (by simp) hl
        have ht := HDq.out.turn hB (hk.mono (fun c _ hc => Or.inr ⟨x, by simp, Or.inl hc⟩)) hp (fun b hb => foot_same (fun b hb => by simpa [Pv.foot] using hb) b hb) (by have := HDq.out.len; simpa using this)
        rw [← hw2]
        exact ht.below hB (Below.refl _ _).drew
      simp only [hw2]
      clear hw2 p0 j0 j1 j3 c1 c5 z5
      have p0 := HD2.out.pb.c 0 rfl
      have j0 := HD2.out.ob.c 0 rfl
      have j1 := HD2.out.ob.c 1 rfl
      have j3 := HD2.out.ob.c 3 rfl
      obtain ⟨b4, off4, e4, _, _, c2, _, _⟩ := Pvs.at_ HD2.out.pv.r n (by rw [HD2.out.len]; exact hn4)
      cases e4
      rw [show (P ++ { x with hs := x.hs.set y false } :: Q).getD n Pv.none = { x with hs := x.hs.set y false } by rw [← HP.out]; exact getD_mid P Q _] at c2
      simp only [] at c2
      obtain ⟨b6, o6, e6, _, c6, z6⟩ := (HD2.out.pv.each { x with hs := x.hs.set y false } (by simp)).2 y (by show y < x.ts.length; rw [HE4.out.2]; exact hy)
      replace e6 : x.ta = some ⟨b6, o6, none⟩ := e6
      rw [e6, HE4.out.2] at c2
      have HE6 := hid e6
      clear e6
      go_wp2
      go_region
      obtain ⟨w3, hw3⟩ : ∃ w3, (w2.setCell ⟨b6, o6 + y, none⟩ (.string ⟨#[]⟩)).drew = w3 := ⟨_, rfl⟩
      have HF : Hid (Dng w L0 B (some ⟨b, off, none⟩) cap [.int .i64 4, .int .i64 (n : Int), .int .i64 t, .int .i64 (y : Int), .string s] (P ++ { { x with hs := x.hs.set y false } with ts := x.ts.set y ⟨#[]⟩ } :: Q) w3) := by
        have hk := (kept_set w2 b6 (o6 + y) (.string ⟨#[]⟩)).mono (T := foot x.ta x.ts.length) (fun c _ e => by subst e; exact ⟨by rw [HE4.out.2]; decide, o6, HE6.out⟩)
        have hl : StrsW (w2.setCell ⟨b6, o6 + y, none⟩ (.string ⟨#[]⟩)) B x.ta (x.ts.set y ⟨#[]⟩) := by
          have h9 : StrsW w2 B x.ta x.ts := (HD2.out.pv.each { x with hs := x.hs.set y false } (by simp)).2
          rw [HE6.out] at h9 ⊢
          exact wr_texts h9 y (by rw [HE4.out.2]; exact hy) ⟨#[]⟩
        have hp := HD2.out.pv.setTexts hk (x.ts.set y ⟨#[]⟩) (by simp) hl
        have ht := HD2.out.turn hB (hk.mono (fun c _ hc => Or.inr ⟨{ x with hs := x.hs.set y false }, by simp, Or.inr hc⟩)) hp (fun b hb => foot_same (fun b hb => by simpa [Pv.foot] using hb) b hb) (by have := HD2.out.len; simpa using this)
        rw [← hw3]
        exact ht.below hB (Below.refl _ _).drew
      simp only [hw3]
      have p9 := HF.out.pb.c 0 rfl; have r9 := HF.out.rs.c 0 rfl; have rf9 := HF.out.rs.f 0
      clear hw3 p0 j0 j1 j3 c2 c6 z6
      go_wp2
      refine bodyPost_ret (results_pool2 rfl _ _ (w.heap.size + 1 + 1) [.slice (some ⟨b, off, none⟩) 4 cap] _ rfl (HF.out.rs.set 0 (.slice (some ⟨b, off, none⟩) 4 cap)) Try.underlying26 rfl (by kernel_rfl)) rfl ?_
      first | exact ⟨_, rfl, HF.out.len, (HF.out.fin hB _).1, by first | (rw [data_set P Q x]; rfl) | (simp only [List.map_append, List.map_cons]; rfl), (HF.out.fin hB _).2⟩ | exact ⟨rfl, _, HF.out.len, (HF.out.fin hB _).1, by first | (rw [data_set P Q x]; rfl) | (simp only [List.map_append, List.map_cons]; rfl), (HF.out.fin hB _).2⟩
    · -- snap
      have hon := HK1.out 5 (by decide) hk
      obtain ⟨_, ⟨ht0, ht1⟩, hvt⟩ := op_5 HO.out hk
      obtain ⟨j, rfl⟩ := Int.eq_ofNat_of_zero_le ht0
      have hj4 : j < 4 := by omega
      subst hon
      subst hk
      clear HK1 HN1
      go_wp2
      go_quiet (fail)
      obtain ⟨wq, hwq, bq⟩ : ∃ wq, w1.drewN nq = wq ∧ Below w1.heap.size w1 wq := ⟨_, rfl, below_drewN (Below.refl _ w1) nq⟩
      simp only [hwq]
      have HDq := hid (HD1.out.below hB bq)
      clear p0 j0 j1 r0 rf c0 hwq bq HD1 HC1 HC2
      have p0 := HDq.out.pb.c 0 rfl
      have j0 := HDq.out.ob.c 0 rfl
      have j1 := HDq.out.ob.c 1 rfl
      have j2 := HDq.out.ob.c 2 rfl
      obtain ⟨P', x', Q', hL', hP'⟩ := split_at (P ++ x :: Q) j (by rw [HDq.out.len]; exact hj4)
      have HPj := hid hP'
      have HLj := hid hL'
      have HJD : Hid (((P ++ x :: Q).map Pv.data).getD (j : Int).toNat noneD = x'.data) := by rw [Hid, hL', ← hP']; exact data_mid P' Q' x'
      have HDj : Hid (Dng w L0 B (some ⟨b, off, none⟩) cap [.int .i64 5, .int .i64 (n : Int), .int .i64 (j : Int), .int .i64 m, .string s] (P' ++ x' :: Q') wq) := by have h9 := HDq.out; rw [hL'] at h9; exact h9
      obtain ⟨b9, off9, e9, c9, _⟩ := Pvs.at_ HDj.out.pv.r j (by rw [HDj.out.len]; exact hj4)
      cases e9
      rw [show (P' ++ x' :: Q').getD j Pv.none = x' by rw [← hP']; exact getD_mid P' Q' x'] at c9
      obtain ⟨on9, hon9⟩ : ∃ on9, x'.on = on9 := ⟨_, rfl⟩
      rw [hon9] at c9
      have HO9 : Hid ((((P ++ x :: Q).map Pv.data).getD (j : Int).toNat noneD).1 = on9) := by rw [Hid, HJD.out]; exact hon9
      clear hL' hP' hon9
      cases on9 with
      | true =>
        have hd := HX.out
        rw [do_5n HOK.out HE.out rfl HO9.out] at hd
        cases hd
        clear HX
        have r0 := HDq.out.rs.c 0 rfl
        have rf := HDq.out.rs.f 0
        have HF := HDq
        go_wp2
        refine bodyPost_ret (results_pool2 rfl _ _ (w.heap.size + 1 + 1) [.slice (some ⟨b, off, none⟩) 4 cap] _ rfl (HF.out.rs.set 0 (.slice (some ⟨b, off, none⟩) 4 cap)) Try.underlying26 rfl (by kernel_rfl)) rfl ?_
        exact ⟨_, rfl, HF.out.len, (HF.out.fin hB _).1, rfl, (HF.out.fin hB _).2⟩
      | false =>
        have hd := HX.out
        rw [do_5 HOK.out HE.out rfl (by rw [HO9.out]; simp), HG.out] at hd
        cases hd
        clear HX
        obtain ⟨b8, off8, e8, d0, d1, d2, i1, i2⟩ := Pvs.at_ HDq.out.pv.r n (by rw [HDq.out.len]; exact hn4)
        cases e8
        rw [show (P ++ x :: Q).getD n Pv.none = x by rw [← HP.out]; exact getD_mid P Q x] at d0 d1 d2 i1 i2
        have HI1 := hid i1
        have HI2 := hid i2
        have HUx := hid (HUa.out x (by simp))
        clear i1 i2
        have hfar := HDj.out.far b (Or.inl ⟨by rw [HDj.out.len]; decide, off, rfl⟩)
        have hb0 := hfar.1
        have hb1 := hfar.2.1
        have HTg : Hid (SnT b off j wq.drew) := fun i hi => by
          obtain ⟨b5, o5, e5, _, c5, z5⟩ := HDj.out.pv.row (j * 3 + i) (by rw [HDj.out.len]; omega)
          cases e5
          rw [← Nat.add_assoc] at c5 z5
          exact ⟨_, c5, z5⟩
        have Q0 := hid (show wq.drew.cell? ⟨w.heap.size, 0, none⟩ = some (.slice (some ⟨b, off, none⟩) 4 cap) ∧ wq.drew.cell? ⟨w.heap.size + 1, 1, none⟩ = some (.int .i64 (n : Int)) ∧ wq.drew.cell? ⟨w.heap.size + 1, 2, none⟩ = some (.int .i64 (j : Int)) ∧ wq.drew.cell? ⟨b, off + n * 3, none⟩ = some (.bool x.on) ∧ wq.drew.cell? ⟨b, off + n * 3 + 1, none⟩ = some (.slice x.ha x.hs.length x.hc) ∧ wq.drew.cell? ⟨b, off + n * 3 + 2, none⟩ = some (.slice x.ta x.ts.length x.tc) ∧ SnT b off j wq.drew from ⟨p0, j1, j2, d0, d1, d2, HTg.out⟩)
        have hnj : ¬ n = j := by omega
        go_wp2
        clear p0 j0 j1 j2 c9 d0 d1 d2 hfar
        go_region_held_law (fun w' => w'.cell? ⟨w.heap.size, 0, none⟩ = some (.slice (some ⟨b, off, none⟩) 4 cap) ∧ w'.cell? ⟨w.heap.size + 1, 1, none⟩ = some (.int .i64 (n : Int)) ∧ w'.cell? ⟨w.heap.size + 1, 2, none⟩ = some (.int .i64 (j : Int)) ∧ w'.cell? ⟨b, off + n * 3, none⟩ = some (.bool x.on) ∧ w'.cell? ⟨b, off + n * 3 + 1, none⟩ = some (.slice x.ha x.hs.length x.hc) ∧ w'.cell? ⟨b, off + n * 3 + 2, none⟩ = some (.slice x.ta x.ts.length x.tc) ∧ SnT b off j w')
          (first | with_reducible exact Q0.out | with_reducible exact Q1.out | (with_reducible refine sn_set hb0 hb1 hnj ⟨2, by decide, rfl⟩ _ (sn_set hb0 hb1 hnj ⟨1, by decide, rfl⟩ _ (sn_set hb0 hb1 hnj ⟨0, by decide, rfl⟩ _ ?_)); with_reducible assumption))
          (first
            | (refine step_copy rfl (.tmp 114) _ rfl x rfl ⟨HI1.out, HI2.out⟩ HUx.out ?_; intro y w2 hyd hy2 b2; have Q1 := hid (sn_below (w' := wq.drew) (w'' := w2) (by with_reducible exact Q0.out) b2); have HD2 := hid (HDj.out.below hB (undrew b2)); obtain ⟨u0, c5, z5⟩ := Q1.out.2.2.2.2.2.2 0 (by decide); rw [Nat.add_zero] at c5 z5; obtain ⟨u1, c6, z6⟩ := Q1.out.2.2.2.2.2.2 1 (by decide); obtain ⟨u2, c7, z7⟩ := Q1.out.2.2.2.2.2.2 2 (by decide); have HY2 := hid hy2; have HBb := hid (undrew b2); have HYd := hid hyd; clear hy2 b2 hyd))
        all_goals
          obtain ⟨w3, hw3⟩ : ∃ w3, ((w2.setCell ⟨b, off + j * 3, none⟩ (.bool y.on)).setCell ⟨b, off + j * 3 + 1, none⟩ (.slice y.ha y.hs.length y.hc)).setCell ⟨b, off + j * 3 + 2, none⟩ (.slice y.ta y.ts.length y.tc) = w3 := ⟨_, rfl⟩
          have HF : Hid (Dng w L0 B (some ⟨b, off, none⟩) cap [.int .i64 5, .int .i64 (n : Int), .int .i64 (j : Int), .int .i64 m, .string s] (P' ++ y :: Q') w3) := by
            have hp := HDj.out.vol hB HBb.out HY2.out (Nat.le_refl _)
            rw [HPj.out, hw3] at hp
            exact hp
          have p9 := HF.out.pb.c 0 rfl; have r9 := HF.out.rs.c 0 rfl; have rf9 := HF.out.rs.f 0
          simp only [hw3]
          clear hw3 c5 z5 c6 z6 c7 z7
          go_wp2
          refine bodyPost_ret (results_pool2 rfl _ _ (w.heap.size + 1 + 1) [.slice (some ⟨b, off, none⟩) 4 cap] _ rfl (HF.out.rs.set 0 (.slice (some ⟨b, off, none⟩) 4 cap)) Try.underlying26 rfl (by kernel_rfl)) rfl ?_
          first | exact ⟨_, rfl, HF.out.len, (HF.out.fin hB _).1, by rw [data_set P' Q' x', HYd.out, HLj.out, HPj.out]; rfl, (HF.out.fin hB _).2⟩ | exact ⟨rfl, _, HF.out.len, (HF.out.fin hB _).1, by rw [data_set P' Q' x', HYd.out, HLj.out, HPj.out]; rfl, (HF.out.fin hB _).2⟩
    · exact absurd hk hk6

end Go.Proofs.Ytbnpnhcegoanmaa.Pl
