/-
  The walk of spec.l10Fold. No condition but small texts and a number within the log.
-/
import Derived.Test.YtbnpnhcegoanmaaFo
import Derived.Test.YtbnpnhcegoanmaaEv
import Derived.Deep.RegionHeldLaw
namespace Go.Proofs.Ytbnpnhcegoanmaa.Pl
open Go.RowKit Go.Proofs.Ytbnpnhcegoanmaa.Mem
set_option linter.unusedVariables false

abbrev E6 (gp : Nat) (pa : Option Addr) (cap b o : Nat) (k v t a : Int) (s : ByteArray) (B : Nat) (w1 w' : World) : Prop := w'.cell? ⟨gp, 0, none⟩ = some (.slice pa 4 cap) ∧ w'.cell? ⟨b, o + 2, none⟩ = some (.int .i64 k) ∧ w'.cell? ⟨b, o + 3, none⟩ = some (.int .i64 v) ∧ w'.cell? ⟨b, o + 4, none⟩ = some (.int .i64 t) ∧ w'.cell? ⟨b, o + 5, none⟩ = some (.int .i64 a) ∧ w'.cell? ⟨b, o + 6, none⟩ = some (.string s) ∧ Below B w1 w'

theorem e6_step {gp : Nat} {pa : Option Addr} {cap b o : Nat} {k v t a : Int} {s : ByteArray} {B : Nat} {w1 w' w'' : World} (h : E6 gp pa cap b o k v t a s B w1 w') (hg : ∀ {p : Addr} {u : Value}, p.block = gp ∨ p.block = b → w'.cell? p = some u → w''.cell? p = some u) (hb : Below B w1 w'') : E6 gp pa cap b o k v t a s B w1 w'' := by
  obtain ⟨h0, h1, h2, h3, h4, h5, h6⟩ := h
  exact ⟨hg (.inl rfl) h0, hg (.inr rfl) h1, hg (.inr rfl) h2, hg (.inr rfl) h3, hg (.inr rfl) h4, hg (.inr rfl) h5, hb⟩
theorem e6_alloc {gp : Nat} {pa : Option Addr} {cap b o : Nat} {k v t a : Int} {s : ByteArray} {B : Nat} {w1 w' : World} (h : E6 gp pa cap b o k v t a s B w1 w') (hB : B ≤ w1.heap.size) (ob : Obj) : E6 gp pa cap b o k v t a s B w1 (w'.alloc ob) :=
  e6_step h (fun _ hu => ((Below.refl _ w').alloc (Nat.le_refl _) ob |>.cell (World.block_lt_of_cell? w' _ hu)).trans hu) (h.2.2.2.2.2.2.trans ((Below.refl B w').alloc (Nat.le_trans hB (by have := h.2.2.2.2.2.2.size; exact this)) ob))
theorem e6_allocd {gp : Nat} {pa : Option Addr} {cap b o : Nat} {k v t a : Int} {s : ByteArray} {B : Nat} {w1 w' : World} (h : E6 gp pa cap b o k v t a s B w1 w'.drew) (hB : B ≤ w1.heap.size) (ob : Obj) : E6 gp pa cap b o k v t a s B w1 (w'.alloc ob).drew := e6_alloc (w' := w'.drew) h hB ob
theorem e6_set {gp : Nat} {pa : Option Addr} {cap b o : Nat} {k v t a : Int} {s : ByteArray} {B : Nat} {w1 w' : World} (h : E6 gp pa cap b o k v t a s B w1 w') {gz : Nat} (h1 : gp ≠ gz) (h2 : b ≠ gz) (hB : B ≤ gz) (x : Value) : E6 gp pa cap b o k v t a s B w1 (w'.setCell ⟨gz, 0, none⟩ x) :=
  e6_step h (fun {p} {u} hp hu => by
    rw [World.cell?_setCell_other _ _ _ _ (fun e => by subst e; rcases hp with hp | hp; exact h1 hp.symm; exact h2 hp.symm)]; exact hu) (below_set h.2.2.2.2.2.2 _ _ _ hB)
theorem e6_do {gp : Nat} {pa : Option Addr} {cap b o : Nat} {k v t a : Int} {s : ByteArray} {B : Nat} {w1 w' w'' : World} {M : List Pv} (h : E6 gp pa cap b o k v t a s B w1 w') (hk : Kept (pfoot pa M) w' w'') (hb : Below B w' w'') (hf : ∀ c, pfoot pa M c → c ≠ gp) (hbB : b < B) : E6 gp pa cap b o k v t a s B w1 w'' :=
  e6_step h (fun {p} {u} hp hu => by
    rcases hp with hp | hp
    · exact (cell_block (hk.block _ (World.block_lt_of_cell? w' _ hu) (fun hc => hf _ hc hp))).trans hu
    · exact (cell_block (hb.block _ (by rw [hp]; exact hbB))).trans hu) (h.2.2.2.2.2.2.trans hb)

set_option maxRecDepth 100000 in
set_option maxHeartbeats 2000000 in
theorem l10Fold (w : World) (al : Option Addr) (cl : Nat) (l : List Ev) (m : Nat) (S : Evs w al l) (hm : m ≤ l.length) (hl : l.length ≤ 1048576) (hs : ∀ e ∈ l, e.s.size ≤ 1048576) :
    Calls Try.prog 16 #[.slice al l.length cl, .int .i64 (m : Int)] w fun r w' => ∃ a cap M, r = .returned (.tuple #[plV a (M : List Pv).length cap, .bool (foldD (l.take m)).2]) ∧ PvsW w' w.heap.size a M ∧ M.map Pv.data = (foldD (l.take m)).1 ∧ Below w.heap.size w w' := by
  have HS := hid S
  have Hs := hid hs
  clear S hs
  obtain ⟨wa, hwa, ez, A0, B0⟩ := one_new w [.slice none 0 0] 26
  have HA := hid A0
  have HB := hid B0
  have HZ := hid ez
  clear A0 B0 ez
  go_enter Try.func16, Try.ntmps16
  go_wp2_with fail
  try simp only [hwa]
  clear hwa
  refine (sNewPool wa).mono ?_
  rintro e w1 ⟨a, cap, M0, rfl, P1, D1, b1⟩
  have h40 : M0.length = 4 := by have := congrArg List.length D1; simpa using this
  rw [h40]
  unfold plV
  obtain ⟨wb, hwb, eb, X1, BB⟩ := one_new w1 [.slice a 4 cap] 26
  have HX1 := hid X1
  have HP0 := hid P1
  have HP1 := hid (P1.below BB)
  have HD1 := hid D1
  have HA1 := hid ((HA.out.below b1 HA.out.lt).below BB (Nat.lt_of_lt_of_le HA.out.lt b1.size))
  have HB1 := hid (HB.out.trans ((b1.trans (BB.mono b1.size)).mono HB.out.size))
  have HLt : Hid (wa.heap.size ≤ w1.heap.size) := b1.size
  clear X1 P1 D1 BB b1 eb
  go_wp2
  try simp only [hwb]
  clear hwb
  go_loopw [7, 8] (fun q i wr => ∃ (k : Nat), k ≤ m ∧ i = .int .i64 (k : Int) ∧ q = .bool (foldD (l.take k)).2 ∧ Hid (Row wr w1.heap.size [.slice a 4 cap]) ∧ Hid (Row wr w.heap.size [.slice none 0 0]) ∧ Hid (Below w.heap.size w wr) ∧ Hid (∃ M, PvsW wr wa.heap.size a M ∧ M.map Pv.data = (foldD (l.take k)).1 ∧ ∀ b, pfoot a M b → b ≠ w1.heap.size)) (fun _ i _ => m - (intOf i).toNat)
  case atStart =>
    exact ⟨0, Nat.zero_le _, rfl, rfl, HX1.out, HA1.out, HB1.out, M0, HP1.out, HD1.out, fun b hb e => by have := (HP0.out.pfoot_ge hb).2; omega⟩
  case round =>
    obtain ⟨k, hk, rfl, rfl, HX, HA2, HB2, HM⟩ := hrel
    by_cases hlt : k < m
    · obtain ⟨b, off, rfl, c0, c1, c2, c3, c4, c5, c6⟩ := Evs.at_ (HS.out.below HB2.out) k (by omega)
      generalize hx : l.getD k Ev.none = x at c0 c1 c2 c3 c4 c5 c6
      have HXx := hid hx
      clear hx
      obtain ⟨xh, xx, xk, xv, xt, xa, xs⟩ := x
      simp only [] at c0 c1 c2 c3 c4 c5 c6
      have p0 := HX.out.c 0 rfl
      obtain ⟨M, hp, hd, hn⟩ := HM.out
      have hF4 := four_fold (l.take k) (fun e he => Hs.out e (List.mem_of_mem_take he))
      have HF := hid (four_pool hF4 hd)
      have hxs : xs.size ≤ 1048576 := by
        have := Hs.out (l.getD k Ev.none) (by simp [List.getD, show k < l.length by omega])
        rw [HXx.out] at this
        exact this
      have hbw : b < wa.heap.size := by
        obtain ⟨b', off', e', c0', _⟩ := Evs.at_ HS.out k (by omega)
        cases e'
        have := World.block_lt_of_cell? w _ c0'
        have hz := HZ.out
        show b < wa.heap.size
        simp only [] at this
        omega
      have hgw : wa.heap.size ≤ w1.heap.size := HLt.out
      have hgr : w1.heap.size < wr.heap.size := HX.out.lt
      have hwr : w.heap.size < wr.heap.size := HA2.out.lt
      have hze : wa.heap.size = w.heap.size + 1 := HZ.out
      have hwr2 : wa.heap.size ≤ wr.heap.size := by omega
      have HStep : Hid (foldD (l.take (k + 1)) = stepD (foldD (l.take k)) ⟨xh, xx, xk, xv, xt, xa, xs⟩) := by rw [Hid, fold_more l k (by omega), HXx.out]
      unfold stepD at HStep
      rw [← hd] at HStep
      simp only [] at HStep
      have HP := hid hp
      have HN := hid hn
      have Q0 : Hid (E6 w1.heap.size a cap b (off + k * 7) xk xv xt xa xs wa.heap.size wr wr.drew) := ⟨p0, c2, c3, c4, c5, c6, (Below.refl _ wr).drew⟩
      clear hd hp hn HM hF4
      have HV : Hid (∀ k v t m s, opV k v t m s = .agg #[.int .i64 k, .int .i64 v, .int .i64 t, .int .i64 m, .string s]) := fun _ _ _ _ _ => rfl
      generalize hq0 : (foldD (l.take k)).2 = q0 at HStep ⊢
      clear hq0
      go_wp2
      go_region_held_law (fun w' => w'.cell? ⟨w1.heap.size, 0, none⟩ = some (.slice a 4 cap) ∧ w'.cell? ⟨b, off + k * 7 + 2, none⟩ = some (.int .i64 xk) ∧ w'.cell? ⟨b, off + k * 7 + 3, none⟩ = some (.int .i64 xv) ∧ w'.cell? ⟨b, off + k * 7 + 4, none⟩ = some (.int .i64 xt) ∧ w'.cell? ⟨b, off + k * 7 + 5, none⟩ = some (.int .i64 xa) ∧ w'.cell? ⟨b, off + k * 7 + 6, none⟩ = some (.string xs) ∧ Below wa.heap.size wr w')
        (first | with_reducible exact Q2.out | with_reducible exact Q0.out | (with_reducible refine e6_allocd ?_ hwr2 _; with_reducible exact Q0.out) | (with_reducible refine e6_alloc ?_ hwr2 _; with_reducible exact Q2.out) | with_reducible assumption | (refine e6_set ?_ (by omega) (by omega) (by omega) _; with_reducible exact Q2.out))
        (first
          | (go_at_call 34; rw [← HV.out]; refine (l7Do (wr.alloc (.cells #[.slice none 0 0] 26)).drew wa.heap.size a cap M M rfl xk xv xt xa xs (HP.out.below ((Below.refl _ wr).alloc (Nat.le_refl _) (.cells #[.slice none 0 0] 26)).drew) HF.out.1 HF.out.2.1 HF.out.2.2 (by simp; omega) hxs).mono ?_; rintro e w3 ⟨M', rfl, l3, P3, D3, b3, k3, f3⟩; unfold plV; have Q2 : Hid (E6 w1.heap.size a cap b (off + k * 7) xk xv xt xa xs wa.heap.size wr w3) := e6_do (e6_allocd Q0.out hwr2 (.cells #[.slice none 0 0] 26)) k3 b3 HN.out hbw; have HZr : Hid (Row w3 wr.heap.size [.slice none 0 0]) := (show Row (wr.alloc (.cells #[.slice none 0 0] 26)).drew wr.heap.size [.slice none 0 0] from Row.new wr [.slice none 0 0] 26).kept k3 (fun hf => by have := (HP.out.pfoot_ge hf).2; omega); have zc := HZr.out.c 0 rfl; have zf := HZr.out.f 0; have HP3 := hid P3; have HD3 := hid D3; have HF3 := hid f3; have HB3 := hid b3; have HK3 := hid k3; clear P3 D3 l3 b3 k3 f3)
          | (go_at_call 34; rw [← HV.out]; refine (l7Do wr.drew wa.heap.size a cap M M rfl xk xv xt xa xs (HP.out.below (Below.refl _ wr).drew) HF.out.1 HF.out.2.1 HF.out.2.2 (by simp; omega) hxs).mono ?_; rintro e w3 ⟨M', rfl, l3, P3, D3, b3, k3, f3⟩; unfold plV; have Q2 : Hid (E6 w1.heap.size a cap b (off + k * 7) xk xv xt xa xs wa.heap.size wr w3) := e6_do Q0.out k3 b3 HN.out hbw; have HP3 := hid P3; have HD3 := hid D3; have HF3 := hid f3; have HB3 := hid b3; have HK3 := hid k3; clear P3 D3 l3 b3 k3 f3))
      all_goals
        first
        | (obtain ⟨wz, hwz⟩ : ∃ wz, w3.setCell ⟨wr.heap.size, 0, none⟩ (.slice a 4 cap) = wz := ⟨_, rfl⟩
           have hr := HZr.out.set 0 (.slice a 4 cap)
           have HX3 := (show Row (wr.alloc (.cells #[.slice none 0 0] 26)).drew w1.heap.size [.slice a 4 cap] from HX.out.alloc (.cells #[.slice none 0 0] 26)).kept HK3.out (fun hf => HN.out _ hf rfl)
           have HA3 := (show Row (wr.alloc (.cells #[.slice none 0 0] 26)).drew w.heap.size [.slice none 0 0] from HA2.out.alloc (.cells #[.slice none 0 0] 26)).kept HK3.out (fun hf => by have := (HP.out.pfoot_ge hf).1; omega)
           have hx3 := HX3.other (p := ⟨wr.heap.size, 0, none⟩) (by show w1.heap.size ≠ wr.heap.size; omega) (.slice a 4 cap)
           have ha3 := HA3.other (p := ⟨wr.heap.size, 0, none⟩) (by show w.heap.size ≠ wr.heap.size; omega) (.slice a 4 cap)
           have hb3 := below_set (((HB2.out.alloc (by omega) (.cells #[.slice none 0 0] 26)).drew).trans (HB3.out.mono (by omega))) wr.heap.size 0 (.slice a 4 cap) (by omega)
           have hp3 := HP3.out.move (kept_set w3 wr.heap.size 0 (.slice a 4 cap)) (fun b hb e => by
             rcases HF3.out b hb with h9 | h9
             · have := (HP.out.pfoot_ge h9).2; omega
             · simp at h9; omega)
           have hn3 : ∀ b, pfoot a M' b → b ≠ w1.heap.size := fun b hb e => by
             rcases HF3.out b hb with h9 | h9
             · exact HN.out b h9 e
             · simp at h9; omega
           rw [hwz] at hr hx3 ha3 hb3 hp3
           simp only [hwz]
           have HRx := hid hr
           have HXz := hid hx3
           have HAz := hid ha3
           have HBz := hid hb3
           have HPz := hid hp3
           have HNz := hid hn3
           clear hwz hr hx3 ha3 hb3 hp3 hn3 HX3 HA3)
        | (obtain ⟨wz, hwz⟩ : ∃ wz, w3.alloc (.cells #[.slice a 4 cap] 26) = wz := ⟨_, rfl⟩
           have hr : Row (w3.alloc (.cells #[.slice a 4 cap] 26)) w3.heap.size [.slice a 4 cap] := Row.new w3 [.slice a 4 cap] 26
           have HX3 := (show Row wr.drew w1.heap.size [.slice a 4 cap] from HX.out).kept HK3.out (fun hf => HN.out _ hf rfl)
           have HA3 := (show Row wr.drew w.heap.size [.slice none 0 0] from HA2.out).kept HK3.out (fun hf => by have := (HP.out.pfoot_ge hf).1; omega)
           have hx3 := HX3.alloc (.cells #[.slice a 4 cap] 26)
           have ha3 := HA3.alloc (.cells #[.slice a 4 cap] 26)
           have hz3 : wr.heap.size ≤ w3.heap.size := by have := HK3.out.size; simpa using this
           have hb3 := (HB2.out.drew.trans (HB3.out.mono (by omega))).alloc (by omega) (.cells #[.slice a 4 cap] 26)
           have hp3 := HP3.out.below ((Below.refl _ w3).alloc (Nat.le_refl _) (.cells #[.slice a 4 cap] 26))
           have hn3 : ∀ b, pfoot a M' b → b ≠ w1.heap.size := fun b hb e => by
             rcases HF3.out b hb with h9 | h9
             · exact HN.out b h9 e
             · simp at h9; omega
           rw [hwz] at hr hx3 ha3 hb3 hp3
           simp only [hwz]
           have HRx := hid hr
           have HXz := hid hx3
           have HAz := hid ha3
           have HBz := hid hb3
           have HPz := hid hp3
           have HNz := hid hn3
           clear hwz hr hx3 ha3 hb3 hp3 hn3 HX3 HA3 hz3)
      all_goals
        clear Q0 Q2 HX HA2 HB2 HP HN c0 c1 c2 c3 c4 c5 c6 p0
        have z9 := HRx.out.c 0 rfl
        have x9 := HXz.out.c 0 rfl
        have xf := HXz.out.f 0
        have HXs := hid (HXz.out.set 0 (.slice a 4 cap))
        have HAs := hid (HAz.out.other (p := ⟨w1.heap.size, 0, none⟩) (by show w.heap.size ≠ w1.heap.size; omega) (.slice a 4 cap))
        have HBs := hid (below_set HBz.out w1.heap.size 0 (.slice a 4 cap) (by omega))
        have HPs := hid (HPz.out.move (kept_set wz w1.heap.size 0 (.slice a 4 cap)) (fun b hb e => HNz.out b hb e))
        cases q0
        · go_wp2
          exact ⟨⟨k + 1, by omega, by go_num, by rw [HStep.out]; rfl, HXs, HAs, HBs, M', HPs.out, by rw [HStep.out]; exact HD3.out, HNz.out⟩, by simp [intOf]; omega⟩
        · go_wp2
          exact ⟨⟨k + 1, by omega, by go_num, by rw [HStep.out]; rfl, HXs, HAs, HBs, M', HPs.out, by rw [HStep.out]; exact HD3.out, HNz.out⟩, by simp [intOf]; omega⟩
    · obtain rfl : k = m := by omega
      have p0 := HX.out.c 0 rfl
      have r0 := HA2.out.c 0 rfl
      have rf := HA2.out.f 0
      obtain ⟨M, hp, hd, hn⟩ := HM.out
      have hM4 : M.length = 4 := (four_pool (four_fold (l.take k) (fun e he => Hs.out e (List.mem_of_mem_take he))) hd).1
      have HP := hid hp
      have HD := hid hd
      clear hp hd
      go_wp2
      refine bodyPost_ret (results_pool2 rfl _ _ w.heap.size [.slice a 4 cap] _ rfl (HA2.out.set 0 (.slice a 4 cap)) Try.underlying26 rfl (by kernel_rfl)) rfl ?_
      exact ⟨a, cap, M, by rw [hM4]; rfl, (PvsW.move HP.out (kept_set wr w.heap.size 0 _) (fun b hb e => by have := (HP.out.pfoot_ge hb).1; have := HZ.out; omega)).mono (by have := HZ.out; omega), HD.out, below_set HB2.out _ _ _ (by omega)⟩

end Go.Proofs.Ytbnpnhcegoanmaa.Pl
