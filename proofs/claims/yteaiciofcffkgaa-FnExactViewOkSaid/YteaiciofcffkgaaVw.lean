/-
  A view in memory, and the walks of laws.szView, laws.toView and laws.eqView. No condition but lists that Go can hold.
-/
import Derived.Test.YteaiciofcffkgaaVwV
import Derived.Test.YteaiciofcffkgaaVwG
namespace Go.Proofs.Yteaiciofcffkgaa.Pl
open Go.RowKit Go.Proofs.Yteaiciofcffkgaa.Mem Go.Proofs.Yteaiciofcffkgaa.Sec
set_option linter.unusedVariables false

/-- What a view holds, and where its lists lie. -/
structure Vw where
  h : Int
  e : Int
  va : Option Addr
  vc : Nat
  vs : List Vs
  ga : Option Addr
  gc : Nat
  gs : List Gs
  fa : Option Addr
  fc : Nat
  fs : List Int

def Vw.cells (V : Vw) : List Value := [.int .i64 V.h, .int .i64 V.e, .slice V.va V.vs.length V.vc, .slice V.ga V.gs.length V.gc, .slice V.fa V.fs.length V.fc]
def vwV (V : Vw) : Value := .agg V.cells.toArray

structure VwR (w : World) (V : Vw) : Prop where
  vols : Vols w V.va V.vs
  grps : Grps w V.ga V.gs
  frees : Ints w V.fa V.fs

structure VwW (w : World) (B : Nat) (V : Vw) : Prop where
  vols : VolsW w B V.va V.vs
  grps : GrpsW w B V.ga V.gs
  frees : IntsW w B V.fa V.fs

theorem VwW.r {w : World} {B : Nat} {V : Vw} (h : VwW w B V) : VwR w V := ⟨h.vols.r, h.grps.r, Wr.sl h.frees⟩
theorem VwR.below {w w' : World} {V : Vw} (h : VwR w V) (k : Below w.heap.size w w') : VwR w' V := ⟨h.vols.below k, h.grps.below k, Sl.below h.frees k⟩
theorem VwW.below {w w' : World} {B : Nat} {V : Vw} (h : VwW w B V) (k : Below w.heap.size w w') : VwW w' B V := ⟨h.vols.below k, h.grps.below k, Wr.below h.frees k⟩
theorem VwW.mono {w : World} {B B' : Nat} {V : Vw} (h : VwW w B V) (hb : B' ≤ B) : VwW w B' V := ⟨h.vols.mono hb, h.grps.mono hb, Wr.mono h.frees hb⟩
theorem VwW.kept {S : Nat → Prop} {w w' : World} {B : Nat} {V : Vw} (h : VwW w B V) (k : Kept S w w') (hn : ∀ b, B ≤ b → ¬ S b) : VwW w' B V :=
  ⟨h.vols.kept k hn, h.grps.kept k hn, Wr.move h.frees k (fun b hb => hn b (Wr.foot_ge h.frees hb))⟩

/-- Two views that hold the same, wherever it lies. -/
structure Vw.Same (V U : Vw) : Prop where
  h : V.h = U.h
  e : V.e = U.e
  vs : V.vs.map Vs.data = U.vs.map Vs.data
  gs : V.gs.map Gs.data = U.gs.map Gs.data
  fs : V.fs = U.fs

theorem Vw.Same.symm {V U : Vw} (h : V.Same U) : U.Same V := ⟨h.h.symm, h.e.symm, h.vs.symm, h.gs.symm, h.fs.symm⟩
theorem Vw.Same.trans {V U T : Vw} (h : V.Same U) (k : U.Same T) : V.Same T := ⟨h.h.trans k.h, h.e.trans k.e, h.vs.trans k.vs, h.gs.trans k.gs, h.fs.trans k.fs⟩

/-- All lists are of at most n. -/
structure Vw.Upto (n : Nat) (V : Vw) : Prop where
  vl : V.vs.length ≤ n
  ve : ∀ x ∈ V.vs, x.l.length ≤ n
  gl : V.gs.length ≤ n
  ge : ∀ x ∈ V.gs, x.l.length ≤ n
  fl : V.fs.length ≤ n

theorem upto_vs {n : Nat} {L M : List Vs} (h : L.map Vs.data = M.map Vs.data) (k : ∀ x ∈ L, x.l.length ≤ n) : ∀ x ∈ M, x.l.length ≤ n := fun x hx => by
  have hm : x.data ∈ L.map Vs.data := by rw [h]; exact List.mem_map.2 ⟨x, hx, rfl⟩
  obtain ⟨y, hy, e⟩ := List.mem_map.1 hm
  have := k y hy
  simp only [Vs.data, Prod.mk.injEq] at e
  rw [← e.2.2.2]
  exact this
theorem upto_gs {n : Nat} {L M : List Gs} (h : L.map Gs.data = M.map Gs.data) (k : ∀ x ∈ L, x.l.length ≤ n) : ∀ x ∈ M, x.l.length ≤ n := fun x hx => by
  have hm : x.data ∈ L.map Gs.data := by rw [h]; exact List.mem_map.2 ⟨x, hx, rfl⟩
  obtain ⟨y, hy, e⟩ := List.mem_map.1 hm
  have := k y hy
  simp only [Gs.data, Prod.mk.injEq] at e
  rw [← e.2.2]
  exact this

theorem Vw.Upto.same {n : Nat} {V U : Vw} (h : V.Upto n) (k : V.Same U) : U.Upto n :=
  ⟨by have := congrArg List.length k.vs; have := h.vl; simp at this ⊢; simp_all, upto_vs k.vs h.ve, by have := congrArg List.length k.gs; have := h.gl; simp_all, upto_gs k.gs h.ge, by rw [← k.fs]; exact h.fl⟩

theorem Vw.Upto.held {V : Vw} (h : V.Upto 1048576) : V.Upto maxLen := by
  have hm : 1048576 ≤ maxLen := by unfold maxLen; omega
  exact ⟨Nat.le_trans h.vl hm, fun x hx => Nat.le_trans (h.ve x hx) hm, Nat.le_trans h.gl hm, fun x hx => Nat.le_trans (h.ge x hx) hm, Nat.le_trans h.fl hm⟩

set_option maxRecDepth 100000 in
set_option maxHeartbeats 1000000 in
theorem szView (w : World) (V : Vw) (left : Int) (S : VwR w V) (hh : V.Upto maxLen) (h0 : 0 ≤ left) (h1 : left ≤ 1048576) :
    Calls Try.prog 9 #[vwV V, .int .i64 left] w fun e w' => ∃ r, e = .returned (.int .i64 r) ∧ Below w.heap.size w w' ∧ (r < 0 ∨ (0 ≤ r ∧ r ≤ left ∧ V.Upto 1048576)) := by
  obtain ⟨vh, ve, va, vc, vs, ga, gc, gs, fa, fc, fs⟩ := V
  have HV : Hid (vwV ⟨vh, ve, va, vc, vs, ga, gc, gs, fa, fc, fs⟩ = .agg #[.int .i64 vh, .int .i64 ve, .slice va vs.length vc, .slice ga gs.length gc, .slice fa fs.length fc]) := rfl
  rw [HV.out]
  have HS := hid S
  have HH := hid hh
  clear S hh
  obtain ⟨wa, hwa, ez, A0, B0⟩ := one_new w [.int .i64 vh, .int .i64 ve, .slice va vs.length vc, .slice ga gs.length gc, .slice fa fs.length fc] 35
  have k0 := A0.c 0 rfl
  have k1 := A0.c 1 rfl
  have k2 := A0.c 2 rfl
  have k3 := A0.c 3 rfl
  have k4 := A0.c 4 rfl
  have HA := hid A0
  have HB := hid B0
  clear A0 B0
  go_enter Try.func9, Try.ntmps9
  go_wp2_with fail
  refine (szVolSecS wa va vc vs left (HS.out.vols.below HB.out) HH.out.vl HH.out.ve h0 h1).mono ?_
  rintro e w1 ⟨r, rfl, b1, hf⟩
  have HA1 := hid (HA.out.below b1 HA.out.lt)
  have HB1 := hid (HB.out.trans (b1.mono HB.out.size))
  have HF := hid hf
  clear b1 hf hwa k0 k1 k2 k3 k4
  by_cases hr : r < 0
  · go_wp2
    go_ret
    exact ⟨_, rfl, HB1.out, Or.inl (by decide)⟩
  have hf : 0 ≤ r ∧ r ≤ left ∧ (vs.length : Int) ≤ left ∧ ∀ x ∈ vs, (x.l.length : Int) ≤ left := by
    rcases HF.out with h | h
    · omega
    · exact h
  have hr0 := hf.1
  have hr1 := hf.2.1
  have HF1 := hid hf.2.2
  clear hf HF
  have k3 := HA1.out.c 3 rfl
  go_wp2_with fail
  refine (szGroupSecS w1 ga gc gs r (HS.out.grps.below HB1.out) HH.out.gl HH.out.ge hr0 (by omega)).mono ?_
  rintro e w2 ⟨r2, rfl, b2, hf⟩
  have HA2 := hid (HA1.out.below b2 HA1.out.lt)
  have HB2 := hid (HB1.out.trans (b2.mono HB1.out.size))
  have HF := hid hf
  clear b2 hf k3
  by_cases hq : r2 < 0
  · go_wp2
    go_ret
    exact ⟨_, rfl, HB2.out, Or.inl (by decide)⟩
  have hf : 0 ≤ r2 ∧ r2 ≤ r ∧ (gs.length : Int) ≤ r ∧ ∀ x ∈ gs, (x.l.length : Int) ≤ r := by
    rcases HF.out with h | h
    · omega
    · exact h
  have hq0 := hf.1
  have hq1 := hf.2.1
  have HF2 := hid hf.2.2
  clear hf HF
  have k4 := HA2.out.c 4 rfl
  go_wp2_with fail
  refine (szIntS w2 fa fc fs.length r2 HH.out.fl hq0 (by omega)).mono ?_
  rintro e w3 ⟨r3, rfl, hw3, hf⟩
  obtain rfl := hw3.symm
  have HF := hid hf
  clear hf k4
  by_cases hp : r3 < 0
  · go_wp2
    go_ret
    exact ⟨_, rfl, HB2.out, Or.inl (by decide)⟩
  have hf : 0 ≤ r3 ∧ r3 ≤ r2 ∧ (fs.length : Int) ≤ r2 := by
    rcases HF.out with h | h
    · omega
    · exact h
  have hf0 := hf.1
  have hf1 := hf.2.1
  have HF3 := hid hf.2.2
  clear hf HF
  go_wp2
  go_ret
  exact ⟨_, rfl, HB2.out, Or.inr ⟨hf0, by omega, ⟨by have := HF1.out.1; show vs.length ≤ _; omega, fun x hx => by have := HF1.out.2 x hx; omega, by have := HF2.out.1; show gs.length ≤ _; omega, fun x hx => by have := HF2.out.2 x hx; omega, by have := HF3.out; show fs.length ≤ _; omega⟩⟩⟩

set_option maxRecDepth 100000 in
set_option maxHeartbeats 1000000 in
theorem eqView (w : World) (V U : Vw) (S : VwR w V) (T : VwR w U) (hs : V.Same U) (hh : V.Upto 1048576) :
    Calls Try.prog 13 #[vwV V, vwV U] w fun e w' => e = .returned (.bool true) ∧ Below w.heap.size w w' := by
  have hm := hh.held
  have hu := (hh.same hs).held
  obtain ⟨vh, ve, va, vc, vs, ga, gc, gs, fa, fc, fs⟩ := V
  obtain ⟨uh, ue, ua, uc, us, ha, hc, ks, ea, ec, es⟩ := U
  obtain ⟨q1, q2, q3, q4, q5⟩ := hs
  simp only [] at q1 q2 q3 q4 q5
  subst q1; subst q2; subst q5
  have HV : Hid (∀ va vc vs ga gc gs fa fc, vwV ⟨vh, ve, va, vc, vs, ga, gc, gs, fa, fc, fs⟩ = .agg #[.int .i64 vh, .int .i64 ve, .slice va vs.length vc, .slice ga gs.length gc, .slice fa fs.length fc]) := fun _ _ _ _ _ _ _ _ => rfl
  simp only [HV.out]
  have HS := hid S
  have HT := hid T
  have HM := hid hm
  have HU := hid hu
  have H3 := hid q3
  have H4 := hid q4
  clear S T hm hu hh q3 q4
  obtain ⟨wa, hwa, ez, A0, C0, B0⟩ := two_new w [.int .i64 vh, .int .i64 ve, .slice va vs.length vc, .slice ga gs.length gc, .slice fa fs.length fc] [.int .i64 vh, .int .i64 ve, .slice ua us.length uc, .slice ha ks.length hc, .slice ea fs.length ec] 42 42
  have k0 := A0.c 0 rfl
  have k1 := A0.c 1 rfl
  have j0 := C0.c 0 rfl
  have j1 := C0.c 1 rfl
  have HA := hid A0
  have HC := hid C0
  have HB := hid B0
  clear A0 B0 C0
  go_enter Try.func13, Try.ntmps13
  go_wp2_with fail
  refine (eqLease vh ve wa).mono ?_
  rintro r w1 ⟨rfl, b1⟩
  have HA1 := hid (HA.out.below b1 HA.out.lt)
  have HC1 := hid (HC.out.below b1 HC.out.lt)
  have HB1 := hid (HB.out.trans (b1.mono HB.out.size))
  clear b1 hwa k0 k1 j0 j1 HA HC
  have k2 := HA1.out.c 2 rfl
  have j2 := HC1.out.c 2 rfl
  go_wp2_with fail
  refine (eqVolSecS w1 va ua vc uc vs us (HS.out.vols.below HB1.out) (HT.out.vols.below HB1.out) H3.out HM.out.vl HM.out.ve).mono ?_
  rintro r w2 ⟨rfl, b2⟩
  have HA2 := hid (HA1.out.below b2 HA1.out.lt)
  have HC2 := hid (HC1.out.below b2 HC1.out.lt)
  have HB2 := hid (HB1.out.trans (b2.mono HB1.out.size))
  clear b2 k2 j2 HA1 HC1
  have k3 := HA2.out.c 3 rfl
  have j3 := HC2.out.c 3 rfl
  go_wp2_with fail
  refine (eqGroupSecS w2 ga ha gc hc gs ks (HS.out.grps.below HB2.out) (HT.out.grps.below HB2.out) H4.out HM.out.gl HM.out.ge).mono ?_
  rintro r w3 ⟨rfl, b3⟩
  have HA3 := hid (HA2.out.below b3 HA2.out.lt)
  have HC3 := hid (HC2.out.below b3 HC2.out.lt)
  have HB3 := hid (HB2.out.trans (b3.mono HB2.out.size))
  clear b3 k3 j3 HA2 HC2
  have k4 := HA3.out.c 4 rfl
  have j4 := HC3.out.c 4 rfl
  go_wp2_with fail
  refine (eqIntS w3 fa ea fc ec fs fs (Sl.below HS.out.frees HB3.out) (Sl.below HT.out.frees HB3.out) HM.out.fl HM.out.fl).mono ?_
  rintro r w4 ⟨rfl, b4⟩
  have HB4 := hid (HB3.out.trans (b4.mono HB3.out.size))
  rw [decide_eq_true (rfl : fs = fs)]
  clear b4 k4 j4
  go_wp2
  go_ret
  exact ⟨rfl, HB4.out⟩

end Go.Proofs.Yteaiciofcffkgaa.Pl
