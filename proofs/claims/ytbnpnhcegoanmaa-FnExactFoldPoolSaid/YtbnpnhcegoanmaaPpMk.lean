/-
  The walks of laws.markPVolS, laws.markPool, laws.heldPVolS and laws.heldPool: marks are laid into a pool and found there again. No condition but lists that may be written and lie apart.
-/
import Derived.Test.YtbnpnhcegoanmaaPpTo
namespace Go.Proofs.Ytbnpnhcegoanmaa.Pl
open Go.RowKit Go.Proofs.Ytbnpnhcegoanmaa.Mem
set_option linter.unusedVariables false

/-- What a volume is behind marks from k on. -/
def mkPv (x : Pv) (k : Nat) : Pv := ⟨markB k, x.ha, x.hc, (List.range x.hs.length).map (fun i => markB (k + 1 + i)), x.ta, x.tc, (List.range x.ts.length).map (fun i => markS (k + 1 + x.hs.length + i))⟩
def Pv.sz (x : Pv) : Nat := 1 + x.hs.length + x.ts.length
def marksPv : List Pv → Nat → List Pv
  | [], _ => []
  | x :: L, k => mkPv x k :: marksPv L (k + x.sz)
def totPv : List Pv → Nat
  | [] => 0
  | x :: L => x.sz + totPv L

theorem marksPv_length (L : List Pv) (k : Nat) : (marksPv L k).length = L.length := by
  induction L generalizing k with
  | nil => rfl
  | cons x L ih => simp [marksPv, ih]
theorem totPv_append (P Q : List Pv) : totPv (P ++ Q) = totPv P + totPv Q := by
  induction P with
  | nil => simp [totPv]
  | cons x P ih => simp [totPv, ih]; omega
theorem marksPv_append (P Q : List Pv) (k : Nat) : marksPv (P ++ Q) k = marksPv P k ++ marksPv Q (k + totPv P) := by
  induction P generalizing k with
  | nil => simp [marksPv, totPv]
  | cons x P ih => simp only [List.cons_append, marksPv, ih, totPv]; rw [show k + x.sz + totPv P = k + (x.sz + totPv P) by omega]

/-- The blocks of a pool. -/
def pfoot (a : Option Addr) (L : List Pv) (b : Nat) : Prop := foot a (L.length * 3) b ∨ ∃ x ∈ L, x.foot b

theorem PvsW.pfoot_ge {w : World} {B : Nat} {a : Option Addr} {L : List Pv} (h : PvsW w B a L) {b : Nat} (hb : pfoot a L b) : B ≤ b ∧ b < w.heap.size := by
  rcases hb with hb | ⟨x, hx, hb | hb⟩
  · exact ⟨h.row.foot_ge hb, h.row.sl.lt hb⟩
  · exact ⟨Wr.foot_ge (h.each x hx).1 hb, Sl.lt (h.each x hx).1.sl hb⟩
  · exact ⟨Wr.foot_ge (h.each x hx).2 hb, Sl.lt (h.each x hx).2.sl hb⟩

theorem getD_mid (P Q : List Pv) (x : Pv) : (P ++ x :: Q).getD P.length Pv.none = x := by simp [List.getD]

theorem pcell_mid (P Q : List Pv) (x y : Pv) (i : Nat) (h : i / 3 ≠ P.length) : pcell (P ++ x :: Q) i = pcell (P ++ y :: Q) i := by
  unfold pcell
  have : (P ++ x :: Q).getD (i / 3) Pv.none = (P ++ y :: Q).getD (i / 3) Pv.none := by
    simp only [List.getD, List.getElem?_append, List.getElem?_cons]
    by_cases h1 : i / 3 < P.length
    · simp [h1]
    · have h2 : ¬ i / 3 - P.length = 0 := by omega
      simp [h1, h2]
  rw [this]

theorem pcell_here (P Q : List Pv) (x : Pv) (j : Nat) (hj : j < 3) : pcell (P ++ x :: Q) (P.length * 3 + j) = x.cells.getD j undef := by
  rw [pcell_at _ _ _ hj, getD_mid]

theorem PvsW.turn {S : Nat → Prop} {w w' : World} {B : Nat} {a : Option Addr} {P Q : List Pv} {x y : Pv} (h : PvsW w B a (P ++ x :: Q)) (e1 : y.ha = x.ha) (e2 : y.hs.length = x.hs.length) (e3 : y.ta = x.ta) (e4 : y.ts.length = x.ts.length)
    (row : Wr w' B a ((P ++ x :: Q).length * 3) (pcell (P ++ y :: Q))) (k : Kept S w w') (hS : ∀ b, S b → x.foot b ∨ foot a ((P ++ x :: Q).length * 3) b) (h1 : BlsW w' B y.ha y.hs) (h2 : StrsW w' B y.ta y.ts) : PvsW w' B a (P ++ y :: Q) := by
  have hlen : (P ++ y :: Q).length = (P ++ x :: Q).length := by simp
  have hf : y.foot = x.foot := by funext b; unfold Pv.foot; rw [e1, e2, e3, e4]
  have htwo := List.pairwise_append.1 h.two
  have htwo2 := List.pairwise_cons.1 htwo.2.1
  have hother : ∀ z, z ∈ P ∨ z ∈ Q → BlsW w' B z.ha z.hs ∧ StrsW w' B z.ta z.ts := fun z hz => by
    have hzm : z ∈ P ++ x :: Q := by rcases hz with hz | hz <;> simp [hz]
    have hn : ∀ b, z.foot b → ¬ S b := fun b hb hs => by
      rcases hS b hs with hx | hx
      · rcases hz with hz | hz
        · exact htwo.2.2 z hz x (by simp) b hb hx
        · exact htwo2.1 z hz b hx hb
      · exact h.off z hzm b hb hx
    exact ⟨Wr.move (h.each z hzm).1 k (fun b hb => hn b (Or.inl hb)), Wr.move (h.each z hzm).2 k (fun b hb => hn b (Or.inr hb))⟩
  refine ⟨by rw [hlen]; exact row, fun z hz => ?_, fun z hz => ?_, ?_, fun z hz b hb => ?_⟩
  · rcases List.mem_append.1 hz with hz | hz
    · exact hother z (Or.inl hz)
    · rcases List.mem_cons.1 hz with rfl | hz
      · exact ⟨h1, h2⟩
      · exact hother z (Or.inr hz)
  · rcases List.mem_append.1 hz with hz | hz
    · exact h.own z (by simp [hz])
    · rcases List.mem_cons.1 hz with rfl | hz
      · rw [e1, e2, e3, e4]; exact h.own x (by simp)
      · exact h.own z (by simp [hz])
  · refine List.pairwise_append.2 ⟨htwo.1, List.pairwise_cons.2 ⟨fun z hz b hb => htwo2.1 z hz b (hf ▸ hb), htwo2.2⟩, fun z hz u hu b hb hb' => ?_⟩
    rcases List.mem_cons.1 hu with rfl | hu
    · exact htwo.2.2 z hz x (by simp) b hb (hf ▸ hb')
    · exact htwo.2.2 z hz u (by simp [hu]) b hb hb'
  · rw [hlen]
    rcases List.mem_append.1 hz with hz | hz
    · exact h.off z (by simp [hz]) b hb
    · rcases List.mem_cons.1 hz with rfl | hz
      · exact h.off x (by simp) b (hf ▸ hb)
      · exact h.off z (by simp [hz]) b hb

/-- The flag is stored. -/
theorem PvsW.setOn {w : World} {B b off : Nat} {P Q : List Pv} {x : Pv} (h : PvsW w B (some ⟨b, off, none⟩) (P ++ x :: Q)) (q : Bool) :
    PvsW (w.setCell ⟨b, off + P.length * 3, none⟩ (.bool q)) B (some ⟨b, off, none⟩) (P ++ { x with on := q } :: Q) := by
  have hlen : P.length * 3 < (P ++ x :: Q).length * 3 := by rw [List.length_append, List.length_cons]; omega
  have hk := kept_set w b (off + P.length * 3) (.bool q)
  have hn : ∀ c, x.foot c → ¬ c = b := fun c hc e => by
    subst e
    exact h.off x (by simp) c hc ⟨by omega, off, rfl⟩
  refine h.turn (y := { x with on := q }) rfl rfl rfl rfl ?_ hk (fun c hc => Or.inr (by subst hc; exact ⟨by omega, off, rfl⟩)) (Wr.move (h.each x (by simp)).1 hk (fun c hc => hn c (Or.inl hc))) (Wr.move (h.each x (by simp)).2 hk (fun c hc => hn c (Or.inr hc)))
  refine (h.row.set (P.length * 3) hlen (.bool q)).congr (fun j _ => ?_)
  by_cases hj : j / 3 = P.length
  · have : j = P.length * 3 ∨ j = P.length * 3 + 1 ∨ j = P.length * 3 + 2 := by omega
    rcases this with rfl | rfl | rfl
    · rw [if_pos rfl]; exact (pcell_here P Q { x with on := q } 0 (by omega)).symm
    · rw [if_neg (by omega), pcell_here P Q _ 1 (by omega), pcell_here P Q _ 1 (by omega)]; rfl
    · rw [if_neg (by omega), pcell_here P Q _ 2 (by omega), pcell_here P Q _ 2 (by omega)]; rfl
  · rw [if_neg (by omega)]; exact pcell_mid P Q _ _ j hj

/-- The flags' list is written over. -/
theorem PvsW.setHas {w w' : World} {B : Nat} {a : Option Addr} {P Q : List Pv} {x : Pv} (h : PvsW w B a (P ++ x :: Q)) (k : Kept (foot x.ha x.hs.length) w w') (l : List Bool) (hl : l.length = x.hs.length) (h1 : BlsW w' B x.ha l) : PvsW w' B a (P ++ { x with hs := l } :: Q) := by
  have hx : x ∈ P ++ x :: Q := by simp
  refine h.turn (y := { x with hs := l }) rfl hl rfl rfl ?_ k (fun b hb => Or.inl (Or.inl hb)) h1 (Wr.move (h.each x hx).2 k (fun b hb hb' => h.own x hx b hb' hb))
  refine (h.row.move k (fun b hb hb' => h.off x hx b (Or.inl hb') hb)).congr (fun j _ => ?_)
  by_cases hj : j / 3 = P.length
  · have : j = P.length * 3 + 0 ∨ j = P.length * 3 + 1 ∨ j = P.length * 3 + 2 := by omega
    rcases this with rfl | rfl | rfl
    · rw [pcell_here P Q _ 0 (by omega), pcell_here P Q _ 0 (by omega)]; rfl
    · rw [pcell_here P Q _ 1 (by omega), pcell_here P Q _ 1 (by omega)]; show _ = Value.slice x.ha l.length x.hc; rw [hl]; rfl
    · rw [pcell_here P Q _ 2 (by omega), pcell_here P Q _ 2 (by omega)]; rfl
  · exact pcell_mid P Q _ _ j hj

/-- The texts' list is written over. -/
theorem PvsW.setTexts {w w' : World} {B : Nat} {a : Option Addr} {P Q : List Pv} {x : Pv} (h : PvsW w B a (P ++ x :: Q)) (k : Kept (foot x.ta x.ts.length) w w') (l : List ByteArray) (hl : l.length = x.ts.length) (h1 : StrsW w' B x.ta l) : PvsW w' B a (P ++ { x with ts := l } :: Q) := by
  have hx : x ∈ P ++ x :: Q := by simp
  refine h.turn (y := { x with ts := l }) rfl rfl rfl hl ?_ k (fun b hb => Or.inl (Or.inr hb)) (Wr.move (h.each x hx).1 k (fun b hb hb' => h.own x hx b hb hb')) h1
  refine (h.row.move k (fun b hb hb' => h.off x hx b (Or.inr hb') hb)).congr (fun j _ => ?_)
  by_cases hj : j / 3 = P.length
  · have : j = P.length * 3 + 0 ∨ j = P.length * 3 + 1 ∨ j = P.length * 3 + 2 := by omega
    rcases this with rfl | rfl | rfl
    · rw [pcell_here P Q _ 0 (by omega), pcell_here P Q _ 0 (by omega)]; rfl
    · rw [pcell_here P Q _ 1 (by omega), pcell_here P Q _ 1 (by omega)]; rfl
    · rw [pcell_here P Q _ 2 (by omega), pcell_here P Q _ 2 (by omega)]; show _ = Value.slice x.ta l.length x.tc; rw [hl]; rfl
  · exact pcell_mid P Q _ _ j hj

theorem strs_marks {w : World} {B : Nat} {a : Option Addr} {n k : Nat} (h : Wr w B a n (fun i => .string (markS (k + i)))) : StrsW w B a ((List.range n).map (fun i => markS (k + i))) := by
  unfold StrsW
  rw [List.length_map, List.length_range]
  exact h.congr (fun i hi => by simp [List.getD, hi])
theorem bls_marks {w : World} {B : Nat} {a : Option Addr} {n k : Nat} (h : Wr w B a n (fun i => .bool (markB (k + i)))) : BlsW w B a ((List.range n).map (fun i => markB (k + i))) := by
  unfold BlsW
  rw [List.length_map, List.length_range]
  exact h.congr (fun i hi => by simp [List.getD, hi])

theorem foot_marks (P Q : List Pv) (x : Pv) (k : Nat) (a : Option Addr) : foot a ((marksPv P k ++ x :: Q).length * 3) = foot a ((P ++ x :: Q).length * 3) := by
  simp [marksPv_length]

set_option maxRecDepth 100000 in
set_option maxHeartbeats 2000000 in
theorem markPVolS (w : World) (B : Nat) (a : Option Addr) (cap k : Nat) (L : List Pv) (S : PvsW w B a L) (hk : 0 < k) (hb : k + totPv L ≤ 4611686018427387904) (hl : L.length ≤ 1048576) :
    Calls Try.prog 28 #[.slice a L.length cap, .int .i64 (k : Int)] w fun e w' => e = .returned (.int .i64 ((k + totPv L : Nat) : Int)) ∧ PvsW w' B a (marksPv L k) ∧ Kept (pfoot a L) w w' := by
  have HS := hid S
  have HT := hid hb
  clear S hb
  go_enter Try.func28, Try.ntmps28
  go_wp2
  go_loopw [1, 5] (fun x i wr => ∃ (P Q : List Pv) (n m : Nat), n ≤ L.length ∧ i = .int .i64 (n : Int) ∧ x = .int .i64 (m : Int) ∧ Hid (L = P ++ Q) ∧ Hid (P.length = n) ∧ Hid (m = k + totPv P) ∧ Hid (PvsW wr B a (marksPv P k ++ Q)) ∧ Hid (Kept (pfoot a L) w wr)) (fun _ i _ => L.length - (intOf i).toNat)
  case atStart => exact ⟨[], L, 0, k, Nat.zero_le _, rfl, rfl, rfl, rfl, rfl, HS, Kept.refl _ _⟩
  case round =>
    obtain ⟨P, Q, n, m, hn, rfl, rfl, HL, HN, HM, HW, HK⟩ := hrel
    by_cases hlt : n < L.length
    · obtain ⟨x, Q', HQ⟩ : ∃ x Q', Hid (Q = x :: Q') := by
        cases Q with
        | nil =>
          have h1 := congrArg List.length HL.out
          rw [List.append_nil] at h1
          have h2 := HN.out
          omega
        | cons x Q' => exact ⟨x, Q', rfl⟩
      have hq := HQ.out
      subst hq
      have hpl : (marksPv P k).length = n := by rw [marksPv_length]; exact HN.out
      have hlt2 : n < (marksPv P k ++ x :: Q').length := by rw [List.length_append, hpl]; simp
      have hmt : m + x.sz ≤ 4611686018427387904 := by
        have h1 := HT.out
        rw [HL.out, totPv_append] at h1
        have h2 := HM.out
        simp only [totPv] at h1
        omega
      have hsz : x.sz = 1 + x.hs.length + x.ts.length := rfl
      have hxm : ∀ b, x.foot b → pfoot a L b := fun b hb => Or.inr ⟨x, by rw [HL.out]; simp, hb⟩
      have hpa : ∀ b, foot a (L.length * 3) b → pfoot a L b := fun b hb => Or.inl hb
      have HX := hid hxm
      obtain ⟨b, off, rfl, c0, _⟩ := Pvs.at_ HW.out.r n hlt2
      obtain ⟨b', off', e', hB', c0', z0⟩ := HW.out.row (n * 3) (by omega)
      cases e'
      have HP := hid hpl
      have HW1 : Hid (PvsW (wr.setCell ⟨b, off + n * 3, none⟩ (.bool ((m : Int) % 3 == 0))) B (some ⟨b, off, none⟩) (marksPv P k ++ { x with on := ((m : Int) % 3 == 0) } :: Q')) := by
        have h := HW.out.setOn ((m : Int) % 3 == 0)
        rw [hpl] at h
        exact h
      have HK1 : Hid (Kept (pfoot (some ⟨b, off, none⟩) L) w (wr.setCell ⟨b, off + n * 3, none⟩ (.bool ((m : Int) % 3 == 0)))) := (HK.out.trans (kept_set wr b (off + n * 3) _)).mono (fun c _ hc => by
        rcases hc with hc | hc
        · exact hc
        · subst hc; exact Or.inl ⟨by omega, off, rfl⟩)
      obtain ⟨w1, hw1⟩ : ∃ w1, wr.setCell ⟨b, off + n * 3, none⟩ (.bool ((m : Int) % 3 == 0)) = w1 := ⟨_, rfl⟩
      rw [hw1] at HW1 HK1
      clear hxm hpa hpl
      have hm1 : (m : Int) + 1 ≤ 4611686018427387904 := by omega
      obtain ⟨b2, off2, e2, _, d1, d2, _⟩ := Pvs.at_ HW1.out.r n (by rw [List.length_append, HP.out]; simp)
      cases e2
      rw [show ((marksPv P k ++ { x with on := ((m : Int) % 3 == 0) } :: Q').getD n Pv.none) = { x with on := ((m : Int) % 3 == 0) } by rw [← HP.out]; exact getD_mid _ _ _] at d1 d2
      simp only [] at d1 d2
      clear c0 HW HK
      go_wp2_with fail
      clear hw1
      have hx1 := HW1.out.each { x with on := ((m : Int) % 3 == 0) } (by simp)
      refine (markBoolS w1 B x.ha x.hs.length x.hc (m + 1) _ hx1.1 (by omega)).mono ?_
      rintro e w2 ⟨rfl, S2, K2⟩
      have HW2 := hid (HW1.out.setHas K2 _ (by simp) (bls_marks S2))
      have HK2 : Hid (Kept (pfoot (some ⟨b, off, none⟩) L) w w2) := (HK1.out.trans K2).mono (fun c _ hc => by
        rcases hc with hc | hc
        · exact hc
        · exact HX.out c (Or.inl hc))
      obtain ⟨b2, off2, e2, _, _, d3, _⟩ := Pvs.at_ HW2.out.r n (by rw [List.length_append, HP.out]; simp)
      cases e2
      rw [show ((marksPv P k ++ { x with on := ((m : Int) % 3 == 0), hs := (List.range x.hs.length).map (fun i => markB (m + 1 + i)) } :: Q').getD n Pv.none) = { x with on := ((m : Int) % 3 == 0), hs := (List.range x.hs.length).map (fun i => markB (m + 1 + i)) } by rw [← HP.out]; exact getD_mid _ _ _] at d3
      simp only [] at d3
      clear d1 d2 HW1 HK1 S2 K2 hx1
      go_wp2_with fail
      have hx2 := HW2.out.each { x with on := ((m : Int) % 3 == 0), hs := (List.range x.hs.length).map (fun i => markB (m + 1 + i)) } (by simp)
      refine (markStringS w2 B x.ta x.ts.length x.tc (m + 1 + x.hs.length) _ hx2.2 (by omega) (by omega)).mono ?_
      rintro e w3 ⟨rfl, S3, K3⟩
      have HW3 := hid (HW2.out.setTexts K3 _ (by simp) (strs_marks S3))
      have HK3 : Hid (Kept (pfoot (some ⟨b, off, none⟩) L) w w3) := (HK2.out.trans K3).mono (fun c _ hc => by
        rcases hc with hc | hc
        · exact hc
        · exact HX.out c (Or.inr hc))
      clear d3 HW2 HK2 S3 K3 hx2
      go_wp2
      refine ⟨⟨P ++ [x], Q', n + 1, m + 1 + x.hs.length + x.ts.length, by omega, by go_num, rfl, ?_, ?_, ?_, ?_, HK3⟩, by simp [intOf]; omega⟩
      · rw [Hid, HL.out, List.append_assoc]; rfl
      · rw [Hid, List.length_append, HN.out]; rfl
      · rw [Hid, totPv_append, HM.out]; simp only [totPv, Pv.sz]; omega
      · have := HW3.out
        rw [Hid, marksPv_append]
        simp only [marksPv, List.append_assoc, List.singleton_append]
        rw [← HM.out]
        exact this
    · obtain rfl : n = L.length := by omega
      have hQ : Q = [] := by
        have h1 := congrArg List.length HL.out
        have h2 := HN.out
        rw [List.length_append] at h1
        exact List.eq_nil_of_length_eq_zero (by omega)
      have HP : Hid (P = L) := by
        have h1 := HL.out
        rw [hQ, List.append_nil] at h1
        exact h1.symm
      have HQ := hid hQ
      clear hQ
      go_wp2
      go_ret
      refine ⟨?_, ?_, HK.out⟩
      · rw [HM.out, HP.out]; rfl
      · have := HW.out
        rw [HP.out, HQ.out, List.append_nil] at this
        exact this

set_option maxRecDepth 100000 in
set_option maxHeartbeats 2000000 in
theorem heldPVolS (w : World) (a : Option Addr) (cap k : Nat) (L : List Pv) (S : Pvs w a (marksPv L k)) (hk : 0 < k) (hb : k + totPv L ≤ 4611686018427387904) (hl : L.length ≤ 1048576) :
    Calls Try.prog 29 #[.slice a L.length cap, .int .i64 (k : Int)] w fun e w' => e = .returned (.int .i64 ((k + totPv L : Nat) : Int)) ∧ Below w.heap.size w w' := by
  have HS := hid S
  have HT := hid hb
  clear S hb
  go_enter Try.func29, Try.ntmps29
  go_wp2
  go_loopw [1, 5] (fun x i wr => ∃ (P Q : List Pv) (n m : Nat), n ≤ L.length ∧ i = .int .i64 (n : Int) ∧ x = .int .i64 (m : Int) ∧ Hid (L = P ++ Q) ∧ Hid (P.length = n) ∧ Hid (m = k + totPv P) ∧ Hid (Below w.heap.size w wr)) (fun _ i _ => L.length - (intOf i).toNat)
  case atStart => exact ⟨[], L, 0, k, Nat.zero_le _, rfl, rfl, rfl, rfl, rfl, Below.refl _ _⟩
  case round =>
    obtain ⟨P, Q, n, m, hn, rfl, rfl, HL, HN, HM, HB⟩ := hrel
    by_cases hlt : n < L.length
    · obtain ⟨x, Q', HQ⟩ : ∃ x Q', Hid (Q = x :: Q') := by
        cases Q with
        | nil =>
          have h1 := congrArg List.length HL.out
          rw [List.append_nil] at h1
          have h2 := HN.out
          omega
        | cons x Q' => exact ⟨x, Q', rfl⟩
      have hq := HQ.out
      subst hq
      have hmt : m + x.sz ≤ 4611686018427387904 := by
        have h1 := HT.out
        rw [HL.out, totPv_append] at h1
        have h2 := HM.out
        simp only [totPv] at h1
        omega
      have hsz : x.sz = 1 + x.hs.length + x.ts.length := rfl
      have hm0 : 0 < m := by have := HM.out; omega
      obtain ⟨b, off, rfl, c0, c1, c2, i1, i2⟩ := Pvs.at_ (HS.out.below HB.out) n (by rw [marksPv_length]; exact hlt)
      rw [show (marksPv L k).getD n Pv.none = mkPv x m by
        rw [HL.out, marksPv_append, HM.out, ← HN.out, ← marksPv_length P k]; exact getD_mid _ _ _] at c0 c1 c2 i1 i2
      have HI1 : Hid (Sl wr x.ha x.hs.length (fun i => .bool (markB (m + 1 + i)))) := by
        unfold Bls mkPv at i1
        simp only [List.length_map, List.length_range] at i1
        exact Sl.congr i1 (fun i hi => by simp [List.getD, hi])
      have HI2 : Hid (Sl wr x.ta x.ts.length (fun i => .string (markS (m + 1 + x.hs.length + i)))) := by
        unfold Strs mkPv at i2
        simp only [List.length_map, List.length_range] at i2
        exact Sl.congr i2 (fun i hi => by simp [List.getD, hi])
      simp only [mkPv, List.length_map, List.length_range] at c0 c1 c2
      unfold markB at c0
      clear i1 i2
      have hgo : ∀ q : Bool, ((m : Int) % 3 == 0) = q → True := fun _ _ => trivial
      clear hgo
      have hm1 : (m : Int) + 1 ≤ 4611686018427387904 := by omega
      have hC2 : Hid (∀ w', Below wr.heap.size wr w' → w'.cell? ⟨b, off + n * 3 + 2, none⟩ = some (.slice x.ta x.ts.length x.tc)) := fun w' hb' => by
        rw [cell_block (hb'.block b (World.block_lt_of_cell? _ _ c2))]; exact c2
      cases hq : ((m : Int) % 3 == 0) with
      | true =>
        rw [hq] at c0
        go_wp2_with fail
        refine (heldBoolS wr x.ha x.hs.length x.hc (m + 1) HI1.out (by omega)).mono ?_
        rintro e w2 ⟨rfl, b2⟩
        have d2 := hC2.out w2 b2
        have HB2 := hid (HB.out.trans (b2.mono HB.out.size))
        have HI3 := hid (HI2.out.below b2)
        clear b2 c0 c1 c2 hq
        have h5 : m + 1 + x.hs.length + x.ts.length ≤ 4611686018427387904 := by omega
        generalize hm2 : m + 1 + x.hs.length = m2 at *
        have h4 : ¬ (m2 : Int) < 0 := by omega
        have HM2 := hid hm2
        have HMT := hid hmt
        have H5 := hid h5
        have H6 : Hid (0 < m2) := by show 0 < m2; omega
        clear hm2 hmt hsz h5 hm1 hm0
        go_wp2_with fail
        have h5 := H5.out
        have h6 := H6.out
        refine (heldStringS w2 x.ta x.ts.length x.tc m2 HI3.out (by omega) (by omega)).mono ?_
        rintro e w3 ⟨rfl, b3⟩
        have HB3 := hid (HB2.out.trans (b3.mono HB2.out.size))
        clear b3 d2
        generalize hm3 : m2 + x.ts.length = m3 at *
        have HM3 := hid hm3
        clear hm3
        go_wp2
        refine ⟨⟨P ++ [x], Q', n + 1, m3, by omega, by go_num, rfl, ?_, ?_, ?_, HB3⟩, by simp [intOf]; omega⟩
        · rw [Hid, HL.out, List.append_assoc]; rfl
        · rw [Hid, List.length_append, HN.out]; rfl
        · rw [Hid, totPv_append, ← HM3.out, ← HM2.out, HM.out]; simp only [totPv, Pv.sz]; omega
      | false =>
        rw [hq] at c0
        go_wp2_with fail
        refine (heldBoolS wr x.ha x.hs.length x.hc (m + 1) HI1.out (by omega)).mono ?_
        rintro e w2 ⟨rfl, b2⟩
        have d2 := hC2.out w2 b2
        have HB2 := hid (HB.out.trans (b2.mono HB.out.size))
        have HI3 := hid (HI2.out.below b2)
        clear b2 c0 c1 c2 hq
        have h5 : m + 1 + x.hs.length + x.ts.length ≤ 4611686018427387904 := by omega
        generalize hm2 : m + 1 + x.hs.length = m2 at *
        have h4 : ¬ (m2 : Int) < 0 := by omega
        have HM2 := hid hm2
        have HMT := hid hmt
        have H5 := hid h5
        have H6 : Hid (0 < m2) := by show 0 < m2; omega
        clear hm2 hmt hsz h5 hm1 hm0
        go_wp2_with fail
        have h5 := H5.out
        have h6 := H6.out
        refine (heldStringS w2 x.ta x.ts.length x.tc m2 HI3.out (by omega) (by omega)).mono ?_
        rintro e w3 ⟨rfl, b3⟩
        have HB3 := hid (HB2.out.trans (b3.mono HB2.out.size))
        clear b3 d2
        generalize hm3 : m2 + x.ts.length = m3 at *
        have HM3 := hid hm3
        clear hm3
        go_wp2
        refine ⟨⟨P ++ [x], Q', n + 1, m3, by omega, by go_num, rfl, ?_, ?_, ?_, HB3⟩, by simp [intOf]; omega⟩
        · rw [Hid, HL.out, List.append_assoc]; rfl
        · rw [Hid, List.length_append, HN.out]; rfl
        · rw [Hid, totPv_append, ← HM3.out, ← HM2.out, HM.out]; simp only [totPv, Pv.sz]; omega
    · obtain rfl : n = L.length := by omega
      have hQ : Q = [] := by
        have h1 := congrArg List.length HL.out
        have h2 := HN.out
        rw [List.length_append] at h1
        exact List.eq_nil_of_length_eq_zero (by omega)
      have HP : Hid (P = L) := by
        have h1 := HL.out
        rw [hQ, List.append_nil] at h1
        exact h1.symm
      clear hQ
      go_wp2
      go_ret
      refine ⟨?_, HB.out⟩
      rw [HM.out, HP.out]; rfl

set_option maxRecDepth 100000 in
set_option maxHeartbeats 2000000 in
theorem markPool (w : World) (B : Nat) (a : Option Addr) (cap k : Nat) (L : List Pv) (S : PvsW w B a L) (hk : 0 < k) (hb : k + totPv L ≤ 4611686018427387904) (hl : L.length ≤ 1048576) :
    Calls Try.prog 11 #[plV a L.length cap, .int .i64 (k : Int)] w fun e w' => e = .returned (.int .i64 ((k + totPv L : Nat) : Int)) ∧ PvsW w' B a (marksPv L k) ∧ Kept (pfoot a L) w w' := by
  unfold plV
  have HS := hid S
  have HT := hid hb
  have HL := hid hl
  clear S hb hl
  go_enter Try.func11, Try.ntmps11
  go_wp2_with fail
  obtain ⟨wa, hwa, ez, A0, B0⟩ := one_new w [.slice a L.length cap] 26
  simp only [hwa]
  clear hwa ez A0
  have HB := hid B0
  clear B0
  refine (markPVolS wa B a cap k L (HS.out.below HB.out) hk HT.out HL.out).mono ?_
  rintro r w1 ⟨rfl, S1, K1⟩
  have HS1 := hid S1
  have HK1 : Hid (Kept (pfoot a L) w w1) := ((Kept.of_below (S := fun _ => False) HB.out).trans K1).mono (fun b _ h => by
    rcases h with h | h
    · exact h.elim
    · exact h)
  clear S1 K1
  go_wp2
  go_ret
  exact ⟨rfl, HS1.out, HK1.out⟩

set_option maxRecDepth 100000 in
set_option maxHeartbeats 2000000 in
theorem heldPool (w : World) (a : Option Addr) (cap k : Nat) (L : List Pv) (S : Pvs w a (marksPv L k)) (hk : 0 < k) (hb : k + totPv L ≤ 4611686018427387904) (hl : L.length ≤ 1048576) :
    Calls Try.prog 12 #[plV a L.length cap, .int .i64 (k : Int)] w fun e w' => e = .returned (.int .i64 ((k + totPv L : Nat) : Int)) ∧ Below w.heap.size w w' := by
  unfold plV
  have HS := hid S
  have HT := hid hb
  have HL := hid hl
  clear S hb hl
  go_enter Try.func12, Try.ntmps12
  go_wp2_with fail
  obtain ⟨wa, hwa, ez, A0, B0⟩ := one_new w [.slice a L.length cap] 26
  simp only [hwa]
  clear hwa ez A0
  have HB := hid B0
  clear B0
  refine (heldPVolS wa a cap k L (HS.out.below HB.out) hk HT.out HL.out).mono ?_
  rintro r w1 ⟨rfl, b1⟩
  have HB1 := hid (HB.out.trans (b1.mono HB.out.size))
  clear b1
  have h0 : ¬ ((k + totPv L : Nat) : Int) < 0 := by omega
  go_wp2
  go_ret
  exact ⟨rfl, HB1.out⟩

end Go.Proofs.Ytbnpnhcegoanmaa.Pl
