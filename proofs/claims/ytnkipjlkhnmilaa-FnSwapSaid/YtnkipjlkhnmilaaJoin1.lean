/-
  What impl.Peek must do; and sizes that the laws look at. No condition.
  The walk of spec.Swap: what it makes of a disk, in rows of its own. No condition but sizes.
  Plain: what a swap makes of a disk, and what a second one answers. No condition.
  The walk of laws.big: a code that is too long. No condition but that the length is one.
  The walks of laws.sameTexts and laws.sameInts: two lists are the same. No condition but sizes.
  The walk of laws.sameDisk: two disks are the same. No condition but sizes.
  The walks of impl.isHost, impl.fitsSector, impl.isSector and impl.DiskOk: each answers what it should, and nothing that was there is changed. No condition.
  The walk of impl.refusal: the first reason against a call of a host. No condition but three epochs.
  A map of queues that a call has made: what it holds, key by key. No condition.
  The walk of impl.queuesOf: at each host and sector the numbers of its writes, in their order. No condition but a list of at most 40 writes of hosts and sectors in range.
  A region that draws its order, whose operations read and whose callees read or lay new blocks alone, walked once. No condition.
  The walk of impl.DiskOk: it answers whether the disk is right, and nothing that was there is changed. No condition.
  The walk of impl.Peek: it answers as spec.Peek does, and nothing that was there is changed. No condition.
  The walk of impl.copyDisk: the same disk, in rows of its own. No condition but lengths of at most 2^20.
  What a function of chapter 3 keeps in memory while it makes its answer: the argument's box, the result's block, its own disk with its box. No condition.
  The walk of impl.Swap: it answers as spec.Swap does, in rows of its own. No condition but sizes.
-/
import Derived.Test.YtnkipjlkhnmilaaDiskPeek
import Derived.Test.YtnkipjlkhnmilaaSzDisk
import Derived.Test.YtnkipjlkhnmilaaDkSwap
import Derived.Test.YtnkipjlkhnmilaaWrapEnd
import Derived.Test.YtnkipjlkhnmilaaRightHeld
import Derived.Test.YtnkipjlkhnmilaaSomeParts
import Derived.Test.YtnkipjlkhnmilaaEqDisk
import Derived.Outline
import Derived.Deep.QuietTactic
import Derived.BigQuiet
import Derived.Test.YtnkipjlkhnmilaaEqDisk2
import Derived.Test.YtnkipjlkhnmilaaAppRow
import Derived.Test.YtnkipjlkhnmilaaDkCopy
import Derived.Maps.OwnSet
import Derived.Maps.Ext
import Derived.WideKeyEntry
import Derived.DeepKeys4
import Derived.Test.YtnkipjlkhnmilaaDkPut
import Derived.Test.YtnkipjlkhnmilaaMem
import Derived.Test.YtnkipjlkhnmilaaDiskOk
import Derived.Test.YtnkipjlkhnmilaaDkLand
import Derived.Test.YtnkipjlkhnmilaaDkFence
namespace Go.Proofs.Ytnkipjlkhnmilaa.Mem
open Go.RowKit
set_option linter.unusedVariables false

/-- What impl.Peek must do. -/
def PeekDoes : Prop := ∀ (w : World) (v : Value) (D : Dk) (x s : Int), DkR w v D → D.Held → D.Small 1048576 →
  Calls Try.prog 14 #[v, .int .i64 x, .int .i64 s] w fun e w' => e = .returned (.tuple #[.string (D.peek x s).1, .bool (D.peek x s).2]) ∧ Below w.heap.size w w'

theorem Dk.Small.c1 {D : Dk} (h : D.Small 1048576) : D.sec.length ≤ 1048576 := by have := h.h1; omega
theorem Dk.Small.c2 {D : Dk} (h : D.Small 1048576) : D.ep.length ≤ 1048576 := by have := h.h2; omega
theorem Dk.Small.c3 {D : Dk} (h : D.Small 1048576) : D.pe.length ≤ 1048576 := by have := h.h3; omega

end Go.Proofs.Ytnkipjlkhnmilaa.Mem

namespace Go.Proofs.Ytnkipjlkhnmilaa.Mem
open Go.RowKit Classical
set_option linter.unusedVariables false

/-- What Swap answers. -/
def Dk.swapA (D : Dk) (x ep s : Int) (old t : ByteArray) : Dk × Int := if D.right = true then D.swap x ep s old t else (Dk.nil, 1)

set_option maxRecDepth 100000 in
set_option maxHeartbeats 2000000 in
theorem specSwap (w : World) (v : Value) (D : Dk) (x ep s : Int) (old t : ByteArray) (h : DkR w v D) (hd : D.Held) (hs : D.Small 1048576) (ht : t.size ≤ maxLen) (hold : old.size ≤ maxLen) :
    Calls Try.prog 25 #[v, .int .i64 x, .int .i64 ep, .int .i64 s, .string old, .string t] w fun e w' => ∃ v', e = .returned (.tuple #[v', .int .i64 (D.swapA x ep s old t).2]) ∧ DkW w' w.heap.size v' (D.swapA x ep s old t).1 ∧ Below w.heap.size w w' := by
  have HH := hid h
  have HD := hid hd
  have HS := hid hs
  obtain ⟨a1, c1, a2, c2, a3, c3, rfl, _, _, _⟩ := h
  clear hd hs
  obtain ⟨wb, hwb, ez, A0, R0, B0⟩ := two_new w [.slice a1 D.sec.length c1, .slice a2 D.ep.length c2, .slice a3 D.pe.length c3] [.slice none 0 0, .slice none 0 0, .slice none 0 0] 28 28
  have k0 := A0.c 0 rfl
  have k1 := A0.c 1 rfl
  have k2 := A0.c 2 rfl
  go_enter Try.func25, Try.ntmps25
  go_wp2_with fail
  refine (diskOk wb _ D (HH.out.below B0) HD.out).mono ?_
  rintro e w1 ⟨rfl, b1⟩
  have HA := hid (A0.below b1 A0.lt)
  have HR := hid (R0.below b1 R0.lt)
  have HB := hid (B0.trans (b1.mono B0.size))
  clear A0 R0 B0 b1 hwb ez k0 k1 k2
  have m0 := HR.out.c 0 rfl
  have m1 := HR.out.c 1 rfl
  have m2 := HR.out.c 2 rfl
  have f0 := HR.out.f 0
  have f1 := HR.out.f 1
  have f2 := HR.out.f 2
  by_cases hr : ¬ D.right = true
  · have HP : Hid (D.swapA x ep s old t = (Dk.nil, 1)) := if_neg hr
    have hr' : D.right = false := by simpa using hr
    clear hr
    have E := hid (wrap_bad HB.out HR.out)
    go_wp2
    refine bodyPost_ret (results_row2 rfl _ _ (w.heap.size + 1) [.slice none 0 0, .slice none 0 0, .slice none 0 0] _ rfl E.out.2.2 Try.underlying28 rfl (by kernel_rfl)) rfl ?_
    rw [HP.out]
    exact ⟨_, rfl, E.out.1, E.out.2.1⟩
  replace hr := Classical.not_not.mp hr
  have HP : Hid (D.swapA x ep s old t = D.swap x ep s old t) := if_pos hr
  have HT := hid (Dk.of_right hr)
  have k0 := HA.out.c 0 rfl
  have k1 := HA.out.c 1 rfl
  have k2 := HA.out.c 2 rfl
  go_wp2_with fail
  refine (l3Copy w1 _ D (HH.out.below HB.out) HS.out.c1 HS.out.c2 HS.out.c3).mono ?_
  rintro e w2 ⟨v2, rfl, O2, b2⟩
  have HB2 := hid b2.size
  have HL := hid HR.out.lt
  have HR2 := hid (HR.out.below b2 HR.out.lt)
  have HB3 := hid (HB.out.trans (b2.mono HB.out.size))
  have HO2 := hid O2
  clear m0 m1 m2 f0 f1 f2 k0 k1 k2 O2 b2 HA HR
  go_wp2_with fail
  refine (l3Swap w2 w1.heap.size v2 D x ep s old t HO2.out HB2.out HT.out.fit HD.out ht hold).mono ?_
  rintro e w3 ⟨v3, rfl, O3, b3⟩
  have HO3 := hid O3
  have HR3 := hid (HR2.out.below b3 HL.out)
  have HB4 := hid (HB3.out.trans (b3.mono HB.out.size))
  generalize D.swap x ep s old t = P at *
  obtain ⟨u1, u2, u3, rfl, r1, r2, r3, _, _⟩ := O3
  obtain ⟨p1, q1, e1, _⟩ := r1.wr
  obtain ⟨p2, q2, e2, _⟩ := r2.wr
  obtain ⟨p3, q3, e3, _⟩ := r3.wr
  subst e1; subst e2; subst e3
  clear r1 r2 r3 b3 HR2 HO2
  obtain ⟨wx, hwx, ex, X0, Bx⟩ := one_new w3 [.slice p1 P.1.sec.length q1, .slice p2 P.1.ep.length q2, .slice p3 P.1.pe.length q3] 28
  have x0 := X0.c 0 rfl
  have x1 := X0.c 1 rfl
  have x2 := X0.c 2 rfl
  have HRx := hid (HR3.out.below Bx HR3.out.lt)
  have m0 := HRx.out.c 0 rfl
  have m1 := HRx.out.c 1 rfl
  have m2 := HRx.out.c 2 rfl
  have f0 := HRx.out.f 0
  have f1 := HRx.out.f 1
  have f2 := HRx.out.f 2
  have E := hid (wrap_end HL.out HB4.out HO3.out Bx HRx.out)
  clear ex X0 Bx HO3
  go_wp2
  refine bodyPost_ret (results_row2 rfl _ _ (w.heap.size + 1) [.slice p1 P.1.sec.length q1, .slice p2 P.1.ep.length q2, .slice p3 P.1.pe.length q3] _ rfl E.out.2.2 Try.underlying28 rfl (by kernel_rfl)) rfl ?_
  rw [HP.out]
  exact ⟨_, rfl, E.out.1, E.out.2.1⟩

end Go.Proofs.Ytnkipjlkhnmilaa.Mem

namespace Go.Proofs.Ytnkipjlkhnmilaa.Mem
open Go.RowKit
set_option linter.unusedVariables false

theorem swapA_no {D : Dk} (h : D.right = false) (x e s : Int) (o t : ByteArray) : D.swapA x e s o t = (Dk.nil, 1) := by unfold Dk.swapA; rw [h]; rfl
theorem swapA_yes {D : Dk} (h : D.right = true) (x e s : Int) (o t : ByteArray) : D.swapA x e s o t = D.swap x e s o t := by unfold Dk.swapA; rw [h]; rfl

/-- Refused: as it was. -/
theorem swap_refused {D : Dk} {x e s : Int} {o t : ByteArray} (h : ¬ (D.swapA x e s o t).2 = 0) (hr : D.right = true) : (D.swapA x e s o t).1 = D := by
  rw [swapA_yes hr] at h ⊢
  unfold Dk.swap at h ⊢
  split
  · split
    · split
      · rename_i h1 h2 h3
        rw [if_pos h1, if_pos h2, if_pos h3] at h
        exact absurd rfl h
      · rfl
    · rfl
  · rfl

/-- Done: who it was, and what it is then. -/
theorem swap_done {D : Dk} {x e s : Int} {o t : ByteArray} (h : (D.swapA x e s o t).2 = 0) : D.Right ∧ ∃ n y : Nat, x = (n : Int) ∧ n < 3 ∧ s = (y : Int) ∧ y < D.sec.length ∧ o.size ≤ 700 ∧ t.size ≤ 700 ∧ (D.swapA x e s o t).1 = ⟨D.sec.set y t, D.ep, D.pe⟩ := by
  have hr : D.right = true := by
    cases q : D.right with
    | true => rfl
    | false => rw [swapA_no q] at h; exact absurd h (by decide)
  rw [swapA_yes hr] at h ⊢
  unfold Dk.swap at h ⊢
  split at h
  · rename_i h1
    split at h
    · rename_i h2
      split at h
      · rename_i h3
        obtain ⟨n, rfl⟩ : ∃ n : Nat, x = (n : Int) := ⟨x.toNat, by omega⟩
        obtain ⟨y, rfl⟩ : ∃ y : Nat, s = (y : Int) := ⟨s.toNat, by omega⟩
        refine ⟨Dk.of_right hr, n, y, rfl, by omega, rfl, by omega, by omega, by omega, ?_⟩
        rw [if_pos h1, if_pos h2, if_pos h3, Int.toNat_natCast]
      · exact absurd (show (4 : Int) = 0 from h) (by decide)
    · exact absurd (show (2 : Int) = 0 from h) (by decide)
  · exact absurd (show (1 : Int) = 0 from h) (by decide)

/-- Another one that swaps the same text is refused, where the text is another one by now. -/
theorem swap_again {X : Dk} (hr : X.Right) {m y : Nat} (hm : m < 3) (hy : y < X.sec.length) {o t u : ByteArray} (hs : X.sec.getD y ByteArray.empty = t) (hne : ¬ o = t) (ho : o.size ≤ 700) (hu : u.size ≤ 700) :
    (X.swapA (m : Int) (X.ep.getD m 0) (y : Int) o u).2 = 4 := by
  rw [swapA_yes (Dk.right_yes hr)]
  unfold Dk.swap
  rw [if_pos ⟨⟨⟨by omega, by omega⟩, by omega, by omega⟩, by omega, by omega⟩, Int.toNat_natCast, if_pos rfl, Int.toNat_natCast, if_neg (fun h => hne (by rw [← h.1, hs]))]

end Go.Proofs.Ytnkipjlkhnmilaa.Mem

namespace Go.Proofs.Ytnkipjlkhnmilaa.Mem
open Go.RowKit
set_option linter.unusedVariables false

set_option maxRecDepth 100000 in
set_option maxHeartbeats 1000000 in
theorem bigL (w : World) (a : Option Addr) (len cap : Nat) (hl : len ≤ maxLen) :
    Calls Try.prog 8 #[.slice a len cap] w fun e w' => e = .returned (.bool (decide (1048576 < (len : Int)))) ∧ w' = w := by
  have hl' : (len : Int) ≤ 9223372036854775807 := by unfold maxLen at hl; omega
  by_cases g : 1048576 < (len : Int)
  · rw [decide_eq_true g]
    go_enter Try.func8, Try.ntmps8
    go_wp2
    go_ret
    exact ⟨rfl, rfl⟩
  · rw [decide_eq_false g]
    go_enter Try.func8, Try.ntmps8
    go_wp2
    go_ret
    exact ⟨rfl, rfl⟩

end Go.Proofs.Ytnkipjlkhnmilaa.Mem

namespace Go.Proofs.Ytnkipjlkhnmilaa.Mem
open Go.RowKit
set_option linter.unusedVariables false

set_option maxRecDepth 100000 in
set_option maxHeartbeats 1000000 in
theorem sameTexts (w : World) (a b : Option Addr) (ca cb : Nat) (l m : List ByteArray) (S : Strs w a l) (T : Strs w b m) (hl : l.length ≤ maxLen) (hm : m.length ≤ maxLen) :
    Calls Try.prog 23 #[.slice a l.length ca, .slice b m.length cb] w fun e w' => e = .returned (.bool (decide (l = m))) ∧ Below w.heap.size w w' := by
  unfold maxLen at hl hm
  have HS := hid S
  have HT := hid T
  clear S T
  by_cases hne : l.length = m.length
  · have Hne := hid hne
    rw [← hne]
    clear hne hm
    generalize hq : decide (l = m) = q
    have HQ := hid hq
    clear hq
    go_enter Try.func23, Try.ntmps23
    go_wp2
    go_loopw [5] (fun i wr => ∃ k : Nat, k ≤ l.length ∧ i = .int .i64 (k : Int) ∧ Hid (∀ j, j < k → l.getD j ByteArray.empty = m.getD j ByteArray.empty) ∧ Hid (Below w.heap.size w wr)) (fun i _ => l.length - (intOf i).toNat)
    case atStart => exact ⟨0, Nat.zero_le _, rfl, fun j hj => by omega, Below.refl _ _⟩
    case round =>
      obtain ⟨k, hk, rfl, HJ, HB⟩ := hrel
      by_cases hlt : k < l.length
      · obtain ⟨b1, o1, rfl, hc1⟩ := (HS.out.below HB.out) k hlt
        obtain ⟨b2, o2, rfl, hc2⟩ := (HT.out.below HB.out) k (Hne.out ▸ hlt)
        replace hc1 : wr.cell? ⟨b1, o1 + k, none⟩ = some (.string (l.getD k ByteArray.empty)) := hc1
        replace hc2 : wr.cell? ⟨b2, o2 + k, none⟩ = some (.string (m.getD k ByteArray.empty)) := hc2
        generalize hx : l.getD k ByteArray.empty = x at hc1
        generalize hy : m.getD k ByteArray.empty = y at hc2
        have HX := hid hx
        have HY := hid hy
        clear hx hy
        by_cases he : x = y
        · have he' := Own.eqS_yes he
          have HE := hid he
          clear he
          go_wp2
          go_quiet (fail)
          go_wp2
          exact ⟨⟨k + 1, by omega, by go_num, fun j hj => by
            by_cases h : j = k
            · subst h; rw [HX.out, HY.out]; exact HE.out
            · exact HJ.out j (by omega), below_drewN HB.out nq⟩, by simp [intOf]; omega⟩
        · have he' := Own.eqS_no he
          have HE := hid he
          clear he
          go_wp2
          go_quiet (fail)
          go_wp2
          go_ret
          refine ⟨?_, below_drewN HB.out nq⟩
          rw [← HQ.out, decide_eq_false (fun e => HE.out (by rw [← HX.out, ← HY.out, e]))]
          rfl
      · obtain rfl : k = l.length := by omega
        go_wp2
        go_ret
        refine ⟨?_, HB.out⟩
        rw [← HQ.out, decide_eq_true (getD_ext ByteArray.empty Hne.out HJ.out)]
        rfl
  · have hne' : ¬ (l.length : Int) = (m.length : Int) := by omega
    have HQ := hid (decide_eq_false (p := l = m) (fun e => hne (by rw [e])))
    rw [HQ.out]
    go_enter Try.func23, Try.ntmps23
    go_wp2
    go_ret
    exact ⟨rfl, Below.refl _ _⟩

set_option maxRecDepth 100000 in
set_option maxHeartbeats 1000000 in
theorem sameInts (w : World) (a b : Option Addr) (ca cb : Nat) (l m : List Int) (S : Ints w a l) (T : Ints w b m) (hl : l.length ≤ maxLen) (hm : m.length ≤ maxLen) :
    Calls Try.prog 41 #[.slice a l.length ca, .slice b m.length cb] w fun e w' => e = .returned (.bool (decide (l = m))) ∧ Below w.heap.size w w' := by
  unfold maxLen at hl hm
  have HS := hid S
  have HT := hid T
  clear S T
  by_cases hne : l.length = m.length
  · have Hne := hid hne
    rw [← hne]
    clear hne hm
    generalize hq : decide (l = m) = q
    have HQ := hid hq
    clear hq
    go_enter Try.func41, Try.ntmps41
    go_wp2
    go_loopw [5] (fun i wr => ∃ k : Nat, k ≤ l.length ∧ i = .int .i64 (k : Int) ∧ Hid (∀ j, j < k → l.getD j 0 = m.getD j 0) ∧ Hid (Below w.heap.size w wr)) (fun i _ => l.length - (intOf i).toNat)
    case atStart => exact ⟨0, Nat.zero_le _, rfl, fun j hj => by omega, Below.refl _ _⟩
    case round =>
      obtain ⟨k, hk, rfl, HJ, HB⟩ := hrel
      by_cases hlt : k < l.length
      · obtain ⟨b1, o1, rfl, hc1⟩ := (HS.out.below HB.out) k hlt
        obtain ⟨b2, o2, rfl, hc2⟩ := (HT.out.below HB.out) k (Hne.out ▸ hlt)
        replace hc1 : wr.cell? ⟨b1, o1 + k, none⟩ = some (.int .i64 (l.getD k 0)) := hc1
        replace hc2 : wr.cell? ⟨b2, o2 + k, none⟩ = some (.int .i64 (m.getD k 0)) := hc2
        generalize hx : l.getD k 0 = x at hc1
        generalize hy : m.getD k 0 = y at hc2
        have HX := hid hx
        have HY := hid hy
        clear hx hy
        by_cases he : x = y
        · have HE := hid he
          go_wp2
          go_quiet (fail)
          go_wp2
          exact ⟨⟨k + 1, by omega, by go_num, fun j hj => by
            by_cases h : j = k
            · subst h; rw [HX.out, HY.out]; exact HE.out
            · exact HJ.out j (by omega), below_drewN HB.out nq⟩, by simp [intOf]; omega⟩
        · have HE := hid he
          go_wp2
          go_quiet (fail)
          go_wp2
          go_ret
          refine ⟨?_, below_drewN HB.out nq⟩
          rw [← HQ.out, decide_eq_false (fun e => HE.out (by rw [← HX.out, ← HY.out, e]))]
          rfl
      · obtain rfl : k = l.length := by omega
        go_wp2
        go_ret
        refine ⟨?_, HB.out⟩
        rw [← HQ.out, decide_eq_true (getD_ext 0 Hne.out HJ.out)]
        rfl
  · have hne' : ¬ (l.length : Int) = (m.length : Int) := by omega
    have HQ := hid (decide_eq_false (p := l = m) (fun e => hne (by rw [e])))
    rw [HQ.out]
    go_enter Try.func41, Try.ntmps41
    go_wp2
    go_ret
    exact ⟨rfl, Below.refl _ _⟩

end Go.Proofs.Ytnkipjlkhnmilaa.Mem

namespace Go.Proofs.Ytnkipjlkhnmilaa.Mem
open Go.RowKit Classical
set_option linter.unusedVariables false

theorem wt_eq {x y : Wt} (a : x.host = y.host) (b : x.epoch = y.epoch) (c : x.sector = y.sector) (d : x.text = y.text) : x = y := by
  cases x; cases y; simp_all
theorem text_inj {x y : ByteArray} (h : x.toList = y.toList) : x = y := by
  rw [ByteArray.toList_eq, ByteArray.toList_eq] at h
  exact ByteArray.ext (Array.toList_inj.1 h)

set_option maxRecDepth 100000 in
set_option maxHeartbeats 1000000 in
theorem sameDisk (w : World) (v u : Value) (D E : Dk) (h : DkR w v D) (k : DkR w u E) (hd : D.Held) (he : E.Held) :
    Calls Try.prog 12 #[v, u] w fun e w' => e = .returned (.bool (decide (D = E))) ∧ Below w.heap.size w w' := by
  obtain ⟨a1, c1, a2, c2, a3, c3, rfl, s1, s2, s3⟩ := h
  obtain ⟨b1, d1, b2, d2, b3, d3, rfl, t1, t2, t3⟩ := k
  obtain ⟨l1, l2, l3⟩ := D
  obtain ⟨m1, m2, m3⟩ := E
  generalize hq : decide (Dk.mk l1 l2 l3 = Dk.mk m1 m2 m3) = q
  have HQ := hid hq
  have HS1 := hid s1
  have HS2 := hid s2
  have HS3 := hid s3
  have HT1 := hid t1
  have HT2 := hid t2
  have HT3 := hid t3
  have HD := hid hd
  have HE := hid he
  clear s1 s2 s3 t1 t2 t3 hd he hq
  simp only []
  go_enter Try.func12, Try.ntmps12
  go_wp2_with fail
  obtain ⟨wc, hwc, _, A0, R0, B0⟩ := two_new w [.slice a1 l1.length c1, .slice a2 l2.length c2, .slice a3 l3.length c3] [.slice b1 m1.length d1, .slice b2 m2.length d2, .slice b3 m3.length d3] 28 28
  simp only [hwc]
  clear hwc
  refine (sameTexts wc a1 b1 c1 d1 l1 m1 (HS1.out.below B0) (HT1.out.below B0) HD.out.h1 HE.out.h1).mono ?_
  rintro e w1 ⟨rfl, hb1⟩
  replace A0 := A0.below hb1 A0.lt
  replace R0 := R0.below hb1 R0.lt
  replace B0 := B0.trans (hb1.mono B0.size)
  by_cases h1 : ¬ l1 = m1
  · have h1' := decide_eq_false h1
    have HX := hid (HQ.out.symm.trans (decide_eq_false (fun e => h1 (by injection e))))
    have HB := hid B0
    clear h1 A0 R0 B0 hb1 HQ
    go_wp2
    go_ret
    exact ⟨by rw [HX.out]; rfl, HB.out⟩
  replace h1 := Classical.not_not.mp h1
  have h1' := decide_eq_true h1
  have H1 := hid h1
  have ca := A0.c 1 rfl
  have cb := R0.c 1 rfl
  have HA := hid A0
  have HR := hid R0
  have HB := hid B0
  clear h1 A0 R0 B0 hb1
  go_wp2_with fail
  refine (sameInts w1 a2 b2 c2 d2 l2 m2 (HS2.out.below HB.out) (HT2.out.below HB.out) HD.out.h2 HE.out.h2).mono ?_
  rintro e w2 ⟨rfl, hb2⟩
  have A0 := HA.out.below hb2 HA.out.lt
  have R0 := HR.out.below hb2 HR.out.lt
  have B0 := HB.out.trans (hb2.mono HB.out.size)
  clear HA HR HB ca cb
  by_cases h2 : ¬ l2 = m2
  · have h2' := decide_eq_false h2
    have HX := hid (HQ.out.symm.trans (decide_eq_false (fun e => h2 (by injection e))))
    have HB := hid B0
    clear h2 A0 R0 B0 hb2 HQ
    go_wp2
    go_ret
    exact ⟨by rw [HX.out]; rfl, HB.out⟩
  replace h2 := Classical.not_not.mp h2
  have h2' := decide_eq_true h2
  have H2 := hid h2
  have HA := hid A0
  have HR := hid R0
  have HB := hid B0
  have ca := A0.c 2 rfl
  have cb := R0.c 2 rfl
  have d3 : l3.length ≤ 9223372036854775807 := HD.out.h3
  have e3 : m3.length ≤ 9223372036854775807 := HE.out.h3
  clear h2 A0 R0 B0 hb2
  by_cases h3 : ¬ l3.length = m3.length
  · have HX := hid (HQ.out.symm.trans (decide_eq_false (fun e => h3 (by injection e with _ _ e; rw [e]))))
    have h3a : ¬ (l3.length : Int) = (m3.length : Int) := by omega
    clear HQ
    go_wp2
    go_ret
    exact ⟨by rw [HX.out]; rfl, HB.out⟩
  replace h3 := Classical.not_not.mp h3
  have h3a : (l3.length : Int) = (m3.length : Int) := by omega
  have HS3' := hid (HS3.out.below HB.out)
  have HT3' := hid (HT3.out.below HB.out)
  clear HS3 HT3 HS1 HS2 HT1 HT2 ca cb
  have ca := HA.out.c 2 rfl
  have cb := HR.out.c 2 rfl
  go_wp2_with fail
  go_loopw [5] (fun i wr => ∃ k : Nat, k ≤ l3.length ∧ i = .int .i64 (k : Int) ∧ Hid (∀ j, j < k → l3.getD j Wt.none = m3.getD j Wt.none) ∧ Hid (Below w2.heap.size w2 wr)) (fun i _ => l3.length - (intOf i).toNat)
  case atStart => exact ⟨0, Nat.zero_le _, rfl, fun j hj => by omega, Below.refl _ _⟩
  case round =>
    clear ca cb
    obtain ⟨k, hk, rfl, HP, HBr⟩ := hrel
    have HA3 := hid (HA.out.below HBr.out HA.out.lt)
    have HR3 := hid (HR.out.below HBr.out HR.out.lt)
    have ca := HA3.out.c 2 rfl
    have cb := HR3.out.c 2 rfl
    by_cases hlt : k < l3.length
    · obtain ⟨p3, o3, rfl, x0, x1, x2, x3⟩ := Wts.at_ (HS3'.out.below HBr.out) k hlt
      obtain ⟨q3, r3, rfl, y0, y1, y2, y3⟩ := Wts.at_ (HT3'.out.below HBr.out) k (by omega)
      have hkm : (k : Int) < (m3.length : Int) := by omega
      have hkl : (k : Int) < (l3.length : Int) := by omega
      generalize hx : l3.getD k Wt.none = x at x0 x1 x2 x3
      generalize hy : m3.getD k Wt.none = y at y0 y1 y2 y3
      have HX := hid hx
      have HY := hid hy
      clear hx hy
      have HF : Hid (¬ x = y → q = false) := fun h => HQ.out.symm.trans (decide_eq_false (fun e => h (by injection e with _ _ e; rw [← HX.out, ← HY.out, e])))
      have HBe := hid (((HB.out.trans (HBr.out.mono HB.out.size))).drew)
      by_cases N : ¬ x.host = y.host
      · have HN := hid (HF.out (fun e => N (by rw [e])))
        clear HQ
        go_wp2_with fail
        go_region
        go_wp2
        go_ret
        exact ⟨by rw [HN.out]; rfl, HBe.out⟩
      replace N := Classical.not_not.mp N
      have n1 := N
      by_cases N : ¬ x.epoch = y.epoch
      · have HN := hid (HF.out (fun e => N (by rw [e])))
        clear HQ
        go_wp2_with fail
        go_region
        go_wp2
        go_ret
        exact ⟨by rw [HN.out]; rfl, HBe.out⟩
      replace N := Classical.not_not.mp N
      have n2 := N
      by_cases N : ¬ x.sector = y.sector
      · have HN := hid (HF.out (fun e => N (by rw [e])))
        clear HQ
        go_wp2_with fail
        go_region
        go_wp2
        go_ret
        exact ⟨by rw [HN.out]; rfl, HBe.out⟩
      replace N := Classical.not_not.mp N
      have n3 := N
      by_cases N : ¬ x.text = y.text
      · have N' : ¬ x.text.toList = y.text.toList := fun e => N (text_inj e)
        have HN := hid (HF.out (fun e => N (by rw [e])))
        clear HQ
        go_wp2_with fail
        go_region
        go_wp2
        go_ret
        exact ⟨by rw [HN.out]; rfl, HBe.out⟩
      replace N := Classical.not_not.mp N
      have HS := hid (wt_eq n1 n2 n3 N)
      go_wp2_with fail
      go_region
      go_wp2
      exact ⟨⟨k + 1, by omega, by go_num, fun j hj => by rcases Nat.lt_or_ge j k with h | h; exact HP.out j h; rw [show j = k by omega, HX.out, HY.out]; exact HS.out, HBr.out.drew⟩, by simp [intOf]; omega⟩
    have HN := hid (HQ.out.symm.trans (decide_eq_true (show Dk.mk l1 l2 l3 = Dk.mk m1 m2 m3 by rw [H1.out, H2.out, getD_ext Wt.none h3 (fun j hj => HP.out j (by omega))])))
    have HBe := hid (HB.out.trans (HBr.out.mono HB.out.size))
    clear HQ
    go_wp2
    go_ret
    exact ⟨by rw [HN.out]; rfl, HBe.out⟩

end Go.Proofs.Ytnkipjlkhnmilaa.Mem

namespace Go.Proofs.Ytnkipjlkhnmilaa.Mem
open Go.RowKit
set_option linter.unusedVariables false

set_option maxHeartbeats 400000 in
theorem isHost (x : Int) (w : World) :
    Calls Try.prog 44 #[.int .i64 x] w fun e w' => e = .returned (.bool (decide (0 ≤ x ∧ x < 3))) ∧ w' = w := by
  by_cases h1 : 0 ≤ x
  · by_cases h2 : x < 3
    · rw [decide_eq_true (And.intro h1 h2)]
      go_enter Try.func44, Try.ntmps44
      go_wp2
      go_ret
      exact ⟨rfl, rfl⟩
    · rw [decide_eq_false (fun h => h2 h.2)]
      go_enter Try.func44, Try.ntmps44
      go_wp2
      go_ret
      exact ⟨rfl, rfl⟩
  · rw [decide_eq_false (fun h => h1 h.1)]
    go_enter Try.func44, Try.ntmps44
    go_wp2
    go_ret
    exact ⟨rfl, rfl⟩

set_option maxHeartbeats 400000 in
theorem fitsSector (t : ByteArray) (w : World) :
    Calls Try.prog 54 #[.string t] w fun e w' => e = .returned (.bool (decide ((t.size : Int) ≤ 700))) ∧ w' = w := by
  go_enter Try.func54, Try.ntmps54
  go_wp2
  go_ret
  exact ⟨rfl, rfl⟩

set_option maxHeartbeats 400000 in
theorem isSector (w : World) (v1 v2 v3 : Value) (a : Option Addr) (n c : Nat) (hv : v1 = .slice a n c) (x : Int) :
    Calls Try.prog 45 #[.agg #[v1, v2, v3], .int .i64 x] w fun e w' => e = .returned (.bool (decide (0 ≤ x ∧ x < (n : Int)))) ∧ Below w.heap.size w w' := by
  subst hv
  have B0 := ((Below.refl w.heap.size w).alloc (Nat.le_refl _) (.cells #[.slice a n c, v2, v3] 28))
  by_cases h1 : 0 ≤ x
  · by_cases h2 : x < n
    · rw [decide_eq_true (And.intro h1 h2)]
      have HB := hid B0
      clear B0
      go_enter Try.func45, Try.ntmps45
      go_wp2
      go_ret
      exact ⟨rfl, HB.out⟩
    · rw [decide_eq_false (fun h => h2 h.2)]
      have HB := hid B0
      clear B0
      go_enter Try.func45, Try.ntmps45
      go_wp2
      go_ret
      exact ⟨rfl, HB.out⟩
  · rw [decide_eq_false (fun h => h1 h.1)]
    have HB := hid B0
    clear B0
    go_enter Try.func45, Try.ntmps45
    go_wp2
    go_ret
    exact ⟨rfl, HB.out⟩

end Go.Proofs.Ytnkipjlkhnmilaa.Mem

namespace Go.Proofs.Ytnkipjlkhnmilaa.Mem
open Go.RowKit
set_option linter.unusedVariables false

/-- The first reason. -/
def Dk.refuse (D : Dk) (x ep s : Int) (ts : List ByteArray) : Int := if ((0 ≤ x ∧ x < 3) ∧ 0 ≤ s ∧ s < (D.sec.length : Int)) ∧ (∀ j, j < ts.length → ((ts.getD j ByteArray.empty).size : Int) ≤ 700) then (if D.ep.getD x.toNat 0 = ep then 0 else 2) else 1

set_option maxRecDepth 100000 in
set_option maxHeartbeats 2000000 in
theorem refusal (w : World) (v : Value) (D : Dk) (x ep s : Int) (a : Option Addr) (cap : Nat) (ts : List ByteArray) (h : DkR w v D) (h3 : D.ep.length = 3) (T : Strs w a ts) (hl : ts.length ≤ maxLen) :
    Calls Try.prog 38 #[v, .int .i64 x, .int .i64 ep, .int .i64 s, .slice a ts.length cap] w fun e w' => e = .returned (.int .i64 (D.refuse x ep s ts)) ∧ Below w.heap.size w w' := by
  have HH := hid h
  have HT := hid T
  obtain ⟨a1, c1, a2, c2, a3, c3, rfl, _, s2, _⟩ := h
  have HS2 := hid s2
  clear T s2
  have hl' : ts.length ≤ 9223372036854775807 := hl
  have hp : D.refuse x ep s ts = if ((0 ≤ x ∧ x < 3) ∧ 0 ≤ s ∧ s < (D.sec.length : Int)) ∧ (∀ j, j < ts.length → ((ts.getD j ByteArray.empty).size : Int) ≤ 700) then (if D.ep.getD x.toNat 0 = ep then 0 else 2) else 1 := rfl
  generalize D.refuse x ep s ts = P at *
  have HP := hid hp
  have H3 := hid h3
  clear hp hl h3
  obtain ⟨wb, hwb, ez, A0, B0⟩ := one_new w [.slice a1 D.sec.length c1, .slice a2 D.ep.length c2, .slice a3 D.pe.length c3] 28
  have HA := hid A0
  have HB := hid B0
  have k0 := A0.c 0 rfl
  have k1 := A0.c 1 rfl
  have k2 := A0.c 2 rfl
  clear A0 B0 ez
  go_enter Try.func38, Try.ntmps38
  go_wp2_with fail
  refine (isHost x wb).mono ?_
  rintro e w0 ⟨rfl, hw⟩
  subst hw
  by_cases g1 : ¬ (0 ≤ x ∧ x < 3)
  · have g1' := decide_eq_false g1
    have HP1 := hid (HP.out.trans (if_neg (fun q => g1 q.1.1)))
    clear g1
    go_wp2
    go_ret
    exact ⟨by rw [HP1.out]; rfl, HB.out⟩
  replace g1 := Classical.not_not.mp g1
  have g1' := decide_eq_true g1
  have HG1 := hid g1
  obtain ⟨n, rfl⟩ : ∃ n : Nat, x = (n : Int) := Int.eq_ofNat_of_zero_le g1.1
  have hn3 : (n : Int) < 3 := g1.2
  clear g1
  go_wp2_with fail
  refine (isSector w0 _ _ _ a1 D.sec.length c1 rfl s).mono ?_
  rintro e w1 ⟨rfl, b1⟩
  have HA1 := hid (HA.out.below b1 HA.out.lt)
  have HB1 := hid (HB.out.trans (b1.mono HB.out.size))
  clear HA HB b1 k0 k1 k2 g1'
  have k0 := HA1.out.c 0 rfl
  have k1 := HA1.out.c 1 rfl
  have k2 := HA1.out.c 2 rfl
  by_cases g2 : ¬ (0 ≤ s ∧ s < (D.sec.length : Int))
  · have g2' := decide_eq_false g2
    have HP1 := hid (HP.out.trans (if_neg (fun q => g2 q.1.2)))
    clear g2
    go_wp2
    go_ret
    exact ⟨by rw [HP1.out]; rfl, HB1.out⟩
  replace g2 := Classical.not_not.mp g2
  have g2' := decide_eq_true g2
  have HG2 := hid g2
  clear g2
  go_wp2
  go_loop [24] (fun i => ∃ k : Nat, k ≤ ts.length ∧ i = .int .i64 (k : Int) ∧ Hid (∀ j, j < k → ((ts.getD j ByteArray.empty).size : Int) ≤ 700)) (fun i => ts.length - (intOf i).toNat)
  case atStart => exact ⟨0, Nat.zero_le _, rfl, fun j hj => by omega⟩
  case round =>
    obtain ⟨k, hk, rfl, HJ⟩ := hrel
    by_cases hlt : k < ts.length
    · obtain ⟨b, off, rfl, hc⟩ := (HT.out.below HB1.out) k hlt
      replace hc : w1.cell? ⟨b, off + k, none⟩ = some (.string (ts.getD k ByteArray.empty)) := hc
      generalize hx : ts.getD k ByteArray.empty = y at hc
      have HX := hid hx
      clear hx
      go_wp2_with fail
      refine (fitsSector y w1).mono ?_
      rintro e w1' ⟨rfl, hw⟩
      subst hw
      by_cases hn : (y.size : Int) ≤ 700
      · have hn' := decide_eq_true hn
        go_wp2
        exact ⟨⟨k + 1, by omega, by go_num, fun j hj => by
          by_cases h : j = k
          · subst h; rw [HX.out]; exact hn
          · exact HJ.out j (by omega)⟩, by simp [intOf]; omega⟩
      · have hn' := decide_eq_false hn
        have HP1 := hid (HP.out.trans (if_neg (fun q => by have := q.2 k hlt; rw [HX.out] at this; exact hn this)))
        clear hn
        go_wp2
        go_ret
        exact ⟨by rw [HP1.out]; rfl, HB1.out⟩
    obtain rfl : k = ts.length := by omega
    have HP1 := hid (HP.out.trans (if_pos ⟨⟨HG1.out, HG2.out⟩, HJ.out⟩))
    have hnl : n < D.ep.length := by have := H3.out; omega
    obtain ⟨b2, o2, rfl, hc⟩ := (HS2.out.below HB1.out) n hnl
    replace hc : w1.cell? ⟨b2, o2 + n, none⟩ = some (.int .i64 (D.ep.getD n 0)) := hc
    generalize hy : D.ep.getD n 0 = y at hc
    have HY := hid hy
    clear hy
    have q0 : (0 : Int) ≤ (n : Int) := Int.natCast_nonneg n
    by_cases g4 : ¬ ep = y
    · have HP2 := hid (HP1.out.trans (if_neg (by rw [Int.toNat_natCast, HY.out]; exact fun q => g4 q.symm)))
      go_wp2
      go_ret
      exact ⟨by rw [HP2.out]; rfl, HB1.out⟩
    replace g4 := Classical.not_not.mp g4
    subst g4
    have HP2 := hid (HP1.out.trans (if_pos (by rw [Int.toNat_natCast, HY.out])))
    go_wp2
    go_ret
    exact ⟨by rw [HP2.out]; rfl, HB1.out⟩

end Go.Proofs.Ytnkipjlkhnmilaa.Mem

namespace Go.Proofs.Ytnkipjlkhnmilaa.Mem
open Go.RowKit Go.Maps
open Go.ChangeMaps (setBlock heap_setBlock_same heap_setBlock_other)
set_option linter.unusedVariables false

theorem laidQ : laidOutB Try.prog = true := by kernel_rfl
theorem rowQ : (71 : TypeId) < Try.prog.types.size := of_decide_eq_true (by kernel_rfl)
theorem deepQ : Try.prog.keyTypeAt (Try.prog.types.size + 1) 71 = true := by kernel_rfl
theorem wideQ : (match Try.prog.underlying 71 with | some (.array _ _) | some (.struct _) => true | _ => false) = true := by rw [Try.underlying71]
set_option maxRecDepth 100000 in
theorem lawQ : WideMaps.KeyLaw Try.prog 71 := deep_law_laid laidQ (m := 2) (by omega) rowQ (by kernel_rfl) wideQ
theorem keyedQ : Keyed Try.prog 71 := Keyed.of_law lawQ
theorem cellsQ : Try.prog.cellsOf 71 = 2 := by kernel_rfl
theorem cellsI : Try.prog.cellsOf 3 = 1 := by kernel_rfl
theorem zeroQ (w : World) : (zeroValue 25).run Try.prog w = .ok (.slice none 0 0) w := by kernel_rfl

def nilv : Value := .slice none 0 0

/-- A key, and what it reads as. -/
def kval (h s : Int) : Value := .agg #[.int .i64 h, .int .i64 s]
def klq (h s : Int) : Lit := .string (keyBytes [.int .i64 h, .int .i64 s])

/-- The hosts and sectors of a right disk. -/
def OkK (h s : Int) : Prop := (0 ≤ h ∧ h < 3) ∧ 0 ≤ s ∧ s < 40

theorem wf_small {x : Int} (h0 : 0 ≤ x) (h1 : x < 40) : (Lit.int .i64 x).wf = true := WalkArith.wf_i64 (by omega)

theorem key_of {h s : Int} (hk : OkK h s) : keyOf Try.prog 71 (kval h s) = some (klq h s) := by
  have w1 := wf_small hk.1.1 (by have := hk.1.2; omega)
  have w2 := wf_small hk.2.1 hk.2.2
  obtain ⟨m, hm⟩ : ∃ m, Try.prog.types.size + 1 = m + 2 := ⟨Try.prog.types.size - 1, by have h : (71 : Nat) < Try.prog.types.size := rowQ; omega⟩
  have hd : Try.prog.keyType 71 = true := deepQ
  have hf : (kval h s).formed Try.prog 71 = true := by simp [kval, Value.formed, Try.underlying71, cellsQ]
  unfold keyOf
  simp only [Try.underlying71, hd, hf, Bool.and_self, if_true, hm]
  simp [Program.keyLits, Try.underlying71, Try.underlying3, cellsQ, cellsI, kval, Value.cells, w1, w2, klq, List.range_succ]

theorem klq_inj {h s h' s' : Int} (hk : OkK h s) (hk' : OkK h' s') (e : klq h s = klq h' s') : h = h' ∧ s = s' := by
  have := keyedQ.inj (key_of hk) (by rw [e]; exact key_of hk')
  simpa [kval] using this

/-- The reader: a value as it stands. -/
def Rid (v : Value) : Option (DataW Value × List MemPlace) := some (.held v, [])

def qCells (l : List Nat) : List Value := l.map (fun (i : Nat) => Value.int .i64 (i : Int))

/-- Block b is a map of queues: at each key a row of its own with the numbers Q, or nothing where there are none. -/
structure QM (w : World) (B b n : Nat) (Q : Int → Int → List Nat) (D : DataW Value) (V : Int → Int → Value) : Prop where
  own : w.ownsMap Try.prog 71 Rid b n D
  lt : b < B
  has : ∀ h s, OkK h s → (Maps.has D (klq h s) = true ↔ Q h s ≠ [])
  at_ : ∀ h s, OkK h s → D.atKey (klq h s) (.held nilv) = .held (V h s)
  row : ∀ h s, OkK h s → RowO w B 3 1 (V h s) (Q h s).length (qCells (Q h s))
  apart : ∀ h s h' s', OkK h s → OkK h' s' → ¬ (h = h' ∧ s = s') → ∀ g, rb (V h s) = some g → rb (V h' s') ≠ some g
  only : ∀ l, Maps.has D l = true → ∃ h s, OkK h s ∧ l = klq h s

theorem ownsMap_kept {S : Nat → Prop} {P : Program} {k : TypeId} {R : Value → Option (DataW Value × List MemPlace)} {w w' : World} {b n : Nat} {D : DataW Value} (h : w.ownsMap P k R b n D) (kk : Kept S w w') (hb : ¬ S b) : w'.ownsMap P k R b n D := by
  have hl := h.lt
  obtain ⟨es, clock, hh, r⟩ := h
  exact ⟨es, clock, by rw [kk.block b hl hb]; exact hh, r⟩

theorem QM.kept {S : Nat → Prop} {w w' : World} {B b n : Nat} {Q : Int → Int → List Nat} {D : DataW Value} {V : Int → Int → Value} (q : QM w B b n Q D V) (k : Kept S w w') (hb : ¬ S b) (hr : ∀ h s g, OkK h s → rb (V h s) = some g → ¬ S g) : QM w' B b n Q D V :=
  ⟨ownsMap_kept q.own k hb, q.lt, q.has, q.at_, fun h s hk => (q.row h s hk).kept k (fun g hg => hr h s g hk hg), q.apart, q.only⟩

theorem QM.below {w w' : World} {B b n : Nat} {Q : Int → Int → List Nat} {D : DataW Value} {V : Int → Int → Value} (q : QM w B b n Q D V) (k : Below w.heap.size w w') : QM w' B b n Q D V :=
  q.kept (Kept.of_below (S := fun _ => False) k) (fun x => x) (fun _ _ _ _ _ x => x)

theorem QM.made (w : World) : QM (w.alloc (.map #[] 0)) (w.heap.size + 1) w.heap.size 0 (fun _ _ => []) (.map []) (fun _ _ => nilv) :=
  ⟨World.ownsMap_made w _ _ _, Nat.lt_succ_self _, fun h s _ => by simp [Maps.has], fun h s _ => rfl, fun h s _ => Or.inl ⟨none, rfl, rfl, rfl⟩, fun _ _ _ _ _ _ _ g hg => by simp [rb, nilv] at hg, fun l hl => by simp [Maps.has] at hl⟩

/-- 'm[k]'. -/
theorem QM.look {w : World} {B b n : Nat} {Q : Int → Int → List Nat} {D : DataW Value} {V : Int → Int → Value} (q : QM w B b n Q D V) {h s : Int} (hk : OkK h s) : (Instr.lookup 68 (.map (some b)) (kval h s) false).run Try.prog w = .ok (V h s) w := by
  obtain ⟨v, ps, hrun, hR⟩ := q.own.lookup keyedQ Try.underlying68 (zeroQ w) (zd := .held nilv) (zp := []) rfl (key_of hk)
  have e := q.at_ h s hk
  simp only [Rid, Option.some.injEq, Prod.mk.injEq] at hR
  rw [e] at hR
  have : v = V h s := by injection hR.1
  rw [← this]
  exact hrun

/-- 'v, ok := m[k]'. -/
theorem QM.look_ok {w : World} {B b n : Nat} {Q : Int → Int → List Nat} {D : DataW Value} {V : Int → Int → Value} (q : QM w B b n Q D V) {h s : Int} (hk : OkK h s) : (Instr.lookup 68 (.map (some b)) (kval h s) true).run Try.prog w = .ok (.tuple #[V h s, .bool (decide (Q h s ≠ []))]) w := by
  obtain ⟨v, ps, hrun, hR⟩ := q.own.look_ok keyedQ Try.underlying68 (zeroQ w) (zd := .held nilv) (zp := []) rfl (key_of hk)
  have e := q.at_ h s hk
  simp only [Rid, Option.some.injEq, Prod.mk.injEq] at hR
  rw [e] at hR
  have hv : v = V h s := by injection hR.1
  have hh : Maps.has D (klq h s) = decide (Q h s ≠ []) := by
    have := q.has h s hk
    by_cases hq : Q h s ≠ []
    · rw [decide_eq_true hq]; exact this.2 hq
    · rw [decide_eq_false hq]
      cases hx : Maps.has D (klq h s)
      · rfl
      · exact absurd (this.1 hx) hq
  rw [← hv, ← hh]
  exact hrun

/-- One key's queue is another one. -/
def upd {α : Type} (Q : Int → Int → α) (h s : Int) (z : α) (h' s' : Int) : α := if h' = h ∧ s' = s then z else Q h' s'
theorem upd_same {α : Type} (Q : Int → Int → α) (h s : Int) (z : α) : upd Q h s z h s = z := if_pos ⟨rfl, rfl⟩
theorem upd_other {α : Type} (Q : Int → Int → α) {h s h' s' : Int} (z : α) (hne : ¬ (h' = h ∧ s' = s)) : upd Q h s z h' s' = Q h' s' := if_neg hne

theorem kept_setBlock {w : World} {b : Nat} {es : Array MapEntry} {clock : Nat} (hb : w.heap[b]? = some (.map es clock)) (o : Obj) : Kept (fun k => k = b) w (setBlock w b o) :=
  ⟨rfl, rfl, rfl, by simp [setBlock], fun i _ hi => heap_setBlock_other hb _ hi⟩

/-- What a store at a key leaves, if the new row lies in the old one's block or in a new one. -/
theorem QM.put {w w2 w3 : World} {B b n n' : Nat} {Q : Int → Int → List Nat} {D : DataW Value} {V : Int → Int → Value} (q : QM w B b n Q D V) {h s : Int} (hk : OkK h s) (k : Kept (fun g => g = b ∨ rb (V h s) = some g) w w2) (v' : Value) (zs : List Nat) (hz : zs ≠ [])
    (r : RowO w2 B 3 1 v' zs.length (qCells zs)) (hl : rb v' = none ∨ rb v' = rb (V h s) ∨ ∃ g, rb v' = some g ∧ w.heap.size ≤ g)
    (k3 : Kept (fun g => g = b) w2 w3) (o3 : w3.ownsMap Try.prog 71 Rid b n' (D.put (klq h s) (.held v'))) : QM w3 B b n' (upd Q h s zs) (D.put (klq h s) (.held v')) (upd V h s v') := by
  have isM : IsMap D := q.own.isMap
  have kl := keyedQ.key (key_of hk)
  have rB : ∀ {h' s' g}, OkK h' s' → rb (V h' s') = some g → g ≠ b := fun {h' s' g} hk' hg e => by
    have := ((q.row h' s' hk').lt hg).1
    have := q.lt
    omega
  have v'B : ∀ {g}, rb v' = some g → g ≠ b := fun {g} hg e => by
    have := (r.lt hg).1
    have := q.lt
    omega
  refine ⟨o3, q.lt, fun h' s' hk' => ?_, fun h' s' hk' => ?_, fun h' s' hk' => ?_, fun h1 s1 h2 s2 hk1 hk2 hne g h3 => ?_, fun l hl' => ?_⟩
  · by_cases e : h' = h ∧ s' = s
    · obtain ⟨rfl, rfl⟩ := e
      rw [upd_same, has_put_same isM kl]
      simp [hz]
    · rw [upd_other _ _ e, has_put_other (fun e' => e (klq_inj hk' hk e'))]
      exact q.has h' s' hk'
  · by_cases e : h' = h ∧ s' = s
    · obtain ⟨rfl, rfl⟩ := e
      rw [upd_same, atKey_put_same isM kl]
    · rw [upd_other _ _ e, atKey_put_other (fun e' => e (klq_inj hk' hk e'))]
      exact q.at_ h' s' hk'
  · by_cases e : h' = h ∧ s' = s
    · obtain ⟨rfl, rfl⟩ := e
      rw [upd_same, upd_same]
      exact r.kept k3 (fun g hg => v'B hg)
    · rw [upd_other _ _ e, upd_other _ _ e]
      refine ((q.row h' s' hk').kept k (fun g hg hx => ?_)).kept k3 (fun g hg => rB hk' hg)
      rcases hx with hx | hx
      · exact rB hk' hg hx
      · exact q.apart h' s' h s hk' hk e g hg hx
  · have far : ∀ h' s' g, OkK h' s' → ¬ (h' = h ∧ s' = s) → rb (V h' s') = some g → rb v' ≠ some g := fun h' s' g hk' hne' hg hx => by
      rcases hl with e | e | ⟨g', e, hg'⟩
      · rw [e] at hx; cases hx
      · rw [e] at hx
        exact q.apart h' s' h s hk' hk hne' g hg hx
      · rw [e] at hx
        cases hx
        have := ((q.row h' s' hk').lt hg).2
        omega
    by_cases e1 : h1 = h ∧ s1 = s
    · obtain ⟨rfl, rfl⟩ := e1
      have e2 : ¬ (h2 = h1 ∧ s2 = s1) := fun e => hne ⟨e.1.symm, e.2.symm⟩
      rw [upd_same] at h3
      rw [upd_other _ _ e2]
      exact fun hx => far h2 s2 g hk2 e2 hx h3
    · rw [upd_other _ _ e1] at h3
      by_cases e2 : h2 = h ∧ s2 = s
      · obtain ⟨rfl, rfl⟩ := e2
        rw [upd_same]
        exact far h1 s1 g hk1 e1 h3
      · rw [upd_other _ _ e2]
        exact q.apart h1 s1 h2 s2 hk1 hk2 hne g h3
  · by_cases e : l = klq h s
    · exact ⟨h, s, hk, e⟩
    · rw [has_put_other e] at hl'
      exact q.only l hl'

/-- 'm[k] = append(m[k], ..)': the entry that is made or found, and the store into it. -/
theorem QM.entry {w : World} {B b n : Nat} {Q : Int → Int → List Nat} {D : DataW Value} {V : Int → Int → Value} (q : QM w B b n Q D V) {h s : Int} (hk : OkK h s) (hn : n < maxLen) :
    ∃ st w1, (Instr.mapEntry 68 (.map (some b)) (kval h s)).run Try.prog w = .ok (.tuple #[V h s, goInt st]) w1 ∧ Kept (fun g => g = b) w w1 ∧ w1.heap.size = w.heap.size ∧
      ∀ (w2 : World) (v' : Value) (zs : List Nat), zs ≠ [] → Kept (fun g => rb (V h s) = some g) w1 w2 → RowO w2 B 3 1 v' zs.length (qCells zs) → (rb v' = none ∨ rb v' = rb (V h s) ∨ ∃ g, rb v' = some g ∧ w.heap.size ≤ g) →
        ∃ w3, (Instr.entryStore 68 (.map (some b)) (goInt st) v').run Try.prog w2 = .ok () w3 ∧ QM w3 B b (n + 1) (upd Q h s zs) (D.put (klq h s) (.held v')) (upd V h s v') ∧ Kept (fun g => g = b) w2 w3 := by
  have hlook := q.look hk
  have hlt := q.own.lt
  obtain ⟨es, clock, hb, F, hs, hD⟩ := q.own
  obtain ⟨v0, st, es1, clock1, hrun, hv0, hst⟩ := WideElems.entry_then_store (z := .slice none 0 0) lawQ Try.underlying68 (fun u => zeroQ u) hb F (key_of hk)
  have hv : v0 = V h s := by
    rcases Maps.fit_look false keyedQ Try.underlying68 (zeroQ w) hb F (key_of hk) with ⟨hr, hno, _⟩ | ⟨e0, y, hm0, h3, hr, _⟩
    · rcases hv0 with ⟨e1, hm1, hk1, rfl⟩ | ⟨_, rfl⟩
      · exact absurd hk1 (hno e1 hm1)
      · rw [hr] at hlook; injection hlook
    · rcases hv0 with ⟨e1, hm1, hk1, rfl⟩ | ⟨hno, _⟩
      · have : e1 = e0 := entry_eq_of_key (List.pairwise_map.1 F.stamped.2.2) hm1 hm0 (hk1.trans h3.symm)
        subst this
        rw [hr] at hlook
        injection hlook
      · exact absurd h3 (hno e0 hm0)
  subst hv
  refine ⟨st, _, hrun, kept_setBlock hb _, by simp [setBlock], fun w2 v' zs hz k2 r hl => ?_⟩
  have h1 : (setBlock w b (.map es1 clock1)).heap[b]? = some (.map es1 clock1) := heap_setBlock_same hb _
  have bB : ¬ rb (V h s) = some b := fun e => by
    have := ((q.row h s hk).lt e).1
    have := q.lt
    omega
  have h2 : w2.heap[b]? = some (.map es1 clock1) := by rw [k2.block b (by simpa [setBlock] using hlt) bB]; exact h1
  obtain ⟨es', clock', hr3, hu⟩ := hst w2 v' h2
  obtain ⟨w', hu', ho', _⟩ := q.own.store keyedQ Try.underlying68 hn (key_of hk) (val := v') (d := .held v') (ps := []) rfl
  rw [hu] at hu'
  have hw' : setBlock w b (.map es' clock') = w' := by injection hu'
  rw [← hw'] at ho'
  obtain ⟨es'', clock'', hh, rest⟩ := ho'
  rw [heap_setBlock_same hb] at hh
  have hh' : es' = es'' ∧ clock' = clock'' := by simpa using hh
  obtain ⟨rfl, rfl⟩ := hh'
  refine ⟨_, hr3, q.put hk (((kept_setBlock hb _).trans k2).mono (fun g _ hg => hg)) v' zs hz r hl (kept_setBlock h2 _) ⟨es', clock', heap_setBlock_same h2 _, rest⟩, kept_setBlock h2 _⟩

/-- 'm[k] = v'. -/
theorem QM.store {w w2 : World} {B b n : Nat} {Q : Int → Int → List Nat} {D : DataW Value} {V : Int → Int → Value} (q : QM w B b n Q D V) {h s : Int} (hk : OkK h s) (hn : n < maxLen) (k : Kept (fun g => rb (V h s) = some g) w w2) (v' : Value) (zs : List Nat) (hz : zs ≠ [])
    (r : RowO w2 B 3 1 v' zs.length (qCells zs)) (hl : rb v' = none ∨ rb v' = rb (V h s) ∨ ∃ g, rb v' = some g ∧ w.heap.size ≤ g) :
    ∃ w3, (Instr.mapUpdate 68 (.map (some b)) (kval h s) v').run Try.prog w2 = .ok () w3 ∧ QM w3 B b (n + 1) (upd Q h s zs) (D.put (klq h s) (.held v')) (upd V h s v') ∧ Kept (fun g => g = b) w2 w3 := by
  have bB : ¬ rb (V h s) = some b := fun e => by
    have := ((q.row h s hk).lt e).1
    have := q.lt
    omega
  have o2 := ownsMap_kept q.own k bB
  obtain ⟨w3, hr, ho, ht⟩ := o2.store keyedQ Try.underlying68 hn (key_of hk) (val := v') (d := .held v') (ps := []) rfl
  have g := ht.grown
  have k3 : Kept (fun g => g = b) w2 w3 := ⟨g.os, g.tape, g.output, g.size, fun i hi hne => g.block i hi (fun e => hne (by cases e; rfl))⟩
  exact ⟨w3, hr, q.put hk (k.mono (fun g _ hg => Or.inr hg)) v' zs hz r hl k3 ho, k3⟩

/-- 'delete(m, k)'. -/
theorem QM.drop {w w2 : World} {B b n : Nat} {Q : Int → Int → List Nat} {D : DataW Value} {V : Int → Int → Value} (q : QM w B b n Q D V) {h s : Int} (hk : OkK h s) (k : Kept (fun g => rb (V h s) = some g) w w2) (ty : TypeId) :
    ∃ w3, (Builtin.delete_ #[68, 71] ty #[.map (some b), kval h s]).run Try.prog w2 = .ok (.tuple #[]) w3 ∧ QM w3 B b n (upd Q h s []) (D.del (klq h s)) (upd V h s nilv) ∧ Kept (fun g => g = b) w2 w3 := by
  have rB : ∀ {h' s' g}, OkK h' s' → rb (V h' s') = some g → g ≠ b := fun {h' s' g} hk' hg e => by
    have := ((q.row h' s' hk').lt hg).1
    have := q.lt
    omega
  have o2 := ownsMap_kept q.own k (fun e => rB hk e rfl)
  obtain ⟨w3, hr, ho, ht⟩ := o2.drop keyedQ Try.underlying68 (key_of hk) ty
  have g := ht.grown
  have k3 : Kept (fun g => g = b) w2 w3 := ⟨g.os, g.tape, g.output, g.size, fun i hi hne => g.block i hi (fun e => hne (by cases e; rfl))⟩
  refine ⟨w3, hr, ⟨ho, q.lt, fun h' s' hk' => ?_, fun h' s' hk' => ?_, fun h' s' hk' => ?_, fun h1 s1 h2 s2 hk1 hk2 hne g h3 => ?_, fun l hl' => ?_⟩, k3⟩
  · by_cases e : h' = h ∧ s' = s
    · obtain ⟨rfl, rfl⟩ := e
      rw [upd_same, has_del_same]
      simp
    · rw [upd_other _ _ e, has_del_other (fun e' => e (klq_inj hk' hk e'))]
      exact q.has h' s' hk'
  · by_cases e : h' = h ∧ s' = s
    · obtain ⟨rfl, rfl⟩ := e
      rw [upd_same, atKey_del_same]
    · rw [upd_other _ _ e, atKey_del_other (fun e' => e (klq_inj hk' hk e'))]
      exact q.at_ h' s' hk'
  · by_cases e : h' = h ∧ s' = s
    · obtain ⟨rfl, rfl⟩ := e
      rw [upd_same, upd_same]
      exact Or.inl ⟨none, rfl, rfl, rfl⟩
    · rw [upd_other _ _ e, upd_other _ _ e]
      exact ((q.row h' s' hk').kept k (fun g hg hx => q.apart h' s' h s hk' hk e g hg hx)).kept k3 (fun g hg => rB hk' hg)
  · by_cases e1 : h1 = h ∧ s1 = s
    · obtain ⟨rfl, rfl⟩ := e1
      rw [upd_same] at h3
      simp [rb, nilv] at h3
    · rw [upd_other _ _ e1] at h3
      by_cases e2 : h2 = h ∧ s2 = s
      · obtain ⟨rfl, rfl⟩ := e2
        rw [upd_same]
        simp [rb, nilv]
      · rw [upd_other _ _ e2]
        exact q.apart h1 s1 h2 s2 hk1 hk2 hne g h3
  · by_cases e : l = klq h s
    · rw [e, has_del_same] at hl'; cases hl'
    · rw [has_del_other e] at hl'
      exact q.only l hl'

end Go.Proofs.Ytnkipjlkhnmilaa.Mem

namespace Go.Proofs.Ytnkipjlkhnmilaa.Mem
open Go.RowKit
set_option linter.unusedVariables false

/-- The numbers of the first k writes that are one host's to one sector. -/
def qAt (l : List Wt) (k : Nat) (h s : Int) : List Nat := (List.range k).filter (fun i => decide ((l.getD i Wt.none).host = h ∧ (l.getD i Wt.none).sector = s))

theorem qAt_zero (l : List Wt) : qAt l 0 = fun _ _ => [] := by funext h s; rfl
theorem qAt_succ (l : List Wt) (k : Nat) : qAt l (k + 1) = upd (qAt l k) (l.getD k Wt.none).host (l.getD k Wt.none).sector (qAt l k (l.getD k Wt.none).host (l.getD k Wt.none).sector ++ [k]) := by
  funext h s
  unfold upd qAt
  rw [List.range_succ, List.filter_append]
  by_cases e : h = (l.getD k Wt.none).host ∧ s = (l.getD k Wt.none).sector
  · rw [if_pos e]
    obtain ⟨rfl, rfl⟩ := e
    simp
  · rw [if_neg e]
    have : decide ((l.getD k Wt.none).host = h ∧ (l.getD k Wt.none).sector = s) = false := decide_eq_false (fun q => e ⟨q.1.symm, q.2.symm⟩)
    simp only [List.filter_cons, this, List.filter_nil]
    simp
theorem qAt_len (l : List Wt) (k : Nat) (h s : Int) : (qAt l k h s).length ≤ k := by
  unfold qAt
  have := List.length_filter_le (fun i => decide ((l.getD i Wt.none).host = h ∧ (l.getD i Wt.none).sector = s)) (List.range k)
  simpa using this

theorem qCells_snoc (l : List Nat) (x : Nat) : qCells (l ++ [x]) = qCells l ++ [.int .i64 (x : Int)] := by simp [qCells]
theorem qCells_length (l : List Nat) : (qCells l).length = l.length := by simp [qCells]

/-- Three blocks laid one behind the other. -/
theorem three_any (w : World) (xs ys zs : List Value) (t u r : TypeId) :
    ∃ wc, ((w.alloc (.cells xs.toArray t)).alloc (.cells ys.toArray u)).alloc (.cells zs.toArray r) = wc ∧ wc.heap.size = w.heap.size + 1 + 1 + 1 ∧ Row wc (w.heap.size + 1 + 1) zs ∧ Below w.heap.size w wc := by
  have e0 : (w.alloc (.cells xs.toArray t)).heap.size = w.heap.size + 1 := by simp
  have e1 : ((w.alloc (.cells xs.toArray t)).alloc (.cells ys.toArray u)).heap.size = w.heap.size + 1 + 1 := by simp
  have r2 := Row.new ((w.alloc (.cells xs.toArray t)).alloc (.cells ys.toArray u)) zs r
  rw [e1] at r2
  exact ⟨_, rfl, by simp, r2, (((Below.refl _ _).alloc (Nat.le_refl _) _).alloc (by omega) _).alloc (by omega) _⟩

set_option maxRecDepth 100000 in
set_option maxHeartbeats 2000000 in
theorem queuesOf (w : World) (a : Option Addr) (cap : Nat) (l : List Wt) (S : Wts w a l) (hl : l.length ≤ 40) (hk : ∀ j, j < l.length → OkK (l.getD j Wt.none).host (l.getD j Wt.none).sector) :
    Calls Try.prog 46 #[.slice a l.length cap] w fun e w' => e = .returned (.map (some w.heap.size)) ∧ (∃ n D V, n ≤ 40 ∧ QM w' (w.heap.size + 1) w.heap.size n (qAt l l.length) D V) ∧ Below w.heap.size w w' := by
  have HS := hid S
  have HK := hid hk
  clear S hk
  have hmm := @run_makeMap Try.prog
  obtain ⟨wm, hwm⟩ : ∃ wm, w.alloc (.map #[] 0) = wm := ⟨_, rfl⟩
  have HM : Hid (QM wm (w.heap.size + 1) w.heap.size 0 (fun _ _ => []) (.map []) (fun _ _ => nilv)) := by rw [← hwm]; exact QM.made w
  have HB : Hid (Below w.heap.size w wm) := by rw [← hwm]; exact (Below.refl _ _).alloc (Nat.le_refl _) _
  have HZ : Hid (wm.heap.size = w.heap.size + 1) := by rw [← hwm]; exact (by simp : (w.alloc (.map #[] 0)).heap.size = w.heap.size + 1)
  go_enter Try.func46, Try.ntmps46
  go_wp2
  clear hwm hmm
  go_loopw [10] (fun i wr => ∃ k : Nat, k ≤ l.length ∧ i = .int .i64 (k : Int) ∧ Hid (∃ D V, QM wr (w.heap.size + 1) w.heap.size k (qAt l k) D V) ∧ Hid (Below w.heap.size w wr) ∧ Hid (w.heap.size + 1 ≤ wr.heap.size)) (fun i _ => l.length - (intOf i).toNat)
  case atStart => exact ⟨0, Nat.zero_le _, rfl, ⟨_, _, by rw [qAt_zero]; exact HM.out⟩, HB.out, by rw [HZ.out]; exact Nat.le_refl _⟩
  case round =>
    obtain ⟨k, hk, rfl, HQ, HBw, HZw⟩ := hrel
    by_cases hlt : k < l.length
    · obtain ⟨D, V, hq⟩ := HQ.out
      have hkk := HK.out k hlt
      have hsu := hid (qAt_succ l k)
      obtain ⟨b, off, rfl, x0, x1, x2, x3⟩ := Wts.at_ (HS.out.below HBw.out) k hlt
      generalize hx : l.getD k Wt.none = x at *
      obtain ⟨xh, xe, xs, xt⟩ := x
      simp only [] at x0 x1 x2 x3 hkk hsu
      obtain ⟨wc, hwc, ec, R2, Bc⟩ := three_any wr [.int .i64 xh, .int .i64 xe, .int .i64 xs, .string xt] [.int .i64 xh, .int .i64 xs] [.int .i64 (k : Int)] 44 71 3
      have hqc := hq.below Bc
      obtain ⟨st, w1, hen, k1, e1, hst⟩ := hqc.entry hkk (by unfold maxLen; omega)
      have hrow := hid ((hqc.row xh xs hkk).kept k1 (fun g hg e => by have := ((hqc.row xh xs hkk).lt hg).1; have := hqc.lt; omega))
      obtain ⟨pa, pc, pe, _⟩ := (hqc.row xh xs hkk).wr
      have hql := qAt_len l k xh xs
      have hlies := hid (show w.heap.size + 1 ≤ w1.heap.size from by rw [e1, ec]; have := HZw.out; omega)
      have R2' := R2.kept k1 (by have := HZw.out; omega)
      have HSl : Hid (Sl w1 (some ⟨wr.heap.size + 1 + 1, 0, none⟩) (1 * 1) (fun i => [Value.int .i64 (k : Int)].getD i undef)) := fun i hi => by
        have : i = 0 := by omega
        subst this
        exact ⟨_, _, rfl, R2'.c 0 rfl⟩
      have HST := hid hst
      have HB1 := hid ((HBw.out.trans (Bc.mono HBw.out.size)).trans (k1.below (by have := HBw.out.size; have := Bc.size; omega) (fun c hc e => by omega)))
      have HE1 := hid e1
      rw [show V xh xs = .slice pa (qAt l k xh xs).length pc from pe] at hen hrow HST
      have hPE := hid pe
      replace hen : (Instr.mapEntry 68 (.map (some w.heap.size)) (.agg #[.int .i64 xh, .int .i64 xs])).run Try.prog wc = .ok (.tuple #[.slice pa (qAt l k xh xs).length pc, .int .i64 (st : Int)]) w1 := hen
      have HQC := hid hqc
      have HBC := hid Bc
      have HEC := hid ec
      clear hq hqc hst Bc R2 R2' k1 pe e1 ec
      generalize hZ : qAt l k xh xs = Z at *
      have HZ1 := hid hZ
      clear hZ
      go_wp2_with (at_builtin; refine wpList_app 25 3 (.int .i64 0) 1 8 Try.underlying25 info3' rfl (by decide) (by decide) _ rfl (.tmp 22) (.tmp 24) rfl (w.heap.size + 1) _ Z.length (qCells Z) rfl hrow.out ⟨wr.heap.size + 1 + 1, 0, none⟩ 1 1 [.int .i64 (k : Int)] rfl rfl HSl.out (by intro u hu; simp at hu; subst hu; rfl) (by omega) hlies.out ?_; intro v' w2 r' kk hi; obtain ⟨y, c', e', _⟩ := r'.wr; subst e'; obtain ⟨w3, hr3, q3, k3⟩ := HST.out w2 (.slice y (Z.length + 1) c') (Z ++ [k]) (by simp) kk (by rw [List.length_append]; rw [qCells_snoc]; exact r') (by rcases hi with h | h | h; exact Or.inl h; exact Or.inr (Or.inl h); exact Or.inr (Or.inr ⟨_, h.1, Nat.le_of_eq HE1.out.symm⟩)); replace hr3 : (Instr.entryStore 68 (.map (some w.heap.size)) (.int .i64 (st : Int)) (.slice y (Z.length + 1) c')).run Try.prog w2 = .ok () w3 := hr3; have HQ3 := hid q3; have HK3 := hid k3; have HKK := hid kk; clear r' kk hi q3 k3)
      have s2 := HKK.out.size
      have s3 := HK3.out.size
      have s1 := hlies.out
      exact ⟨⟨k + 1, by omega, by go_num, ⟨_, _, by rw [hsu.out]; exact HQ3.out⟩, (HB1.out.trans (HKK.out.below HB1.out.size (fun g hg e => by have := (hrow.out.lt e).1; omega))).trans (HK3.out.below (Nat.le_trans HB1.out.size s2) (fun g hg e => by omega)), hid (by omega)⟩, by simp [intOf]; omega⟩
    obtain rfl : k = l.length := by omega
    go_wp2
    go_ret
    obtain ⟨D, V, hq⟩ := HQ.out
    exact ⟨rfl, ⟨_, _, _, hl, hq⟩, HBw.out⟩

end Go.Proofs.Ytnkipjlkhnmilaa.Mem

namespace Go.Proofs.Ytnkipjlkhnmilaa.Mem
open Go.RowKit

/-- A world in which nothing that was there in wa has turned. -/
structure BW (wa : World) : Type where
  val : World
  bel : Below wa.heap.size wa val

theorem BW.cell {wa : World} {p : Addr} {v : Value} (h : wa.cell? p = some v) (u : BW wa) : u.val.cell? p = some v :=
  (u.bel.cell (World.block_lt_of_cell? wa _ h)).trans h

theorem wp_region_bw {P : Program} {id : Nat} {Q : Exit → Act → World → Prop} {a : Act} {wa : World} {l : List Oper} (hm : P.follows .mixedOrders = true) (hB : Region.lexB .any l.toArray = true)
    (h : wpQuiet P l.toArray (fun w' => ∃ u : BW wa, w' = u.val) (fun a' => ∀ w', (∃ u : BW wa, w' = u.val) → Q .normal a' w') l a) : (Code.region id l.toArray true).wp P Q a wa :=
  wp_region_quiet (C := fun w' => ∃ u : BW wa, w' = u.val) hm hB ⟨⟨wa.drew, (Below.refl _ wa).drew⟩, rfl⟩ (by simpa using h)

theorem bw_same {P : Program} {f : FuncId} {args : Array Value} {wa : World} {u : BW wa} {v : Value} (h : Calls P f args u.val fun e w' => e = .returned v ∧ w' = u.val) :
    Calls P f args u.val fun e w'' => e = .returned v ∧ ∃ u' : BW wa, w'' = u'.val := h.mono fun _ _ ⟨he, hm⟩ => ⟨he, u, hm⟩

theorem bw_below {P : Program} {f : FuncId} {args : Array Value} {wa : World} {u : BW wa} {v : Value} (h : Calls P f args u.val fun e w' => e = .returned v ∧ Below u.val.heap.size u.val w') :
    Calls P f args u.val fun e w'' => e = .returned v ∧ ∃ u' : BW wa, w'' = u'.val := h.mono fun _ w' ⟨he, hm⟩ => ⟨he, ⟨w', u.bel.trans (hm.mono u.bel.size)⟩, rfl⟩

end Go.Proofs.Ytnkipjlkhnmilaa.Mem

namespace Go.Proofs.Ytnkipjlkhnmilaa.Mem
open Go.RowKit
set_option linter.unusedVariables false

set_option maxRecDepth 100000 in
set_option maxHeartbeats 2000000 in
theorem implDiskOk (w : World) (v : Value) (D : Dk) (h : DkR w v D) (hd : D.Held) :
    Calls Try.prog 36 #[v] w fun e w' => e = .returned (.bool D.right) ∧ Below w.heap.size w w' := by
  obtain ⟨a1, c1, a2, c2, a3, c3, rfl, s1, s2, s3⟩ := h
  obtain ⟨l1, l2, l3⟩ := D
  have HS1 := hid s1
  have HS2 := hid s2
  have HS3 := hid s3
  have d1 : l1.length ≤ 9223372036854775807 := hd.h1
  have d2 : l2.length ≤ 9223372036854775807 := hd.h2
  have d3 : l3.length ≤ 9223372036854775807 := hd.h3
  have HD := hid hd
  clear s1 s2 s3 hd
  simp only []
  have no : ¬ (Dk.mk l1 l2 l3).Right → (Dk.mk l1 l2 l3).right = false := Dk.right_no
  have yes : (Dk.mk l1 l2 l3).Right → (Dk.mk l1 l2 l3).right = true := Dk.right_yes
  generalize (Dk.mk l1 l2 l3).right = q at *
  have HN := hid no
  have HY := hid yes
  clear no yes
  go_enter Try.func36, Try.ntmps36
  obtain ⟨w1, hwb, ez, A0, B0⟩ := one_new w [.slice a1 l1.length c1, .slice a2 l2.length c2, .slice a3 l3.length c3] 28
  have HB := hid B0
  have HA := hid A0
  have k1 := A0.c 1 rfl
  have k2 := A0.c 2 rfl
  have k0 := A0.c 0 rfl
  clear A0 B0
  by_cases g1 : (l1.length : Int) < 1
  · have HN := hid (HN.out (by intro x; have := x.n1; simp only [] at *; omega))
    go_wp2
    go_ret
    exact ⟨by rw [HN.out]; rfl, HB.out⟩
  by_cases g1b : 40 < (l1.length : Int)
  · have HN := hid (HN.out (by intro x; have := x.n2; simp only [] at *; omega))
    go_wp2
    go_ret
    exact ⟨by rw [HN.out]; rfl, HB.out⟩
  by_cases g2 : ¬ (l2.length : Int) = 3
  · have HN := hid (HN.out (by intro x; have := x.e3; simp only [] at *; omega))
    go_wp2
    go_ret
    exact ⟨by rw [HN.out]; rfl, HB.out⟩
  replace g2 := Classical.not_not.mp g2
  by_cases g3 : 40 < (l3.length : Int)
  · have HN := hid (HN.out (by intro x; have := x.p40; simp only [] at *; omega))
    go_wp2
    go_ret
    exact ⟨by rw [HN.out]; rfl, HB.out⟩
  go_wp2
  clear hwb
  go_loop [34] (fun i => ∃ k : Nat, k ≤ l1.length ∧ i = .int .i64 (k : Int) ∧ Hid (∀ j, j < k → ((l1.getD j ByteArray.empty).size : Int) ≤ 700)) (fun i => l1.length - (intOf i).toNat)
  case atStart => exact ⟨0, Nat.zero_le _, rfl, fun j hj => by omega⟩
  case round =>
    obtain ⟨k, hk, rfl, HJ⟩ := hrel
    by_cases hlt : k < l1.length
    · obtain ⟨b, off, rfl, hc⟩ := (HS1.out.below HB.out) k hlt
      replace hc : w1.cell? ⟨b, off + k, none⟩ = some (.string (l1.getD k ByteArray.empty)) := hc
      generalize hx : l1.getD k ByteArray.empty = x at hc
      have HX := hid hx
      clear hx
      go_wp2_with fail
      refine (fitsSector x w1).mono ?_
      rintro e w1' ⟨rfl, hw⟩
      subst hw
      by_cases hn : (x.size : Int) ≤ 700
      · have hn' := decide_eq_true hn
        go_wp2
        exact ⟨⟨k + 1, by omega, by go_num, fun j hj => by
          by_cases h : j = k
          · subst h; rw [HX.out]; exact hn
          · exact HJ.out j (by omega)⟩, by simp [intOf]; omega⟩
      · have hn' := decide_eq_false hn
        have HN := hid (HN.out (by intro q; have := q.s k hlt; simp only [HX.out] at this; exact hn this))
        clear hn
        go_wp2
        go_ret
        exact ⟨by rw [HN.out]; rfl, HB.out⟩
    obtain rfl : k = l1.length := by omega
    go_wp2
    go_loop [45] (fun i => ∃ k : Nat, k ≤ l2.length ∧ i = .int .i64 (k : Int) ∧ Hid (∀ j, j < k → 1 ≤ l2.getD j 0 ∧ l2.getD j 0 ≤ 100000)) (fun i => l2.length - (intOf i).toNat)
    case atStart => exact ⟨0, Nat.zero_le _, rfl, fun j hj => by omega⟩
    case round =>
      obtain ⟨k, hk, rfl, HE⟩ := hrel
      by_cases hlt : k < l2.length
      · obtain ⟨b, off, rfl, hc⟩ := (HS2.out.below HB.out) k hlt
        replace hc : w1.cell? ⟨b, off + k, none⟩ = some (.int .i64 (l2.getD k 0)) := hc
        generalize hx : l2.getD k 0 = x at hc
        have HX := hid hx
        clear hx
        by_cases hn : x < 1
        · have HN := hid (HN.out (by intro q; have := q.e k hlt; simp only [HX.out] at this; omega))
          go_wp2
          go_ret
          exact ⟨by rw [HN.out]; rfl, HB.out⟩
        by_cases hm : 100000 < x
        · have HN := hid (HN.out (by intro q; have := q.e k hlt; simp only [HX.out] at this; omega))
          go_wp2
          go_ret
          exact ⟨by rw [HN.out]; rfl, HB.out⟩
        go_wp2
        exact ⟨⟨k + 1, by omega, by go_num, fun j hj => by
          by_cases h : j = k
          · subst h; rw [HX.out]; omega
          · exact HE.out j (by omega)⟩, by simp [intOf]; omega⟩
      obtain rfl : k = l2.length := by omega
      go_wp2
      go_loopw [59] (fun i wr => ∃ k : Nat, k ≤ l3.length ∧ i = .int .i64 (k : Int) ∧ Hid (∀ j, j < k → (l3.getD j Wt.none).okIn (Dk.mk l1 l2 l3)) ∧ Hid (Below w1.heap.size w1 wr)) (fun i _ => l3.length - (intOf i).toNat)
      case atStart => exact ⟨0, Nat.zero_le _, rfl, fun j hj => by omega, Below.refl _ _⟩
      case round =>
        obtain ⟨k, hk, rfl, HP, HB'⟩ := hrel
        have A0 := HA.out.below HB'.out HA.out.lt
        have HBw := hid (HB.out.trans (HB'.out.mono HB.out.size))
        have m0 := A0.c 0 rfl
        have m1 := A0.c 1 rfl
        have m2 := A0.c 2 rfl
        by_cases hlt : k < l3.length
        · obtain ⟨b, off, rfl, x0, x1, x2, x3⟩ := Wts.at_ (HS3.out.below HBw.out) k hlt
          generalize hx : l3.getD k Wt.none = x at x0 x1 x2 x3
          have HX := hid hx
          clear hx
          have HA' := hid A0
          clear A0
          obtain ⟨xh, xe, xs, xt⟩ := x
          simp only [] at x0 x1 x2 x3
          go_wp2
          obtain ⟨wa, hwa, ea, R0, B0⟩ := one_new wr [.int .i64 xh, .int .i64 xe, .int .i64 xs, .string xt] 44
          simp only [hwa]
          clear hwa
          have HB1 := hid (HB'.out.trans (B0.mono HB'.out.size))
          have HBw1 := hid (HB.out.trans (HB1.out.mono HB.out.size))
          replace m0 := (HA'.out.below B0 HA'.out.lt).c 0 rfl
          replace m1 := (HA'.out.below B0 HA'.out.lt).c 1 rfl
          replace m2 := (HA'.out.below B0 HA'.out.lt).c 2 rfl
          have y0 := R0.c 0 rfl
          have y1 := R0.c 1 rfl
          have y2 := R0.c 2 rfl
          have y3 := R0.c 3 rfl
          clear x0 x1 x2 x3 k0 k1 k2 B0 R0 ea
          by_cases q1 : ¬ (0 ≤ xh ∧ xh < 3)
          · have q1' := decide_eq_false q1
            have HN := hid (HN.out (by intro q; have := (q.p k hlt).1; simp only [HX.out] at this; exact q1 this))
            clear q1
            go_quiet ((go_at_call 44; refine Calls.quiet_of_same (isHost _ _)))
            go_wp2
            go_ret
            exact ⟨by rw [HN.out]; rfl, below_drewN HBw1.out _⟩
          replace q1 := Classical.not_not.mp q1
          have q1' := decide_eq_true q1
          have HQ1 := hid q1
          obtain ⟨n, rfl⟩ : ∃ n : Nat, xh = (n : Int) := Int.eq_ofNat_of_zero_le q1.1
          have hn3 : (n : Int) < 3 := q1.2
          clear q1
          obtain ⟨b2, o2, rfl, hc⟩ := (HS2.out.below HBw1.out) n (by omega)
          replace hc : wa.cell? ⟨b2, o2 + n, none⟩ = some (.int .i64 (l2.getD n 0)) := hc
          generalize hy : l2.getD n 0 = y at hc
          have HYE := hid hy
          clear hy
          by_cases q2 : ¬ xe = y
          · have q2' := decide_eq_false q2
            have HN := hid (HN.out (by intro q; have := (q.p k hlt).2.1; simp only [HX.out, Int.toNat_natCast, HYE.out] at this; exact q2 this))
            go_quiet ((go_at_call 44; refine Calls.quiet_of_same (isHost _ _)))
            go_wp2
            go_ret
            exact ⟨by rw [HN.out]; rfl, below_drewN HBw1.out _⟩
          obtain rfl := Classical.not_not.mp q2
          clear q2
          replace m0 := BW.cell m0
          replace m1 := BW.cell m1
          replace m2 := BW.cell m2
          replace y0 := BW.cell y0
          replace y1 := BW.cell y1
          replace y2 := BW.cell y2
          replace y3 := BW.cell y3
          replace hc := BW.cell hc
          have hne : Nonempty (BW wa) := ⟨⟨wa, Below.refl _ _⟩⟩
          have q0 : (0 : Int) ≤ (n : Int) := Int.natCast_nonneg n
          have q00 : (n : Int) < (l2.length : Int) := by omega
          by_cases q3 : ¬ (0 ≤ xs ∧ xs < (l1.length : Int))
          · have q3' := decide_eq_false q3
            have HN := hid (HN.out (by intro q; have := (q.p k hlt).2.2.1; have := (q.p k hlt).2.2.2.1; simp only [HX.out] at *; exact q3 ⟨by assumption, by assumption⟩))
            clear q3
            refine wp_region_bw (by kernel_rfl) (by kernel_rfl) ?_
            repeat (go_big_quiet_step (first
              | (go_at_call 44; refine bw_same (isHost _ _))
              | (go_at_call 54; refine bw_same (fitsSector _ _))
              | (go_at_call 45; refine bw_below (isSector _ _ _ _ _ _ _ rfl _))))
            refine wpQuiet_nil ?_
            intro _ hw'
            obtain ⟨u, hw''⟩ := hw'
            subst hw''
            go_wp2
            go_ret
            exact ⟨by rw [HN.out]; rfl, HBw1.out.trans (u.bel.mono HBw1.out.size)⟩
          replace q3 := Classical.not_not.mp q3
          have q3' := decide_eq_true q3
          have HQ3 := hid q3
          clear q3
          by_cases q5 : ¬ (xt.size : Int) ≤ 700
          · have q5' := decide_eq_false q5
            have HN := hid (HN.out (by intro q; have := (q.p k hlt).2.2.2.2; simp only [HX.out] at this; exact q5 this))
            clear q5
            refine wp_region_bw (by kernel_rfl) (by kernel_rfl) ?_
            repeat (go_big_quiet_step (first
              | (go_at_call 44; refine bw_same (isHost _ _))
              | (go_at_call 54; refine bw_same (fitsSector _ _))
              | (go_at_call 45; refine bw_below (isSector _ _ _ _ _ _ _ rfl _))))
            refine wpQuiet_nil ?_
            intro _ hw'
            obtain ⟨u, hw''⟩ := hw'
            subst hw''
            go_wp2
            go_ret
            exact ⟨by rw [HN.out]; rfl, HBw1.out.trans (u.bel.mono HBw1.out.size)⟩
          replace q5 := Classical.not_not.mp q5
          have q5' := decide_eq_true q5
          have HQ5 := hid q5
          clear q5
          refine wp_region_bw (by kernel_rfl) (by kernel_rfl) ?_
          repeat (go_big_quiet_step (first
            | (go_at_call 44; refine bw_same (isHost _ _))
            | (go_at_call 54; refine bw_same (fitsSector _ _))
            | (go_at_call 45; refine bw_below (isSector _ _ _ _ _ _ _ rfl _))))
          refine wpQuiet_nil ?_
          intro _ hw'
          obtain ⟨u, hw''⟩ := hw'
          subst hw''
          go_wp2
          exact ⟨⟨k + 1, by omega, by go_num, fun j hj => by
            by_cases h : j = k
            · subst h
              rw [HX.out]
              exact ⟨HQ1.out, by simpa using HYE.out.symm, HQ3.out.1, HQ3.out.2, HQ5.out⟩
            · exact HP.out j (by omega), HB1.out.trans (u.bel.mono HB1.out.size)⟩, by simp [intOf]; omega⟩
        obtain rfl : k = l3.length := by omega
        have HY := hid (HY.out ⟨by show 1 ≤ l1.length; omega, by show l1.length ≤ 40; omega, by show l2.length = 3; omega, by show l3.length ≤ 40; omega, HJ.out, HE.out, HP.out⟩)
        go_wp2
        go_ret
        exact ⟨by rw [HY.out]; rfl, HBw.out⟩

end Go.Proofs.Ytnkipjlkhnmilaa.Mem

namespace Go.Proofs.Ytnkipjlkhnmilaa.Mem
open Go.RowKit
set_option linter.unusedVariables false

/-- What a host sees is the last of its writes, or what stands. -/
theorem see_q (D : Dk) (h s : Int) : ∀ k, D.see h s k = match (qAt D.pe k h s).getLast? with | some i => (D.pe.getD i Wt.none).text | none => D.sec.getD s.toNat ByteArray.empty
  | 0 => rfl
  | k + 1 => by
    have e := congrFun (congrFun (qAt_succ D.pe k) h) s
    have ih := see_q D h s k
    show (if (D.pe.getD k Wt.none).host = h ∧ (D.pe.getD k Wt.none).sector = s then (D.pe.getD k Wt.none).text else D.see h s k) = _
    by_cases c : (D.pe.getD k Wt.none).host = h ∧ (D.pe.getD k Wt.none).sector = s
    · rw [if_pos c, e, ← c.1, ← c.2, upd_same]
      simp
    · rw [if_neg c, e, upd_other _ _ (fun q => c ⟨q.1.symm, q.2.symm⟩)]
      exact ih

theorem qAt_mem {l : List Wt} {k : Nat} {h s : Int} {i : Nat} (hi : i ∈ qAt l k h s) : i < k ∧ (l.getD i Wt.none).host = h ∧ (l.getD i Wt.none).sector = s := by
  unfold qAt at hi
  obtain ⟨h1, h2⟩ := List.mem_filter.1 hi
  have := of_decide_eq_true h2
  exact ⟨by simpa using h1, this.1, this.2⟩

theorem Dk.Right.okK {D : Dk} (h : D.Right) : ∀ j, j < D.pe.length → OkK (D.pe.getD j Wt.none).host (D.pe.getD j Wt.none).sector := fun j hj => by
  have := h.p j hj
  have h2 := h.n2
  exact ⟨this.1, this.2.2.1, by have := this.2.2.2.1; omega⟩

/-- Cell i of a queue. -/
theorem q_cell {w : World} {B : Nat} {v : Value} {l : List Nat} {g n cap : Nat} (r : RowO w B 3 1 v l.length (qCells l)) (hv : v = .slice (some ⟨g, 0, none⟩) n cap) (i : Nat) (hi : i < l.length) : w.cell? ⟨g, i, none⟩ = some (.int .i64 ((l.getD i 0 : Nat) : Int)) := by
  obtain ⟨a, c, e, hw⟩ := r.wr
  rw [hv] at e
  cases e
  obtain ⟨b, off, e2, _, hc, _⟩ := hw i (by omega)
  cases e2
  rw [Nat.zero_add] at hc
  rw [hc]
  unfold qCells
  simp [List.getD, hi]

set_option maxRecDepth 100000 in
set_option maxHeartbeats 4000000 in
theorem implPeek : PeekDoes := by
  intro w v D x s h hd hs
  have HH := hid h
  have HD := hid hd
  obtain ⟨a1, c1, a2, c2, a3, c3, rfl, _, _, _⟩ := h
  clear hd hs
  have hp : D.peek x s = if D.right = true ∧ (0 ≤ x ∧ x < 3) ∧ 0 ≤ s ∧ s < (D.sec.length : Int) then (D.see x s D.pe.length, true) else (ByteArray.empty, false) := rfl
  generalize D.peek x s = P at *
  obtain ⟨P1, P2⟩ := P
  have HP := hid hp
  clear hp
  simp only []
  obtain ⟨wb, hwb, ez, A0, B0⟩ := one_new w [.slice a1 D.sec.length c1, .slice a2 D.ep.length c2, .slice a3 D.pe.length c3] 28
  have k0 := A0.c 0 rfl
  have k1 := A0.c 1 rfl
  have k2 := A0.c 2 rfl
  go_enter Try.func14, Try.ntmps14
  go_wp2_with fail
  refine (implDiskOk wb _ D (HH.out.below B0) HD.out).mono ?_
  rintro e w1 ⟨rfl, b1⟩
  have HA := hid (A0.below b1 A0.lt)
  have HB := hid (B0.trans (b1.mono B0.size))
  clear A0 B0 b1 hwb ez k0 k1 k2
  have k0 := HA.out.c 0 rfl
  have k1 := HA.out.c 1 rfl
  have k2 := HA.out.c 2 rfl
  by_cases hr : ¬ D.right = true
  · have HP1 := hid (HP.out.trans (if_neg (fun q => hr q.1)))
    have hr' : D.right = false := by simpa using hr
    clear hr
    go_wp2
    go_ret2
    cases HP1.out
    exact ⟨rfl, HB.out⟩
  replace hr := Classical.not_not.mp hr
  have HT := hid (Dk.of_right hr)
  go_wp2_with fail
  refine (isHost x w1).mono ?_
  rintro e w1' ⟨rfl, hw⟩
  subst hw
  by_cases g1 : ¬ (0 ≤ x ∧ x < 3)
  · have g1' := decide_eq_false g1
    have HP1 := hid (HP.out.trans (if_neg (fun q => g1 q.2.1)))
    clear g1
    go_wp2
    go_ret2
    cases HP1.out
    exact ⟨rfl, HB.out⟩
  replace g1 := Classical.not_not.mp g1
  have g1' := decide_eq_true g1
  have HG1 := hid g1
  clear g1
  go_wp2_with fail
  refine (isSector w1' _ _ _ a1 D.sec.length c1 rfl s).mono ?_
  rintro e w2 ⟨rfl, b2⟩
  have HA2 := hid (HA.out.below b2 HA.out.lt)
  have HB2 := hid (HB.out.trans (b2.mono HB.out.size))
  clear HA HB b2 k0 k1 k2
  have k0 := HA2.out.c 0 rfl
  have k1 := HA2.out.c 1 rfl
  have k2 := HA2.out.c 2 rfl
  by_cases g2 : ¬ (0 ≤ s ∧ s < (D.sec.length : Int))
  · have g2' := decide_eq_false g2
    have HP1 := hid (HP.out.trans (if_neg (fun q => g2 q.2.2)))
    clear g2
    go_wp2
    go_ret2
    cases HP1.out
    exact ⟨rfl, HB2.out⟩
  replace g2 := Classical.not_not.mp g2
  have g2' := decide_eq_true g2
  have HG2 := hid g2
  have HP1 := hid (HP.out.trans (if_pos ⟨hr, HG1.out, g2⟩))
  have hok : OkK x s := ⟨HG1.out, g2.1, by have := g2.2; have := HT.out.n2; omega⟩
  have HK := hid hok
  clear hok g1' hr
  obtain ⟨_, _, _, _, _, _, ev, sx1, _, sx3⟩ := HH.out.below HB2.out
  cases ev
  have HS1 := hid sx1
  have HS3 := hid sx3
  clear sx1 sx3
  go_wp2_with fail
  refine (queuesOf w2 a3 c3 D.pe HS3.out HT.out.p40 HT.out.okK).mono ?_
  rintro e w3 ⟨rfl, ⟨n, M, V, hn, q⟩, b3⟩
  have HB3 := hid (HB2.out.trans (b3.mono HB2.out.size))
  have HA3 := hid (HA2.out.below b3 HA2.out.lt)
  clear k0 k1 k2
  have k0 := HA3.out.c 0 rfl
  have k1 := HA3.out.c 1 rfl
  have k2 := HA3.out.c 2 rfl
  have hlk := q.look_ok HK.out
  have hrow := hid (q.row x s HK.out)
  have hsee := hid (see_q D x s D.pe.length)
  have HL := hid (qAt_len D.pe D.pe.length x s)
  have HM := hid (fun i => qAt_mem (l := D.pe) (k := D.pe.length) (h := x) (s := s) (i := i))
  replace hlk : (Instr.lookup 68 (.map (some w2.heap.size)) (.agg #[.int .i64 x, .int .i64 s]) true).run Try.prog w3 = .ok (.tuple #[V x s, .bool (decide (qAt D.pe D.pe.length x s ≠ []))]) w3 := hlk
  have b3' := hid b3
  clear q b3
  generalize qAt D.pe D.pe.length x s = Z at *
  by_cases hZ : Z = []
  · subst hZ
    have hsee' := hid (show D.see x s D.pe.length = D.sec.getD s.toNat ByteArray.empty from hsee.out)
    obtain ⟨sn, rfl⟩ : ∃ n : Nat, s = (n : Int) := Int.eq_ofNat_of_zero_le HG2.out.1
    have hsl : (sn : Int) < (D.sec.length : Int) := HG2.out.2
    have hs0 : (0 : Int) ≤ (sn : Int) := Int.natCast_nonneg sn
    obtain ⟨bb, oo, rfl, hc⟩ := (HS1.out.below b3'.out) sn (by omega)
    replace hc : w3.cell? ⟨bb, oo + sn, none⟩ = some (.string (D.sec.getD sn ByteArray.empty)) := hc
    generalize hy : D.sec.getD sn ByteArray.empty = y at hc
    have HY := hid hy
    clear hy
    have hlk2 : (Instr.lookup 68 (.map (some w2.heap.size)) (.agg #[.int .i64 x, .int .i64 (sn : Int)]) true).run Try.prog w3 = .ok (.tuple #[V x sn, .bool false]) w3 := by rw [hlk]; rfl
    clear hlk
    go_wp2
    go_ret2
    have e := HP1.out
    rw [hsee'.out, Int.toNat_natCast, HY.out] at e
    cases e
    exact ⟨rfl, HB3.out⟩
  · obtain ⟨Z', i, rfl⟩ : ∃ Z' i, Z = Z' ++ [i] := ⟨Z.dropLast, Z.getLast hZ, (List.dropLast_concat_getLast hZ).symm⟩
    have hsee' := hid (show D.see x s D.pe.length = (D.pe.getD i Wt.none).text from by rw [hsee.out]; simp)
    have hi := (HM.out i (by simp)).1
    obtain ⟨g, c, hv⟩ := hrow.out.form (by simp)
    have hc0 := q_cell hrow.out hv Z'.length (by simp)
    rw [show (Z' ++ [i]).getD Z'.length 0 = i from by simp] at hc0
    have hZl : Z'.length + 1 ≤ 40 := by
      have h1 := HL.out
      have h2 := HT.out.p40
      simp at h1
      omega
    obtain ⟨b, off, rfl, _, _, _, x3⟩ := Wts.at_ (HS3.out.below b3'.out) i hi
    generalize hy : (D.pe.getD i Wt.none).text = y at x3 hsee'
    have hi1 : (i : Int) < (D.pe.length : Int) := by omega
    have hi0 : (0 : Int) ≤ (i : Int) := Int.natCast_nonneg i
    have hd3 : (D.pe.length : Int) ≤ 40 := by have := HT.out.p40; omega
    have hlk2 : (Instr.lookup 68 (.map (some w2.heap.size)) (.agg #[.int .i64 x, .int .i64 s]) true).run Try.prog w3 = .ok (.tuple #[.slice (some ⟨g, 0, none⟩) (Z'.length + 1) (c + 1), .bool true]) w3 := by
      rw [hlk, hv]
      simp
    have HV := hid hv
    clear hlk hv hZ hy hi
    generalize Z'.length = m at *
    go_wp2
    go_quiet (fail)
    go_wp2
    go_ret2
    have e := HP1.out
    rw [hsee'.out] at e
    cases e
    exact ⟨rfl, below_drewN HB3.out _⟩

end Go.Proofs.Ytnkipjlkhnmilaa.Mem

namespace Go.Proofs.Ytnkipjlkhnmilaa.Mem
open Go.RowKit
set_option linter.unusedVariables false

set_option maxRecDepth 100000 in
set_option maxHeartbeats 2000000 in
theorem copyDisk (w : World) (v : Value) (D : Dk) (h : DkR w v D) (h1 : D.sec.length ≤ 1048576) (h2 : D.ep.length ≤ 1048576) (h3 : D.pe.length ≤ 1048576) :
    Calls Try.prog 37 #[v] w fun e w' => ∃ v', e = .returned v' ∧ DkO w' w.heap.size v' D ∧ Below w.heap.size w w' := by
  obtain ⟨a1, c1, a2, c2, a3, c3, rfl, s1, s2, s3⟩ := h
  have HS1 := hid (strs_sl s1)
  have HS2 := hid (ints_sl s2)
  have HS3 := hid (wts_sl s3)
  clear s1 s2 s3
  go_enter Try.func37, Try.ntmps37
  go_wp2
  obtain ⟨wc, hwc, ec, A0, R0, B0⟩ := two_new w [.slice a1 D.sec.length c1, .slice a2 D.ep.length c2, .slice a3 D.pe.length c3] [.slice none 0 0, .slice none 0 0, .slice none 0 0] 28 28
  simp only [hwc]
  clear hwc
  have k0 := A0.c 0 rfl
  have k1 := A0.c 1 rfl
  have k2 := A0.c 2 rfl
  have HB := hid B0
  have hn : w.heap.size + 1 ≤ wc.heap.size := by omega
  have hcp : CpRest wc w.heap.size wc.drew := ⟨(Below.refl _ wc).drew, fun j hj => by
    match j, hj with
    | 0, _ => exact ⟨_, R0.c 0 rfl⟩
    | 1, _ => exact ⟨_, R0.c 1 rfl⟩
    | 2, _ => exact ⟨_, R0.c 2 rfl⟩, fun j _ => R0.f j⟩
  have Q0 := hid (show wc.drew.cell? ⟨w.heap.size, 0, none⟩ = some (.slice a1 D.sec.length c1) ∧ wc.drew.cell? ⟨w.heap.size, 1, none⟩ = some (.slice a2 D.ep.length c2) ∧ wc.drew.cell? ⟨w.heap.size, 2, none⟩ = some (.slice a3 D.pe.length c3) ∧ CpRest wc w.heap.size wc.drew from ⟨k0, k1, k2, hcp⟩)
  clear A0 R0 B0 hcp k0 k1 k2
  go_region_held_law (fun w' => w'.cell? ⟨w.heap.size, 0, none⟩ = some (.slice a1 D.sec.length c1) ∧ w'.cell? ⟨w.heap.size, 1, none⟩ = some (.slice a2 D.ep.length c2) ∧ w'.cell? ⟨w.heap.size, 2, none⟩ = some (.slice a3 D.pe.length c3) ∧ CpRest wc w.heap.size w')
    (first | with_reducible exact Q0.out | with_reducible exact Q3.out | with_reducible exact Q2.out | with_reducible exact Q1.out | (with_reducible refine cp_alloc_drew hn ?_ _; with_reducible assumption) | (with_reducible refine cp_alloc hn ?_ _; with_reducible assumption) | (with_reducible refine cp_set (cp_set (cp_set ?_ 0 _) 1 _) 2 _; with_reducible assumption))
    (first
      | (refine step_app_empty 24 9 (.string ByteArray.empty) 1 16 Try.underlying24 info9' rfl (by decide) (by decide) rfl (.const (.slice none 0 0)) (.tmp 4) rfl _ rfl a1 D.sec.length c1 (sCells D.sec) rfl (by simp [sCells]) (cp_sl HS1.out HB.out rfl (by with_reducible assumption)) (sCells_one _) h1 ?_; intro v1 w1 r1 b1 z1 y1; replace r1 := r1.mono (cp_size (wc := wc) (n := w.heap.size) (x0 := .slice a1 D.sec.length c1) (x1 := .slice a2 D.ep.length c2) (x2 := .slice a3 D.pe.length c3) (by with_reducible assumption)); obtain ⟨p1, d1, e1, _⟩ := r1.wr; subst e1; have Q1 := hid (cp_below (wc := wc) (n := w.heap.size) (x0 := .slice a1 D.sec.length c1) (x1 := .slice a2 D.ep.length c2) (x2 := .slice a3 D.pe.length c3) hn b1 (by with_reducible assumption)); have R1 := hid r1; have Z1 := hid z1; have Y1 := hid y1; clear r1 b1 z1 y1)
      | (refine step_app_empty 26 44 Wt.none.val 4 40 Try.underlying26 infoW rfl (by decide) (by decide) rfl (.const (.slice none 0 0)) (.tmp 10) rfl _ rfl a3 D.pe.length c3 (wCells D.pe) rfl (wCells_length _) (cp_sl HS3.out HB.out rfl (by with_reducible assumption)) (wCells_one _) h3 ?_; intro v3 w3 r3 b3 z3 y3; replace r3 := r3.mono (cp_size (wc := wc) (n := w.heap.size) (x0 := .slice a1 D.sec.length c1) (x1 := .slice a2 D.ep.length c2) (x2 := .slice a3 D.pe.length c3) (by with_reducible assumption)); obtain ⟨p3, d3, e3, _⟩ := r3.wr; subst e3; have Q3 := hid (cp_below (wc := wc) (n := w.heap.size) (x0 := .slice a1 D.sec.length c1) (x1 := .slice a2 D.ep.length c2) (x2 := .slice a3 D.pe.length c3) hn b3 (by with_reducible assumption)); have T23 := hid (show Below w2.heap.size w2 w3 from (by first | with_reducible exact b3 | with_reducible exact below_a1 b3 | with_reducible exact below_a2 b3)); have R1'' := hid (R1'.out.below T23.out); have R2' := hid (R2.out.below T23.out); have S23 := hid (apart_fresh Z2.out Y2.out z3 y3 (by first | with_reducible exact Nat.le_refl _ | with_reducible exact Nat.le_of_lt (lt_alloc _ _) | with_reducible exact Nat.le_of_lt (Nat.lt_trans (lt_alloc _ _) (lt_alloc _ _)))); have S13 := hid (apart_fresh Z1.out Y1.out z3 y3 (Nat.le_trans T12.out.size (by first | with_reducible exact Nat.le_refl _ | with_reducible exact Nat.le_of_lt (lt_alloc _ _) | with_reducible exact Nat.le_of_lt (Nat.lt_trans (lt_alloc _ _) (lt_alloc _ _))))); obtain ⟨u0, g0⟩ := Q3.out.2.2.2.s 0 (by decide); obtain ⟨u1, g1⟩ := Q3.out.2.2.2.s 1 (by decide); obtain ⟨u2, g2⟩ := Q3.out.2.2.2.s 2 (by decide); have f0 := Q3.out.2.2.2.f 0 (by decide); have f1 := Q3.out.2.2.2.f 1 (by decide); have f2 := Q3.out.2.2.2.f 2 (by decide); have R3 := hid r3; have Z3 := hid z3; have Y3 := hid y3; clear r3 b3 z3 y3)
      | (refine step_app_empty 25 3 (.int .i64 0) 1 8 Try.underlying25 info3' rfl (by decide) (by decide) rfl (.const (.slice none 0 0)) (.tmp 7) rfl _ rfl a2 D.ep.length c2 (iCells D.ep) rfl (by simp [iCells]) (cp_sl HS2.out HB.out rfl (by with_reducible assumption)) (iCells_one _) h2 ?_; intro v2 w2 r2 b2 z2 y2; replace r2 := r2.mono (cp_size (wc := wc) (n := w.heap.size) (x0 := .slice a1 D.sec.length c1) (x1 := .slice a2 D.ep.length c2) (x2 := .slice a3 D.pe.length c3) (by with_reducible assumption)); obtain ⟨p2, d2, e2, _⟩ := r2.wr; subst e2; have Q2 := hid (cp_below (wc := wc) (n := w.heap.size) (x0 := .slice a1 D.sec.length c1) (x1 := .slice a2 D.ep.length c2) (x2 := .slice a3 D.pe.length c3) hn b2 (by with_reducible assumption)); have T12 := hid (show Below w1.heap.size w1 w2 from (by first | with_reducible exact b2 | with_reducible exact below_a1 b2 | with_reducible exact below_a2 b2)); have R1' := hid (R1.out.below T12.out); have S12 := hid (apart_fresh Z1.out Y1.out z2 y2 (by first | with_reducible exact Nat.le_refl _ | with_reducible exact Nat.le_of_lt (lt_alloc _ _) | with_reducible exact Nat.le_of_lt (Nat.lt_trans (lt_alloc _ _) (lt_alloc _ _)))); have R2 := hid r2; have Z2 := hid z2; have Y2 := hid y2; clear r2 b2 z2 y2))
  all_goals clear Q0
  all_goals (go_wp2; refine bodyPost_ret (results_mid rfl _ _ (w.heap.size + 1) [.slice p1 D.sec.length d1, .slice p2 D.ep.length d2, .slice p3 D.pe.length d3] _ rfl (range3 g0 g1 g2) Try.underlying28 rfl (by kernel_rfl)) rfl ?_; exact ⟨_, rfl, copy_end ec HB.out Q3.out.2.2.2.bel R1''.out R2'.out R3.out S12.out S13.out S23.out⟩)

end Go.Proofs.Ytnkipjlkhnmilaa.Mem

namespace Go.Proofs.Ytnkipjlkhnmilaa.Mem
open Go.RowKit
set_option linter.unusedVariables false

structure ISt (w : World) (a0 a1 a2 : Value) (B nn : Nat) (p0 p1 p2 : Value) (E : Dk) (wk : World) : Prop where
  bel : Below w.heap.size w wk
  ra : Row wk w.heap.size [a0, a1, a2]
  rr : Row wk (w.heap.size + 1) [.slice none 0 0, .slice none 0 0, .slice none 0 0]
  rn : Row wk nn [p0, p1, p2]
  o : DkO wk B (.agg #[p0, p1, p2]) E
  lb : w.heap.size + 1 < B
  ln : B ≤ nn
  far : ∀ b, DkB (.agg #[p0, p1, p2]) b → b ≠ nn

theorem ISt.below {w : World} {a0 a1 a2 : Value} {B nn : Nat} {p0 p1 p2 : Value} {E : Dk} {wk w' : World} (h : ISt w a0 a1 a2 B nn p0 p1 p2 E wk) (b : Below wk.heap.size wk w') : ISt w a0 a1 a2 B nn p0 p1 p2 E w' :=
  ⟨h.bel.trans (b.mono h.bel.size), h.ra.below b h.ra.lt, h.rr.below b h.rr.lt, h.rn.below b h.rn.lt, h.o.below b, h.lb, h.ln, h.far⟩

theorem ISt.cells {w : World} {a0 a1 a2 : Value} {B nn : Nat} {p0 p1 p2 : Value} {E : Dk} {wk : World} (h : ISt w a0 a1 a2 B nn p0 p1 p2 E wk) :
    wk.cell? ⟨w.heap.size, 0, none⟩ = some a0 ∧ wk.cell? ⟨w.heap.size, 1, none⟩ = some a1 ∧ wk.cell? ⟨w.heap.size, 2, none⟩ = some a2 ∧
    wk.cell? ⟨w.heap.size + 1, 0, none⟩ = some (.slice none 0 0) ∧ wk.cell? ⟨w.heap.size + 1, 1, none⟩ = some (.slice none 0 0) ∧ wk.cell? ⟨w.heap.size + 1, 2, none⟩ = some (.slice none 0 0) ∧
    wk.frozen? ⟨w.heap.size + 1, 0, none⟩ = false ∧ wk.frozen? ⟨w.heap.size + 1, 1, none⟩ = false ∧ wk.frozen? ⟨w.heap.size + 1, 2, none⟩ = false ∧
    wk.cell? ⟨nn, 0, none⟩ = some p0 ∧ wk.cell? ⟨nn, 1, none⟩ = some p1 ∧ wk.cell? ⟨nn, 2, none⟩ = some p2 ∧ wk.frozen? ⟨nn, 2, none⟩ = false :=
  ⟨h.ra.c 0 rfl, h.ra.c 1 rfl, h.ra.c 2 rfl, h.rr.c 0 rfl, h.rr.c 1 rfl, h.rr.c 2 rfl, h.rr.f 0, h.rr.f 1, h.rr.f 2, h.rn.c 0 rfl, h.rn.c 1 rfl, h.rn.c 2 rfl, h.rn.f 2⟩

/-- The own disk is handed back. -/
theorem ISt.done {w : World} {a0 a1 a2 : Value} {B nn : Nat} {p0 p1 p2 : Value} {E : Dk} {wk : World} (h : ISt w a0 a1 a2 B nn p0 p1 p2 E wk) :
    DkW (((wk.setCell ⟨w.heap.size + 1, 0, none⟩ p0).setCell ⟨w.heap.size + 1, 1, none⟩ p1).setCell ⟨w.heap.size + 1, 2, none⟩ p2) w.heap.size (.agg #[p0, p1, p2]) E ∧
    Below w.heap.size w (((wk.setCell ⟨w.heap.size + 1, 0, none⟩ p0).setCell ⟨w.heap.size + 1, 1, none⟩ p1).setCell ⟨w.heap.size + 1, 2, none⟩ p2) ∧
    Row (((wk.setCell ⟨w.heap.size + 1, 0, none⟩ p0).setCell ⟨w.heap.size + 1, 1, none⟩ p1).setCell ⟨w.heap.size + 1, 2, none⟩ p2) (w.heap.size + 1) [p0, p1, p2] :=
  wrap_end h.lb h.bel h.o (Below.refl _ _) h.rr

theorem ISt.start {w w1 w2 wn : World} {a0 a1 a2 p0 p1 p2 : Value} {E : Dk} (HB : Below w.heap.size w w1) (HA : Row w1 w.heap.size [a0, a1, a2]) (HR : Row w1 (w.heap.size + 1) [.slice none 0 0, .slice none 0 0, .slice none 0 0])
    (O : DkO w2 w1.heap.size (.agg #[p0, p1, p2]) E) (b2 : Below w1.heap.size w1 w2) (N0 : Row wn w2.heap.size [p0, p1, p2]) (bn : Below w2.heap.size w2 wn) : ISt w a0 a1 a2 w1.heap.size w2.heap.size p0 p1 p2 E wn :=
  ⟨(HB.trans (b2.mono HB.size)).trans (bn.mono (Nat.le_trans HB.size b2.size)), (HA.below b2 HA.lt).below bn (HA.below b2 HA.lt).lt, (HR.below b2 HR.lt).below bn (HR.below b2 HR.lt).lt, N0, O.below bn, HR.lt, b2.size, fun b hb => by have := (O.lt hb).2; omega⟩

theorem Row.otherK {S : Nat → Prop} {w w' : World} {g : Nat} {xs : List Value} (h : Row w g xs) (k : Kept S w w') (hg : ¬ S g) : Row w' g xs := h.kept k hg

/-- A sector of the own disk is stored. -/
theorem ISt.setSec {w : World} {a0 a1 a2 : Value} {B nn : Nat} {g n cap i : Nat} {p1 p2 : Value} {E : Dk} {wk : World} (h : ISt w a0 a1 a2 B nn (.slice (some ⟨g, 0, none⟩) n (cap + 1)) p1 p2 E wk) (hi : i < E.sec.length) (t : ByteArray) :
    ISt w a0 a1 a2 B nn (.slice (some ⟨g, 0, none⟩) n (cap + 1)) p1 p2 ⟨E.sec.set i t, E.ep, E.pe⟩ (wk.setCell ⟨g, i, none⟩ (.string t)) := by
  have hg := h.o.lt (b := g) ⟨_, _, _, rfl, Or.inl rfl⟩
  have hf := h.far g ⟨_, _, _, rfl, Or.inl rfl⟩
  have k := kept_set wk g i (.string t)
  have := h.lb
  exact ⟨below_set h.bel g i _ (by omega), h.ra.kept k (by omega), h.rr.kept k (by omega), h.rn.kept k (fun e => hf e.symm), h.o.setSec hi t, h.lb, h.ln, h.far⟩

/-- An epoch of the own disk is stored. -/
theorem ISt.setEp {w : World} {a0 a1 a2 : Value} {B nn : Nat} {g n cap i : Nat} {p0 p2 : Value} {E : Dk} {wk : World} (h : ISt w a0 a1 a2 B nn p0 (.slice (some ⟨g, 0, none⟩) n (cap + 1)) p2 E wk) (hi : i < E.ep.length) (z : Int) :
    ISt w a0 a1 a2 B nn p0 (.slice (some ⟨g, 0, none⟩) n (cap + 1)) p2 ⟨E.sec, E.ep.set i z, E.pe⟩ (wk.setCell ⟨g, i, none⟩ (.int .i64 z)) := by
  have hg := h.o.lt (b := g) ⟨_, _, _, rfl, Or.inr (Or.inl rfl)⟩
  have hf := h.far g ⟨_, _, _, rfl, Or.inr (Or.inl rfl)⟩
  have k := kept_set wk g i (.int .i64 z)
  have := h.lb
  exact ⟨below_set h.bel g i _ (by omega), h.ra.kept k (by omega), h.rr.kept k (by omega), h.rn.kept k (fun e => hf e.symm), h.o.setEp hi z, h.lb, h.ln, h.far⟩

/-- Another list of writes is laid into the own disk. -/
theorem ISt.setPend {w : World} {a0 a1 a2 : Value} {B nn : Nat} {p0 p1 p2 v : Value} {E : Dk} {wk w2 : World} {l : List Wt} (h : ISt w a0 a1 a2 B nn p0 p1 p2 E wk) (b : Below wk.heap.size wk w2) (r : RowO w2 wk.heap.size 44 4 v l.length (wCells l)) :
    ISt w a0 a1 a2 B nn p0 p1 v ⟨E.sec, E.ep, l⟩ (w2.setCell ⟨nn, 2, none⟩ v) := by
  have hn := h.rn.lt
  have hB : B ≤ wk.heap.size := by have := h.ln; omega
  have o2 := h.o.swapped b hB r
  have far : ∀ c, DkB (.agg #[p0, p1, v]) c → c ≠ nn := by
    rintro c ⟨_, _, _, e, hc⟩
    cases e
    rcases hc with hc | hc | hc
    · exact h.far c ⟨_, _, _, rfl, Or.inl hc⟩
    · exact h.far c ⟨_, _, _, rfl, Or.inr (Or.inl hc)⟩
    · have := (r.lt hc).1; omega
  have k := kept_set w2 nn 2 v
  have := h.lb
  have := h.ln
  have h2 := h.below b
  exact ⟨below_set h2.bel nn 2 _ (by omega), h2.ra.kept k (by omega), h2.rr.kept k (by omega), by simpa using h2.rn.set 2 v, o2.kept k (fun c hc => far c hc), h.lb, h.ln, far⟩

/-- A write is appended to the own disk's. -/
theorem ISt.app {w : World} {a0 a1 a2 : Value} {B nn : Nat} {p0 p1 p2 v : Value} {E : Dk} {wk wa w2 : World} {x : Wt} (h : ISt w a0 a1 a2 B nn p0 p1 p2 E wk) (b : Below wk.heap.size wk wa) (k : Kept (fun b => rb p2 = some b) wa w2)
    (r : RowO w2 B 44 4 v (E.pe.length + 1) (wCells E.pe ++ x.cells)) (hi : rb v = none ∨ rb v = rb p2 ∨ (rb v = some wa.heap.size ∧ wa.heap.size < w2.heap.size)) :
    ISt w a0 a1 a2 B nn p0 p1 v ⟨E.sec, E.ep, E.pe ++ [x]⟩ (w2.setCell ⟨nn, 2, none⟩ v) := by
  have ha := h.below b
  have o2 := h.o.more1 b k r hi
  have hn := h.rn.lt
  have hsz := b.size
  have far : ∀ c, DkB (.agg #[p0, p1, v]) c → c ≠ nn := by
    rintro c ⟨_, _, _, e, hc⟩
    cases e
    rcases hc with hc | hc | hc
    · exact h.far c ⟨_, _, _, rfl, Or.inl hc⟩
    · exact h.far c ⟨_, _, _, rfl, Or.inr (Or.inl hc)⟩
    · rcases hi with e | e | e
      · rw [e] at hc; cases hc
      · rw [e] at hc; exact h.far c ⟨_, _, _, rfl, Or.inr (Or.inr hc)⟩
      · rw [e.1] at hc; cases hc; omega
  have p2B : ∀ c, rb p2 = some c → B ≤ c := fun c hc => (h.o.lt ⟨_, _, _, rfl, Or.inr (Or.inr hc)⟩).1
  have p2n : ¬ rb p2 = some nn := fun e => h.far nn ⟨_, _, _, rfl, Or.inr (Or.inr e)⟩ rfl
  have k2 := kept_set w2 nn 2 v
  have := h.lb
  have := h.ln
  have n2 := ha.rn.kept k p2n
  refine ⟨below_set (ha.bel.trans (k.below ha.bel.size (fun c hc e => by have := p2B c e; omega))) nn 2 _ (by omega), (ha.ra.kept k (fun e => by have := p2B _ e; omega)).kept k2 (by omega), (ha.rr.kept k (fun e => by have := p2B _ e; omega)).kept k2 (by omega), by simpa using n2.set 2 v, o2.kept k2 (fun c hc => far c hc), h.lb, h.ln, far⟩

end Go.Proofs.Ytnkipjlkhnmilaa.Mem

namespace Go.Proofs.Ytnkipjlkhnmilaa.Mem
open Go.RowKit
set_option linter.unusedVariables false

theorem qAt_empty (l : List Wt) (h s : Int) : qAt l l.length h s = [] ↔ ¬ ∃ j, j < l.length ∧ (l.getD j Wt.none).host = h ∧ (l.getD j Wt.none).sector = s := by
  unfold qAt
  rw [List.filter_eq_nil_iff]
  constructor
  · rintro hh ⟨j, h1, h2⟩
    exact hh j (by simpa using h1) (decide_eq_true h2)
  · intro hh j hj e
    exact hh ⟨j, by simpa using hj, of_decide_eq_true e⟩

theorem swap_refuse (D : Dk) (x ep s : Int) (old t : ByteArray) : D.swap x ep s old t = if D.refuse x ep s [old, t] = 0 then (if D.sec.getD s.toNat ByteArray.empty = old ∧ qAt D.pe D.pe.length x s = [] then (⟨D.sec.set s.toNat t, D.ep, D.pe⟩, 0) else (D, 4)) else (D, D.refuse x ep s [old, t]) := by
  have e : (∀ j, j < [old, t].length → (([old, t].getD j ByteArray.empty).size : Int) ≤ 700) ↔ (t.size : Int) ≤ 700 ∧ (old.size : Int) ≤ 700 := ⟨fun h => ⟨h 1 (by simp), h 0 (by simp)⟩, fun h j hj => by
    have : j = 0 ∨ j = 1 := by simp at hj; omega
    rcases this with rfl | rfl
    · exact h.2
    · exact h.1⟩
  unfold Dk.swap Dk.refuse
  simp only [e, qAt_empty]
  by_cases h1 : ((0 ≤ x ∧ x < 3) ∧ 0 ≤ s ∧ s < (D.sec.length : Int)) ∧ (t.size : Int) ≤ 700 ∧ (old.size : Int) ≤ 700
  · rw [if_pos h1, if_pos h1]
    by_cases h2 : D.ep.getD x.toNat 0 = ep
    · simp only [if_pos h2, if_true]
    · simp only [if_neg h2]
      rfl
  · rw [if_neg h1, if_neg h1]
    rfl

theorem refuse_there {D : Dk} {x ep s : Int} {ts : List ByteArray} (h : D.refuse x ep s ts = 0) : (0 ≤ x ∧ x < 3) ∧ 0 ≤ s ∧ s < (D.sec.length : Int) := by
  unfold Dk.refuse at h
  by_cases h1 : ((0 ≤ x ∧ x < 3) ∧ 0 ≤ s ∧ s < (D.sec.length : Int)) ∧ (∀ j, j < ts.length → ((ts.getD j ByteArray.empty).size : Int) ≤ 700)
  · exact h1.1
  · rw [if_neg h1] at h; cases h

set_option maxRecDepth 100000 in
set_option maxHeartbeats 4000000 in
theorem implSwap (w : World) (v : Value) (D : Dk) (x ep s : Int) (old t : ByteArray) (h : DkR w v D) (hd : D.Held) (hs : D.Small 1048576) (hold : old.size ≤ maxLen) (ht : t.size ≤ maxLen) :
    Calls Try.prog 22 #[v, .int .i64 x, .int .i64 ep, .int .i64 s, .string old, .string t] w fun e w' => ∃ v', e = .returned (.tuple #[v', .int .i64 (D.swapA x ep s old t).2]) ∧ DkW w' w.heap.size v' (D.swapA x ep s old t).1 ∧ Below w.heap.size w w' := by
  have HH := hid h
  have HD := hid hd
  have HS := hid hs
  obtain ⟨a1, c1, a2, c2, a3, c3, rfl, _, _, _⟩ := h
  clear hd hs
  obtain ⟨wb, hwb, ez, A0, R0, B0⟩ := two_new w [.slice a1 D.sec.length c1, .slice a2 D.ep.length c2, .slice a3 D.pe.length c3] [.slice none 0 0, .slice none 0 0, .slice none 0 0] 28 28
  have k0 := A0.c 0 rfl
  have k1 := A0.c 1 rfl
  have k2 := A0.c 2 rfl
  go_enter Try.func22, Try.ntmps22
  go_wp2_with fail
  refine (implDiskOk wb _ D (HH.out.below B0) HD.out).mono ?_
  rintro e w1 ⟨rfl, b1⟩
  have HA := hid (A0.below b1 A0.lt)
  have HR := hid (R0.below b1 R0.lt)
  have HB := hid (B0.trans (b1.mono B0.size))
  clear A0 R0 B0 b1 hwb ez k0 k1 k2
  have m0 := HR.out.c 0 rfl
  have m1 := HR.out.c 1 rfl
  have m2 := HR.out.c 2 rfl
  have f0 := HR.out.f 0
  have f1 := HR.out.f 1
  have f2 := HR.out.f 2
  by_cases hr : ¬ D.right = true
  · have HP : Hid (D.swapA x ep s old t = (Dk.nil, 1)) := if_neg hr
    have hr' : D.right = false := by simpa using hr
    clear hr
    have E := hid (wrap_bad HB.out HR.out)
    go_wp2
    refine bodyPost_ret (results_row2 rfl _ _ (w.heap.size + 1) [.slice none 0 0, .slice none 0 0, .slice none 0 0] _ rfl E.out.2.2 Try.underlying28 rfl (by kernel_rfl)) rfl ?_
    rw [HP.out]
    exact ⟨_, rfl, E.out.1, E.out.2.1⟩
  replace hr := Classical.not_not.mp hr
  have HP : Hid (D.swapA x ep s old t = D.swap x ep s old t) := if_pos hr
  have HT := hid (Dk.of_right hr)
  have k0 := HA.out.c 0 rfl
  have k1 := HA.out.c 1 rfl
  have k2 := HA.out.c 2 rfl
  go_wp2_with fail
  refine (copyDisk w1 _ D (HH.out.below HB.out) HS.out.c1 HS.out.c2 HS.out.c3).mono ?_
  rintro e w2 ⟨v2, rfl, O2, b2⟩
  have HO2 := hid O2
  obtain ⟨u1, u2, u3, rfl, r1, r2, r3, _, _⟩ := O2
  obtain ⟨p1, q1, e1, _⟩ := r1.wr
  obtain ⟨p2, q2, e2, _⟩ := r2.wr
  obtain ⟨p3, q3, e3, _⟩ := r3.wr
  subst e1; subst e2; subst e3
  clear r1 r2 r3 m0 m1 m2 f0 f1 f2 k0 k1 k2
  obtain ⟨wn, hwn, en, N0, Bn⟩ := one_new w2 [.slice p1 D.sec.length q1, .slice p2 D.ep.length q2, .slice p3 D.pe.length q3] 28
  have I := hid (ISt.start HB.out HA.out HR.out HO2.out b2 N0 Bn)
  have HDn := hid (HH.out.below I.out.bel)
  clear HO2 b2 N0 Bn en HA HR HB
  obtain ⟨k0, k1, k2, m0, m1, m2, f0, f1, f2, n0, n1, n2, n3⟩ := I.out.cells
  obtain ⟨ws, hws, es, S0, Bs⟩ := one_new wn [.string old, .string t] 9
  have HBs := hid Bs
  have HSt : Hid (Strs ws (some ⟨wn.heap.size, 0, none⟩) [old, t]) := fun i hi => by
    have : i = 0 ∨ i = 1 := by simp at hi; omega
    rcases this with rfl | rfl
    · exact ⟨_, _, rfl, S0.c 0 rfl⟩
    · exact ⟨_, _, rfl, S0.c 1 rfl⟩
  have IS := hid (I.out.below Bs)
  clear S0 Bs es
  go_wp2_with fail
  refine (refusal ws _ D x ep s (some ⟨wn.heap.size, 0, none⟩) 2 [old, t] (HDn.out.below HBs.out) HT.out.e3 HSt.out (by simp [maxLen])).mono ?_
  rintro e w3 ⟨rfl, b3⟩
  have HQ := hid (swap_refuse D x ep s old t)
  have HRT := hid (refuse_there (D := D) (x := x) (ep := ep) (s := s) (ts := [old, t]))
  generalize D.refuse x ep s [old, t] = c at *
  have I3 := hid (IS.out.below b3)
  have HD3 := hid ((HDn.out.below HBs.out).below b3)
  clear hws hwn IS HBs HSt HDn I b3 k0 k1 k2 m0 m1 m2 f0 f1 f2 n0 n1 n2 n3
  obtain ⟨k0, k1, k2, m0, m1, m2, f0, f1, f2, n0, n1, n2, n3⟩ := I3.out.cells
  by_cases g1 : ¬ c = 0
  · have HP1 := hid (HP.out.trans (HQ.out.trans (if_neg g1)))
    have E := hid I3.out.done
    go_wp2
    refine bodyPost_ret (results_row2 rfl _ _ (w.heap.size + 1) [.slice p1 D.sec.length q1, .slice p2 D.ep.length q2, .slice p3 D.pe.length q3] _ rfl E.out.2.2 Try.underlying28 rfl (by kernel_rfl)) rfl ?_
    rw [HP1.out]
    exact ⟨_, rfl, E.out.1, E.out.2.1⟩
  replace g1 := Classical.not_not.mp g1
  have HP1 := hid (HP.out.trans (HQ.out.trans (if_pos g1)))
  have HG := hid (HRT.out g1)
  have HK : Hid (OkK x s) := ⟨HG.out.1, HG.out.2.1, by have := HG.out.2.2; have := HT.out.n2; omega⟩
  subst g1
  obtain ⟨_, _, _, _, _, _, ev, sx1, _, sx3⟩ := HD3.out
  cases ev
  have HS1 := hid sx1
  have HS3 := hid sx3
  clear sx1 sx3 HRT HQ
  go_wp2_with fail
  refine (queuesOf w3 a3 c3 D.pe HS3.out HT.out.p40 HT.out.okK).mono ?_
  rintro e w4 ⟨rfl, ⟨n, M, V, hn, q⟩, b4⟩
  have I4 := hid (I3.out.below b4)
  have HS4 := hid (HS1.out.below b4)
  have hlk := q.look_ok HK.out
  replace hlk : (Instr.lookup 68 (.map (some w3.heap.size)) (.agg #[.int .i64 x, .int .i64 s]) true).run Try.prog w4 = .ok (.tuple #[V x s, .bool (decide (qAt D.pe D.pe.length x s ≠ []))]) w4 := hlk
  clear q b4 I3 HD3 HS1 HS3 k0 k1 k2 m0 m1 m2 f0 f1 f2 n0 n1 n2 n3
  obtain ⟨k0, k1, k2, m0, m1, m2, f0, f1, f2, n0, n1, n2, n3⟩ := I4.out.cells
  generalize qAt D.pe D.pe.length x s = Z at *
  by_cases hZ : ¬ Z = []
  · have HP2 := hid (HP1.out.trans (if_neg (fun q => hZ q.2)))
    have hlk2 : (Instr.lookup 68 (.map (some w3.heap.size)) (.agg #[.int .i64 x, .int .i64 s]) true).run Try.prog w4 = .ok (.tuple #[V x s, .bool true]) w4 := by rw [hlk, decide_eq_true hZ]
    have E := hid I4.out.done
    clear hlk hZ
    go_wp2
    refine bodyPost_ret (results_row2 rfl _ _ (w.heap.size + 1) [.slice p1 D.sec.length q1, .slice p2 D.ep.length q2, .slice p3 D.pe.length q3] _ rfl E.out.2.2 Try.underlying28 rfl (by kernel_rfl)) rfl ?_
    rw [HP2.out]
    exact ⟨_, rfl, E.out.1, E.out.2.1⟩
  replace hZ := Classical.not_not.mp hZ
  have hlk2 : (Instr.lookup 68 (.map (some w3.heap.size)) (.agg #[.int .i64 x, .int .i64 s]) true).run Try.prog w4 = .ok (.tuple #[V x s, .bool false]) w4 := by rw [hlk, decide_eq_false (fun q => q hZ)]
  clear hlk
  obtain ⟨sn, rfl⟩ : ∃ n : Nat, s = (n : Int) := Int.eq_ofNat_of_zero_le HG.out.2.1
  have hsl : (sn : Int) < (D.sec.length : Int) := HG.out.2.2
  have hs0 : (0 : Int) ≤ (sn : Int) := Int.natCast_nonneg sn
  obtain ⟨bb, oo, rfl, hc⟩ := HS4.out sn (by omega)
  replace hc : w4.cell? ⟨bb, oo + sn, none⟩ = some (.string (D.sec.getD sn ByteArray.empty)) := hc
  generalize hy : D.sec.getD sn ByteArray.empty = y at hc
  have HY := hid hy
  clear hy
  by_cases g5 : ¬ y = old
  · have HP2 := hid (HP1.out.trans (if_neg (fun q => g5 (by have := q.1; rw [Int.toNat_natCast, HY.out] at this; exact this))))
    have E := hid I4.out.done
    have g5' := Own.eqS_no g5
    clear hZ g5
    go_wp2
    refine bodyPost_ret (results_row2 rfl _ _ (w.heap.size + 1) [.slice p1 D.sec.length q1, .slice p2 D.ep.length q2, .slice p3 D.pe.length q3] _ rfl E.out.2.2 Try.underlying28 rfl (by kernel_rfl)) rfl ?_
    rw [HP2.out]
    exact ⟨_, rfl, E.out.1, E.out.2.1⟩
  replace g5 := Classical.not_not.mp g5
  have HP2 := hid (HP1.out.trans (if_pos ⟨by rw [Int.toNat_natCast, HY.out]; exact g5, hZ⟩))
  have g5' := Own.eqS_yes g5
  clear hZ g5
  obtain ⟨gg, cc, ef⟩ : ∃ g c, Value.slice p1 D.sec.length q1 = .slice (some ⟨g, 0, none⟩) D.sec.length (c + 1) := by
    obtain ⟨_, _, _, ev, r1, _⟩ := I4.out.o
    cases ev
    exact r1.form (by omega)
  cases ef
  have I5 := hid (I4.out.setSec (i := sn) (by omega) t)
  have hcs : ∃ u, w4.cell? ⟨gg, sn, none⟩ = some u ∧ w4.frozen? ⟨gg, sn, none⟩ = false := by
    obtain ⟨_, _, _, ev, r1, _⟩ := I4.out.o
    cases ev
    obtain ⟨aa, cp, e1, hw⟩ := r1.wr
    cases e1
    obtain ⟨b, off, e2, _, hc2, hf2⟩ := hw sn (by omega)
    cases e2
    rw [Nat.zero_add] at hc2 hf2
    exact ⟨_, hc2, hf2⟩
  obtain ⟨u, hcu, hfu⟩ := hcs
  have hgg := I4.out.o.lt (b := gg) ⟨_, _, _, rfl, Or.inl rfl⟩
  have hfar := I4.out.far gg ⟨_, _, _, rfl, Or.inl rfl⟩
  have hlb := I4.out.lb
  have hne1 : ¬ gg = w.heap.size + 1 := by omega
  have hne2 : ¬ w.heap.size + 1 = gg := by omega
  have hne3 : ¬ gg = w2.heap.size := hfar
  have hne4 : ¬ w2.heap.size = gg := fun e => hfar e.symm
  have E := hid I5.out.done
  clear hgg hfar hlb
  go_wp2
  refine bodyPost_ret (results_row2 rfl _ _ (w.heap.size + 1) [.slice (some ⟨gg, 0, none⟩) D.sec.length (cc + 1), .slice p2 D.ep.length q2, .slice p3 D.pe.length q3] _ rfl E.out.2.2 Try.underlying28 rfl (by kernel_rfl)) rfl ?_
  rw [HP2.out]
  exact ⟨_, rfl, E.out.1, E.out.2.1⟩

end Go.Proofs.Ytnkipjlkhnmilaa.Mem
