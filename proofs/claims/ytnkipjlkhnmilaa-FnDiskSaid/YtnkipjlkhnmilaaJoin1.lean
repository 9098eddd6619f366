/-
  What impl.Peek must do; and sizes that the laws look at. No condition.
  The walk of spec.Put: what it makes of a disk, in rows of its own. No condition but sizes.
  The walk of spec.Flush: what it makes of a disk, in rows of its own. No condition but sizes.
  The walk of spec.Land: what it makes of a disk, in rows of its own. No condition but sizes.
  Plain: what a put makes of a disk, and what the host sees behind it, behind a flush and behind a landing. No condition.
  What stands in memory while a law's input is drawn: the cursor, the drawn disk in its box, the result's box. No condition.
  The walk of spec.l1Size: how many calls a draw makes, by the code's length. No condition but sizes.
  The walks of spec.l1New, spec.l1PickInt and spec.l1Num: the cursor that is made, and the number that is drawn, are settled by the code's bytes alone. No condition but a code of at most 1048576 bytes.
  The walk of spec.DrawPut: some small disk, a host's number, an epoch, a sector's number and a text of at most 701 bytes. No condition but what the walk of spec.l3Any gives.
  The walk of laws.at: a number from nought to 255. No condition but a code of at most 2^20 bytes and a small place.
  The walk of laws.big: a code that is too long. No condition but that the length is one.
  The walks of laws.sameTexts and laws.sameInts: two lists are the same. No condition but sizes.
  The walk of laws.sameDisk: two disks are the same. No condition but sizes.
  The walks of impl.isHost, impl.fitsSector, impl.isSector and impl.DiskOk: each answers what it should, and nothing that was there is changed. No condition.
  The walk of impl.refusal: the first reason against a call of a host. No condition but three epochs.
  A region that draws its order, whose operations read and whose callees read or lay new blocks alone, walked once. No condition.
  The walk of impl.DiskOk: it answers whether the disk is right, and nothing that was there is changed. No condition.
  The walk of impl.copyDisk: the same disk, in rows of its own. No condition but lengths of at most 2^20.
  What a function of chapter 3 keeps in memory while it makes its answer: the argument's box, the result's block, its own disk with its box. No condition.
  The walk of impl.Put: it answers as spec.Put does, in rows of its own. No condition but sizes.
  A map of queues that a call has made: what it holds, key by key. No condition.
-/
import Derived.Test.YtnkipjlkhnmilaaDiskPeek
import Derived.Test.YtnkipjlkhnmilaaSzDisk
import Derived.Test.YtnkipjlkhnmilaaDkPut
import Derived.Test.YtnkipjlkhnmilaaWrapEnd
import Derived.Test.YtnkipjlkhnmilaaDkFlush
import Derived.Test.YtnkipjlkhnmilaaDkLand
import Derived.Test.YtnkipjlkhnmilaaRightHeld
import Derived.Test.YtnkipjlkhnmilaaDkPure
import Derived.Test.YtnkipjlkhnmilaaAnyParts
import Derived.Test.YtnkipjlkhnmilaaSomeParts
import Derived.Test.YtnkipjlkhnmilaaDrawText
import Derived.Test.YtnkipjlkhnmilaaMem
import Derived.Test.YtnkipjlkhnmilaaEqDisk
import Derived.Outline
import Derived.Deep.QuietTactic
import Derived.BigQuiet
import Derived.Test.YtnkipjlkhnmilaaEqDisk2
import Derived.Test.YtnkipjlkhnmilaaDiskOk
import Derived.Test.YtnkipjlkhnmilaaDkCopy
import Derived.Test.YtnkipjlkhnmilaaDkSwap
import Derived.Test.YtnkipjlkhnmilaaDkFence
import Derived.Test.YtnkipjlkhnmilaaAppRow
import Derived.Maps.OwnSet
import Derived.Maps.Ext
import Derived.WideKeyEntry
import Derived.DeepKeys4
namespace Go.Proofs.Ytnkipjlkhnmilaa.Mem
open Go.RowKit
set_option linter.unusedVariables false

/-- What impl.Peek must do. -/
def PeekDoes : Prop := ∀ (w : World) (v : Value) (D : Dk) (x s : Int), DkR w v D → D.Held → D.Small 1048576 →
  Calls Try.prog 14 #[v, .int .i64 x, .int .i64 s] w fun e w' => e = .returned (.tuple #[.string (D.peek x s).1, .bool (D.peek x s).2]) ∧ Below w.heap.size w w'

theorem Dk.Small.c1 {D : Dk} (h : D.Small 1048576) : D.sec.length ≤ 1048576 := by have := h.h1; omega
theorem Dk.Small.c2 {D : Dk} (h : D.Small 1048576) : D.ep.length ≤ 1048576 := by have := h.h2; omega
theorem Dk.Small.c3 {D : Dk} (h : D.Small 1048576) : D.pe.length ≤ 1048576 := by have := h.h3; omega

end Go.Proofs.Ytnkipjlkhnmilaa.Mem

namespace Go.Proofs.Ytnkipjlkhnmilaa.Mem
open Go.RowKit Classical
set_option linter.unusedVariables false

/-- What Put answers. -/
def Dk.putA (D : Dk) (x ep s : Int) (t : ByteArray) : Dk × Int := if D.right = true then D.put x ep s t else (Dk.nil, 1)

set_option maxRecDepth 100000 in
set_option maxHeartbeats 2000000 in
theorem specPut (w : World) (v : Value) (D : Dk) (x ep s : Int) (t : ByteArray) (h : DkR w v D) (hd : D.Held) (hs : D.Small 1048576) (ht : t.size ≤ maxLen) :
    Calls Try.prog 13 #[v, .int .i64 x, .int .i64 ep, .int .i64 s, .string t] w fun e w' => ∃ v', e = .returned (.tuple #[v', .int .i64 (D.putA x ep s t).2]) ∧ DkW w' w.heap.size v' (D.putA x ep s t).1 ∧ Below w.heap.size w w' := by
  have HH := hid h
  have HD := hid hd
  have HS := hid hs
  obtain ⟨a1, c1, a2, c2, a3, c3, rfl, _, _, _⟩ := h
  clear hd hs
  obtain ⟨wb, hwb, ez, A0, R0, B0⟩ := two_new w [.slice a1 D.sec.length c1, .slice a2 D.ep.length c2, .slice a3 D.pe.length c3] [.slice none 0 0, .slice none 0 0, .slice none 0 0] 28 28
  have k0 := A0.c 0 rfl
  have k1 := A0.c 1 rfl
  have k2 := A0.c 2 rfl
  go_enter Try.func13, Try.ntmps13
  go_wp2_with fail
  refine (diskOk wb _ D (HH.out.below B0) HD.out).mono ?_
  rintro e w1 ⟨rfl, b1⟩
  have HA := hid (A0.below b1 A0.lt)
  have HR := hid (R0.below b1 R0.lt)
  have HB := hid (B0.trans (b1.mono B0.size))
  clear A0 R0 B0 b1 hwb ez k0 k1 k2
  have m0 := HR.out.c 0 rfl
  have m1 := HR.out.c 1 rfl
  have m2 := HR.out.c 2 rfl
  have f0 := HR.out.f 0
  have f1 := HR.out.f 1
  have f2 := HR.out.f 2
  by_cases hr : ¬ D.right = true
  · have HP : Hid (D.putA x ep s t = (Dk.nil, 1)) := if_neg hr
    have hr' : D.right = false := by simpa using hr
    clear hr
    have E := hid (wrap_bad HB.out HR.out)
    go_wp2
    refine bodyPost_ret (results_row2 rfl _ _ (w.heap.size + 1) [.slice none 0 0, .slice none 0 0, .slice none 0 0] _ rfl E.out.2.2 Try.underlying28 rfl (by kernel_rfl)) rfl ?_
    rw [HP.out]
    exact ⟨_, rfl, E.out.1, E.out.2.1⟩
  replace hr := Classical.not_not.mp hr
  have HP : Hid (D.putA x ep s t = D.put x ep s t) := if_pos hr
  have HT := hid (Dk.of_right hr)
  have k0 := HA.out.c 0 rfl
  have k1 := HA.out.c 1 rfl
  have k2 := HA.out.c 2 rfl
  go_wp2_with fail
  refine (l3Copy w1 _ D (HH.out.below HB.out) HS.out.c1 HS.out.c2 HS.out.c3).mono ?_
  rintro e w2 ⟨v2, rfl, O2, b2⟩
  have HB2 := hid b2.size
  have HL := hid HR.out.lt
  have HR2 := hid (HR.out.below b2 HR.out.lt)
  have HB3 := hid (HB.out.trans (b2.mono HB.out.size))
  have HO2 := hid O2
  clear m0 m1 m2 f0 f1 f2 k0 k1 k2 O2 b2 HA HR
  go_wp2_with fail
  refine (l3Put w2 w1.heap.size v2 D x ep s t HO2.out HB2.out HT.out.fit HD.out ht).mono ?_
  rintro e w3 ⟨v3, rfl, O3, b3⟩
  have HO3 := hid O3
  have HR3 := hid (HR2.out.below b3 HL.out)
  have HB4 := hid (HB3.out.trans (b3.mono HB.out.size))
  generalize D.put x ep s t = P at *
  obtain ⟨u1, u2, u3, rfl, r1, r2, r3, _, _⟩ := O3
  obtain ⟨p1, q1, e1, _⟩ := r1.wr
  obtain ⟨p2, q2, e2, _⟩ := r2.wr
  obtain ⟨p3, q3, e3, _⟩ := r3.wr
  subst e1; subst e2; subst e3
  clear r1 r2 r3 b3 HR2 HO2
  obtain ⟨wx, hwx, ex, X0, Bx⟩ := one_new w3 [.slice p1 P.1.sec.length q1, .slice p2 P.1.ep.length q2, .slice p3 P.1.pe.length q3] 28
  have x0 := X0.c 0 rfl
  have x1 := X0.c 1 rfl
  have x2 := X0.c 2 rfl
  have HRx := hid (HR3.out.below Bx HR3.out.lt)
  have m0 := HRx.out.c 0 rfl
  have m1 := HRx.out.c 1 rfl
  have m2 := HRx.out.c 2 rfl
  have f0 := HRx.out.f 0
  have f1 := HRx.out.f 1
  have f2 := HRx.out.f 2
  have E := hid (wrap_end HL.out HB4.out HO3.out Bx HRx.out)
  clear ex X0 Bx HO3
  go_wp2
  refine bodyPost_ret (results_row2 rfl _ _ (w.heap.size + 1) [.slice p1 P.1.sec.length q1, .slice p2 P.1.ep.length q2, .slice p3 P.1.pe.length q3] _ rfl E.out.2.2 Try.underlying28 rfl (by kernel_rfl)) rfl ?_
  rw [HP.out]
  exact ⟨_, rfl, E.out.1, E.out.2.1⟩

end Go.Proofs.Ytnkipjlkhnmilaa.Mem

namespace Go.Proofs.Ytnkipjlkhnmilaa.Mem
open Go.RowKit Classical
set_option linter.unusedVariables false

/-- What Flush answers. -/
def Dk.flushA (D : Dk) (x ep : Int) : Dk × Int := if D.right = true then D.flush x ep else (Dk.nil, 1)

end Go.Proofs.Ytnkipjlkhnmilaa.Mem

namespace Go.Proofs.Ytnkipjlkhnmilaa.Mem
open Go.RowKit Classical
set_option linter.unusedVariables false

/-- What Land answers. -/
def Dk.landA (D : Dk) (i : Int) : Dk × Bool := if D.right = true then D.land i else (Dk.nil, false)

end Go.Proofs.Ytnkipjlkhnmilaa.Mem

namespace Go.Proofs.Ytnkipjlkhnmilaa.Mem
open Go.RowKit
set_option linter.unusedVariables false

theorem putA_no {D : Dk} (h : D.right = false) (x e s : Int) (t : ByteArray) : D.putA x e s t = (Dk.nil, 1) := by unfold Dk.putA; rw [h]; rfl
theorem putA_yes {D : Dk} (h : D.right = true) (x e s : Int) (t : ByteArray) : D.putA x e s t = D.put x e s t := by unfold Dk.putA; rw [h]; rfl

/-- Refused: as it was. -/
theorem put_refused {D : Dk} {x e s : Int} {t : ByteArray} (h : ¬ (D.putA x e s t).2 = 0) (hr : D.right = true) : (D.putA x e s t).1 = D := by
  rw [putA_yes hr] at h ⊢
  unfold Dk.put at h ⊢
  split
  · split
    · split
      · rename_i h1 h2 h3
        rw [if_pos h1, if_pos h2, if_pos h3] at h
        exact absurd rfl h
      · rfl
    · rfl
  · rfl

/-- Done: who it was, and what it is then. -/
theorem put_done {D : Dk} {x e s : Int} {t : ByteArray} (h : (D.putA x e s t).2 = 0) : D.Right ∧ ∃ n y : Nat, x = (n : Int) ∧ n < 3 ∧ s = (y : Int) ∧ y < D.sec.length ∧ D.ep.getD n 0 = e ∧ (D.putA x e s t).1 = ⟨D.sec, D.ep, D.pe ++ [⟨(n : Int), e, (y : Int), t⟩]⟩ := by
  have hr : D.right = true := by
    cases q : D.right with
    | true => rfl
    | false => rw [putA_no q] at h; exact absurd (show (1 : Int) = 0 from h) (by decide)
  rw [putA_yes hr] at h ⊢
  unfold Dk.put at h ⊢
  split at h
  · rename_i h1
    split at h
    · rename_i h2
      split at h
      · rename_i h3
        obtain ⟨n, rfl⟩ : ∃ n : Nat, x = (n : Int) := ⟨x.toNat, by omega⟩
        obtain ⟨y, rfl⟩ : ∃ y : Nat, s = (y : Int) := ⟨s.toNat, by omega⟩
        rw [Int.toNat_natCast] at h2
        refine ⟨Dk.of_right hr, n, y, rfl, by omega, rfl, by omega, h2, ?_⟩
        rw [if_pos h1, Int.toNat_natCast, if_pos h2, if_pos h3]
      · exact absurd (show (3 : Int) = 0 from h) (by decide)
    · exact absurd (show (2 : Int) = 0 from h) (by decide)
  · exact absurd (show (1 : Int) = 0 from h) (by decide)

/-- What a host sees of a right disk. -/
theorem peek_is {D : Dk} (h : D.Right) {n y : Nat} (hn : n < 3) (hy : y < D.sec.length) : D.peek (n : Int) (y : Int) = (seeL (D.sec.getD y ByteArray.empty) D.pe (n : Int) (y : Int), true) := by
  unfold Dk.peek
  rw [if_pos ⟨Dk.right_yes h, ⟨by omega, by omega⟩, by omega, by omega⟩, see_all, Int.toNat_natCast]

theorem peek_put {X : Dk} (h : X.Right) {n y : Nat} (hn : n < 3) (hy : y < X.sec.length) {l : List Wt} {e : Int} {t : ByteArray} (hp : X.pe = l ++ [⟨(n : Int), e, (y : Int), t⟩]) : X.peek (n : Int) (y : Int) = (t, true) := by
  rw [peek_is h hn hy, hp, seeL_last _ _ _ _ _ ⟨rfl, rfl⟩]

/-- A landing leaves what the host sees. -/
theorem peek_land {X : Dk} (h : X.Right) {n y : Nat} (hn : n < 3) (hy : y < X.sec.length) {l : List Wt} {e : Int} {t : ByteArray} (hp : X.pe = l ++ [⟨(n : Int), e, (y : Int), t⟩]) (i : Nat) :
    (X.landA (i : Int)).1.Right ∧ (X.landA (i : Int)).1.peek (n : Int) (y : Int) = (t, true) := by
  have hr : X.right = true := Dk.right_yes h
  have hZ : (X.landA (i : Int)).1.Right := by unfold Dk.landA; rw [if_pos hr]; exact h.land _
  refine ⟨hZ, ?_⟩
  unfold Dk.landA at hZ ⊢
  rw [if_pos hr] at hZ ⊢
  unfold Dk.land at hZ ⊢
  split
  · rename_i hc
    rw [if_pos hc] at hZ
    rw [Int.toNat_natCast] at hc hZ ⊢
    rw [peek_is hZ hn (by show y < (X.sec.set _ _).length; rw [List.length_set]; exact hy)]
    have hi : i < X.pe.length := by have := hc.2.1; omega
    have hl : X.pe.length = l.length + 1 := by rw [hp]; simp
    by_cases hil : i < l.length
    · show (seeL _ (X.pe.eraseIdx i) _ _, true) = _
      rw [hp, List.eraseIdx_append_of_lt_length hil, seeL_last _ _ _ _ _ ⟨rfl, rfl⟩]
    · obtain rfl : i = l.length := by omega
      have hlast : X.pe.getD l.length Wt.none = ⟨(n : Int), e, (y : Int), t⟩ := by rw [hp]; simp [List.getD]
      have her : X.pe.eraseIdx l.length = l := by rw [hp, List.eraseIdx_append_of_length_le (Nat.le_refl _)]; simp
      have hno : ∀ x ∈ l, ¬ (x.host = (n : Int) ∧ x.sector = (y : Int)) := by
        intro x hx hh
        obtain ⟨j, hj, rfl⟩ := List.mem_iff_getElem.1 hx
        have := hc.2.2 j hj
        rw [hlast] at this
        apply this
        have e1 : X.pe.getD j Wt.none = l[j] := by rw [hp]; simp [List.getD, List.getElem?_append_left hj, hj]
        rw [e1]
        exact hh
      show (seeL ((X.sec.set (X.pe.getD l.length Wt.none).sector.toNat (X.pe.getD l.length Wt.none).text).getD y ByteArray.empty) (X.pe.eraseIdx l.length) _ _, true) = _
      rw [her, hlast, seeL_none _ _ _ _ hno]
      show ((X.sec.set ((y : Int)).toNat t).getD y ByteArray.empty, true) = _
      rw [Int.toNat_natCast]
      simp [List.getD, hy]
  · rw [peek_put h hn hy hp]

/-- A flush leaves it on the disk. -/
theorem peek_flush {X : Dk} (h : X.Right) {n y : Nat} (hn : n < 3) (hy : y < X.sec.length) {l : List Wt} {e : Int} {t : ByteArray} (hp : X.pe = l ++ [⟨(n : Int), e, (y : Int), t⟩]) (he : X.ep.getD n 0 = e) :
    (X.flushA (n : Int) e).2 = 0 ∧ (X.flushA (n : Int) e).1.Right ∧ y < (X.flushA (n : Int) e).1.sec.length ∧ (X.flushA (n : Int) e).1.sec.getD y ByteArray.empty = t ∧ (X.flushA (n : Int) e).1.peek (n : Int) (y : Int) = (t, true) := by
  have hr : X.right = true := Dk.right_yes h
  have hf : X.flushA (n : Int) e = (⟨lands X.sec X.pe (n : Int), X.ep, others X.pe (n : Int)⟩, 0) := by
    unfold Dk.flushA
    rw [if_pos hr]
    unfold Dk.flush
    rw [if_pos ⟨by omega, by omega⟩, Int.toNat_natCast, if_pos he]
  have hY : (X.flushA (n : Int) e).1.Right := by
    have : X.flushA (n : Int) e = X.flush (n : Int) e := by unfold Dk.flushA; rw [if_pos hr]
    rw [this]; exact h.flush _ _
  rw [hf] at hY ⊢
  have hl : y < (lands X.sec X.pe (n : Int)).length := by rw [lands_length]; exact hy
  have hs : (lands X.sec X.pe (n : Int)).getD y ByteArray.empty = t := by
    rw [hp, lands_append]
    show ((if ((n : Int)) = (n : Int) then (lands X.sec l (n : Int)).set ((y : Int)).toNat t else _).getD y ByteArray.empty) = t
    rw [if_pos rfl, Int.toNat_natCast]
    have : y < (lands X.sec l (n : Int)).length := by rw [lands_length]; exact hy
    simp [List.getD, this]
  refine ⟨rfl, hY, hl, hs, ?_⟩
  rw [peek_is hY hn hl]
  have hno : ∀ x ∈ others X.pe (n : Int), ¬ (x.host = (n : Int) ∧ x.sector = (y : Int)) := by
    intro x hx hh
    unfold others at hx
    have := (List.mem_filter.1 hx).2
    simp at this
    exact this hh.1
  show (seeL ((lands X.sec X.pe (n : Int)).getD y ByteArray.empty) (others X.pe (n : Int)) _ _, true) = _
  rw [seeL_none _ _ _ _ hno, hs]

end Go.Proofs.Ytnkipjlkhnmilaa.Mem

namespace Go.Proofs.Ytnkipjlkhnmilaa.Mem
open Go.RowKit
set_option linter.unusedVariables false

theorem DkW.move {S : Nat → Prop} {w w' : World} {B : Nat} {v : Value} {D : Dk} (h : DkW w B v D) (k : Kept S w w') (hn : ∀ b, B ≤ b → ¬ S b) : DkW w' B v D := by
  obtain ⟨a1, c1, a2, c2, a3, c3, e, s1, s2, s3, f1, f2⟩ := h
  exact ⟨a1, c1, a2, c2, a3, c3, e, Wr.move s1 k (fun b hb => hn b (Wr.foot_ge s1 hb)), Wr.move s2 k (fun b hb => hn b (Wr.foot_ge s2 hb)), Wr.move s3 k (fun b hb => hn b (Wr.foot_ge s3 hb)), f1, f2⟩

/-- What the walk of spec.l3Any gives. -/
def AnyDoes : Prop := ∀ (w : World) (cb : Nat) (a : Option Addr) (len cap : Nat) (zs : List Int) (E : EnvX w cb a len cap zs) (n : Int) (h0 : 0 < n) (h1 : n ≤ 1000),
    Calls Try.prog 29 #[.pointer (some ⟨cb, 0, none⟩), .int .i64 n] w fun e w' => ∃ v D, e = .returned v ∧ D.Any ∧ DkW w' w.heap.size v D ∧ EnvX w' cb a len cap zs ∧ w.grownBy w' (some cb)

/-- A law's input under way: the cursor cb behind the result's box rx, the disk's rows from B on, its box nb. -/
structure DrSt (wA : World) (rx cb : Nat) (a : Option Addr) (len cap : Nat) (zs : List Int) (B nb : Nat) (v1 v2 v3 : Value) (D : Dk) (w : World) : Prop where
  env : EnvX w cb a len cap zs
  box : Row w nb [v1, v2, v3]
  res : Row w rx [.slice none 0 0, .slice none 0 0, .slice none 0 0]
  dk : DkW w B (.agg #[v1, v2, v3]) D
  hr : wA.heap.size ≤ rx
  hc : rx < cb
  hB : cb < B
  hn : cb < nb
  bel : Below wA.heap.size wA w

variable {wA w w' : World} {rx cb : Nat} {a : Option Addr} {len cap : Nat} {zs : List Int} {B nb : Nat} {v1 v2 v3 : Value} {D : Dk}

theorem DrSt.below (h : DrSt wA rx cb a len cap zs B nb v1 v2 v3 D w) (b : Below w.heap.size w w') : DrSt wA rx cb a len cap zs B nb v1 v2 v3 D w' :=
  ⟨h.env.below h.env b, h.box.below b h.box.lt, h.res.below b h.res.lt, h.dk.below b, h.hr, h.hc, h.hB, h.hn, h.bel.trans (b.mono h.bel.size)⟩
theorem DrSt.drew (h : DrSt wA rx cb a len cap zs B nb v1 v2 v3 D w) : DrSt wA rx cb a len cap zs B nb v1 v2 v3 D w.drew := h.below (Below.refl _ w).drew
theorem DrSt.alloc (h : DrSt wA rx cb a len cap zs B nb v1 v2 v3 D w) (o : Obj) : DrSt wA rx cb a len cap zs B nb v1 v2 v3 D (w.alloc o) := h.below ((Below.refl _ w).alloc (Nat.le_refl _) o)

theorem DrSt.draw (h : DrSt wA rx cb a len cap zs B nb v1 v2 v3 D w) (E : EnvX w' cb a len cap zs) (g : w.grownBy w' (some cb)) : DrSt wA rx cb a len cap zs B nb v1 v2 v3 D w' := by
  have k : Kept (fun b => b = cb) w w' := ⟨g.os, g.tape, g.output, g.size, fun k hk hn => g.block k hk (by simpa using hn)⟩
  have h1 := h.hr
  have h2 := h.hc
  have h3 := h.hB
  have h4 := h.hn
  exact ⟨E, h.box.kept k (by omega), h.res.kept k (by omega), h.dk.move k (fun b hb e => by omega), h.hr, h.hc, h.hB, h.hn, h.bel.trans (k.below h.bel.size (fun b hb e => by omega))⟩

theorem DrSt.c0 (h : DrSt wA rx cb a len cap zs B nb v1 v2 v3 D w) : w.cell? ⟨nb, 0, none⟩ = some v1 := h.box.c 0 rfl
theorem DrSt.c1 (h : DrSt wA rx cb a len cap zs B nb v1 v2 v3 D w) : w.cell? ⟨nb, 1, none⟩ = some v2 := h.box.c 1 rfl
theorem DrSt.c2 (h : DrSt wA rx cb a len cap zs B nb v1 v2 v3 D w) : w.cell? ⟨nb, 2, none⟩ = some v3 := h.box.c 2 rfl
theorem DrSt.r0 (h : DrSt wA rx cb a len cap zs B nb v1 v2 v3 D w) : w.cell? ⟨rx, 0, none⟩ = some (.slice none 0 0) := h.res.c 0 rfl
theorem DrSt.r1 (h : DrSt wA rx cb a len cap zs B nb v1 v2 v3 D w) : w.cell? ⟨rx, 1, none⟩ = some (.slice none 0 0) := h.res.c 1 rfl
theorem DrSt.r2 (h : DrSt wA rx cb a len cap zs B nb v1 v2 v3 D w) : w.cell? ⟨rx, 2, none⟩ = some (.slice none 0 0) := h.res.c 2 rfl
theorem DrSt.f (h : DrSt wA rx cb a len cap zs B nb v1 v2 v3 D w) (j : Nat) : w.frozen? ⟨rx, j, none⟩ = false := h.res.f j

/-- All six cells at once. -/
theorem DrSt.six (h : DrSt wA rx cb a len cap zs B nb v1 v2 v3 D w) : w.cell? ⟨nb, 0, none⟩ = some v1 ∧ w.cell? ⟨nb, 1, none⟩ = some v2 ∧ w.cell? ⟨nb, 2, none⟩ = some v3 ∧ w.cell? ⟨rx, 0, none⟩ = some (.slice none 0 0) ∧ w.cell? ⟨rx, 1, none⟩ = some (.slice none 0 0) ∧ w.cell? ⟨rx, 2, none⟩ = some (.slice none 0 0) ∧ w.frozen? ⟨rx, 0, none⟩ = false ∧ w.frozen? ⟨rx, 1, none⟩ = false ∧ w.frozen? ⟨rx, 2, none⟩ = false :=
  ⟨h.c0, h.c1, h.c2, h.r0, h.r1, h.r2, h.f 0, h.f 1, h.f 2⟩

/-- The end: the disk in the result's box. -/
theorem DrSt.fin (h : DrSt wA rx cb a len cap zs B nb v1 v2 v3 D w) :
    Row (((w.setCell ⟨rx, 0, none⟩ v1).setCell ⟨rx, 1, none⟩ v2).setCell ⟨rx, 2, none⟩ v3) rx [v1, v2, v3] ∧
    DkR (((w.setCell ⟨rx, 0, none⟩ v1).setCell ⟨rx, 1, none⟩ v2).setCell ⟨rx, 2, none⟩ v3) (.agg #[v1, v2, v3]) D ∧
    Below wA.heap.size wA (((w.setCell ⟨rx, 0, none⟩ v1).setCell ⟨rx, 1, none⟩ v2).setCell ⟨rx, 2, none⟩ v3) := by
  have h1 := h.hr
  have h2 := h.hc
  have h3 := h.hB
  exact ⟨((h.res.set 0 v1).set 1 v2).set 2 v3, (h.dk.move (kept3 w rx v1 v2 v3) (fun b hb e => by omega)).read, below_set (below_set (below_set h.bel _ _ _ h1) _ _ _ h1) _ _ _ h1⟩

/-- The start: the result's box, the cursor, the disk drawn and boxed. -/
theorem DrSt.start {wb w1 w2 w3 : World} (ez : wb.heap.size = wA.heap.size + 1) (R : Row wb wA.heap.size [.slice none 0 0, .slice none 0 0, .slice none 0 0]) (b0 : Below wA.heap.size wA wb) (b1 : Below wb.heap.size wb w1) (E1 : EnvX w1 wb.heap.size a len cap zs) (E2 : EnvX w2 wb.heap.size a len cap zs) (g2 : w1.grownBy w2 (some wb.heap.size)) (O : DkW w2 w1.heap.size (.agg #[v1, v2, v3]) D)
    (A3 : Row w3 w2.heap.size [v1, v2, v3]) (b3 : Below w2.heap.size w2 w3) : DrSt wA wA.heap.size wb.heap.size a len cap zs w1.heap.size w2.heap.size v1 v2 v3 D w3 := by
  have hc1 := E1.lt
  have k : Kept (fun b => b = wb.heap.size) w1 w2 := ⟨g2.os, g2.tape, g2.output, g2.size, fun k hk hn => g2.block k hk (by simpa using hn)⟩
  have hs := k.size
  have bA : Below wA.heap.size wA w1 := b0.trans (b1.mono b0.size)
  have bB : Below wA.heap.size wA w2 := bA.trans (k.below bA.size (fun b hb e => by omega))
  exact ⟨E2.below E2 b3, A3, ((R.below b1 (by omega)).kept k (by omega)).below b3 (by omega), O.below b3, Nat.le_refl _, by omega, hc1, by omega, bB.trans (b3.mono bB.size)⟩

theorem DkW.three {w : World} {B : Nat} {v : Value} {D : Dk} (h : DkW w B v D) : ∃ p1 c1 p2 c2 p3 c3, v = .agg #[.slice p1 D.sec.length c1, .slice p2 D.ep.length c2, .slice p3 D.pe.length c3] := by
  obtain ⟨a1, c1, a2, c2, a3, c3, e, _⟩ := h
  exact ⟨a1, c1, a2, c2, a3, c3, e⟩

end Go.Proofs.Ytnkipjlkhnmilaa.Mem

namespace Go.Proofs.Ytnkipjlkhnmilaa.Mem
open Go.RowKit
set_option linter.unusedVariables false

set_option maxRecDepth 100000 in
set_option maxHeartbeats 1000000 in
theorem sizeX (w : World) (a : Option Addr) (len cap : Nat) (m : Int) (hl : len ≤ 1048576) (h2 : 2 ≤ m) (hm : m ≤ 1000) :
    Calls Try.prog 30 #[.slice a len cap, .int .i64 m] w fun e w' => ∃ n : Int, 0 < n ∧ n ≤ m ∧ e = .returned (.int .i64 n) ∧ w' = w := by
  have hq : Int.tdiv (len : Int) 20 = (len : Int) / 20 := Int.tdiv_eq_ediv_of_nonneg (by omega)
  have hd : 0 ≤ (len : Int) / 20 ∧ (len : Int) / 20 ≤ 1048576 := by omega
  have hl' : (len : Int) ≤ 1048576 := by omega
  have hw1 : IntKind.i64.wrap ((len : Int) / 20) = (len : Int) / 20 := by rw [IntKind.wrap_i64]; omega
  have hw2 : IntKind.i64.wrap (2 + (len : Int) / 20) = 2 + (len : Int) / 20 := by rw [IntKind.wrap_i64]; omega
  by_cases g : m < 2 + (len : Int) / 20
  · go_enter Try.func30, Try.ntmps30
    go_wp2
    go_ret
    exact ⟨m, by omega, by omega, rfl, rfl⟩
  · go_enter Try.func30, Try.ntmps30
    go_wp2
    go_ret
    exact ⟨2 + (len : Int) / 20, by omega, by omega, rfl, rfl⟩

end Go.Proofs.Ytnkipjlkhnmilaa.Mem

namespace Go.Proofs.Ytnkipjlkhnmilaa.Draw
open Go.RowKit
set_option linter.unusedVariables false

/-- The mixing number behind k bytes. -/
def hN (zs : List Int) (n : Nat) : Nat → Int
  | 0 => 10101 + (n : Int)
  | k + 1 => bits .and .i64 (wrap64 (wrap64 (wrap64 (hN zs n k * 131) + wrap64 (zs[k]?.getD 0)) + 7)) 1073741823

/-- The code, as it came. -/
structure Code (w : World) (a : Option Addr) (len cap : Nat) (zs : List Int) : Prop where
  hl : zs.length = len
  hb : len ≤ 1048576
  z : ∀ n ∈ zs, 0 ≤ n ∧ n ≤ 255
  code : ∀ j, j < len → ∃ b off, a = some ⟨b, off, none⟩ ∧ w.cell? ⟨b, off + j, none⟩ = some (.int .u8 (zs.getD j 0))

theorem Code.below {w w' : World} {a : Option Addr} {len cap : Nat} {zs : List Int} (C : Code w a len cap zs) (hb : Below w.heap.size w w') : Code w' a len cap zs := by
  refine ⟨C.hl, C.hb, C.z, fun j hj => ?_⟩
  obtain ⟨b, off, e, hc⟩ := C.code j hj
  exact ⟨b, off, e, by rw [hb.cell (p := ⟨b, off + j, none⟩) (World.block_lt_of_cell? w ⟨b, off + j, none⟩ hc)]; exact hc⟩

theorem new_env (w : World) (a : Option Addr) (len cap : Nat) (zs : List Int) (C : Code w a len cap zs) (h : Int) :
    Env (w.alloc (.cells #[.slice a len cap, .int .i64 0, .int .i64 h] 75)) w.heap.size a len cap zs 0 h := by
  have hb : Below w.heap.size w (w.alloc (.cells #[.slice a len cap, .int .i64 0, .int .i64 h] 75)) := (Below.refl _ _).alloc (Nat.le_refl _) _
  refine ⟨heap_alloc_new w _, Nat.zero_le _, C.hl, C.hb, C.z, fun j hj => ?_⟩
  obtain ⟨b, off, e, hc⟩ := C.code j hj
  have hlt : b < w.heap.size := World.block_lt_of_cell? w ⟨b, off + j, none⟩ hc
  exact ⟨b, off, e, by omega, by rw [hb.cell (p := ⟨b, off + j, none⟩) hlt]; exact hc⟩

set_option maxRecDepth 100000 in
set_option maxHeartbeats 2000000 in
theorem new_any (w : World) (a : Option Addr) (len cap : Nat) (zs : List Int) (C : Code w a len cap zs) :
    Calls Try.prog 28 #[.slice a len cap] w fun e w' => e = .returned (.pointer (some ⟨w.heap.size, 0, none⟩)) ∧ Env w' w.heap.size a len cap zs 0 (hN zs len (min len 4000)) ∧ Below w.heap.size w w' := by
  have hb := C.hb
  have HC := Own.hid C
  clear C
  go_enter Try.func28, Try.ntmps28
  go_wp2
  go_loop [3, 4] (fun x i => ∃ k : Nat, k ≤ len ∧ k ≤ 4000 ∧ i = .int .i64 (k : Int) ∧ x = .int .i64 (hN zs len k)) (fun _ i => len - (intOf i).toNat)
  case atStart => exact ⟨0, Nat.zero_le _, Nat.zero_le _, rfl, rfl⟩
  case round =>
    obtain ⟨k, hk, hk4, rfl, rfl⟩ := hrel
    by_cases hlt : k < len ∧ k < 4000
    · obtain ⟨hl1, hl2⟩ := hlt
      obtain ⟨b, off, rfl, hc⟩ := HC.out.code k hl1
      have HS := Own.hid (show hN zs len (k + 1) = bits .and .i64 (wrap64 (wrap64 (wrap64 (hN zs len k * 131) + wrap64 (zs[k]?.getD 0)) + 7)) 1073741823 from rfl)
      generalize hN zs len k = x at *
      go_wp2
      go_round
      case rel => exact ⟨k + 1, by omega, by omega, by go_num, by rw [HS.out]⟩
      case measure => simp [intOf]; omega
    · have Hk := Own.hid (show k = min len 4000 by omega)
      have HE := Own.hid (new_env w a len cap zs HC.out (hN zs len k))
      by_cases hl1 : (k : Int) < (len : Int)
      · have hl2 : ¬ (k : Int) < 4000 := by omega
        clear hlt
        go_wp2
        go_ret
        exact ⟨rfl, by rw [← Hk.out]; exact HE.out, (Below.refl _ _).alloc (Nat.le_refl _) _⟩
      · clear hlt
        go_wp2
        go_ret
        exact ⟨rfl, by rw [← Hk.out]; exact HE.out, (Below.refl _ _).alloc (Nat.le_refl _) _⟩

theorem info3 : (Try.prog.info? 3).map (fun i => (i.zero, i.size, i.bytes)) = some (some (.int .i64 0), 1, 8) := by kernel_rfl

/-- The numbers at limits that l1Num picks from. -/
def limits : List Int := [-1, 0, 127, 128, 255, 256, 16383, 16384, 65535, 65536, 562949953421311, 562949953421312, 999999999, 1000000000, -999999999, 9223372036854775807, -9223372036854775808]

theorem limits_bd (k : Nat) : -9223372036854775808 ≤ limits.getD k 0 ∧ limits.getD k 0 ≤ 9223372036854775807 := by
  by_cases h : k < 17
  · have : ∀ j : Fin 17, -9223372036854775808 ≤ limits.getD j.val 0 ∧ limits.getD j.val 0 ≤ 9223372036854775807 := by decide
    exact this ⟨k, h⟩
  · rw [List.getD, List.getElem?_eq_none (by show 17 ≤ k; omega)]; decide

theorem Env.alloc {w : World} {cb : Nat} {a : Option Addr} {len cap : Nat} {zs : List Int} {i : Nat} {h : Int} (E : Env w cb a len cap zs i h) (o : Obj) : Env (w.alloc o) cb a len cap zs i h :=
  E.below E ((Below.refl _ _).alloc (Nat.le_refl _) _)

set_option maxRecDepth 100000 in
set_option maxHeartbeats 1000000 in
theorem pick_any (zs : List Int) (i : Nat) (h : Int) : ∃ (k : Nat) (i' : Nat) (h' : Int), k < 17 ∧ ∀ (w : World) (cb : Nat) (a : Option Addr) (len cap lb : Nat) (E : Env w cb a len cap zs i h) (hne : lb ≠ cb)
    (hc : ∀ j, j < 17 → w.cell? ⟨lb, j, none⟩ = some (.int .i64 (limits.getD j 0))),
    Calls Try.prog 31 #[.pointer (some ⟨cb, 0, none⟩), .slice (some ⟨lb, 0, none⟩) 17 17] w fun e w' => e = .returned (.int .i64 (limits.getD k 0)) ∧ Env w' cb a len cap zs i' h' ∧ w.grownBy w' (some cb) := by
  obtain ⟨x, i', h', hx0, hx1, d⟩ := below_draws zs 17 (by omega) (by omega) i h
  obtain ⟨k, rfl⟩ := Int.eq_ofNat_of_zero_le hx0
  refine ⟨k, i', h', by omega, ?_⟩
  intro w cb a len cap lb E hne hc
  have HD := Own.hid (d w cb a len cap E)
  have HC := Own.hid hc
  have hk : k < 17 := by omega
  have hk' : (k : Int) < 17 := by omega
  clear d E hc hx0 hx1
  go_enter Try.func31, Try.ntmps31
  go_wp2_with fail
  refine Calls.mono HD.out ?_
  rintro e w1 ⟨rfl, hE, hg⟩
  have HE := Own.hid hE
  have HG := Own.hid hg
  have hcell : w1.cell? ⟨lb, k, none⟩ = some (.int .i64 (limits.getD k 0)) := hg.cell (HC.out k hk) (by simpa using hne)
  clear hE hg
  obtain ⟨y, hy⟩ : ∃ y, y = limits.getD k 0 := ⟨_, rfl⟩
  rw [← hy] at hcell
  have Hy := Own.hid hy
  clear hy
  go_wp2
  go_ret
  exact ⟨by rw [← Hy.out]; rfl, HE.out, HG.out⟩

/-- The block of the seventeen numbers. -/
theorem limit_cells (w : World) : ∀ j, j < 17 → (w.alloc (.cells #[.int .i64 (-1), .int .i64 0, .int .i64 127, .int .i64 128, .int .i64 255, .int .i64 256, .int .i64 16383, .int .i64 16384, .int .i64 65535, .int .i64 65536, .int .i64 562949953421311, .int .i64 562949953421312, .int .i64 999999999, .int .i64 1000000000, .int .i64 (-999999999), .int .i64 9223372036854775807, .int .i64 (-9223372036854775808)] 3)).cell? ⟨w.heap.size, j, none⟩ = some (.int .i64 (limits.getD j 0)) := by
  intro j hj
  rw [cell_of_row _ w.heap.size j _ _ (0, 0) (heap_alloc_new w _)]
  have : j = 0 ∨ j = 1 ∨ j = 2 ∨ j = 3 ∨ j = 4 ∨ j = 5 ∨ j = 6 ∨ j = 7 ∨ j = 8 ∨ j = 9 ∨ j = 10 ∨ j = 11 ∨ j = 12 ∨ j = 13 ∨ j = 14 ∨ j = 15 ∨ j = 16 := by omega
  rcases this with rfl | rfl | rfl | rfl | rfl | rfl | rfl | rfl | rfl | rfl | rfl | rfl | rfl | rfl | rfl | rfl | rfl <;> rfl

end Go.Proofs.Ytnkipjlkhnmilaa.Draw

namespace Go.Proofs.Ytnkipjlkhnmilaa.Mem
open Go.RowKit
set_option linter.unusedVariables false

/-- A struct out of its own block, and four temporaries, handed back. -/
theorem results_row5 {P : Program} {fn : Func} {p t1 t2 t3 t4 : Tmp} {ty : TypeId} (h : fn.results = #[.cell p ty, .tmp t1, .tmp t2, .tmp t3, .tmp t4]) (tmps : Array Value) (w : World) (g : Nat) (xs : List Value) (d : TypeDesc)
    (hp : tmps.getD p undef = .pointer (some ⟨g, 0, none⟩)) (hr : Row w g xs)
    (hu : P.underlying ty = some d) (hd : (match d with | .struct _ | .array _ _ => true | _ => false) = true) (hi : (P.info? ty).map (·.size) = some xs.length) :
    (results fn tmps).run P w = .ok (.tuple #[.agg xs.toArray, tmps.getD t1 undef, tmps.getD t2 undef, tmps.getD t3 undef, tmps.getD t4 undef]) w := by
  obtain ⟨t, hb⟩ := hr
  have hl := run_loadVar_row (P := P) w g t ty xs.toArray (0, 0) d hb hu hd (by simpa using hi)
  have hp' : tmps[p]?.getD undef = .pointer (some ⟨g, 0, none⟩) := by simpa using hp
  simp [results, h, hp', asAddr, Result.andThen, hl]

theorem owns_form {w : World} {B : Nat} {e : TypeId} {k : Nat} {v : Value} {n : Nat} {xs : List Value} (h : w.ownsRow B e k v n xs) : ∃ a cap, v = .slice a n cap := by
  obtain ⟨a, cap, e, _⟩ := (rowO_of h).wr
  exact ⟨a, cap, e⟩

theorem hosts8P (j : Nat) (h : j < 8) : -1 ≤ ([0, 1, 2, 0, 1, 2, -1, 3] : List Int).getD j 0 ∧ ([0, 1, 2, 0, 1, 2, -1, 3] : List Int).getD j 0 ≤ 3 := by
  rcases (by omega : j = 0 ∨ j = 1 ∨ j = 2 ∨ j = 3 ∨ j = 4 ∨ j = 5 ∨ j = 6 ∨ j = 7) with rfl | rfl | rfl | rfl | rfl | rfl | rfl | rfl <;> decide

set_option maxRecDepth 100000 in
set_option maxHeartbeats 4000000 in
theorem drawPut (hA : AnyDoes) (w : World) (a : Option Addr) (len cap : Nat) (zs : List Int) (C : Draw.Code w a len cap zs) :
    Calls Try.prog 9 #[.slice a len cap] w fun e w' => ∃ v D h z s t, e = .returned (.tuple #[v, .int .i64 h, .int .i64 z, .int .i64 s, .string t]) ∧ D.Any ∧ DkR w' v D ∧ (-1 ≤ h ∧ h ≤ 3) ∧ t.size ≤ 701 ∧ Below w.heap.size w w' := by
  obtain ⟨wb, hwb, ez, R0, B0⟩ := one_new w [.slice none 0 0, .slice none 0 0, .slice none 0 0] 28
  have HC := hid (C.below B0)
  have hlen := C.hb
  have HR := hid R0
  have HB := hid B0
  have EZ := hid ez
  clear R0 B0 C ez
  go_enter Try.func9, Try.ntmps9
  go_wp2_with fail
  refine (Draw.new_any wb a len cap zs HC.out).mono ?_
  rintro e w1 ⟨rfl, E1, b1⟩
  have HE1 : Hid (EnvX w1 wb.heap.size a len cap zs) := ⟨_, _, E1⟩
  have HB1 := hid b1
  clear E1 b1
  go_wp2_with fail
  refine (sizeX w1 a len cap 25 hlen (by decide) (by decide)).mono ?_
  rintro e w1' ⟨n, hn0, hn1, rfl, hw⟩
  obtain rfl := hw.symm
  go_wp2_with fail
  refine (hA w1 wb.heap.size a len cap zs HE1.out n hn0 (by omega)).mono ?_
  rintro e w2 ⟨v, D, rfl, hD, O, E2, g2⟩
  obtain ⟨p1, c1, p2, c2, p3, c3, rfl⟩ := O.three
  obtain ⟨w3, hw3, ez3, A3, B3⟩ := one_new w2 [.slice p1 D.sec.length c1, .slice p2 D.ep.length c2, .slice p3 D.pe.length c3] 28
  have HS3 := hid (DrSt.start EZ.out HR.out HB.out HB1.out HE1.out E2 g2 O A3 B3)
  have HD := hid hD
  clear A3 B3 O E2 g2 hD ez3 HE1 HB1 HR HB EZ
  go_wp2_with fail
  generalize w2.heap.size = nb at *
  generalize w1.heap.size = Bb at *
  generalize wb.heap.size = cb at *
  have hcb3 : cb < w3.heap.size := HS3.out.env.lt
  refine (pickX _ cb a len cap zs w3.heap.size 8 [0, 1, 2, 0, 1, 2, -1, 3] (by decide) (by decide) (HS3.out.alloc _).env (Nat.ne_of_gt hcb3) (fun j hj => lit_ints w3 [0, 1, 2, 0, 1, 2, -1, 3] 3 j hj)).mono ?_
  rintro e w4 ⟨j, hj, rfl, E4, g4⟩
  have HS4 := hid ((HS3.out.alloc _).draw E4 g4)
  have hhb := hosts8P j hj
  obtain ⟨h, hh⟩ : ∃ h, ([0, 1, 2, 0, 1, 2, -1, 3] : List Int).getD j 0 = h := ⟨_, rfl⟩
  rw [hh] at hhb ⊢
  have HHb := hid hhb
  clear E4 g4 HS3 hh hj hhb
  have hsl := HD.out.s
  have b0 := HS4.out.c0
  have hw2' : IntKind.i64.wrap ((D.sec.length : Int) + 2) = (D.sec.length : Int) + 2 := by rw [IntKind.wrap_i64]; omega
  go_wp2_with fail
  refine (belowX w4 cb a len cap zs ((D.sec.length : Int) + 2) (by omega) (by omega) HS4.out.env).mono ?_
  rintro e w5 ⟨x, hx, rfl, E5, g5⟩
  have HS5 := hid (HS4.out.draw E5 g5)
  have hwx : IntKind.i64.wrap ((x : Int) - 1) = (x : Int) - 1 := by rw [IntKind.wrap_i64]; omega
  clear E5 g5 HS4 b0 hw2'
  go_wp2_with fail
  refine (textX w5 cb a len cap zs 8 (by decide) (by decide) HS5.out.env).mono ?_
  rintro e w6 ⟨old0, hold0, rfl, E6, g6⟩
  have HS6 := hid (HS5.out.draw E6 g6)
  clear E6 g6 HS5
  have hel := HD.out.e
  have HEr : Hid (∀ j, j < D.ep.length → 0 ≤ D.ep.getD j 0 ∧ D.ep.getD j 0 ≤ 9223372036854775807) := fun j hj => by
    have := HD.out.ev (D.ep.getD j 0) (by simp [List.getD, hj])
    omega
  clear hwb hw3 HC hwx
  generalize hxs : (x : Int) - 1 = sx at *
  clear hxs hx
  go_wp2_with fail
  refine (onceX w6 cb a len cap zs 20 (by decide) (by decide) HS6.out.env).mono ?_
  rintro e w7 ⟨b, rfl, E7, g7⟩
  have HS7 := hid (HS6.out.draw E7 g7)
  clear E7 g7 HS6
  cases b with
  | false =>
    have HSd := hid HS7.out.drew
    obtain ⟨q0, q1, q2, k0, k1, k2, l0, l1, l2⟩ := HSd.out.six
    clear HS7
    go_wp2
    go_region_with (go_at_call 35; refine (epochX _ cb a len cap zs Bb _ D h HSd.out.env HSd.out.dk HSd.out.hB HEr.out (by unfold maxLen; omega)).mono ?_; rintro e w9 ⟨z, rfl, _, E9, g9⟩; have HS9 := hid (HSd.out.draw E9 g9); clear HSd E9 g9; obtain ⟨r0, r1, r2, m0, m1, m2, n0, n1, n2⟩ := HS9.out.six; have FN := hid HS9.out.fin)
    all_goals (try go_wp2)
    all_goals (refine bodyPost_ret (results_row5 rfl _ _ w.heap.size [.slice p1 D.sec.length c1, .slice p2 D.ep.length c2, .slice p3 D.pe.length c3] _ rfl FN.out.1 Try.underlying28 rfl (by kernel_rfl)) rfl ?_)
    all_goals exact ⟨_, D, h, z, sx, old0, rfl, HD.out, FN.out.2.1, HHb.out, by omega, FN.out.2.2⟩
  | true =>
    go_wp2_with fail
    refine (belowX w7 cb a len cap zs 2 (by decide) (by decide) HS7.out.env).mono ?_
    rintro e w8 ⟨y, hy, rfl, E8, g8⟩
    have HS8 := hid (HS7.out.draw E8 g8)
    have hwy : IntKind.i64.wrap (700 + (y : Int)) = 700 + (y : Int) := by rw [IntKind.wrap_i64]; omega
    have HO8 : Hid ((w8.alloc (.cells #[] 5)).ownsRow w8.heap.size 5 1 (.slice (some ⟨w8.heap.size, 0, none⟩) 0 0) 0 []) := World.ownsRow_made w8 #[] 0 (Nat.le_refl _) (by decide) rfl
    clear E8 g8 HS7
    go_wp2
    go_loopw [13] (fun v wr => ∃ l : List Int, l.length ≤ 701 ∧ Hid (wr.ownsRow w8.heap.size 5 1 v l.length (l.map (.int .u8))) ∧ Hid (Below w8.heap.size w8 wr)) (fun v _ => match v with | .slice _ n _ => 702 - n | _ => 0)
    case atStart => exact ⟨[], by simp, HO8, (Below.refl _ _).alloc (Nat.le_refl _) _⟩
    case round =>
      obtain ⟨l, hl, HO, HBr⟩ := hrel
      obtain ⟨va, vc, rfl⟩ := owns_form HO.out
      have hsz := HBr.out.size
      by_cases hlt : (l.length : Int) < 700 + (y : Int)
      · go_wp2_with (at_builtin; refine Own.wpList_app1 22 Try.underlying22 Draw.info5 _ _ rfl _ _ rfl w8.heap.size _ l.length l rfl HO.out rfl (by omega) hsz ?_; intro v1 w9 hown9 hbel9)
        have HB9 := hid (HBr.out.trans hbel9)
        have HO9 : Hid (w9.ownsRow w8.heap.size 5 1 v1 (l ++ [1]).length ((l ++ [1]).map (.int .u8))) := Own.hid (by simpa using hown9)
        obtain ⟨v1a, v1c, hv1⟩ := owns_form hown9
        subst hv1
        clear hown9 hbel9
        go_roundw
        case rel => exact ⟨l ++ [1], by simp; omega, HO9, HB9⟩
        case measure => show 702 - (l.length + 1) < 702 - l.length; omega
      · have hcv := Own.conv_any 22 Try.underlying22 Try.underlying5 Try.underlying9 HO.out rfl
        have HSr := hid (HS8.out.below HBr.out)
        have hss : (strOfNums l).size ≤ 701 := by rw [strOfNums_size]; exact hl
        generalize strOfNums l = sl at *
        clear HO HBr
        have HSd := hid HSr.out.drew
        obtain ⟨q0, q1, q2, k0, k1, k2, l0, l1, l2⟩ := HSd.out.six
        clear HSr
        go_wp2
        go_region_with (go_at_call 35; refine (epochX _ cb a len cap zs Bb _ D h HSd.out.env HSd.out.dk HSd.out.hB HEr.out (by unfold maxLen; omega)).mono ?_; rintro e w9 ⟨z, rfl, _, E9, g9⟩; have HS9 := hid (HSd.out.draw E9 g9); clear HSd E9 g9; obtain ⟨r0, r1, r2, m0, m1, m2, n0, n1, n2⟩ := HS9.out.six; have FN := hid HS9.out.fin)
        all_goals (try go_wp2)
        all_goals (refine bodyPost_ret (results_row5 rfl _ _ w.heap.size [.slice p1 D.sec.length c1, .slice p2 D.ep.length c2, .slice p3 D.pe.length c3] _ rfl FN.out.1 Try.underlying28 rfl (by kernel_rfl)) rfl ?_)
        all_goals exact ⟨_, D, h, z, sx, sl, rfl, HD.out, FN.out.2.1, HHb.out, hss, FN.out.2.2⟩

end Go.Proofs.Ytnkipjlkhnmilaa.Mem

namespace Go.Proofs.Ytnkipjlkhnmilaa.Mem
open Go.RowKit
set_option linter.unusedVariables false

set_option maxRecDepth 100000 in
set_option maxHeartbeats 1000000 in
theorem lawAt (w : World) (a : Option Addr) (len cap : Nat) (zs : List Int) (C : Draw.Code w a len cap zs) (i : Nat) (hi : i ≤ 1000) :
    Calls Try.prog 17 #[.slice a len cap, .int .i64 (i : Int)] w fun e w' => ∃ x : Nat, x ≤ 255 ∧ e = .returned (.int .i64 (x : Int)) ∧ w' = w := by
  have hl := C.hb
  by_cases hlt : i < len
  · obtain ⟨b, off, rfl, hc⟩ := C.code i hlt
    have hz := C.z (zs.getD i 0) (by have := C.hl; simp [List.getD, show i < zs.length by omega])
    generalize zs.getD i 0 = y at hc hz
    obtain ⟨x, rfl⟩ : ∃ x : Nat, y = (x : Int) := ⟨y.toNat, by omega⟩
    have hw8 : IntKind.i64.wrap (x : Int) = (x : Int) := by rw [IntKind.wrap_i64]; omega
    have hlt' : (i : Int) < (len : Int) := by omega
    have hx : x ≤ 255 := by omega
    clear C
    go_enter Try.func17, Try.ntmps17
    go_wp2
    go_ret
    exact ⟨x, hx, rfl, rfl⟩
  · have h1 : IntKind.i64.wrap ((i : Int) * 37) = (i : Int) * 37 := by rw [IntKind.wrap_i64]; omega
    have h2 : IntKind.i64.wrap ((len : Int) * 11) = (len : Int) * 11 := by rw [IntKind.wrap_i64]; omega
    have h3 : IntKind.i64.wrap ((i : Int) * 37 + (len : Int) * 11) = (i : Int) * 37 + (len : Int) * 11 := by rw [IntKind.wrap_i64]; omega
    obtain ⟨x, hx⟩ : ∃ x : Nat, x = (i * 37 + len * 11) % 256 := ⟨_, rfl⟩
    have h4 : Int.tmod ((i : Int) * 37 + (len : Int) * 11) 256 = (x : Int) := by rw [Int.tmod_eq_emod_of_nonneg (by omega)]; omega
    have h5 : IntKind.i64.wrap (x : Int) = (x : Int) := by rw [IntKind.wrap_i64]; omega
    have hx' : x ≤ 255 := by omega
    have hlt' : ¬ (i : Int) < (len : Int) := by omega
    clear C hx
    go_enter Try.func17, Try.ntmps17
    go_wp2
    go_ret
    exact ⟨x, hx', rfl, rfl⟩

end Go.Proofs.Ytnkipjlkhnmilaa.Mem

namespace Go.Proofs.Ytnkipjlkhnmilaa.Mem
open Go.RowKit
set_option linter.unusedVariables false

set_option maxRecDepth 100000 in
set_option maxHeartbeats 1000000 in
theorem bigL (w : World) (a : Option Addr) (len cap : Nat) (hl : len ≤ maxLen) :
    Calls Try.prog 8 #[.slice a len cap] w fun e w' => e = .returned (.bool (decide (1048576 < (len : Int)))) ∧ w' = w := by
  have hl' : (len : Int) ≤ 9223372036854775807 := by unfold maxLen at hl; omega
  by_cases g : 1048576 < (len : Int)
  · rw [decide_eq_true g]
    go_enter Try.func8, Try.ntmps8
    go_wp2
    go_ret
    exact ⟨rfl, rfl⟩
  · rw [decide_eq_false g]
    go_enter Try.func8, Try.ntmps8
    go_wp2
    go_ret
    exact ⟨rfl, rfl⟩

end Go.Proofs.Ytnkipjlkhnmilaa.Mem

namespace Go.Proofs.Ytnkipjlkhnmilaa.Mem
open Go.RowKit
set_option linter.unusedVariables false

set_option maxRecDepth 100000 in
set_option maxHeartbeats 1000000 in
theorem sameTexts (w : World) (a b : Option Addr) (ca cb : Nat) (l m : List ByteArray) (S : Strs w a l) (T : Strs w b m) (hl : l.length ≤ maxLen) (hm : m.length ≤ maxLen) :
    Calls Try.prog 23 #[.slice a l.length ca, .slice b m.length cb] w fun e w' => e = .returned (.bool (decide (l = m))) ∧ Below w.heap.size w w' := by
  unfold maxLen at hl hm
  have HS := hid S
  have HT := hid T
  clear S T
  by_cases hne : l.length = m.length
  · have Hne := hid hne
    rw [← hne]
    clear hne hm
    generalize hq : decide (l = m) = q
    have HQ := hid hq
    clear hq
    go_enter Try.func23, Try.ntmps23
    go_wp2
    go_loopw [5] (fun i wr => ∃ k : Nat, k ≤ l.length ∧ i = .int .i64 (k : Int) ∧ Hid (∀ j, j < k → l.getD j ByteArray.empty = m.getD j ByteArray.empty) ∧ Hid (Below w.heap.size w wr)) (fun i _ => l.length - (intOf i).toNat)
    case atStart => exact ⟨0, Nat.zero_le _, rfl, fun j hj => by omega, Below.refl _ _⟩
    case round =>
      obtain ⟨k, hk, rfl, HJ, HB⟩ := hrel
      by_cases hlt : k < l.length
      · obtain ⟨b1, o1, rfl, hc1⟩ := (HS.out.below HB.out) k hlt
        obtain ⟨b2, o2, rfl, hc2⟩ := (HT.out.below HB.out) k (Hne.out ▸ hlt)
        replace hc1 : wr.cell? ⟨b1, o1 + k, none⟩ = some (.string (l.getD k ByteArray.empty)) := hc1
        replace hc2 : wr.cell? ⟨b2, o2 + k, none⟩ = some (.string (m.getD k ByteArray.empty)) := hc2
        generalize hx : l.getD k ByteArray.empty = x at hc1
        generalize hy : m.getD k ByteArray.empty = y at hc2
        have HX := hid hx
        have HY := hid hy
        clear hx hy
        by_cases he : x = y
        · have he' := Own.eqS_yes he
          have HE := hid he
          clear he
          go_wp2
          go_quiet (fail)
          go_wp2
          exact ⟨⟨k + 1, by omega, by go_num, fun j hj => by
            by_cases h : j = k
            · subst h; rw [HX.out, HY.out]; exact HE.out
            · exact HJ.out j (by omega), below_drewN HB.out nq⟩, by simp [intOf]; omega⟩
        · have he' := Own.eqS_no he
          have HE := hid he
          clear he
          go_wp2
          go_quiet (fail)
          go_wp2
          go_ret
          refine ⟨?_, below_drewN HB.out nq⟩
          rw [← HQ.out, decide_eq_false (fun e => HE.out (by rw [← HX.out, ← HY.out, e]))]
          rfl
      · obtain rfl : k = l.length := by omega
        go_wp2
        go_ret
        refine ⟨?_, HB.out⟩
        rw [← HQ.out, decide_eq_true (getD_ext ByteArray.empty Hne.out HJ.out)]
        rfl
  · have hne' : ¬ (l.length : Int) = (m.length : Int) := by omega
    have HQ := hid (decide_eq_false (p := l = m) (fun e => hne (by rw [e])))
    rw [HQ.out]
    go_enter Try.func23, Try.ntmps23
    go_wp2
    go_ret
    exact ⟨rfl, Below.refl _ _⟩

set_option maxRecDepth 100000 in
set_option maxHeartbeats 1000000 in
theorem sameInts (w : World) (a b : Option Addr) (ca cb : Nat) (l m : List Int) (S : Ints w a l) (T : Ints w b m) (hl : l.length ≤ maxLen) (hm : m.length ≤ maxLen) :
    Calls Try.prog 41 #[.slice a l.length ca, .slice b m.length cb] w fun e w' => e = .returned (.bool (decide (l = m))) ∧ Below w.heap.size w w' := by
  unfold maxLen at hl hm
  have HS := hid S
  have HT := hid T
  clear S T
  by_cases hne : l.length = m.length
  · have Hne := hid hne
    rw [← hne]
    clear hne hm
    generalize hq : decide (l = m) = q
    have HQ := hid hq
    clear hq
    go_enter Try.func41, Try.ntmps41
    go_wp2
    go_loopw [5] (fun i wr => ∃ k : Nat, k ≤ l.length ∧ i = .int .i64 (k : Int) ∧ Hid (∀ j, j < k → l.getD j 0 = m.getD j 0) ∧ Hid (Below w.heap.size w wr)) (fun i _ => l.length - (intOf i).toNat)
    case atStart => exact ⟨0, Nat.zero_le _, rfl, fun j hj => by omega, Below.refl _ _⟩
    case round =>
      obtain ⟨k, hk, rfl, HJ, HB⟩ := hrel
      by_cases hlt : k < l.length
      · obtain ⟨b1, o1, rfl, hc1⟩ := (HS.out.below HB.out) k hlt
        obtain ⟨b2, o2, rfl, hc2⟩ := (HT.out.below HB.out) k (Hne.out ▸ hlt)
        replace hc1 : wr.cell? ⟨b1, o1 + k, none⟩ = some (.int .i64 (l.getD k 0)) := hc1
        replace hc2 : wr.cell? ⟨b2, o2 + k, none⟩ = some (.int .i64 (m.getD k 0)) := hc2
        generalize hx : l.getD k 0 = x at hc1
        generalize hy : m.getD k 0 = y at hc2
        have HX := hid hx
        have HY := hid hy
        clear hx hy
        by_cases he : x = y
        · have HE := hid he
          go_wp2
          go_quiet (fail)
          go_wp2
          exact ⟨⟨k + 1, by omega, by go_num, fun j hj => by
            by_cases h : j = k
            · subst h; rw [HX.out, HY.out]; exact HE.out
            · exact HJ.out j (by omega), below_drewN HB.out nq⟩, by simp [intOf]; omega⟩
        · have HE := hid he
          go_wp2
          go_quiet (fail)
          go_wp2
          go_ret
          refine ⟨?_, below_drewN HB.out nq⟩
          rw [← HQ.out, decide_eq_false (fun e => HE.out (by rw [← HX.out, ← HY.out, e]))]
          rfl
      · obtain rfl : k = l.length := by omega
        go_wp2
        go_ret
        refine ⟨?_, HB.out⟩
        rw [← HQ.out, decide_eq_true (getD_ext 0 Hne.out HJ.out)]
        rfl
  · have hne' : ¬ (l.length : Int) = (m.length : Int) := by omega
    have HQ := hid (decide_eq_false (p := l = m) (fun e => hne (by rw [e])))
    rw [HQ.out]
    go_enter Try.func41, Try.ntmps41
    go_wp2
    go_ret
    exact ⟨rfl, Below.refl _ _⟩

end Go.Proofs.Ytnkipjlkhnmilaa.Mem

namespace Go.Proofs.Ytnkipjlkhnmilaa.Mem
open Go.RowKit Classical
set_option linter.unusedVariables false

theorem wt_eq {x y : Wt} (a : x.host = y.host) (b : x.epoch = y.epoch) (c : x.sector = y.sector) (d : x.text = y.text) : x = y := by
  cases x; cases y; simp_all
theorem text_inj {x y : ByteArray} (h : x.toList = y.toList) : x = y := by
  rw [ByteArray.toList_eq, ByteArray.toList_eq] at h
  exact ByteArray.ext (Array.toList_inj.1 h)

set_option maxRecDepth 100000 in
set_option maxHeartbeats 1000000 in
theorem sameDisk (w : World) (v u : Value) (D E : Dk) (h : DkR w v D) (k : DkR w u E) (hd : D.Held) (he : E.Held) :
    Calls Try.prog 12 #[v, u] w fun e w' => e = .returned (.bool (decide (D = E))) ∧ Below w.heap.size w w' := by
  obtain ⟨a1, c1, a2, c2, a3, c3, rfl, s1, s2, s3⟩ := h
  obtain ⟨b1, d1, b2, d2, b3, d3, rfl, t1, t2, t3⟩ := k
  obtain ⟨l1, l2, l3⟩ := D
  obtain ⟨m1, m2, m3⟩ := E
  generalize hq : decide (Dk.mk l1 l2 l3 = Dk.mk m1 m2 m3) = q
  have HQ := hid hq
  have HS1 := hid s1
  have HS2 := hid s2
  have HS3 := hid s3
  have HT1 := hid t1
  have HT2 := hid t2
  have HT3 := hid t3
  have HD := hid hd
  have HE := hid he
  clear s1 s2 s3 t1 t2 t3 hd he hq
  simp only []
  go_enter Try.func12, Try.ntmps12
  go_wp2_with fail
  obtain ⟨wc, hwc, _, A0, R0, B0⟩ := two_new w [.slice a1 l1.length c1, .slice a2 l2.length c2, .slice a3 l3.length c3] [.slice b1 m1.length d1, .slice b2 m2.length d2, .slice b3 m3.length d3] 28 28
  simp only [hwc]
  clear hwc
  refine (sameTexts wc a1 b1 c1 d1 l1 m1 (HS1.out.below B0) (HT1.out.below B0) HD.out.h1 HE.out.h1).mono ?_
  rintro e w1 ⟨rfl, hb1⟩
  replace A0 := A0.below hb1 A0.lt
  replace R0 := R0.below hb1 R0.lt
  replace B0 := B0.trans (hb1.mono B0.size)
  by_cases h1 : ¬ l1 = m1
  · have h1' := decide_eq_false h1
    have HX := hid (HQ.out.symm.trans (decide_eq_false (fun e => h1 (by injection e))))
    have HB := hid B0
    clear h1 A0 R0 B0 hb1 HQ
    go_wp2
    go_ret
    exact ⟨by rw [HX.out]; rfl, HB.out⟩
  replace h1 := Classical.not_not.mp h1
  have h1' := decide_eq_true h1
  have H1 := hid h1
  have ca := A0.c 1 rfl
  have cb := R0.c 1 rfl
  have HA := hid A0
  have HR := hid R0
  have HB := hid B0
  clear h1 A0 R0 B0 hb1
  go_wp2_with fail
  refine (sameInts w1 a2 b2 c2 d2 l2 m2 (HS2.out.below HB.out) (HT2.out.below HB.out) HD.out.h2 HE.out.h2).mono ?_
  rintro e w2 ⟨rfl, hb2⟩
  have A0 := HA.out.below hb2 HA.out.lt
  have R0 := HR.out.below hb2 HR.out.lt
  have B0 := HB.out.trans (hb2.mono HB.out.size)
  clear HA HR HB ca cb
  by_cases h2 : ¬ l2 = m2
  · have h2' := decide_eq_false h2
    have HX := hid (HQ.out.symm.trans (decide_eq_false (fun e => h2 (by injection e))))
    have HB := hid B0
    clear h2 A0 R0 B0 hb2 HQ
    go_wp2
    go_ret
    exact ⟨by rw [HX.out]; rfl, HB.out⟩
  replace h2 := Classical.not_not.mp h2
  have h2' := decide_eq_true h2
  have H2 := hid h2
  have HA := hid A0
  have HR := hid R0
  have HB := hid B0
  have ca := A0.c 2 rfl
  have cb := R0.c 2 rfl
  have d3 : l3.length ≤ 9223372036854775807 := HD.out.h3
  have e3 : m3.length ≤ 9223372036854775807 := HE.out.h3
  clear h2 A0 R0 B0 hb2
  by_cases h3 : ¬ l3.length = m3.length
  · have HX := hid (HQ.out.symm.trans (decide_eq_false (fun e => h3 (by injection e with _ _ e; rw [e]))))
    have h3a : ¬ (l3.length : Int) = (m3.length : Int) := by omega
    clear HQ
    go_wp2
    go_ret
    exact ⟨by rw [HX.out]; rfl, HB.out⟩
  replace h3 := Classical.not_not.mp h3
  have h3a : (l3.length : Int) = (m3.length : Int) := by omega
  have HS3' := hid (HS3.out.below HB.out)
  have HT3' := hid (HT3.out.below HB.out)
  clear HS3 HT3 HS1 HS2 HT1 HT2 ca cb
  have ca := HA.out.c 2 rfl
  have cb := HR.out.c 2 rfl
  go_wp2_with fail
  go_loopw [5] (fun i wr => ∃ k : Nat, k ≤ l3.length ∧ i = .int .i64 (k : Int) ∧ Hid (∀ j, j < k → l3.getD j Wt.none = m3.getD j Wt.none) ∧ Hid (Below w2.heap.size w2 wr)) (fun i _ => l3.length - (intOf i).toNat)
  case atStart => exact ⟨0, Nat.zero_le _, rfl, fun j hj => by omega, Below.refl _ _⟩
  case round =>
    clear ca cb
    obtain ⟨k, hk, rfl, HP, HBr⟩ := hrel
    have HA3 := hid (HA.out.below HBr.out HA.out.lt)
    have HR3 := hid (HR.out.below HBr.out HR.out.lt)
    have ca := HA3.out.c 2 rfl
    have cb := HR3.out.c 2 rfl
    by_cases hlt : k < l3.length
    · obtain ⟨p3, o3, rfl, x0, x1, x2, x3⟩ := Wts.at_ (HS3'.out.below HBr.out) k hlt
      obtain ⟨q3, r3, rfl, y0, y1, y2, y3⟩ := Wts.at_ (HT3'.out.below HBr.out) k (by omega)
      have hkm : (k : Int) < (m3.length : Int) := by omega
      have hkl : (k : Int) < (l3.length : Int) := by omega
      generalize hx : l3.getD k Wt.none = x at x0 x1 x2 x3
      generalize hy : m3.getD k Wt.none = y at y0 y1 y2 y3
      have HX := hid hx
      have HY := hid hy
      clear hx hy
      have HF : Hid (¬ x = y → q = false) := fun h => HQ.out.symm.trans (decide_eq_false (fun e => h (by injection e with _ _ e; rw [← HX.out, ← HY.out, e])))
      have HBe := hid (((HB.out.trans (HBr.out.mono HB.out.size))).drew)
      by_cases N : ¬ x.host = y.host
      · have HN := hid (HF.out (fun e => N (by rw [e])))
        clear HQ
        go_wp2_with fail
        go_region
        go_wp2
        go_ret
        exact ⟨by rw [HN.out]; rfl, HBe.out⟩
      replace N := Classical.not_not.mp N
      have n1 := N
      by_cases N : ¬ x.epoch = y.epoch
      · have HN := hid (HF.out (fun e => N (by rw [e])))
        clear HQ
        go_wp2_with fail
        go_region
        go_wp2
        go_ret
        exact ⟨by rw [HN.out]; rfl, HBe.out⟩
      replace N := Classical.not_not.mp N
      have n2 := N
      by_cases N : ¬ x.sector = y.sector
      · have HN := hid (HF.out (fun e => N (by rw [e])))
        clear HQ
        go_wp2_with fail
        go_region
        go_wp2
        go_ret
        exact ⟨by rw [HN.out]; rfl, HBe.out⟩
      replace N := Classical.not_not.mp N
      have n3 := N
      by_cases N : ¬ x.text = y.text
      · have N' : ¬ x.text.toList = y.text.toList := fun e => N (text_inj e)
        have HN := hid (HF.out (fun e => N (by rw [e])))
        clear HQ
        go_wp2_with fail
        go_region
        go_wp2
        go_ret
        exact ⟨by rw [HN.out]; rfl, HBe.out⟩
      replace N := Classical.not_not.mp N
      have HS := hid (wt_eq n1 n2 n3 N)
      go_wp2_with fail
      go_region
      go_wp2
      exact ⟨⟨k + 1, by omega, by go_num, fun j hj => by rcases Nat.lt_or_ge j k with h | h; exact HP.out j h; rw [show j = k by omega, HX.out, HY.out]; exact HS.out, HBr.out.drew⟩, by simp [intOf]; omega⟩
    have HN := hid (HQ.out.symm.trans (decide_eq_true (show Dk.mk l1 l2 l3 = Dk.mk m1 m2 m3 by rw [H1.out, H2.out, getD_ext Wt.none h3 (fun j hj => HP.out j (by omega))])))
    have HBe := hid (HB.out.trans (HBr.out.mono HB.out.size))
    clear HQ
    go_wp2
    go_ret
    exact ⟨by rw [HN.out]; rfl, HBe.out⟩

end Go.Proofs.Ytnkipjlkhnmilaa.Mem

namespace Go.Proofs.Ytnkipjlkhnmilaa.Mem
open Go.RowKit
set_option linter.unusedVariables false

set_option maxHeartbeats 400000 in
theorem isHost (x : Int) (w : World) :
    Calls Try.prog 44 #[.int .i64 x] w fun e w' => e = .returned (.bool (decide (0 ≤ x ∧ x < 3))) ∧ w' = w := by
  by_cases h1 : 0 ≤ x
  · by_cases h2 : x < 3
    · rw [decide_eq_true (And.intro h1 h2)]
      go_enter Try.func44, Try.ntmps44
      go_wp2
      go_ret
      exact ⟨rfl, rfl⟩
    · rw [decide_eq_false (fun h => h2 h.2)]
      go_enter Try.func44, Try.ntmps44
      go_wp2
      go_ret
      exact ⟨rfl, rfl⟩
  · rw [decide_eq_false (fun h => h1 h.1)]
    go_enter Try.func44, Try.ntmps44
    go_wp2
    go_ret
    exact ⟨rfl, rfl⟩

set_option maxHeartbeats 400000 in
theorem fitsSector (t : ByteArray) (w : World) :
    Calls Try.prog 54 #[.string t] w fun e w' => e = .returned (.bool (decide ((t.size : Int) ≤ 700))) ∧ w' = w := by
  go_enter Try.func54, Try.ntmps54
  go_wp2
  go_ret
  exact ⟨rfl, rfl⟩

set_option maxHeartbeats 400000 in
theorem isSector (w : World) (v1 v2 v3 : Value) (a : Option Addr) (n c : Nat) (hv : v1 = .slice a n c) (x : Int) :
    Calls Try.prog 45 #[.agg #[v1, v2, v3], .int .i64 x] w fun e w' => e = .returned (.bool (decide (0 ≤ x ∧ x < (n : Int)))) ∧ Below w.heap.size w w' := by
  subst hv
  have B0 := ((Below.refl w.heap.size w).alloc (Nat.le_refl _) (.cells #[.slice a n c, v2, v3] 28))
  by_cases h1 : 0 ≤ x
  · by_cases h2 : x < n
    · rw [decide_eq_true (And.intro h1 h2)]
      have HB := hid B0
      clear B0
      go_enter Try.func45, Try.ntmps45
      go_wp2
      go_ret
      exact ⟨rfl, HB.out⟩
    · rw [decide_eq_false (fun h => h2 h.2)]
      have HB := hid B0
      clear B0
      go_enter Try.func45, Try.ntmps45
      go_wp2
      go_ret
      exact ⟨rfl, HB.out⟩
  · rw [decide_eq_false (fun h => h1 h.1)]
    have HB := hid B0
    clear B0
    go_enter Try.func45, Try.ntmps45
    go_wp2
    go_ret
    exact ⟨rfl, HB.out⟩

end Go.Proofs.Ytnkipjlkhnmilaa.Mem

namespace Go.Proofs.Ytnkipjlkhnmilaa.Mem
open Go.RowKit
set_option linter.unusedVariables false

/-- The first reason. -/
def Dk.refuse (D : Dk) (x ep s : Int) (ts : List ByteArray) : Int := if ((0 ≤ x ∧ x < 3) ∧ 0 ≤ s ∧ s < (D.sec.length : Int)) ∧ (∀ j, j < ts.length → ((ts.getD j ByteArray.empty).size : Int) ≤ 700) then (if D.ep.getD x.toNat 0 = ep then 0 else 2) else 1

set_option maxRecDepth 100000 in
set_option maxHeartbeats 2000000 in
theorem refusal (w : World) (v : Value) (D : Dk) (x ep s : Int) (a : Option Addr) (cap : Nat) (ts : List ByteArray) (h : DkR w v D) (h3 : D.ep.length = 3) (T : Strs w a ts) (hl : ts.length ≤ maxLen) :
    Calls Try.prog 38 #[v, .int .i64 x, .int .i64 ep, .int .i64 s, .slice a ts.length cap] w fun e w' => e = .returned (.int .i64 (D.refuse x ep s ts)) ∧ Below w.heap.size w w' := by
  have HH := hid h
  have HT := hid T
  obtain ⟨a1, c1, a2, c2, a3, c3, rfl, _, s2, _⟩ := h
  have HS2 := hid s2
  clear T s2
  have hl' : ts.length ≤ 9223372036854775807 := hl
  have hp : D.refuse x ep s ts = if ((0 ≤ x ∧ x < 3) ∧ 0 ≤ s ∧ s < (D.sec.length : Int)) ∧ (∀ j, j < ts.length → ((ts.getD j ByteArray.empty).size : Int) ≤ 700) then (if D.ep.getD x.toNat 0 = ep then 0 else 2) else 1 := rfl
  generalize D.refuse x ep s ts = P at *
  have HP := hid hp
  have H3 := hid h3
  clear hp hl h3
  obtain ⟨wb, hwb, ez, A0, B0⟩ := one_new w [.slice a1 D.sec.length c1, .slice a2 D.ep.length c2, .slice a3 D.pe.length c3] 28
  have HA := hid A0
  have HB := hid B0
  have k0 := A0.c 0 rfl
  have k1 := A0.c 1 rfl
  have k2 := A0.c 2 rfl
  clear A0 B0 ez
  go_enter Try.func38, Try.ntmps38
  go_wp2_with fail
  refine (isHost x wb).mono ?_
  rintro e w0 ⟨rfl, hw⟩
  subst hw
  by_cases g1 : ¬ (0 ≤ x ∧ x < 3)
  · have g1' := decide_eq_false g1
    have HP1 := hid (HP.out.trans (if_neg (fun q => g1 q.1.1)))
    clear g1
    go_wp2
    go_ret
    exact ⟨by rw [HP1.out]; rfl, HB.out⟩
  replace g1 := Classical.not_not.mp g1
  have g1' := decide_eq_true g1
  have HG1 := hid g1
  obtain ⟨n, rfl⟩ : ∃ n : Nat, x = (n : Int) := Int.eq_ofNat_of_zero_le g1.1
  have hn3 : (n : Int) < 3 := g1.2
  clear g1
  go_wp2_with fail
  refine (isSector w0 _ _ _ a1 D.sec.length c1 rfl s).mono ?_
  rintro e w1 ⟨rfl, b1⟩
  have HA1 := hid (HA.out.below b1 HA.out.lt)
  have HB1 := hid (HB.out.trans (b1.mono HB.out.size))
  clear HA HB b1 k0 k1 k2 g1'
  have k0 := HA1.out.c 0 rfl
  have k1 := HA1.out.c 1 rfl
  have k2 := HA1.out.c 2 rfl
  by_cases g2 : ¬ (0 ≤ s ∧ s < (D.sec.length : Int))
  · have g2' := decide_eq_false g2
    have HP1 := hid (HP.out.trans (if_neg (fun q => g2 q.1.2)))
    clear g2
    go_wp2
    go_ret
    exact ⟨by rw [HP1.out]; rfl, HB1.out⟩
  replace g2 := Classical.not_not.mp g2
  have g2' := decide_eq_true g2
  have HG2 := hid g2
  clear g2
  go_wp2
  go_loop [24] (fun i => ∃ k : Nat, k ≤ ts.length ∧ i = .int .i64 (k : Int) ∧ Hid (∀ j, j < k → ((ts.getD j ByteArray.empty).size : Int) ≤ 700)) (fun i => ts.length - (intOf i).toNat)
  case atStart => exact ⟨0, Nat.zero_le _, rfl, fun j hj => by omega⟩
  case round =>
    obtain ⟨k, hk, rfl, HJ⟩ := hrel
    by_cases hlt : k < ts.length
    · obtain ⟨b, off, rfl, hc⟩ := (HT.out.below HB1.out) k hlt
      replace hc : w1.cell? ⟨b, off + k, none⟩ = some (.string (ts.getD k ByteArray.empty)) := hc
      generalize hx : ts.getD k ByteArray.empty = y at hc
      have HX := hid hx
      clear hx
      go_wp2_with fail
      refine (fitsSector y w1).mono ?_
      rintro e w1' ⟨rfl, hw⟩
      subst hw
      by_cases hn : (y.size : Int) ≤ 700
      · have hn' := decide_eq_true hn
        go_wp2
        exact ⟨⟨k + 1, by omega, by go_num, fun j hj => by
          by_cases h : j = k
          · subst h; rw [HX.out]; exact hn
          · exact HJ.out j (by omega)⟩, by simp [intOf]; omega⟩
      · have hn' := decide_eq_false hn
        have HP1 := hid (HP.out.trans (if_neg (fun q => by have := q.2 k hlt; rw [HX.out] at this; exact hn this)))
        clear hn
        go_wp2
        go_ret
        exact ⟨by rw [HP1.out]; rfl, HB1.out⟩
    obtain rfl : k = ts.length := by omega
    have HP1 := hid (HP.out.trans (if_pos ⟨⟨HG1.out, HG2.out⟩, HJ.out⟩))
    have hnl : n < D.ep.length := by have := H3.out; omega
    obtain ⟨b2, o2, rfl, hc⟩ := (HS2.out.below HB1.out) n hnl
    replace hc : w1.cell? ⟨b2, o2 + n, none⟩ = some (.int .i64 (D.ep.getD n 0)) := hc
    generalize hy : D.ep.getD n 0 = y at hc
    have HY := hid hy
    clear hy
    have q0 : (0 : Int) ≤ (n : Int) := Int.natCast_nonneg n
    by_cases g4 : ¬ ep = y
    · have HP2 := hid (HP1.out.trans (if_neg (by rw [Int.toNat_natCast, HY.out]; exact fun q => g4 q.symm)))
      go_wp2
      go_ret
      exact ⟨by rw [HP2.out]; rfl, HB1.out⟩
    replace g4 := Classical.not_not.mp g4
    subst g4
    have HP2 := hid (HP1.out.trans (if_pos (by rw [Int.toNat_natCast, HY.out])))
    go_wp2
    go_ret
    exact ⟨by rw [HP2.out]; rfl, HB1.out⟩

end Go.Proofs.Ytnkipjlkhnmilaa.Mem

namespace Go.Proofs.Ytnkipjlkhnmilaa.Mem
open Go.RowKit

/-- A world in which nothing that was there in wa has turned. -/
structure BW (wa : World) : Type where
  val : World
  bel : Below wa.heap.size wa val

theorem BW.cell {wa : World} {p : Addr} {v : Value} (h : wa.cell? p = some v) (u : BW wa) : u.val.cell? p = some v :=
  (u.bel.cell (World.block_lt_of_cell? wa _ h)).trans h

theorem wp_region_bw {P : Program} {id : Nat} {Q : Exit → Act → World → Prop} {a : Act} {wa : World} {l : List Oper} (hm : P.follows .mixedOrders = true) (hB : Region.lexB .any l.toArray = true)
    (h : wpQuiet P l.toArray (fun w' => ∃ u : BW wa, w' = u.val) (fun a' => ∀ w', (∃ u : BW wa, w' = u.val) → Q .normal a' w') l a) : (Code.region id l.toArray true).wp P Q a wa :=
  wp_region_quiet (C := fun w' => ∃ u : BW wa, w' = u.val) hm hB ⟨⟨wa.drew, (Below.refl _ wa).drew⟩, rfl⟩ (by simpa using h)

theorem bw_same {P : Program} {f : FuncId} {args : Array Value} {wa : World} {u : BW wa} {v : Value} (h : Calls P f args u.val fun e w' => e = .returned v ∧ w' = u.val) :
    Calls P f args u.val fun e w'' => e = .returned v ∧ ∃ u' : BW wa, w'' = u'.val := h.mono fun _ _ ⟨he, hm⟩ => ⟨he, u, hm⟩

theorem bw_below {P : Program} {f : FuncId} {args : Array Value} {wa : World} {u : BW wa} {v : Value} (h : Calls P f args u.val fun e w' => e = .returned v ∧ Below u.val.heap.size u.val w') :
    Calls P f args u.val fun e w'' => e = .returned v ∧ ∃ u' : BW wa, w'' = u'.val := h.mono fun _ w' ⟨he, hm⟩ => ⟨he, ⟨w', u.bel.trans (hm.mono u.bel.size)⟩, rfl⟩

end Go.Proofs.Ytnkipjlkhnmilaa.Mem

namespace Go.Proofs.Ytnkipjlkhnmilaa.Mem
open Go.RowKit
set_option linter.unusedVariables false

set_option maxRecDepth 100000 in
set_option maxHeartbeats 2000000 in
theorem implDiskOk (w : World) (v : Value) (D : Dk) (h : DkR w v D) (hd : D.Held) :
    Calls Try.prog 36 #[v] w fun e w' => e = .returned (.bool D.right) ∧ Below w.heap.size w w' := by
  obtain ⟨a1, c1, a2, c2, a3, c3, rfl, s1, s2, s3⟩ := h
  obtain ⟨l1, l2, l3⟩ := D
  have HS1 := hid s1
  have HS2 := hid s2
  have HS3 := hid s3
  have d1 : l1.length ≤ 9223372036854775807 := hd.h1
  have d2 : l2.length ≤ 9223372036854775807 := hd.h2
  have d3 : l3.length ≤ 9223372036854775807 := hd.h3
  have HD := hid hd
  clear s1 s2 s3 hd
  simp only []
  have no : ¬ (Dk.mk l1 l2 l3).Right → (Dk.mk l1 l2 l3).right = false := Dk.right_no
  have yes : (Dk.mk l1 l2 l3).Right → (Dk.mk l1 l2 l3).right = true := Dk.right_yes
  generalize (Dk.mk l1 l2 l3).right = q at *
  have HN := hid no
  have HY := hid yes
  clear no yes
  go_enter Try.func36, Try.ntmps36
  obtain ⟨w1, hwb, ez, A0, B0⟩ := one_new w [.slice a1 l1.length c1, .slice a2 l2.length c2, .slice a3 l3.length c3] 28
  have HB := hid B0
  have HA := hid A0
  have k1 := A0.c 1 rfl
  have k2 := A0.c 2 rfl
  have k0 := A0.c 0 rfl
  clear A0 B0
  by_cases g1 : (l1.length : Int) < 1
  · have HN := hid (HN.out (by intro x; have := x.n1; simp only [] at *; omega))
    go_wp2
    go_ret
    exact ⟨by rw [HN.out]; rfl, HB.out⟩
  by_cases g1b : 40 < (l1.length : Int)
  · have HN := hid (HN.out (by intro x; have := x.n2; simp only [] at *; omega))
    go_wp2
    go_ret
    exact ⟨by rw [HN.out]; rfl, HB.out⟩
  by_cases g2 : ¬ (l2.length : Int) = 3
  · have HN := hid (HN.out (by intro x; have := x.e3; simp only [] at *; omega))
    go_wp2
    go_ret
    exact ⟨by rw [HN.out]; rfl, HB.out⟩
  replace g2 := Classical.not_not.mp g2
  by_cases g3 : 40 < (l3.length : Int)
  · have HN := hid (HN.out (by intro x; have := x.p40; simp only [] at *; omega))
    go_wp2
    go_ret
    exact ⟨by rw [HN.out]; rfl, HB.out⟩
  go_wp2
  clear hwb
  go_loop [34] (fun i => ∃ k : Nat, k ≤ l1.length ∧ i = .int .i64 (k : Int) ∧ Hid (∀ j, j < k → ((l1.getD j ByteArray.empty).size : Int) ≤ 700)) (fun i => l1.length - (intOf i).toNat)
  case atStart => exact ⟨0, Nat.zero_le _, rfl, fun j hj => by omega⟩
  case round =>
    obtain ⟨k, hk, rfl, HJ⟩ := hrel
    by_cases hlt : k < l1.length
    · obtain ⟨b, off, rfl, hc⟩ := (HS1.out.below HB.out) k hlt
      replace hc : w1.cell? ⟨b, off + k, none⟩ = some (.string (l1.getD k ByteArray.empty)) := hc
      generalize hx : l1.getD k ByteArray.empty = x at hc
      have HX := hid hx
      clear hx
      go_wp2_with fail
      refine (fitsSector x w1).mono ?_
      rintro e w1' ⟨rfl, hw⟩
      subst hw
      by_cases hn : (x.size : Int) ≤ 700
      · have hn' := decide_eq_true hn
        go_wp2
        exact ⟨⟨k + 1, by omega, by go_num, fun j hj => by
          by_cases h : j = k
          · subst h; rw [HX.out]; exact hn
          · exact HJ.out j (by omega)⟩, by simp [intOf]; omega⟩
      · have hn' := decide_eq_false hn
        have HN := hid (HN.out (by intro q; have := q.s k hlt; simp only [HX.out] at this; exact hn this))
        clear hn
        go_wp2
        go_ret
        exact ⟨by rw [HN.out]; rfl, HB.out⟩
    obtain rfl : k = l1.length := by omega
    go_wp2
    go_loop [45] (fun i => ∃ k : Nat, k ≤ l2.length ∧ i = .int .i64 (k : Int) ∧ Hid (∀ j, j < k → 1 ≤ l2.getD j 0 ∧ l2.getD j 0 ≤ 100000)) (fun i => l2.length - (intOf i).toNat)
    case atStart => exact ⟨0, Nat.zero_le _, rfl, fun j hj => by omega⟩
    case round =>
      obtain ⟨k, hk, rfl, HE⟩ := hrel
      by_cases hlt : k < l2.length
      · obtain ⟨b, off, rfl, hc⟩ := (HS2.out.below HB.out) k hlt
        replace hc : w1.cell? ⟨b, off + k, none⟩ = some (.int .i64 (l2.getD k 0)) := hc
        generalize hx : l2.getD k 0 = x at hc
        have HX := hid hx
        clear hx
        by_cases hn : x < 1
        · have HN := hid (HN.out (by intro q; have := q.e k hlt; simp only [HX.out] at this; omega))
          go_wp2
          go_ret
          exact ⟨by rw [HN.out]; rfl, HB.out⟩
        by_cases hm : 100000 < x
        · have HN := hid (HN.out (by intro q; have := q.e k hlt; simp only [HX.out] at this; omega))
          go_wp2
          go_ret
          exact ⟨by rw [HN.out]; rfl, HB.out⟩
        go_wp2
        exact ⟨⟨k + 1, by omega, by go_num, fun j hj => by
          by_cases h : j = k
          · subst h; rw [HX.out]; omega
          · exact HE.out j (by omega)⟩, by simp [intOf]; omega⟩
      obtain rfl : k = l2.length := by omega
      go_wp2
      go_loopw [59] (fun i wr => ∃ k : Nat, k ≤ l3.length ∧ i = .int .i64 (k : Int) ∧ Hid (∀ j, j < k → (l3.getD j Wt.none).okIn (Dk.mk l1 l2 l3)) ∧ Hid (Below w1.heap.size w1 wr)) (fun i _ => l3.length - (intOf i).toNat)
      case atStart => exact ⟨0, Nat.zero_le _, rfl, fun j hj => by omega, Below.refl _ _⟩
      case round =>
        obtain ⟨k, hk, rfl, HP, HB'⟩ := hrel
        have A0 := HA.out.below HB'.out HA.out.lt
        have HBw := hid (HB.out.trans (HB'.out.mono HB.out.size))
        have m0 := A0.c 0 rfl
        have m1 := A0.c 1 rfl
        have m2 := A0.c 2 rfl
        by_cases hlt : k < l3.length
        · obtain ⟨b, off, rfl, x0, x1, x2, x3⟩ := Wts.at_ (HS3.out.below HBw.out) k hlt
          generalize hx : l3.getD k Wt.none = x at x0 x1 x2 x3
          have HX := hid hx
          clear hx
          have HA' := hid A0
          clear A0
          obtain ⟨xh, xe, xs, xt⟩ := x
          simp only [] at x0 x1 x2 x3
          go_wp2
          obtain ⟨wa, hwa, ea, R0, B0⟩ := one_new wr [.int .i64 xh, .int .i64 xe, .int .i64 xs, .string xt] 44
          simp only [hwa]
          clear hwa
          have HB1 := hid (HB'.out.trans (B0.mono HB'.out.size))
          have HBw1 := hid (HB.out.trans (HB1.out.mono HB.out.size))
          replace m0 := (HA'.out.below B0 HA'.out.lt).c 0 rfl
          replace m1 := (HA'.out.below B0 HA'.out.lt).c 1 rfl
          replace m2 := (HA'.out.below B0 HA'.out.lt).c 2 rfl
          have y0 := R0.c 0 rfl
          have y1 := R0.c 1 rfl
          have y2 := R0.c 2 rfl
          have y3 := R0.c 3 rfl
          clear x0 x1 x2 x3 k0 k1 k2 B0 R0 ea
          by_cases q1 : ¬ (0 ≤ xh ∧ xh < 3)
          · have q1' := decide_eq_false q1
            have HN := hid (HN.out (by intro q; have := (q.p k hlt).1; simp only [HX.out] at this; exact q1 this))
            clear q1
            go_quiet ((go_at_call 44; refine Calls.quiet_of_same (isHost _ _)))
            go_wp2
            go_ret
            exact ⟨by rw [HN.out]; rfl, below_drewN HBw1.out _⟩
          replace q1 := Classical.not_not.mp q1
          have q1' := decide_eq_true q1
          have HQ1 := hid q1
          obtain ⟨n, rfl⟩ : ∃ n : Nat, xh = (n : Int) := Int.eq_ofNat_of_zero_le q1.1
          have hn3 : (n : Int) < 3 := q1.2
          clear q1
          obtain ⟨b2, o2, rfl, hc⟩ := (HS2.out.below HBw1.out) n (by omega)
          replace hc : wa.cell? ⟨b2, o2 + n, none⟩ = some (.int .i64 (l2.getD n 0)) := hc
          generalize hy : l2.getD n 0 = y at hc
          have HYE := hid hy
          clear hy
          by_cases q2 : ¬ xe = y
          · have q2' := decide_eq_false q2
            have HN := hid (HN.out (by intro q; have := (q.p k hlt).2.1; simp only [HX.out, Int.toNat_natCast, HYE.out] at this; exact q2 this))
            go_quiet ((go_at_call 44; refine Calls.quiet_of_same (isHost _ _)))
            go_wp2
            go_ret
            exact ⟨by rw [HN.out]; rfl, below_drewN HBw1.out _⟩
          obtain rfl := Classical.not_not.mp q2
          clear q2
          replace m0 := BW.cell m0
          replace m1 := BW.cell m1
          replace m2 := BW.cell m2
          replace y0 := BW.cell y0
          replace y1 := BW.cell y1
          replace y2 := BW.cell y2
          replace y3 := BW.cell y3
          replace hc := BW.cell hc
          have hne : Nonempty (BW wa) := ⟨⟨wa, Below.refl _ _⟩⟩
          have q0 : (0 : Int) ≤ (n : Int) := Int.natCast_nonneg n
          have q00 : (n : Int) < (l2.length : Int) := by omega
          by_cases q3 : ¬ (0 ≤ xs ∧ xs < (l1.length : Int))
          · have q3' := decide_eq_false q3
            have HN := hid (HN.out (by intro q; have := (q.p k hlt).2.2.1; have := (q.p k hlt).2.2.2.1; simp only [HX.out] at *; exact q3 ⟨by assumption, by assumption⟩))
            clear q3
            refine wp_region_bw (by kernel_rfl) (by kernel_rfl) ?_
            repeat (go_big_quiet_step (first
              | (go_at_call 44; refine bw_same (isHost _ _))
              | (go_at_call 54; refine bw_same (fitsSector _ _))
              | (go_at_call 45; refine bw_below (isSector _ _ _ _ _ _ _ rfl _))))
            refine wpQuiet_nil ?_
            intro _ hw'
            obtain ⟨u, hw''⟩ := hw'
            subst hw''
            go_wp2
            go_ret
            exact ⟨by rw [HN.out]; rfl, HBw1.out.trans (u.bel.mono HBw1.out.size)⟩
          replace q3 := Classical.not_not.mp q3
          have q3' := decide_eq_true q3
          have HQ3 := hid q3
          clear q3
          by_cases q5 : ¬ (xt.size : Int) ≤ 700
          · have q5' := decide_eq_false q5
            have HN := hid (HN.out (by intro q; have := (q.p k hlt).2.2.2.2; simp only [HX.out] at this; exact q5 this))
            clear q5
            refine wp_region_bw (by kernel_rfl) (by kernel_rfl) ?_
            repeat (go_big_quiet_step (first
              | (go_at_call 44; refine bw_same (isHost _ _))
              | (go_at_call 54; refine bw_same (fitsSector _ _))
              | (go_at_call 45; refine bw_below (isSector _ _ _ _ _ _ _ rfl _))))
            refine wpQuiet_nil ?_
            intro _ hw'
            obtain ⟨u, hw''⟩ := hw'
            subst hw''
            go_wp2
            go_ret
            exact ⟨by rw [HN.out]; rfl, HBw1.out.trans (u.bel.mono HBw1.out.size)⟩
          replace q5 := Classical.not_not.mp q5
          have q5' := decide_eq_true q5
          have HQ5 := hid q5
          clear q5
          refine wp_region_bw (by kernel_rfl) (by kernel_rfl) ?_
          repeat (go_big_quiet_step (first
            | (go_at_call 44; refine bw_same (isHost _ _))
            | (go_at_call 54; refine bw_same (fitsSector _ _))
            | (go_at_call 45; refine bw_below (isSector _ _ _ _ _ _ _ rfl _))))
          refine wpQuiet_nil ?_
          intro _ hw'
          obtain ⟨u, hw''⟩ := hw'
          subst hw''
          go_wp2
          exact ⟨⟨k + 1, by omega, by go_num, fun j hj => by
            by_cases h : j = k
            · subst h
              rw [HX.out]
              exact ⟨HQ1.out, by simpa using HYE.out.symm, HQ3.out.1, HQ3.out.2, HQ5.out⟩
            · exact HP.out j (by omega), HB1.out.trans (u.bel.mono HB1.out.size)⟩, by simp [intOf]; omega⟩
        obtain rfl : k = l3.length := by omega
        have HY := hid (HY.out ⟨by show 1 ≤ l1.length; omega, by show l1.length ≤ 40; omega, by show l2.length = 3; omega, by show l3.length ≤ 40; omega, HJ.out, HE.out, HP.out⟩)
        go_wp2
        go_ret
        exact ⟨by rw [HY.out]; rfl, HBw.out⟩

end Go.Proofs.Ytnkipjlkhnmilaa.Mem

namespace Go.Proofs.Ytnkipjlkhnmilaa.Mem
open Go.RowKit
set_option linter.unusedVariables false

set_option maxRecDepth 100000 in
set_option maxHeartbeats 2000000 in
theorem copyDisk (w : World) (v : Value) (D : Dk) (h : DkR w v D) (h1 : D.sec.length ≤ 1048576) (h2 : D.ep.length ≤ 1048576) (h3 : D.pe.length ≤ 1048576) :
    Calls Try.prog 37 #[v] w fun e w' => ∃ v', e = .returned v' ∧ DkO w' w.heap.size v' D ∧ Below w.heap.size w w' := by
  obtain ⟨a1, c1, a2, c2, a3, c3, rfl, s1, s2, s3⟩ := h
  have HS1 := hid (strs_sl s1)
  have HS2 := hid (ints_sl s2)
  have HS3 := hid (wts_sl s3)
  clear s1 s2 s3
  go_enter Try.func37, Try.ntmps37
  go_wp2
  obtain ⟨wc, hwc, ec, A0, R0, B0⟩ := two_new w [.slice a1 D.sec.length c1, .slice a2 D.ep.length c2, .slice a3 D.pe.length c3] [.slice none 0 0, .slice none 0 0, .slice none 0 0] 28 28
  simp only [hwc]
  clear hwc
  have k0 := A0.c 0 rfl
  have k1 := A0.c 1 rfl
  have k2 := A0.c 2 rfl
  have HB := hid B0
  have hn : w.heap.size + 1 ≤ wc.heap.size := by omega
  have hcp : CpRest wc w.heap.size wc.drew := ⟨(Below.refl _ wc).drew, fun j hj => by
    match j, hj with
    | 0, _ => exact ⟨_, R0.c 0 rfl⟩
    | 1, _ => exact ⟨_, R0.c 1 rfl⟩
    | 2, _ => exact ⟨_, R0.c 2 rfl⟩, fun j _ => R0.f j⟩
  have Q0 := hid (show wc.drew.cell? ⟨w.heap.size, 0, none⟩ = some (.slice a1 D.sec.length c1) ∧ wc.drew.cell? ⟨w.heap.size, 1, none⟩ = some (.slice a2 D.ep.length c2) ∧ wc.drew.cell? ⟨w.heap.size, 2, none⟩ = some (.slice a3 D.pe.length c3) ∧ CpRest wc w.heap.size wc.drew from ⟨k0, k1, k2, hcp⟩)
  clear A0 R0 B0 hcp k0 k1 k2
  go_region_held_law (fun w' => w'.cell? ⟨w.heap.size, 0, none⟩ = some (.slice a1 D.sec.length c1) ∧ w'.cell? ⟨w.heap.size, 1, none⟩ = some (.slice a2 D.ep.length c2) ∧ w'.cell? ⟨w.heap.size, 2, none⟩ = some (.slice a3 D.pe.length c3) ∧ CpRest wc w.heap.size w')
    (first | with_reducible exact Q0.out | with_reducible exact Q3.out | with_reducible exact Q2.out | with_reducible exact Q1.out | (with_reducible refine cp_alloc_drew hn ?_ _; with_reducible assumption) | (with_reducible refine cp_alloc hn ?_ _; with_reducible assumption) | (with_reducible refine cp_set (cp_set (cp_set ?_ 0 _) 1 _) 2 _; with_reducible assumption))
    (first
      | (refine step_app_empty 24 9 (.string ByteArray.empty) 1 16 Try.underlying24 info9' rfl (by decide) (by decide) rfl (.const (.slice none 0 0)) (.tmp 4) rfl _ rfl a1 D.sec.length c1 (sCells D.sec) rfl (by simp [sCells]) (cp_sl HS1.out HB.out rfl (by with_reducible assumption)) (sCells_one _) h1 ?_; intro v1 w1 r1 b1 z1 y1; replace r1 := r1.mono (cp_size (wc := wc) (n := w.heap.size) (x0 := .slice a1 D.sec.length c1) (x1 := .slice a2 D.ep.length c2) (x2 := .slice a3 D.pe.length c3) (by with_reducible assumption)); obtain ⟨p1, d1, e1, _⟩ := r1.wr; subst e1; have Q1 := hid (cp_below (wc := wc) (n := w.heap.size) (x0 := .slice a1 D.sec.length c1) (x1 := .slice a2 D.ep.length c2) (x2 := .slice a3 D.pe.length c3) hn b1 (by with_reducible assumption)); have R1 := hid r1; have Z1 := hid z1; have Y1 := hid y1; clear r1 b1 z1 y1)
      | (refine step_app_empty 26 44 Wt.none.val 4 40 Try.underlying26 infoW rfl (by decide) (by decide) rfl (.const (.slice none 0 0)) (.tmp 10) rfl _ rfl a3 D.pe.length c3 (wCells D.pe) rfl (wCells_length _) (cp_sl HS3.out HB.out rfl (by with_reducible assumption)) (wCells_one _) h3 ?_; intro v3 w3 r3 b3 z3 y3; replace r3 := r3.mono (cp_size (wc := wc) (n := w.heap.size) (x0 := .slice a1 D.sec.length c1) (x1 := .slice a2 D.ep.length c2) (x2 := .slice a3 D.pe.length c3) (by with_reducible assumption)); obtain ⟨p3, d3, e3, _⟩ := r3.wr; subst e3; have Q3 := hid (cp_below (wc := wc) (n := w.heap.size) (x0 := .slice a1 D.sec.length c1) (x1 := .slice a2 D.ep.length c2) (x2 := .slice a3 D.pe.length c3) hn b3 (by with_reducible assumption)); have T23 := hid (show Below w2.heap.size w2 w3 from (by first | with_reducible exact b3 | with_reducible exact below_a1 b3 | with_reducible exact below_a2 b3)); have R1'' := hid (R1'.out.below T23.out); have R2' := hid (R2.out.below T23.out); have S23 := hid (apart_fresh Z2.out Y2.out z3 y3 (by first | with_reducible exact Nat.le_refl _ | with_reducible exact Nat.le_of_lt (lt_alloc _ _) | with_reducible exact Nat.le_of_lt (Nat.lt_trans (lt_alloc _ _) (lt_alloc _ _)))); have S13 := hid (apart_fresh Z1.out Y1.out z3 y3 (Nat.le_trans T12.out.size (by first | with_reducible exact Nat.le_refl _ | with_reducible exact Nat.le_of_lt (lt_alloc _ _) | with_reducible exact Nat.le_of_lt (Nat.lt_trans (lt_alloc _ _) (lt_alloc _ _))))); obtain ⟨u0, g0⟩ := Q3.out.2.2.2.s 0 (by decide); obtain ⟨u1, g1⟩ := Q3.out.2.2.2.s 1 (by decide); obtain ⟨u2, g2⟩ := Q3.out.2.2.2.s 2 (by decide); have f0 := Q3.out.2.2.2.f 0 (by decide); have f1 := Q3.out.2.2.2.f 1 (by decide); have f2 := Q3.out.2.2.2.f 2 (by decide); have R3 := hid r3; have Z3 := hid z3; have Y3 := hid y3; clear r3 b3 z3 y3)
      | (refine step_app_empty 25 3 (.int .i64 0) 1 8 Try.underlying25 info3' rfl (by decide) (by decide) rfl (.const (.slice none 0 0)) (.tmp 7) rfl _ rfl a2 D.ep.length c2 (iCells D.ep) rfl (by simp [iCells]) (cp_sl HS2.out HB.out rfl (by with_reducible assumption)) (iCells_one _) h2 ?_; intro v2 w2 r2 b2 z2 y2; replace r2 := r2.mono (cp_size (wc := wc) (n := w.heap.size) (x0 := .slice a1 D.sec.length c1) (x1 := .slice a2 D.ep.length c2) (x2 := .slice a3 D.pe.length c3) (by with_reducible assumption)); obtain ⟨p2, d2, e2, _⟩ := r2.wr; subst e2; have Q2 := hid (cp_below (wc := wc) (n := w.heap.size) (x0 := .slice a1 D.sec.length c1) (x1 := .slice a2 D.ep.length c2) (x2 := .slice a3 D.pe.length c3) hn b2 (by with_reducible assumption)); have T12 := hid (show Below w1.heap.size w1 w2 from (by first | with_reducible exact b2 | with_reducible exact below_a1 b2 | with_reducible exact below_a2 b2)); have R1' := hid (R1.out.below T12.out); have S12 := hid (apart_fresh Z1.out Y1.out z2 y2 (by first | with_reducible exact Nat.le_refl _ | with_reducible exact Nat.le_of_lt (lt_alloc _ _) | with_reducible exact Nat.le_of_lt (Nat.lt_trans (lt_alloc _ _) (lt_alloc _ _)))); have R2 := hid r2; have Z2 := hid z2; have Y2 := hid y2; clear r2 b2 z2 y2))
  all_goals clear Q0
  all_goals (go_wp2; refine bodyPost_ret (results_mid rfl _ _ (w.heap.size + 1) [.slice p1 D.sec.length d1, .slice p2 D.ep.length d2, .slice p3 D.pe.length d3] _ rfl (range3 g0 g1 g2) Try.underlying28 rfl (by kernel_rfl)) rfl ?_; exact ⟨_, rfl, copy_end ec HB.out Q3.out.2.2.2.bel R1''.out R2'.out R3.out S12.out S13.out S23.out⟩)

end Go.Proofs.Ytnkipjlkhnmilaa.Mem

namespace Go.Proofs.Ytnkipjlkhnmilaa.Mem
open Go.RowKit
set_option linter.unusedVariables false

structure ISt (w : World) (a0 a1 a2 : Value) (B nn : Nat) (p0 p1 p2 : Value) (E : Dk) (wk : World) : Prop where
  bel : Below w.heap.size w wk
  ra : Row wk w.heap.size [a0, a1, a2]
  rr : Row wk (w.heap.size + 1) [.slice none 0 0, .slice none 0 0, .slice none 0 0]
  rn : Row wk nn [p0, p1, p2]
  o : DkO wk B (.agg #[p0, p1, p2]) E
  lb : w.heap.size + 1 < B
  ln : B ≤ nn
  far : ∀ b, DkB (.agg #[p0, p1, p2]) b → b ≠ nn

theorem ISt.below {w : World} {a0 a1 a2 : Value} {B nn : Nat} {p0 p1 p2 : Value} {E : Dk} {wk w' : World} (h : ISt w a0 a1 a2 B nn p0 p1 p2 E wk) (b : Below wk.heap.size wk w') : ISt w a0 a1 a2 B nn p0 p1 p2 E w' :=
  ⟨h.bel.trans (b.mono h.bel.size), h.ra.below b h.ra.lt, h.rr.below b h.rr.lt, h.rn.below b h.rn.lt, h.o.below b, h.lb, h.ln, h.far⟩

theorem ISt.cells {w : World} {a0 a1 a2 : Value} {B nn : Nat} {p0 p1 p2 : Value} {E : Dk} {wk : World} (h : ISt w a0 a1 a2 B nn p0 p1 p2 E wk) :
    wk.cell? ⟨w.heap.size, 0, none⟩ = some a0 ∧ wk.cell? ⟨w.heap.size, 1, none⟩ = some a1 ∧ wk.cell? ⟨w.heap.size, 2, none⟩ = some a2 ∧
    wk.cell? ⟨w.heap.size + 1, 0, none⟩ = some (.slice none 0 0) ∧ wk.cell? ⟨w.heap.size + 1, 1, none⟩ = some (.slice none 0 0) ∧ wk.cell? ⟨w.heap.size + 1, 2, none⟩ = some (.slice none 0 0) ∧
    wk.frozen? ⟨w.heap.size + 1, 0, none⟩ = false ∧ wk.frozen? ⟨w.heap.size + 1, 1, none⟩ = false ∧ wk.frozen? ⟨w.heap.size + 1, 2, none⟩ = false ∧
    wk.cell? ⟨nn, 0, none⟩ = some p0 ∧ wk.cell? ⟨nn, 1, none⟩ = some p1 ∧ wk.cell? ⟨nn, 2, none⟩ = some p2 ∧ wk.frozen? ⟨nn, 2, none⟩ = false :=
  ⟨h.ra.c 0 rfl, h.ra.c 1 rfl, h.ra.c 2 rfl, h.rr.c 0 rfl, h.rr.c 1 rfl, h.rr.c 2 rfl, h.rr.f 0, h.rr.f 1, h.rr.f 2, h.rn.c 0 rfl, h.rn.c 1 rfl, h.rn.c 2 rfl, h.rn.f 2⟩

/-- The own disk is handed back. -/
theorem ISt.done {w : World} {a0 a1 a2 : Value} {B nn : Nat} {p0 p1 p2 : Value} {E : Dk} {wk : World} (h : ISt w a0 a1 a2 B nn p0 p1 p2 E wk) :
    DkW (((wk.setCell ⟨w.heap.size + 1, 0, none⟩ p0).setCell ⟨w.heap.size + 1, 1, none⟩ p1).setCell ⟨w.heap.size + 1, 2, none⟩ p2) w.heap.size (.agg #[p0, p1, p2]) E ∧
    Below w.heap.size w (((wk.setCell ⟨w.heap.size + 1, 0, none⟩ p0).setCell ⟨w.heap.size + 1, 1, none⟩ p1).setCell ⟨w.heap.size + 1, 2, none⟩ p2) ∧
    Row (((wk.setCell ⟨w.heap.size + 1, 0, none⟩ p0).setCell ⟨w.heap.size + 1, 1, none⟩ p1).setCell ⟨w.heap.size + 1, 2, none⟩ p2) (w.heap.size + 1) [p0, p1, p2] :=
  wrap_end h.lb h.bel h.o (Below.refl _ _) h.rr

theorem ISt.start {w w1 w2 wn : World} {a0 a1 a2 p0 p1 p2 : Value} {E : Dk} (HB : Below w.heap.size w w1) (HA : Row w1 w.heap.size [a0, a1, a2]) (HR : Row w1 (w.heap.size + 1) [.slice none 0 0, .slice none 0 0, .slice none 0 0])
    (O : DkO w2 w1.heap.size (.agg #[p0, p1, p2]) E) (b2 : Below w1.heap.size w1 w2) (N0 : Row wn w2.heap.size [p0, p1, p2]) (bn : Below w2.heap.size w2 wn) : ISt w a0 a1 a2 w1.heap.size w2.heap.size p0 p1 p2 E wn :=
  ⟨(HB.trans (b2.mono HB.size)).trans (bn.mono (Nat.le_trans HB.size b2.size)), (HA.below b2 HA.lt).below bn (HA.below b2 HA.lt).lt, (HR.below b2 HR.lt).below bn (HR.below b2 HR.lt).lt, N0, O.below bn, HR.lt, b2.size, fun b hb => by have := (O.lt hb).2; omega⟩

theorem Row.otherK {S : Nat → Prop} {w w' : World} {g : Nat} {xs : List Value} (h : Row w g xs) (k : Kept S w w') (hg : ¬ S g) : Row w' g xs := h.kept k hg

/-- A sector of the own disk is stored. -/
theorem ISt.setSec {w : World} {a0 a1 a2 : Value} {B nn : Nat} {g n cap i : Nat} {p1 p2 : Value} {E : Dk} {wk : World} (h : ISt w a0 a1 a2 B nn (.slice (some ⟨g, 0, none⟩) n (cap + 1)) p1 p2 E wk) (hi : i < E.sec.length) (t : ByteArray) :
    ISt w a0 a1 a2 B nn (.slice (some ⟨g, 0, none⟩) n (cap + 1)) p1 p2 ⟨E.sec.set i t, E.ep, E.pe⟩ (wk.setCell ⟨g, i, none⟩ (.string t)) := by
  have hg := h.o.lt (b := g) ⟨_, _, _, rfl, Or.inl rfl⟩
  have hf := h.far g ⟨_, _, _, rfl, Or.inl rfl⟩
  have k := kept_set wk g i (.string t)
  have := h.lb
  exact ⟨below_set h.bel g i _ (by omega), h.ra.kept k (by omega), h.rr.kept k (by omega), h.rn.kept k (fun e => hf e.symm), h.o.setSec hi t, h.lb, h.ln, h.far⟩

/-- An epoch of the own disk is stored. -/
theorem ISt.setEp {w : World} {a0 a1 a2 : Value} {B nn : Nat} {g n cap i : Nat} {p0 p2 : Value} {E : Dk} {wk : World} (h : ISt w a0 a1 a2 B nn p0 (.slice (some ⟨g, 0, none⟩) n (cap + 1)) p2 E wk) (hi : i < E.ep.length) (z : Int) :
    ISt w a0 a1 a2 B nn p0 (.slice (some ⟨g, 0, none⟩) n (cap + 1)) p2 ⟨E.sec, E.ep.set i z, E.pe⟩ (wk.setCell ⟨g, i, none⟩ (.int .i64 z)) := by
  have hg := h.o.lt (b := g) ⟨_, _, _, rfl, Or.inr (Or.inl rfl)⟩
  have hf := h.far g ⟨_, _, _, rfl, Or.inr (Or.inl rfl)⟩
  have k := kept_set wk g i (.int .i64 z)
  have := h.lb
  exact ⟨below_set h.bel g i _ (by omega), h.ra.kept k (by omega), h.rr.kept k (by omega), h.rn.kept k (fun e => hf e.symm), h.o.setEp hi z, h.lb, h.ln, h.far⟩

/-- Another list of writes is laid into the own disk. -/
theorem ISt.setPend {w : World} {a0 a1 a2 : Value} {B nn : Nat} {p0 p1 p2 v : Value} {E : Dk} {wk w2 : World} {l : List Wt} (h : ISt w a0 a1 a2 B nn p0 p1 p2 E wk) (b : Below wk.heap.size wk w2) (r : RowO w2 wk.heap.size 44 4 v l.length (wCells l)) :
    ISt w a0 a1 a2 B nn p0 p1 v ⟨E.sec, E.ep, l⟩ (w2.setCell ⟨nn, 2, none⟩ v) := by
  have hn := h.rn.lt
  have hB : B ≤ wk.heap.size := by have := h.ln; omega
  have o2 := h.o.swapped b hB r
  have far : ∀ c, DkB (.agg #[p0, p1, v]) c → c ≠ nn := by
    rintro c ⟨_, _, _, e, hc⟩
    cases e
    rcases hc with hc | hc | hc
    · exact h.far c ⟨_, _, _, rfl, Or.inl hc⟩
    · exact h.far c ⟨_, _, _, rfl, Or.inr (Or.inl hc)⟩
    · have := (r.lt hc).1; omega
  have k := kept_set w2 nn 2 v
  have := h.lb
  have := h.ln
  have h2 := h.below b
  exact ⟨below_set h2.bel nn 2 _ (by omega), h2.ra.kept k (by omega), h2.rr.kept k (by omega), by simpa using h2.rn.set 2 v, o2.kept k (fun c hc => far c hc), h.lb, h.ln, far⟩

/-- A write is appended to the own disk's. -/
theorem ISt.app {w : World} {a0 a1 a2 : Value} {B nn : Nat} {p0 p1 p2 v : Value} {E : Dk} {wk wa w2 : World} {x : Wt} (h : ISt w a0 a1 a2 B nn p0 p1 p2 E wk) (b : Below wk.heap.size wk wa) (k : Kept (fun b => rb p2 = some b) wa w2)
    (r : RowO w2 B 44 4 v (E.pe.length + 1) (wCells E.pe ++ x.cells)) (hi : rb v = none ∨ rb v = rb p2 ∨ (rb v = some wa.heap.size ∧ wa.heap.size < w2.heap.size)) :
    ISt w a0 a1 a2 B nn p0 p1 v ⟨E.sec, E.ep, E.pe ++ [x]⟩ (w2.setCell ⟨nn, 2, none⟩ v) := by
  have ha := h.below b
  have o2 := h.o.more1 b k r hi
  have hn := h.rn.lt
  have hsz := b.size
  have far : ∀ c, DkB (.agg #[p0, p1, v]) c → c ≠ nn := by
    rintro c ⟨_, _, _, e, hc⟩
    cases e
    rcases hc with hc | hc | hc
    · exact h.far c ⟨_, _, _, rfl, Or.inl hc⟩
    · exact h.far c ⟨_, _, _, rfl, Or.inr (Or.inl hc)⟩
    · rcases hi with e | e | e
      · rw [e] at hc; cases hc
      · rw [e] at hc; exact h.far c ⟨_, _, _, rfl, Or.inr (Or.inr hc)⟩
      · rw [e.1] at hc; cases hc; omega
  have p2B : ∀ c, rb p2 = some c → B ≤ c := fun c hc => (h.o.lt ⟨_, _, _, rfl, Or.inr (Or.inr hc)⟩).1
  have p2n : ¬ rb p2 = some nn := fun e => h.far nn ⟨_, _, _, rfl, Or.inr (Or.inr e)⟩ rfl
  have k2 := kept_set w2 nn 2 v
  have := h.lb
  have := h.ln
  have n2 := ha.rn.kept k p2n
  refine ⟨below_set (ha.bel.trans (k.below ha.bel.size (fun c hc e => by have := p2B c e; omega))) nn 2 _ (by omega), (ha.ra.kept k (fun e => by have := p2B _ e; omega)).kept k2 (by omega), (ha.rr.kept k (fun e => by have := p2B _ e; omega)).kept k2 (by omega), by simpa using n2.set 2 v, o2.kept k2 (fun c hc => far c hc), h.lb, h.ln, far⟩

end Go.Proofs.Ytnkipjlkhnmilaa.Mem

namespace Go.Proofs.Ytnkipjlkhnmilaa.Mem
open Go.RowKit
set_option linter.unusedVariables false

theorem put_refuse (D : Dk) (x ep s : Int) (t : ByteArray) : D.put x ep s t = if D.refuse x ep s [t] = 0 then (if (D.pe.length : Int) < 40 then (⟨D.sec, D.ep, D.pe ++ [⟨x, ep, s, t⟩]⟩, 0) else (D, 3)) else (D, D.refuse x ep s [t]) := by
  have e : (∀ j, j < [t].length → (([t].getD j ByteArray.empty).size : Int) ≤ 700) ↔ (t.size : Int) ≤ 700 := ⟨fun h => h 0 (by simp), fun h j hj => by
    have : j = 0 := by simp at hj; omega
    subst this
    exact h⟩
  unfold Dk.put Dk.refuse
  simp only [e]
  by_cases h1 : ((0 ≤ x ∧ x < 3) ∧ 0 ≤ s ∧ s < (D.sec.length : Int)) ∧ (t.size : Int) ≤ 700
  · rw [if_pos h1, if_pos h1]
    by_cases h2 : D.ep.getD x.toNat 0 = ep
    · simp only [if_pos h2]
      rfl
    · simp only [if_neg h2]
      rfl
  · rw [if_neg h1, if_neg h1]
    rfl

set_option maxRecDepth 100000 in
set_option maxHeartbeats 4000000 in
theorem implPut (w : World) (v : Value) (D : Dk) (x ep s : Int) (t : ByteArray) (h : DkR w v D) (hd : D.Held) (hs : D.Small 1048576) (ht : t.size ≤ maxLen) :
    Calls Try.prog 10 #[v, .int .i64 x, .int .i64 ep, .int .i64 s, .string t] w fun e w' => ∃ v', e = .returned (.tuple #[v', .int .i64 (D.putA x ep s t).2]) ∧ DkW w' w.heap.size v' (D.putA x ep s t).1 ∧ Below w.heap.size w w' := by
  have HH := hid h
  have HD := hid hd
  have HS := hid hs
  obtain ⟨a1, c1, a2, c2, a3, c3, rfl, _, _, _⟩ := h
  clear hd hs
  obtain ⟨wb, hwb, ez, A0, R0, B0⟩ := two_new w [.slice a1 D.sec.length c1, .slice a2 D.ep.length c2, .slice a3 D.pe.length c3] [.slice none 0 0, .slice none 0 0, .slice none 0 0] 28 28
  have k0 := A0.c 0 rfl
  have k1 := A0.c 1 rfl
  have k2 := A0.c 2 rfl
  go_enter Try.func10, Try.ntmps10
  go_wp2_with fail
  refine (implDiskOk wb _ D (HH.out.below B0) HD.out).mono ?_
  rintro e w1 ⟨rfl, b1⟩
  have HA := hid (A0.below b1 A0.lt)
  have HR := hid (R0.below b1 R0.lt)
  have HB := hid (B0.trans (b1.mono B0.size))
  clear A0 R0 B0 b1 hwb ez k0 k1 k2
  have m0 := HR.out.c 0 rfl
  have m1 := HR.out.c 1 rfl
  have m2 := HR.out.c 2 rfl
  have f0 := HR.out.f 0
  have f1 := HR.out.f 1
  have f2 := HR.out.f 2
  by_cases hr : ¬ D.right = true
  · have HP : Hid (D.putA x ep s t = (Dk.nil, 1)) := if_neg hr
    have hr' : D.right = false := by simpa using hr
    clear hr
    have E := hid (wrap_bad HB.out HR.out)
    go_wp2
    refine bodyPost_ret (results_row2 rfl _ _ (w.heap.size + 1) [.slice none 0 0, .slice none 0 0, .slice none 0 0] _ rfl E.out.2.2 Try.underlying28 rfl (by kernel_rfl)) rfl ?_
    rw [HP.out]
    exact ⟨_, rfl, E.out.1, E.out.2.1⟩
  replace hr := Classical.not_not.mp hr
  have HP : Hid (D.putA x ep s t = D.put x ep s t) := if_pos hr
  have HT := hid (Dk.of_right hr)
  have k0 := HA.out.c 0 rfl
  have k1 := HA.out.c 1 rfl
  have k2 := HA.out.c 2 rfl
  go_wp2_with fail
  refine (copyDisk w1 _ D (HH.out.below HB.out) HS.out.c1 HS.out.c2 HS.out.c3).mono ?_
  rintro e w2 ⟨v2, rfl, O2, b2⟩
  have HO2 := hid O2
  obtain ⟨u1, u2, u3, rfl, r1, r2, r3, _, _⟩ := O2
  obtain ⟨p1, q1, e1, _⟩ := r1.wr
  obtain ⟨p2, q2, e2, _⟩ := r2.wr
  obtain ⟨p3, q3, e3, _⟩ := r3.wr
  subst e1; subst e2; subst e3
  clear r1 r2 r3 m0 m1 m2 f0 f1 f2 k0 k1 k2
  obtain ⟨wn, hwn, en, N0, Bn⟩ := one_new w2 [.slice p1 D.sec.length q1, .slice p2 D.ep.length q2, .slice p3 D.pe.length q3] 28
  have I := hid (ISt.start HB.out HA.out HR.out HO2.out b2 N0 Bn)
  have HDn := hid (HH.out.below I.out.bel)
  clear HO2 b2 N0 Bn en HA HR HB
  obtain ⟨k0, k1, k2, m0, m1, m2, f0, f1, f2, n0, n1, n2, n3⟩ := I.out.cells
  obtain ⟨ws, hws, es, S0, Bs⟩ := one_new wn [.string t] 9
  have HBs := hid Bs
  have HSt : Hid (Strs ws (some ⟨wn.heap.size, 0, none⟩) [t]) := fun i hi => by
    have : i = 0 := by simp at hi; omega
    subst this
    exact ⟨_, _, rfl, S0.c 0 rfl⟩
  have IS := hid (I.out.below Bs)
  clear S0 Bs es
  go_wp2_with fail
  refine (refusal ws _ D x ep s (some ⟨wn.heap.size, 0, none⟩) 1 [t] (HDn.out.below HBs.out) HT.out.e3 HSt.out (by simp [maxLen])).mono ?_
  rintro e w3 ⟨rfl, b3⟩
  have HQ := hid (put_refuse D x ep s t)
  generalize D.refuse x ep s [t] = c at *
  have I3 := hid (IS.out.below b3)
  clear hws hwn IS HBs HSt HDn I b3 k0 k1 k2 m0 m1 m2 f0 f1 f2 n0 n1 n2 n3
  obtain ⟨k0, k1, k2, m0, m1, m2, f0, f1, f2, n0, n1, n2, n3⟩ := I3.out.cells
  by_cases g1 : ¬ c = 0
  · have HP1 := hid (HP.out.trans (HQ.out.trans (if_neg g1)))
    have E := hid I3.out.done
    go_wp2
    refine bodyPost_ret (results_row2 rfl _ _ (w.heap.size + 1) [.slice p1 D.sec.length q1, .slice p2 D.ep.length q2, .slice p3 D.pe.length q3] _ rfl E.out.2.2 Try.underlying28 rfl (by kernel_rfl)) rfl ?_
    rw [HP1.out]
    exact ⟨_, rfl, E.out.1, E.out.2.1⟩
  replace g1 := Classical.not_not.mp g1
  have HP1 := hid (HP.out.trans (HQ.out.trans (if_pos g1)))
  subst g1
  by_cases g2 : (D.pe.length : Int) = 40
  · have HP2 := hid (HP1.out.trans (if_neg (by omega)))
    have hlen : D.pe.length = 40 := by omega
    have E' := I3.out.done
    rw [hlen] at k2 n2 E'
    have E := hid E'
    clear g2 hlen E'
    go_wp2
    refine bodyPost_ret (results_row2 rfl _ _ (w.heap.size + 1) [.slice p1 D.sec.length q1, .slice p2 D.ep.length q2, .slice p3 40 q3] _ rfl E.out.2.2 Try.underlying28 rfl (by kernel_rfl)) rfl ?_
    rw [HP2.out]
    exact ⟨_, rfl, E.out.1, E.out.2.1⟩
  have hp40 := HT.out.p40
  have HP2 := hid (HP1.out.trans (if_pos (by omega)))
  have HR3 : Hid (∀ o, RowO (w3.alloc o) w1.heap.size 44 4 (.slice p3 D.pe.length q3) D.pe.length (wCells D.pe)) := fun o => by
    obtain ⟨_, _, _, ev, _, _, r3, _, _⟩ := I3.out.o
    cases ev
    exact r3.below ((Below.refl _ _).alloc (Nat.le_refl _) o)
  have hpl : D.pe.length + 1 ≤ 1048576 := by omega
  have hne1 : ¬ w2.heap.size = w.heap.size + 1 := by have := I3.out.lb; have := I3.out.ln; omega
  have hne2 : ¬ w.heap.size + 1 = w2.heap.size := by omega
  have HBa : Hid (∀ o, w1.heap.size ≤ (w3.alloc o).heap.size) := fun o => by have := lt_alloc w3 o; have := I3.out.ln; have := I3.out.rn.lt; omega
  go_wp2_with (at_builtin; refine wpList_app 26 44 Wt.none.val 4 40 Try.underlying26 infoW rfl (by decide) (by decide) _ rfl (.tmp 37) (.tmp 43) rfl w1.heap.size _ D.pe.length (wCells D.pe) rfl (HR3.out _) ⟨w3.heap.size, 0, none⟩ 1 1 (Wt.mk x ep s t).cells rfl rfl (sl_lit w3 (Wt.mk x ep s t).cells 44 4 rfl) (by intro u hu; exact wCells_one [Wt.mk x ep s t] u (by simpa [wCells] using hu)) hpl (HBa.out _) ?_; intro v3' w4 r3' kk hi; obtain ⟨y3, d3, e3, _⟩ := r3'.wr; subst e3; have HN0 := hid (show ¬ rb (.slice p3 D.pe.length q3) = some w.heap.size from fun e => by have := (I3.out.o.lt ⟨_, _, _, rfl, Or.inr (Or.inr e)⟩).1; have := I3.out.lb; omega); have HN1 := hid (show ¬ rb (.slice p3 D.pe.length q3) = some (w.heap.size + 1) from fun e => by have := (I3.out.o.lt ⟨_, _, _, rfl, Or.inr (Or.inr e)⟩).1; have := I3.out.lb; omega); have HN2 := hid (show ¬ rb (.slice p3 D.pe.length q3) = some w2.heap.size from fun e => I3.out.far _ ⟨_, _, _, rfl, Or.inr (Or.inr e)⟩ rfl); have RN := ((I3.out.rn.alloc _).kept kk HN2.out); have RR := ((I3.out.rr.alloc _).kept kk HN1.out); have HI4 := hid (I3.out.app ((Below.refl _ _).alloc (Nat.le_refl _) _) kk r3' hi); clear k0 k1 k2 m0 m1 m2 f0 f1 f2 n0 n1 n2 n3; have n0 := RN.c 0 rfl; have n1 := RN.c 1 rfl; have n2 := RN.c 2 rfl; have n3 := RN.f 2; have m0 := RR.c 0 rfl; have m1 := RR.c 1 rfl; have m2 := RR.c 2 rfl; have f0 := RR.f 0; have f1 := RR.f 1; have f2 := RR.f 2; clear r3' kk hi RN RR)
  have E := HI4.out.done
  refine bodyPost_ret (results_row2 rfl _ _ (w.heap.size + 1) [.slice p1 D.sec.length q1, .slice p2 D.ep.length q2, .slice y3 (D.pe.length + 1) d3] _ rfl E.2.2 Try.underlying28 rfl (by kernel_rfl)) rfl ?_
  rw [HP2.out]
  exact ⟨_, rfl, E.1, E.2.1⟩

end Go.Proofs.Ytnkipjlkhnmilaa.Mem

namespace Go.Proofs.Ytnkipjlkhnmilaa.Mem
open Go.RowKit Go.Maps
open Go.ChangeMaps (setBlock heap_setBlock_same heap_setBlock_other)
set_option linter.unusedVariables false

theorem laidQ : laidOutB Try.prog = true := by kernel_rfl
theorem rowQ : (71 : TypeId) < Try.prog.types.size := of_decide_eq_true (by kernel_rfl)
theorem deepQ : Try.prog.keyTypeAt (Try.prog.types.size + 1) 71 = true := by kernel_rfl
theorem wideQ : (match Try.prog.underlying 71 with | some (.array _ _) | some (.struct _) => true | _ => false) = true := by rw [Try.underlying71]
set_option maxRecDepth 100000 in
theorem lawQ : WideMaps.KeyLaw Try.prog 71 := deep_law_laid laidQ (m := 2) (by omega) rowQ (by kernel_rfl) wideQ
theorem keyedQ : Keyed Try.prog 71 := Keyed.of_law lawQ
theorem cellsQ : Try.prog.cellsOf 71 = 2 := by kernel_rfl
theorem cellsI : Try.prog.cellsOf 3 = 1 := by kernel_rfl
theorem zeroQ (w : World) : (zeroValue 25).run Try.prog w = .ok (.slice none 0 0) w := by kernel_rfl

def nilv : Value := .slice none 0 0

/-- A key, and what it reads as. -/
def kval (h s : Int) : Value := .agg #[.int .i64 h, .int .i64 s]
def klq (h s : Int) : Lit := .string (keyBytes [.int .i64 h, .int .i64 s])

/-- The hosts and sectors of a right disk. -/
def OkK (h s : Int) : Prop := (0 ≤ h ∧ h < 3) ∧ 0 ≤ s ∧ s < 40

theorem wf_small {x : Int} (h0 : 0 ≤ x) (h1 : x < 40) : (Lit.int .i64 x).wf = true := WalkArith.wf_i64 (by omega)

theorem key_of {h s : Int} (hk : OkK h s) : keyOf Try.prog 71 (kval h s) = some (klq h s) := by
  have w1 := wf_small hk.1.1 (by have := hk.1.2; omega)
  have w2 := wf_small hk.2.1 hk.2.2
  obtain ⟨m, hm⟩ : ∃ m, Try.prog.types.size + 1 = m + 2 := ⟨Try.prog.types.size - 1, by have h : (71 : Nat) < Try.prog.types.size := rowQ; omega⟩
  have hd : Try.prog.keyType 71 = true := deepQ
  have hf : (kval h s).formed Try.prog 71 = true := by simp [kval, Value.formed, Try.underlying71, cellsQ]
  unfold keyOf
  simp only [Try.underlying71, hd, hf, Bool.and_self, if_true, hm]
  simp [Program.keyLits, Try.underlying71, Try.underlying3, cellsQ, cellsI, kval, Value.cells, w1, w2, klq, List.range_succ]

theorem klq_inj {h s h' s' : Int} (hk : OkK h s) (hk' : OkK h' s') (e : klq h s = klq h' s') : h = h' ∧ s = s' := by
  have := keyedQ.inj (key_of hk) (by rw [e]; exact key_of hk')
  simpa [kval] using this

/-- The reader: a value as it stands. -/
def Rid (v : Value) : Option (DataW Value × List MemPlace) := some (.held v, [])

def qCells (l : List Nat) : List Value := l.map (fun (i : Nat) => Value.int .i64 (i : Int))

/-- Block b is a map of queues: at each key a row of its own with the numbers Q, or nothing where there are none. -/
structure QM (w : World) (B b n : Nat) (Q : Int → Int → List Nat) (D : DataW Value) (V : Int → Int → Value) : Prop where
  own : w.ownsMap Try.prog 71 Rid b n D
  lt : b < B
  has : ∀ h s, OkK h s → (Maps.has D (klq h s) = true ↔ Q h s ≠ [])
  at_ : ∀ h s, OkK h s → D.atKey (klq h s) (.held nilv) = .held (V h s)
  row : ∀ h s, OkK h s → RowO w B 3 1 (V h s) (Q h s).length (qCells (Q h s))
  apart : ∀ h s h' s', OkK h s → OkK h' s' → ¬ (h = h' ∧ s = s') → ∀ g, rb (V h s) = some g → rb (V h' s') ≠ some g
  only : ∀ l, Maps.has D l = true → ∃ h s, OkK h s ∧ l = klq h s

theorem ownsMap_kept {S : Nat → Prop} {P : Program} {k : TypeId} {R : Value → Option (DataW Value × List MemPlace)} {w w' : World} {b n : Nat} {D : DataW Value} (h : w.ownsMap P k R b n D) (kk : Kept S w w') (hb : ¬ S b) : w'.ownsMap P k R b n D := by
  have hl := h.lt
  obtain ⟨es, clock, hh, r⟩ := h
  exact ⟨es, clock, by rw [kk.block b hl hb]; exact hh, r⟩

theorem QM.kept {S : Nat → Prop} {w w' : World} {B b n : Nat} {Q : Int → Int → List Nat} {D : DataW Value} {V : Int → Int → Value} (q : QM w B b n Q D V) (k : Kept S w w') (hb : ¬ S b) (hr : ∀ h s g, OkK h s → rb (V h s) = some g → ¬ S g) : QM w' B b n Q D V :=
  ⟨ownsMap_kept q.own k hb, q.lt, q.has, q.at_, fun h s hk => (q.row h s hk).kept k (fun g hg => hr h s g hk hg), q.apart, q.only⟩

theorem QM.below {w w' : World} {B b n : Nat} {Q : Int → Int → List Nat} {D : DataW Value} {V : Int → Int → Value} (q : QM w B b n Q D V) (k : Below w.heap.size w w') : QM w' B b n Q D V :=
  q.kept (Kept.of_below (S := fun _ => False) k) (fun x => x) (fun _ _ _ _ _ x => x)

theorem QM.made (w : World) : QM (w.alloc (.map #[] 0)) (w.heap.size + 1) w.heap.size 0 (fun _ _ => []) (.map []) (fun _ _ => nilv) :=
  ⟨World.ownsMap_made w _ _ _, Nat.lt_succ_self _, fun h s _ => by simp [Maps.has], fun h s _ => rfl, fun h s _ => Or.inl ⟨none, rfl, rfl, rfl⟩, fun _ _ _ _ _ _ _ g hg => by simp [rb, nilv] at hg, fun l hl => by simp [Maps.has] at hl⟩

/-- 'm[k]'. -/
theorem QM.look {w : World} {B b n : Nat} {Q : Int → Int → List Nat} {D : DataW Value} {V : Int → Int → Value} (q : QM w B b n Q D V) {h s : Int} (hk : OkK h s) : (Instr.lookup 68 (.map (some b)) (kval h s) false).run Try.prog w = .ok (V h s) w := by
  obtain ⟨v, ps, hrun, hR⟩ := q.own.lookup keyedQ Try.underlying68 (zeroQ w) (zd := .held nilv) (zp := []) rfl (key_of hk)
  have e := q.at_ h s hk
  simp only [Rid, Option.some.injEq, Prod.mk.injEq] at hR
  rw [e] at hR
  have : v = V h s := by injection hR.1
  rw [← this]
  exact hrun

/-- 'v, ok := m[k]'. -/
theorem QM.look_ok {w : World} {B b n : Nat} {Q : Int → Int → List Nat} {D : DataW Value} {V : Int → Int → Value} (q : QM w B b n Q D V) {h s : Int} (hk : OkK h s) : (Instr.lookup 68 (.map (some b)) (kval h s) true).run Try.prog w = .ok (.tuple #[V h s, .bool (decide (Q h s ≠ []))]) w := by
  obtain ⟨v, ps, hrun, hR⟩ := q.own.look_ok keyedQ Try.underlying68 (zeroQ w) (zd := .held nilv) (zp := []) rfl (key_of hk)
  have e := q.at_ h s hk
  simp only [Rid, Option.some.injEq, Prod.mk.injEq] at hR
  rw [e] at hR
  have hv : v = V h s := by injection hR.1
  have hh : Maps.has D (klq h s) = decide (Q h s ≠ []) := by
    have := q.has h s hk
    by_cases hq : Q h s ≠ []
    · rw [decide_eq_true hq]; exact this.2 hq
    · rw [decide_eq_false hq]
      cases hx : Maps.has D (klq h s)
      · rfl
      · exact absurd (this.1 hx) hq
  rw [← hv, ← hh]
  exact hrun

/-- One key's queue is another one. -/
def upd {α : Type} (Q : Int → Int → α) (h s : Int) (z : α) (h' s' : Int) : α := if h' = h ∧ s' = s then z else Q h' s'
theorem upd_same {α : Type} (Q : Int → Int → α) (h s : Int) (z : α) : upd Q h s z h s = z := if_pos ⟨rfl, rfl⟩
theorem upd_other {α : Type} (Q : Int → Int → α) {h s h' s' : Int} (z : α) (hne : ¬ (h' = h ∧ s' = s)) : upd Q h s z h' s' = Q h' s' := if_neg hne

theorem kept_setBlock {w : World} {b : Nat} {es : Array MapEntry} {clock : Nat} (hb : w.heap[b]? = some (.map es clock)) (o : Obj) : Kept (fun k => k = b) w (setBlock w b o) :=
  ⟨rfl, rfl, rfl, by simp [setBlock], fun i _ hi => heap_setBlock_other hb _ hi⟩

/-- What a store at a key leaves, if the new row lies in the old one's block or in a new one. -/
theorem QM.put {w w2 w3 : World} {B b n n' : Nat} {Q : Int → Int → List Nat} {D : DataW Value} {V : Int → Int → Value} (q : QM w B b n Q D V) {h s : Int} (hk : OkK h s) (k : Kept (fun g => g = b ∨ rb (V h s) = some g) w w2) (v' : Value) (zs : List Nat) (hz : zs ≠ [])
    (r : RowO w2 B 3 1 v' zs.length (qCells zs)) (hl : rb v' = none ∨ rb v' = rb (V h s) ∨ ∃ g, rb v' = some g ∧ w.heap.size ≤ g)
    (k3 : Kept (fun g => g = b) w2 w3) (o3 : w3.ownsMap Try.prog 71 Rid b n' (D.put (klq h s) (.held v'))) : QM w3 B b n' (upd Q h s zs) (D.put (klq h s) (.held v')) (upd V h s v') := by
  have isM : IsMap D := q.own.isMap
  have kl := keyedQ.key (key_of hk)
  have rB : ∀ {h' s' g}, OkK h' s' → rb (V h' s') = some g → g ≠ b := fun {h' s' g} hk' hg e => by
    have := ((q.row h' s' hk').lt hg).1
    have := q.lt
    omega
  have v'B : ∀ {g}, rb v' = some g → g ≠ b := fun {g} hg e => by
    have := (r.lt hg).1
    have := q.lt
    omega
  refine ⟨o3, q.lt, fun h' s' hk' => ?_, fun h' s' hk' => ?_, fun h' s' hk' => ?_, fun h1 s1 h2 s2 hk1 hk2 hne g h3 => ?_, fun l hl' => ?_⟩
  · by_cases e : h' = h ∧ s' = s
    · obtain ⟨rfl, rfl⟩ := e
      rw [upd_same, has_put_same isM kl]
      simp [hz]
    · rw [upd_other _ _ e, has_put_other (fun e' => e (klq_inj hk' hk e'))]
      exact q.has h' s' hk'
  · by_cases e : h' = h ∧ s' = s
    · obtain ⟨rfl, rfl⟩ := e
      rw [upd_same, atKey_put_same isM kl]
    · rw [upd_other _ _ e, atKey_put_other (fun e' => e (klq_inj hk' hk e'))]
      exact q.at_ h' s' hk'
  · by_cases e : h' = h ∧ s' = s
    · obtain ⟨rfl, rfl⟩ := e
      rw [upd_same, upd_same]
      exact r.kept k3 (fun g hg => v'B hg)
    · rw [upd_other _ _ e, upd_other _ _ e]
      refine ((q.row h' s' hk').kept k (fun g hg hx => ?_)).kept k3 (fun g hg => rB hk' hg)
      rcases hx with hx | hx
      · exact rB hk' hg hx
      · exact q.apart h' s' h s hk' hk e g hg hx
  · have far : ∀ h' s' g, OkK h' s' → ¬ (h' = h ∧ s' = s) → rb (V h' s') = some g → rb v' ≠ some g := fun h' s' g hk' hne' hg hx => by
      rcases hl with e | e | ⟨g', e, hg'⟩
      · rw [e] at hx; cases hx
      · rw [e] at hx
        exact q.apart h' s' h s hk' hk hne' g hg hx
      · rw [e] at hx
        cases hx
        have := ((q.row h' s' hk').lt hg).2
        omega
    by_cases e1 : h1 = h ∧ s1 = s
    · obtain ⟨rfl, rfl⟩ := e1
      have e2 : ¬ (h2 = h1 ∧ s2 = s1) := fun e => hne ⟨e.1.symm, e.2.symm⟩
      rw [upd_same] at h3
      rw [upd_other _ _ e2]
      exact fun hx => far h2 s2 g hk2 e2 hx h3
    · rw [upd_other _ _ e1] at h3
      by_cases e2 : h2 = h ∧ s2 = s
      · obtain ⟨rfl, rfl⟩ := e2
        rw [upd_same]
        exact far h1 s1 g hk1 e1 h3
      · rw [upd_other _ _ e2]
        exact q.apart h1 s1 h2 s2 hk1 hk2 hne g h3
  · by_cases e : l = klq h s
    · exact ⟨h, s, hk, e⟩
    · rw [has_put_other e] at hl'
      exact q.only l hl'

/-- 'm[k] = append(m[k], ..)': the entry that is made or found, and the store into it. -/
theorem QM.entry {w : World} {B b n : Nat} {Q : Int → Int → List Nat} {D : DataW Value} {V : Int → Int → Value} (q : QM w B b n Q D V) {h s : Int} (hk : OkK h s) (hn : n < maxLen) :
    ∃ st w1, (Instr.mapEntry 68 (.map (some b)) (kval h s)).run Try.prog w = .ok (.tuple #[V h s, goInt st]) w1 ∧ Kept (fun g => g = b) w w1 ∧ w1.heap.size = w.heap.size ∧
      ∀ (w2 : World) (v' : Value) (zs : List Nat), zs ≠ [] → Kept (fun g => rb (V h s) = some g) w1 w2 → RowO w2 B 3 1 v' zs.length (qCells zs) → (rb v' = none ∨ rb v' = rb (V h s) ∨ ∃ g, rb v' = some g ∧ w.heap.size ≤ g) →
        ∃ w3, (Instr.entryStore 68 (.map (some b)) (goInt st) v').run Try.prog w2 = .ok () w3 ∧ QM w3 B b (n + 1) (upd Q h s zs) (D.put (klq h s) (.held v')) (upd V h s v') ∧ Kept (fun g => g = b) w2 w3 := by
  have hlook := q.look hk
  have hlt := q.own.lt
  obtain ⟨es, clock, hb, F, hs, hD⟩ := q.own
  obtain ⟨v0, st, es1, clock1, hrun, hv0, hst⟩ := WideElems.entry_then_store (z := .slice none 0 0) lawQ Try.underlying68 (fun u => zeroQ u) hb F (key_of hk)
  have hv : v0 = V h s := by
    rcases Maps.fit_look false keyedQ Try.underlying68 (zeroQ w) hb F (key_of hk) with ⟨hr, hno, _⟩ | ⟨e0, y, hm0, h3, hr, _⟩
    · rcases hv0 with ⟨e1, hm1, hk1, rfl⟩ | ⟨_, rfl⟩
      · exact absurd hk1 (hno e1 hm1)
      · rw [hr] at hlook; injection hlook
    · rcases hv0 with ⟨e1, hm1, hk1, rfl⟩ | ⟨hno, _⟩
      · have : e1 = e0 := entry_eq_of_key (List.pairwise_map.1 F.stamped.2.2) hm1 hm0 (hk1.trans h3.symm)
        subst this
        rw [hr] at hlook
        injection hlook
      · exact absurd h3 (hno e0 hm0)
  subst hv
  refine ⟨st, _, hrun, kept_setBlock hb _, by simp [setBlock], fun w2 v' zs hz k2 r hl => ?_⟩
  have h1 : (setBlock w b (.map es1 clock1)).heap[b]? = some (.map es1 clock1) := heap_setBlock_same hb _
  have bB : ¬ rb (V h s) = some b := fun e => by
    have := ((q.row h s hk).lt e).1
    have := q.lt
    omega
  have h2 : w2.heap[b]? = some (.map es1 clock1) := by rw [k2.block b (by simpa [setBlock] using hlt) bB]; exact h1
  obtain ⟨es', clock', hr3, hu⟩ := hst w2 v' h2
  obtain ⟨w', hu', ho', _⟩ := q.own.store keyedQ Try.underlying68 hn (key_of hk) (val := v') (d := .held v') (ps := []) rfl
  rw [hu] at hu'
  have hw' : setBlock w b (.map es' clock') = w' := by injection hu'
  rw [← hw'] at ho'
  obtain ⟨es'', clock'', hh, rest⟩ := ho'
  rw [heap_setBlock_same hb] at hh
  have hh' : es' = es'' ∧ clock' = clock'' := by simpa using hh
  obtain ⟨rfl, rfl⟩ := hh'
  refine ⟨_, hr3, q.put hk (((kept_setBlock hb _).trans k2).mono (fun g _ hg => hg)) v' zs hz r hl (kept_setBlock h2 _) ⟨es', clock', heap_setBlock_same h2 _, rest⟩, kept_setBlock h2 _⟩

/-- 'm[k] = v'. -/
theorem QM.store {w w2 : World} {B b n : Nat} {Q : Int → Int → List Nat} {D : DataW Value} {V : Int → Int → Value} (q : QM w B b n Q D V) {h s : Int} (hk : OkK h s) (hn : n < maxLen) (k : Kept (fun g => rb (V h s) = some g) w w2) (v' : Value) (zs : List Nat) (hz : zs ≠ [])
    (r : RowO w2 B 3 1 v' zs.length (qCells zs)) (hl : rb v' = none ∨ rb v' = rb (V h s) ∨ ∃ g, rb v' = some g ∧ w.heap.size ≤ g) :
    ∃ w3, (Instr.mapUpdate 68 (.map (some b)) (kval h s) v').run Try.prog w2 = .ok () w3 ∧ QM w3 B b (n + 1) (upd Q h s zs) (D.put (klq h s) (.held v')) (upd V h s v') ∧ Kept (fun g => g = b) w2 w3 := by
  have bB : ¬ rb (V h s) = some b := fun e => by
    have := ((q.row h s hk).lt e).1
    have := q.lt
    omega
  have o2 := ownsMap_kept q.own k bB
  obtain ⟨w3, hr, ho, ht⟩ := o2.store keyedQ Try.underlying68 hn (key_of hk) (val := v') (d := .held v') (ps := []) rfl
  have g := ht.grown
  have k3 : Kept (fun g => g = b) w2 w3 := ⟨g.os, g.tape, g.output, g.size, fun i hi hne => g.block i hi (fun e => hne (by cases e; rfl))⟩
  exact ⟨w3, hr, q.put hk (k.mono (fun g _ hg => Or.inr hg)) v' zs hz r hl k3 ho, k3⟩

/-- 'delete(m, k)'. -/
theorem QM.drop {w w2 : World} {B b n : Nat} {Q : Int → Int → List Nat} {D : DataW Value} {V : Int → Int → Value} (q : QM w B b n Q D V) {h s : Int} (hk : OkK h s) (k : Kept (fun g => rb (V h s) = some g) w w2) (ty : TypeId) :
    ∃ w3, (Builtin.delete_ #[68, 71] ty #[.map (some b), kval h s]).run Try.prog w2 = .ok (.tuple #[]) w3 ∧ QM w3 B b n (upd Q h s []) (D.del (klq h s)) (upd V h s nilv) ∧ Kept (fun g => g = b) w2 w3 := by
  have rB : ∀ {h' s' g}, OkK h' s' → rb (V h' s') = some g → g ≠ b := fun {h' s' g} hk' hg e => by
    have := ((q.row h' s' hk').lt hg).1
    have := q.lt
    omega
  have o2 := ownsMap_kept q.own k (fun e => rB hk e rfl)
  obtain ⟨w3, hr, ho, ht⟩ := o2.drop keyedQ Try.underlying68 (key_of hk) ty
  have g := ht.grown
  have k3 : Kept (fun g => g = b) w2 w3 := ⟨g.os, g.tape, g.output, g.size, fun i hi hne => g.block i hi (fun e => hne (by cases e; rfl))⟩
  refine ⟨w3, hr, ⟨ho, q.lt, fun h' s' hk' => ?_, fun h' s' hk' => ?_, fun h' s' hk' => ?_, fun h1 s1 h2 s2 hk1 hk2 hne g h3 => ?_, fun l hl' => ?_⟩, k3⟩
  · by_cases e : h' = h ∧ s' = s
    · obtain ⟨rfl, rfl⟩ := e
      rw [upd_same, has_del_same]
      simp
    · rw [upd_other _ _ e, has_del_other (fun e' => e (klq_inj hk' hk e'))]
      exact q.has h' s' hk'
  · by_cases e : h' = h ∧ s' = s
    · obtain ⟨rfl, rfl⟩ := e
      rw [upd_same, atKey_del_same]
    · rw [upd_other _ _ e, atKey_del_other (fun e' => e (klq_inj hk' hk e'))]
      exact q.at_ h' s' hk'
  · by_cases e : h' = h ∧ s' = s
    · obtain ⟨rfl, rfl⟩ := e
      rw [upd_same, upd_same]
      exact Or.inl ⟨none, rfl, rfl, rfl⟩
    · rw [upd_other _ _ e, upd_other _ _ e]
      exact ((q.row h' s' hk').kept k (fun g hg hx => q.apart h' s' h s hk' hk e g hg hx)).kept k3 (fun g hg => rB hk' hg)
  · by_cases e1 : h1 = h ∧ s1 = s
    · obtain ⟨rfl, rfl⟩ := e1
      rw [upd_same] at h3
      simp [rb, nilv] at h3
    · rw [upd_other _ _ e1] at h3
      by_cases e2 : h2 = h ∧ s2 = s
      · obtain ⟨rfl, rfl⟩ := e2
        rw [upd_same]
        simp [rb, nilv]
      · rw [upd_other _ _ e2]
        exact q.apart h1 s1 h2 s2 hk1 hk2 hne g h3
  · by_cases e : l = klq h s
    · rw [e, has_del_same] at hl'; cases hl'
    · rw [has_del_other e] at hl'
      exact q.only l hl'

end Go.Proofs.Ytnkipjlkhnmilaa.Mem
