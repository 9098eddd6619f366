/-
  What impl.Peek must do; and sizes that the laws look at. No condition.
  The walk of spec.Flush: what it makes of a disk, in rows of its own. No condition but sizes.
  The walk of spec.Land: what it makes of a disk, in rows of its own. No condition but sizes.
  Plain: writes of a host that land in whatever order, those to one sector in theirs: at the end what a flush makes. No condition.
  What stands in memory while a law's input is drawn: the cursor, the drawn disk in its box, the result's box. No condition.
  The walk of spec.l1Size: how many calls a draw makes, by the code's length. No condition but sizes.
  The walks of spec.l1New, spec.l1PickInt and spec.l1Num: the cursor that is made, and the number that is drawn, are settled by the code's bytes alone. No condition but a code of at most 1048576 bytes.
  The walk of spec.DrawFlush: some small disk, a host's number and an epoch. No condition but what the walk of spec.l3Any gives.
  The walk of laws.at: a number from nought to 255. No condition but a code of at most 2^20 bytes and a small place.
  The walk of laws.big: a code that is too long. No condition but that the length is one.
  The walks of laws.sameTexts and laws.sameInts: two lists are the same. No condition but sizes.
  The walk of laws.sameDisk: two disks are the same. No condition but sizes.
  The walks of impl.isHost, impl.fitsSector, impl.isSector and impl.DiskOk: each answers what it should, and nothing that was there is changed. No condition.
  The walk of impl.refusal: the first reason against a call of a host. No condition but three epochs.
  A map of queues that a call has made: what it holds, key by key. No condition.
  The walk of impl.queuesOf: at each host and sector the numbers of its writes, in their order. No condition but a list of at most 40 writes of hosts and sectors in range.
  A region that draws its order, whose operations read and whose callees read or lay new blocks alone, walked once. No condition.
  The walk of impl.DiskOk: it answers whether the disk is right, and nothing that was there is changed. No condition.
  The walk of impl.Peek: it answers as spec.Peek does, and nothing that was there is changed. No condition.
  The numbers of slices.Delete, slices.Sort and slices.Index (where it is there) and their callees in this program, for the library's contracts of them. No condition.
  The walk of impl's take: one number is struck from one queue. No condition but that it is there.
  Plain: what is collected of queues, sorted, is told in the order of the numbers. No condition.
-/
import Derived.Test.YtbnmcbbpbiofgaaDiskPeek
import Derived.Test.YtbnmcbbpbiofgaaSzDisk
import Derived.Test.YtbnmcbbpbiofgaaDkFlush
import Derived.Test.YtbnmcbbpbiofgaaWrapEnd
import Derived.Test.YtbnmcbbpbiofgaaDkLand
import Derived.Test.YtbnmcbbpbiofgaaRightHeld
import Derived.Test.YtbnmcbbpbiofgaaDkPure
import Derived.Test.YtbnmcbbpbiofgaaAnyParts
import Derived.Test.YtbnmcbbpbiofgaaSomeParts
import Derived.Test.YtbnmcbbpbiofgaaDrawText
import Derived.Test.YtbnmcbbpbiofgaaMem
import Derived.Test.YtbnmcbbpbiofgaaEqDisk
import Derived.Outline
import Derived.Deep.QuietTactic
import Derived.BigQuiet
import Derived.Test.YtbnmcbbpbiofgaaEqDisk2
import Derived.Test.YtbnmcbbpbiofgaaAppRow
import Derived.Test.YtbnmcbbpbiofgaaDkCopy
import Derived.Maps.OwnSet
import Derived.Maps.Ext
import Derived.WideKeyEntry
import Derived.DeepKeys4
import Derived.Test.YtbnmcbbpbiofgaaDkPut
import Derived.Test.YtbnmcbbpbiofgaaDiskOk
import Derived.Test.YtbnmcbbpbiofgaaDkSwap
import Derived.Shelf.Slices.Delete
import Derived.Shelf.Slices.Turned
import Derived.Shelf.Slices.In.SortNone
import Derived.Shelf.Sort.Plain
import Derived.Test.YtbnmcbbpbiofgaaProg
import Derived.Sort.OwnSortedInts
namespace Go.Proofs.Ytbnmcbbpbiofgaa.Mem
open Go.RowKit
set_option linter.unusedVariables false

theorem Dk.Small.c1 {D : Dk} (h : D.Small 1048576) : D.sec.length ≤ 1048576 := by have := h.h1; omega
theorem Dk.Small.c2 {D : Dk} (h : D.Small 1048576) : D.ep.length ≤ 1048576 := by have := h.h2; omega
theorem Dk.Small.c3 {D : Dk} (h : D.Small 1048576) : D.pe.length ≤ 1048576 := by have := h.h3; omega

end Go.Proofs.Ytbnmcbbpbiofgaa.Mem

namespace Go.Proofs.Ytbnmcbbpbiofgaa.Mem
open Go.RowKit Classical
set_option linter.unusedVariables false

/-- What Flush answers. -/
def Dk.flushA (D : Dk) (x ep : Int) : Dk × Int := if D.right = true then D.flush x ep else (Dk.nil, 1)

end Go.Proofs.Ytbnmcbbpbiofgaa.Mem

namespace Go.Proofs.Ytbnmcbbpbiofgaa.Mem
open Go.RowKit Classical
set_option linter.unusedVariables false

/-- What Land answers. -/
def Dk.landA (D : Dk) (i : Int) : Dk × Bool := if D.right = true then D.land i else (Dk.nil, false)

end Go.Proofs.Ytbnmcbbpbiofgaa.Mem

namespace Go.Proofs.Ytbnmcbbpbiofgaa.Mem
open Go.RowKit
set_option linter.unusedVariables false

/-- A disk that came of another one by landings of a host. -/
structure Dk.From (D : Dk) (h : Int) (E : Dk) : Prop where
  r : E.Right
  e : E.ep = D.ep
  l : lands E.sec E.pe h = lands D.sec D.pe h
  o : others E.pe h = others D.pe h

theorem Dk.From.start {D : Dk} (h : D.Right) (x : Int) : D.From x D := ⟨h, rfl, rfl, rfl⟩

theorem landA_no {E : Dk} (h : E.Right) (i : Int) (hc : ¬ E.CanLand i) : E.landA i = (E, false) := by
  unfold Dk.landA
  rw [Dk.right_yes h, if_pos rfl]
  unfold Dk.land
  exact if_neg hc

theorem landA_yes {E : Dk} (h : E.Right) (i : Nat) (hc : E.CanLand i) : E.landA i = (⟨E.sec.set (E.pe.getD i Wt.none).sector.toNat (E.pe.getD i Wt.none).text, E.ep, E.pe.eraseIdx i⟩, true) := by
  unfold Dk.landA
  rw [Dk.right_yes h, if_pos rfl]
  unfold Dk.land
  refine (if_pos hc).trans ?_
  rw [Int.toNat_natCast]

theorem Dk.From.landed {D E : Dk} {x : Int} (G : D.From x E) (i : Nat) (hi : i < E.pe.length) (hh : (E.pe.getD i Wt.none).host = x) (hc : E.CanLand i) : D.From x (E.landA i).1 ∧ mine E.pe x = mine (E.landA i).1.pe x + 1 := by
  have hr := (G.r.land (i : Int))
  have he := landA_yes G.r i hc
  have hl : E.landA i = E.land i := if_pos (Dk.right_yes G.r)
  rw [← hl, he] at hr
  rw [he]
  have hf := land_flush E.sec E.pe x i hi hh (fun j hj => (G.r.p j hj).2.2.1) (fun j hj => by have := hc.2.2 j (by rw [Int.toNat_natCast]; exact hj); rwa [Int.toNat_natCast] at this)
  exact ⟨⟨hr, G.e, hf.1.trans G.l, hf.2.trans G.o⟩, mine_erase _ _ i hi hh⟩

theorem Dk.From.land {D E : Dk} {x : Int} (G : D.From x E) (i : Nat) (hi : i < E.pe.length) (hh : (E.pe.getD i Wt.none).host = x) : D.From x (E.landA i).1 := by
  by_cases hc : E.CanLand i
  · exact (G.landed i hi hh hc).1
  · rw [landA_no G.r _ hc]; exact G

theorem Dk.From.first {D E : Dk} {x : Int} (G : D.From x E) (i : Nat) (hi : i < E.pe.length) (hh : (E.pe.getD i Wt.none).host = x) (hf : ∀ j, j < i → (E.pe.getD j Wt.none).host ≠ x) : D.From x (E.landA i).1 ∧ mine E.pe x = mine (E.landA i).1.pe x + 1 :=
  G.landed i hi hh (first_lands E x i hi hh hf)

theorem mine_no {l : List Wt} {x : Int} (h : ∀ j, j < l.length → (l.getD j Wt.none).host ≠ x) : mine l x = 0 := by
  unfold mine
  rw [List.length_eq_zero_iff, List.filter_eq_nil_iff]
  intro y hy
  obtain ⟨j, hj, rfl⟩ := List.getElem_of_mem hy
  have := h j hj
  rw [List.getD_eq_getElem?_getD, List.getElem?_eq_getElem hj] at this
  simpa using this

/-- At the end. -/
theorem Dk.From.done {D E : Dk} {n : Nat} (G : D.From n E) (hD : D.Right) (hn : n < 3) (h0 : mine E.pe n = 0) : D.flushA n (D.ep.getD n 0) = (E, 0) := by
  have hf := flush_none E.sec E.pe n (mine_zero _ _ h0)
  unfold Dk.flushA
  rw [Dk.right_yes hD, if_pos rfl]
  unfold Dk.flush
  rw [if_pos ⟨by omega, by omega⟩, Int.toNat_natCast, if_pos rfl, ← G.l, ← G.o, hf.1, hf.2, ← G.e]

theorem flushA_code {D : Dk} {n : Nat} (hD : D.Right) (hn : n < 3) : (D.flushA n (D.ep.getD n 0)).2 = 0 ∧ (D.flushA n (D.ep.getD n 0)).1.Right ∧ (D.flushA n (D.ep.getD n 0)).1.pe = others D.pe n := by
  have hr := hD.flush n (D.ep.getD n 0)
  unfold Dk.flushA
  rw [Dk.right_yes hD, if_pos rfl]
  refine ⟨?_, hr, ?_⟩
  · unfold Dk.flush
    rw [if_pos ⟨by omega, by omega⟩, Int.toNat_natCast, if_pos rfl]
  · unfold Dk.flush
    rw [if_pos ⟨by omega, by omega⟩, Int.toNat_natCast, if_pos rfl]

end Go.Proofs.Ytbnmcbbpbiofgaa.Mem

namespace Go.Proofs.Ytbnmcbbpbiofgaa.Mem
open Go.RowKit
set_option linter.unusedVariables false

theorem DkW.move {S : Nat → Prop} {w w' : World} {B : Nat} {v : Value} {D : Dk} (h : DkW w B v D) (k : Kept S w w') (hn : ∀ b, B ≤ b → ¬ S b) : DkW w' B v D := by
  obtain ⟨a1, c1, a2, c2, a3, c3, e, s1, s2, s3, f1, f2⟩ := h
  exact ⟨a1, c1, a2, c2, a3, c3, e, Wr.move s1 k (fun b hb => hn b (Wr.foot_ge s1 hb)), Wr.move s2 k (fun b hb => hn b (Wr.foot_ge s2 hb)), Wr.move s3 k (fun b hb => hn b (Wr.foot_ge s3 hb)), f1, f2⟩

/-- What the walk of spec.l3Any gives. -/
def AnyDoes : Prop := ∀ (w : World) (cb : Nat) (a : Option Addr) (len cap : Nat) (zs : List Int) (E : EnvX w cb a len cap zs) (n : Int) (h0 : 0 < n) (h1 : n ≤ 1000),
    Calls Try.prog 12 #[.pointer (some ⟨cb, 0, none⟩), .int .i64 n] w fun e w' => ∃ v D, e = .returned v ∧ D.Any ∧ DkW w' w.heap.size v D ∧ EnvX w' cb a len cap zs ∧ w.grownBy w' (some cb)

/-- A law's input under way: the cursor cb behind the result's box rx, the disk's rows from B on, its box nb. -/
structure DrSt (wA : World) (rx cb : Nat) (a : Option Addr) (len cap : Nat) (zs : List Int) (B nb : Nat) (v1 v2 v3 : Value) (D : Dk) (w : World) : Prop where
  env : EnvX w cb a len cap zs
  box : Row w nb [v1, v2, v3]
  res : Row w rx [.slice none 0 0, .slice none 0 0, .slice none 0 0]
  dk : DkW w B (.agg #[v1, v2, v3]) D
  hr : wA.heap.size ≤ rx
  hc : rx < cb
  hB : cb < B
  hn : cb < nb
  bel : Below wA.heap.size wA w

variable {wA w w' : World} {rx cb : Nat} {a : Option Addr} {len cap : Nat} {zs : List Int} {B nb : Nat} {v1 v2 v3 : Value} {D : Dk}

theorem DrSt.below (h : DrSt wA rx cb a len cap zs B nb v1 v2 v3 D w) (b : Below w.heap.size w w') : DrSt wA rx cb a len cap zs B nb v1 v2 v3 D w' :=
  ⟨h.env.below h.env b, h.box.below b h.box.lt, h.res.below b h.res.lt, h.dk.below b, h.hr, h.hc, h.hB, h.hn, h.bel.trans (b.mono h.bel.size)⟩
theorem DrSt.drew (h : DrSt wA rx cb a len cap zs B nb v1 v2 v3 D w) : DrSt wA rx cb a len cap zs B nb v1 v2 v3 D w.drew := h.below (Below.refl _ w).drew
theorem DrSt.alloc (h : DrSt wA rx cb a len cap zs B nb v1 v2 v3 D w) (o : Obj) : DrSt wA rx cb a len cap zs B nb v1 v2 v3 D (w.alloc o) := h.below ((Below.refl _ w).alloc (Nat.le_refl _) o)

theorem DrSt.draw (h : DrSt wA rx cb a len cap zs B nb v1 v2 v3 D w) (E : EnvX w' cb a len cap zs) (g : w.grownBy w' (some cb)) : DrSt wA rx cb a len cap zs B nb v1 v2 v3 D w' := by
  have k : Kept (fun b => b = cb) w w' := ⟨g.os, g.tape, g.output, g.size, fun k hk hn => g.block k hk (by simpa using hn)⟩
  have h1 := h.hr
  have h2 := h.hc
  have h3 := h.hB
  have h4 := h.hn
  exact ⟨E, h.box.kept k (by omega), h.res.kept k (by omega), h.dk.move k (fun b hb e => by omega), h.hr, h.hc, h.hB, h.hn, h.bel.trans (k.below h.bel.size (fun b hb e => by omega))⟩

theorem DrSt.c0 (h : DrSt wA rx cb a len cap zs B nb v1 v2 v3 D w) : w.cell? ⟨nb, 0, none⟩ = some v1 := h.box.c 0 rfl
theorem DrSt.c1 (h : DrSt wA rx cb a len cap zs B nb v1 v2 v3 D w) : w.cell? ⟨nb, 1, none⟩ = some v2 := h.box.c 1 rfl
theorem DrSt.c2 (h : DrSt wA rx cb a len cap zs B nb v1 v2 v3 D w) : w.cell? ⟨nb, 2, none⟩ = some v3 := h.box.c 2 rfl
theorem DrSt.r0 (h : DrSt wA rx cb a len cap zs B nb v1 v2 v3 D w) : w.cell? ⟨rx, 0, none⟩ = some (.slice none 0 0) := h.res.c 0 rfl
theorem DrSt.r1 (h : DrSt wA rx cb a len cap zs B nb v1 v2 v3 D w) : w.cell? ⟨rx, 1, none⟩ = some (.slice none 0 0) := h.res.c 1 rfl
theorem DrSt.r2 (h : DrSt wA rx cb a len cap zs B nb v1 v2 v3 D w) : w.cell? ⟨rx, 2, none⟩ = some (.slice none 0 0) := h.res.c 2 rfl
theorem DrSt.f (h : DrSt wA rx cb a len cap zs B nb v1 v2 v3 D w) (j : Nat) : w.frozen? ⟨rx, j, none⟩ = false := h.res.f j

/-- All six cells at once. -/
theorem DrSt.six (h : DrSt wA rx cb a len cap zs B nb v1 v2 v3 D w) : w.cell? ⟨nb, 0, none⟩ = some v1 ∧ w.cell? ⟨nb, 1, none⟩ = some v2 ∧ w.cell? ⟨nb, 2, none⟩ = some v3 ∧ w.cell? ⟨rx, 0, none⟩ = some (.slice none 0 0) ∧ w.cell? ⟨rx, 1, none⟩ = some (.slice none 0 0) ∧ w.cell? ⟨rx, 2, none⟩ = some (.slice none 0 0) ∧ w.frozen? ⟨rx, 0, none⟩ = false ∧ w.frozen? ⟨rx, 1, none⟩ = false ∧ w.frozen? ⟨rx, 2, none⟩ = false :=
  ⟨h.c0, h.c1, h.c2, h.r0, h.r1, h.r2, h.f 0, h.f 1, h.f 2⟩

/-- The end: the disk in the result's box. -/
theorem DrSt.fin (h : DrSt wA rx cb a len cap zs B nb v1 v2 v3 D w) :
    Row (((w.setCell ⟨rx, 0, none⟩ v1).setCell ⟨rx, 1, none⟩ v2).setCell ⟨rx, 2, none⟩ v3) rx [v1, v2, v3] ∧
    DkR (((w.setCell ⟨rx, 0, none⟩ v1).setCell ⟨rx, 1, none⟩ v2).setCell ⟨rx, 2, none⟩ v3) (.agg #[v1, v2, v3]) D ∧
    Below wA.heap.size wA (((w.setCell ⟨rx, 0, none⟩ v1).setCell ⟨rx, 1, none⟩ v2).setCell ⟨rx, 2, none⟩ v3) := by
  have h1 := h.hr
  have h2 := h.hc
  have h3 := h.hB
  exact ⟨((h.res.set 0 v1).set 1 v2).set 2 v3, (h.dk.move (kept3 w rx v1 v2 v3) (fun b hb e => by omega)).read, below_set (below_set (below_set h.bel _ _ _ h1) _ _ _ h1) _ _ _ h1⟩

/-- The start: the result's box, the cursor, the disk drawn and boxed. -/
theorem DrSt.start {wb w1 w2 w3 : World} (ez : wb.heap.size = wA.heap.size + 1) (R : Row wb wA.heap.size [.slice none 0 0, .slice none 0 0, .slice none 0 0]) (b0 : Below wA.heap.size wA wb) (b1 : Below wb.heap.size wb w1) (E1 : EnvX w1 wb.heap.size a len cap zs) (E2 : EnvX w2 wb.heap.size a len cap zs) (g2 : w1.grownBy w2 (some wb.heap.size)) (O : DkW w2 w1.heap.size (.agg #[v1, v2, v3]) D)
    (A3 : Row w3 w2.heap.size [v1, v2, v3]) (b3 : Below w2.heap.size w2 w3) : DrSt wA wA.heap.size wb.heap.size a len cap zs w1.heap.size w2.heap.size v1 v2 v3 D w3 := by
  have hc1 := E1.lt
  have k : Kept (fun b => b = wb.heap.size) w1 w2 := ⟨g2.os, g2.tape, g2.output, g2.size, fun k hk hn => g2.block k hk (by simpa using hn)⟩
  have hs := k.size
  have bA : Below wA.heap.size wA w1 := b0.trans (b1.mono b0.size)
  have bB : Below wA.heap.size wA w2 := bA.trans (k.below bA.size (fun b hb e => by omega))
  exact ⟨E2.below E2 b3, A3, ((R.below b1 (by omega)).kept k (by omega)).below b3 (by omega), O.below b3, Nat.le_refl _, by omega, hc1, by omega, bB.trans (b3.mono bB.size)⟩

theorem DkW.three {w : World} {B : Nat} {v : Value} {D : Dk} (h : DkW w B v D) : ∃ p1 c1 p2 c2 p3 c3, v = .agg #[.slice p1 D.sec.length c1, .slice p2 D.ep.length c2, .slice p3 D.pe.length c3] := by
  obtain ⟨a1, c1, a2, c2, a3, c3, e, _⟩ := h
  exact ⟨a1, c1, a2, c2, a3, c3, e⟩

end Go.Proofs.Ytbnmcbbpbiofgaa.Mem

namespace Go.Proofs.Ytbnmcbbpbiofgaa.Mem
open Go.RowKit
set_option linter.unusedVariables false

set_option maxRecDepth 100000 in
set_option maxHeartbeats 1000000 in
theorem sizeX (w : World) (a : Option Addr) (len cap : Nat) (m : Int) (hl : len ≤ 1048576) (h2 : 2 ≤ m) (hm : m ≤ 1000) :
    Calls Try.prog 13 #[.slice a len cap, .int .i64 m] w fun e w' => ∃ n : Int, 0 < n ∧ n ≤ m ∧ e = .returned (.int .i64 n) ∧ w' = w := by
  have hq : Int.tdiv (len : Int) 20 = (len : Int) / 20 := Int.tdiv_eq_ediv_of_nonneg (by omega)
  have hd : 0 ≤ (len : Int) / 20 ∧ (len : Int) / 20 ≤ 1048576 := by omega
  have hl' : (len : Int) ≤ 1048576 := by omega
  have hw1 : IntKind.i64.wrap ((len : Int) / 20) = (len : Int) / 20 := by rw [IntKind.wrap_i64]; omega
  have hw2 : IntKind.i64.wrap (2 + (len : Int) / 20) = 2 + (len : Int) / 20 := by rw [IntKind.wrap_i64]; omega
  by_cases g : m < 2 + (len : Int) / 20
  · go_enter Try.func13, Try.ntmps13
    go_wp2
    go_ret
    exact ⟨m, by omega, by omega, rfl, rfl⟩
  · go_enter Try.func13, Try.ntmps13
    go_wp2
    go_ret
    exact ⟨2 + (len : Int) / 20, by omega, by omega, rfl, rfl⟩

end Go.Proofs.Ytbnmcbbpbiofgaa.Mem

namespace Go.Proofs.Ytbnmcbbpbiofgaa.Draw
open Go.RowKit
set_option linter.unusedVariables false

/-- The mixing number behind k bytes. -/
def hN (zs : List Int) (n : Nat) : Nat → Int
  | 0 => 10101 + (n : Int)
  | k + 1 => bits .and .i64 (wrap64 (wrap64 (wrap64 (hN zs n k * 131) + wrap64 (zs[k]?.getD 0)) + 7)) 1073741823

/-- The code, as it came. -/
structure Code (w : World) (a : Option Addr) (len cap : Nat) (zs : List Int) : Prop where
  hl : zs.length = len
  hb : len ≤ 1048576
  z : ∀ n ∈ zs, 0 ≤ n ∧ n ≤ 255
  code : ∀ j, j < len → ∃ b off, a = some ⟨b, off, none⟩ ∧ w.cell? ⟨b, off + j, none⟩ = some (.int .u8 (zs.getD j 0))

theorem Code.below {w w' : World} {a : Option Addr} {len cap : Nat} {zs : List Int} (C : Code w a len cap zs) (hb : Below w.heap.size w w') : Code w' a len cap zs := by
  refine ⟨C.hl, C.hb, C.z, fun j hj => ?_⟩
  obtain ⟨b, off, e, hc⟩ := C.code j hj
  exact ⟨b, off, e, by rw [hb.cell (p := ⟨b, off + j, none⟩) (World.block_lt_of_cell? w ⟨b, off + j, none⟩ hc)]; exact hc⟩

theorem new_env (w : World) (a : Option Addr) (len cap : Nat) (zs : List Int) (C : Code w a len cap zs) (h : Int) :
    Env (w.alloc (.cells #[.slice a len cap, .int .i64 0, .int .i64 h] 59)) w.heap.size a len cap zs 0 h := by
  have hb : Below w.heap.size w (w.alloc (.cells #[.slice a len cap, .int .i64 0, .int .i64 h] 59)) := (Below.refl _ _).alloc (Nat.le_refl _) _
  refine ⟨heap_alloc_new w _, Nat.zero_le _, C.hl, C.hb, C.z, fun j hj => ?_⟩
  obtain ⟨b, off, e, hc⟩ := C.code j hj
  have hlt : b < w.heap.size := World.block_lt_of_cell? w ⟨b, off + j, none⟩ hc
  exact ⟨b, off, e, by omega, by rw [hb.cell (p := ⟨b, off + j, none⟩) hlt]; exact hc⟩

set_option maxRecDepth 100000 in
set_option maxHeartbeats 2000000 in
theorem new_any (w : World) (a : Option Addr) (len cap : Nat) (zs : List Int) (C : Code w a len cap zs) :
    Calls Try.prog 11 #[.slice a len cap] w fun e w' => e = .returned (.pointer (some ⟨w.heap.size, 0, none⟩)) ∧ Env w' w.heap.size a len cap zs 0 (hN zs len (min len 4000)) ∧ Below w.heap.size w w' := by
  have hb := C.hb
  have HC := Own.hid C
  clear C
  go_enter Try.func11, Try.ntmps11
  go_wp2
  go_loop [3, 4] (fun x i => ∃ k : Nat, k ≤ len ∧ k ≤ 4000 ∧ i = .int .i64 (k : Int) ∧ x = .int .i64 (hN zs len k)) (fun _ i => len - (intOf i).toNat)
  case atStart => exact ⟨0, Nat.zero_le _, Nat.zero_le _, rfl, rfl⟩
  case round =>
    obtain ⟨k, hk, hk4, rfl, rfl⟩ := hrel
    by_cases hlt : k < len ∧ k < 4000
    · obtain ⟨hl1, hl2⟩ := hlt
      obtain ⟨b, off, rfl, hc⟩ := HC.out.code k hl1
      have HS := Own.hid (show hN zs len (k + 1) = bits .and .i64 (wrap64 (wrap64 (wrap64 (hN zs len k * 131) + wrap64 (zs[k]?.getD 0)) + 7)) 1073741823 from rfl)
      generalize hN zs len k = x at *
      go_wp2
      go_round
      case rel => exact ⟨k + 1, by omega, by omega, by go_num, by rw [HS.out]⟩
      case measure => simp [intOf]; omega
    · have Hk := Own.hid (show k = min len 4000 by omega)
      have HE := Own.hid (new_env w a len cap zs HC.out (hN zs len k))
      by_cases hl1 : (k : Int) < (len : Int)
      · have hl2 : ¬ (k : Int) < 4000 := by omega
        clear hlt
        go_wp2
        go_ret
        exact ⟨rfl, by rw [← Hk.out]; exact HE.out, (Below.refl _ _).alloc (Nat.le_refl _) _⟩
      · clear hlt
        go_wp2
        go_ret
        exact ⟨rfl, by rw [← Hk.out]; exact HE.out, (Below.refl _ _).alloc (Nat.le_refl _) _⟩

theorem info3 : (Try.prog.info? 3).map (fun i => (i.zero, i.size, i.bytes)) = some (some (.int .i64 0), 1, 8) := by kernel_rfl

/-- The numbers at limits that l1Num picks from. -/
def limits : List Int := [-1, 0, 127, 128, 255, 256, 16383, 16384, 65535, 65536, 562949953421311, 562949953421312, 999999999, 1000000000, -999999999, 9223372036854775807, -9223372036854775808]

theorem limits_bd (k : Nat) : -9223372036854775808 ≤ limits.getD k 0 ∧ limits.getD k 0 ≤ 9223372036854775807 := by
  by_cases h : k < 17
  · have : ∀ j : Fin 17, -9223372036854775808 ≤ limits.getD j.val 0 ∧ limits.getD j.val 0 ≤ 9223372036854775807 := by decide
    exact this ⟨k, h⟩
  · rw [List.getD, List.getElem?_eq_none (by show 17 ≤ k; omega)]; decide

theorem Env.alloc {w : World} {cb : Nat} {a : Option Addr} {len cap : Nat} {zs : List Int} {i : Nat} {h : Int} (E : Env w cb a len cap zs i h) (o : Obj) : Env (w.alloc o) cb a len cap zs i h :=
  E.below E ((Below.refl _ _).alloc (Nat.le_refl _) _)

set_option maxRecDepth 100000 in
set_option maxHeartbeats 1000000 in
theorem pick_any (zs : List Int) (i : Nat) (h : Int) : ∃ (k : Nat) (i' : Nat) (h' : Int), k < 17 ∧ ∀ (w : World) (cb : Nat) (a : Option Addr) (len cap lb : Nat) (E : Env w cb a len cap zs i h) (hne : lb ≠ cb)
    (hc : ∀ j, j < 17 → w.cell? ⟨lb, j, none⟩ = some (.int .i64 (limits.getD j 0))),
    Calls Try.prog 14 #[.pointer (some ⟨cb, 0, none⟩), .slice (some ⟨lb, 0, none⟩) 17 17] w fun e w' => e = .returned (.int .i64 (limits.getD k 0)) ∧ Env w' cb a len cap zs i' h' ∧ w.grownBy w' (some cb) := by
  obtain ⟨x, i', h', hx0, hx1, d⟩ := below_draws zs 17 (by omega) (by omega) i h
  obtain ⟨k, rfl⟩ := Int.eq_ofNat_of_zero_le hx0
  refine ⟨k, i', h', by omega, ?_⟩
  intro w cb a len cap lb E hne hc
  have HD := Own.hid (d w cb a len cap E)
  have HC := Own.hid hc
  have hk : k < 17 := by omega
  have hk' : (k : Int) < 17 := by omega
  clear d E hc hx0 hx1
  go_enter Try.func14, Try.ntmps14
  go_wp2_with fail
  refine Calls.mono HD.out ?_
  rintro e w1 ⟨rfl, hE, hg⟩
  have HE := Own.hid hE
  have HG := Own.hid hg
  have hcell : w1.cell? ⟨lb, k, none⟩ = some (.int .i64 (limits.getD k 0)) := hg.cell (HC.out k hk) (by simpa using hne)
  clear hE hg
  obtain ⟨y, hy⟩ : ∃ y, y = limits.getD k 0 := ⟨_, rfl⟩
  rw [← hy] at hcell
  have Hy := Own.hid hy
  clear hy
  go_wp2
  go_ret
  exact ⟨by rw [← Hy.out]; rfl, HE.out, HG.out⟩

/-- The block of the seventeen numbers. -/
theorem limit_cells (w : World) : ∀ j, j < 17 → (w.alloc (.cells #[.int .i64 (-1), .int .i64 0, .int .i64 127, .int .i64 128, .int .i64 255, .int .i64 256, .int .i64 16383, .int .i64 16384, .int .i64 65535, .int .i64 65536, .int .i64 562949953421311, .int .i64 562949953421312, .int .i64 999999999, .int .i64 1000000000, .int .i64 (-999999999), .int .i64 9223372036854775807, .int .i64 (-9223372036854775808)] 3)).cell? ⟨w.heap.size, j, none⟩ = some (.int .i64 (limits.getD j 0)) := by
  intro j hj
  rw [cell_of_row _ w.heap.size j _ _ (0, 0) (heap_alloc_new w _)]
  have : j = 0 ∨ j = 1 ∨ j = 2 ∨ j = 3 ∨ j = 4 ∨ j = 5 ∨ j = 6 ∨ j = 7 ∨ j = 8 ∨ j = 9 ∨ j = 10 ∨ j = 11 ∨ j = 12 ∨ j = 13 ∨ j = 14 ∨ j = 15 ∨ j = 16 := by omega
  rcases this with rfl | rfl | rfl | rfl | rfl | rfl | rfl | rfl | rfl | rfl | rfl | rfl | rfl | rfl | rfl | rfl | rfl <;> rfl

end Go.Proofs.Ytbnmcbbpbiofgaa.Draw

namespace Go.Proofs.Ytbnmcbbpbiofgaa.Mem
open Go.RowKit
set_option linter.unusedVariables false

/-- A struct out of its own block, and two temporaries, handed back. -/
theorem results_row3 {P : Program} {fn : Func} {p t1 t2 : Tmp} {ty : TypeId} (h : fn.results = #[.cell p ty, .tmp t1, .tmp t2]) (tmps : Array Value) (w : World) (g : Nat) (xs : List Value) (d : TypeDesc)
    (hp : tmps.getD p undef = .pointer (some ⟨g, 0, none⟩)) (hr : Row w g xs)
    (hu : P.underlying ty = some d) (hd : (match d with | .struct _ | .array _ _ => true | _ => false) = true) (hi : (P.info? ty).map (·.size) = some xs.length) :
    (results fn tmps).run P w = .ok (.tuple #[.agg xs.toArray, tmps.getD t1 undef, tmps.getD t2 undef]) w := by
  obtain ⟨t, hb⟩ := hr
  have hl := run_loadVar_row (P := P) w g t ty xs.toArray (0, 0) d hb hu hd (by simpa using hi)
  have hp' : tmps[p]?.getD undef = .pointer (some ⟨g, 0, none⟩) := by simpa using hp
  simp [results, h, hp', asAddr, Result.andThen, hl]

theorem hosts8F (j : Nat) (h : j < 8) : -1 ≤ ([0, 1, 2, 0, 1, 2, -1, 3] : List Int).getD j 0 ∧ ([0, 1, 2, 0, 1, 2, -1, 3] : List Int).getD j 0 ≤ 3 := by
  rcases (by omega : j = 0 ∨ j = 1 ∨ j = 2 ∨ j = 3 ∨ j = 4 ∨ j = 5 ∨ j = 6 ∨ j = 7) with rfl | rfl | rfl | rfl | rfl | rfl | rfl | rfl <;> decide

set_option maxRecDepth 100000 in
set_option maxHeartbeats 4000000 in
theorem drawFlush (hA : AnyDoes) (w : World) (a : Option Addr) (len cap : Nat) (zs : List Int) (C : Draw.Code w a len cap zs) :
    Calls Try.prog 5 #[.slice a len cap] w fun e w' => ∃ v D h z, e = .returned (.tuple #[v, .int .i64 h, .int .i64 z]) ∧ D.Any ∧ DkR w' v D ∧ (-1 ≤ h ∧ h ≤ 3) ∧ Below w.heap.size w w' := by
  obtain ⟨wb, hwb, ez, R0, B0⟩ := one_new w [.slice none 0 0, .slice none 0 0, .slice none 0 0] 28
  have HC := hid (C.below B0)
  have hlen := C.hb
  have HR := hid R0
  have HB := hid B0
  have EZ := hid ez
  clear R0 B0 C ez
  go_enter Try.func5, Try.ntmps5
  go_wp2_with fail
  refine (Draw.new_any wb a len cap zs HC.out).mono ?_
  rintro e w1 ⟨rfl, E1, b1⟩
  have HE1 : Hid (EnvX w1 wb.heap.size a len cap zs) := ⟨_, _, E1⟩
  have HB1 := hid b1
  clear E1 b1
  go_wp2_with fail
  refine (sizeX w1 a len cap 25 hlen (by decide) (by decide)).mono ?_
  rintro e w1' ⟨n, hn0, hn1, rfl, hw⟩
  obtain rfl := hw.symm
  go_wp2_with fail
  refine (hA w1 wb.heap.size a len cap zs HE1.out n hn0 (by omega)).mono ?_
  rintro e w2 ⟨v, D, rfl, hD, O, E2, g2⟩
  obtain ⟨p1, c1, p2, c2, p3, c3, rfl⟩ := O.three
  obtain ⟨w3, hw3, ez3, A3, B3⟩ := one_new w2 [.slice p1 D.sec.length c1, .slice p2 D.ep.length c2, .slice p3 D.pe.length c3] 28
  have HS3 := hid (DrSt.start EZ.out HR.out HB.out HB1.out HE1.out E2 g2 O A3 B3)
  have HD := hid hD
  clear A3 B3 O E2 g2 hD ez3 HE1 HB1 HR HB EZ
  go_wp2_with fail
  generalize w2.heap.size = nb at *
  generalize w1.heap.size = Bb at *
  generalize wb.heap.size = cb at *
  have hcb3 : cb < w3.heap.size := HS3.out.env.lt
  refine (pickX _ cb a len cap zs w3.heap.size 8 [0, 1, 2, 0, 1, 2, -1, 3] (by decide) (by decide) (HS3.out.alloc _).env (Nat.ne_of_gt hcb3) (fun j hj => lit_ints w3 [0, 1, 2, 0, 1, 2, -1, 3] 3 j hj)).mono ?_
  rintro e w4 ⟨j, hj, rfl, E4, g4⟩
  have HS4 := hid ((HS3.out.alloc _).draw E4 g4)
  have hhb := hosts8F j hj
  obtain ⟨h, hh⟩ : ∃ h, ([0, 1, 2, 0, 1, 2, -1, 3] : List Int).getD j 0 = h := ⟨_, rfl⟩
  rw [hh] at hhb ⊢
  have HHb := hid hhb
  clear E4 g4 HS3 hh hj hhb
  have hel := HD.out.e
  have HEr : Hid (∀ j, j < D.ep.length → 0 ≤ D.ep.getD j 0 ∧ D.ep.getD j 0 ≤ 9223372036854775807) := fun j hj => by
    have := HD.out.ev (D.ep.getD j 0) (by simp [List.getD, hj])
    omega
  clear hwb hw3 HC
  have HSd := hid HS4.out.drew
  obtain ⟨q0, q1, q2, k0, k1, k2, l0, l1, l2⟩ := HSd.out.six
  clear HS4
  go_wp2
  go_region_with (go_at_call 15; refine (epochX _ cb a len cap zs Bb _ D h HSd.out.env HSd.out.dk HSd.out.hB HEr.out (by unfold maxLen; omega)).mono ?_; rintro e w8 ⟨z, rfl, _, E8, g8⟩; have HS8 := hid (HSd.out.draw E8 g8); clear HSd E8 g8; obtain ⟨r0, r1, r2, m0, m1, m2, n0, n1, n2⟩ := HS8.out.six; have FN := hid HS8.out.fin)
  all_goals (try go_wp2)
  all_goals (refine bodyPost_ret (results_row3 rfl _ _ w.heap.size [.slice p1 D.sec.length c1, .slice p2 D.ep.length c2, .slice p3 D.pe.length c3] _ rfl FN.out.1 Try.underlying28 rfl (by kernel_rfl)) rfl ?_)
  all_goals exact ⟨_, D, h, z, rfl, HD.out, FN.out.2.1, HHb.out, FN.out.2.2⟩

end Go.Proofs.Ytbnmcbbpbiofgaa.Mem

namespace Go.Proofs.Ytbnmcbbpbiofgaa.Mem
open Go.RowKit
set_option linter.unusedVariables false

set_option maxRecDepth 100000 in
set_option maxHeartbeats 1000000 in
theorem lawAt (w : World) (a : Option Addr) (len cap : Nat) (zs : List Int) (C : Draw.Code w a len cap zs) (i : Nat) (hi : i ≤ 1000) :
    Calls Try.prog 8 #[.slice a len cap, .int .i64 (i : Int)] w fun e w' => ∃ x : Nat, x ≤ 255 ∧ e = .returned (.int .i64 (x : Int)) ∧ w' = w := by
  have hl := C.hb
  by_cases hlt : i < len
  · obtain ⟨b, off, rfl, hc⟩ := C.code i hlt
    have hz := C.z (zs.getD i 0) (by have := C.hl; simp [List.getD, show i < zs.length by omega])
    generalize zs.getD i 0 = y at hc hz
    obtain ⟨x, rfl⟩ : ∃ x : Nat, y = (x : Int) := ⟨y.toNat, by omega⟩
    have hw8 : IntKind.i64.wrap (x : Int) = (x : Int) := by rw [IntKind.wrap_i64]; omega
    have hlt' : (i : Int) < (len : Int) := by omega
    have hx : x ≤ 255 := by omega
    clear C
    go_enter Try.func8, Try.ntmps8
    go_wp2
    go_ret
    exact ⟨x, hx, rfl, rfl⟩
  · have h1 : IntKind.i64.wrap ((i : Int) * 37) = (i : Int) * 37 := by rw [IntKind.wrap_i64]; omega
    have h2 : IntKind.i64.wrap ((len : Int) * 11) = (len : Int) * 11 := by rw [IntKind.wrap_i64]; omega
    have h3 : IntKind.i64.wrap ((i : Int) * 37 + (len : Int) * 11) = (i : Int) * 37 + (len : Int) * 11 := by rw [IntKind.wrap_i64]; omega
    obtain ⟨x, hx⟩ : ∃ x : Nat, x = (i * 37 + len * 11) % 256 := ⟨_, rfl⟩
    have h4 : Int.tmod ((i : Int) * 37 + (len : Int) * 11) 256 = (x : Int) := by rw [Int.tmod_eq_emod_of_nonneg (by omega)]; omega
    have h5 : IntKind.i64.wrap (x : Int) = (x : Int) := by rw [IntKind.wrap_i64]; omega
    have hx' : x ≤ 255 := by omega
    have hlt' : ¬ (i : Int) < (len : Int) := by omega
    clear C hx
    go_enter Try.func8, Try.ntmps8
    go_wp2
    go_ret
    exact ⟨x, hx', rfl, rfl⟩

end Go.Proofs.Ytbnmcbbpbiofgaa.Mem

namespace Go.Proofs.Ytbnmcbbpbiofgaa.Mem
open Go.RowKit
set_option linter.unusedVariables false

set_option maxRecDepth 100000 in
set_option maxHeartbeats 1000000 in
theorem bigL (w : World) (a : Option Addr) (len cap : Nat) (hl : len ≤ maxLen) :
    Calls Try.prog 4 #[.slice a len cap] w fun e w' => e = .returned (.bool (decide (1048576 < (len : Int)))) ∧ w' = w := by
  have hl' : (len : Int) ≤ 9223372036854775807 := by unfold maxLen at hl; omega
  by_cases g : 1048576 < (len : Int)
  · rw [decide_eq_true g]
    go_enter Try.func4, Try.ntmps4
    go_wp2
    go_ret
    exact ⟨rfl, rfl⟩
  · rw [decide_eq_false g]
    go_enter Try.func4, Try.ntmps4
    go_wp2
    go_ret
    exact ⟨rfl, rfl⟩

end Go.Proofs.Ytbnmcbbpbiofgaa.Mem

namespace Go.Proofs.Ytbnmcbbpbiofgaa.Mem
open Go.RowKit
set_option linter.unusedVariables false

set_option maxRecDepth 100000 in
set_option maxHeartbeats 1000000 in
theorem sameTexts (w : World) (a b : Option Addr) (ca cb : Nat) (l m : List ByteArray) (S : Strs w a l) (T : Strs w b m) (hl : l.length ≤ maxLen) (hm : m.length ≤ maxLen) :
    Calls Try.prog 24 #[.slice a l.length ca, .slice b m.length cb] w fun e w' => e = .returned (.bool (decide (l = m))) ∧ Below w.heap.size w w' := by
  unfold maxLen at hl hm
  have HS := hid S
  have HT := hid T
  clear S T
  by_cases hne : l.length = m.length
  · have Hne := hid hne
    rw [← hne]
    clear hne hm
    generalize hq : decide (l = m) = q
    have HQ := hid hq
    clear hq
    go_enter Try.func24, Try.ntmps24
    go_wp2
    go_loopw [5] (fun i wr => ∃ k : Nat, k ≤ l.length ∧ i = .int .i64 (k : Int) ∧ Hid (∀ j, j < k → l.getD j ByteArray.empty = m.getD j ByteArray.empty) ∧ Hid (Below w.heap.size w wr)) (fun i _ => l.length - (intOf i).toNat)
    case atStart => exact ⟨0, Nat.zero_le _, rfl, fun j hj => by omega, Below.refl _ _⟩
    case round =>
      obtain ⟨k, hk, rfl, HJ, HB⟩ := hrel
      by_cases hlt : k < l.length
      · obtain ⟨b1, o1, rfl, hc1⟩ := (HS.out.below HB.out) k hlt
        obtain ⟨b2, o2, rfl, hc2⟩ := (HT.out.below HB.out) k (Hne.out ▸ hlt)
        replace hc1 : wr.cell? ⟨b1, o1 + k, none⟩ = some (.string (l.getD k ByteArray.empty)) := hc1
        replace hc2 : wr.cell? ⟨b2, o2 + k, none⟩ = some (.string (m.getD k ByteArray.empty)) := hc2
        generalize hx : l.getD k ByteArray.empty = x at hc1
        generalize hy : m.getD k ByteArray.empty = y at hc2
        have HX := hid hx
        have HY := hid hy
        clear hx hy
        by_cases he : x = y
        · have he' := Own.eqS_yes he
          have HE := hid he
          clear he
          go_wp2
          go_quiet (fail)
          go_wp2
          exact ⟨⟨k + 1, by omega, by go_num, fun j hj => by
            by_cases h : j = k
            · subst h; rw [HX.out, HY.out]; exact HE.out
            · exact HJ.out j (by omega), below_drewN HB.out nq⟩, by simp [intOf]; omega⟩
        · have he' := Own.eqS_no he
          have HE := hid he
          clear he
          go_wp2
          go_quiet (fail)
          go_wp2
          go_ret
          refine ⟨?_, below_drewN HB.out nq⟩
          rw [← HQ.out, decide_eq_false (fun e => HE.out (by rw [← HX.out, ← HY.out, e]))]
          rfl
      · obtain rfl : k = l.length := by omega
        go_wp2
        go_ret
        refine ⟨?_, HB.out⟩
        rw [← HQ.out, decide_eq_true (getD_ext ByteArray.empty Hne.out HJ.out)]
        rfl
  · have hne' : ¬ (l.length : Int) = (m.length : Int) := by omega
    have HQ := hid (decide_eq_false (p := l = m) (fun e => hne (by rw [e])))
    rw [HQ.out]
    go_enter Try.func24, Try.ntmps24
    go_wp2
    go_ret
    exact ⟨rfl, Below.refl _ _⟩

set_option maxRecDepth 100000 in
set_option maxHeartbeats 1000000 in
theorem sameInts (w : World) (a b : Option Addr) (ca cb : Nat) (l m : List Int) (S : Ints w a l) (T : Ints w b m) (hl : l.length ≤ maxLen) (hm : m.length ≤ maxLen) :
    Calls Try.prog 25 #[.slice a l.length ca, .slice b m.length cb] w fun e w' => e = .returned (.bool (decide (l = m))) ∧ Below w.heap.size w w' := by
  unfold maxLen at hl hm
  have HS := hid S
  have HT := hid T
  clear S T
  by_cases hne : l.length = m.length
  · have Hne := hid hne
    rw [← hne]
    clear hne hm
    generalize hq : decide (l = m) = q
    have HQ := hid hq
    clear hq
    go_enter Try.func25, Try.ntmps25
    go_wp2
    go_loopw [5] (fun i wr => ∃ k : Nat, k ≤ l.length ∧ i = .int .i64 (k : Int) ∧ Hid (∀ j, j < k → l.getD j 0 = m.getD j 0) ∧ Hid (Below w.heap.size w wr)) (fun i _ => l.length - (intOf i).toNat)
    case atStart => exact ⟨0, Nat.zero_le _, rfl, fun j hj => by omega, Below.refl _ _⟩
    case round =>
      obtain ⟨k, hk, rfl, HJ, HB⟩ := hrel
      by_cases hlt : k < l.length
      · obtain ⟨b1, o1, rfl, hc1⟩ := (HS.out.below HB.out) k hlt
        obtain ⟨b2, o2, rfl, hc2⟩ := (HT.out.below HB.out) k (Hne.out ▸ hlt)
        replace hc1 : wr.cell? ⟨b1, o1 + k, none⟩ = some (.int .i64 (l.getD k 0)) := hc1
        replace hc2 : wr.cell? ⟨b2, o2 + k, none⟩ = some (.int .i64 (m.getD k 0)) := hc2
        generalize hx : l.getD k 0 = x at hc1
        generalize hy : m.getD k 0 = y at hc2
        have HX := hid hx
        have HY := hid hy
        clear hx hy
        by_cases he : x = y
        · have HE := hid he
          go_wp2
          go_quiet (fail)
          go_wp2
          exact ⟨⟨k + 1, by omega, by go_num, fun j hj => by
            by_cases h : j = k
            · subst h; rw [HX.out, HY.out]; exact HE.out
            · exact HJ.out j (by omega), below_drewN HB.out nq⟩, by simp [intOf]; omega⟩
        · have HE := hid he
          go_wp2
          go_quiet (fail)
          go_wp2
          go_ret
          refine ⟨?_, below_drewN HB.out nq⟩
          rw [← HQ.out, decide_eq_false (fun e => HE.out (by rw [← HX.out, ← HY.out, e]))]
          rfl
      · obtain rfl : k = l.length := by omega
        go_wp2
        go_ret
        refine ⟨?_, HB.out⟩
        rw [← HQ.out, decide_eq_true (getD_ext 0 Hne.out HJ.out)]
        rfl
  · have hne' : ¬ (l.length : Int) = (m.length : Int) := by omega
    have HQ := hid (decide_eq_false (p := l = m) (fun e => hne (by rw [e])))
    rw [HQ.out]
    go_enter Try.func25, Try.ntmps25
    go_wp2
    go_ret
    exact ⟨rfl, Below.refl _ _⟩

end Go.Proofs.Ytbnmcbbpbiofgaa.Mem

namespace Go.Proofs.Ytbnmcbbpbiofgaa.Mem
open Go.RowKit Classical
set_option linter.unusedVariables false

theorem wt_eq {x y : Wt} (a : x.host = y.host) (b : x.epoch = y.epoch) (c : x.sector = y.sector) (d : x.text = y.text) : x = y := by
  cases x; cases y; simp_all
theorem text_inj {x y : ByteArray} (h : x.toList = y.toList) : x = y := by
  rw [ByteArray.toList_eq, ByteArray.toList_eq] at h
  exact ByteArray.ext (Array.toList_inj.1 h)

set_option maxRecDepth 100000 in
set_option maxHeartbeats 1000000 in
theorem sameDisk (w : World) (v u : Value) (D E : Dk) (h : DkR w v D) (k : DkR w u E) (hd : D.Held) (he : E.Held) :
    Calls Try.prog 10 #[v, u] w fun e w' => e = .returned (.bool (decide (D = E))) ∧ Below w.heap.size w w' := by
  obtain ⟨a1, c1, a2, c2, a3, c3, rfl, s1, s2, s3⟩ := h
  obtain ⟨b1, d1, b2, d2, b3, d3, rfl, t1, t2, t3⟩ := k
  obtain ⟨l1, l2, l3⟩ := D
  obtain ⟨m1, m2, m3⟩ := E
  generalize hq : decide (Dk.mk l1 l2 l3 = Dk.mk m1 m2 m3) = q
  have HQ := hid hq
  have HS1 := hid s1
  have HS2 := hid s2
  have HS3 := hid s3
  have HT1 := hid t1
  have HT2 := hid t2
  have HT3 := hid t3
  have HD := hid hd
  have HE := hid he
  clear s1 s2 s3 t1 t2 t3 hd he hq
  simp only []
  go_enter Try.func10, Try.ntmps10
  go_wp2_with fail
  obtain ⟨wc, hwc, _, A0, R0, B0⟩ := two_new w [.slice a1 l1.length c1, .slice a2 l2.length c2, .slice a3 l3.length c3] [.slice b1 m1.length d1, .slice b2 m2.length d2, .slice b3 m3.length d3] 28 28
  simp only [hwc]
  clear hwc
  refine (sameTexts wc a1 b1 c1 d1 l1 m1 (HS1.out.below B0) (HT1.out.below B0) HD.out.h1 HE.out.h1).mono ?_
  rintro e w1 ⟨rfl, hb1⟩
  replace A0 := A0.below hb1 A0.lt
  replace R0 := R0.below hb1 R0.lt
  replace B0 := B0.trans (hb1.mono B0.size)
  by_cases h1 : ¬ l1 = m1
  · have h1' := decide_eq_false h1
    have HX := hid (HQ.out.symm.trans (decide_eq_false (fun e => h1 (by injection e))))
    have HB := hid B0
    clear h1 A0 R0 B0 hb1 HQ
    go_wp2
    go_ret
    exact ⟨by rw [HX.out]; rfl, HB.out⟩
  replace h1 := Classical.not_not.mp h1
  have h1' := decide_eq_true h1
  have H1 := hid h1
  have ca := A0.c 1 rfl
  have cb := R0.c 1 rfl
  have HA := hid A0
  have HR := hid R0
  have HB := hid B0
  clear h1 A0 R0 B0 hb1
  go_wp2_with fail
  refine (sameInts w1 a2 b2 c2 d2 l2 m2 (HS2.out.below HB.out) (HT2.out.below HB.out) HD.out.h2 HE.out.h2).mono ?_
  rintro e w2 ⟨rfl, hb2⟩
  have A0 := HA.out.below hb2 HA.out.lt
  have R0 := HR.out.below hb2 HR.out.lt
  have B0 := HB.out.trans (hb2.mono HB.out.size)
  clear HA HR HB ca cb
  by_cases h2 : ¬ l2 = m2
  · have h2' := decide_eq_false h2
    have HX := hid (HQ.out.symm.trans (decide_eq_false (fun e => h2 (by injection e))))
    have HB := hid B0
    clear h2 A0 R0 B0 hb2 HQ
    go_wp2
    go_ret
    exact ⟨by rw [HX.out]; rfl, HB.out⟩
  replace h2 := Classical.not_not.mp h2
  have h2' := decide_eq_true h2
  have H2 := hid h2
  have HA := hid A0
  have HR := hid R0
  have HB := hid B0
  have ca := A0.c 2 rfl
  have cb := R0.c 2 rfl
  have d3 : l3.length ≤ 9223372036854775807 := HD.out.h3
  have e3 : m3.length ≤ 9223372036854775807 := HE.out.h3
  clear h2 A0 R0 B0 hb2
  by_cases h3 : ¬ l3.length = m3.length
  · have HX := hid (HQ.out.symm.trans (decide_eq_false (fun e => h3 (by injection e with _ _ e; rw [e]))))
    have h3a : ¬ (l3.length : Int) = (m3.length : Int) := by omega
    clear HQ
    go_wp2
    go_ret
    exact ⟨by rw [HX.out]; rfl, HB.out⟩
  replace h3 := Classical.not_not.mp h3
  have h3a : (l3.length : Int) = (m3.length : Int) := by omega
  have HS3' := hid (HS3.out.below HB.out)
  have HT3' := hid (HT3.out.below HB.out)
  clear HS3 HT3 HS1 HS2 HT1 HT2 ca cb
  have ca := HA.out.c 2 rfl
  have cb := HR.out.c 2 rfl
  go_wp2_with fail
  go_loopw [5] (fun i wr => ∃ k : Nat, k ≤ l3.length ∧ i = .int .i64 (k : Int) ∧ Hid (∀ j, j < k → l3.getD j Wt.none = m3.getD j Wt.none) ∧ Hid (Below w2.heap.size w2 wr)) (fun i _ => l3.length - (intOf i).toNat)
  case atStart => exact ⟨0, Nat.zero_le _, rfl, fun j hj => by omega, Below.refl _ _⟩
  case round =>
    clear ca cb
    obtain ⟨k, hk, rfl, HP, HBr⟩ := hrel
    have HA3 := hid (HA.out.below HBr.out HA.out.lt)
    have HR3 := hid (HR.out.below HBr.out HR.out.lt)
    have ca := HA3.out.c 2 rfl
    have cb := HR3.out.c 2 rfl
    by_cases hlt : k < l3.length
    · obtain ⟨p3, o3, rfl, x0, x1, x2, x3⟩ := Wts.at_ (HS3'.out.below HBr.out) k hlt
      obtain ⟨q3, r3, rfl, y0, y1, y2, y3⟩ := Wts.at_ (HT3'.out.below HBr.out) k (by omega)
      have hkm : (k : Int) < (m3.length : Int) := by omega
      have hkl : (k : Int) < (l3.length : Int) := by omega
      generalize hx : l3.getD k Wt.none = x at x0 x1 x2 x3
      generalize hy : m3.getD k Wt.none = y at y0 y1 y2 y3
      have HX := hid hx
      have HY := hid hy
      clear hx hy
      have HF : Hid (¬ x = y → q = false) := fun h => HQ.out.symm.trans (decide_eq_false (fun e => h (by injection e with _ _ e; rw [← HX.out, ← HY.out, e])))
      have HBe := hid (((HB.out.trans (HBr.out.mono HB.out.size))).drew)
      by_cases N : ¬ x.host = y.host
      · have HN := hid (HF.out (fun e => N (by rw [e])))
        clear HQ
        go_wp2_with fail
        go_region
        go_wp2
        go_ret
        exact ⟨by rw [HN.out]; rfl, HBe.out⟩
      replace N := Classical.not_not.mp N
      have n1 := N
      by_cases N : ¬ x.epoch = y.epoch
      · have HN := hid (HF.out (fun e => N (by rw [e])))
        clear HQ
        go_wp2_with fail
        go_region
        go_wp2
        go_ret
        exact ⟨by rw [HN.out]; rfl, HBe.out⟩
      replace N := Classical.not_not.mp N
      have n2 := N
      by_cases N : ¬ x.sector = y.sector
      · have HN := hid (HF.out (fun e => N (by rw [e])))
        clear HQ
        go_wp2_with fail
        go_region
        go_wp2
        go_ret
        exact ⟨by rw [HN.out]; rfl, HBe.out⟩
      replace N := Classical.not_not.mp N
      have n3 := N
      by_cases N : ¬ x.text = y.text
      · have N' : ¬ x.text.toList = y.text.toList := fun e => N (text_inj e)
        have HN := hid (HF.out (fun e => N (by rw [e])))
        clear HQ
        go_wp2_with fail
        go_region
        go_wp2
        go_ret
        exact ⟨by rw [HN.out]; rfl, HBe.out⟩
      replace N := Classical.not_not.mp N
      have HS := hid (wt_eq n1 n2 n3 N)
      go_wp2_with fail
      go_region
      go_wp2
      exact ⟨⟨k + 1, by omega, by go_num, fun j hj => by rcases Nat.lt_or_ge j k with h | h; exact HP.out j h; rw [show j = k by omega, HX.out, HY.out]; exact HS.out, HBr.out.drew⟩, by simp [intOf]; omega⟩
    have HN := hid (HQ.out.symm.trans (decide_eq_true (show Dk.mk l1 l2 l3 = Dk.mk m1 m2 m3 by rw [H1.out, H2.out, getD_ext Wt.none h3 (fun j hj => HP.out j (by omega))])))
    have HBe := hid (HB.out.trans (HBr.out.mono HB.out.size))
    clear HQ
    go_wp2
    go_ret
    exact ⟨by rw [HN.out]; rfl, HBe.out⟩

end Go.Proofs.Ytbnmcbbpbiofgaa.Mem

namespace Go.Proofs.Ytbnmcbbpbiofgaa.Mem
open Go.RowKit
set_option linter.unusedVariables false

set_option maxHeartbeats 400000 in
theorem isHost (x : Int) (w : World) :
    Calls Try.prog 30 #[.int .i64 x] w fun e w' => e = .returned (.bool (decide (0 ≤ x ∧ x < 3))) ∧ w' = w := by
  by_cases h1 : 0 ≤ x
  · by_cases h2 : x < 3
    · rw [decide_eq_true (And.intro h1 h2)]
      go_enter Try.func30, Try.ntmps30
      go_wp2
      go_ret
      exact ⟨rfl, rfl⟩
    · rw [decide_eq_false (fun h => h2 h.2)]
      go_enter Try.func30, Try.ntmps30
      go_wp2
      go_ret
      exact ⟨rfl, rfl⟩
  · rw [decide_eq_false (fun h => h1 h.1)]
    go_enter Try.func30, Try.ntmps30
    go_wp2
    go_ret
    exact ⟨rfl, rfl⟩

set_option maxHeartbeats 400000 in
theorem fitsSector (t : ByteArray) (w : World) :
    Calls Try.prog 29 #[.string t] w fun e w' => e = .returned (.bool (decide ((t.size : Int) ≤ 700))) ∧ w' = w := by
  go_enter Try.func29, Try.ntmps29
  go_wp2
  go_ret
  exact ⟨rfl, rfl⟩

set_option maxHeartbeats 400000 in
theorem isSector (w : World) (v1 v2 v3 : Value) (a : Option Addr) (n c : Nat) (hv : v1 = .slice a n c) (x : Int) :
    Calls Try.prog 31 #[.agg #[v1, v2, v3], .int .i64 x] w fun e w' => e = .returned (.bool (decide (0 ≤ x ∧ x < (n : Int)))) ∧ Below w.heap.size w w' := by
  subst hv
  have B0 := ((Below.refl w.heap.size w).alloc (Nat.le_refl _) (.cells #[.slice a n c, v2, v3] 28))
  by_cases h1 : 0 ≤ x
  · by_cases h2 : x < n
    · rw [decide_eq_true (And.intro h1 h2)]
      have HB := hid B0
      clear B0
      go_enter Try.func31, Try.ntmps31
      go_wp2
      go_ret
      exact ⟨rfl, HB.out⟩
    · rw [decide_eq_false (fun h => h2 h.2)]
      have HB := hid B0
      clear B0
      go_enter Try.func31, Try.ntmps31
      go_wp2
      go_ret
      exact ⟨rfl, HB.out⟩
  · rw [decide_eq_false (fun h => h1 h.1)]
    have HB := hid B0
    clear B0
    go_enter Try.func31, Try.ntmps31
    go_wp2
    go_ret
    exact ⟨rfl, HB.out⟩

end Go.Proofs.Ytbnmcbbpbiofgaa.Mem

namespace Go.Proofs.Ytbnmcbbpbiofgaa.Mem
open Go.RowKit
set_option linter.unusedVariables false

/-- The first reason. -/
def Dk.refuse (D : Dk) (x ep s : Int) (ts : List ByteArray) : Int := if ((0 ≤ x ∧ x < 3) ∧ 0 ≤ s ∧ s < (D.sec.length : Int)) ∧ (∀ j, j < ts.length → ((ts.getD j ByteArray.empty).size : Int) ≤ 700) then (if D.ep.getD x.toNat 0 = ep then 0 else 2) else 1

set_option maxRecDepth 100000 in
set_option maxHeartbeats 2000000 in
theorem refusal (w : World) (v : Value) (D : Dk) (x ep s : Int) (a : Option Addr) (cap : Nat) (ts : List ByteArray) (h : DkR w v D) (h3 : D.ep.length = 3) (T : Strs w a ts) (hl : ts.length ≤ maxLen) :
    Calls Try.prog 20 #[v, .int .i64 x, .int .i64 ep, .int .i64 s, .slice a ts.length cap] w fun e w' => e = .returned (.int .i64 (D.refuse x ep s ts)) ∧ Below w.heap.size w w' := by
  have HH := hid h
  have HT := hid T
  obtain ⟨a1, c1, a2, c2, a3, c3, rfl, _, s2, _⟩ := h
  have HS2 := hid s2
  clear T s2
  have hl' : ts.length ≤ 9223372036854775807 := hl
  have hp : D.refuse x ep s ts = if ((0 ≤ x ∧ x < 3) ∧ 0 ≤ s ∧ s < (D.sec.length : Int)) ∧ (∀ j, j < ts.length → ((ts.getD j ByteArray.empty).size : Int) ≤ 700) then (if D.ep.getD x.toNat 0 = ep then 0 else 2) else 1 := rfl
  generalize D.refuse x ep s ts = P at *
  have HP := hid hp
  have H3 := hid h3
  clear hp hl h3
  obtain ⟨wb, hwb, ez, A0, B0⟩ := one_new w [.slice a1 D.sec.length c1, .slice a2 D.ep.length c2, .slice a3 D.pe.length c3] 28
  have HA := hid A0
  have HB := hid B0
  have k0 := A0.c 0 rfl
  have k1 := A0.c 1 rfl
  have k2 := A0.c 2 rfl
  clear A0 B0 ez
  go_enter Try.func20, Try.ntmps20
  go_wp2_with fail
  refine (isHost x wb).mono ?_
  rintro e w0 ⟨rfl, hw⟩
  subst hw
  by_cases g1 : ¬ (0 ≤ x ∧ x < 3)
  · have g1' := decide_eq_false g1
    have HP1 := hid (HP.out.trans (if_neg (fun q => g1 q.1.1)))
    clear g1
    go_wp2
    go_ret
    exact ⟨by rw [HP1.out]; rfl, HB.out⟩
  replace g1 := Classical.not_not.mp g1
  have g1' := decide_eq_true g1
  have HG1 := hid g1
  obtain ⟨n, rfl⟩ : ∃ n : Nat, x = (n : Int) := Int.eq_ofNat_of_zero_le g1.1
  have hn3 : (n : Int) < 3 := g1.2
  clear g1
  go_wp2_with fail
  refine (isSector w0 _ _ _ a1 D.sec.length c1 rfl s).mono ?_
  rintro e w1 ⟨rfl, b1⟩
  have HA1 := hid (HA.out.below b1 HA.out.lt)
  have HB1 := hid (HB.out.trans (b1.mono HB.out.size))
  clear HA HB b1 k0 k1 k2 g1'
  have k0 := HA1.out.c 0 rfl
  have k1 := HA1.out.c 1 rfl
  have k2 := HA1.out.c 2 rfl
  by_cases g2 : ¬ (0 ≤ s ∧ s < (D.sec.length : Int))
  · have g2' := decide_eq_false g2
    have HP1 := hid (HP.out.trans (if_neg (fun q => g2 q.1.2)))
    clear g2
    go_wp2
    go_ret
    exact ⟨by rw [HP1.out]; rfl, HB1.out⟩
  replace g2 := Classical.not_not.mp g2
  have g2' := decide_eq_true g2
  have HG2 := hid g2
  clear g2
  go_wp2
  go_loop [24] (fun i => ∃ k : Nat, k ≤ ts.length ∧ i = .int .i64 (k : Int) ∧ Hid (∀ j, j < k → ((ts.getD j ByteArray.empty).size : Int) ≤ 700)) (fun i => ts.length - (intOf i).toNat)
  case atStart => exact ⟨0, Nat.zero_le _, rfl, fun j hj => by omega⟩
  case round =>
    obtain ⟨k, hk, rfl, HJ⟩ := hrel
    by_cases hlt : k < ts.length
    · obtain ⟨b, off, rfl, hc⟩ := (HT.out.below HB1.out) k hlt
      replace hc : w1.cell? ⟨b, off + k, none⟩ = some (.string (ts.getD k ByteArray.empty)) := hc
      generalize hx : ts.getD k ByteArray.empty = y at hc
      have HX := hid hx
      clear hx
      go_wp2_with fail
      refine (fitsSector y w1).mono ?_
      rintro e w1' ⟨rfl, hw⟩
      subst hw
      by_cases hn : (y.size : Int) ≤ 700
      · have hn' := decide_eq_true hn
        go_wp2
        exact ⟨⟨k + 1, by omega, by go_num, fun j hj => by
          by_cases h : j = k
          · subst h; rw [HX.out]; exact hn
          · exact HJ.out j (by omega)⟩, by simp [intOf]; omega⟩
      · have hn' := decide_eq_false hn
        have HP1 := hid (HP.out.trans (if_neg (fun q => by have := q.2 k hlt; rw [HX.out] at this; exact hn this)))
        clear hn
        go_wp2
        go_ret
        exact ⟨by rw [HP1.out]; rfl, HB1.out⟩
    obtain rfl : k = ts.length := by omega
    have HP1 := hid (HP.out.trans (if_pos ⟨⟨HG1.out, HG2.out⟩, HJ.out⟩))
    have hnl : n < D.ep.length := by have := H3.out; omega
    obtain ⟨b2, o2, rfl, hc⟩ := (HS2.out.below HB1.out) n hnl
    replace hc : w1.cell? ⟨b2, o2 + n, none⟩ = some (.int .i64 (D.ep.getD n 0)) := hc
    generalize hy : D.ep.getD n 0 = y at hc
    have HY := hid hy
    clear hy
    have q0 : (0 : Int) ≤ (n : Int) := Int.natCast_nonneg n
    by_cases g4 : ¬ ep = y
    · have HP2 := hid (HP1.out.trans (if_neg (by rw [Int.toNat_natCast, HY.out]; exact fun q => g4 q.symm)))
      go_wp2
      go_ret
      exact ⟨by rw [HP2.out]; rfl, HB1.out⟩
    replace g4 := Classical.not_not.mp g4
    subst g4
    have HP2 := hid (HP1.out.trans (if_pos (by rw [Int.toNat_natCast, HY.out])))
    go_wp2
    go_ret
    exact ⟨by rw [HP2.out]; rfl, HB1.out⟩

end Go.Proofs.Ytbnmcbbpbiofgaa.Mem

namespace Go.Proofs.Ytbnmcbbpbiofgaa.Mem
open Go.RowKit Go.Maps
open Go.ChangeMaps (setBlock heap_setBlock_same heap_setBlock_other)
set_option linter.unusedVariables false

theorem laidQ : laidOutB Try.prog = true := by kernel_rfl
theorem rowQ : (53 : TypeId) < Try.prog.types.size := of_decide_eq_true (by kernel_rfl)
theorem deepQ : Try.prog.keyTypeAt (Try.prog.types.size + 1) 53 = true := by kernel_rfl
theorem wideQ : (match Try.prog.underlying 53 with | some (.array _ _) | some (.struct _) => true | _ => false) = true := by rw [Try.underlying53]
set_option maxRecDepth 100000 in
theorem lawQ : WideMaps.KeyLaw Try.prog 53 := deep_law_laid laidQ (m := 2) (by omega) rowQ (by kernel_rfl) wideQ
theorem keyedQ : Keyed Try.prog 53 := Keyed.of_law lawQ
theorem cellsQ : Try.prog.cellsOf 53 = 2 := by kernel_rfl
theorem cellsI : Try.prog.cellsOf 3 = 1 := by kernel_rfl
theorem zeroQ (w : World) : (zeroValue 25).run Try.prog w = .ok (.slice none 0 0) w := by kernel_rfl

def nilv : Value := .slice none 0 0

/-- A key, and what it reads as. -/
def kval (h s : Int) : Value := .agg #[.int .i64 h, .int .i64 s]
def klq (h s : Int) : Lit := .string (keyBytes [.int .i64 h, .int .i64 s])

/-- The hosts and sectors of a right disk. -/
def OkK (h s : Int) : Prop := (0 ≤ h ∧ h < 3) ∧ 0 ≤ s ∧ s < 40

theorem wf_small {x : Int} (h0 : 0 ≤ x) (h1 : x < 40) : (Lit.int .i64 x).wf = true := WalkArith.wf_i64 (by omega)

theorem key_of {h s : Int} (hk : OkK h s) : keyOf Try.prog 53 (kval h s) = some (klq h s) := by
  have w1 := wf_small hk.1.1 (by have := hk.1.2; omega)
  have w2 := wf_small hk.2.1 hk.2.2
  obtain ⟨m, hm⟩ : ∃ m, Try.prog.types.size + 1 = m + 2 := ⟨Try.prog.types.size - 1, by have h : (53 : Nat) < Try.prog.types.size := rowQ; omega⟩
  have hd : Try.prog.keyType 53 = true := deepQ
  have hf : (kval h s).formed Try.prog 53 = true := by simp [kval, Value.formed, Try.underlying53, cellsQ]
  unfold keyOf
  simp only [Try.underlying53, hd, hf, Bool.and_self, if_true, hm]
  simp [Program.keyLits, Try.underlying53, Try.underlying3, cellsQ, cellsI, kval, Value.cells, w1, w2, klq, List.range_succ]

theorem klq_inj {h s h' s' : Int} (hk : OkK h s) (hk' : OkK h' s') (e : klq h s = klq h' s') : h = h' ∧ s = s' := by
  have := keyedQ.inj (key_of hk) (by rw [e]; exact key_of hk')
  simpa [kval] using this

/-- The reader: a value as it stands. -/
def Rid (v : Value) : Option (DataW Value × List MemPlace) := some (.held v, [])

def qCells (l : List Nat) : List Value := l.map (fun (i : Nat) => Value.int .i64 (i : Int))

/-- Block b is a map of queues: at each key a row of its own with the numbers Q, or nothing where there are none. -/
structure QM (w : World) (B b n : Nat) (Q : Int → Int → List Nat) (D : DataW Value) (V : Int → Int → Value) : Prop where
  own : w.ownsMap Try.prog 53 Rid b n D
  lt : b < B
  has : ∀ h s, OkK h s → (Maps.has D (klq h s) = true ↔ Q h s ≠ [])
  at_ : ∀ h s, OkK h s → D.atKey (klq h s) (.held nilv) = .held (V h s)
  row : ∀ h s, OkK h s → RowO w B 3 1 (V h s) (Q h s).length (qCells (Q h s))
  apart : ∀ h s h' s', OkK h s → OkK h' s' → ¬ (h = h' ∧ s = s') → ∀ g, rb (V h s) = some g → rb (V h' s') ≠ some g
  only : ∀ l, Maps.has D l = true → ∃ h s, OkK h s ∧ l = klq h s

theorem ownsMap_kept {S : Nat → Prop} {P : Program} {k : TypeId} {R : Value → Option (DataW Value × List MemPlace)} {w w' : World} {b n : Nat} {D : DataW Value} (h : w.ownsMap P k R b n D) (kk : Kept S w w') (hb : ¬ S b) : w'.ownsMap P k R b n D := by
  have hl := h.lt
  obtain ⟨es, clock, hh, r⟩ := h
  exact ⟨es, clock, by rw [kk.block b hl hb]; exact hh, r⟩

theorem QM.kept {S : Nat → Prop} {w w' : World} {B b n : Nat} {Q : Int → Int → List Nat} {D : DataW Value} {V : Int → Int → Value} (q : QM w B b n Q D V) (k : Kept S w w') (hb : ¬ S b) (hr : ∀ h s g, OkK h s → rb (V h s) = some g → ¬ S g) : QM w' B b n Q D V :=
  ⟨ownsMap_kept q.own k hb, q.lt, q.has, q.at_, fun h s hk => (q.row h s hk).kept k (fun g hg => hr h s g hk hg), q.apart, q.only⟩

theorem QM.below {w w' : World} {B b n : Nat} {Q : Int → Int → List Nat} {D : DataW Value} {V : Int → Int → Value} (q : QM w B b n Q D V) (k : Below w.heap.size w w') : QM w' B b n Q D V :=
  q.kept (Kept.of_below (S := fun _ => False) k) (fun x => x) (fun _ _ _ _ _ x => x)

theorem QM.made (w : World) : QM (w.alloc (.map #[] 0)) (w.heap.size + 1) w.heap.size 0 (fun _ _ => []) (.map []) (fun _ _ => nilv) :=
  ⟨World.ownsMap_made w _ _ _, Nat.lt_succ_self _, fun h s _ => by simp [Maps.has], fun h s _ => rfl, fun h s _ => Or.inl ⟨none, rfl, rfl, rfl⟩, fun _ _ _ _ _ _ _ g hg => by simp [rb, nilv] at hg, fun l hl => by simp [Maps.has] at hl⟩

/-- 'm[k]'. -/
theorem QM.look {w : World} {B b n : Nat} {Q : Int → Int → List Nat} {D : DataW Value} {V : Int → Int → Value} (q : QM w B b n Q D V) {h s : Int} (hk : OkK h s) : (Instr.lookup 50 (.map (some b)) (kval h s) false).run Try.prog w = .ok (V h s) w := by
  obtain ⟨v, ps, hrun, hR⟩ := q.own.lookup keyedQ Try.underlying50 (zeroQ w) (zd := .held nilv) (zp := []) rfl (key_of hk)
  have e := q.at_ h s hk
  simp only [Rid, Option.some.injEq, Prod.mk.injEq] at hR
  rw [e] at hR
  have : v = V h s := by injection hR.1
  rw [← this]
  exact hrun

/-- 'v, ok := m[k]'. -/
theorem QM.look_ok {w : World} {B b n : Nat} {Q : Int → Int → List Nat} {D : DataW Value} {V : Int → Int → Value} (q : QM w B b n Q D V) {h s : Int} (hk : OkK h s) : (Instr.lookup 50 (.map (some b)) (kval h s) true).run Try.prog w = .ok (.tuple #[V h s, .bool (decide (Q h s ≠ []))]) w := by
  obtain ⟨v, ps, hrun, hR⟩ := q.own.look_ok keyedQ Try.underlying50 (zeroQ w) (zd := .held nilv) (zp := []) rfl (key_of hk)
  have e := q.at_ h s hk
  simp only [Rid, Option.some.injEq, Prod.mk.injEq] at hR
  rw [e] at hR
  have hv : v = V h s := by injection hR.1
  have hh : Maps.has D (klq h s) = decide (Q h s ≠ []) := by
    have := q.has h s hk
    by_cases hq : Q h s ≠ []
    · rw [decide_eq_true hq]; exact this.2 hq
    · rw [decide_eq_false hq]
      cases hx : Maps.has D (klq h s)
      · rfl
      · exact absurd (this.1 hx) hq
  rw [← hv, ← hh]
  exact hrun

/-- One key's queue is another one. -/
def upd {α : Type} (Q : Int → Int → α) (h s : Int) (z : α) (h' s' : Int) : α := if h' = h ∧ s' = s then z else Q h' s'
theorem upd_same {α : Type} (Q : Int → Int → α) (h s : Int) (z : α) : upd Q h s z h s = z := if_pos ⟨rfl, rfl⟩
theorem upd_other {α : Type} (Q : Int → Int → α) {h s h' s' : Int} (z : α) (hne : ¬ (h' = h ∧ s' = s)) : upd Q h s z h' s' = Q h' s' := if_neg hne

theorem kept_setBlock {w : World} {b : Nat} {es : Array MapEntry} {clock : Nat} (hb : w.heap[b]? = some (.map es clock)) (o : Obj) : Kept (fun k => k = b) w (setBlock w b o) :=
  ⟨rfl, rfl, rfl, by simp [setBlock], fun i _ hi => heap_setBlock_other hb _ hi⟩

/-- What a store at a key leaves, if the new row lies in the old one's block or in a new one. -/
theorem QM.put {w w2 w3 : World} {B b n n' : Nat} {Q : Int → Int → List Nat} {D : DataW Value} {V : Int → Int → Value} (q : QM w B b n Q D V) {h s : Int} (hk : OkK h s) (k : Kept (fun g => g = b ∨ rb (V h s) = some g) w w2) (v' : Value) (zs : List Nat) (hz : zs ≠ [])
    (r : RowO w2 B 3 1 v' zs.length (qCells zs)) (hl : rb v' = none ∨ rb v' = rb (V h s) ∨ ∃ g, rb v' = some g ∧ w.heap.size ≤ g)
    (k3 : Kept (fun g => g = b) w2 w3) (o3 : w3.ownsMap Try.prog 53 Rid b n' (D.put (klq h s) (.held v'))) : QM w3 B b n' (upd Q h s zs) (D.put (klq h s) (.held v')) (upd V h s v') := by
  have isM : IsMap D := q.own.isMap
  have kl := keyedQ.key (key_of hk)
  have rB : ∀ {h' s' g}, OkK h' s' → rb (V h' s') = some g → g ≠ b := fun {h' s' g} hk' hg e => by
    have := ((q.row h' s' hk').lt hg).1
    have := q.lt
    omega
  have v'B : ∀ {g}, rb v' = some g → g ≠ b := fun {g} hg e => by
    have := (r.lt hg).1
    have := q.lt
    omega
  refine ⟨o3, q.lt, fun h' s' hk' => ?_, fun h' s' hk' => ?_, fun h' s' hk' => ?_, fun h1 s1 h2 s2 hk1 hk2 hne g h3 => ?_, fun l hl' => ?_⟩
  · by_cases e : h' = h ∧ s' = s
    · obtain ⟨rfl, rfl⟩ := e
      rw [upd_same, has_put_same isM kl]
      simp [hz]
    · rw [upd_other _ _ e, has_put_other (fun e' => e (klq_inj hk' hk e'))]
      exact q.has h' s' hk'
  · by_cases e : h' = h ∧ s' = s
    · obtain ⟨rfl, rfl⟩ := e
      rw [upd_same, atKey_put_same isM kl]
    · rw [upd_other _ _ e, atKey_put_other (fun e' => e (klq_inj hk' hk e'))]
      exact q.at_ h' s' hk'
  · by_cases e : h' = h ∧ s' = s
    · obtain ⟨rfl, rfl⟩ := e
      rw [upd_same, upd_same]
      exact r.kept k3 (fun g hg => v'B hg)
    · rw [upd_other _ _ e, upd_other _ _ e]
      refine ((q.row h' s' hk').kept k (fun g hg hx => ?_)).kept k3 (fun g hg => rB hk' hg)
      rcases hx with hx | hx
      · exact rB hk' hg hx
      · exact q.apart h' s' h s hk' hk e g hg hx
  · have far : ∀ h' s' g, OkK h' s' → ¬ (h' = h ∧ s' = s) → rb (V h' s') = some g → rb v' ≠ some g := fun h' s' g hk' hne' hg hx => by
      rcases hl with e | e | ⟨g', e, hg'⟩
      · rw [e] at hx; cases hx
      · rw [e] at hx
        exact q.apart h' s' h s hk' hk hne' g hg hx
      · rw [e] at hx
        cases hx
        have := ((q.row h' s' hk').lt hg).2
        omega
    by_cases e1 : h1 = h ∧ s1 = s
    · obtain ⟨rfl, rfl⟩ := e1
      have e2 : ¬ (h2 = h1 ∧ s2 = s1) := fun e => hne ⟨e.1.symm, e.2.symm⟩
      rw [upd_same] at h3
      rw [upd_other _ _ e2]
      exact fun hx => far h2 s2 g hk2 e2 hx h3
    · rw [upd_other _ _ e1] at h3
      by_cases e2 : h2 = h ∧ s2 = s
      · obtain ⟨rfl, rfl⟩ := e2
        rw [upd_same]
        exact far h1 s1 g hk1 e1 h3
      · rw [upd_other _ _ e2]
        exact q.apart h1 s1 h2 s2 hk1 hk2 hne g h3
  · by_cases e : l = klq h s
    · exact ⟨h, s, hk, e⟩
    · rw [has_put_other e] at hl'
      exact q.only l hl'

/-- 'm[k] = append(m[k], ..)': the entry that is made or found, and the store into it. -/
theorem QM.entry {w : World} {B b n : Nat} {Q : Int → Int → List Nat} {D : DataW Value} {V : Int → Int → Value} (q : QM w B b n Q D V) {h s : Int} (hk : OkK h s) (hn : n < maxLen) :
    ∃ st w1, (Instr.mapEntry 50 (.map (some b)) (kval h s)).run Try.prog w = .ok (.tuple #[V h s, goInt st]) w1 ∧ Kept (fun g => g = b) w w1 ∧ w1.heap.size = w.heap.size ∧
      ∀ (w2 : World) (v' : Value) (zs : List Nat), zs ≠ [] → Kept (fun g => rb (V h s) = some g) w1 w2 → RowO w2 B 3 1 v' zs.length (qCells zs) → (rb v' = none ∨ rb v' = rb (V h s) ∨ ∃ g, rb v' = some g ∧ w.heap.size ≤ g) →
        ∃ w3, (Instr.entryStore 50 (.map (some b)) (goInt st) v').run Try.prog w2 = .ok () w3 ∧ QM w3 B b (n + 1) (upd Q h s zs) (D.put (klq h s) (.held v')) (upd V h s v') ∧ Kept (fun g => g = b) w2 w3 := by
  have hlook := q.look hk
  have hlt := q.own.lt
  obtain ⟨es, clock, hb, F, hs, hD⟩ := q.own
  obtain ⟨v0, st, es1, clock1, hrun, hv0, hst⟩ := WideElems.entry_then_store (z := .slice none 0 0) lawQ Try.underlying50 (fun u => zeroQ u) hb F (key_of hk)
  have hv : v0 = V h s := by
    rcases Maps.fit_look false keyedQ Try.underlying50 (zeroQ w) hb F (key_of hk) with ⟨hr, hno, _⟩ | ⟨e0, y, hm0, h3, hr, _⟩
    · rcases hv0 with ⟨e1, hm1, hk1, rfl⟩ | ⟨_, rfl⟩
      · exact absurd hk1 (hno e1 hm1)
      · rw [hr] at hlook; injection hlook
    · rcases hv0 with ⟨e1, hm1, hk1, rfl⟩ | ⟨hno, _⟩
      · have : e1 = e0 := entry_eq_of_key (List.pairwise_map.1 F.stamped.2.2) hm1 hm0 (hk1.trans h3.symm)
        subst this
        rw [hr] at hlook
        injection hlook
      · exact absurd h3 (hno e0 hm0)
  subst hv
  refine ⟨st, _, hrun, kept_setBlock hb _, by simp [setBlock], fun w2 v' zs hz k2 r hl => ?_⟩
  have h1 : (setBlock w b (.map es1 clock1)).heap[b]? = some (.map es1 clock1) := heap_setBlock_same hb _
  have bB : ¬ rb (V h s) = some b := fun e => by
    have := ((q.row h s hk).lt e).1
    have := q.lt
    omega
  have h2 : w2.heap[b]? = some (.map es1 clock1) := by rw [k2.block b (by simpa [setBlock] using hlt) bB]; exact h1
  obtain ⟨es', clock', hr3, hu⟩ := hst w2 v' h2
  obtain ⟨w', hu', ho', _⟩ := q.own.store keyedQ Try.underlying50 hn (key_of hk) (val := v') (d := .held v') (ps := []) rfl
  rw [hu] at hu'
  have hw' : setBlock w b (.map es' clock') = w' := by injection hu'
  rw [← hw'] at ho'
  obtain ⟨es'', clock'', hh, rest⟩ := ho'
  rw [heap_setBlock_same hb] at hh
  have hh' : es' = es'' ∧ clock' = clock'' := by simpa using hh
  obtain ⟨rfl, rfl⟩ := hh'
  refine ⟨_, hr3, q.put hk (((kept_setBlock hb _).trans k2).mono (fun g _ hg => hg)) v' zs hz r hl (kept_setBlock h2 _) ⟨es', clock', heap_setBlock_same h2 _, rest⟩, kept_setBlock h2 _⟩

/-- 'm[k] = v'. -/
theorem QM.store {w w2 : World} {B b n : Nat} {Q : Int → Int → List Nat} {D : DataW Value} {V : Int → Int → Value} (q : QM w B b n Q D V) {h s : Int} (hk : OkK h s) (hn : n < maxLen) (k : Kept (fun g => rb (V h s) = some g) w w2) (v' : Value) (zs : List Nat) (hz : zs ≠ [])
    (r : RowO w2 B 3 1 v' zs.length (qCells zs)) (hl : rb v' = none ∨ rb v' = rb (V h s) ∨ ∃ g, rb v' = some g ∧ w.heap.size ≤ g) :
    ∃ w3, (Instr.mapUpdate 50 (.map (some b)) (kval h s) v').run Try.prog w2 = .ok () w3 ∧ QM w3 B b (n + 1) (upd Q h s zs) (D.put (klq h s) (.held v')) (upd V h s v') ∧ Kept (fun g => g = b) w2 w3 := by
  have bB : ¬ rb (V h s) = some b := fun e => by
    have := ((q.row h s hk).lt e).1
    have := q.lt
    omega
  have o2 := ownsMap_kept q.own k bB
  obtain ⟨w3, hr, ho, ht⟩ := o2.store keyedQ Try.underlying50 hn (key_of hk) (val := v') (d := .held v') (ps := []) rfl
  have g := ht.grown
  have k3 : Kept (fun g => g = b) w2 w3 := ⟨g.os, g.tape, g.output, g.size, fun i hi hne => g.block i hi (fun e => hne (by cases e; rfl))⟩
  exact ⟨w3, hr, q.put hk (k.mono (fun g _ hg => Or.inr hg)) v' zs hz r hl k3 ho, k3⟩

/-- 'delete(m, k)'. -/
theorem QM.drop {w w2 : World} {B b n : Nat} {Q : Int → Int → List Nat} {D : DataW Value} {V : Int → Int → Value} (q : QM w B b n Q D V) {h s : Int} (hk : OkK h s) (k : Kept (fun g => rb (V h s) = some g) w w2) (ty : TypeId) :
    ∃ w3, (Builtin.delete_ #[50, 53] ty #[.map (some b), kval h s]).run Try.prog w2 = .ok (.tuple #[]) w3 ∧ QM w3 B b n (upd Q h s []) (D.del (klq h s)) (upd V h s nilv) ∧ Kept (fun g => g = b) w2 w3 := by
  have rB : ∀ {h' s' g}, OkK h' s' → rb (V h' s') = some g → g ≠ b := fun {h' s' g} hk' hg e => by
    have := ((q.row h' s' hk').lt hg).1
    have := q.lt
    omega
  have o2 := ownsMap_kept q.own k (fun e => rB hk e rfl)
  obtain ⟨w3, hr, ho, ht⟩ := o2.drop keyedQ Try.underlying50 (key_of hk) ty
  have g := ht.grown
  have k3 : Kept (fun g => g = b) w2 w3 := ⟨g.os, g.tape, g.output, g.size, fun i hi hne => g.block i hi (fun e => hne (by cases e; rfl))⟩
  refine ⟨w3, hr, ⟨ho, q.lt, fun h' s' hk' => ?_, fun h' s' hk' => ?_, fun h' s' hk' => ?_, fun h1 s1 h2 s2 hk1 hk2 hne g h3 => ?_, fun l hl' => ?_⟩, k3⟩
  · by_cases e : h' = h ∧ s' = s
    · obtain ⟨rfl, rfl⟩ := e
      rw [upd_same, has_del_same]
      simp
    · rw [upd_other _ _ e, has_del_other (fun e' => e (klq_inj hk' hk e'))]
      exact q.has h' s' hk'
  · by_cases e : h' = h ∧ s' = s
    · obtain ⟨rfl, rfl⟩ := e
      rw [upd_same, atKey_del_same]
    · rw [upd_other _ _ e, atKey_del_other (fun e' => e (klq_inj hk' hk e'))]
      exact q.at_ h' s' hk'
  · by_cases e : h' = h ∧ s' = s
    · obtain ⟨rfl, rfl⟩ := e
      rw [upd_same, upd_same]
      exact Or.inl ⟨none, rfl, rfl, rfl⟩
    · rw [upd_other _ _ e, upd_other _ _ e]
      exact ((q.row h' s' hk').kept k (fun g hg hx => q.apart h' s' h s hk' hk e g hg hx)).kept k3 (fun g hg => rB hk' hg)
  · by_cases e1 : h1 = h ∧ s1 = s
    · obtain ⟨rfl, rfl⟩ := e1
      rw [upd_same] at h3
      simp [rb, nilv] at h3
    · rw [upd_other _ _ e1] at h3
      by_cases e2 : h2 = h ∧ s2 = s
      · obtain ⟨rfl, rfl⟩ := e2
        rw [upd_same]
        simp [rb, nilv]
      · rw [upd_other _ _ e2]
        exact q.apart h1 s1 h2 s2 hk1 hk2 hne g h3
  · by_cases e : l = klq h s
    · rw [e, has_del_same] at hl'; cases hl'
    · rw [has_del_other e] at hl'
      exact q.only l hl'

end Go.Proofs.Ytbnmcbbpbiofgaa.Mem

namespace Go.Proofs.Ytbnmcbbpbiofgaa.Mem
open Go.RowKit
set_option linter.unusedVariables false

/-- The numbers of the first k writes that are one host's to one sector. -/
def qAt (l : List Wt) (k : Nat) (h s : Int) : List Nat := (List.range k).filter (fun i => decide ((l.getD i Wt.none).host = h ∧ (l.getD i Wt.none).sector = s))

theorem qAt_zero (l : List Wt) : qAt l 0 = fun _ _ => [] := by funext h s; rfl
theorem qAt_succ (l : List Wt) (k : Nat) : qAt l (k + 1) = upd (qAt l k) (l.getD k Wt.none).host (l.getD k Wt.none).sector (qAt l k (l.getD k Wt.none).host (l.getD k Wt.none).sector ++ [k]) := by
  funext h s
  unfold upd qAt
  rw [List.range_succ, List.filter_append]
  by_cases e : h = (l.getD k Wt.none).host ∧ s = (l.getD k Wt.none).sector
  · rw [if_pos e]
    obtain ⟨rfl, rfl⟩ := e
    simp
  · rw [if_neg e]
    have : decide ((l.getD k Wt.none).host = h ∧ (l.getD k Wt.none).sector = s) = false := decide_eq_false (fun q => e ⟨q.1.symm, q.2.symm⟩)
    simp only [List.filter_cons, this, List.filter_nil]
    simp
theorem qAt_len (l : List Wt) (k : Nat) (h s : Int) : (qAt l k h s).length ≤ k := by
  unfold qAt
  have := List.length_filter_le (fun i => decide ((l.getD i Wt.none).host = h ∧ (l.getD i Wt.none).sector = s)) (List.range k)
  simpa using this

theorem qCells_snoc (l : List Nat) (x : Nat) : qCells (l ++ [x]) = qCells l ++ [.int .i64 (x : Int)] := by simp [qCells]
theorem qCells_length (l : List Nat) : (qCells l).length = l.length := by simp [qCells]

/-- Three blocks laid one behind the other. -/
theorem three_any (w : World) (xs ys zs : List Value) (t u r : TypeId) :
    ∃ wc, ((w.alloc (.cells xs.toArray t)).alloc (.cells ys.toArray u)).alloc (.cells zs.toArray r) = wc ∧ wc.heap.size = w.heap.size + 1 + 1 + 1 ∧ Row wc (w.heap.size + 1 + 1) zs ∧ Below w.heap.size w wc := by
  have e0 : (w.alloc (.cells xs.toArray t)).heap.size = w.heap.size + 1 := by simp
  have e1 : ((w.alloc (.cells xs.toArray t)).alloc (.cells ys.toArray u)).heap.size = w.heap.size + 1 + 1 := by simp
  have r2 := Row.new ((w.alloc (.cells xs.toArray t)).alloc (.cells ys.toArray u)) zs r
  rw [e1] at r2
  exact ⟨_, rfl, by simp, r2, (((Below.refl _ _).alloc (Nat.le_refl _) _).alloc (by omega) _).alloc (by omega) _⟩

set_option maxRecDepth 100000 in
set_option maxHeartbeats 2000000 in
theorem queuesOf (w : World) (a : Option Addr) (cap : Nat) (l : List Wt) (S : Wts w a l) (hl : l.length ≤ 40) (hk : ∀ j, j < l.length → OkK (l.getD j Wt.none).host (l.getD j Wt.none).sector) :
    Calls Try.prog 21 #[.slice a l.length cap] w fun e w' => e = .returned (.map (some w.heap.size)) ∧ (∃ n D V, n ≤ 40 ∧ QM w' (w.heap.size + 1) w.heap.size n (qAt l l.length) D V) ∧ Below w.heap.size w w' := by
  have HS := hid S
  have HK := hid hk
  clear S hk
  have hmm := @run_makeMap Try.prog
  obtain ⟨wm, hwm⟩ : ∃ wm, w.alloc (.map #[] 0) = wm := ⟨_, rfl⟩
  have HM : Hid (QM wm (w.heap.size + 1) w.heap.size 0 (fun _ _ => []) (.map []) (fun _ _ => nilv)) := by rw [← hwm]; exact QM.made w
  have HB : Hid (Below w.heap.size w wm) := by rw [← hwm]; exact (Below.refl _ _).alloc (Nat.le_refl _) _
  have HZ : Hid (wm.heap.size = w.heap.size + 1) := by rw [← hwm]; exact (by simp : (w.alloc (.map #[] 0)).heap.size = w.heap.size + 1)
  go_enter Try.func21, Try.ntmps21
  go_wp2
  clear hwm hmm
  go_loopw [10] (fun i wr => ∃ k : Nat, k ≤ l.length ∧ i = .int .i64 (k : Int) ∧ Hid (∃ D V, QM wr (w.heap.size + 1) w.heap.size k (qAt l k) D V) ∧ Hid (Below w.heap.size w wr) ∧ Hid (w.heap.size + 1 ≤ wr.heap.size)) (fun i _ => l.length - (intOf i).toNat)
  case atStart => exact ⟨0, Nat.zero_le _, rfl, ⟨_, _, by rw [qAt_zero]; exact HM.out⟩, HB.out, by rw [HZ.out]; exact Nat.le_refl _⟩
  case round =>
    obtain ⟨k, hk, rfl, HQ, HBw, HZw⟩ := hrel
    by_cases hlt : k < l.length
    · obtain ⟨D, V, hq⟩ := HQ.out
      have hkk := HK.out k hlt
      have hsu := hid (qAt_succ l k)
      obtain ⟨b, off, rfl, x0, x1, x2, x3⟩ := Wts.at_ (HS.out.below HBw.out) k hlt
      generalize hx : l.getD k Wt.none = x at *
      obtain ⟨xh, xe, xs, xt⟩ := x
      simp only [] at x0 x1 x2 x3 hkk hsu
      obtain ⟨wc, hwc, ec, R2, Bc⟩ := three_any wr [.int .i64 xh, .int .i64 xe, .int .i64 xs, .string xt] [.int .i64 xh, .int .i64 xs] [.int .i64 (k : Int)] 36 53 3
      have hqc := hq.below Bc
      obtain ⟨st, w1, hen, k1, e1, hst⟩ := hqc.entry hkk (by unfold maxLen; omega)
      have hrow := hid ((hqc.row xh xs hkk).kept k1 (fun g hg e => by have := ((hqc.row xh xs hkk).lt hg).1; have := hqc.lt; omega))
      obtain ⟨pa, pc, pe, _⟩ := (hqc.row xh xs hkk).wr
      have hql := qAt_len l k xh xs
      have hlies := hid (show w.heap.size + 1 ≤ w1.heap.size from by rw [e1, ec]; have := HZw.out; omega)
      have R2' := R2.kept k1 (by have := HZw.out; omega)
      have HSl : Hid (Sl w1 (some ⟨wr.heap.size + 1 + 1, 0, none⟩) (1 * 1) (fun i => [Value.int .i64 (k : Int)].getD i undef)) := fun i hi => by
        have : i = 0 := by omega
        subst this
        exact ⟨_, _, rfl, R2'.c 0 rfl⟩
      have HST := hid hst
      have HB1 := hid ((HBw.out.trans (Bc.mono HBw.out.size)).trans (k1.below (by have := HBw.out.size; have := Bc.size; omega) (fun c hc e => by omega)))
      have HE1 := hid e1
      rw [show V xh xs = .slice pa (qAt l k xh xs).length pc from pe] at hen hrow HST
      have hPE := hid pe
      replace hen : (Instr.mapEntry 50 (.map (some w.heap.size)) (.agg #[.int .i64 xh, .int .i64 xs])).run Try.prog wc = .ok (.tuple #[.slice pa (qAt l k xh xs).length pc, .int .i64 (st : Int)]) w1 := hen
      have HQC := hid hqc
      have HBC := hid Bc
      have HEC := hid ec
      clear hq hqc hst Bc R2 R2' k1 pe e1 ec
      generalize hZ : qAt l k xh xs = Z at *
      have HZ1 := hid hZ
      clear hZ
      go_wp2_with (at_builtin; refine wpList_app 25 3 (.int .i64 0) 1 8 Try.underlying25 info3' rfl (by decide) (by decide) _ rfl (.tmp 22) (.tmp 24) rfl (w.heap.size + 1) _ Z.length (qCells Z) rfl hrow.out ⟨wr.heap.size + 1 + 1, 0, none⟩ 1 1 [.int .i64 (k : Int)] rfl rfl HSl.out (by intro u hu; simp at hu; subst hu; rfl) (by omega) hlies.out ?_; intro v' w2 r' kk hi; obtain ⟨y, c', e', _⟩ := r'.wr; subst e'; obtain ⟨w3, hr3, q3, k3⟩ := HST.out w2 (.slice y (Z.length + 1) c') (Z ++ [k]) (by simp) kk (by rw [List.length_append]; rw [qCells_snoc]; exact r') (by rcases hi with h | h | h; exact Or.inl h; exact Or.inr (Or.inl h); exact Or.inr (Or.inr ⟨_, h.1, Nat.le_of_eq HE1.out.symm⟩)); replace hr3 : (Instr.entryStore 50 (.map (some w.heap.size)) (.int .i64 (st : Int)) (.slice y (Z.length + 1) c')).run Try.prog w2 = .ok () w3 := hr3; have HQ3 := hid q3; have HK3 := hid k3; have HKK := hid kk; clear r' kk hi q3 k3)
      have s2 := HKK.out.size
      have s3 := HK3.out.size
      have s1 := hlies.out
      exact ⟨⟨k + 1, by omega, by go_num, ⟨_, _, by rw [hsu.out]; exact HQ3.out⟩, (HB1.out.trans (HKK.out.below HB1.out.size (fun g hg e => by have := (hrow.out.lt e).1; omega))).trans (HK3.out.below (Nat.le_trans HB1.out.size s2) (fun g hg e => by omega)), hid (by omega)⟩, by simp [intOf]; omega⟩
    obtain rfl : k = l.length := by omega
    go_wp2
    go_ret
    obtain ⟨D, V, hq⟩ := HQ.out
    exact ⟨rfl, ⟨_, _, _, hl, hq⟩, HBw.out⟩

end Go.Proofs.Ytbnmcbbpbiofgaa.Mem

namespace Go.Proofs.Ytbnmcbbpbiofgaa.Mem
open Go.RowKit

/-- A world in which nothing that was there in wa has turned. -/
structure BW (wa : World) : Type where
  val : World
  bel : Below wa.heap.size wa val

theorem BW.cell {wa : World} {p : Addr} {v : Value} (h : wa.cell? p = some v) (u : BW wa) : u.val.cell? p = some v :=
  (u.bel.cell (World.block_lt_of_cell? wa _ h)).trans h

theorem wp_region_bw {P : Program} {id : Nat} {Q : Exit → Act → World → Prop} {a : Act} {wa : World} {l : List Oper} (hm : P.follows .mixedOrders = true) (hB : Region.lexB .any l.toArray = true)
    (h : wpQuiet P l.toArray (fun w' => ∃ u : BW wa, w' = u.val) (fun a' => ∀ w', (∃ u : BW wa, w' = u.val) → Q .normal a' w') l a) : (Code.region id l.toArray true).wp P Q a wa :=
  wp_region_quiet (C := fun w' => ∃ u : BW wa, w' = u.val) hm hB ⟨⟨wa.drew, (Below.refl _ wa).drew⟩, rfl⟩ (by simpa using h)

theorem bw_same {P : Program} {f : FuncId} {args : Array Value} {wa : World} {u : BW wa} {v : Value} (h : Calls P f args u.val fun e w' => e = .returned v ∧ w' = u.val) :
    Calls P f args u.val fun e w'' => e = .returned v ∧ ∃ u' : BW wa, w'' = u'.val := h.mono fun _ _ ⟨he, hm⟩ => ⟨he, u, hm⟩

theorem bw_below {P : Program} {f : FuncId} {args : Array Value} {wa : World} {u : BW wa} {v : Value} (h : Calls P f args u.val fun e w' => e = .returned v ∧ Below u.val.heap.size u.val w') :
    Calls P f args u.val fun e w'' => e = .returned v ∧ ∃ u' : BW wa, w'' = u'.val := h.mono fun _ w' ⟨he, hm⟩ => ⟨he, ⟨w', u.bel.trans (hm.mono u.bel.size)⟩, rfl⟩

end Go.Proofs.Ytbnmcbbpbiofgaa.Mem

namespace Go.Proofs.Ytbnmcbbpbiofgaa.Mem
open Go.RowKit
set_option linter.unusedVariables false

set_option maxRecDepth 100000 in
set_option maxHeartbeats 2000000 in
theorem implDiskOk (w : World) (v : Value) (D : Dk) (h : DkR w v D) (hd : D.Held) :
    Calls Try.prog 18 #[v] w fun e w' => e = .returned (.bool D.right) ∧ Below w.heap.size w w' := by
  obtain ⟨a1, c1, a2, c2, a3, c3, rfl, s1, s2, s3⟩ := h
  obtain ⟨l1, l2, l3⟩ := D
  have HS1 := hid s1
  have HS2 := hid s2
  have HS3 := hid s3
  have d1 : l1.length ≤ 9223372036854775807 := hd.h1
  have d2 : l2.length ≤ 9223372036854775807 := hd.h2
  have d3 : l3.length ≤ 9223372036854775807 := hd.h3
  have HD := hid hd
  clear s1 s2 s3 hd
  simp only []
  have no : ¬ (Dk.mk l1 l2 l3).Right → (Dk.mk l1 l2 l3).right = false := Dk.right_no
  have yes : (Dk.mk l1 l2 l3).Right → (Dk.mk l1 l2 l3).right = true := Dk.right_yes
  generalize (Dk.mk l1 l2 l3).right = q at *
  have HN := hid no
  have HY := hid yes
  clear no yes
  go_enter Try.func18, Try.ntmps18
  obtain ⟨w1, hwb, ez, A0, B0⟩ := one_new w [.slice a1 l1.length c1, .slice a2 l2.length c2, .slice a3 l3.length c3] 28
  have HB := hid B0
  have HA := hid A0
  have k1 := A0.c 1 rfl
  have k2 := A0.c 2 rfl
  have k0 := A0.c 0 rfl
  clear A0 B0
  by_cases g1 : (l1.length : Int) < 1
  · have HN := hid (HN.out (by intro x; have := x.n1; simp only [] at *; omega))
    go_wp2
    go_ret
    exact ⟨by rw [HN.out]; rfl, HB.out⟩
  by_cases g1b : 40 < (l1.length : Int)
  · have HN := hid (HN.out (by intro x; have := x.n2; simp only [] at *; omega))
    go_wp2
    go_ret
    exact ⟨by rw [HN.out]; rfl, HB.out⟩
  by_cases g2 : ¬ (l2.length : Int) = 3
  · have HN := hid (HN.out (by intro x; have := x.e3; simp only [] at *; omega))
    go_wp2
    go_ret
    exact ⟨by rw [HN.out]; rfl, HB.out⟩
  replace g2 := Classical.not_not.mp g2
  by_cases g3 : 40 < (l3.length : Int)
  · have HN := hid (HN.out (by intro x; have := x.p40; simp only [] at *; omega))
    go_wp2
    go_ret
    exact ⟨by rw [HN.out]; rfl, HB.out⟩
  go_wp2
  clear hwb
  go_loop [34] (fun i => ∃ k : Nat, k ≤ l1.length ∧ i = .int .i64 (k : Int) ∧ Hid (∀ j, j < k → ((l1.getD j ByteArray.empty).size : Int) ≤ 700)) (fun i => l1.length - (intOf i).toNat)
  case atStart => exact ⟨0, Nat.zero_le _, rfl, fun j hj => by omega⟩
  case round =>
    obtain ⟨k, hk, rfl, HJ⟩ := hrel
    by_cases hlt : k < l1.length
    · obtain ⟨b, off, rfl, hc⟩ := (HS1.out.below HB.out) k hlt
      replace hc : w1.cell? ⟨b, off + k, none⟩ = some (.string (l1.getD k ByteArray.empty)) := hc
      generalize hx : l1.getD k ByteArray.empty = x at hc
      have HX := hid hx
      clear hx
      go_wp2_with fail
      refine (fitsSector x w1).mono ?_
      rintro e w1' ⟨rfl, hw⟩
      subst hw
      by_cases hn : (x.size : Int) ≤ 700
      · have hn' := decide_eq_true hn
        go_wp2
        exact ⟨⟨k + 1, by omega, by go_num, fun j hj => by
          by_cases h : j = k
          · subst h; rw [HX.out]; exact hn
          · exact HJ.out j (by omega)⟩, by simp [intOf]; omega⟩
      · have hn' := decide_eq_false hn
        have HN := hid (HN.out (by intro q; have := q.s k hlt; simp only [HX.out] at this; exact hn this))
        clear hn
        go_wp2
        go_ret
        exact ⟨by rw [HN.out]; rfl, HB.out⟩
    obtain rfl : k = l1.length := by omega
    go_wp2
    go_loop [45] (fun i => ∃ k : Nat, k ≤ l2.length ∧ i = .int .i64 (k : Int) ∧ Hid (∀ j, j < k → 1 ≤ l2.getD j 0 ∧ l2.getD j 0 ≤ 100000)) (fun i => l2.length - (intOf i).toNat)
    case atStart => exact ⟨0, Nat.zero_le _, rfl, fun j hj => by omega⟩
    case round =>
      obtain ⟨k, hk, rfl, HE⟩ := hrel
      by_cases hlt : k < l2.length
      · obtain ⟨b, off, rfl, hc⟩ := (HS2.out.below HB.out) k hlt
        replace hc : w1.cell? ⟨b, off + k, none⟩ = some (.int .i64 (l2.getD k 0)) := hc
        generalize hx : l2.getD k 0 = x at hc
        have HX := hid hx
        clear hx
        by_cases hn : x < 1
        · have HN := hid (HN.out (by intro q; have := q.e k hlt; simp only [HX.out] at this; omega))
          go_wp2
          go_ret
          exact ⟨by rw [HN.out]; rfl, HB.out⟩
        by_cases hm : 100000 < x
        · have HN := hid (HN.out (by intro q; have := q.e k hlt; simp only [HX.out] at this; omega))
          go_wp2
          go_ret
          exact ⟨by rw [HN.out]; rfl, HB.out⟩
        go_wp2
        exact ⟨⟨k + 1, by omega, by go_num, fun j hj => by
          by_cases h : j = k
          · subst h; rw [HX.out]; omega
          · exact HE.out j (by omega)⟩, by simp [intOf]; omega⟩
      obtain rfl : k = l2.length := by omega
      go_wp2
      go_loopw [59] (fun i wr => ∃ k : Nat, k ≤ l3.length ∧ i = .int .i64 (k : Int) ∧ Hid (∀ j, j < k → (l3.getD j Wt.none).okIn (Dk.mk l1 l2 l3)) ∧ Hid (Below w1.heap.size w1 wr)) (fun i _ => l3.length - (intOf i).toNat)
      case atStart => exact ⟨0, Nat.zero_le _, rfl, fun j hj => by omega, Below.refl _ _⟩
      case round =>
        obtain ⟨k, hk, rfl, HP, HB'⟩ := hrel
        have A0 := HA.out.below HB'.out HA.out.lt
        have HBw := hid (HB.out.trans (HB'.out.mono HB.out.size))
        have m0 := A0.c 0 rfl
        have m1 := A0.c 1 rfl
        have m2 := A0.c 2 rfl
        by_cases hlt : k < l3.length
        · obtain ⟨b, off, rfl, x0, x1, x2, x3⟩ := Wts.at_ (HS3.out.below HBw.out) k hlt
          generalize hx : l3.getD k Wt.none = x at x0 x1 x2 x3
          have HX := hid hx
          clear hx
          have HA' := hid A0
          clear A0
          obtain ⟨xh, xe, xs, xt⟩ := x
          simp only [] at x0 x1 x2 x3
          go_wp2
          obtain ⟨wa, hwa, ea, R0, B0⟩ := one_new wr [.int .i64 xh, .int .i64 xe, .int .i64 xs, .string xt] 36
          simp only [hwa]
          clear hwa
          have HB1 := hid (HB'.out.trans (B0.mono HB'.out.size))
          have HBw1 := hid (HB.out.trans (HB1.out.mono HB.out.size))
          replace m0 := (HA'.out.below B0 HA'.out.lt).c 0 rfl
          replace m1 := (HA'.out.below B0 HA'.out.lt).c 1 rfl
          replace m2 := (HA'.out.below B0 HA'.out.lt).c 2 rfl
          have y0 := R0.c 0 rfl
          have y1 := R0.c 1 rfl
          have y2 := R0.c 2 rfl
          have y3 := R0.c 3 rfl
          clear x0 x1 x2 x3 k0 k1 k2 B0 R0 ea
          by_cases q1 : ¬ (0 ≤ xh ∧ xh < 3)
          · have q1' := decide_eq_false q1
            have HN := hid (HN.out (by intro q; have := (q.p k hlt).1; simp only [HX.out] at this; exact q1 this))
            clear q1
            go_quiet ((go_at_call 30; refine Calls.quiet_of_same (isHost _ _)))
            go_wp2
            go_ret
            exact ⟨by rw [HN.out]; rfl, below_drewN HBw1.out _⟩
          replace q1 := Classical.not_not.mp q1
          have q1' := decide_eq_true q1
          have HQ1 := hid q1
          obtain ⟨n, rfl⟩ : ∃ n : Nat, xh = (n : Int) := Int.eq_ofNat_of_zero_le q1.1
          have hn3 : (n : Int) < 3 := q1.2
          clear q1
          obtain ⟨b2, o2, rfl, hc⟩ := (HS2.out.below HBw1.out) n (by omega)
          replace hc : wa.cell? ⟨b2, o2 + n, none⟩ = some (.int .i64 (l2.getD n 0)) := hc
          generalize hy : l2.getD n 0 = y at hc
          have HYE := hid hy
          clear hy
          by_cases q2 : ¬ xe = y
          · have q2' := decide_eq_false q2
            have HN := hid (HN.out (by intro q; have := (q.p k hlt).2.1; simp only [HX.out, Int.toNat_natCast, HYE.out] at this; exact q2 this))
            go_quiet ((go_at_call 30; refine Calls.quiet_of_same (isHost _ _)))
            go_wp2
            go_ret
            exact ⟨by rw [HN.out]; rfl, below_drewN HBw1.out _⟩
          obtain rfl := Classical.not_not.mp q2
          clear q2
          replace m0 := BW.cell m0
          replace m1 := BW.cell m1
          replace m2 := BW.cell m2
          replace y0 := BW.cell y0
          replace y1 := BW.cell y1
          replace y2 := BW.cell y2
          replace y3 := BW.cell y3
          replace hc := BW.cell hc
          have hne : Nonempty (BW wa) := ⟨⟨wa, Below.refl _ _⟩⟩
          have q0 : (0 : Int) ≤ (n : Int) := Int.natCast_nonneg n
          have q00 : (n : Int) < (l2.length : Int) := by omega
          by_cases q3 : ¬ (0 ≤ xs ∧ xs < (l1.length : Int))
          · have q3' := decide_eq_false q3
            have HN := hid (HN.out (by intro q; have := (q.p k hlt).2.2.1; have := (q.p k hlt).2.2.2.1; simp only [HX.out] at *; exact q3 ⟨by assumption, by assumption⟩))
            clear q3
            refine wp_region_bw (by kernel_rfl) (by kernel_rfl) ?_
            repeat (go_big_quiet_step (first
              | (go_at_call 30; refine bw_same (isHost _ _))
              | (go_at_call 29; refine bw_same (fitsSector _ _))
              | (go_at_call 31; refine bw_below (isSector _ _ _ _ _ _ _ rfl _))))
            refine wpQuiet_nil ?_
            intro _ hw'
            obtain ⟨u, hw''⟩ := hw'
            subst hw''
            go_wp2
            go_ret
            exact ⟨by rw [HN.out]; rfl, HBw1.out.trans (u.bel.mono HBw1.out.size)⟩
          replace q3 := Classical.not_not.mp q3
          have q3' := decide_eq_true q3
          have HQ3 := hid q3
          clear q3
          by_cases q5 : ¬ (xt.size : Int) ≤ 700
          · have q5' := decide_eq_false q5
            have HN := hid (HN.out (by intro q; have := (q.p k hlt).2.2.2.2; simp only [HX.out] at this; exact q5 this))
            clear q5
            refine wp_region_bw (by kernel_rfl) (by kernel_rfl) ?_
            repeat (go_big_quiet_step (first
              | (go_at_call 30; refine bw_same (isHost _ _))
              | (go_at_call 29; refine bw_same (fitsSector _ _))
              | (go_at_call 31; refine bw_below (isSector _ _ _ _ _ _ _ rfl _))))
            refine wpQuiet_nil ?_
            intro _ hw'
            obtain ⟨u, hw''⟩ := hw'
            subst hw''
            go_wp2
            go_ret
            exact ⟨by rw [HN.out]; rfl, HBw1.out.trans (u.bel.mono HBw1.out.size)⟩
          replace q5 := Classical.not_not.mp q5
          have q5' := decide_eq_true q5
          have HQ5 := hid q5
          clear q5
          refine wp_region_bw (by kernel_rfl) (by kernel_rfl) ?_
          repeat (go_big_quiet_step (first
            | (go_at_call 30; refine bw_same (isHost _ _))
            | (go_at_call 29; refine bw_same (fitsSector _ _))
            | (go_at_call 31; refine bw_below (isSector _ _ _ _ _ _ _ rfl _))))
          refine wpQuiet_nil ?_
          intro _ hw'
          obtain ⟨u, hw''⟩ := hw'
          subst hw''
          go_wp2
          exact ⟨⟨k + 1, by omega, by go_num, fun j hj => by
            by_cases h : j = k
            · subst h
              rw [HX.out]
              exact ⟨HQ1.out, by simpa using HYE.out.symm, HQ3.out.1, HQ3.out.2, HQ5.out⟩
            · exact HP.out j (by omega), HB1.out.trans (u.bel.mono HB1.out.size)⟩, by simp [intOf]; omega⟩
        obtain rfl : k = l3.length := by omega
        have HY := hid (HY.out ⟨by show 1 ≤ l1.length; omega, by show l1.length ≤ 40; omega, by show l2.length = 3; omega, by show l3.length ≤ 40; omega, HJ.out, HE.out, HP.out⟩)
        go_wp2
        go_ret
        exact ⟨by rw [HY.out]; rfl, HBw.out⟩

end Go.Proofs.Ytbnmcbbpbiofgaa.Mem

namespace Go.Proofs.Ytbnmcbbpbiofgaa.Mem
open Go.RowKit
set_option linter.unusedVariables false

/-- What a host sees is the last of its writes, or what stands. -/
theorem see_q (D : Dk) (h s : Int) : ∀ k, D.see h s k = match (qAt D.pe k h s).getLast? with | some i => (D.pe.getD i Wt.none).text | none => D.sec.getD s.toNat ByteArray.empty
  | 0 => rfl
  | k + 1 => by
    have e := congrFun (congrFun (qAt_succ D.pe k) h) s
    have ih := see_q D h s k
    show (if (D.pe.getD k Wt.none).host = h ∧ (D.pe.getD k Wt.none).sector = s then (D.pe.getD k Wt.none).text else D.see h s k) = _
    by_cases c : (D.pe.getD k Wt.none).host = h ∧ (D.pe.getD k Wt.none).sector = s
    · rw [if_pos c, e, ← c.1, ← c.2, upd_same]
      simp
    · rw [if_neg c, e, upd_other _ _ (fun q => c ⟨q.1.symm, q.2.symm⟩)]
      exact ih

theorem qAt_mem {l : List Wt} {k : Nat} {h s : Int} {i : Nat} (hi : i ∈ qAt l k h s) : i < k ∧ (l.getD i Wt.none).host = h ∧ (l.getD i Wt.none).sector = s := by
  unfold qAt at hi
  obtain ⟨h1, h2⟩ := List.mem_filter.1 hi
  have := of_decide_eq_true h2
  exact ⟨by simpa using h1, this.1, this.2⟩

theorem Dk.Right.okK {D : Dk} (h : D.Right) : ∀ j, j < D.pe.length → OkK (D.pe.getD j Wt.none).host (D.pe.getD j Wt.none).sector := fun j hj => by
  have := h.p j hj
  have h2 := h.n2
  exact ⟨this.1, this.2.2.1, by have := this.2.2.2.1; omega⟩

/-- Cell i of a queue. -/
theorem q_cell {w : World} {B : Nat} {v : Value} {l : List Nat} {g n cap : Nat} (r : RowO w B 3 1 v l.length (qCells l)) (hv : v = .slice (some ⟨g, 0, none⟩) n cap) (i : Nat) (hi : i < l.length) : w.cell? ⟨g, i, none⟩ = some (.int .i64 ((l.getD i 0 : Nat) : Int)) := by
  obtain ⟨a, c, e, hw⟩ := r.wr
  rw [hv] at e
  cases e
  obtain ⟨b, off, e2, _, hc, _⟩ := hw i (by omega)
  cases e2
  rw [Nat.zero_add] at hc
  rw [hc]
  unfold qCells
  simp [List.getD, hi]

end Go.Proofs.Ytbnmcbbpbiofgaa.Mem

namespace Go.Proofs
open Go.Shelf
def Try.lays189_ren : Go.Shelf.Ren := ⟨fun | 189 => 33 | 125 => 43 | 257 => 42 | 128 => 55 | 129 => 56 | 294 => 46 | 295 => 47 | 296 => 48 | 297 => 49 | 298 => 50 | 299 => 51 | 216 => 52 | 300 => 53 | 301 => 54 | 328 => 57 | 329 => 58 | 330 => 59 | 331 => 60 | 332 => 61 | 215 => 62 | 343 => 63 | n => n, fun | 28 => 25 | 3 => 3 | 46 => 72 | 0 => 0 | 51 => 85 | 53 => 87 | 4 => 4 | 183 => 77 | 182 => 76 | 131 => 82 | 5 => 5 | 9 => 9 | 218 => 88 | 222 => 92 | 228 => 94 | 229 => 95 | n => n, fun | n => n⟩
theorem Try.lays189 : Go.Proofs.Lays.n189 Try.prog Try.lays189_ren := {
  mixed := by kernel_rfl
  f125 := Try.func43.trans (congrArg some (by kernel_rfl))
  f128 := Try.func55.trans (congrArg some (by kernel_rfl))
  f129 := Try.func56.trans (congrArg some (by kernel_rfl))
  f189 := Try.func33.trans (congrArg some (by kernel_rfl))
  f215 := Try.func62.trans (congrArg some (by kernel_rfl))
  f216 := Try.func52.trans (congrArg some (by kernel_rfl))
  f257 := Try.func42.trans (congrArg some (by kernel_rfl))
  f294 := Try.func46.trans (congrArg some (by kernel_rfl))
  f295 := Try.func47.trans (congrArg some (by kernel_rfl))
  f296 := Try.func48.trans (congrArg some (by kernel_rfl))
  f297 := Try.func49.trans (congrArg some (by kernel_rfl))
  f298 := Try.func50.trans (congrArg some (by kernel_rfl))
  f299 := Try.func51.trans (congrArg some (by kernel_rfl))
  f300 := Try.func53.trans (congrArg some (by kernel_rfl))
  f301 := Try.func54.trans (congrArg some (by kernel_rfl))
  f328 := Try.func57.trans (congrArg some (by kernel_rfl))
  f329 := Try.func58.trans (congrArg some (by kernel_rfl))
  f330 := Try.func59.trans (congrArg some (by kernel_rfl))
  f331 := Try.func60.trans (congrArg some (by kernel_rfl))
  f332 := Try.func61.trans (congrArg some (by kernel_rfl))
  f343 := Try.func63.trans (congrArg some (by kernel_rfl))
  t0 := Try.underlying0
  a0 := Try.isAgg0
  z0 := Try.sizeOf0
  v0 := Try.zeroValue0
  t3 := Try.underlying3
  a3 := Try.isAgg3
  z3 := Try.sizeOf3
  v3 := Try.zeroValue3
  t4 := Try.underlying4
  a4 := Try.isAgg4
  z4 := Try.sizeOf4
  v4 := Try.zeroValue4
  t5 := Try.underlying5
  a5 := Try.isAgg5
  z5 := Try.sizeOf5
  v5 := Try.zeroValue5
  t9 := Try.underlying9
  a9 := Try.isAgg9
  z9 := Try.sizeOf9
  v9 := Try.zeroValue9
  t28 := Try.underlying25
  a28 := Try.isAgg25
  z28 := Try.sizeOf25
  v28 := Try.zeroValue25
  t46 := Try.underlying72
  a46 := Try.isAgg72
  z46 := Try.sizeOf72
  v46 := Try.zeroValue72
  t51 := Try.underlying85
  a51 := Try.isAgg85
  z51 := Try.sizeOf85
  v51 := Try.zeroValue85
  t53 := Try.underlying87
  a53 := Try.isAgg87
  z53 := Try.sizeOf87
  v53 := Try.zeroValue87
  t131 := Try.underlying82
  a131 := Try.isAgg82
  z131 := Try.sizeOf82
  v131 := Try.zeroValue82
  t182 := Try.underlying76
  a182 := Try.isAgg76
  z182 := Try.sizeOf76
  v182 := Try.zeroValue76
  t183 := Try.underlying77
  a183 := Try.isAgg77
  z183 := Try.sizeOf77
  v183 := Try.zeroValue77
  t218 := Try.underlying88
  a218 := Try.isAgg88
  z218 := Try.sizeOf88
  v218 := Try.zeroValue88
  t222 := Try.underlying92
  a222 := Try.isAgg92
  z222 := Try.sizeOf92
  v222 := Try.zeroValue92
  t228 := Try.underlying94
  a228 := Try.isAgg94
  z228 := Try.sizeOf94
  v228 := Try.zeroValue94
  t229 := Try.underlying95
  a229 := Try.isAgg95
  z229 := Try.sizeOf95
  v229 := Try.zeroValue95 }
def Try.lays223_ren : Go.Shelf.Ren := ⟨fun | 23 => 32 | n => n, fun | 22 => 25 | 3 => 3 | 4 => 4 | 0 => 0 | n => n, fun | n => n⟩
theorem Try.lays223 : Go.Proofs.Lays2.n23 Try.prog Try.lays223_ren := {
  mixed := by kernel_rfl
  f23 := Try.func32.trans (congrArg some (by kernel_rfl))
  t0 := Try.underlying0
  a0 := Try.isAgg0
  z0 := Try.sizeOf0
  v0 := Try.zeroValue0
  t3 := Try.underlying3
  a3 := Try.isAgg3
  z3 := Try.sizeOf3
  v3 := Try.zeroValue3
  t4 := Try.underlying4
  a4 := Try.isAgg4
  z4 := Try.sizeOf4
  v4 := Try.zeroValue4
  t22 := Try.underlying25
  a22 := Try.isAgg25
  z22 := Try.sizeOf25
  v22 := Try.zeroValue25
  i3 := by kernel_rfl }
end Go.Proofs

namespace Go.Proofs.Ytbnmcbbpbiofgaa.Mem
open Go.RowKit Go.Sort
set_option linter.unusedVariables false

def zOf (l : List Nat) : List Int := l.map (fun (i : Nat) => (i : Int))
theorem zOf_length (l : List Nat) : (zOf l).length = l.length := by simp [zOf]
theorem qCells_zOf (l : List Nat) : qCells l = (zOf l).map (Value.int .i64) := by simp [qCells, zOf]

theorem QM.more {w : World} {B b n : Nat} {Q : Int → Int → List Nat} {D : DataW Value} {V : Int → Int → Value} (q : QM w B b n Q D V) : QM w B b (n + 1) Q D V := ⟨q.own.mono (Nat.le_succ _), q.lt, q.has, q.at_, q.row, q.apart, q.only⟩

/-- The block of a row that is not empty. -/
theorem RowO.block {w : World} {B : Nat} {e : TypeId} {g n c : Nat} {xs : List Value} (h : RowO w B e 1 (.slice (some ⟨g, 0, none⟩) n (c + 1)) n xs) :
    ∃ cur, w.heap[g]? = some (.cells cur e (0, 0)) ∧ B ≤ g ∧ n ≤ c + 1 ∧ c + 1 ≤ maxLen ∧ cur.size = (c + 1) * 1 ∧ cur.toList.take n = xs := by
  rcases h with ⟨_, e, _⟩ | ⟨h, _⟩
  · cases e
  · rcases h.2 with ⟨e, _⟩ | ⟨g', cap', cur, e, hB, hb, h1, h2, h3, h4⟩
    · cases e
    · cases e
      exact ⟨cur, hb, hB, h1, h2, h3, by simpa using h4⟩

theorem grow_nil (w : World) : grow w #[] = w := by cases w; simp [grow]

theorem kept_putRow (w : World) (g q : Nat) (d : Array Int) : Kept (fun b => b = g) w (putRow (Value.int .i64) (Sort.ahead w q) g 0 d) := by
  have h := grownBy_sortedI (w := w) (g := g) (n := q) (os := #[]) d
  have e : grow (putRow (Value.int .i64) (Sort.ahead w q) g 0 d) #[] = putRow (Value.int .i64) (Sort.ahead w q) g 0 d := grow_nil _
  rw [e] at h
  exact ⟨h.os, h.tape, h.output, h.size, fun k hk hn => h.block k hk (fun x => hn (by cases x; rfl))⟩

theorem zOf_erase (l : List Nat) (i : Nat) : (zOf l).take i ++ (zOf l).drop (i + 1) = zOf (l.eraseIdx i) := by
  rw [List.eraseIdx_eq_take_drop_succ]
  unfold zOf
  simp

/-- Behind a deletion. -/
theorem row_deleted {w : World} {B g c i q : Nat} {l : List Nat} (r : RowO w B 3 1 (.slice (some ⟨g, 0, none⟩) l.length (c + 1)) l.length (qCells l)) (hi : i < l.length) :
    RowO (putRow (Value.int .i64) (Sort.ahead w q) g 0 ((zOf l).take i ++ (zOf l).drop (i + 1) ++ List.replicate (i + 1 - i) 0).toArray) B 3 1 (.slice (some ⟨g, 0, none⟩) (l.length - 1) (c + 1)) (l.eraseIdx i).length (qCells (l.eraseIdx i)) := by
  obtain ⟨cur, hb, hB, h1, h2, h3, h4⟩ := r.block
  have hle : (l.eraseIdx i).length = l.length - 1 := List.length_eraseIdx_of_lt hi
  rw [zOf_erase]
  have hh := heap_sortedI (w := w) (g := g) (n := q) (os := #[]) (zOf (l.eraseIdx i) ++ List.replicate (i + 1 - i) 0).toArray hb
  have e : grow (putRow (Value.int .i64) (Sort.ahead w q) g 0 (zOf (l.eraseIdx i) ++ List.replicate (i + 1 - i) 0).toArray) #[] = putRow (Value.int .i64) (Sort.ahead w q) g 0 (zOf (l.eraseIdx i) ++ List.replicate (i + 1 - i) 0).toArray := grow_nil _
  rw [e] at hh
  have hlen : (zOf (l.eraseIdx i) ++ List.replicate (i + 1 - i) (0 : Int)).length = l.length := by
    rw [List.length_append, zOf_length, List.length_replicate, hle]
    omega
  have ht := take_putCellsI cur (zOf (l.eraseIdx i) ++ List.replicate (i + 1 - i) 0) (by rw [hlen, h3]; omega)
  refine Or.inr ⟨⟨by simp [qCells], Or.inr ⟨g, c + 1, _, by rw [hle], hB, hh, by omega, h2, by simp [putCells, h3], ?_⟩⟩, _, c, by rw [hle]⟩
  rw [hlen] at ht
  have : (putCells (Value.int .i64) 0 (zOf (l.eraseIdx i) ++ List.replicate (i + 1 - i) 0).toArray cur).toList.take (l.eraseIdx i).length = (((zOf (l.eraseIdx i) ++ List.replicate (i + 1 - i) 0).map (Value.int .i64))).take (l.eraseIdx i).length := by
    rw [← ht, List.take_take]
    congr 1
    omega
  rw [Nat.mul_one, this, List.map_append, qCells_zOf, List.take_append_of_le_length (by rw [List.length_map, zOf_length]; exact Nat.le_refl _), List.take_of_length_le (by rw [List.length_map, zOf_length]; exact Nat.le_refl _)]

theorem holds_row {w : World} {B g c : Nat} {l : List Nat} (r : RowO w B 3 1 (.slice (some ⟨g, 0, none⟩) l.length (c + 1)) l.length (qCells l)) : Holds (Value.int .i64) w g 0 (zOf l).toArray := by
  obtain ⟨cur, hb, hB, h1, h2, h3, h4⟩ := r.block
  exact holds_of_blockI hb (by rw [zOf_length, h4, qCells_zOf])

set_option maxRecDepth 100000 in
set_option maxHeartbeats 2000000 in
theorem take (w : World) (B b n : Nat) (Q : Int → Int → List Nat) (D : DataW Value) (V : Int → Int → Value) (q : QM w B b n Q D V) (h s : Int) (hk : OkK h s) (i : Nat) (hi : i < (Q h s).length) (hn : n < 1048576) (hi40 : i < 1048576) :
    Calls Try.prog 22 #[.map (some b), .agg #[.int .i64 h, .int .i64 s], .int .i64 (i : Int)] w fun e w' => e = .returned (.tuple #[]) ∧ (∃ D' V', QM w' B b (n + 1) (upd Q h s ((Q h s).eraseIdx i)) D' V') ∧ Kept (fun g => g = b ∨ B ≤ g) w w' := by
  obtain ⟨wb, hwb, ez, A0, B0⟩ := one_new w [.int .i64 h, .int .i64 s] 53
  have qb := q.below B0
  have hlk : (Instr.lookup 50 (.map (some b)) (.agg #[.int .i64 h, .int .i64 s]) false).run Try.prog wb = .ok (V h s) wb := qb.look hk
  have hrow := qb.row h s hk
  obtain ⟨g, c, hv⟩ := hrow.form (by omega)
  have HV := hid hv
  have hgl : g < w.heap.size := ((q.row h s hk).lt (b := g) (by rw [hv]; rfl)).2
  rw [hv] at hlk hrow
  have HQ := hid qb
  have HR := hid hrow
  have HA := hid A0
  have HB0 := hid B0
  have hcap := hid hrow.cap
  have k0 := A0.c 0 rfl
  have k1 := A0.c 1 rfl
  have Hlt := hid (show (zOf (Q h s)).length = (Q h s).length from zOf_length _)
  have hq40 : (Q h s).length ≤ 9223372036854775807 := by have := hcap.out.1; have := hcap.out.2; unfold maxLen at this; omega
  clear q qb hv hrow A0 B0 ez
  generalize hZ : Q h s = Z at *
  have HZ := hid hZ
  clear hZ
  go_enter Try.func22, Try.ntmps22
  go_wp2_with fail
  have hc := Any.slices_Delete_int Try.lays223 g 0 (c + 1) i (i + 1) (zOf Z) wb (holds_row HR.out) (by rw [zOf_length]; exact hcap.out.1) (by have := hcap.out.2; unfold maxLen at this; exact this) (by omega) (by rw [zOf_length]; omega)
  rw [zOf_length, show (i + 1 - i) = 1 from by omega] at hc
  obtain ⟨m, hm⟩ : ∃ m, Z.length - 1 = m := ⟨_, rfl⟩
  rw [hm] at hc
  refine hc.mono ?_
  rintro e w2 ⟨rfl, p, hw2⟩
  have r2 := row_deleted (q := p) HR.out hi
  rw [show (i + 1 - i) = 1 from by omega, ← hw2, hm] at r2
  have k2 : Kept (fun y => y = g) wb w2 := by rw [hw2]; exact kept_putRow wb g p _
  have hlE : (Z.eraseIdx i).length = m := by rw [List.length_eraseIdx_of_lt hi]; exact hm
  have kv : Kept (fun y => rb (V h s) = some y) wb w2 := k2.mono (fun y _ e => by rw [HV.out, e]; rfl)
  have R2 := HA.out.kept k2 (by omega)
  have hgB := (HR.out.lt (b := g) rfl).1
  have HK2 := hid ((Kept.of_below (S := fun _ => False) HB0.out).trans k2)
  clear hc hw2 k0 k1 hlk hwb
  have k0 := R2.c 0 rfl
  have k1 := R2.c 1 rfl
  have HKV := hid kv
  have HR2 := hid r2
  clear kv k2 r2 R2
  by_cases hm0 : m = 0
  · subst hm0
    have hnil : Z.eraseIdx i = [] := List.eq_nil_of_length_eq_zero hlE
    obtain ⟨w3, hr3, q3, k3⟩ := HQ.out.drop hk HKV.out 0
    have hd : ∀ ty, (Builtin.delete_ #[50, 53] ty #[.map (some b), .agg #[.int .i64 h, .int .i64 s]]).run Try.prog w2 = .ok (.tuple #[]) w3 := fun ty => hr3
    have HQ3 := hid q3
    have HK3 := hid k3
    clear q3 k3 hr3
    go_wp2
    refine bodyPost_ret (results_none rfl _ _ _) rfl ?_
    rw [hnil]
    exact ⟨rfl, ⟨_, _, HQ3.out.more⟩, (HK2.out.trans HK3.out).mono (fun y _ e => by rcases e with (e | e) | e; exact e.elim; exact Or.inr (by omega); exact Or.inl e)⟩
  · have hne : Z.eraseIdx i ≠ [] := fun e => hm0 (by rw [← hlE, e]; rfl)
    obtain ⟨w3, hr3, q3, k3⟩ := HQ.out.store hk (by unfold maxLen; omega) HKV.out (.slice (some ⟨g, 0, none⟩) m (c + 1)) (Z.eraseIdx i) hne HR2.out (Or.inr (Or.inl (by rw [HV.out]; rfl)))
    replace hr3 : (Instr.mapUpdate 50 (.map (some b)) (.agg #[.int .i64 h, .int .i64 s]) (.slice (some ⟨g, 0, none⟩) m (c + 1))).run Try.prog w2 = .ok () w3 := hr3
    have HQ3 := hid q3
    have HK3 := hid k3
    clear q3 k3
    go_wp2
    go_end0
    exact ⟨rfl, ⟨_, _, HQ3.out⟩, (HK2.out.trans HK3.out).mono (fun y _ e => by rcases e with (e | e) | e; exact e.elim; exact Or.inr (by omega); exact Or.inl e)⟩

end Go.Proofs.Ytbnmcbbpbiofgaa.Mem

namespace Go.Proofs.Ytbnmcbbpbiofgaa.Mem
open Go.RowKit Go.Maps
set_option linter.unusedVariables false

/-- Each number in a queue is that of a write of that host to that sector; no number stands twice. -/
structure QOk (l : List Wt) (Q : Int → Int → List Nat) : Prop where
  mem : ∀ h s, OkK h s → ∀ i, i ∈ Q h s → i < l.length ∧ (l.getD i Wt.none).host = h ∧ (l.getD i Wt.none).sector = s
  nodup : ∀ h s, OkK h s → (Q h s).Nodup

theorem nodup_filter {α : Type} {l : List α} {p : α → Bool} (h : l.Nodup) : (l.filter p).Nodup := List.Pairwise.filter _ h

theorem qOk_at (l : List Wt) : QOk l (qAt l l.length) := ⟨fun h s _ i hi => qAt_mem hi, fun h s _ => nodup_filter List.nodup_range⟩

theorem QOk.erase {l : List Wt} {Q : Int → Int → List Nat} (q : QOk l Q) (h s : Int) (zs : List Nat) (hz : ∀ x ∈ zs, x ∈ Q h s) (hn : OkK h s → zs.Nodup) : QOk l (upd Q h s zs) := by
  refine ⟨fun h' s' hk i hi => ?_, fun h' s' hk => ?_⟩
  · by_cases e : h' = h ∧ s' = s
    · obtain ⟨rfl, rfl⟩ := e
      rw [upd_same] at hi
      exact q.mem h' s' hk i (hz i hi)
    · rw [upd_other _ _ e] at hi
      exact q.mem h' s' hk i hi
  · by_cases e : h' = h ∧ s' = s
    · obtain ⟨rfl, rfl⟩ := e
      rw [upd_same]
      exact hn hk
    · rw [upd_other _ _ e]
      exact q.nodup h' s' hk

/-- What was collected while 'left' tells the keys still to come. -/
structure Col (Q : Int → Int → List Nat) (left : Lit → Bool) (L : List Nat) : Prop where
  nodup : L.Nodup
  mem : ∀ x, x ∈ L ↔ ∃ h s, OkK h s ∧ left (klq h s) = false ∧ x ∈ Q h s

theorem Col.start {Q : Int → Int → List Nat} {D : DataW Value} (h : ∀ h s, OkK h s → (Maps.has D (klq h s) = true ↔ Q h s ≠ [])) : Col Q (Maps.has D) [] :=
  ⟨List.nodup_nil, fun x => ⟨fun hx => absurd hx (by simp), fun ⟨h', s', hk, hl, hx⟩ => by
    have := (h h' s' hk).2 (fun e => by rw [e] at hx; simp at hx)
    rw [this] at hl
    cases hl⟩⟩

theorem Col.step {l : List Wt} {Q : Int → Int → List Nat} {left : Lit → Bool} {L : List Nat} (c : Col Q left L) (q : QOk l Q) {h s : Int} (hk : OkK h s) (hl : left (klq h s) = true) : Col Q (fun z => left z && !z.sameKey (klq h s)) (L ++ Q h s) := by
  have kl := keyedQ.key (key_of hk)
  refine ⟨List.nodup_append.2 ⟨c.nodup, q.nodup h s hk, fun a ha b hb e => ?_⟩, fun x => ?_⟩
  · subst e
    obtain ⟨h', s', hk', hl', hx⟩ := (c.mem a).1 ha
    have m1 := q.mem h s hk a hb
    have m2 := q.mem h' s' hk' a hx
    have e1 : h' = h := m2.2.1.symm.trans m1.2.1
    have e2 : s' = s := m2.2.2.symm.trans m1.2.2
    subst e1; subst e2
    rw [hl] at hl'
    cases hl'
  · rw [List.mem_append]
    constructor
    · rintro (hx | hx)
      · obtain ⟨h', s', hk', hl', hx⟩ := (c.mem x).1 hx
        exact ⟨h', s', hk', by simp [hl'], hx⟩
      · exact ⟨h, s, hk, by simp [WideAt.sameKey_self kl], hx⟩
    · rintro ⟨h', s', hk', hl', hx⟩
      by_cases e : h' = h ∧ s' = s
      · obtain ⟨rfl, rfl⟩ := e
        exact Or.inr hx
      · refine Or.inl ((c.mem x).2 ⟨h', s', hk', ?_, hx⟩)
        have : (klq h' s').sameKey (klq h s) = false := sameKey_ne (fun e' => e (klq_inj hk' hk e'))
        simpa [this] using hl'

/-- The numbers that are still in a queue, in their order. -/
def keptQ (l : List Wt) (Q : Int → Int → List Nat) : List Nat := (List.range l.length).filter (fun i => decide (i ∈ Q (l.getD i Wt.none).host (l.getD i Wt.none).sector))
/-- .. and their writes. -/
def leftW (l : List Wt) (Q : Int → Int → List Nat) : List Wt := (keptQ l Q).map (fun i => l.getD i Wt.none)

theorem Col.perm {l : List Wt} {Q : Int → Int → List Nat} {left : Lit → Bool} {L : List Nat} (c : Col Q left L) (q : QOk l Q) (ok : ∀ j, j < l.length → OkK (l.getD j Wt.none).host (l.getD j Wt.none).sector) (hl : ∀ kl, left kl = false) : L.Perm (keptQ l Q) := by
  refine (List.perm_ext_iff_of_nodup c.nodup (nodup_filter List.nodup_range)).2 (fun x => ?_)
  rw [c.mem, List.mem_filter]
  constructor
  · rintro ⟨h, s, hk, _, hx⟩
    have m := q.mem h s hk x hx
    exact ⟨by simpa using m.1, decide_eq_true (by rw [m.2.1, m.2.2]; exact hx)⟩
  · rintro ⟨h1, h2⟩
    exact ⟨_, _, ok x (by simpa using h1), hl _, of_decide_eq_true h2⟩

theorem Col.lt {l : List Wt} {Q : Int → Int → List Nat} {left : Lit → Bool} {L : List Nat} (c : Col Q left L) (q : QOk l Q) : ∀ x ∈ L, x < l.length := fun x hx => by
  obtain ⟨h, s, hk, _, hx⟩ := (c.mem x).1 hx
  exact (q.mem h s hk x hx).1

theorem nodup_le {n : Nat} {L : List Nat} (h : L.Nodup) (hx : ∀ x ∈ L, x < n) : L.length ≤ n := by
  have hp : L.Perm ((List.range n).filter (fun i => decide (i ∈ L))) := (List.perm_ext_iff_of_nodup h (nodup_filter List.nodup_range)).2 (fun x => by
    rw [List.mem_filter]
    exact ⟨fun h => ⟨by simpa using hx x h, decide_eq_true h⟩, fun h => of_decide_eq_true h.2⟩)
  rw [hp.length_eq]
  have := List.length_filter_le (fun i => decide (i ∈ L)) (List.range n)
  simpa using this

/-- Sorted, it is the numbers in their order. -/
theorem sorted_kept {l : List Wt} {Q : Int → Int → List Nat} {L : List Nat} (h : L.Perm (keptQ l Q)) : (zOf L).mergeSort (fun x y => decide (x ≤ y)) = zOf (keptQ l Q) := by
  have tr : ∀ a b c : Int, decide (a ≤ b) = true → decide (b ≤ c) = true → decide (a ≤ c) = true := fun a b c h1 h2 => by simp only [decide_eq_true_eq] at *; omega
  have tot : ∀ a b : Int, (decide (a ≤ b) || decide (b ≤ a)) = true := fun a b => by simp only [Bool.or_eq_true, decide_eq_true_eq]; omega
  refine List.Perm.eq_of_pairwise (le := fun a b => decide (a ≤ b) = true) (fun a b _ _ h1 h2 => by simp only [decide_eq_true_eq] at h1 h2; omega) (List.pairwise_mergeSort tr tot _) ?_ ((List.mergeSort_perm _ _).trans (h.map _))
  unfold zOf keptQ
  refine List.Pairwise.map (R := fun x y => x < y) _ (fun a b hab => by simp only [decide_eq_true_eq]; omega) (List.Pairwise.filter _ List.pairwise_lt_range)

end Go.Proofs.Ytbnmcbbpbiofgaa.Mem
