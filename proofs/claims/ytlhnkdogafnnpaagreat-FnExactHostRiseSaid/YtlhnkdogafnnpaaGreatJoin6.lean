/-
  A map of queues that a call has made: what it holds, key by key. No condition.
  The walk of impl.queuesOf: at each host and sector the numbers of its writes, in their order. No condition but a list of at most 40 writes of hosts and sectors in range.
  The walks of impl.isHost, impl.fitsSector, impl.isSector and impl.DiskOk: each answers what it should, and nothing that was there is changed. No condition.
  The walk of impl.DiskOk: it answers whether the disk is right, and nothing that was there is changed. No condition.
  The walk of impl.Peek: it answers as spec.Peek does, and nothing that was there is changed. No condition.
  The numbers of slices.Delete, slices.Sort and slices.Index (where it is there) and their callees in this program, for the library's contracts of them. No condition.
  The walk of impl's take: one number is struck from one queue. No condition but that it is there.
  Plain: what is collected of queues, sorted, is told in the order of the numbers. No condition.
  The walk of impl's left: the writes whose numbers are still in a queue, in the order in which they were given. No condition but a list of at most 40 writes.
  Plain: what is left of the writes when one number is struck, or all of one host's. No condition.
  The walk of impl.copyDisk: the same disk, in rows of its own. No condition but lengths of at most 2^20.
  What a function of chapter 3 keeps in memory while it makes its answer: the argument's box, the result's block, its own disk with its box. No condition.
  The walk of impl.Fence: it answers as spec.Fence does, in rows of its own. No condition but sizes.
-/
import Derived.Test.YtlhnkdogafnnpaaGreatJoin2
import Derived.Maps.OwnSet
import Derived.Maps.Ext
import Derived.WideKeyEntry
import Derived.DeepKeys4
import Derived.Test.YtlhnkdogafnnpaaGreatJoin3
import Derived.Test.YtlhnkdogafnnpaaGreatJoin5
import Derived.Shelf.Slices.Delete
import Derived.Shelf.Slices.Turned
import Derived.Shelf.Slices.In.SortNone
import Derived.Shelf.Sort.Plain
import Derived.Test.YtlhnkdogafnnpaaGreatProg
import Derived.Sort.OwnSortedInts
import Derived.Maps.RangeWalk
namespace Go.Proofs.YtlhnkdogafnnpaaGreat.Mem
open Go.RowKit Go.Maps
open Go.ChangeMaps (setBlock heap_setBlock_same heap_setBlock_other)
set_option linter.unusedVariables false

theorem laidQ : laidOutB Tryz.prog = true := by kernel_rfl
theorem rowQ : (96 : TypeId) < Tryz.prog.types.size := of_decide_eq_true (by kernel_rfl)
theorem deepQ : Tryz.prog.keyTypeAt (Tryz.prog.types.size + 1) 96 = true := by kernel_rfl
theorem wideQ : (match Tryz.prog.underlying 96 with | some (.array _ _) | some (.struct _) => true | _ => false) = true := by rw [Tryz.underlying96]
set_option maxRecDepth 100000 in
theorem lawQ : WideMaps.KeyLaw Tryz.prog 96 := deep_law_laid laidQ (m := 2) (by omega) rowQ (by kernel_rfl) wideQ
theorem keyedQ : Keyed Tryz.prog 96 := Keyed.of_law lawQ
theorem cellsQ : Tryz.prog.cellsOf 96 = 2 := by kernel_rfl
theorem cellsI : Tryz.prog.cellsOf 3 = 1 := by kernel_rfl
theorem zeroQ (w : World) : (zeroValue 30).run Tryz.prog w = .ok (.slice none 0 0) w := by kernel_rfl

def nilv : Value := .slice none 0 0

/-- A key, and what it reads as. -/
def kval (h s : Int) : Value := .agg #[.int .i64 h, .int .i64 s]
def klq (h s : Int) : Lit := .string (keyBytes [.int .i64 h, .int .i64 s])

/-- The hosts and sectors of a right disk. -/
def OkK (h s : Int) : Prop := (0 ≤ h ∧ h < 3) ∧ 0 ≤ s ∧ s < 40

theorem wf_small {x : Int} (h0 : 0 ≤ x) (h1 : x < 40) : (Lit.int .i64 x).wf = true := WalkArith.wf_i64 (by omega)

theorem key_of {h s : Int} (hk : OkK h s) : keyOf Tryz.prog 96 (kval h s) = some (klq h s) := by
  have w1 := wf_small hk.1.1 (by have := hk.1.2; omega)
  have w2 := wf_small hk.2.1 hk.2.2
  obtain ⟨m, hm⟩ : ∃ m, Tryz.prog.types.size + 1 = m + 2 := ⟨Tryz.prog.types.size - 1, by have h : (96 : Nat) < Tryz.prog.types.size := rowQ; omega⟩
  have hd : Tryz.prog.keyType 96 = true := deepQ
  have hf : (kval h s).formed Tryz.prog 96 = true := by simp [kval, Value.formed, Tryz.underlying96, cellsQ]
  unfold keyOf
  simp only [Tryz.underlying96, hd, hf, Bool.and_self, if_true, hm]
  simp [Program.keyLits, Tryz.underlying96, Tryz.underlying3, cellsQ, cellsI, kval, Value.cells, w1, w2, klq, List.range_succ]

theorem klq_inj {h s h' s' : Int} (hk : OkK h s) (hk' : OkK h' s') (e : klq h s = klq h' s') : h = h' ∧ s = s' := by
  have := keyedQ.inj (key_of hk) (by rw [e]; exact key_of hk')
  simpa [kval] using this

/-- The reader: a value as it stands. -/
def Rid (v : Value) : Option (DataW Value × List MemPlace) := some (.held v, [])

def qCells (l : List Nat) : List Value := l.map (fun (i : Nat) => Value.int .i64 (i : Int))

/-- Block b is a map of queues: at each key a row of its own with the numbers Q, or nothing where there are none. -/
structure QM (w : World) (B b n : Nat) (Q : Int → Int → List Nat) (D : DataW Value) (V : Int → Int → Value) : Prop where
  own : w.ownsMap Tryz.prog 96 Rid b n D
  lt : b < B
  has : ∀ h s, OkK h s → (Maps.has D (klq h s) = true ↔ Q h s ≠ [])
  at_ : ∀ h s, OkK h s → D.atKey (klq h s) (.held nilv) = .held (V h s)
  row : ∀ h s, OkK h s → RowO w B 3 1 (V h s) (Q h s).length (qCells (Q h s))
  apart : ∀ h s h' s', OkK h s → OkK h' s' → ¬ (h = h' ∧ s = s') → ∀ g, rb (V h s) = some g → rb (V h' s') ≠ some g
  only : ∀ l, Maps.has D l = true → ∃ h s, OkK h s ∧ l = klq h s

theorem ownsMap_kept {S : Nat → Prop} {P : Program} {k : TypeId} {R : Value → Option (DataW Value × List MemPlace)} {w w' : World} {b n : Nat} {D : DataW Value} (h : w.ownsMap P k R b n D) (kk : Kept S w w') (hb : ¬ S b) : w'.ownsMap P k R b n D := by
  have hl := h.lt
  obtain ⟨es, clock, hh, r⟩ := h
  exact ⟨es, clock, by rw [kk.block b hl hb]; exact hh, r⟩

theorem QM.kept {S : Nat → Prop} {w w' : World} {B b n : Nat} {Q : Int → Int → List Nat} {D : DataW Value} {V : Int → Int → Value} (q : QM w B b n Q D V) (k : Kept S w w') (hb : ¬ S b) (hr : ∀ h s g, OkK h s → rb (V h s) = some g → ¬ S g) : QM w' B b n Q D V :=
  ⟨ownsMap_kept q.own k hb, q.lt, q.has, q.at_, fun h s hk => (q.row h s hk).kept k (fun g hg => hr h s g hk hg), q.apart, q.only⟩

theorem QM.below {w w' : World} {B b n : Nat} {Q : Int → Int → List Nat} {D : DataW Value} {V : Int → Int → Value} (q : QM w B b n Q D V) (k : Below w.heap.size w w') : QM w' B b n Q D V :=
  q.kept (Kept.of_below (S := fun _ => False) k) (fun x => x) (fun _ _ _ _ _ x => x)

theorem QM.made (w : World) : QM (w.alloc (.map #[] 0)) (w.heap.size + 1) w.heap.size 0 (fun _ _ => []) (.map []) (fun _ _ => nilv) :=
  ⟨World.ownsMap_made w _ _ _, Nat.lt_succ_self _, fun h s _ => by simp [Maps.has], fun h s _ => rfl, fun h s _ => Or.inl ⟨none, rfl, rfl, rfl⟩, fun _ _ _ _ _ _ _ g hg => by simp [rb, nilv] at hg, fun l hl => by simp [Maps.has] at hl⟩

/-- 'm[k]'. -/
theorem QM.look {w : World} {B b n : Nat} {Q : Int → Int → List Nat} {D : DataW Value} {V : Int → Int → Value} (q : QM w B b n Q D V) {h s : Int} (hk : OkK h s) : (Instr.lookup 93 (.map (some b)) (kval h s) false).run Tryz.prog w = .ok (V h s) w := by
  obtain ⟨v, ps, hrun, hR⟩ := q.own.lookup keyedQ Tryz.underlying93 (zeroQ w) (zd := .held nilv) (zp := []) rfl (key_of hk)
  have e := q.at_ h s hk
  simp only [Rid, Option.some.injEq, Prod.mk.injEq] at hR
  rw [e] at hR
  have : v = V h s := by injection hR.1
  rw [← this]
  exact hrun

/-- 'v, ok := m[k]'. -/
theorem QM.look_ok {w : World} {B b n : Nat} {Q : Int → Int → List Nat} {D : DataW Value} {V : Int → Int → Value} (q : QM w B b n Q D V) {h s : Int} (hk : OkK h s) : (Instr.lookup 93 (.map (some b)) (kval h s) true).run Tryz.prog w = .ok (.tuple #[V h s, .bool (decide (Q h s ≠ []))]) w := by
  obtain ⟨v, ps, hrun, hR⟩ := q.own.look_ok keyedQ Tryz.underlying93 (zeroQ w) (zd := .held nilv) (zp := []) rfl (key_of hk)
  have e := q.at_ h s hk
  simp only [Rid, Option.some.injEq, Prod.mk.injEq] at hR
  rw [e] at hR
  have hv : v = V h s := by injection hR.1
  have hh : Maps.has D (klq h s) = decide (Q h s ≠ []) := by
    have := q.has h s hk
    by_cases hq : Q h s ≠ []
    · rw [decide_eq_true hq]; exact this.2 hq
    · rw [decide_eq_false hq]
      cases hx : Maps.has D (klq h s)
      · rfl
      · exact absurd (this.1 hx) hq
  rw [← hv, ← hh]
  exact hrun

/-- One key's queue is another one. -/
def upd {α : Type} (Q : Int → Int → α) (h s : Int) (z : α) (h' s' : Int) : α := if h' = h ∧ s' = s then z else Q h' s'
theorem upd_same {α : Type} (Q : Int → Int → α) (h s : Int) (z : α) : upd Q h s z h s = z := if_pos ⟨rfl, rfl⟩
theorem upd_other {α : Type} (Q : Int → Int → α) {h s h' s' : Int} (z : α) (hne : ¬ (h' = h ∧ s' = s)) : upd Q h s z h' s' = Q h' s' := if_neg hne

theorem kept_setBlock {w : World} {b : Nat} {es : Array MapEntry} {clock : Nat} (hb : w.heap[b]? = some (.map es clock)) (o : Obj) : Kept (fun k => k = b) w (setBlock w b o) :=
  ⟨rfl, rfl, rfl, by simp [setBlock], fun i _ hi => heap_setBlock_other hb _ hi⟩

/-- What a store at a key leaves, if the new row lies in the old one's block or in a new one. -/
theorem QM.put {w w2 w3 : World} {B b n n' : Nat} {Q : Int → Int → List Nat} {D : DataW Value} {V : Int → Int → Value} (q : QM w B b n Q D V) {h s : Int} (hk : OkK h s) (k : Kept (fun g => g = b ∨ rb (V h s) = some g) w w2) (v' : Value) (zs : List Nat) (hz : zs ≠ [])
    (r : RowO w2 B 3 1 v' zs.length (qCells zs)) (hl : rb v' = none ∨ rb v' = rb (V h s) ∨ ∃ g, rb v' = some g ∧ w.heap.size ≤ g)
    (k3 : Kept (fun g => g = b) w2 w3) (o3 : w3.ownsMap Tryz.prog 96 Rid b n' (D.put (klq h s) (.held v'))) : QM w3 B b n' (upd Q h s zs) (D.put (klq h s) (.held v')) (upd V h s v') := by
  have isM : IsMap D := q.own.isMap
  have kl := keyedQ.key (key_of hk)
  have rB : ∀ {h' s' g}, OkK h' s' → rb (V h' s') = some g → g ≠ b := fun {h' s' g} hk' hg e => by
    have := ((q.row h' s' hk').lt hg).1
    have := q.lt
    omega
  have v'B : ∀ {g}, rb v' = some g → g ≠ b := fun {g} hg e => by
    have := (r.lt hg).1
    have := q.lt
    omega
  refine ⟨o3, q.lt, fun h' s' hk' => ?_, fun h' s' hk' => ?_, fun h' s' hk' => ?_, fun h1 s1 h2 s2 hk1 hk2 hne g h3 => ?_, fun l hl' => ?_⟩
  · by_cases e : h' = h ∧ s' = s
    · obtain ⟨rfl, rfl⟩ := e
      rw [upd_same, has_put_same isM kl]
      simp [hz]
    · rw [upd_other _ _ e, has_put_other (fun e' => e (klq_inj hk' hk e'))]
      exact q.has h' s' hk'
  · by_cases e : h' = h ∧ s' = s
    · obtain ⟨rfl, rfl⟩ := e
      rw [upd_same, atKey_put_same isM kl]
    · rw [upd_other _ _ e, atKey_put_other (fun e' => e (klq_inj hk' hk e'))]
      exact q.at_ h' s' hk'
  · by_cases e : h' = h ∧ s' = s
    · obtain ⟨rfl, rfl⟩ := e
      rw [upd_same, upd_same]
      exact r.kept k3 (fun g hg => v'B hg)
    · rw [upd_other _ _ e, upd_other _ _ e]
      refine ((q.row h' s' hk').kept k (fun g hg hx => ?_)).kept k3 (fun g hg => rB hk' hg)
      rcases hx with hx | hx
      · exact rB hk' hg hx
      · exact q.apart h' s' h s hk' hk e g hg hx
  · have far : ∀ h' s' g, OkK h' s' → ¬ (h' = h ∧ s' = s) → rb (V h' s') = some g → rb v' ≠ some g := fun h' s' g hk' hne' hg hx => by
      rcases hl with e | e | ⟨g', e, hg'⟩
      · rw [e] at hx; cases hx
      · rw [e] at hx
        exact q.apart h' s' h s hk' hk hne' g hg hx
      · rw [e] at hx
        cases hx
        have := ((q.row h' s' hk').lt hg).2
        omega
    by_cases e1 : h1 = h ∧ s1 = s
    · obtain ⟨rfl, rfl⟩ := e1
      have e2 : ¬ (h2 = h1 ∧ s2 = s1) := fun e => hne ⟨e.1.symm, e.2.symm⟩
      rw [upd_same] at h3
      rw [upd_other _ _ e2]
      exact fun hx => far h2 s2 g hk2 e2 hx h3
    · rw [upd_other _ _ e1] at h3
      by_cases e2 : h2 = h ∧ s2 = s
      · obtain ⟨rfl, rfl⟩ := e2
        rw [upd_same]
        exact far h1 s1 g hk1 e1 h3
      · rw [upd_other _ _ e2]
        exact q.apart h1 s1 h2 s2 hk1 hk2 hne g h3
  · by_cases e : l = klq h s
    · exact ⟨h, s, hk, e⟩
    · rw [has_put_other e] at hl'
      exact q.only l hl'

/-- 'm[k] = append(m[k], ..)': the entry that is made or found, and the store into it. -/
theorem QM.entry {w : World} {B b n : Nat} {Q : Int → Int → List Nat} {D : DataW Value} {V : Int → Int → Value} (q : QM w B b n Q D V) {h s : Int} (hk : OkK h s) (hn : n < maxLen) :
    ∃ st w1, (Instr.mapEntry 93 (.map (some b)) (kval h s)).run Tryz.prog w = .ok (.tuple #[V h s, goInt st]) w1 ∧ Kept (fun g => g = b) w w1 ∧ w1.heap.size = w.heap.size ∧
      ∀ (w2 : World) (v' : Value) (zs : List Nat), zs ≠ [] → Kept (fun g => rb (V h s) = some g) w1 w2 → RowO w2 B 3 1 v' zs.length (qCells zs) → (rb v' = none ∨ rb v' = rb (V h s) ∨ ∃ g, rb v' = some g ∧ w.heap.size ≤ g) →
        ∃ w3, (Instr.entryStore 93 (.map (some b)) (goInt st) v').run Tryz.prog w2 = .ok () w3 ∧ QM w3 B b (n + 1) (upd Q h s zs) (D.put (klq h s) (.held v')) (upd V h s v') ∧ Kept (fun g => g = b) w2 w3 := by
  have hlook := q.look hk
  have hlt := q.own.lt
  obtain ⟨es, clock, hb, F, hs, hD⟩ := q.own
  obtain ⟨v0, st, es1, clock1, hrun, hv0, hst⟩ := WideElems.entry_then_store (z := .slice none 0 0) lawQ Tryz.underlying93 (fun u => zeroQ u) hb F (key_of hk)
  have hv : v0 = V h s := by
    rcases Maps.fit_look false keyedQ Tryz.underlying93 (zeroQ w) hb F (key_of hk) with ⟨hr, hno, _⟩ | ⟨e0, y, hm0, h3, hr, _⟩
    · rcases hv0 with ⟨e1, hm1, hk1, rfl⟩ | ⟨_, rfl⟩
      · exact absurd hk1 (hno e1 hm1)
      · rw [hr] at hlook; injection hlook
    · rcases hv0 with ⟨e1, hm1, hk1, rfl⟩ | ⟨hno, _⟩
      · have : e1 = e0 := entry_eq_of_key (List.pairwise_map.1 F.stamped.2.2) hm1 hm0 (hk1.trans h3.symm)
        subst this
        rw [hr] at hlook
        injection hlook
      · exact absurd h3 (hno e0 hm0)
  subst hv
  refine ⟨st, _, hrun, kept_setBlock hb _, by simp [setBlock], fun w2 v' zs hz k2 r hl => ?_⟩
  have h1 : (setBlock w b (.map es1 clock1)).heap[b]? = some (.map es1 clock1) := heap_setBlock_same hb _
  have bB : ¬ rb (V h s) = some b := fun e => by
    have := ((q.row h s hk).lt e).1
    have := q.lt
    omega
  have h2 : w2.heap[b]? = some (.map es1 clock1) := by rw [k2.block b (by simpa [setBlock] using hlt) bB]; exact h1
  obtain ⟨es', clock', hr3, hu⟩ := hst w2 v' h2
  obtain ⟨w', hu', ho', _⟩ := q.own.store keyedQ Tryz.underlying93 hn (key_of hk) (val := v') (d := .held v') (ps := []) rfl
  rw [hu] at hu'
  have hw' : setBlock w b (.map es' clock') = w' := by injection hu'
  rw [← hw'] at ho'
  obtain ⟨es'', clock'', hh, rest⟩ := ho'
  rw [heap_setBlock_same hb] at hh
  have hh' : es' = es'' ∧ clock' = clock'' := by simpa using hh
  obtain ⟨rfl, rfl⟩ := hh'
  refine ⟨_, hr3, q.put hk (((kept_setBlock hb _).trans k2).mono (fun g _ hg => hg)) v' zs hz r hl (kept_setBlock h2 _) ⟨es', clock', heap_setBlock_same h2 _, rest⟩, kept_setBlock h2 _⟩

/-- 'm[k] = v'. -/
theorem QM.store {w w2 : World} {B b n : Nat} {Q : Int → Int → List Nat} {D : DataW Value} {V : Int → Int → Value} (q : QM w B b n Q D V) {h s : Int} (hk : OkK h s) (hn : n < maxLen) (k : Kept (fun g => rb (V h s) = some g) w w2) (v' : Value) (zs : List Nat) (hz : zs ≠ [])
    (r : RowO w2 B 3 1 v' zs.length (qCells zs)) (hl : rb v' = none ∨ rb v' = rb (V h s) ∨ ∃ g, rb v' = some g ∧ w.heap.size ≤ g) :
    ∃ w3, (Instr.mapUpdate 93 (.map (some b)) (kval h s) v').run Tryz.prog w2 = .ok () w3 ∧ QM w3 B b (n + 1) (upd Q h s zs) (D.put (klq h s) (.held v')) (upd V h s v') ∧ Kept (fun g => g = b) w2 w3 := by
  have bB : ¬ rb (V h s) = some b := fun e => by
    have := ((q.row h s hk).lt e).1
    have := q.lt
    omega
  have o2 := ownsMap_kept q.own k bB
  obtain ⟨w3, hr, ho, ht⟩ := o2.store keyedQ Tryz.underlying93 hn (key_of hk) (val := v') (d := .held v') (ps := []) rfl
  have g := ht.grown
  have k3 : Kept (fun g => g = b) w2 w3 := ⟨g.os, g.tape, g.output, g.size, fun i hi hne => g.block i hi (fun e => hne (by cases e; rfl))⟩
  exact ⟨w3, hr, q.put hk (k.mono (fun g _ hg => Or.inr hg)) v' zs hz r hl k3 ho, k3⟩

/-- 'delete(m, k)'. -/
theorem QM.drop {w w2 : World} {B b n : Nat} {Q : Int → Int → List Nat} {D : DataW Value} {V : Int → Int → Value} (q : QM w B b n Q D V) {h s : Int} (hk : OkK h s) (k : Kept (fun g => rb (V h s) = some g) w w2) (ty : TypeId) :
    ∃ w3, (Builtin.delete_ #[93, 96] ty #[.map (some b), kval h s]).run Tryz.prog w2 = .ok (.tuple #[]) w3 ∧ QM w3 B b n (upd Q h s []) (D.del (klq h s)) (upd V h s nilv) ∧ Kept (fun g => g = b) w2 w3 := by
  have rB : ∀ {h' s' g}, OkK h' s' → rb (V h' s') = some g → g ≠ b := fun {h' s' g} hk' hg e => by
    have := ((q.row h' s' hk').lt hg).1
    have := q.lt
    omega
  have o2 := ownsMap_kept q.own k (fun e => rB hk e rfl)
  obtain ⟨w3, hr, ho, ht⟩ := o2.drop keyedQ Tryz.underlying93 (key_of hk) ty
  have g := ht.grown
  have k3 : Kept (fun g => g = b) w2 w3 := ⟨g.os, g.tape, g.output, g.size, fun i hi hne => g.block i hi (fun e => hne (by cases e; rfl))⟩
  refine ⟨w3, hr, ⟨ho, q.lt, fun h' s' hk' => ?_, fun h' s' hk' => ?_, fun h' s' hk' => ?_, fun h1 s1 h2 s2 hk1 hk2 hne g h3 => ?_, fun l hl' => ?_⟩, k3⟩
  · by_cases e : h' = h ∧ s' = s
    · obtain ⟨rfl, rfl⟩ := e
      rw [upd_same, has_del_same]
      simp
    · rw [upd_other _ _ e, has_del_other (fun e' => e (klq_inj hk' hk e'))]
      exact q.has h' s' hk'
  · by_cases e : h' = h ∧ s' = s
    · obtain ⟨rfl, rfl⟩ := e
      rw [upd_same, atKey_del_same]
    · rw [upd_other _ _ e, atKey_del_other (fun e' => e (klq_inj hk' hk e'))]
      exact q.at_ h' s' hk'
  · by_cases e : h' = h ∧ s' = s
    · obtain ⟨rfl, rfl⟩ := e
      rw [upd_same, upd_same]
      exact Or.inl ⟨none, rfl, rfl, rfl⟩
    · rw [upd_other _ _ e, upd_other _ _ e]
      exact ((q.row h' s' hk').kept k (fun g hg hx => q.apart h' s' h s hk' hk e g hg hx)).kept k3 (fun g hg => rB hk' hg)
  · by_cases e1 : h1 = h ∧ s1 = s
    · obtain ⟨rfl, rfl⟩ := e1
      rw [upd_same] at h3
      simp [rb, nilv] at h3
    · rw [upd_other _ _ e1] at h3
      by_cases e2 : h2 = h ∧ s2 = s
      · obtain ⟨rfl, rfl⟩ := e2
        rw [upd_same]
        simp [rb, nilv]
      · rw [upd_other _ _ e2]
        exact q.apart h1 s1 h2 s2 hk1 hk2 hne g h3
  · by_cases e : l = klq h s
    · rw [e, has_del_same] at hl'; cases hl'
    · rw [has_del_other e] at hl'
      exact q.only l hl'

end Go.Proofs.YtlhnkdogafnnpaaGreat.Mem

namespace Go.Proofs.YtlhnkdogafnnpaaGreat.Mem
open Go.RowKit
set_option linter.unusedVariables false

/-- The numbers of the first k writes that are one host's to one sector. -/
def qAt (l : List Wt) (k : Nat) (h s : Int) : List Nat := (List.range k).filter (fun i => decide ((l.getD i Wt.none).host = h ∧ (l.getD i Wt.none).sector = s))

theorem qAt_zero (l : List Wt) : qAt l 0 = fun _ _ => [] := by funext h s; rfl
theorem qAt_succ (l : List Wt) (k : Nat) : qAt l (k + 1) = upd (qAt l k) (l.getD k Wt.none).host (l.getD k Wt.none).sector (qAt l k (l.getD k Wt.none).host (l.getD k Wt.none).sector ++ [k]) := by
  funext h s
  unfold upd qAt
  rw [List.range_succ, List.filter_append]
  by_cases e : h = (l.getD k Wt.none).host ∧ s = (l.getD k Wt.none).sector
  · rw [if_pos e]
    obtain ⟨rfl, rfl⟩ := e
    simp
  · rw [if_neg e]
    have : decide ((l.getD k Wt.none).host = h ∧ (l.getD k Wt.none).sector = s) = false := decide_eq_false (fun q => e ⟨q.1.symm, q.2.symm⟩)
    simp only [List.filter_cons, this, List.filter_nil]
    simp
theorem qAt_len (l : List Wt) (k : Nat) (h s : Int) : (qAt l k h s).length ≤ k := by
  unfold qAt
  have := List.length_filter_le (fun i => decide ((l.getD i Wt.none).host = h ∧ (l.getD i Wt.none).sector = s)) (List.range k)
  simpa using this

theorem qCells_snoc (l : List Nat) (x : Nat) : qCells (l ++ [x]) = qCells l ++ [.int .i64 (x : Int)] := by simp [qCells]
theorem qCells_length (l : List Nat) : (qCells l).length = l.length := by simp [qCells]

/-- Three blocks laid one behind the other. -/
theorem three_any (w : World) (xs ys zs : List Value) (t u r : TypeId) :
    ∃ wc, ((w.alloc (.cells xs.toArray t)).alloc (.cells ys.toArray u)).alloc (.cells zs.toArray r) = wc ∧ wc.heap.size = w.heap.size + 1 + 1 + 1 ∧ Row wc (w.heap.size + 1 + 1) zs ∧ Below w.heap.size w wc := by
  have e0 : (w.alloc (.cells xs.toArray t)).heap.size = w.heap.size + 1 := by simp
  have e1 : ((w.alloc (.cells xs.toArray t)).alloc (.cells ys.toArray u)).heap.size = w.heap.size + 1 + 1 := by simp
  have r2 := Row.new ((w.alloc (.cells xs.toArray t)).alloc (.cells ys.toArray u)) zs r
  rw [e1] at r2
  exact ⟨_, rfl, by simp, r2, (((Below.refl _ _).alloc (Nat.le_refl _) _).alloc (by omega) _).alloc (by omega) _⟩

set_option maxRecDepth 100000 in
set_option maxHeartbeats 2000000 in
theorem queuesOf (w : World) (a : Option Addr) (cap : Nat) (l : List Wt) (S : Wts w a l) (hl : l.length ≤ 40) (hk : ∀ j, j < l.length → OkK (l.getD j Wt.none).host (l.getD j Wt.none).sector) :
    Calls Tryz.prog 67 #[.slice a l.length cap] w fun e w' => e = .returned (.map (some w.heap.size)) ∧ (∃ n D V, n ≤ 40 ∧ QM w' (w.heap.size + 1) w.heap.size n (qAt l l.length) D V) ∧ Below w.heap.size w w' := by
  have HS := hid S
  have HK := hid hk
  clear S hk
  have hmm := @run_makeMap Tryz.prog
  obtain ⟨wm, hwm⟩ : ∃ wm, w.alloc (.map #[] 0) = wm := ⟨_, rfl⟩
  have HM : Hid (QM wm (w.heap.size + 1) w.heap.size 0 (fun _ _ => []) (.map []) (fun _ _ => nilv)) := by rw [← hwm]; exact QM.made w
  have HB : Hid (Below w.heap.size w wm) := by rw [← hwm]; exact (Below.refl _ _).alloc (Nat.le_refl _) _
  have HZ : Hid (wm.heap.size = w.heap.size + 1) := by rw [← hwm]; exact (by simp : (w.alloc (.map #[] 0)).heap.size = w.heap.size + 1)
  go_enter Tryz.func67, Tryz.ntmps67
  go_wp2
  clear hwm hmm
  go_loopw [10] (fun i wr => ∃ k : Nat, k ≤ l.length ∧ i = .int .i64 (k : Int) ∧ Hid (∃ D V, QM wr (w.heap.size + 1) w.heap.size k (qAt l k) D V) ∧ Hid (Below w.heap.size w wr) ∧ Hid (w.heap.size + 1 ≤ wr.heap.size)) (fun i _ => l.length - (intOf i).toNat)
  case atStart => exact ⟨0, Nat.zero_le _, rfl, ⟨_, _, by rw [qAt_zero]; exact HM.out⟩, HB.out, by rw [HZ.out]; exact Nat.le_refl _⟩
  case round =>
    obtain ⟨k, hk, rfl, HQ, HBw, HZw⟩ := hrel
    by_cases hlt : k < l.length
    · obtain ⟨D, V, hq⟩ := HQ.out
      have hkk := HK.out k hlt
      have hsu := hid (qAt_succ l k)
      obtain ⟨b, off, rfl, x0, x1, x2, x3⟩ := Wts.at_ (HS.out.below HBw.out) k hlt
      generalize hx : l.getD k Wt.none = x at *
      obtain ⟨xh, xe, xs, xt⟩ := x
      simp only [] at x0 x1 x2 x3 hkk hsu
      obtain ⟨wc, hwc, ec, R2, Bc⟩ := three_any wr [.int .i64 xh, .int .i64 xe, .int .i64 xs, .string xt] [.int .i64 xh, .int .i64 xs] [.int .i64 (k : Int)] 87 96 3
      have hqc := hq.below Bc
      obtain ⟨st, w1, hen, k1, e1, hst⟩ := hqc.entry hkk (by unfold maxLen; omega)
      have hrow := hid ((hqc.row xh xs hkk).kept k1 (fun g hg e => by have := ((hqc.row xh xs hkk).lt hg).1; have := hqc.lt; omega))
      obtain ⟨pa, pc, pe, _⟩ := (hqc.row xh xs hkk).wr
      have hql := qAt_len l k xh xs
      have hlies := hid (show w.heap.size + 1 ≤ w1.heap.size from by rw [e1, ec]; have := HZw.out; omega)
      have R2' := R2.kept k1 (by have := HZw.out; omega)
      have HSl : Hid (Sl w1 (some ⟨wr.heap.size + 1 + 1, 0, none⟩) (1 * 1) (fun i => [Value.int .i64 (k : Int)].getD i undef)) := fun i hi => by
        have : i = 0 := by omega
        subst this
        exact ⟨_, _, rfl, R2'.c 0 rfl⟩
      have HST := hid hst
      have HB1 := hid ((HBw.out.trans (Bc.mono HBw.out.size)).trans (k1.below (by have := HBw.out.size; have := Bc.size; omega) (fun c hc e => by omega)))
      have HE1 := hid e1
      rw [show V xh xs = .slice pa (qAt l k xh xs).length pc from pe] at hen hrow HST
      have hPE := hid pe
      replace hen : (Instr.mapEntry 93 (.map (some w.heap.size)) (.agg #[.int .i64 xh, .int .i64 xs])).run Tryz.prog wc = .ok (.tuple #[.slice pa (qAt l k xh xs).length pc, .int .i64 (st : Int)]) w1 := hen
      have HQC := hid hqc
      have HBC := hid Bc
      have HEC := hid ec
      clear hq hqc hst Bc R2 R2' k1 pe e1 ec
      generalize hZ : qAt l k xh xs = Z at *
      have HZ1 := hid hZ
      clear hZ
      go_wp2_with (at_builtin; refine wpList_app 30 3 (.int .i64 0) 1 8 Tryz.underlying30 info3' rfl (by decide) (by decide) _ rfl (.tmp 22) (.tmp 24) rfl (w.heap.size + 1) _ Z.length (qCells Z) rfl hrow.out ⟨wr.heap.size + 1 + 1, 0, none⟩ 1 1 [.int .i64 (k : Int)] rfl rfl HSl.out (by intro u hu; simp at hu; subst hu; rfl) (by omega) hlies.out ?_; intro v' w2 r' kk hi; obtain ⟨y, c', e', _⟩ := r'.wr; subst e'; obtain ⟨w3, hr3, q3, k3⟩ := HST.out w2 (.slice y (Z.length + 1) c') (Z ++ [k]) (by simp) kk (by rw [List.length_append]; rw [qCells_snoc]; exact r') (by rcases hi with h | h | h; exact Or.inl h; exact Or.inr (Or.inl h); exact Or.inr (Or.inr ⟨_, h.1, Nat.le_of_eq HE1.out.symm⟩)); replace hr3 : (Instr.entryStore 93 (.map (some w.heap.size)) (.int .i64 (st : Int)) (.slice y (Z.length + 1) c')).run Tryz.prog w2 = .ok () w3 := hr3; have HQ3 := hid q3; have HK3 := hid k3; have HKK := hid kk; clear r' kk hi q3 k3)
      have s2 := HKK.out.size
      have s3 := HK3.out.size
      have s1 := hlies.out
      exact ⟨⟨k + 1, by omega, by go_num, ⟨_, _, by rw [hsu.out]; exact HQ3.out⟩, (HB1.out.trans (HKK.out.below HB1.out.size (fun g hg e => by have := (hrow.out.lt e).1; omega))).trans (HK3.out.below (Nat.le_trans HB1.out.size s2) (fun g hg e => by omega)), hid (by omega)⟩, by simp [intOf]; omega⟩
    obtain rfl : k = l.length := by omega
    go_wp2
    go_ret
    obtain ⟨D, V, hq⟩ := HQ.out
    exact ⟨rfl, ⟨_, _, _, hl, hq⟩, HBw.out⟩

end Go.Proofs.YtlhnkdogafnnpaaGreat.Mem

namespace Go.Proofs.YtlhnkdogafnnpaaGreat.Mem
open Go.RowKit
set_option linter.unusedVariables false

set_option maxHeartbeats 400000 in
theorem isHost (x : Int) (w : World) :
    Calls Tryz.prog 60 #[.int .i64 x] w fun e w' => e = .returned (.bool (decide (0 ≤ x ∧ x < 3))) ∧ w' = w := by
  by_cases h1 : 0 ≤ x
  · by_cases h2 : x < 3
    · rw [decide_eq_true (And.intro h1 h2)]
      go_enter Tryz.func60, Tryz.ntmps60
      go_wp2
      go_ret
      exact ⟨rfl, rfl⟩
    · rw [decide_eq_false (fun h => h2 h.2)]
      go_enter Tryz.func60, Tryz.ntmps60
      go_wp2
      go_ret
      exact ⟨rfl, rfl⟩
  · rw [decide_eq_false (fun h => h1 h.1)]
    go_enter Tryz.func60, Tryz.ntmps60
    go_wp2
    go_ret
    exact ⟨rfl, rfl⟩

set_option maxHeartbeats 400000 in
theorem fitsSector (t : ByteArray) (w : World) :
    Calls Tryz.prog 65 #[.string t] w fun e w' => e = .returned (.bool (decide ((t.size : Int) ≤ 700))) ∧ w' = w := by
  go_enter Tryz.func65, Tryz.ntmps65
  go_wp2
  go_ret
  exact ⟨rfl, rfl⟩

set_option maxHeartbeats 400000 in
theorem isSector (w : World) (v1 v2 v3 : Value) (a : Option Addr) (n c : Nat) (hv : v1 = .slice a n c) (x : Int) :
    Calls Tryz.prog 66 #[.agg #[v1, v2, v3], .int .i64 x] w fun e w' => e = .returned (.bool (decide (0 ≤ x ∧ x < (n : Int)))) ∧ Below w.heap.size w w' := by
  subst hv
  have B0 := ((Below.refl w.heap.size w).alloc (Nat.le_refl _) (.cells #[.slice a n c, v2, v3] 44))
  by_cases h1 : 0 ≤ x
  · by_cases h2 : x < n
    · rw [decide_eq_true (And.intro h1 h2)]
      have HB := hid B0
      clear B0
      go_enter Tryz.func66, Tryz.ntmps66
      go_wp2
      go_ret
      exact ⟨rfl, HB.out⟩
    · rw [decide_eq_false (fun h => h2 h.2)]
      have HB := hid B0
      clear B0
      go_enter Tryz.func66, Tryz.ntmps66
      go_wp2
      go_ret
      exact ⟨rfl, HB.out⟩
  · rw [decide_eq_false (fun h => h1 h.1)]
    have HB := hid B0
    clear B0
    go_enter Tryz.func66, Tryz.ntmps66
    go_wp2
    go_ret
    exact ⟨rfl, HB.out⟩

end Go.Proofs.YtlhnkdogafnnpaaGreat.Mem

namespace Go.Proofs.YtlhnkdogafnnpaaGreat.Mem
open Go.RowKit
set_option linter.unusedVariables false

set_option maxRecDepth 100000 in
set_option maxHeartbeats 2000000 in
theorem implDiskOk (w : World) (v : Value) (D : Dk) (h : DkR w v D) (hd : D.Held) :
    Calls Tryz.prog 32 #[v] w fun e w' => e = .returned (.bool D.right) ∧ Below w.heap.size w w' := by
  obtain ⟨a1, c1, a2, c2, a3, c3, rfl, s1, s2, s3⟩ := h
  obtain ⟨l1, l2, l3⟩ := D
  have HS1 := hid s1
  have HS2 := hid s2
  have HS3 := hid s3
  have d1 : l1.length ≤ 9223372036854775807 := hd.h1
  have d2 : l2.length ≤ 9223372036854775807 := hd.h2
  have d3 : l3.length ≤ 9223372036854775807 := hd.h3
  have HD := hid hd
  clear s1 s2 s3 hd
  simp only []
  have no : ¬ (Dk.mk l1 l2 l3).Right → (Dk.mk l1 l2 l3).right = false := Dk.right_no
  have yes : (Dk.mk l1 l2 l3).Right → (Dk.mk l1 l2 l3).right = true := Dk.right_yes
  generalize (Dk.mk l1 l2 l3).right = q at *
  have HN := hid no
  have HY := hid yes
  clear no yes
  go_enter Tryz.func32, Tryz.ntmps32
  obtain ⟨w1, hwb, ez, A0, B0⟩ := one_new w [.slice a1 l1.length c1, .slice a2 l2.length c2, .slice a3 l3.length c3] 44
  have HB := hid B0
  have HA := hid A0
  have k1 := A0.c 1 rfl
  have k2 := A0.c 2 rfl
  have k0 := A0.c 0 rfl
  clear A0 B0
  by_cases g1 : (l1.length : Int) < 1
  · have HN := hid (HN.out (by intro x; have := x.n1; simp only [] at *; omega))
    go_wp2
    go_ret
    exact ⟨by rw [HN.out]; rfl, HB.out⟩
  by_cases g1b : 40 < (l1.length : Int)
  · have HN := hid (HN.out (by intro x; have := x.n2; simp only [] at *; omega))
    go_wp2
    go_ret
    exact ⟨by rw [HN.out]; rfl, HB.out⟩
  by_cases g2 : ¬ (l2.length : Int) = 3
  · have HN := hid (HN.out (by intro x; have := x.e3; simp only [] at *; omega))
    go_wp2
    go_ret
    exact ⟨by rw [HN.out]; rfl, HB.out⟩
  replace g2 := Classical.not_not.mp g2
  by_cases g3 : 40 < (l3.length : Int)
  · have HN := hid (HN.out (by intro x; have := x.p40; simp only [] at *; omega))
    go_wp2
    go_ret
    exact ⟨by rw [HN.out]; rfl, HB.out⟩
  go_wp2
  clear hwb
  go_loop [34] (fun i => ∃ k : Nat, k ≤ l1.length ∧ i = .int .i64 (k : Int) ∧ Hid (∀ j, j < k → ((l1.getD j ByteArray.empty).size : Int) ≤ 700)) (fun i => l1.length - (intOf i).toNat)
  case atStart => exact ⟨0, Nat.zero_le _, rfl, fun j hj => by omega⟩
  case round =>
    obtain ⟨k, hk, rfl, HJ⟩ := hrel
    by_cases hlt : k < l1.length
    · obtain ⟨b, off, rfl, hc⟩ := (HS1.out.below HB.out) k hlt
      replace hc : w1.cell? ⟨b, off + k, none⟩ = some (.string (l1.getD k ByteArray.empty)) := hc
      generalize hx : l1.getD k ByteArray.empty = x at hc
      have HX := hid hx
      clear hx
      go_wp2_with fail
      refine (fitsSector x w1).mono ?_
      rintro e w1' ⟨rfl, hw⟩
      subst hw
      by_cases hn : (x.size : Int) ≤ 700
      · have hn' := decide_eq_true hn
        go_wp2
        exact ⟨⟨k + 1, by omega, by go_num, fun j hj => by
          by_cases h : j = k
          · subst h; rw [HX.out]; exact hn
          · exact HJ.out j (by omega)⟩, by simp [intOf]; omega⟩
      · have hn' := decide_eq_false hn
        have HN := hid (HN.out (by intro q; have := q.s k hlt; simp only [HX.out] at this; exact hn this))
        clear hn
        go_wp2
        go_ret
        exact ⟨by rw [HN.out]; rfl, HB.out⟩
    obtain rfl : k = l1.length := by omega
    go_wp2
    go_loop [45] (fun i => ∃ k : Nat, k ≤ l2.length ∧ i = .int .i64 (k : Int) ∧ Hid (∀ j, j < k → 1 ≤ l2.getD j 0 ∧ l2.getD j 0 ≤ 100000)) (fun i => l2.length - (intOf i).toNat)
    case atStart => exact ⟨0, Nat.zero_le _, rfl, fun j hj => by omega⟩
    case round =>
      obtain ⟨k, hk, rfl, HE⟩ := hrel
      by_cases hlt : k < l2.length
      · obtain ⟨b, off, rfl, hc⟩ := (HS2.out.below HB.out) k hlt
        replace hc : w1.cell? ⟨b, off + k, none⟩ = some (.int .i64 (l2.getD k 0)) := hc
        generalize hx : l2.getD k 0 = x at hc
        have HX := hid hx
        clear hx
        by_cases hn : x < 1
        · have HN := hid (HN.out (by intro q; have := q.e k hlt; simp only [HX.out] at this; omega))
          go_wp2
          go_ret
          exact ⟨by rw [HN.out]; rfl, HB.out⟩
        by_cases hm : 100000 < x
        · have HN := hid (HN.out (by intro q; have := q.e k hlt; simp only [HX.out] at this; omega))
          go_wp2
          go_ret
          exact ⟨by rw [HN.out]; rfl, HB.out⟩
        go_wp2
        exact ⟨⟨k + 1, by omega, by go_num, fun j hj => by
          by_cases h : j = k
          · subst h; rw [HX.out]; omega
          · exact HE.out j (by omega)⟩, by simp [intOf]; omega⟩
      obtain rfl : k = l2.length := by omega
      go_wp2
      go_loopw [59] (fun i wr => ∃ k : Nat, k ≤ l3.length ∧ i = .int .i64 (k : Int) ∧ Hid (∀ j, j < k → (l3.getD j Wt.none).okIn (Dk.mk l1 l2 l3)) ∧ Hid (Below w1.heap.size w1 wr)) (fun i _ => l3.length - (intOf i).toNat)
      case atStart => exact ⟨0, Nat.zero_le _, rfl, fun j hj => by omega, Below.refl _ _⟩
      case round =>
        obtain ⟨k, hk, rfl, HP, HB'⟩ := hrel
        have A0 := HA.out.below HB'.out HA.out.lt
        have HBw := hid (HB.out.trans (HB'.out.mono HB.out.size))
        have m0 := A0.c 0 rfl
        have m1 := A0.c 1 rfl
        have m2 := A0.c 2 rfl
        by_cases hlt : k < l3.length
        · obtain ⟨b, off, rfl, x0, x1, x2, x3⟩ := Wts.at_ (HS3.out.below HBw.out) k hlt
          generalize hx : l3.getD k Wt.none = x at x0 x1 x2 x3
          have HX := hid hx
          clear hx
          have HA' := hid A0
          clear A0
          obtain ⟨xh, xe, xs, xt⟩ := x
          simp only [] at x0 x1 x2 x3
          go_wp2
          obtain ⟨wa, hwa, ea, R0, B0⟩ := one_new wr [.int .i64 xh, .int .i64 xe, .int .i64 xs, .string xt] 87
          simp only [hwa]
          clear hwa
          have HB1 := hid (HB'.out.trans (B0.mono HB'.out.size))
          have HBw1 := hid (HB.out.trans (HB1.out.mono HB.out.size))
          replace m0 := (HA'.out.below B0 HA'.out.lt).c 0 rfl
          replace m1 := (HA'.out.below B0 HA'.out.lt).c 1 rfl
          replace m2 := (HA'.out.below B0 HA'.out.lt).c 2 rfl
          have y0 := R0.c 0 rfl
          have y1 := R0.c 1 rfl
          have y2 := R0.c 2 rfl
          have y3 := R0.c 3 rfl
          clear x0 x1 x2 x3 k0 k1 k2 B0 R0 ea
          by_cases q1 : ¬ (0 ≤ xh ∧ xh < 3)
          · have q1' := decide_eq_false q1
            have HN := hid (HN.out (by intro q; have := (q.p k hlt).1; simp only [HX.out] at this; exact q1 this))
            clear q1
            go_quiet ((go_at_call 60; refine Calls.quiet_of_same (isHost _ _)))
            go_wp2
            go_ret
            exact ⟨by rw [HN.out]; rfl, below_drewN HBw1.out _⟩
          replace q1 := Classical.not_not.mp q1
          have q1' := decide_eq_true q1
          have HQ1 := hid q1
          obtain ⟨n, rfl⟩ : ∃ n : Nat, xh = (n : Int) := Int.eq_ofNat_of_zero_le q1.1
          have hn3 : (n : Int) < 3 := q1.2
          clear q1
          obtain ⟨b2, o2, rfl, hc⟩ := (HS2.out.below HBw1.out) n (by omega)
          replace hc : wa.cell? ⟨b2, o2 + n, none⟩ = some (.int .i64 (l2.getD n 0)) := hc
          generalize hy : l2.getD n 0 = y at hc
          have HYE := hid hy
          clear hy
          by_cases q2 : ¬ xe = y
          · have q2' := decide_eq_false q2
            have HN := hid (HN.out (by intro q; have := (q.p k hlt).2.1; simp only [HX.out, Int.toNat_natCast, HYE.out] at this; exact q2 this))
            go_quiet ((go_at_call 60; refine Calls.quiet_of_same (isHost _ _)))
            go_wp2
            go_ret
            exact ⟨by rw [HN.out]; rfl, below_drewN HBw1.out _⟩
          obtain rfl := Classical.not_not.mp q2
          clear q2
          replace m0 := BW.cell m0
          replace m1 := BW.cell m1
          replace m2 := BW.cell m2
          replace y0 := BW.cell y0
          replace y1 := BW.cell y1
          replace y2 := BW.cell y2
          replace y3 := BW.cell y3
          replace hc := BW.cell hc
          have hne : Nonempty (BW wa) := ⟨⟨wa, Below.refl _ _⟩⟩
          have q0 : (0 : Int) ≤ (n : Int) := Int.natCast_nonneg n
          have q00 : (n : Int) < (l2.length : Int) := by omega
          by_cases q3 : ¬ (0 ≤ xs ∧ xs < (l1.length : Int))
          · have q3' := decide_eq_false q3
            have HN := hid (HN.out (by intro q; have := (q.p k hlt).2.2.1; have := (q.p k hlt).2.2.2.1; simp only [HX.out] at *; exact q3 ⟨by assumption, by assumption⟩))
            clear q3
            refine wp_region_bw (by kernel_rfl) (by kernel_rfl) ?_
            repeat (go_big_quiet_step (first
              | (go_at_call 60; refine bw_same (isHost _ _))
              | (go_at_call 65; refine bw_same (fitsSector _ _))
              | (go_at_call 66; refine bw_below (isSector _ _ _ _ _ _ _ rfl _))))
            refine wpQuiet_nil ?_
            intro _ hw'
            obtain ⟨u, hw''⟩ := hw'
            subst hw''
            go_wp2
            go_ret
            exact ⟨by rw [HN.out]; rfl, HBw1.out.trans (u.bel.mono HBw1.out.size)⟩
          replace q3 := Classical.not_not.mp q3
          have q3' := decide_eq_true q3
          have HQ3 := hid q3
          clear q3
          by_cases q5 : ¬ (xt.size : Int) ≤ 700
          · have q5' := decide_eq_false q5
            have HN := hid (HN.out (by intro q; have := (q.p k hlt).2.2.2.2; simp only [HX.out] at this; exact q5 this))
            clear q5
            refine wp_region_bw (by kernel_rfl) (by kernel_rfl) ?_
            repeat (go_big_quiet_step (first
              | (go_at_call 60; refine bw_same (isHost _ _))
              | (go_at_call 65; refine bw_same (fitsSector _ _))
              | (go_at_call 66; refine bw_below (isSector _ _ _ _ _ _ _ rfl _))))
            refine wpQuiet_nil ?_
            intro _ hw'
            obtain ⟨u, hw''⟩ := hw'
            subst hw''
            go_wp2
            go_ret
            exact ⟨by rw [HN.out]; rfl, HBw1.out.trans (u.bel.mono HBw1.out.size)⟩
          replace q5 := Classical.not_not.mp q5
          have q5' := decide_eq_true q5
          have HQ5 := hid q5
          clear q5
          refine wp_region_bw (by kernel_rfl) (by kernel_rfl) ?_
          repeat (go_big_quiet_step (first
            | (go_at_call 60; refine bw_same (isHost _ _))
            | (go_at_call 65; refine bw_same (fitsSector _ _))
            | (go_at_call 66; refine bw_below (isSector _ _ _ _ _ _ _ rfl _))))
          refine wpQuiet_nil ?_
          intro _ hw'
          obtain ⟨u, hw''⟩ := hw'
          subst hw''
          go_wp2
          exact ⟨⟨k + 1, by omega, by go_num, fun j hj => by
            by_cases h : j = k
            · subst h
              rw [HX.out]
              exact ⟨HQ1.out, by simpa using HYE.out.symm, HQ3.out.1, HQ3.out.2, HQ5.out⟩
            · exact HP.out j (by omega), HB1.out.trans (u.bel.mono HB1.out.size)⟩, by simp [intOf]; omega⟩
        obtain rfl : k = l3.length := by omega
        have HY := hid (HY.out ⟨by show 1 ≤ l1.length; omega, by show l1.length ≤ 40; omega, by show l2.length = 3; omega, by show l3.length ≤ 40; omega, HJ.out, HE.out, HP.out⟩)
        go_wp2
        go_ret
        exact ⟨by rw [HY.out]; rfl, HBw.out⟩

end Go.Proofs.YtlhnkdogafnnpaaGreat.Mem

namespace Go.Proofs.YtlhnkdogafnnpaaGreat.Mem
open Go.RowKit
set_option linter.unusedVariables false

/-- What a host sees is the last of its writes, or what stands. -/
theorem see_q (D : Dk) (h s : Int) : ∀ k, D.see h s k = match (qAt D.pe k h s).getLast? with | some i => (D.pe.getD i Wt.none).text | none => D.sec.getD s.toNat ByteArray.empty
  | 0 => rfl
  | k + 1 => by
    have e := congrFun (congrFun (qAt_succ D.pe k) h) s
    have ih := see_q D h s k
    show (if (D.pe.getD k Wt.none).host = h ∧ (D.pe.getD k Wt.none).sector = s then (D.pe.getD k Wt.none).text else D.see h s k) = _
    by_cases c : (D.pe.getD k Wt.none).host = h ∧ (D.pe.getD k Wt.none).sector = s
    · rw [if_pos c, e, ← c.1, ← c.2, upd_same]
      simp
    · rw [if_neg c, e, upd_other _ _ (fun q => c ⟨q.1.symm, q.2.symm⟩)]
      exact ih

theorem qAt_mem {l : List Wt} {k : Nat} {h s : Int} {i : Nat} (hi : i ∈ qAt l k h s) : i < k ∧ (l.getD i Wt.none).host = h ∧ (l.getD i Wt.none).sector = s := by
  unfold qAt at hi
  obtain ⟨h1, h2⟩ := List.mem_filter.1 hi
  have := of_decide_eq_true h2
  exact ⟨by simpa using h1, this.1, this.2⟩

theorem Dk.Right.okK {D : Dk} (h : D.Right) : ∀ j, j < D.pe.length → OkK (D.pe.getD j Wt.none).host (D.pe.getD j Wt.none).sector := fun j hj => by
  have := h.p j hj
  have h2 := h.n2
  exact ⟨this.1, this.2.2.1, by have := this.2.2.2.1; omega⟩

/-- Cell i of a queue. -/
theorem q_cell {w : World} {B : Nat} {v : Value} {l : List Nat} {g n cap : Nat} (r : RowO w B 3 1 v l.length (qCells l)) (hv : v = .slice (some ⟨g, 0, none⟩) n cap) (i : Nat) (hi : i < l.length) : w.cell? ⟨g, i, none⟩ = some (.int .i64 ((l.getD i 0 : Nat) : Int)) := by
  obtain ⟨a, c, e, hw⟩ := r.wr
  rw [hv] at e
  cases e
  obtain ⟨b, off, e2, _, hc, _⟩ := hw i (by omega)
  cases e2
  rw [Nat.zero_add] at hc
  rw [hc]
  unfold qCells
  simp [List.getD, hi]

end Go.Proofs.YtlhnkdogafnnpaaGreat.Mem

namespace Go.Proofs
open Go.Shelf
def Tryz.lays189_ren : Go.Shelf.Ren := ⟨fun | 189 => 80 | 125 => 86 | 257 => 85 | 128 => 96 | 129 => 97 | 294 => 87 | 295 => 88 | 296 => 89 | 297 => 90 | 298 => 91 | 299 => 92 | 216 => 93 | 300 => 94 | 301 => 95 | 328 => 98 | 329 => 99 | 330 => 100 | 331 => 101 | 332 => 102 | 215 => 103 | 343 => 104 | n => n, fun | 28 => 30 | 3 => 3 | 46 => 114 | 0 => 0 | 51 => 125 | 53 => 127 | 4 => 4 | 183 => 117 | 182 => 116 | 131 => 122 | 5 => 5 | 9 => 9 | 218 => 128 | 222 => 132 | 228 => 134 | 229 => 135 | n => n, fun | n => n⟩
theorem Tryz.lays189 : Go.Proofs.Lays.n189 Tryz.prog Tryz.lays189_ren := {
  mixed := by kernel_rfl
  f125 := Tryz.func86.trans (congrArg some (by kernel_rfl))
  f128 := Tryz.func96.trans (congrArg some (by kernel_rfl))
  f129 := Tryz.func97.trans (congrArg some (by kernel_rfl))
  f189 := Tryz.func80.trans (congrArg some (by kernel_rfl))
  f215 := Tryz.func103.trans (congrArg some (by kernel_rfl))
  f216 := Tryz.func93.trans (congrArg some (by kernel_rfl))
  f257 := Tryz.func85.trans (congrArg some (by kernel_rfl))
  f294 := Tryz.func87.trans (congrArg some (by kernel_rfl))
  f295 := Tryz.func88.trans (congrArg some (by kernel_rfl))
  f296 := Tryz.func89.trans (congrArg some (by kernel_rfl))
  f297 := Tryz.func90.trans (congrArg some (by kernel_rfl))
  f298 := Tryz.func91.trans (congrArg some (by kernel_rfl))
  f299 := Tryz.func92.trans (congrArg some (by kernel_rfl))
  f300 := Tryz.func94.trans (congrArg some (by kernel_rfl))
  f301 := Tryz.func95.trans (congrArg some (by kernel_rfl))
  f328 := Tryz.func98.trans (congrArg some (by kernel_rfl))
  f329 := Tryz.func99.trans (congrArg some (by kernel_rfl))
  f330 := Tryz.func100.trans (congrArg some (by kernel_rfl))
  f331 := Tryz.func101.trans (congrArg some (by kernel_rfl))
  f332 := Tryz.func102.trans (congrArg some (by kernel_rfl))
  f343 := Tryz.func104.trans (congrArg some (by kernel_rfl))
  t0 := Tryz.underlying0
  a0 := Tryz.isAgg0
  z0 := Tryz.sizeOf0
  v0 := Tryz.zeroValue0
  t3 := Tryz.underlying3
  a3 := Tryz.isAgg3
  z3 := Tryz.sizeOf3
  v3 := Tryz.zeroValue3
  t4 := Tryz.underlying4
  a4 := Tryz.isAgg4
  z4 := Tryz.sizeOf4
  v4 := Tryz.zeroValue4
  t5 := Tryz.underlying5
  a5 := Tryz.isAgg5
  z5 := Tryz.sizeOf5
  v5 := Tryz.zeroValue5
  t9 := Tryz.underlying9
  a9 := Tryz.isAgg9
  z9 := Tryz.sizeOf9
  v9 := Tryz.zeroValue9
  t28 := Tryz.underlying30
  a28 := Tryz.isAgg30
  z28 := Tryz.sizeOf30
  v28 := Tryz.zeroValue30
  t46 := Tryz.underlying114
  a46 := Tryz.isAgg114
  z46 := Tryz.sizeOf114
  v46 := Tryz.zeroValue114
  t51 := Tryz.underlying125
  a51 := Tryz.isAgg125
  z51 := Tryz.sizeOf125
  v51 := Tryz.zeroValue125
  t53 := Tryz.underlying127
  a53 := Tryz.isAgg127
  z53 := Tryz.sizeOf127
  v53 := Tryz.zeroValue127
  t131 := Tryz.underlying122
  a131 := Tryz.isAgg122
  z131 := Tryz.sizeOf122
  v131 := Tryz.zeroValue122
  t182 := Tryz.underlying116
  a182 := Tryz.isAgg116
  z182 := Tryz.sizeOf116
  v182 := Tryz.zeroValue116
  t183 := Tryz.underlying117
  a183 := Tryz.isAgg117
  z183 := Tryz.sizeOf117
  v183 := Tryz.zeroValue117
  t218 := Tryz.underlying128
  a218 := Tryz.isAgg128
  z218 := Tryz.sizeOf128
  v218 := Tryz.zeroValue128
  t222 := Tryz.underlying132
  a222 := Tryz.isAgg132
  z222 := Tryz.sizeOf132
  v222 := Tryz.zeroValue132
  t228 := Tryz.underlying134
  a228 := Tryz.isAgg134
  z228 := Tryz.sizeOf134
  v228 := Tryz.zeroValue134
  t229 := Tryz.underlying135
  a229 := Tryz.isAgg135
  z229 := Tryz.sizeOf135
  v229 := Tryz.zeroValue135 }
end Go.Proofs

namespace Go.Proofs.YtlhnkdogafnnpaaGreat.Mem
open Go.RowKit Go.Sort
set_option linter.unusedVariables false

def zOf (l : List Nat) : List Int := l.map (fun (i : Nat) => (i : Int))
theorem zOf_length (l : List Nat) : (zOf l).length = l.length := by simp [zOf]
theorem qCells_zOf (l : List Nat) : qCells l = (zOf l).map (Value.int .i64) := by simp [qCells, zOf]

theorem QM.more {w : World} {B b n : Nat} {Q : Int → Int → List Nat} {D : DataW Value} {V : Int → Int → Value} (q : QM w B b n Q D V) : QM w B b (n + 1) Q D V := ⟨q.own.mono (Nat.le_succ _), q.lt, q.has, q.at_, q.row, q.apart, q.only⟩

/-- The block of a row that is not empty. -/
theorem RowO.block {w : World} {B : Nat} {e : TypeId} {g n c : Nat} {xs : List Value} (h : RowO w B e 1 (.slice (some ⟨g, 0, none⟩) n (c + 1)) n xs) :
    ∃ cur, w.heap[g]? = some (.cells cur e (0, 0)) ∧ B ≤ g ∧ n ≤ c + 1 ∧ c + 1 ≤ maxLen ∧ cur.size = (c + 1) * 1 ∧ cur.toList.take n = xs := by
  rcases h with ⟨_, e, _⟩ | ⟨h, _⟩
  · cases e
  · rcases h.2 with ⟨e, _⟩ | ⟨g', cap', cur, e, hB, hb, h1, h2, h3, h4⟩
    · cases e
    · cases e
      exact ⟨cur, hb, hB, h1, h2, h3, by simpa using h4⟩

theorem grow_nil (w : World) : grow w #[] = w := by cases w; simp [grow]

theorem kept_putRow (w : World) (g q : Nat) (d : Array Int) : Kept (fun b => b = g) w (putRow (Value.int .i64) (Sort.ahead w q) g 0 d) := by
  have h := grownBy_sortedI (w := w) (g := g) (n := q) (os := #[]) d
  have e : grow (putRow (Value.int .i64) (Sort.ahead w q) g 0 d) #[] = putRow (Value.int .i64) (Sort.ahead w q) g 0 d := grow_nil _
  rw [e] at h
  exact ⟨h.os, h.tape, h.output, h.size, fun k hk hn => h.block k hk (fun x => hn (by cases x; rfl))⟩

theorem zOf_erase (l : List Nat) (i : Nat) : (zOf l).take i ++ (zOf l).drop (i + 1) = zOf (l.eraseIdx i) := by
  rw [List.eraseIdx_eq_take_drop_succ]
  unfold zOf
  simp

/-- Behind a deletion. -/
theorem row_deleted {w : World} {B g c i q : Nat} {l : List Nat} (r : RowO w B 3 1 (.slice (some ⟨g, 0, none⟩) l.length (c + 1)) l.length (qCells l)) (hi : i < l.length) :
    RowO (putRow (Value.int .i64) (Sort.ahead w q) g 0 ((zOf l).take i ++ (zOf l).drop (i + 1) ++ List.replicate (i + 1 - i) 0).toArray) B 3 1 (.slice (some ⟨g, 0, none⟩) (l.length - 1) (c + 1)) (l.eraseIdx i).length (qCells (l.eraseIdx i)) := by
  obtain ⟨cur, hb, hB, h1, h2, h3, h4⟩ := r.block
  have hle : (l.eraseIdx i).length = l.length - 1 := List.length_eraseIdx_of_lt hi
  rw [zOf_erase]
  have hh := heap_sortedI (w := w) (g := g) (n := q) (os := #[]) (zOf (l.eraseIdx i) ++ List.replicate (i + 1 - i) 0).toArray hb
  have e : grow (putRow (Value.int .i64) (Sort.ahead w q) g 0 (zOf (l.eraseIdx i) ++ List.replicate (i + 1 - i) 0).toArray) #[] = putRow (Value.int .i64) (Sort.ahead w q) g 0 (zOf (l.eraseIdx i) ++ List.replicate (i + 1 - i) 0).toArray := grow_nil _
  rw [e] at hh
  have hlen : (zOf (l.eraseIdx i) ++ List.replicate (i + 1 - i) (0 : Int)).length = l.length := by
    rw [List.length_append, zOf_length, List.length_replicate, hle]
    omega
  have ht := take_putCellsI cur (zOf (l.eraseIdx i) ++ List.replicate (i + 1 - i) 0) (by rw [hlen, h3]; omega)
  refine Or.inr ⟨⟨by simp [qCells], Or.inr ⟨g, c + 1, _, by rw [hle], hB, hh, by omega, h2, by simp [putCells, h3], ?_⟩⟩, _, c, by rw [hle]⟩
  rw [hlen] at ht
  have : (putCells (Value.int .i64) 0 (zOf (l.eraseIdx i) ++ List.replicate (i + 1 - i) 0).toArray cur).toList.take (l.eraseIdx i).length = (((zOf (l.eraseIdx i) ++ List.replicate (i + 1 - i) 0).map (Value.int .i64))).take (l.eraseIdx i).length := by
    rw [← ht, List.take_take]
    congr 1
    omega
  rw [Nat.mul_one, this, List.map_append, qCells_zOf, List.take_append_of_le_length (by rw [List.length_map, zOf_length]; exact Nat.le_refl _), List.take_of_length_le (by rw [List.length_map, zOf_length]; exact Nat.le_refl _)]

theorem holds_row {w : World} {B g c : Nat} {l : List Nat} (r : RowO w B 3 1 (.slice (some ⟨g, 0, none⟩) l.length (c + 1)) l.length (qCells l)) : Holds (Value.int .i64) w g 0 (zOf l).toArray := by
  obtain ⟨cur, hb, hB, h1, h2, h3, h4⟩ := r.block
  exact holds_of_blockI hb (by rw [zOf_length, h4, qCells_zOf])

end Go.Proofs.YtlhnkdogafnnpaaGreat.Mem

namespace Go.Proofs.YtlhnkdogafnnpaaGreat.Mem
open Go.RowKit Go.Maps
set_option linter.unusedVariables false

/-- Each number in a queue is that of a write of that host to that sector; no number stands twice. -/
structure QOk (l : List Wt) (Q : Int → Int → List Nat) : Prop where
  mem : ∀ h s, OkK h s → ∀ i, i ∈ Q h s → i < l.length ∧ (l.getD i Wt.none).host = h ∧ (l.getD i Wt.none).sector = s
  nodup : ∀ h s, OkK h s → (Q h s).Nodup

theorem nodup_filter {α : Type} {l : List α} {p : α → Bool} (h : l.Nodup) : (l.filter p).Nodup := List.Pairwise.filter _ h

theorem qOk_at (l : List Wt) : QOk l (qAt l l.length) := ⟨fun h s _ i hi => qAt_mem hi, fun h s _ => nodup_filter List.nodup_range⟩

theorem QOk.erase {l : List Wt} {Q : Int → Int → List Nat} (q : QOk l Q) (h s : Int) (zs : List Nat) (hz : ∀ x ∈ zs, x ∈ Q h s) (hn : OkK h s → zs.Nodup) : QOk l (upd Q h s zs) := by
  refine ⟨fun h' s' hk i hi => ?_, fun h' s' hk => ?_⟩
  · by_cases e : h' = h ∧ s' = s
    · obtain ⟨rfl, rfl⟩ := e
      rw [upd_same] at hi
      exact q.mem h' s' hk i (hz i hi)
    · rw [upd_other _ _ e] at hi
      exact q.mem h' s' hk i hi
  · by_cases e : h' = h ∧ s' = s
    · obtain ⟨rfl, rfl⟩ := e
      rw [upd_same]
      exact hn hk
    · rw [upd_other _ _ e]
      exact q.nodup h' s' hk

/-- What was collected while 'left' tells the keys still to come. -/
structure Col (Q : Int → Int → List Nat) (left : Lit → Bool) (L : List Nat) : Prop where
  nodup : L.Nodup
  mem : ∀ x, x ∈ L ↔ ∃ h s, OkK h s ∧ left (klq h s) = false ∧ x ∈ Q h s

theorem Col.start {Q : Int → Int → List Nat} {D : DataW Value} (h : ∀ h s, OkK h s → (Maps.has D (klq h s) = true ↔ Q h s ≠ [])) : Col Q (Maps.has D) [] :=
  ⟨List.nodup_nil, fun x => ⟨fun hx => absurd hx (by simp), fun ⟨h', s', hk, hl, hx⟩ => by
    have := (h h' s' hk).2 (fun e => by rw [e] at hx; simp at hx)
    rw [this] at hl
    cases hl⟩⟩

theorem Col.step {l : List Wt} {Q : Int → Int → List Nat} {left : Lit → Bool} {L : List Nat} (c : Col Q left L) (q : QOk l Q) {h s : Int} (hk : OkK h s) (hl : left (klq h s) = true) : Col Q (fun z => left z && !z.sameKey (klq h s)) (L ++ Q h s) := by
  have kl := keyedQ.key (key_of hk)
  refine ⟨List.nodup_append.2 ⟨c.nodup, q.nodup h s hk, fun a ha b hb e => ?_⟩, fun x => ?_⟩
  · subst e
    obtain ⟨h', s', hk', hl', hx⟩ := (c.mem a).1 ha
    have m1 := q.mem h s hk a hb
    have m2 := q.mem h' s' hk' a hx
    have e1 : h' = h := m2.2.1.symm.trans m1.2.1
    have e2 : s' = s := m2.2.2.symm.trans m1.2.2
    subst e1; subst e2
    rw [hl] at hl'
    cases hl'
  · rw [List.mem_append]
    constructor
    · rintro (hx | hx)
      · obtain ⟨h', s', hk', hl', hx⟩ := (c.mem x).1 hx
        exact ⟨h', s', hk', by simp [hl'], hx⟩
      · exact ⟨h, s, hk, by simp [WideAt.sameKey_self kl], hx⟩
    · rintro ⟨h', s', hk', hl', hx⟩
      by_cases e : h' = h ∧ s' = s
      · obtain ⟨rfl, rfl⟩ := e
        exact Or.inr hx
      · refine Or.inl ((c.mem x).2 ⟨h', s', hk', ?_, hx⟩)
        have : (klq h' s').sameKey (klq h s) = false := sameKey_ne (fun e' => e (klq_inj hk' hk e'))
        simpa [this] using hl'

/-- The numbers that are still in a queue, in their order. -/
def keptQ (l : List Wt) (Q : Int → Int → List Nat) : List Nat := (List.range l.length).filter (fun i => decide (i ∈ Q (l.getD i Wt.none).host (l.getD i Wt.none).sector))
/-- .. and their writes. -/
def leftW (l : List Wt) (Q : Int → Int → List Nat) : List Wt := (keptQ l Q).map (fun i => l.getD i Wt.none)

theorem Col.perm {l : List Wt} {Q : Int → Int → List Nat} {left : Lit → Bool} {L : List Nat} (c : Col Q left L) (q : QOk l Q) (ok : ∀ j, j < l.length → OkK (l.getD j Wt.none).host (l.getD j Wt.none).sector) (hl : ∀ kl, left kl = false) : L.Perm (keptQ l Q) := by
  refine (List.perm_ext_iff_of_nodup c.nodup (nodup_filter List.nodup_range)).2 (fun x => ?_)
  rw [c.mem, List.mem_filter]
  constructor
  · rintro ⟨h, s, hk, _, hx⟩
    have m := q.mem h s hk x hx
    exact ⟨by simpa using m.1, decide_eq_true (by rw [m.2.1, m.2.2]; exact hx)⟩
  · rintro ⟨h1, h2⟩
    exact ⟨_, _, ok x (by simpa using h1), hl _, of_decide_eq_true h2⟩

theorem Col.lt {l : List Wt} {Q : Int → Int → List Nat} {left : Lit → Bool} {L : List Nat} (c : Col Q left L) (q : QOk l Q) : ∀ x ∈ L, x < l.length := fun x hx => by
  obtain ⟨h, s, hk, _, hx⟩ := (c.mem x).1 hx
  exact (q.mem h s hk x hx).1

theorem nodup_le {n : Nat} {L : List Nat} (h : L.Nodup) (hx : ∀ x ∈ L, x < n) : L.length ≤ n := by
  have hp : L.Perm ((List.range n).filter (fun i => decide (i ∈ L))) := (List.perm_ext_iff_of_nodup h (nodup_filter List.nodup_range)).2 (fun x => by
    rw [List.mem_filter]
    exact ⟨fun h => ⟨by simpa using hx x h, decide_eq_true h⟩, fun h => of_decide_eq_true h.2⟩)
  rw [hp.length_eq]
  have := List.length_filter_le (fun i => decide (i ∈ L)) (List.range n)
  simpa using this

/-- Sorted, it is the numbers in their order. -/
theorem sorted_kept {l : List Wt} {Q : Int → Int → List Nat} {L : List Nat} (h : L.Perm (keptQ l Q)) : (zOf L).mergeSort (fun x y => decide (x ≤ y)) = zOf (keptQ l Q) := by
  have tr : ∀ a b c : Int, decide (a ≤ b) = true → decide (b ≤ c) = true → decide (a ≤ c) = true := fun a b c h1 h2 => by simp only [decide_eq_true_eq] at *; omega
  have tot : ∀ a b : Int, (decide (a ≤ b) || decide (b ≤ a)) = true := fun a b => by simp only [Bool.or_eq_true, decide_eq_true_eq]; omega
  refine List.Perm.eq_of_pairwise (le := fun a b => decide (a ≤ b) = true) (fun a b _ _ h1 h2 => by simp only [decide_eq_true_eq] at h1 h2; omega) (List.pairwise_mergeSort tr tot _) ?_ ((List.mergeSort_perm _ _).trans (h.map _))
  unfold zOf keptQ
  refine List.Pairwise.map (R := fun x y => x < y) _ (fun a b hab => by simp only [decide_eq_true_eq]; omega) (List.Pairwise.filter _ List.pairwise_lt_range)

end Go.Proofs.YtlhnkdogafnnpaaGreat.Mem

namespace Go.Proofs.YtlhnkdogafnnpaaGreat.Mem
open Go.RowKit Go.Maps Go.Sort
set_option linter.unusedVariables false

theorem kept_grown {r : Option Nat} {w w' : World} (k : Kept (fun b => r = some b) w w') : w.grownBy w' r := ⟨k.os, k.tape, k.output, k.size, fun i hi hne => k.block i hi (fun e => hne e.symm)⟩
theorem grown_kept {r : Option Nat} {w w' : World} (k : w.grownBy w' r) : Kept (fun b => r = some b) w w' := ⟨k.os, k.tape, k.output, k.size, fun i hi hne => k.block i hi (fun e => hne e.symm)⟩

/-- slices.Sort on a row of the call's own. -/
theorem sortRow (w : World) (B : Nat) (v : Value) (L S : List Nat) (r : RowO w B 3 1 v L.length (qCells L)) (hl : L.length ≤ 1048576) (hS : (zOf L).mergeSort (fun x y => decide (x ≤ y)) = zOf S) :
    Calls Tryz.prog 80 #[v] w fun e w' => e = .returned (.tuple #[]) ∧ RowO w' B 3 1 v L.length (qCells S) ∧ Kept (fun b => rb v = some b) w w' := by
  have hlen : S.length = L.length := by
    have := congrArg List.length hS
    rw [List.length_mergeSort, zOf_length, zOf_length] at this
    exact this.symm
  rcases Nat.eq_zero_or_pos L.length with h0 | h0
  · obtain ⟨a, c, e, _⟩ := r.wr
    have hLn : L = [] := List.eq_nil_of_length_eq_zero h0
    have hSn : S = [] := List.eq_nil_of_length_eq_zero (hlen.trans h0)
    subst hLn; subst hSn
    rw [e] at r ⊢
    refine (Any.slices_Sort_int_none Tryz.lays189 a c w).mono ?_
    rintro e w' ⟨rfl, rfl⟩
    exact ⟨rfl, r, Kept.refl _ _⟩
  · obtain ⟨g, c, e⟩ := r.form h0
    subst e
    obtain ⟨cur, hb, hB, h1, h2, h3, h4⟩ := r.block
    have hc := Any.slices_Sort_int Tryz.lays189 g 0 (c + 1) (zOf L) w (holds_row r) (r.lt (b := g) rfl).2 (by rw [zOf_length]; omega)
    rw [zOf_length] at hc
    refine hc.mono ?_
    rintro e w' ⟨rfl, n, os, hw'⟩
    rw [hS] at hw'
    have ho := ownsRow_sortedI (n := n) (os := os) (ss := zOf L) (ts := zOf S) (by rw [zOf_length, zOf_length, hlen]) hB hb (by rw [zOf_length]; exact h1) h2 h3
    have hg := grownBy_sortedI (w := w) (g := g) (n := n) (os := os) (zOf S).toArray
    rw [← hw'] at ho hg
    rw [zOf_length, ← qCells_zOf] at ho
    exact ⟨rfl, Or.inr ⟨ho, _, c, rfl⟩, (grown_kept hg).mono (fun b _ e => by cases e; rfl)⟩

theorem leftW_take (l : List Wt) (S : List Nat) (k : Nat) (hk : k < S.length) : (S.take (k + 1)).map (fun i => l.getD i Wt.none) = (S.take k).map (fun i => l.getD i Wt.none) ++ [l.getD (S.getD k 0) Wt.none] := by
  have e : S.getD k 0 = S[k] := by simp [List.getD, hk]
  rw [List.take_add_one, List.getElem?_eq_getElem hk, List.map_append, e]
  rfl

set_option maxRecDepth 100000 in
set_option maxHeartbeats 4000000 in
theorem left (w : World) (B b n : Nat) (Q : Int → Int → List Nat) (D : DataW Value) (V : Int → Int → Value) (q : QM w B b n Q D V) (a : Option Addr) (cap : Nat) (l : List Wt) (S : Wts w a l) (hl : l.length ≤ 40) (hk : ∀ j, j < l.length → OkK (l.getD j Wt.none).host (l.getD j Wt.none).sector) (hq : QOk l Q) :
    Calls Tryz.prog 68 #[.map (some b), .slice a l.length cap] w fun e w' => ∃ v', e = .returned v' ∧ RowO w' w.heap.size 87 4 v' (leftW l Q).length (wCells (leftW l Q)) ∧ Below w.heap.size w w' := by
  have HS := hid S
  have HK := hid hk
  have HQO := hid hq
  have HQ := hid q
  have hbl := q.own.lt
  clear S hk hq q
  go_enter Tryz.func68, Tryz.ntmps68
  go_wp2_with (at_range; refine wpList_range_own _ rfl _ 93 rfl 96 30 keyedQ Tryz.underlying93 Rid b n D rfl HQ.out.own ?_; intro w0 hrg0 hg0 hs0)
  go_frame
  have HR0 := hid hrg0
  have HG0 := hid hg0
  have HZ0 := hid hs0
  clear hrg0 hg0 hs0
  go_loopw [5] (fun v wr => ∃ left cnt L, Hid (RowO wr (w.heap.size + 1) 3 1 v L.length (qCells L)) ∧ Hid (wr.ranges Tryz.prog 96 Rid b w.heap.size n D left cnt) ∧ Hid (Col Q left L) ∧ Hid (Below w.heap.size w wr) ∧ Hid (w.heap.size + 1 ≤ wr.heap.size)) (fun _ wr => wr.rangeLeft b w.heap.size)
  case atStart => exact ⟨_, _, [], Or.inl ⟨_, rfl, rfl, rfl⟩, HR0.out, Col.start HQ.out.has, (Below.refl _ _).grown HG0.out (Nat.le_refl _) (fun j hj => by cases hj), hid (by rw [HZ0.out]; exact Nat.le_refl _)⟩
  case round =>
    obtain ⟨left, cnt, L, HRo, HRg, HC, HB, HZ⟩ := hrel
    obtain ⟨pa, pc, ev, _⟩ := HRo.out.wr
    subst ev
    go_wp2_with (at_next; refine wpList_next_ranges _ rfl _ rfl 96 keyedQ Rid (fun v => v) (fun v => v) (fun key kl _ => ⟨key, rfl⟩) (fun v y _ => ⟨v, rfl⟩) b w.heap.size n D left cnt rfl HRg.out ?_ ?_)
    · intro hc0 hl0
      have HP := hid (HC.out.perm HQO.out HK.out hl0)
      have HSo := hid (sorted_kept HP.out)
      have hLl : L.length ≤ 40 := Nat.le_trans (nodup_le HC.out.nodup (HC.out.lt HQO.out)) hl
      have HLl := hid hLl
      have HLe := hid (show (keptQ l Q).length = L.length from HP.out.length_eq.symm)
      have HX := hid (show ∀ k, k < (keptQ l Q).length → (keptQ l Q).getD k 0 < l.length from fun k hk => by
        have hm : (keptQ l Q).getD k 0 ∈ keptQ l Q := by rw [List.getD_eq_getElem?_getD, List.getElem?_eq_getElem hk]; exact List.getElem_mem hk
        unfold keptQ at hm
        exact List.mem_range.1 (List.mem_filter.1 hm).1)
      have HLW := hid (show leftW l Q = ((keptQ l Q).take L.length).map (fun i => l.getD i Wt.none) from by rw [← HLe.out, List.take_length]; rfl)
      clear hc0 hl0 hLl
      generalize keptQ l Q = SS at *
      go_wp2_with fail
      refine (sortRow wr (w.heap.size + 1) _ L SS HRo.out (by have := HLl.out; omega) HSo.out).mono ?_
      rintro e w2 ⟨rfl, r2, k2⟩
      have HR2 := hid r2
      have HB2 := hid (HB.out.trans (k2.below HB.out.size (fun g hg e => by have := (HRo.out.lt e).1; omega)))
      have HZ2 := hid (show w.heap.size + 1 ≤ w2.heap.size from Nat.le_trans HZ.out k2.size)
      have HLn := hid HLl.out
      clear r2 k2
      generalize hm : L.length = m at *
      have hm40 : m ≤ 40 := HLl.out
      clear hm HP HSo HLl HRo HRg HC
      go_wp2
      go_loopw [8, 24] (fun o i wr => ∃ k : Nat, k ≤ m ∧ i = .int .i64 (k : Int) ∧ Hid (RowO wr w2.heap.size 87 4 o k (wCells ((SS.take k).map (fun i => l.getD i Wt.none)))) ∧ Hid (Below w2.heap.size w2 wr)) (fun _ i _ => m - (intOf i).toNat)
      case atStart => exact ⟨0, Nat.zero_le _, rfl, Or.inl ⟨_, rfl, rfl, by simp [wCells]⟩, Below.refl _ _⟩
      case round =>
        obtain ⟨k, hk, rfl, HO, HBr⟩ := hrel
        obtain ⟨oa, oc, eo, _⟩ := HO.out.wr
        subst eo
        by_cases hlt : k < m
        · have hkS : k < SS.length := by rw [HLe.out]; exact hlt
          obtain ⟨aa, cc, ea, hwa⟩ := HR2.out.wr
          cases ea
          obtain ⟨g, o, rfl, hc⟩ := hwa.sl k (by omega)
          have hcv : (qCells SS).getD k undef = .int .i64 ((SS.getD k 0 : Nat) : Int) := by unfold qCells; simp [List.getD, hkS]
          have hc2 := (HBr.out.cell (p := ⟨g, o + k, none⟩) (World.block_lt_of_cell? w2 _ hc)).trans hc
          replace hc2 : wr.cell? ⟨g, o + k, none⟩ = some (.int .i64 ((SS.getD k 0 : Nat) : Int)) := hc2.trans (congrArg some hcv)
          have hxl := HX.out k hkS
          have htk := hid (leftW_take l SS k hkS)
          generalize SS.getD k 0 = y at *
          have hy1 : (y : Int) < (l.length : Int) := by omega
          have hy0 : (0 : Int) ≤ (y : Int) := Int.natCast_nonneg y
          obtain ⟨b3, o3, rfl, x0, x1, x2, x3⟩ := Wts.at_ ((HS.out.below HB2.out).below HBr.out) y hxl
          generalize l.getD y Wt.none = u at *
          have HRa : Hid (∀ ob, RowO (wr.alloc ob) w2.heap.size 87 4 (.slice oa k oc) k (wCells ((SS.take k).map (fun i => l.getD i Wt.none)))) := fun ob => HO.out.below ((Below.refl _ _).alloc (Nat.le_refl _) ob)
          have HBa := hid (show ∀ ob, w2.heap.size ≤ (wr.alloc ob).heap.size from fun ob => by have := lt_alloc wr ob; have := HBr.out.size; omega)
          have HO2 := hid (fun g => HO.out.lt (b := g))
          clear hwa hc
          generalize (SS.take k).map (fun i => l.getD i Wt.none) = ol at *
          go_wp2_with (at_builtin; refine wpList_app 42 87 Wt.none.val 4 40 Tryz.underlying42 infoW rfl (by decide) (by decide) _ rfl (.tmp 28) (.tmp 33) rfl w2.heap.size _ k (wCells ol) rfl (HRa.out _) ⟨wr.heap.size, 0, none⟩ 1 1 u.cells rfl rfl (sl_lit wr u.cells 87 4 rfl) (by intro z hz; exact wCells_one [u] z (by simpa [wCells] using hz)) (by omega) (HBa.out _) ?_; intro v3 w3 r3 kk hi; obtain ⟨p3, d3, e3, _⟩ := r3.wr; subst e3; have HR3 := hid r3; have HK3 := hid kk; clear r3 kk hi)
          exact ⟨⟨k + 1, by omega, by go_num, by rw [htk.out, wCells_snoc]; exact HR3.out, (HBr.out.alloc HBr.out.size _).trans (HK3.out.below (HBa.out _) (fun g hg e => by have := (HO2.out g e).1; omega))⟩, by simp [intOf]; omega⟩
        obtain rfl : k = m := by omega
        go_wp2
        go_ret
        refine ⟨_, rfl, ?_, HB2.out.trans (HBr.out.mono HB2.out.size)⟩
        rw [HLW.out, List.length_map, List.length_take, HLe.out, Nat.min_self]
        exact HO.out.mono HB2.out.size
    · intro x c kl yd yp w1 cnt1 hkey hlk hv hat hrg1 hlt hg1 hs1 hen
      obtain ⟨h0, s0, hk0, rfl⟩ := HQ.out.only kl (Maps.has_true_of_atKey hat)
      have hyd : yd = .held c := by
        simp only [Rid, Option.some.injEq, Prod.mk.injEq] at hv
        exact hv.1.symm
      have hcV : c = V h0 s0 := by
        have e1 := HQ.out.at_ h0 s0 hk0
        rw [hat, hyd] at e1
        injection e1
      have hQne : Q h0 s0 ≠ [] := (HQ.out.has h0 s0 hk0).1 (Maps.has_true_of_atKey hat)
      have hrw := HQ.out.row h0 s0 hk0
      obtain ⟨g, cc, hVf⟩ := hrw.form (List.length_pos_iff.2 hQne)
      rw [hVf] at hcV hrw
      subst hcV
      have HC1 := hid (HC.out.step HQO.out hk0 hlk)
      have HB1 := hid (HB.out.grown hg1 HB.out.size (fun j hj => by cases hj; exact Nat.le_refl _))
      have hLl := nodup_le HC1.out.nodup (HC1.out.lt HQO.out)
      rw [List.length_append] at hLl
      have HRg1 := hid hrg1
      have HRo1 := hid (HRo.out.kept (grown_kept hg1) (fun y hy e => by have := (HRo.out.lt hy).1; cases e; omega))
      have HSl : Hid (Sl w1 (some ⟨g, 0, none⟩) ((Q h0 s0).length * 1) (fun i => (qCells (Q h0 s0)).getD i undef)) := by
        obtain ⟨_, _, ea, hwa⟩ := hrw.wr
        cases ea
        exact hwa.sl.below HB1.out
      have HZ1 := hid (show w.heap.size + 1 ≤ w1.heap.size from by rw [hs1]; exact HZ.out)
      have Hlt := hid hlt
      clear hs1 hg1 hrg1 hrw hVf hat hv hyd hkey hlt
      generalize Q h0 s0 = Z at *
      go_wp2_with (at_builtin; refine wpList_app 30 3 (.int .i64 0) 1 8 Tryz.underlying30 info3' rfl (by decide) (by decide) _ rfl (.tmp 17) (.tmp 18) rfl (w.heap.size + 1) _ L.length (qCells L) rfl HRo1.out ⟨g, 0, none⟩ Z.length (cc + 1) (qCells Z) rfl (by rw [qCells_length]; omega) HSl.out (by intro u hu; unfold qCells at hu; obtain ⟨z, _, rfl⟩ := List.mem_map.1 hu; rfl) (by omega) HZ1.out ?_; intro v3 w3 r3 kk hi; obtain ⟨p3, d3, e3, _⟩ := r3.wr; subst e3; have HR3 := hid r3; have HK3 := hid kk; clear r3 kk hi)
      have hrg3 := HRg1.out.kept (kept_grown HK3.out) (fun e => by have := (HRo1.out.lt e.symm).1; omega) (fun e => by have := (HRo1.out.lt e.symm).1; omega)
      exact ⟨⟨_, cnt1, L ++ Z, by rw [List.length_append, show qCells (L ++ Z) = qCells L ++ qCells Z from by simp [qCells]]; exact HR3.out, hrg3, HC1.out, HB1.out.trans (HK3.out.below HB1.out.size (fun g hg e => by have := (HRo1.out.lt e).1; omega)), hid (Nat.le_trans HZ1.out HK3.out.size)⟩, by rw [hrg3.left_eq, HRg.out.left_eq]; exact Hlt.out⟩

end Go.Proofs.YtlhnkdogafnnpaaGreat.Mem

namespace Go.Proofs.YtlhnkdogafnnpaaGreat.Mem
open Go.RowKit
set_option linter.unusedVariables false

theorem range_getD (l : List Wt) : (List.range l.length).map (fun i => l.getD i Wt.none) = l := by
  apply List.ext_getElem (by simp)
  intro i h1 h2
  simp [List.getD, h2]

theorem range'_getD (l : List Wt) : ∀ (n k : Nat), k + n = l.length → (List.range' k n).map (fun i => l.getD i Wt.none) = l.drop k
  | 0, k, h => by rw [List.drop_eq_nil_of_le (by omega)]; rfl
  | n + 1, k, h => by
    have hk : k < l.length := by omega
    rw [List.range'_succ, List.map_cons, range'_getD l n (k + 1) (by omega), List.drop_eq_getElem_cons hk]
    simp [List.getD, hk]

theorem split_range (n i : Nat) (h : i < n) : List.range n = List.range i ++ i :: List.range' (i + 1) (n - i - 1) := by
  rw [List.range_eq_range', List.range_eq_range', show n = i + ((n - i - 1) + 1) from by omega, List.range'_append_1.symm, Nat.zero_add, List.range'_succ]
  congr 3
  omega

/-- All but number i. -/
theorem but_one (l : List Wt) (i : Nat) (h : i < l.length) : ((List.range l.length).filter (fun j => decide (j ≠ i))).map (fun j => l.getD j Wt.none) = l.eraseIdx i := by
  have f1 : (List.range i).filter (fun j => decide (j ≠ i)) = List.range i := List.filter_eq_self.2 (fun j hj => by have := List.mem_range.1 hj; simp; omega)
  have f2 : (List.range' (i + 1) (l.length - i - 1)).filter (fun j => decide (j ≠ i)) = List.range' (i + 1) (l.length - i - 1) := List.filter_eq_self.2 (fun j hj => by have := (List.mem_range'_1.1 hj).1; simp; omega)
  have f3 : decide (i ≠ i) = false := by simp
  rw [split_range l.length i h, List.filter_append, List.filter_cons, f3, f1, f2, List.map_append, if_neg (by simp), range'_getD l _ _ (by omega), List.eraseIdx_eq_take_drop_succ]
  congr 1
  apply List.ext_getElem (by simp; omega)
  intro j h1 h2
  have hj : j < l.length := by simp at h1; omega
  simp [List.getD, hj]

theorem mem_qAt {l : List Wt} {i : Nat} (h : i < l.length) : i ∈ qAt l l.length (l.getD i Wt.none).host (l.getD i Wt.none).sector := by
  unfold qAt
  exact List.mem_filter.2 ⟨List.mem_range.2 h, decide_eq_true ⟨rfl, rfl⟩⟩

theorem qAt_lt (l : List Wt) (h s : Int) : (qAt l l.length h s).Pairwise (fun a b => a < b) := List.Pairwise.filter _ List.pairwise_lt_range
theorem qAt_nodup (l : List Wt) (h s : Int) : (qAt l l.length h s).Nodup := nodup_filter List.nodup_range

theorem erase_mem {Z : List Nat} (hn : Z.Nodup) (p : Nat) (hp : p < Z.length) (x : Nat) : x ∈ Z.eraseIdx p ↔ x ∈ Z ∧ x ≠ Z.getD p 0 := by
  have e : Z.getD p 0 = Z[p] := by simp [List.getD, hp]
  rw [e]
  have hz := List.getElem_cons_drop hp
  have hs : Z = Z.take p ++ Z[p] :: Z.drop (p + 1) := by rw [hz, List.take_append_drop]
  have hne : ∀ a ∈ Z.take p ++ Z.drop (p + 1), a ≠ Z[p] := by
    rw [hs] at hn
    obtain ⟨h1, h2, h3⟩ := List.nodup_append.1 hn
    intro a ha
    rcases List.mem_append.1 ha with ha | ha
    · exact h3 a ha _ List.mem_cons_self
    · exact fun e => (List.nodup_cons.1 h2).1 (by rw [← e]; exact ha)
  rw [List.eraseIdx_eq_take_drop_succ]
  constructor
  · intro hx
    refine ⟨?_, hne x hx⟩
    rcases List.mem_append.1 hx with hx | hx
    · exact List.mem_of_mem_take hx
    · exact List.mem_of_mem_drop hx
  · rintro ⟨hx, hn2⟩
    rw [hs] at hx
    rcases List.mem_append.1 hx with hx | hx
    · exact List.mem_append.2 (Or.inl hx)
    · rcases List.mem_cons.1 hx with hx | hx
      · exact absurd hx hn2
      · exact List.mem_append.2 (Or.inr hx)

/-- One number is struck from its queue. -/
theorem left_erase (l : List Wt) (i p : Nat) (hi : i < l.length) (hp : p < (qAt l l.length (l.getD i Wt.none).host (l.getD i Wt.none).sector).length) (he : (qAt l l.length (l.getD i Wt.none).host (l.getD i Wt.none).sector).getD p 0 = i) :
    leftW l (upd (qAt l l.length) (l.getD i Wt.none).host (l.getD i Wt.none).sector ((qAt l l.length (l.getD i Wt.none).host (l.getD i Wt.none).sector).eraseIdx p)) = l.eraseIdx i := by
  rw [← but_one l i hi]
  unfold leftW keptQ
  congr 1
  apply List.filter_congr
  intro j hj
  have hj := List.mem_range.1 hj
  apply decide_eq_decide.2
  by_cases e : (l.getD j Wt.none).host = (l.getD i Wt.none).host ∧ (l.getD j Wt.none).sector = (l.getD i Wt.none).sector
  · rw [e.1, e.2, upd_same, erase_mem (qAt_nodup _ _ _) p hp, he]
    have hm := mem_qAt hj
    rw [e.1, e.2] at hm
    exact ⟨fun h => h.2, fun h => ⟨hm, h⟩⟩
  · rw [upd_other _ _ e]
    exact ⟨fun _ e' => e (by rw [e']; exact ⟨rfl, rfl⟩), fun _ => mem_qAt hj⟩

theorem qOk_erase (l : List Wt) (h s : Int) (p : Nat) : QOk l (upd (qAt l l.length) h s ((qAt l l.length h s).eraseIdx p)) :=
  (qOk_at l).erase h s _ (fun x hx => List.mem_of_mem_eraseIdx hx) (fun _ => List.Pairwise.sublist (List.eraseIdx_sublist _ _) (qAt_nodup l h s))

/-- The first of a queue. -/
theorem first_q (l : List Wt) (i : Nat) (hi : i < l.length) : (qAt l l.length (l.getD i Wt.none).host (l.getD i Wt.none).sector).getD 0 0 = i ↔ ∀ j, j < i → ¬ ((l.getD j Wt.none).host = (l.getD i Wt.none).host ∧ (l.getD j Wt.none).sector = (l.getD i Wt.none).sector) := by
  have hm := mem_qAt hi
  have hlt := qAt_lt l (l.getD i Wt.none).host (l.getD i Wt.none).sector
  have hmem : ∀ x, x ∈ qAt l l.length (l.getD i Wt.none).host (l.getD i Wt.none).sector ↔ x < l.length ∧ (l.getD x Wt.none).host = (l.getD i Wt.none).host ∧ (l.getD x Wt.none).sector = (l.getD i Wt.none).sector := fun x =>
    ⟨fun h => qAt_mem h, fun h => by have := mem_qAt h.1; rw [h.2.1, h.2.2] at this; exact this⟩
  generalize qAt l l.length (l.getD i Wt.none).host (l.getD i Wt.none).sector = Z at *
  match Z, hm, hlt, hmem with
  | z :: r, hm, hlt, hmem =>
    have hmin : ∀ x ∈ z :: r, z ≤ x := fun x hx => by
      rcases List.mem_cons.1 hx with h | h
      · omega
      · exact Nat.le_of_lt ((List.pairwise_cons.1 hlt).1 x h)
    show z = i ↔ _
    constructor
    · rintro rfl j hj hs
      have := hmin j ((hmem j).2 ⟨by omega, hs⟩)
      omega
    · intro h
      have h1 := hmin i hm
      have h2 := (hmem z).1 (by simp)
      rcases Nat.lt_or_ge z i with h3 | h3
      · exact absurd h2.2 (h z h3)
      · omega

/-- The queues without those of host x to the first k sectors. -/
def qBut (Q : Int → Int → List Nat) (x : Int) (k : Nat) (h s : Int) : List Nat := if h = x ∧ s < (k : Int) then [] else Q h s

theorem qBut_succ (Q : Int → Int → List Nat) (x : Int) (k : Nat) (h s : Int) (h0 : OkK h s) : qBut Q x (k + 1) h s = upd (qBut Q x k) x (k : Int) [] h s := by
  unfold qBut upd
  by_cases e : h = x ∧ s = (k : Int)
  · rw [if_pos e, if_pos ⟨e.1, by omega⟩]
  · rw [if_neg e]
    show (if h = x ∧ s < ((k + 1 : Nat) : Int) then [] else Q h s) = (if h = x ∧ s < (k : Int) then [] else Q h s)
    by_cases e2 : h = x ∧ s < (k : Int)
    · rw [if_pos e2, if_pos ⟨e2.1, by omega⟩]
    · rw [if_neg e2, if_neg (fun q => e ⟨q.1, by have := q.2; have : ¬ s < (k : Int) := fun z => e2 ⟨q.1, z⟩; omega⟩)]

theorem qOk_but (l : List Wt) (x : Int) (k : Nat) : QOk l (qBut (qAt l l.length) x k) := by
  refine ⟨fun h s hk i hi => ?_, fun h s hk => ?_⟩
  · unfold qBut at hi
    split at hi
    · simp at hi
    · exact qAt_mem hi
  · unfold qBut
    split
    · exact List.nodup_nil
    · exact qAt_nodup l h s

/-- All of one host's are struck. -/
theorem left_but (l : List Wt) (x : Int) (n : Nat) (hs : ∀ j, j < l.length → (l.getD j Wt.none).sector < (n : Int)) : leftW l (qBut (qAt l l.length) x n) = others l x := by
  have e : keptQ l (qBut (qAt l l.length) x n) = (List.range l.length).filter (fun i => decide ((l.getD i Wt.none).host ≠ x)) := by
    unfold keptQ
    apply List.filter_congr
    intro j hj
    have hj := List.mem_range.1 hj
    apply decide_eq_decide.2
    unfold qBut
    by_cases e : (l.getD j Wt.none).host = x
    · rw [if_pos ⟨e, hs j hj⟩]
      exact ⟨fun h => absurd h (by simp), fun h => absurd e h⟩
    · rw [if_neg (fun q => e q.1)]
      exact ⟨fun _ => e, fun _ => mem_qAt hj⟩
  unfold leftW others
  rw [e]
  conv => rhs; rw [← range_getD l]
  rw [List.filter_map]
  congr 1

end Go.Proofs.YtlhnkdogafnnpaaGreat.Mem

namespace Go.Proofs.YtlhnkdogafnnpaaGreat.Mem
open Go.RowKit
set_option linter.unusedVariables false

set_option maxRecDepth 100000 in
set_option maxHeartbeats 2000000 in
theorem copyDisk (w : World) (v : Value) (D : Dk) (h : DkR w v D) (h1 : D.sec.length ≤ 1048576) (h2 : D.ep.length ≤ 1048576) (h3 : D.pe.length ≤ 1048576) :
    Calls Tryz.prog 35 #[v] w fun e w' => ∃ v', e = .returned v' ∧ DkO w' w.heap.size v' D ∧ Below w.heap.size w w' := by
  obtain ⟨a1, c1, a2, c2, a3, c3, rfl, s1, s2, s3⟩ := h
  have HS1 := hid (strs_sl s1)
  have HS2 := hid (ints_sl s2)
  have HS3 := hid (wts_sl s3)
  clear s1 s2 s3
  go_enter Tryz.func35, Tryz.ntmps35
  go_wp2
  obtain ⟨wc, hwc, ec, A0, R0, B0⟩ := two_new w [.slice a1 D.sec.length c1, .slice a2 D.ep.length c2, .slice a3 D.pe.length c3] [.slice none 0 0, .slice none 0 0, .slice none 0 0] 44 44
  simp only [hwc]
  clear hwc
  have k0 := A0.c 0 rfl
  have k1 := A0.c 1 rfl
  have k2 := A0.c 2 rfl
  have HB := hid B0
  have hn : w.heap.size + 1 ≤ wc.heap.size := by omega
  have hcp : CpRest wc w.heap.size wc.drew := ⟨(Below.refl _ wc).drew, fun j hj => by
    match j, hj with
    | 0, _ => exact ⟨_, R0.c 0 rfl⟩
    | 1, _ => exact ⟨_, R0.c 1 rfl⟩
    | 2, _ => exact ⟨_, R0.c 2 rfl⟩, fun j _ => R0.f j⟩
  have Q0 := hid (show wc.drew.cell? ⟨w.heap.size, 0, none⟩ = some (.slice a1 D.sec.length c1) ∧ wc.drew.cell? ⟨w.heap.size, 1, none⟩ = some (.slice a2 D.ep.length c2) ∧ wc.drew.cell? ⟨w.heap.size, 2, none⟩ = some (.slice a3 D.pe.length c3) ∧ CpRest wc w.heap.size wc.drew from ⟨k0, k1, k2, hcp⟩)
  clear A0 R0 B0 hcp k0 k1 k2
  go_region_held_law (fun w' => w'.cell? ⟨w.heap.size, 0, none⟩ = some (.slice a1 D.sec.length c1) ∧ w'.cell? ⟨w.heap.size, 1, none⟩ = some (.slice a2 D.ep.length c2) ∧ w'.cell? ⟨w.heap.size, 2, none⟩ = some (.slice a3 D.pe.length c3) ∧ CpRest wc w.heap.size w')
    (first | with_reducible exact Q0.out | with_reducible exact Q3.out | with_reducible exact Q2.out | with_reducible exact Q1.out | (with_reducible refine cp_alloc_drew hn ?_ _; with_reducible assumption) | (with_reducible refine cp_alloc hn ?_ _; with_reducible assumption) | (with_reducible refine cp_set (cp_set (cp_set ?_ 0 _) 1 _) 2 _; with_reducible assumption))
    (first
      | (refine step_app_empty 29 9 (.string ByteArray.empty) 1 16 Tryz.underlying29 info9' rfl (by decide) (by decide) rfl (.const (.slice none 0 0)) (.tmp 4) rfl _ rfl a1 D.sec.length c1 (sCells D.sec) rfl (by simp [sCells]) (cp_sl HS1.out HB.out rfl (by with_reducible assumption)) (sCells_one _) h1 ?_; intro v1 w1 r1 b1 z1 y1; replace r1 := r1.mono (cp_size (wc := wc) (n := w.heap.size) (x0 := .slice a1 D.sec.length c1) (x1 := .slice a2 D.ep.length c2) (x2 := .slice a3 D.pe.length c3) (by with_reducible assumption)); obtain ⟨p1, d1, e1, _⟩ := r1.wr; subst e1; have Q1 := hid (cp_below (wc := wc) (n := w.heap.size) (x0 := .slice a1 D.sec.length c1) (x1 := .slice a2 D.ep.length c2) (x2 := .slice a3 D.pe.length c3) hn b1 (by with_reducible assumption)); have R1 := hid r1; have Z1 := hid z1; have Y1 := hid y1; clear r1 b1 z1 y1)
      | (refine step_app_empty 42 87 Wt.none.val 4 40 Tryz.underlying42 infoW rfl (by decide) (by decide) rfl (.const (.slice none 0 0)) (.tmp 10) rfl _ rfl a3 D.pe.length c3 (wCells D.pe) rfl (wCells_length _) (cp_sl HS3.out HB.out rfl (by with_reducible assumption)) (wCells_one _) h3 ?_; intro v3 w3 r3 b3 z3 y3; replace r3 := r3.mono (cp_size (wc := wc) (n := w.heap.size) (x0 := .slice a1 D.sec.length c1) (x1 := .slice a2 D.ep.length c2) (x2 := .slice a3 D.pe.length c3) (by with_reducible assumption)); obtain ⟨p3, d3, e3, _⟩ := r3.wr; subst e3; have Q3 := hid (cp_below (wc := wc) (n := w.heap.size) (x0 := .slice a1 D.sec.length c1) (x1 := .slice a2 D.ep.length c2) (x2 := .slice a3 D.pe.length c3) hn b3 (by with_reducible assumption)); have T23 := hid (show Below w2.heap.size w2 w3 from (by first | with_reducible exact b3 | with_reducible exact below_a1 b3 | with_reducible exact below_a2 b3)); have R1'' := hid (R1'.out.below T23.out); have R2' := hid (R2.out.below T23.out); have S23 := hid (apart_fresh Z2.out Y2.out z3 y3 (by first | with_reducible exact Nat.le_refl _ | with_reducible exact Nat.le_of_lt (lt_alloc _ _) | with_reducible exact Nat.le_of_lt (Nat.lt_trans (lt_alloc _ _) (lt_alloc _ _)))); have S13 := hid (apart_fresh Z1.out Y1.out z3 y3 (Nat.le_trans T12.out.size (by first | with_reducible exact Nat.le_refl _ | with_reducible exact Nat.le_of_lt (lt_alloc _ _) | with_reducible exact Nat.le_of_lt (Nat.lt_trans (lt_alloc _ _) (lt_alloc _ _))))); obtain ⟨u0, g0⟩ := Q3.out.2.2.2.s 0 (by decide); obtain ⟨u1, g1⟩ := Q3.out.2.2.2.s 1 (by decide); obtain ⟨u2, g2⟩ := Q3.out.2.2.2.s 2 (by decide); have f0 := Q3.out.2.2.2.f 0 (by decide); have f1 := Q3.out.2.2.2.f 1 (by decide); have f2 := Q3.out.2.2.2.f 2 (by decide); have R3 := hid r3; have Z3 := hid z3; have Y3 := hid y3; clear r3 b3 z3 y3)
      | (refine step_app_empty 30 3 (.int .i64 0) 1 8 Tryz.underlying30 info3' rfl (by decide) (by decide) rfl (.const (.slice none 0 0)) (.tmp 7) rfl _ rfl a2 D.ep.length c2 (iCells D.ep) rfl (by simp [iCells]) (cp_sl HS2.out HB.out rfl (by with_reducible assumption)) (iCells_one _) h2 ?_; intro v2 w2 r2 b2 z2 y2; replace r2 := r2.mono (cp_size (wc := wc) (n := w.heap.size) (x0 := .slice a1 D.sec.length c1) (x1 := .slice a2 D.ep.length c2) (x2 := .slice a3 D.pe.length c3) (by with_reducible assumption)); obtain ⟨p2, d2, e2, _⟩ := r2.wr; subst e2; have Q2 := hid (cp_below (wc := wc) (n := w.heap.size) (x0 := .slice a1 D.sec.length c1) (x1 := .slice a2 D.ep.length c2) (x2 := .slice a3 D.pe.length c3) hn b2 (by with_reducible assumption)); have T12 := hid (show Below w1.heap.size w1 w2 from (by first | with_reducible exact b2 | with_reducible exact below_a1 b2 | with_reducible exact below_a2 b2)); have R1' := hid (R1.out.below T12.out); have S12 := hid (apart_fresh Z1.out Y1.out z2 y2 (by first | with_reducible exact Nat.le_refl _ | with_reducible exact Nat.le_of_lt (lt_alloc _ _) | with_reducible exact Nat.le_of_lt (Nat.lt_trans (lt_alloc _ _) (lt_alloc _ _)))); have R2 := hid r2; have Z2 := hid z2; have Y2 := hid y2; clear r2 b2 z2 y2))
  all_goals clear Q0
  all_goals (go_wp2; refine bodyPost_ret (results_mid rfl _ _ (w.heap.size + 1) [.slice p1 D.sec.length d1, .slice p2 D.ep.length d2, .slice p3 D.pe.length d3] _ rfl (range3 g0 g1 g2) Tryz.underlying44 rfl (by kernel_rfl)) rfl ?_; exact ⟨_, rfl, copy_end ec HB.out Q3.out.2.2.2.bel R1''.out R2'.out R3.out S12.out S13.out S23.out⟩)

end Go.Proofs.YtlhnkdogafnnpaaGreat.Mem

namespace Go.Proofs.YtlhnkdogafnnpaaGreat.Mem
open Go.RowKit
set_option linter.unusedVariables false

structure ISt (w : World) (a0 a1 a2 : Value) (B nn : Nat) (p0 p1 p2 : Value) (E : Dk) (wk : World) : Prop where
  bel : Below w.heap.size w wk
  ra : Row wk w.heap.size [a0, a1, a2]
  rr : Row wk (w.heap.size + 1) [.slice none 0 0, .slice none 0 0, .slice none 0 0]
  rn : Row wk nn [p0, p1, p2]
  o : DkO wk B (.agg #[p0, p1, p2]) E
  lb : w.heap.size + 1 < B
  ln : B ≤ nn
  far : ∀ b, DkB (.agg #[p0, p1, p2]) b → b ≠ nn

theorem ISt.below {w : World} {a0 a1 a2 : Value} {B nn : Nat} {p0 p1 p2 : Value} {E : Dk} {wk w' : World} (h : ISt w a0 a1 a2 B nn p0 p1 p2 E wk) (b : Below wk.heap.size wk w') : ISt w a0 a1 a2 B nn p0 p1 p2 E w' :=
  ⟨h.bel.trans (b.mono h.bel.size), h.ra.below b h.ra.lt, h.rr.below b h.rr.lt, h.rn.below b h.rn.lt, h.o.below b, h.lb, h.ln, h.far⟩

theorem ISt.cells {w : World} {a0 a1 a2 : Value} {B nn : Nat} {p0 p1 p2 : Value} {E : Dk} {wk : World} (h : ISt w a0 a1 a2 B nn p0 p1 p2 E wk) :
    wk.cell? ⟨w.heap.size, 0, none⟩ = some a0 ∧ wk.cell? ⟨w.heap.size, 1, none⟩ = some a1 ∧ wk.cell? ⟨w.heap.size, 2, none⟩ = some a2 ∧
    wk.cell? ⟨w.heap.size + 1, 0, none⟩ = some (.slice none 0 0) ∧ wk.cell? ⟨w.heap.size + 1, 1, none⟩ = some (.slice none 0 0) ∧ wk.cell? ⟨w.heap.size + 1, 2, none⟩ = some (.slice none 0 0) ∧
    wk.frozen? ⟨w.heap.size + 1, 0, none⟩ = false ∧ wk.frozen? ⟨w.heap.size + 1, 1, none⟩ = false ∧ wk.frozen? ⟨w.heap.size + 1, 2, none⟩ = false ∧
    wk.cell? ⟨nn, 0, none⟩ = some p0 ∧ wk.cell? ⟨nn, 1, none⟩ = some p1 ∧ wk.cell? ⟨nn, 2, none⟩ = some p2 ∧ wk.frozen? ⟨nn, 2, none⟩ = false :=
  ⟨h.ra.c 0 rfl, h.ra.c 1 rfl, h.ra.c 2 rfl, h.rr.c 0 rfl, h.rr.c 1 rfl, h.rr.c 2 rfl, h.rr.f 0, h.rr.f 1, h.rr.f 2, h.rn.c 0 rfl, h.rn.c 1 rfl, h.rn.c 2 rfl, h.rn.f 2⟩

/-- The own disk is handed back. -/
theorem ISt.done {w : World} {a0 a1 a2 : Value} {B nn : Nat} {p0 p1 p2 : Value} {E : Dk} {wk : World} (h : ISt w a0 a1 a2 B nn p0 p1 p2 E wk) :
    DkW (((wk.setCell ⟨w.heap.size + 1, 0, none⟩ p0).setCell ⟨w.heap.size + 1, 1, none⟩ p1).setCell ⟨w.heap.size + 1, 2, none⟩ p2) w.heap.size (.agg #[p0, p1, p2]) E ∧
    Below w.heap.size w (((wk.setCell ⟨w.heap.size + 1, 0, none⟩ p0).setCell ⟨w.heap.size + 1, 1, none⟩ p1).setCell ⟨w.heap.size + 1, 2, none⟩ p2) ∧
    Row (((wk.setCell ⟨w.heap.size + 1, 0, none⟩ p0).setCell ⟨w.heap.size + 1, 1, none⟩ p1).setCell ⟨w.heap.size + 1, 2, none⟩ p2) (w.heap.size + 1) [p0, p1, p2] :=
  wrap_end h.lb h.bel h.o (Below.refl _ _) h.rr

theorem ISt.start {w w1 w2 wn : World} {a0 a1 a2 p0 p1 p2 : Value} {E : Dk} (HB : Below w.heap.size w w1) (HA : Row w1 w.heap.size [a0, a1, a2]) (HR : Row w1 (w.heap.size + 1) [.slice none 0 0, .slice none 0 0, .slice none 0 0])
    (O : DkO w2 w1.heap.size (.agg #[p0, p1, p2]) E) (b2 : Below w1.heap.size w1 w2) (N0 : Row wn w2.heap.size [p0, p1, p2]) (bn : Below w2.heap.size w2 wn) : ISt w a0 a1 a2 w1.heap.size w2.heap.size p0 p1 p2 E wn :=
  ⟨(HB.trans (b2.mono HB.size)).trans (bn.mono (Nat.le_trans HB.size b2.size)), (HA.below b2 HA.lt).below bn (HA.below b2 HA.lt).lt, (HR.below b2 HR.lt).below bn (HR.below b2 HR.lt).lt, N0, O.below bn, HR.lt, b2.size, fun b hb => by have := (O.lt hb).2; omega⟩

theorem Row.otherK {S : Nat → Prop} {w w' : World} {g : Nat} {xs : List Value} (h : Row w g xs) (k : Kept S w w') (hg : ¬ S g) : Row w' g xs := h.kept k hg

/-- A sector of the own disk is stored. -/
theorem ISt.setSec {w : World} {a0 a1 a2 : Value} {B nn : Nat} {g n cap i : Nat} {p1 p2 : Value} {E : Dk} {wk : World} (h : ISt w a0 a1 a2 B nn (.slice (some ⟨g, 0, none⟩) n (cap + 1)) p1 p2 E wk) (hi : i < E.sec.length) (t : ByteArray) :
    ISt w a0 a1 a2 B nn (.slice (some ⟨g, 0, none⟩) n (cap + 1)) p1 p2 ⟨E.sec.set i t, E.ep, E.pe⟩ (wk.setCell ⟨g, i, none⟩ (.string t)) := by
  have hg := h.o.lt (b := g) ⟨_, _, _, rfl, Or.inl rfl⟩
  have hf := h.far g ⟨_, _, _, rfl, Or.inl rfl⟩
  have k := kept_set wk g i (.string t)
  have := h.lb
  exact ⟨below_set h.bel g i _ (by omega), h.ra.kept k (by omega), h.rr.kept k (by omega), h.rn.kept k (fun e => hf e.symm), h.o.setSec hi t, h.lb, h.ln, h.far⟩

/-- An epoch of the own disk is stored. -/
theorem ISt.setEp {w : World} {a0 a1 a2 : Value} {B nn : Nat} {g n cap i : Nat} {p0 p2 : Value} {E : Dk} {wk : World} (h : ISt w a0 a1 a2 B nn p0 (.slice (some ⟨g, 0, none⟩) n (cap + 1)) p2 E wk) (hi : i < E.ep.length) (z : Int) :
    ISt w a0 a1 a2 B nn p0 (.slice (some ⟨g, 0, none⟩) n (cap + 1)) p2 ⟨E.sec, E.ep.set i z, E.pe⟩ (wk.setCell ⟨g, i, none⟩ (.int .i64 z)) := by
  have hg := h.o.lt (b := g) ⟨_, _, _, rfl, Or.inr (Or.inl rfl)⟩
  have hf := h.far g ⟨_, _, _, rfl, Or.inr (Or.inl rfl)⟩
  have k := kept_set wk g i (.int .i64 z)
  have := h.lb
  exact ⟨below_set h.bel g i _ (by omega), h.ra.kept k (by omega), h.rr.kept k (by omega), h.rn.kept k (fun e => hf e.symm), h.o.setEp hi z, h.lb, h.ln, h.far⟩

/-- Another list of writes is laid into the own disk. -/
theorem ISt.setPend {w : World} {a0 a1 a2 : Value} {B nn : Nat} {p0 p1 p2 v : Value} {E : Dk} {wk w2 : World} {l : List Wt} (h : ISt w a0 a1 a2 B nn p0 p1 p2 E wk) (b : Below wk.heap.size wk w2) (r : RowO w2 wk.heap.size 87 4 v l.length (wCells l)) :
    ISt w a0 a1 a2 B nn p0 p1 v ⟨E.sec, E.ep, l⟩ (w2.setCell ⟨nn, 2, none⟩ v) := by
  have hn := h.rn.lt
  have hB : B ≤ wk.heap.size := by have := h.ln; omega
  have o2 := h.o.swapped b hB r
  have far : ∀ c, DkB (.agg #[p0, p1, v]) c → c ≠ nn := by
    rintro c ⟨_, _, _, e, hc⟩
    cases e
    rcases hc with hc | hc | hc
    · exact h.far c ⟨_, _, _, rfl, Or.inl hc⟩
    · exact h.far c ⟨_, _, _, rfl, Or.inr (Or.inl hc)⟩
    · have := (r.lt hc).1; omega
  have k := kept_set w2 nn 2 v
  have := h.lb
  have := h.ln
  have h2 := h.below b
  exact ⟨below_set h2.bel nn 2 _ (by omega), h2.ra.kept k (by omega), h2.rr.kept k (by omega), by simpa using h2.rn.set 2 v, o2.kept k (fun c hc => far c hc), h.lb, h.ln, far⟩

/-- A write is appended to the own disk's. -/
theorem ISt.app {w : World} {a0 a1 a2 : Value} {B nn : Nat} {p0 p1 p2 v : Value} {E : Dk} {wk wa w2 : World} {x : Wt} (h : ISt w a0 a1 a2 B nn p0 p1 p2 E wk) (b : Below wk.heap.size wk wa) (k : Kept (fun b => rb p2 = some b) wa w2)
    (r : RowO w2 B 87 4 v (E.pe.length + 1) (wCells E.pe ++ x.cells)) (hi : rb v = none ∨ rb v = rb p2 ∨ (rb v = some wa.heap.size ∧ wa.heap.size < w2.heap.size)) :
    ISt w a0 a1 a2 B nn p0 p1 v ⟨E.sec, E.ep, E.pe ++ [x]⟩ (w2.setCell ⟨nn, 2, none⟩ v) := by
  have ha := h.below b
  have o2 := h.o.more1 b k r hi
  have hn := h.rn.lt
  have hsz := b.size
  have far : ∀ c, DkB (.agg #[p0, p1, v]) c → c ≠ nn := by
    rintro c ⟨_, _, _, e, hc⟩
    cases e
    rcases hc with hc | hc | hc
    · exact h.far c ⟨_, _, _, rfl, Or.inl hc⟩
    · exact h.far c ⟨_, _, _, rfl, Or.inr (Or.inl hc)⟩
    · rcases hi with e | e | e
      · rw [e] at hc; cases hc
      · rw [e] at hc; exact h.far c ⟨_, _, _, rfl, Or.inr (Or.inr hc)⟩
      · rw [e.1] at hc; cases hc; omega
  have p2B : ∀ c, rb p2 = some c → B ≤ c := fun c hc => (h.o.lt ⟨_, _, _, rfl, Or.inr (Or.inr hc)⟩).1
  have p2n : ¬ rb p2 = some nn := fun e => h.far nn ⟨_, _, _, rfl, Or.inr (Or.inr e)⟩ rfl
  have k2 := kept_set w2 nn 2 v
  have := h.lb
  have := h.ln
  have n2 := ha.rn.kept k p2n
  refine ⟨below_set (ha.bel.trans (k.below ha.bel.size (fun c hc e => by have := p2B c e; omega))) nn 2 _ (by omega), (ha.ra.kept k (fun e => by have := p2B _ e; omega)).kept k2 (by omega), (ha.rr.kept k (fun e => by have := p2B _ e; omega)).kept k2 (by omega), by simpa using n2.set 2 v, o2.kept k2 (fun c hc => far c hc), h.lb, h.ln, far⟩

end Go.Proofs.YtlhnkdogafnnpaaGreat.Mem

namespace Go.Proofs.YtlhnkdogafnnpaaGreat.Mem
open Go.RowKit
set_option linter.unusedVariables false

theorem QM.congr {w : World} {B b n : Nat} {Q Q' : Int → Int → List Nat} {D : DataW Value} {V : Int → Int → Value} (q : QM w B b n Q D V) (e : ∀ h s, OkK h s → Q h s = Q' h s) : QM w B b n Q' D V :=
  ⟨q.own, q.lt, fun h s hk => by rw [← e h s hk]; exact q.has h s hk, q.at_, fun h s hk => by rw [← e h s hk]; exact q.row h s hk, q.apart, q.only⟩

theorem wts_of' {w : World} {a1 a2 a3 : Option Addr} {n1 n2 n3 c1 c2 c3 : Nat} {D : Dk} (h : DkR w (.agg #[.slice a1 n1 c1, .slice a2 n2 c2, .slice a3 n3 c3]) D) : Wts w a3 D.pe ∧ Ints w a2 D.ep := by
  obtain ⟨_, _, _, _, _, _, e, _, s2, s3⟩ := h
  cases e
  exact ⟨s3, s2⟩

theorem ISt.epCell {w : World} {a0 a1 a2 : Value} {B nn : Nat} {p0 : Value} {p1 p2 : Value} {E : Dk} {wk : World} (h : ISt w a0 a1 a2 B nn p0 p1 p2 E wk) {i : Nat} (hi : i < E.ep.length) :
    ∃ g c, p1 = .slice (some ⟨g, 0, none⟩) E.ep.length (c + 1) ∧ wk.cell? ⟨g, i, none⟩ = some (.int .i64 (E.ep.getD i 0)) ∧ wk.frozen? ⟨g, i, none⟩ = false := by
  have ho := h.o
  obtain ⟨_, _, _, ev, _, r2, _⟩ := ho
  cases ev
  obtain ⟨g, c, e⟩ := r2.form (by omega)
  subst e
  obtain ⟨aa, cp, e1, hw⟩ := r2.wr
  cases e1
  obtain ⟨b, off, e2, _, hc2, hf2⟩ := hw i (by omega)
  cases e2
  rw [Nat.zero_add] at hc2 hf2
  exact ⟨g, c, rfl, hc2.trans (congrArg some (iCells_at _ i hi)), hf2⟩

set_option maxRecDepth 100000 in
set_option maxHeartbeats 4000000 in
theorem implFence (w : World) (v : Value) (D : Dk) (x : Int) (h : DkR w v D) (hd : D.Held) (hs : D.Small 1048576) :
    Calls Tryz.prog 33 #[v, .int .i64 x] w fun e w' => ∃ v', e = .returned (.tuple #[v', .bool (D.fenceA x).2]) ∧ DkW w' w.heap.size v' (D.fenceA x).1 ∧ Below w.heap.size w w' := by
  have HH := hid h
  have HD := hid hd
  have HS := hid hs
  obtain ⟨a1, c1, a2, c2, a3, c3, rfl, _, _, _⟩ := h
  clear hd hs
  obtain ⟨wb, hwb, ez, A0, R0, B0⟩ := two_new w [.slice a1 D.sec.length c1, .slice a2 D.ep.length c2, .slice a3 D.pe.length c3] [.slice none 0 0, .slice none 0 0, .slice none 0 0] 44 44
  have k0 := A0.c 0 rfl
  have k1 := A0.c 1 rfl
  have k2 := A0.c 2 rfl
  go_enter Tryz.func33, Tryz.ntmps33
  go_wp2_with fail
  refine (implDiskOk wb _ D (HH.out.below B0) HD.out).mono ?_
  rintro e w1 ⟨rfl, b1⟩
  have HA := hid (A0.below b1 A0.lt)
  have HR := hid (R0.below b1 R0.lt)
  have HB := hid (B0.trans (b1.mono B0.size))
  clear A0 R0 B0 b1 hwb ez k0 k1 k2
  have m0 := HR.out.c 0 rfl
  have m1 := HR.out.c 1 rfl
  have m2 := HR.out.c 2 rfl
  have f0 := HR.out.f 0
  have f1 := HR.out.f 1
  have f2 := HR.out.f 2
  by_cases hr : ¬ D.right = true
  · have HP : Hid (D.fenceA x = (Dk.nil, false)) := if_neg hr
    have hr' : D.right = false := by simpa using hr
    clear hr
    have E := hid (wrap_bad HB.out HR.out)
    go_wp2
    refine bodyPost_ret (results_row2 rfl _ _ (w.heap.size + 1) [.slice none 0 0, .slice none 0 0, .slice none 0 0] _ rfl E.out.2.2 Tryz.underlying44 rfl (by kernel_rfl)) rfl ?_
    rw [HP.out]
    exact ⟨_, rfl, E.out.1, E.out.2.1⟩
  replace hr := Classical.not_not.mp hr
  have HP : Hid (D.fenceA x = D.fence x) := if_pos hr
  have HT := hid (Dk.of_right hr)
  have k0 := HA.out.c 0 rfl
  have k1 := HA.out.c 1 rfl
  have k2 := HA.out.c 2 rfl
  go_wp2_with fail
  refine (copyDisk w1 _ D (HH.out.below HB.out) HS.out.c1 HS.out.c2 HS.out.c3).mono ?_
  rintro e w2 ⟨v2, rfl, O2, b2⟩
  have HO2 := hid O2
  obtain ⟨u1, u2, u3, rfl, r1, r2, r3, _, _⟩ := O2
  obtain ⟨p1, q1, e1, _⟩ := r1.wr
  obtain ⟨p2, q2, e2, _⟩ := r2.wr
  obtain ⟨p3, q3, e3, _⟩ := r3.wr
  subst e1; subst e2; subst e3
  clear r1 r2 r3 m0 m1 m2 f0 f1 f2 k0 k1 k2
  obtain ⟨wn, hwn, en, N0, Bn⟩ := one_new w2 [.slice p1 D.sec.length q1, .slice p2 D.ep.length q2, .slice p3 D.pe.length q3] 44
  have I := hid (ISt.start HB.out HA.out HR.out HO2.out b2 N0 Bn)
  have HDn := hid (HH.out.below I.out.bel)
  clear HO2 b2 N0 Bn en HA HR HB
  obtain ⟨k0, k1, k2, m0, m1, m2, f0, f1, f2, n0, n1, n2, n3⟩ := I.out.cells
  have HFd := hid (show D.fence x = if (0 ≤ x ∧ x < 3) ∧ D.ep.getD x.toNat 0 < 100000 then (⟨D.sec, D.ep.set x.toNat (D.ep.getD x.toNat 0 + 1), others D.pe x⟩, true) else (D, false) from rfl)
  go_wp2_with fail
  refine (isHost x wn).mono ?_
  rintro e wm ⟨rfl, hw⟩
  subst hw
  by_cases g1 : ¬ (0 ≤ x ∧ x < 3)
  · have g1' := decide_eq_false g1
    have HP1 := hid (HP.out.trans (HFd.out.trans (if_neg (fun q => g1 q.1))))
    have E := hid I.out.done
    clear g1
    go_wp2
    refine bodyPost_ret (results_row2 rfl _ _ (w.heap.size + 1) [.slice p1 D.sec.length q1, .slice p2 D.ep.length q2, .slice p3 D.pe.length q3] _ rfl E.out.2.2 Tryz.underlying44 rfl (by kernel_rfl)) rfl ?_
    rw [HP1.out]
    exact ⟨_, rfl, E.out.1, E.out.2.1⟩
  replace g1 := Classical.not_not.mp g1
  have g1' := decide_eq_true g1
  have HG1 := hid g1
  obtain ⟨n, rfl⟩ : ∃ n : Nat, x = (n : Int) := Int.eq_ofNat_of_zero_le g1.1
  have hn3 : (n : Int) < 3 := g1.2
  have hn0 : (0 : Int) ≤ (n : Int) := Int.natCast_nonneg n
  clear g1
  simp only [Int.toNat_natCast] at HFd
  have hnl : n < D.ep.length := by have := HT.out.e3; omega
  have hnI : (n : Int) < (D.ep.length : Int) := by omega
  have hye := HT.out.e n hnl
  obtain ⟨b2, o2, rfl, hc⟩ := (wts_of' HDn.out).2 n hnl
  replace hc : wm.cell? ⟨b2, o2 + n, none⟩ = some (.int .i64 (D.ep.getD n 0)) := hc
  obtain ⟨gg, cc, ef, hcu, hfu⟩ := I.out.epCell (i := n) hnl
  cases ef
  generalize hy : D.ep.getD n 0 = y at *
  have HY := hid hy
  clear hy
  by_cases g2 : y = 100000
  · have HP1 := hid (HP.out.trans (HFd.out.trans (if_neg (fun q => by have := q.2; omega))))
    have E := hid I.out.done
    subst g2
    clear hcu hfu
    go_wp2
    refine bodyPost_ret (results_row2 rfl _ _ (w.heap.size + 1) [.slice p1 D.sec.length q1, .slice (some ⟨gg, 0, none⟩) D.ep.length (cc + 1), .slice p3 D.pe.length q3] _ rfl E.out.2.2 Tryz.underlying44 rfl (by kernel_rfl)) rfl ?_
    rw [HP1.out]
    exact ⟨_, rfl, E.out.1, E.out.2.1⟩
  have HP1 := hid (HP.out.trans (HFd.out.trans (if_pos ⟨HG1.out, by omega⟩)))
  have I5 := hid (I.out.setEp (i := n) hnl (y + 1))
  obtain ⟨w5, hw5⟩ : ∃ w5, wm.setCell ⟨gg, n, none⟩ (.int .i64 (y + 1)) = w5 := ⟨_, rfl⟩
  rw [hw5] at I5
  have HD5 := hid (HH.out.below I5.out.bel)
  have l2 := I5.out.ra.c 2 rfl
  have l0 := I5.out.ra.c 0 rfl
  have hy1 : y ≤ 100000 := by omega
  have hy0 : 1 ≤ y := by omega
  go_wp2_with fail
  refine (queuesOf w5 a3 c3 D.pe (wts_of' HD5.out).1 HT.out.p40 HT.out.okK).mono ?_
  rintro e w6 ⟨rfl, ⟨nq, M, V, hnq, q⟩, b6⟩
  have HQ6 : Hid (∃ M V, QM w6 (w5.heap.size + 1) w5.heap.size nq (qBut (qAt D.pe D.pe.length) n 0) M V) := ⟨M, V, q.congr (fun h s hk => (if_neg (fun z => by have := z.2; have := hk.2.1; omega)).symm)⟩
  have HB6 := hid b6
  have hq6 := hid q.own.lt
  have I6 := hid (I5.out.below b6)
  have hsl : (D.sec.length : Int) ≤ 40 := by have := HT.out.n2; omega
  clear q b6 hw5 hwn hcu hfu hc l0 l2 k0 k1 k2 m0 m1 m2 f0 f1 f2 n0 n1 n2 n3 I
  obtain ⟨k0, k1, k2, m0, m1, m2, f0, f1, f2, n0, n1, n2, n3⟩ := I6.out.cells
  go_wp2
  clear k0 k1 k2 m0 m1 m2 f0 f1 f2 n0 n1 n2 n3
  go_loopw [40] (fun i wr => ∃ k : Nat, k ≤ D.sec.length ∧ i = .int .i64 (k : Int) ∧ Hid (∃ M V, QM wr (w5.heap.size + 1) w5.heap.size nq (qBut (qAt D.pe D.pe.length) n k) M V) ∧ Hid (Below w5.heap.size w5 wr)) (fun i _ => D.sec.length - (intOf i).toNat)
  case atStart => exact ⟨0, Nat.zero_le _, rfl, HQ6.out, HB6.out⟩
  case round =>
    obtain ⟨k, hk, rfl, HQr, HBr⟩ := hrel
    by_cases hlt : k < D.sec.length
    · obtain ⟨Mr, Vr, qr⟩ := HQr.out
      have hok : OkK (n : Int) (k : Int) := ⟨⟨hn0, hn3⟩, Int.natCast_nonneg k, by omega⟩
      obtain ⟨w7, hr7, q7, k7⟩ := qr.drop (w2 := wr) hok (Kept.refl _ _) 0
      have hd : ∀ ty, (Builtin.delete_ #[93, 96] ty #[.map (some w5.heap.size), .agg #[.int .i64 (n : Int), .int .i64 (k : Int)]]).run Tryz.prog wr = .ok (.tuple #[]) w7 := fun ty => hr7
      have HQ7 := hid (q7.congr (fun h s hk' => (qBut_succ (qAt D.pe D.pe.length) n k h s hk').symm))
      have HK7 := hid k7
      clear qr q7 k7 hr7 hok
      go_wp2
      exact ⟨⟨k + 1, by omega, by go_num, ⟨_, _, HQ7.out⟩, HBr.out.trans (HK7.out.below HBr.out.size (fun g hg e => by omega))⟩, by simp [intOf]; omega⟩
    obtain rfl : k = D.sec.length := by omega
    have I7 := hid (I5.out.below HBr.out)
    have HD7 := hid (HH.out.below I7.out.bel)
    have k2 := I7.out.ra.c 2 rfl
    obtain ⟨Mr, Vr, qr⟩ := HQr.out
    have HQR := hid qr
    clear qr
    go_wp2_with fail
    refine (left wr (w5.heap.size + 1) w5.heap.size nq _ Mr Vr HQR.out a3 c3 D.pe (wts_of' HD7.out).1 HT.out.p40 HT.out.okK (qOk_but D.pe n D.sec.length)).mono ?_
    rintro e w8 ⟨v8, rfl, r8, b8⟩
    rw [left_but D.pe n D.sec.length (fun j hj => (HT.out.p j hj).2.2.2.1)] at r8
    obtain ⟨p8, c8, e8, _⟩ := r8.wr
    subst e8
    have I9 := hid (I7.out.setPend b8 r8)
    have I8 := hid (I7.out.below b8)
    obtain ⟨w9, hw9⟩ : ∃ w9, w8.setCell ⟨w2.heap.size, 2, none⟩ (.slice p8 (others D.pe n).length c8) = w9 := ⟨_, rfl⟩
    rw [hw9] at I9
    have E := hid I9.out.done
    clear r8 b8 k2
    have t2 := I8.out.rn.c 2 rfl
    have t3 := I8.out.rn.f 2
    obtain ⟨k0, k1, k2, m0, m1, m2, f0, f1, f2, j0, j1, j2, j3⟩ := I9.out.cells
    go_wp2
    refine bodyPost_ret (results_row2 rfl _ _ (w.heap.size + 1) [.slice p1 D.sec.length q1, .slice (some ⟨gg, 0, none⟩) D.ep.length (cc + 1), .slice p8 (others D.pe n).length c8] _ rfl E.out.2.2 Tryz.underlying44 rfl (by kernel_rfl)) rfl ?_
    rw [HP1.out]
    exact ⟨_, rfl, by simpa using E.out.1, E.out.2.1⟩

end Go.Proofs.YtlhnkdogafnnpaaGreat.Mem
