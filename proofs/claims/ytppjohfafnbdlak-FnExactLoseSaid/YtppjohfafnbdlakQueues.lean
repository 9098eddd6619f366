/-
  A map of queues that a call has made: what it holds, key by key. No condition.
-/
import Derived.Test.YtppjohfafnbdlakAppRow
import Derived.Test.YtppjohfafnbdlakDkCopy
import Derived.Maps.OwnSet
import Derived.Maps.Ext
import Derived.WideKeyEntry
import Derived.DeepKeys4
namespace Go.Proofs.Ytppjohfafnbdlak.Mem
open Go.RowKit Go.Maps
open Go.ChangeMaps (setBlock heap_setBlock_same heap_setBlock_other)
set_option linter.unusedVariables false

theorem laidQ : laidOutB Try.prog = true := by kernel_rfl
theorem rowQ : (66 : TypeId) < Try.prog.types.size := of_decide_eq_true (by kernel_rfl)
theorem deepQ : Try.prog.keyTypeAt (Try.prog.types.size + 1) 66 = true := by kernel_rfl
theorem wideQ : (match Try.prog.underlying 66 with | some (.array _ _) | some (.struct _) => true | _ => false) = true := by rw [Try.underlying66]
set_option maxRecDepth 100000 in
theorem lawQ : WideMaps.KeyLaw Try.prog 66 := deep_law_laid laidQ (m := 2) (by omega) rowQ (by kernel_rfl) wideQ
theorem keyedQ : Keyed Try.prog 66 := Keyed.of_law lawQ
theorem cellsQ : Try.prog.cellsOf 66 = 2 := by kernel_rfl
theorem cellsI : Try.prog.cellsOf 3 = 1 := by kernel_rfl
theorem zeroQ (w : World) : (zeroValue 23).run Try.prog w = .ok (.slice none 0 0) w := by kernel_rfl

def nilv : Value := .slice none 0 0

/-- A key, and what it reads as. -/
def kval (h s : Int) : Value := .agg #[.int .i64 h, .int .i64 s]
def klq (h s : Int) : Lit := .string (keyBytes [.int .i64 h, .int .i64 s])

/-- The hosts and sectors of a right disk. -/
def OkK (h s : Int) : Prop := (0 ≤ h ∧ h < 3) ∧ 0 ≤ s ∧ s < 40

theorem wf_small {x : Int} (h0 : 0 ≤ x) (h1 : x < 40) : (Lit.int .i64 x).wf = true := WalkArith.wf_i64 (by omega)

theorem key_of {h s : Int} (hk : OkK h s) : keyOf Try.prog 66 (kval h s) = some (klq h s) := by
  have w1 := wf_small hk.1.1 (by have := hk.1.2; omega)
  have w2 := wf_small hk.2.1 hk.2.2
  obtain ⟨m, hm⟩ : ∃ m, Try.prog.types.size + 1 = m + 2 := ⟨Try.prog.types.size - 1, by have h : (66 : Nat) < Try.prog.types.size := rowQ; omega⟩
  have hd : Try.prog.keyType 66 = true := deepQ
  have hf : (kval h s).formed Try.prog 66 = true := by simp [kval, Value.formed, Try.underlying66, cellsQ]
  unfold keyOf
  simp only [Try.underlying66, hd, hf, Bool.and_self, if_true, hm]
  simp [Program.keyLits, Try.underlying66, Try.underlying3, cellsQ, cellsI, kval, Value.cells, w1, w2, klq, List.range_succ]

theorem klq_inj {h s h' s' : Int} (hk : OkK h s) (hk' : OkK h' s') (e : klq h s = klq h' s') : h = h' ∧ s = s' := by
  have := keyedQ.inj (key_of hk) (by rw [e]; exact key_of hk')
  simpa [kval] using this

/-- The reader: a value as it stands. -/
def Rid (v : Value) : Option (DataW Value × List MemPlace) := some (.held v, [])

def qCells (l : List Nat) : List Value := l.map (fun (i : Nat) => Value.int .i64 (i : Int))

/-- Block b is a map of queues: at each key a row of its own with the numbers Q, or nothing where there are none. -/
structure QM (w : World) (B b n : Nat) (Q : Int → Int → List Nat) (D : DataW Value) (V : Int → Int → Value) : Prop where
  own : w.ownsMap Try.prog 66 Rid b n D
  lt : b < B
  has : ∀ h s, OkK h s → (Maps.has D (klq h s) = true ↔ Q h s ≠ [])
  at_ : ∀ h s, OkK h s → D.atKey (klq h s) (.held nilv) = .held (V h s)
  row : ∀ h s, OkK h s → RowO w B 3 1 (V h s) (Q h s).length (qCells (Q h s))
  apart : ∀ h s h' s', OkK h s → OkK h' s' → ¬ (h = h' ∧ s = s') → ∀ g, rb (V h s) = some g → rb (V h' s') ≠ some g
  only : ∀ l, Maps.has D l = true → ∃ h s, OkK h s ∧ l = klq h s

theorem ownsMap_kept {S : Nat → Prop} {P : Program} {k : TypeId} {R : Value → Option (DataW Value × List MemPlace)} {w w' : World} {b n : Nat} {D : DataW Value} (h : w.ownsMap P k R b n D) (kk : Kept S w w') (hb : ¬ S b) : w'.ownsMap P k R b n D := by
  have hl := h.lt
  obtain ⟨es, clock, hh, r⟩ := h
  exact ⟨es, clock, by rw [kk.block b hl hb]; exact hh, r⟩

theorem QM.kept {S : Nat → Prop} {w w' : World} {B b n : Nat} {Q : Int → Int → List Nat} {D : DataW Value} {V : Int → Int → Value} (q : QM w B b n Q D V) (k : Kept S w w') (hb : ¬ S b) (hr : ∀ h s g, OkK h s → rb (V h s) = some g → ¬ S g) : QM w' B b n Q D V :=
  ⟨ownsMap_kept q.own k hb, q.lt, q.has, q.at_, fun h s hk => (q.row h s hk).kept k (fun g hg => hr h s g hk hg), q.apart, q.only⟩

theorem QM.below {w w' : World} {B b n : Nat} {Q : Int → Int → List Nat} {D : DataW Value} {V : Int → Int → Value} (q : QM w B b n Q D V) (k : Below w.heap.size w w') : QM w' B b n Q D V :=
  q.kept (Kept.of_below (S := fun _ => False) k) (fun x => x) (fun _ _ _ _ _ x => x)

theorem QM.made (w : World) : QM (w.alloc (.map #[] 0)) (w.heap.size + 1) w.heap.size 0 (fun _ _ => []) (.map []) (fun _ _ => nilv) :=
  ⟨World.ownsMap_made w _ _ _, Nat.lt_succ_self _, fun h s _ => by simp [Maps.has], fun h s _ => rfl, fun h s _ => Or.inl ⟨none, rfl, rfl, rfl⟩, fun _ _ _ _ _ _ _ g hg => by simp [rb, nilv] at hg, fun l hl => by simp [Maps.has] at hl⟩

/-- 'm[k]'. -/
theorem QM.look {w : World} {B b n : Nat} {Q : Int → Int → List Nat} {D : DataW Value} {V : Int → Int → Value} (q : QM w B b n Q D V) {h s : Int} (hk : OkK h s) : (Instr.lookup 63 (.map (some b)) (kval h s) false).run Try.prog w = .ok (V h s) w := by
  obtain ⟨v, ps, hrun, hR⟩ := q.own.lookup keyedQ Try.underlying63 (zeroQ w) (zd := .held nilv) (zp := []) rfl (key_of hk)
  have e := q.at_ h s hk
  simp only [Rid, Option.some.injEq, Prod.mk.injEq] at hR
  rw [e] at hR
  have : v = V h s := by injection hR.1
  rw [← this]
  exact hrun

/-- 'v, ok := m[k]'. -/
theorem QM.look_ok {w : World} {B b n : Nat} {Q : Int → Int → List Nat} {D : DataW Value} {V : Int → Int → Value} (q : QM w B b n Q D V) {h s : Int} (hk : OkK h s) : (Instr.lookup 63 (.map (some b)) (kval h s) true).run Try.prog w = .ok (.tuple #[V h s, .bool (decide (Q h s ≠ []))]) w := by
  obtain ⟨v, ps, hrun, hR⟩ := q.own.look_ok keyedQ Try.underlying63 (zeroQ w) (zd := .held nilv) (zp := []) rfl (key_of hk)
  have e := q.at_ h s hk
  simp only [Rid, Option.some.injEq, Prod.mk.injEq] at hR
  rw [e] at hR
  have hv : v = V h s := by injection hR.1
  have hh : Maps.has D (klq h s) = decide (Q h s ≠ []) := by
    have := q.has h s hk
    by_cases hq : Q h s ≠ []
    · rw [decide_eq_true hq]; exact this.2 hq
    · rw [decide_eq_false hq]
      cases hx : Maps.has D (klq h s)
      · rfl
      · exact absurd (this.1 hx) hq
  rw [← hv, ← hh]
  exact hrun

/-- One key's queue is another one. -/
def upd {α : Type} (Q : Int → Int → α) (h s : Int) (z : α) (h' s' : Int) : α := if h' = h ∧ s' = s then z else Q h' s'
theorem upd_same {α : Type} (Q : Int → Int → α) (h s : Int) (z : α) : upd Q h s z h s = z := if_pos ⟨rfl, rfl⟩
theorem upd_other {α : Type} (Q : Int → Int → α) {h s h' s' : Int} (z : α) (hne : ¬ (h' = h ∧ s' = s)) : upd Q h s z h' s' = Q h' s' := if_neg hne

theorem kept_setBlock {w : World} {b : Nat} {es : Array MapEntry} {clock : Nat} (hb : w.heap[b]? = some (.map es clock)) (o : Obj) : Kept (fun k => k = b) w (setBlock w b o) :=
  ⟨rfl, rfl, rfl, by simp [setBlock], fun i _ hi => heap_setBlock_other hb _ hi⟩

/-- What a store at a key leaves, if the new row lies in the old one's block or in a new one. -/
theorem QM.put {w w2 w3 : World} {B b n n' : Nat} {Q : Int → Int → List Nat} {D : DataW Value} {V : Int → Int → Value} (q : QM w B b n Q D V) {h s : Int} (hk : OkK h s) (k : Kept (fun g => g = b ∨ rb (V h s) = some g) w w2) (v' : Value) (zs : List Nat) (hz : zs ≠ [])
    (r : RowO w2 B 3 1 v' zs.length (qCells zs)) (hl : rb v' = none ∨ rb v' = rb (V h s) ∨ ∃ g, rb v' = some g ∧ w.heap.size ≤ g)
    (k3 : Kept (fun g => g = b) w2 w3) (o3 : w3.ownsMap Try.prog 66 Rid b n' (D.put (klq h s) (.held v'))) : QM w3 B b n' (upd Q h s zs) (D.put (klq h s) (.held v')) (upd V h s v') := by
  have isM : IsMap D := q.own.isMap
  have kl := keyedQ.key (key_of hk)
  have rB : ∀ {h' s' g}, OkK h' s' → rb (V h' s') = some g → g ≠ b := fun {h' s' g} hk' hg e => by
    have := ((q.row h' s' hk').lt hg).1
    have := q.lt
    omega
  have v'B : ∀ {g}, rb v' = some g → g ≠ b := fun {g} hg e => by
    have := (r.lt hg).1
    have := q.lt
    omega
  refine ⟨o3, q.lt, fun h' s' hk' => ?_, fun h' s' hk' => ?_, fun h' s' hk' => ?_, fun h1 s1 h2 s2 hk1 hk2 hne g h3 => ?_, fun l hl' => ?_⟩
  · by_cases e : h' = h ∧ s' = s
    · obtain ⟨rfl, rfl⟩ := e
      rw [upd_same, has_put_same isM kl]
      simp [hz]
    · rw [upd_other _ _ e, has_put_other (fun e' => e (klq_inj hk' hk e'))]
      exact q.has h' s' hk'
  · by_cases e : h' = h ∧ s' = s
    · obtain ⟨rfl, rfl⟩ := e
      rw [upd_same, atKey_put_same isM kl]
    · rw [upd_other _ _ e, atKey_put_other (fun e' => e (klq_inj hk' hk e'))]
      exact q.at_ h' s' hk'
  · by_cases e : h' = h ∧ s' = s
    · obtain ⟨rfl, rfl⟩ := e
      rw [upd_same, upd_same]
      exact r.kept k3 (fun g hg => v'B hg)
    · rw [upd_other _ _ e, upd_other _ _ e]
      refine ((q.row h' s' hk').kept k (fun g hg hx => ?_)).kept k3 (fun g hg => rB hk' hg)
      rcases hx with hx | hx
      · exact rB hk' hg hx
      · exact q.apart h' s' h s hk' hk e g hg hx
  · have far : ∀ h' s' g, OkK h' s' → ¬ (h' = h ∧ s' = s) → rb (V h' s') = some g → rb v' ≠ some g := fun h' s' g hk' hne' hg hx => by
      rcases hl with e | e | ⟨g', e, hg'⟩
      · rw [e] at hx; cases hx
      · rw [e] at hx
        exact q.apart h' s' h s hk' hk hne' g hg hx
      · rw [e] at hx
        cases hx
        have := ((q.row h' s' hk').lt hg).2
        omega
    by_cases e1 : h1 = h ∧ s1 = s
    · obtain ⟨rfl, rfl⟩ := e1
      have e2 : ¬ (h2 = h1 ∧ s2 = s1) := fun e => hne ⟨e.1.symm, e.2.symm⟩
      rw [upd_same] at h3
      rw [upd_other _ _ e2]
      exact fun hx => far h2 s2 g hk2 e2 hx h3
    · rw [upd_other _ _ e1] at h3
      by_cases e2 : h2 = h ∧ s2 = s
      · obtain ⟨rfl, rfl⟩ := e2
        rw [upd_same]
        exact far h1 s1 g hk1 e1 h3
      · rw [upd_other _ _ e2]
        exact q.apart h1 s1 h2 s2 hk1 hk2 hne g h3
  · by_cases e : l = klq h s
    · exact ⟨h, s, hk, e⟩
    · rw [has_put_other e] at hl'
      exact q.only l hl'

/-- 'm[k] = append(m[k], ..)': the entry that is made or found, and the store into it. -/
theorem QM.entry {w : World} {B b n : Nat} {Q : Int → Int → List Nat} {D : DataW Value} {V : Int → Int → Value} (q : QM w B b n Q D V) {h s : Int} (hk : OkK h s) (hn : n < maxLen) :
    ∃ st w1, (Instr.mapEntry 63 (.map (some b)) (kval h s)).run Try.prog w = .ok (.tuple #[V h s, goInt st]) w1 ∧ Kept (fun g => g = b) w w1 ∧ w1.heap.size = w.heap.size ∧
      ∀ (w2 : World) (v' : Value) (zs : List Nat), zs ≠ [] → Kept (fun g => rb (V h s) = some g) w1 w2 → RowO w2 B 3 1 v' zs.length (qCells zs) → (rb v' = none ∨ rb v' = rb (V h s) ∨ ∃ g, rb v' = some g ∧ w.heap.size ≤ g) →
        ∃ w3, (Instr.entryStore 63 (.map (some b)) (goInt st) v').run Try.prog w2 = .ok () w3 ∧ QM w3 B b (n + 1) (upd Q h s zs) (D.put (klq h s) (.held v')) (upd V h s v') ∧ Kept (fun g => g = b) w2 w3 := by
  have hlook := q.look hk
  have hlt := q.own.lt
  obtain ⟨es, clock, hb, F, hs, hD⟩ := q.own
  obtain ⟨v0, st, es1, clock1, hrun, hv0, hst⟩ := WideElems.entry_then_store (z := .slice none 0 0) lawQ Try.underlying63 (fun u => zeroQ u) hb F (key_of hk)
  have hv : v0 = V h s := by
    rcases Maps.fit_look false keyedQ Try.underlying63 (zeroQ w) hb F (key_of hk) with ⟨hr, hno, _⟩ | ⟨e0, y, hm0, h3, hr, _⟩
    · rcases hv0 with ⟨e1, hm1, hk1, rfl⟩ | ⟨_, rfl⟩
      · exact absurd hk1 (hno e1 hm1)
      · rw [hr] at hlook; injection hlook
    · rcases hv0 with ⟨e1, hm1, hk1, rfl⟩ | ⟨hno, _⟩
      · have : e1 = e0 := entry_eq_of_key (List.pairwise_map.1 F.stamped.2.2) hm1 hm0 (hk1.trans h3.symm)
        subst this
        rw [hr] at hlook
        injection hlook
      · exact absurd h3 (hno e0 hm0)
  subst hv
  refine ⟨st, _, hrun, kept_setBlock hb _, by simp [setBlock], fun w2 v' zs hz k2 r hl => ?_⟩
  have h1 : (setBlock w b (.map es1 clock1)).heap[b]? = some (.map es1 clock1) := heap_setBlock_same hb _
  have bB : ¬ rb (V h s) = some b := fun e => by
    have := ((q.row h s hk).lt e).1
    have := q.lt
    omega
  have h2 : w2.heap[b]? = some (.map es1 clock1) := by rw [k2.block b (by simpa [setBlock] using hlt) bB]; exact h1
  obtain ⟨es', clock', hr3, hu⟩ := hst w2 v' h2
  obtain ⟨w', hu', ho', _⟩ := q.own.store keyedQ Try.underlying63 hn (key_of hk) (val := v') (d := .held v') (ps := []) rfl
  rw [hu] at hu'
  have hw' : setBlock w b (.map es' clock') = w' := by injection hu'
  rw [← hw'] at ho'
  obtain ⟨es'', clock'', hh, rest⟩ := ho'
  rw [heap_setBlock_same hb] at hh
  have hh' : es' = es'' ∧ clock' = clock'' := by simpa using hh
  obtain ⟨rfl, rfl⟩ := hh'
  refine ⟨_, hr3, q.put hk (((kept_setBlock hb _).trans k2).mono (fun g _ hg => hg)) v' zs hz r hl (kept_setBlock h2 _) ⟨es', clock', heap_setBlock_same h2 _, rest⟩, kept_setBlock h2 _⟩

/-- 'm[k] = v'. -/
theorem QM.store {w w2 : World} {B b n : Nat} {Q : Int → Int → List Nat} {D : DataW Value} {V : Int → Int → Value} (q : QM w B b n Q D V) {h s : Int} (hk : OkK h s) (hn : n < maxLen) (k : Kept (fun g => rb (V h s) = some g) w w2) (v' : Value) (zs : List Nat) (hz : zs ≠ [])
    (r : RowO w2 B 3 1 v' zs.length (qCells zs)) (hl : rb v' = none ∨ rb v' = rb (V h s) ∨ ∃ g, rb v' = some g ∧ w.heap.size ≤ g) :
    ∃ w3, (Instr.mapUpdate 63 (.map (some b)) (kval h s) v').run Try.prog w2 = .ok () w3 ∧ QM w3 B b (n + 1) (upd Q h s zs) (D.put (klq h s) (.held v')) (upd V h s v') ∧ Kept (fun g => g = b) w2 w3 := by
  have bB : ¬ rb (V h s) = some b := fun e => by
    have := ((q.row h s hk).lt e).1
    have := q.lt
    omega
  have o2 := ownsMap_kept q.own k bB
  obtain ⟨w3, hr, ho, ht⟩ := o2.store keyedQ Try.underlying63 hn (key_of hk) (val := v') (d := .held v') (ps := []) rfl
  have g := ht.grown
  have k3 : Kept (fun g => g = b) w2 w3 := ⟨g.os, g.tape, g.output, g.size, fun i hi hne => g.block i hi (fun e => hne (by cases e; rfl))⟩
  exact ⟨w3, hr, q.put hk (k.mono (fun g _ hg => Or.inr hg)) v' zs hz r hl k3 ho, k3⟩

/-- 'delete(m, k)'. -/
theorem QM.drop {w w2 : World} {B b n : Nat} {Q : Int → Int → List Nat} {D : DataW Value} {V : Int → Int → Value} (q : QM w B b n Q D V) {h s : Int} (hk : OkK h s) (k : Kept (fun g => rb (V h s) = some g) w w2) (ty : TypeId) :
    ∃ w3, (Builtin.delete_ #[63, 66] ty #[.map (some b), kval h s]).run Try.prog w2 = .ok (.tuple #[]) w3 ∧ QM w3 B b n (upd Q h s []) (D.del (klq h s)) (upd V h s nilv) ∧ Kept (fun g => g = b) w2 w3 := by
  have rB : ∀ {h' s' g}, OkK h' s' → rb (V h' s') = some g → g ≠ b := fun {h' s' g} hk' hg e => by
    have := ((q.row h' s' hk').lt hg).1
    have := q.lt
    omega
  have o2 := ownsMap_kept q.own k (fun e => rB hk e rfl)
  obtain ⟨w3, hr, ho, ht⟩ := o2.drop keyedQ Try.underlying63 (key_of hk) ty
  have g := ht.grown
  have k3 : Kept (fun g => g = b) w2 w3 := ⟨g.os, g.tape, g.output, g.size, fun i hi hne => g.block i hi (fun e => hne (by cases e; rfl))⟩
  refine ⟨w3, hr, ⟨ho, q.lt, fun h' s' hk' => ?_, fun h' s' hk' => ?_, fun h' s' hk' => ?_, fun h1 s1 h2 s2 hk1 hk2 hne g h3 => ?_, fun l hl' => ?_⟩, k3⟩
  · by_cases e : h' = h ∧ s' = s
    · obtain ⟨rfl, rfl⟩ := e
      rw [upd_same, has_del_same]
      simp
    · rw [upd_other _ _ e, has_del_other (fun e' => e (klq_inj hk' hk e'))]
      exact q.has h' s' hk'
  · by_cases e : h' = h ∧ s' = s
    · obtain ⟨rfl, rfl⟩ := e
      rw [upd_same, atKey_del_same]
    · rw [upd_other _ _ e, atKey_del_other (fun e' => e (klq_inj hk' hk e'))]
      exact q.at_ h' s' hk'
  · by_cases e : h' = h ∧ s' = s
    · obtain ⟨rfl, rfl⟩ := e
      rw [upd_same, upd_same]
      exact Or.inl ⟨none, rfl, rfl, rfl⟩
    · rw [upd_other _ _ e, upd_other _ _ e]
      exact ((q.row h' s' hk').kept k (fun g hg hx => q.apart h' s' h s hk' hk e g hg hx)).kept k3 (fun g hg => rB hk' hg)
  · by_cases e1 : h1 = h ∧ s1 = s
    · obtain ⟨rfl, rfl⟩ := e1
      rw [upd_same] at h3
      simp [rb, nilv] at h3
    · rw [upd_other _ _ e1] at h3
      by_cases e2 : h2 = h ∧ s2 = s
      · obtain ⟨rfl, rfl⟩ := e2
        rw [upd_same]
        simp [rb, nilv]
      · rw [upd_other _ _ e2]
        exact q.apart h1 s1 h2 s2 hk1 hk2 hne g h3
  · by_cases e : l = klq h s
    · rw [e, has_del_same] at hl'; cases hl'
    · rw [has_del_other e] at hl'
      exact q.only l hl'

end Go.Proofs.Ytppjohfafnbdlak.Mem
