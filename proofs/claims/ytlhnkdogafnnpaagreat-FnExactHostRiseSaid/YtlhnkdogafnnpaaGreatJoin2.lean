/-
  A region that draws its order and calls one function: its arguments loaded and laid anew, its answers put into boxes: whatever the order. At any program. No condition.
  A region that draws its order and ends a function: what is read, built and called, and put into the results' own boxes: whatever the order. At any program. No condition.
  What the end of a function wants: boxes laid, results of three parts, what stands in a box that was stored into. At any program. No condition.
  The walks of laws.toStringS and laws.toIntS: a slice of texts, of ints, laid anew. No condition but a length of at most 2^20.
  The walks of laws.toWrite, laws.toWriteS and laws.toDisk: a disk laid anew. No condition but lengths of at most 2^20.
  A row that a call owns, and what append makes of it. No condition.
  The walk of spec.l3Copy: a disk laid anew, with rows of its own. No condition but lengths of at most 2^20.
-/
import Derived.Test.YtlhnkdogafnnpaaGreatJoin1
import Derived.Laws.ResultCell
import Derived.Test.YtlhnkdogafnnpaaGreatRows
import Derived.WalkKit
import Derived.WalkSpells
import Derived.WalkLawsBesides
import Derived.Deep.AppendSrc
import Derived.Maps.AppendAt
import Derived.RegionTactic
import Derived.BigRegion
import Derived.Deep.RegionWith
import Derived.Deep.RegionLaw
import Derived.Deep.RegionHeldLaw
namespace Go.Proofs.YtlhnkdogafnnpaaGreat.Rg
open Go.RowKit Go.Proofs.YtlhnkdogafnnpaaGreat.Mem Go.Proofs.YtlhnkdogafnnpaaGreat.Pl
set_option linter.unusedVariables false

/-- What an operation is there for: 0 a load, 1 an argument laid anew, 2 the call, 3 its answer moved, 4 a part of it, 5 a box, 6 a part put into a box, 7 a part assigned. -/
structure Role where
  k : Nat
  i : Nat
  j : Nat
  cs : List Value

abbrev ro (k i j : Nat) : Role := ⟨k, i, j, []⟩

section
variable (P : Program) (ops : Array Oper) (a0 : Act) (w0 : World) (rs : List Role) (f : Nat) (S : Nat → (Nat → Value) → World → Prop) (FS : Nat → (Nat → Value) → Nat → Prop) (RF : Value → World → Prop) (Ft : Value → Nat → Prop)

/-- What holds of an operation that has come up. -/
def Has (L : Nat → Bool) (v : Nat → Value) (w : World) (i : Nat) (r : Role) : Prop :=
  (r.k = 0 → v i = .agg r.cs.toArray) ∧
  (r.k = 1 → L f = false → S i v w ∧ (∀ b, FS i v b → b < w.heap.size ∧ w0.heap.size ≤ b) ∧ ∀ k rk, rs[k]? = some rk → rk.k = 5 → L k = true → ∀ b, FS i v b → v k ≠ .pointer (some ⟨b, 0, none⟩)) ∧
  (r.k = 2 → RF (v i) w ∧ (∀ b, Ft (v i) b → b < w.heap.size ∧ w0.heap.size ≤ b) ∧ ∀ k rk, rs[k]? = some rk → rk.k = 5 → L k = true → ∀ b, Ft (v i) b → v k ≠ .pointer (some ⟨b, 0, none⟩)) ∧
  (r.k = 3 → v i = v f) ∧
  (r.k = 4 → ∃ a, v f = .tuple a ∧ a[r.j]? = some (v i)) ∧
  (r.k = 5 → ∃ g, v i = .pointer (some ⟨g, 0, none⟩) ∧ w0.heap.size ≤ g ∧ g < w.heap.size ∧ (L r.j = false → Row w g r.cs) ∧ ∀ k rk, rs[k]? = some rk → rk.k = 5 → k ≠ i → L k = true → v k ≠ v i) ∧
  (r.k = 6 → ∃ g cs, v r.i = .pointer (some ⟨g, 0, none⟩) ∧ v r.j = .agg (List.toArray cs) ∧ Row w g cs) ∧
  (r.k = 7 → v i = v r.i)

/-- What is asked of an operation. -/
def Asks (need : List Nat) (av : (Nat → Value) → Array Value) (i : Nat) (r : Role) : Prop :=
  ∃ o, ops[i]? = some o ∧ o.guard = none ∧
  match r.k with
  | 0 => ∃ ty x b d, o.op = .load ty x ∧ a0.eval x = .pointer (some ⟨b, 0, none⟩) ∧ offAll ops x = true ∧ Row w0 b r.cs ∧ P.underlying ty = some d ∧ d.isRow = true ∧ (P.info? ty).map (·.size) = some r.cs.length
  | 1 => ∃ c t ts, o.op = .call { callee := .value (.func c), args := #[.tmp t], argTypes := ts } ∧ dstOf ops r.i = some t ∧ reach ops ops.size i r.i = true ∧ (∃ r', rs[r.i]? = some r' ∧ r'.k = 0 ∧ r'.cs = r.cs) ∧
      (∀ vs w, (callFunc c vs).run P w = .ok (.enter c vs) w) ∧ reach ops ops.size f i = true ∧ (∀ v w' w'', S i v w' → Below w'.heap.size w' w'' → S i v w'') ∧ (∀ v v', (∀ j, j = i ∨ reach ops ops.size i j = true → v j = v' j) → (∀ w', S i v w' → S i v' w') ∧ ∀ b, FS i v' b → FS i v b) ∧
      ∀ v w', Below w0.heap.size w0 w' → (∀ j rj, reach ops ops.size i j = true → rs[j]? = some rj → (rj.k = 0 → v j = .agg rj.cs.toArray) ∧ (rj.k = 1 → S j v w')) → Calls P c #[.agg r.cs.toArray] w' fun e w'' => ∃ V, e = .returned V ∧ S i (updv v i V) w'' ∧ (∀ b, FS i (updv v i V) b → w'.heap.size ≤ b ∧ b < w''.heap.size) ∧ Below w'.heap.size w' w''
  | 2 => i = f ∧ ∃ c ys ts, o.op = .call { callee := .value (.func c), args := ys, argTypes := ts } ∧ (∀ vs w, (callFunc c vs).run P w = .ok (.enter c vs) w) ∧
      (∀ L v a, At ops a0 L v a → (∀ j, j ∈ need → L j = true) → ys.map a.eval = av v) ∧ (∀ j, j ∈ need → reach ops ops.size i j = true) ∧
      (∀ V w' w'' (T : Nat → Prop), RF V w' → Kept T w' w'' → (∀ b, Ft V b → ¬ T b) → RF V w'') ∧
      ∀ v w', Below w0.heap.size w0 w' → (∀ j rj, j ∈ need → rs[j]? = some rj → (rj.k = 0 → v j = .agg rj.cs.toArray) ∧ (rj.k = 1 → S j v w')) →
        Calls P c (av v) w' fun e w'' => ∃ V, e = .returned V ∧ RF V w'' ∧ (∀ b, Ft V b → (w'.heap.size ≤ b ∧ b < w''.heap.size) ∨ ∃ j rj, j ∈ need ∧ rs[j]? = some rj ∧ rj.k = 1 ∧ FS j v b) ∧ Kept (fun b => ∃ j rj, j ∈ need ∧ rs[j]? = some rj ∧ rj.k = 1 ∧ FS j v b) w' w''
  | 3 => ∃ t, o.op = .move (.tmp t) ∧ dstOf ops f = some t ∧ reach ops ops.size i f = true ∧ ∃ rf, rs[f]? = some rf ∧ rf.k = 2
  | 4 => ∃ t, o.op = .extract (.tmp t) r.j ∧ dstOf ops r.i = some t ∧ reach ops ops.size i r.i = true ∧ reach ops ops.size i f = true ∧ (∃ rf, rs[f]? = some rf ∧ rf.k = 2) ∧ (r.i = f ∨ ∃ r', rs[r.i]? = some r' ∧ r'.k = 3) ∧ ∀ V w, RF V w → ∃ a x, V = .tuple a ∧ a[r.j]? = some x
  | 5 => (∃ ty, ∀ (ρ : Operand → Value) w, (execOp ρ o).run P w = .ok (.value (.pointer (some ⟨w.heap.size, 0, none⟩))) (w.alloc (.cells r.cs.toArray ty))) ∧ ∃ r', rs[r.j]? = some r' ∧ r'.k = 6 ∧ r'.i = i
  | 6 => ∃ ty tx y, o.op = .store ty (.tmp tx) (.tmp y) ∧ dstOf ops r.i = some tx ∧ dstOf ops r.j = some y ∧ reach ops ops.size i r.i = true ∧ reach ops ops.size i r.j = true ∧ (r.j = f ∨ reach ops ops.size i f = true) ∧ (∃ rf, rs[f]? = some rf ∧ rf.k = 2) ∧
      ∃ rb, rs[r.i]? = some rb ∧ rb.k = 5 ∧ rb.j = i ∧ (P.info? ty).map (·.size) = some rb.cs.length ∧ ∃ rj, rs[r.j]? = some rj ∧
        ((rj.k = 4 ∧ ∀ V w a x, RF V w → V = .tuple a → a[rj.j]? = some x → ∃ cs, x = .agg (List.toArray cs) ∧ cs.length = rb.cs.length ∧ cs.all (·.oneCell') = true) ∨ (r.j = f ∧ ∀ V w, RF V w → ∃ cs, V = .agg (List.toArray cs) ∧ cs.length = rb.cs.length ∧ cs.all (·.oneCell') = true))
  | 7 => ∃ t, o.op = .assign (.tmp t) ∧ dstOf ops r.i = some t ∧ reach ops ops.size i r.i = true
  | _ => False

/-- The same, of each. -/
def AsksAll (need : List Nat) (av : (Nat → Value) → Array Value) : Nat → List Role → Prop
  | _, [] => True
  | i, r :: l => Asks P ops a0 w0 rs f S FS RF Ft need av i r ∧ AsksAll need av (i + 1) l

theorem AsksAll.at {P : Program} {ops : Array Oper} {a0 : Act} {w0 : World} {rs : List Role} {f : Nat} {S : Nat → (Nat → Value) → World → Prop} {FS : Nat → (Nat → Value) → Nat → Prop} {RF : Value → World → Prop} {Ft : Value → Nat → Prop} {need : List Nat} {av : (Nat → Value) → Array Value} :
    ∀ (l : List Role) (k : Nat), AsksAll P ops a0 w0 rs f S FS RF Ft need av k l → ∀ j r, l[j]? = some r → Asks P ops a0 w0 rs f S FS RF Ft need av (k + j) r
  | [], _, _, j, r, h => by simp at h
  | x :: l, k, h, 0, r, e => by
    simp only [List.getElem?_cons_zero, Option.some.injEq] at e
    subst e
    exact h.1
  | x :: l, k, h, j + 1, r, e => by
    have := AsksAll.at l (k + 1) h.2 j r (by simpa using e)
    rwa [show k + 1 + j = k + (j + 1) by omega] at this
end

section
variable {P : Program} {ops : Array Oper} {a0 : Act} {w0 : World} {rs : List Role} {f : Nat} {S : Nat → (Nat → Value) → World → Prop} {FS : Nat → (Nat → Value) → Nat → Prop} {RF : Value → World → Prop} {Ft : Value → Nat → Prop}

theorem upd_same (L : Nat → Bool) (i : Nat) : upd L i i = true := by simp [upd]
theorem upd_ne (L : Nat → Bool) {i j : Nat} (h : j ≠ i) : upd L i j = L j := by simp [upd, h]
theorem updv_same (v : Nat → Value) (i : Nat) (u : Value) : updv v i u i = u := by simp [updv]
theorem updv_ne (v : Nat → Value) {i j : Nat} (u : Value) (h : j ≠ i) : updv v i u j = v j := by simp [updv, h]

/-- What another operation has stays, where no cell of its own is stored into and what it looks at has come up. -/
theorem Has.stay {L : Nat → Bool} {v : Nat → Value} {w w' : World} {i k : Nat} {r : Role} {u : Value} {T : Nat → Prop} (h : Has w0 rs f S FS RF Ft L v w k r)
    (hki : k ≠ i) (hk : Kept T w w') (hf3 : r.k = 3 → f ≠ i) (hf4 : r.k = 4 → f ≠ i) (h6i : r.k = 6 → r.i ≠ i) (h6j : r.k = 6 → r.j ≠ i) (h7i : r.k = 7 → r.i ≠ i)
    (hRF : r.k = 2 → ∀ V w' w'' (T : Nat → Prop), RF V w' → Kept T w' w'' → (∀ b, Ft V b → ¬ T b) → RF V w'')
    (hS : r.k = 1 → L f = false → f ≠ i → S k v w → S k (updv v i u) w') (hFS : r.k = 1 → ∀ b, FS k (updv v i u) b → FS k v b) (h1 : r.k = 1 → L f = false → ∀ ri, rs[i]? = some ri → ri.k = 5 → ∀ b, FS k v b → u ≠ .pointer (some ⟨b, 0, none⟩))
    (hT2 : r.k = 2 → ∀ b, Ft (v k) b → ¬ T b)
    (h2 : r.k = 2 → ∀ ri, rs[i]? = some ri → ri.k = 5 → ∀ b, Ft (v k) b → u ≠ .pointer (some ⟨b, 0, none⟩))
    (h5 : r.k = 5 → ∀ ri, rs[i]? = some ri → ri.k = 5 → u ≠ v k)
    (hT5 : r.k = 5 → ∀ g, v k = .pointer (some ⟨g, 0, none⟩) → r.j ≠ i → ¬ T g)
    (hT6 : r.k = 6 → ∀ g, v r.i = .pointer (some ⟨g, 0, none⟩) → ¬ T g) : Has w0 rs f S FS RF Ft (upd L i) (updv v i u) w' k r := by
  obtain ⟨q0, q1, q2, q3, q4, q5, q6, q7⟩ := h
  refine ⟨fun e => ?_, fun e => ?_, fun e => ?_, fun e => ?_, fun e => ?_, fun e => ?_, fun e => ?_, fun e => ?_⟩
  · rw [updv_ne v u hki]; exact q0 e
  · intro hl
    by_cases hfi : f = i
    · rw [hfi, upd_same] at hl; cases hl
    · rw [upd_ne L hfi] at hl
      obtain ⟨a1, a2, a3⟩ := q1 e hl
      refine ⟨hS e hl hfi a1, fun b hb => ⟨Nat.lt_of_lt_of_le (a2 b (hFS e b hb)).1 hk.size, (a2 b (hFS e b hb)).2⟩, fun m rm hm hm5 hL b hb => ?_⟩
      by_cases hmi : m = i
      · subst hmi
        rw [updv_same]
        exact h1 e hl rm hm hm5 b (hFS e b hb)
      · rw [upd_ne L hmi] at hL
        rw [updv_ne v u hmi]
        exact a3 m rm hm hm5 hL b (hFS e b hb)
  · rw [updv_ne v u hki]
    obtain ⟨a1, a2, a3⟩ := q2 e
    refine ⟨hRF e _ _ _ _ a1 hk (hT2 e), fun b hb => ⟨Nat.lt_of_lt_of_le (a2 b hb).1 hk.size, (a2 b hb).2⟩, fun m rm hm hm5 hL b hb => ?_⟩
    by_cases hmi : m = i
    · subst hmi
      rw [updv_same]
      exact h2 e rm hm hm5 b hb
    · rw [upd_ne L hmi] at hL
      rw [updv_ne v u hmi]
      exact a3 m rm hm hm5 hL b hb
  · rw [updv_ne v u hki, updv_ne v u (hf3 e)]; exact q3 e
  · rw [updv_ne v u hki, updv_ne v u (hf4 e)]; exact q4 e
  · obtain ⟨g, a1, a2, a3, a4, a5⟩ := q5 e
    refine ⟨g, by rw [updv_ne v u hki]; exact a1, a2, Nat.lt_of_lt_of_le a3 hk.size, fun hl => ?_, fun m rm hm hm5 hmk hL => ?_⟩
    · by_cases hji : r.j = i
      · rw [hji, upd_same] at hl; cases hl
      · rw [upd_ne L hji] at hl
        exact (a4 hl).kept hk (hT5 e g a1 hji)
    · rw [updv_ne v u hki]
      by_cases hmi : m = i
      · subst hmi
        rw [updv_same]
        exact h5 e rm hm hm5
      · rw [upd_ne L hmi] at hL
        rw [updv_ne v u hmi]
        exact a5 m rm hm hm5 hmk hL
  · obtain ⟨g, cs, a1, a2, a3⟩ := q6 e
    exact ⟨g, cs, by rw [updv_ne v u (h6i e)]; exact a1, by rw [updv_ne v u (h6j e)]; exact a2, a3.kept hk (hT6 e g a1)⟩
  · rw [updv_ne v u hki, updv_ne v u (h7i e)]; exact q7 e

variable {need : List Nat} {av : (Nat → Value) → Array Value}

theorem keepAll (hA : ∀ i r, rs[i]? = some r → Asks P ops a0 w0 rs f S FS RF Ft need av i r) {L : Nat → Bool} {v : Nat → Value} {w w' : World} {T : Nat → Prop} {u : Value}
    (hC : ∀ j oj, ops[j]? = some oj → L j = true → waits oj L = true) {i : Nat} {r : Role} {o : Oper} (hri : rs[i]? = some r) (ho : ops[i]? = some o) (hw : waits o L = true) (hLi : L i = false)
    (hI : ∀ k rk, rs[k]? = some rk → L k = true → Has w0 rs f S FS RF Ft L v w k rk) (hk : Kept T w w') (hS : L f = false → f ≠ i → Below w.heap.size w w')
    (hu : r.k = 5 → u = .pointer (some ⟨w.heap.size, 0, none⟩))
    (hT2 : ∀ k rk, rs[k]? = some rk → rk.k = 2 → L k = true → ∀ b, Ft (v k) b → ¬ T b)
    (hT5 : ∀ k rk, rs[k]? = some rk → rk.k = 5 → L k = true → rk.j ≠ i → ∀ g, v k = .pointer (some ⟨g, 0, none⟩) → ¬ T g)
    (hT6 : ∀ k rk, rs[k]? = some rk → rk.k = 6 → L k = true → k ≠ i → ∀ g, v rk.i = .pointer (some ⟨g, 0, none⟩) → ¬ T g)
    (hnew : Has w0 rs f S FS RF Ft (upd L i) (updv v i u) w' i r) : ∀ k rk, rs[k]? = some rk → upd L i k = true → Has w0 rs f S FS RF Ft (upd L i) (updv v i u) w' k rk := by
  intro k rk hrk hLk
  by_cases hki : k = i
  · subst hki
    rw [hri] at hrk
    cases hrk
    exact hnew
  rw [upd_ne L hki] at hLk
  have hH := hI k rk hrk hLk
  have hq := hA k rk hrk
  -- what k waits for has come up
  have lst : ∀ j, (∀ ok, ops[k]? = some ok → reach ops ops.size k j = true) → j ≠ i := fun j hj e => by
    obtain ⟨ok, hok, _⟩ := hq
    have := reach_listed hC ops.size k j ok hok (hC k ok hok hLk) (hj ok hok)
    rw [e, hLi] at this
    cases this
  have same : ∀ j, j = k ∨ reach ops ops.size k j = true → v j = updv v i u j := fun j hj => by
    have hji : j ≠ i := by
      rcases hj with hj | hj
      · rw [hj]; exact hki
      · exact lst j (fun _ _ => hj)
    rw [updv_ne v u hji]
  refine hH.stay hki hk ?_ ?_ ?_ ?_ ?_ ?_ ?_ ?_ ?_ ?_ ?_ ?_ ?_ ?_
  · intro e
    obtain ⟨ok, hok, _, hm⟩ := hq
    rw [e] at hm
    obtain ⟨t, _, _, hr, _⟩ := hm
    exact lst f (fun _ _ => hr)
  · intro e
    obtain ⟨ok, hok, _, hm⟩ := hq
    rw [e] at hm
    obtain ⟨t, _, _, _, hr, _⟩ := hm
    exact lst f (fun _ _ => hr)
  · intro e
    obtain ⟨ok, hok, _, hm⟩ := hq
    rw [e] at hm
    obtain ⟨ty, tx, y, _, _, _, hr, _⟩ := hm
    exact lst rk.i (fun _ _ => hr)
  · intro e
    obtain ⟨ok, hok, _, hm⟩ := hq
    rw [e] at hm
    obtain ⟨ty, tx, y, _, _, _, _, hr, _⟩ := hm
    exact lst rk.j (fun _ _ => hr)
  · intro e
    obtain ⟨ok, hok, _, hm⟩ := hq
    rw [e] at hm
    obtain ⟨t, _, _, hr⟩ := hm
    exact lst rk.i (fun _ _ => hr)
  · intro e
    obtain ⟨ok, hok, _, hm⟩ := hq
    rw [e] at hm
    obtain ⟨_, c, ys, ts, _, _, _, _, hst, _⟩ := hm
    exact hst
  · intro e hl hfi h
    obtain ⟨ok, hok, _, hm⟩ := hq
    rw [e] at hm
    obtain ⟨c, t, ts, _, _, _, _, _, _, hst, hcg, _⟩ := hm
    exact (hcg v _ same).1 _ (hst _ _ _ h (hS hl hfi))
  · intro e b hb
    obtain ⟨ok, hok, _, hm⟩ := hq
    rw [e] at hm
    obtain ⟨c, t, ts, _, _, _, _, _, _, hst, hcg, _⟩ := hm
    exact (hcg v _ same).2 b hb
  · intro e hl ri hri2 e5 b hb hu2
    rw [hri] at hri2
    cases hri2
    rw [hu e5] at hu2
    have := ((hH.2.1 e hl).2.1 b hb).1
    cases hu2
    omega
  · exact fun e b hb => hT2 k rk hrk e hLk b hb
  · intro e ri hri2 e5 b hb hu2
    rw [hri] at hri2
    cases hri2
    rw [hu e5] at hu2
    have := ((hH.2.2.1 e).2.1 b hb).1
    cases hu2
    omega
  · intro e ri hri2 e5 hu2
    rw [hri] at hri2
    cases hri2
    obtain ⟨g, a1, a2, a3, _⟩ := hH.2.2.2.2.2.1 e
    rw [hu e5, a1] at hu2
    cases hu2
    omega
  · exact fun e g hv hji => hT5 k rk hrk e hLk hji g hv
  · exact fun e g hv => hT6 k rk hrk e hLk hki g hv

theorem has0 {L : Nat → Bool} {v : Nat → Value} {w : World} {i : Nat} {r : Role} (e : r.k = 0) (h : v i = .agg r.cs.toArray) : Has w0 rs f S FS RF Ft L v w i r :=
  ⟨fun _ => h, fun q => by omega, fun q => by omega, fun q => by omega, fun q => by omega, fun q => by omega, fun q => by omega, fun q => by omega⟩
theorem has1 {L : Nat → Bool} {v : Nat → Value} {w : World} {i : Nat} {r : Role} (e : r.k = 1) (h : L f = false → S i v w ∧ (∀ b, FS i v b → b < w.heap.size ∧ w0.heap.size ≤ b) ∧ ∀ k rk, rs[k]? = some rk → rk.k = 5 → L k = true → ∀ b, FS i v b → v k ≠ .pointer (some ⟨b, 0, none⟩)) : Has w0 rs f S FS RF Ft L v w i r :=
  ⟨fun q => by omega, fun _ => h, fun q => by omega, fun q => by omega, fun q => by omega, fun q => by omega, fun q => by omega, fun q => by omega⟩
theorem has2 {L : Nat → Bool} {v : Nat → Value} {w : World} {i : Nat} {r : Role} (e : r.k = 2) (h : RF (v i) w ∧ (∀ b, Ft (v i) b → b < w.heap.size ∧ w0.heap.size ≤ b) ∧ ∀ k rk, rs[k]? = some rk → rk.k = 5 → L k = true → ∀ b, Ft (v i) b → v k ≠ .pointer (some ⟨b, 0, none⟩)) : Has w0 rs f S FS RF Ft L v w i r :=
  ⟨fun q => by omega, fun q => by omega, fun _ => h, fun q => by omega, fun q => by omega, fun q => by omega, fun q => by omega, fun q => by omega⟩
theorem has3 {L : Nat → Bool} {v : Nat → Value} {w : World} {i : Nat} {r : Role} (e : r.k = 3) (h : v i = v f) : Has w0 rs f S FS RF Ft L v w i r :=
  ⟨fun q => by omega, fun q => by omega, fun q => by omega, fun _ => h, fun q => by omega, fun q => by omega, fun q => by omega, fun q => by omega⟩
theorem has4 {L : Nat → Bool} {v : Nat → Value} {w : World} {i : Nat} {r : Role} (e : r.k = 4) (h : ∃ a, v f = .tuple a ∧ a[r.j]? = some (v i)) : Has w0 rs f S FS RF Ft L v w i r :=
  ⟨fun q => by omega, fun q => by omega, fun q => by omega, fun q => by omega, fun _ => h, fun q => by omega, fun q => by omega, fun q => by omega⟩
theorem has5 {L : Nat → Bool} {v : Nat → Value} {w : World} {i : Nat} {r : Role} (e : r.k = 5) (h : ∃ g, v i = .pointer (some ⟨g, 0, none⟩) ∧ w0.heap.size ≤ g ∧ g < w.heap.size ∧ (L r.j = false → Row w g r.cs) ∧ ∀ k rk, rs[k]? = some rk → rk.k = 5 → k ≠ i → L k = true → v k ≠ v i) : Has w0 rs f S FS RF Ft L v w i r :=
  ⟨fun q => by omega, fun q => by omega, fun q => by omega, fun q => by omega, fun q => by omega, fun _ => h, fun q => by omega, fun q => by omega⟩
theorem has6 {L : Nat → Bool} {v : Nat → Value} {w : World} {i : Nat} {r : Role} (e : r.k = 6) (h : ∃ g cs, v r.i = .pointer (some ⟨g, 0, none⟩) ∧ v r.j = .agg (List.toArray cs) ∧ Row w g cs) : Has w0 rs f S FS RF Ft L v w i r :=
  ⟨fun q => by omega, fun q => by omega, fun q => by omega, fun q => by omega, fun q => by omega, fun q => by omega, fun _ => h, fun q => by omega⟩
theorem has7 {L : Nat → Bool} {v : Nat → Value} {w : World} {i : Nat} {r : Role} (e : r.k = 7) (h : v i = v r.i) : Has w0 rs f S FS RF Ft L v w i r :=
  ⟨fun q => by omega, fun q => by omega, fun q => by omega, fun q => by omega, fun q => by omega, fun q => by omega, fun q => by omega, fun _ => h⟩

theorem rg_both {Q : Exit → Act → World → Prop} {id : Nat} {w : World} (dr : Bool) (hm : P.follows .mixedOrders = true) (hf : fits ops a0.tmps.size = true)
    (ds : List (Option Tmp)) (hds : (List.range ops.size).map (dstOf ops) = ds)
    (I : (Nat → Bool) → (Nat → Value) → World → Prop) (h0 : I (fun _ => false) (fun _ => undef) w.drew) (h1 : I (fun _ => false) (fun _ => undef) w)
    (hstep : ∀ i o, ops[i]? = some o → ∀ (L : Nat → Bool) (v : Nat → Value) (a : Act) (w : World), At ops a0 L v a → I L v w → (∀ j oj, ops[j]? = some oj → L j = true → waits oj L = true) → L i = false → waits o L = true →
      wpOp P ops Q i (fun a' w' => ∃ u, a' = a.put o.dst u ∧ I (upd L i) (updv v i u) w') a w)
    (hend : ∀ L v w, (∀ i, i < ops.size → L i = true) → I L v w → Q .normal (putsAll a0 ds v 0) w) : (Code.region id ops dr).wp P Q a0 w := by
  cases dr with
  | true => exact wp_region_rg hm hf ds hds I h0 hstep hend
  | false => exact wp_region_rg_plain hf ds hds I h1 hstep hend

/-- THE LAW: whatever the order, at the end each operation has what its role says. -/
theorem region_ans {Q : Exit → Act → World → Prop} {id : Nat} (dr : Bool) (hm : P.follows .mixedOrders = true) (hf : fits ops a0.tmps.size = true) (hn : ops.size = rs.length) (need : List Nat) (av : (Nat → Value) → Array Value)
    (hAll : AsksAll P ops a0 w0 rs f S FS RF Ft need av 0 rs) (ds : List (Option Tmp)) (hds : (List.range ops.size).map (dstOf ops) = ds)
    (hend : ∀ L v w, (∀ i, i < rs.length → L i = true) → Below w0.heap.size w0 w → (∀ i r, rs[i]? = some r → Has w0 rs f S FS RF Ft L v w i r) → Q .normal (putsAll a0 ds v 0) w) : (Code.region id ops dr).wp P Q a0 w0 := by
  have hA : ∀ i r, rs[i]? = some r → Asks P ops a0 w0 rs f S FS RF Ft need av i r := fun i r h => by
    have := AsksAll.at rs 0 hAll i r h
    rwa [Nat.zero_add] at this
  refine rg_both dr hm hf ds hds (fun L v w => Below w0.heap.size w0 w ∧ ∀ k rk, rs[k]? = some rk → L k = true → Has w0 rs f S FS RF Ft L v w k rk) ⟨(Below.refl _ w0).drew, fun k rk _ h => (by cases h)⟩ ⟨Below.refl _ w0, fun k rk _ h => (by cases h)⟩ ?_ ?_
  · rintro i o ho L v a w hAt ⟨hB, hI⟩ hC hLi hw
    have hlt : i < ops.size := (Array.getElem?_eq_some_iff.1 ho).1
    obtain ⟨r, hri⟩ : ∃ r, rs[i]? = some r := ⟨_, List.getElem?_eq_getElem (by omega)⟩
    have hqi := hA i r hri
    have lsi : ∀ j, reach ops ops.size i j = true → L j = true := fun j hj => reach_listed hC ops.size i j o ho hw hj
    have whl : ∀ (u : Value) (w' : World), Below w.heap.size w w' → (r.k = 5 → u = .pointer (some ⟨w.heap.size, 0, none⟩)) → Has w0 rs f S FS RF Ft (upd L i) (updv v i u) w' i r →
        ∃ u', a.put o.dst u = a.put o.dst u' ∧ (Below w0.heap.size w0 w' ∧ ∀ k rk, rs[k]? = some rk → upd L i k = true → Has w0 rs f S FS RF Ft (upd L i) (updv v i u') w' k rk) := fun u w' hb hu hh =>
      ⟨u, rfl, hB.trans (hb.mono hB.size), keepAll (T := fun _ => False) hA hC hri ho hw hLi hI (Kept.of_below hb) (fun _ _ => hb) hu (fun _ _ _ _ _ _ _ h => h) (fun _ _ _ _ _ _ _ _ h => h) (fun _ _ _ _ _ _ _ _ h => h) hh⟩
    obtain ⟨o', ho', hg, hm'⟩ := hqi
    rw [ho] at ho'
    cases ho'
    obtain ⟨k, ri, rj, rcs⟩ := r
    match k, hm', hri, whl with
    | 0, hm', hri, whl =>
      obtain ⟨ty, x, b, d, hop, hx, hoff, hrow, hu, hd, hsz⟩ := hm'
      refine wpOp_plain ho hg fun K hK => ?_
      refine wp_load_mid ty x hop b 0 ((hAt.eval_off hoff).trans hx) rcs d (fun j u hu => by rw [Nat.zero_add]; exact (hrow.below hB hrow.lt).c j hu) hu hd hsz (hK _ _ ?_)
      exact whl _ _ (Below.refl _ _) (fun e => by cases e) (has0 rfl (updv_same v i _))
    | 1, hm', hri, whl =>
      obtain ⟨c, t, ts, hop, hd, hr, ⟨r', hr1, hr2, hr3⟩, hc, hfr, hst, hcg, hcon⟩ := hm'
      have hLf : L f = false := by
        cases hb : L f with
        | false => rfl
        | true =>
          cases hof : ops[f]? with
          | none => unfold reach at hfr; cases hsz : ops.size with
            | zero => rw [hsz] at hfr; cases hfr
            | succ n => rw [hsz] at hfr; simp only [hof] at hfr; cases hfr
          | some of =>
            have := reach_listed hC ops.size f i of hof (hC f of hof hb) hfr
            rw [hLi] at this
            cases this
      have hv : v ri = .agg rcs.toArray := by
        have := (hI ri r' hr1 (lsi ri hr)).1 hr2
        rw [hr3] at this
        exact this
      refine wpOp_call ho hg (enters a o w #[.tmp t] ts c hop #[.agg rcs.toArray] (by simp only [List.map_toArray, List.map_cons, List.map_nil]; rw [hAt.eval_got ri (lsi ri hr) hd, hv]) hc) ?_
      refine (hcon v w hB (fun j rj hj hrj => ⟨fun e => (hI j rj hrj (lsi j hj)).1 e, fun e => ((hI j rj hrj (lsi j hj)).2.1 e hLf).1⟩)).mono ?_
      rintro e w' ⟨V, rfl, hS, hF, hb⟩
      refine ⟨V, rfl, whl V w' hb (fun e => by cases e) (has1 rfl (fun _ => ⟨hS, fun b hb2 => ⟨(hF b hb2).2, Nat.le_trans hB.size (hF b hb2).1⟩, fun m rm hrm hm5 hLm b hb2 => ?_⟩))⟩
      have hmi : m ≠ i := fun e => by rw [e, hri] at hrm; cases hrm; cases hm5
      rw [upd_ne L hmi] at hLm
      rw [updv_ne v V hmi]
      obtain ⟨g, a1, a2, a3, _⟩ := (hI m rm hrm hLm).2.2.2.2.2.1 hm5
      rw [a1]
      intro e
      cases e
      have := (hF _ hb2).1
      omega
    | 2, hm', hri, whl =>
      obtain ⟨hif, c, ys, ts, hop, hc, hav, hneed, hstab, hcon⟩ := hm'
      have hLf : L f = false := by rw [← hif]; exact hLi
      refine wpOp_call ho hg (enters a o w ys ts c hop (av v) (hav L v a hAt (fun j hj => lsi j (hneed j hj))) hc) ?_
      refine (hcon v w hB (fun j rj hj hrj => ⟨fun e => (hI j rj hrj (lsi j (hneed j hj))).1 e, fun e => ((hI j rj hrj (lsi j (hneed j hj))).2.1 e hLf).1⟩)).mono ?_
      rintro e w' ⟨V, rfl, hRF, hFt, hk⟩
      have hTf : ∀ b, (∃ j rj, j ∈ need ∧ rs[j]? = some rj ∧ rj.k = 1 ∧ FS j v b) → (b < w.heap.size ∧ w0.heap.size ≤ b) ∧ ∀ m rm, rs[m]? = some rm → rm.k = 5 → L m = true → v m ≠ .pointer (some ⟨b, 0, none⟩) := by
        rintro b ⟨j, rj, hj, hrj, e1, hFb⟩
        obtain ⟨_, a2, a3⟩ := (hI j rj hrj (lsi j (hneed j hj))).2.1 e1 hLf
        exact ⟨a2 b hFb, fun m rm hm hm5 hLm => a3 m rm hm hm5 hLm b hFb⟩
      refine ⟨V, rfl, V, rfl, hB.trans (hk.below hB.size (fun b hb ht => by have := (hTf b ht).1.2; omega)), keepAll hA hC hri ho hw hLi hI hk (fun _ h => absurd hif.symm h) (fun e => by cases e) (fun m rm hrm hm2 hLm b _ => ?_) (fun m rm hrm hm5 hLm _ g hg ht => (hTf g ht).2 m rm hrm hm5 hLm hg) (fun m rm hrm hm6 hLm _ g _ => ?_) (has2 rfl ?_)⟩
      · exfalso
        obtain ⟨om, hom, _, hmm⟩ := hA m rm hrm
        rw [hm2] at hmm
        rw [hmm.1, hLf] at hLm
        cases hLm
      · exfalso
        obtain ⟨om, hom, _, hmm⟩ := hA m rm hrm
        rw [hm6] at hmm
        obtain ⟨ty, tx, y, _, _, _, _, hr2, hr3, _⟩ := hmm
        have hx : L f = true := by
          rcases hr3 with e | e
          · rw [← e]; exact reach_listed hC ops.size m rm.j om hom (hC m om hom hLm) hr2
          · exact reach_listed hC ops.size m f om hom (hC m om hom hLm) e
        rw [hLf] at hx
        cases hx
      rw [updv_same]
      refine ⟨hRF, fun b hb2 => ?_, fun m rm hrm hm5 hLm b hb2 => ?_⟩
      · rcases hFt b hb2 with h | h
        · exact ⟨h.2, Nat.le_trans hB.size h.1⟩
        · exact ⟨Nat.lt_of_lt_of_le (hTf b h).1.1 hk.size, (hTf b h).1.2⟩
      have hmi : m ≠ i := fun e => by rw [e, hri] at hrm; cases hrm; cases hm5
      rw [upd_ne L hmi] at hLm
      rw [updv_ne v V hmi]
      rcases hFt b hb2 with h | h
      · obtain ⟨g, a1, a2, a3, _⟩ := (hI m rm hrm hLm).2.2.2.2.2.1 hm5
        rw [a1]
        intro e
        cases e
        have := h.1
        omega
      · exact (hTf b h).2 m rm hrm hm5 hLm
    | 3, hm', hri, whl =>
      obtain ⟨t, hop, hd, hr, rf, hrf, hrf2⟩ := hm'
      have hfi : f ≠ i := fun e => by have := lsi f hr; rw [e, hLi] at this; cases this
      refine wpOp_value ho hg (run_move (.tmp t) hop (hAt.eval_got f (lsi f hr) hd)) ?_
      exact whl _ _ (Below.refl _ _) (fun e => by cases e) (has3 rfl (by rw [updv_same, updv_ne v _ hfi]))
    | 4, hm', hri, whl =>
      obtain ⟨t, hop, hd, hr, hrf0, ⟨rf, hrf, hrf2⟩, hsrc, hform⟩ := hm'
      have hfi : f ≠ i := fun e => by have := lsi f hrf0; rw [e, hLi] at this; cases this
      obtain ⟨aa, x, e1, e2⟩ := hform _ _ ((hI f rf hrf (lsi f hrf0)).2.2.1 hrf2).1
      have hv : v ri = v f := by
        rcases hsrc with e | ⟨r', hr1, hr2⟩
        · rw [show ri = f from e]
        · exact (hI ri r' hr1 (lsi ri hr)).2.2.2.1 hr2
      refine wpOp_value ho hg (run_ext (.tmp t) rj hop ((hAt.eval_got ri (lsi ri hr) hd).trans (hv.trans e1)) e2) ?_
      refine whl _ _ (Below.refl _ _) (fun e => by cases e) (has4 rfl ⟨aa, ?_, ?_⟩)
      · rw [updv_ne v _ hfi]; exact e1
      · rw [updv_same]; exact e2
    | 5, hm', hri, whl =>
      obtain ⟨⟨ty, hal⟩, hsto⟩ := hm'
      refine wpOp_value ho hg (hal a.eval w) ?_
      have hb : Below w.heap.size w (w.alloc (.cells rcs.toArray ty)) := (Below.refl _ w).alloc (Nat.le_refl _) _
      refine whl _ _ hb (fun _ => rfl) (has5 rfl ⟨w.heap.size, updv_same v i _, hB.size, lt_alloc w _, fun _ => Row.new w rcs ty, fun m rm hrm hm5 hmi hLm => ?_⟩)
      rw [upd_ne L hmi] at hLm
      rw [updv_same, updv_ne v _ hmi]
      obtain ⟨g, a1, a2, a3, _⟩ := (hI m rm hrm hLm).2.2.2.2.2.1 hm5
      rw [a1]
      intro e
      cases e
      omega
    | 6, hm', hri, whl =>
      obtain ⟨ty, tx, y, hop, hd1, hd2, hr1, hr2, hr3, ⟨rf, hrf, hrf2⟩, rb, hrb, hb5, hbj, hsz, rj', hrj, hwhich⟩ := hm'
      have hLf : L f = true := by
        rcases hr3 with e | e
        · rw [← e]; exact lsi rj hr2
        · exact lsi f e
      obtain ⟨g, b1, b2, b3, b4, b5⟩ := (hI ri rb hrb (lsi ri hr1)).2.2.2.2.2.1 hb5
      have hrow : Row w g rb.cs := b4 (by rw [show rb.j = i from hbj]; exact hLi)
      have hRF := ((hI f rf hrf hLf).2.2.1 hrf2).1
      obtain ⟨cs, hcs, hl, h1⟩ : ∃ cs, v rj = .agg (List.toArray cs) ∧ cs.length = rb.cs.length ∧ cs.all (·.oneCell') = true := by
        rcases hwhich with ⟨e4, hw4⟩ | ⟨ef, hwf⟩
        · obtain ⟨aa, c1, c2⟩ := (hI rj rj' hrj (lsi rj hr2)).2.2.2.2.1 e4
          exact hw4 _ _ aa _ hRF c1 c2
        · rw [show rj = f from ef]
          exact hwf _ _ hRF
      have hne1 : ri ≠ i := fun e => by have := lsi ri hr1; rw [e, hLi] at this; cases this
      have hne2 : rj ≠ i := fun e => by have := lsi rj hr2; rw [e, hLi] at this; cases this
      refine wpOp_plain ho hg fun K hK => ?_
      refine wp_store_mid ty (.tmp tx) (.tmp y) hop g 0 cs.toArray ((hAt.eval_got ri (lsi ri hr1) hd1).trans b1) ((hAt.eval_got rj (lsi rj hr2) hd2).trans hcs) (fun j hj => ?_) (by rw [hsz]; simp [hl]) (all_oneCell_toArray (fun u hu => List.all_eq_true.1 h1 u hu)) ?_
      · have hj' : j < rb.cs.length := by rw [← hl]; simpa using hj
        rw [Nat.zero_add]
        exact ⟨by rw [hrow.c j (List.getElem?_eq_getElem hj')]; rfl, hrow.f j⟩
      rw [List.toList_toArray, ← puts_setCells]
      have hrow' := puts_row hrow 0 cs
      rw [listed_all cs rb.cs 0 (by omega)] at hrow'
      refine hK _ _ ⟨undef, rfl, puts_below hB b2 0 cs, keepAll (T := fun b => b = g) hA hC hri ho hw hLi hI (puts_kept w g 0 cs) (fun h _ => by rw [hLf] at h; cases h) (fun e => by cases e) (fun m rm hrm hm2 hLm b hb e => ?_) (fun m rm hrm hm5 hLm hmj g' hv e => ?_) (fun m rm hrm hm6 hLm hmi g' hv e => ?_) (has6 rfl ⟨g, cs, ?_, ?_, hrow'⟩)⟩
      · subst e
        exact ((hI m rm hrm hLm).2.2.1 hm2).2.2 ri rb hrb hb5 (lsi ri hr1) _ hb b1
      · subst e
        have hne : m ≠ ri := fun e2 => by
          rw [e2, hrb] at hrm
          cases hrm
          exact hmj hbj
        exact b5 m rm hrm hm5 hne hLm (hv.trans b1.symm)
      · subst e
        obtain ⟨ok, hok, _, hm2⟩ := hA m rm hrm
        rw [hm6] at hm2
        obtain ⟨ty2, tx2, y2, _, _, _, hs1, hs2, hs3, _, rb2, hrb2, hc5, hcj, _⟩ := hm2
        have hne : rm.i ≠ ri := fun e2 => by
          rw [e2, hrb] at hrb2
          cases hrb2
          exact hmi (hcj.symm.trans hbj)
        exact b5 rm.i rb2 hrb2 hc5 hne (reach_listed hC ops.size m rm.i ok hok (hC m ok hok hLm) hs1) (hv.trans b1.symm)
      · rw [updv_ne v _ hne1]; exact b1
      · rw [updv_ne v _ hne2]; exact hcs
    | 7, hm', hri, whl =>
      obtain ⟨t, hop, hd, hr⟩ := hm'
      have hne : ri ≠ i := fun e => by have := lsi ri hr; rw [e, hLi] at this; cases this
      refine wpOp_value ho hg (run_assign (.tmp t) hop (hAt.eval_got ri (lsi ri hr) hd)) ?_
      exact whl _ _ (Below.refl _ _) (fun e => by cases e) (has7 rfl (by rw [updv_same, updv_ne v _ hne]))
    | k + 8, hm', hri, whl => exact hm'.elim
  · rintro L v w hL ⟨hB, hI⟩
    exact hend L v w (fun i hi => hL i (by omega)) hB (fun i r hr => hI i r hr (hL i (by have := (List.getElem?_eq_some_iff.1 hr).1; omega)))

end

end Go.Proofs.YtlhnkdogafnnpaaGreat.Rg

namespace Go.Proofs.YtlhnkdogafnnpaaGreat.Rg
open Go.RowKit Go.Proofs.YtlhnkdogafnnpaaGreat.Mem Go.Proofs.YtlhnkdogafnnpaaGreat.Pl
set_option linter.unusedVariables false

section
variable (P : Program) (ops : Array Oper) (a0 : Act) (w0 : World) (rs : List Role) (S : Nat → (Nat → Value) → World → Prop)

/-- The blocks that the region stores into. Roles: 0 a value that the world ahead of the region fixes (cs = [it]), 1 a call, 2 a store of number j's value into block i (cs = what lies there). -/
def Into (b : Nat) : Prop := ∃ (i : Nat) (r : Role), rs[i]? = some r ∧ r.k = 2 ∧ r.i = b

def Got (L : Nat → Bool) (v : Nat → Value) (w : World) (i : Nat) (r : Role) : Prop :=
  (r.k = 0 → v i = r.cs.headD undef) ∧ (r.k = 1 → S i v w) ∧ (r.k = 2 → ∃ cs, v r.j = .agg (List.toArray cs) ∧ Row w r.i cs)

/-- What an operation may count on. -/
structure Known (i : Nat) (L : Nat → Bool) (v : Nat → Value) (a : Act) (w : World) : Prop where
  slots : At ops a0 L v a
  kept : Kept (Into rs) w0 w
  up : ∀ j, reach ops ops.size i j = true → L j = true
  fix : ∀ j rj, reach ops ops.size i j = true → rs[j]? = some rj → rj.k = 0 → v j = rj.cs.headD undef
  said : ∀ j rj, reach ops ops.size i j = true → rs[j]? = some rj → rj.k = 1 → S j v w

def AsksR (i : Nat) (r : Role) : Prop :=
  ∃ o, ops[i]? = some o ∧ o.guard = none ∧
  match r.k with
  | 0 => ∀ L v a w, Known ops a0 w0 rs S i L v a w → (execOp a.eval o).run P w = .ok (.value (r.cs.headD undef)) w
  | 1 => ∃ (c : FuncId) (ys : Array Operand) (ts : Array TypeId) (av : (Nat → Value) → Array Value), o.op = .call { callee := .value (.func c), args := ys, argTypes := ts } ∧ (∀ vs w, (callFunc c vs).run P w = .ok (.enter c vs) w) ∧
      (∀ L v a w, Known ops a0 w0 rs S i L v a w → ys.map a.eval = av v) ∧
      (∀ v w w', S i v w → Kept (fun b => b < w0.heap.size) w w' → S i v w') ∧ (∀ v v', (∀ j, j = i ∨ reach ops ops.size i j = true → v j = v' j) → ∀ w', S i v w' → S i v' w') ∧
      ∀ v w, Kept (Into rs) w0 w → (∀ j rj, reach ops ops.size i j = true → rs[j]? = some rj → (rj.k = 0 → v j = rj.cs.headD undef) ∧ (rj.k = 1 → S j v w)) → Calls P c (av v) w fun e w' => ∃ V, e = .returned V ∧ S i (updv v i V) w' ∧ Below w.heap.size w w'
  | 2 => ∃ ty x y, o.op = .store ty x (.tmp y) ∧ a0.eval x = .pointer (some ⟨r.i, 0, none⟩) ∧ offAll ops x = true ∧ Row w0 r.i r.cs ∧ (P.info? ty).map (·.size) = some r.cs.length ∧
      dstOf ops r.j = some y ∧ reach ops ops.size i r.j = true ∧ (∀ m rm, rs[m]? = some rm → rm.k = 2 → m ≠ i → rm.i ≠ r.i) ∧
      ∃ rj, rs[r.j]? = some rj ∧ ((rj.k = 0 ∧ ∃ cs, rj.cs.headD undef = .agg (List.toArray cs) ∧ cs.length = r.cs.length ∧ cs.all (·.oneCell') = true) ∨
        (rj.k = 1 ∧ ∀ v w, S r.j v w → ∃ cs, v r.j = .agg (List.toArray cs) ∧ cs.length = r.cs.length ∧ cs.all (·.oneCell') = true))
  | _ => False

def AsksRAll : Nat → List Role → Prop
  | _, [] => True
  | i, r :: l => AsksR P ops a0 w0 rs S i r ∧ AsksRAll (i + 1) l

theorem AsksRAll.at {P : Program} {ops : Array Oper} {a0 : Act} {w0 : World} {rs : List Role} {S : Nat → (Nat → Value) → World → Prop} :
    ∀ (l : List Role) (k : Nat), AsksRAll P ops a0 w0 rs S k l → ∀ j r, l[j]? = some r → AsksR P ops a0 w0 rs S (k + j) r
  | [], _, _, j, r, h => by simp at h
  | x :: l, k, h, 0, r, e => by
    simp only [List.getElem?_cons_zero, Option.some.injEq] at e
    subst e
    exact h.1
  | x :: l, k, h, j + 1, r, e => by
    have := AsksRAll.at l (k + 1) h.2 j r (by simpa using e)
    rwa [show k + 1 + j = k + (j + 1) by omega] at this
end

section
variable {P : Program} {ops : Array Oper} {a0 : Act} {w0 : World} {rs : List Role} {S : Nat → (Nat → Value) → World → Prop}

theorem Known.got {i : Nat} {L : Nat → Bool} {v : Nat → Value} {a : Act} {w : World} (h : Known ops a0 w0 rs S i L v a w) (j : Nat) {t : Tmp} {rj : Role} (hr : reach ops ops.size i j = true) (hd : dstOf ops j = some t) (hrj : rs[j]? = some rj) (h0 : rj.k = 0) :
    a.eval (.tmp t) = rj.cs.headD undef := (h.slots.eval_got j (h.up j hr) hd).trans (h.fix j rj hr hrj h0)
theorem Known.off {i : Nat} {L : Nat → Bool} {v : Nat → Value} {a : Act} {w : World} (h : Known ops a0 w0 rs S i L v a w) {x : Operand} (hx : offAll ops x = true) : a.eval x = a0.eval x := h.slots.eval_off hx

theorem got0 {L : Nat → Bool} {v : Nat → Value} {w : World} {i : Nat} {r : Role} (e : r.k = 0) (h : v i = r.cs.headD undef) : Got S L v w i r := ⟨fun _ => h, fun q => by omega, fun q => by omega⟩
theorem got1 {L : Nat → Bool} {v : Nat → Value} {w : World} {i : Nat} {r : Role} (e : r.k = 1) (h : S i v w) : Got S L v w i r := ⟨fun q => by omega, fun _ => h, fun q => by omega⟩
theorem got2 {L : Nat → Bool} {v : Nat → Value} {w : World} {i : Nat} {r : Role} (e : r.k = 2) (h : ∃ cs, v r.j = .agg (List.toArray cs) ∧ Row w r.i cs) : Got S L v w i r := ⟨fun q => by omega, fun q => by omega, fun _ => h⟩

/-- THE LAW: whatever the order, at the end each operation has what its role says. -/
theorem region_ret {Q : Exit → Act → World → Prop} {id : Nat} (dr : Bool) (hm : P.follows .mixedOrders = true) (hf : fits ops a0.tmps.size = true) (hn : ops.size = rs.length)
    (hAll : AsksRAll P ops a0 w0 rs S 0 rs) (ds : List (Option Tmp)) (hds : (List.range ops.size).map (dstOf ops) = ds)
    (hend : ∀ L v w, (∀ i, i < rs.length → L i = true) → Kept (Into rs) w0 w → (∀ i r, rs[i]? = some r → Got S L v w i r) → Q .normal (putsAll a0 ds v 0) w) : (Code.region id ops dr).wp P Q a0 w0 := by
  have hA : ∀ i r, rs[i]? = some r → AsksR P ops a0 w0 rs S i r := fun i r h => by
    have := AsksRAll.at rs 0 hAll i r h
    rwa [Nat.zero_add] at this
  have hInto : ∀ b, Into rs b → b < w0.heap.size := fun b hb => by
    obtain ⟨i, r, hr, hk, rfl⟩ := hb
    obtain ⟨o, _, _, hm'⟩ := hA i r hr
    rw [hk] at hm'
    obtain ⟨ty, x, y, _, _, _, hrow, _⟩ := hm'
    exact hrow.lt
  refine rg_both dr hm hf ds hds (fun L v w => Kept (Into rs) w0 w ∧ (∀ k rk, rs[k]? = some rk → L k = true → Got S L v w k rk) ∧ ∀ k rk, rs[k]? = some rk → rk.k = 2 → L k = false → Row w rk.i rk.cs) ?_ ?_ ?_ ?_
  · refine ⟨Kept.of_below (Below.refl _ w0).drew, fun k rk _ h => (by cases h), fun k rk hr hk _ => ?_⟩
    obtain ⟨o, _, _, hm'⟩ := hA k rk hr
    rw [hk] at hm'
    obtain ⟨ty, x, y, _, _, _, hrow, _⟩ := hm'
    exact hrow.below ((Below.refl _ w0).drew) hrow.lt
  · refine ⟨Kept.refl _ _, fun k rk _ h => (by cases h), fun k rk hr hk _ => ?_⟩
    obtain ⟨o, _, _, hm'⟩ := hA k rk hr
    rw [hk] at hm'
    obtain ⟨ty, x, y, _, _, _, hrow, _⟩ := hm'
    exact hrow
  · rintro i o ho L v a w hAt ⟨hB, hI, hZ⟩ hC hLi hw
    have hlt : i < ops.size := (Array.getElem?_eq_some_iff.1 ho).1
    obtain ⟨r, hri⟩ : ∃ r, rs[i]? = some r := ⟨_, List.getElem?_eq_getElem (by omega)⟩
    have hqi := hA i r hri
    have lsi : ∀ j, reach ops ops.size i j = true → L j = true := fun j hj => reach_listed hC ops.size i j o ho hw hj
    have kn : Known ops a0 w0 rs S i L v a w := ⟨hAt, hB, lsi, fun j rj hj hrj h0 => (hI j rj hrj (lsi j hj)).1 h0, fun j rj hj hrj h0 => (hI j rj hrj (lsi j hj)).2.1 h0⟩
    -- the others stay
    have whl : ∀ (u : Value) (w' : World) (T : Nat → Prop), Kept T w w' → (∀ b, T b → r.k = 2 ∧ b = r.i) → Got S (upd L i) (updv v i u) w' i r →
        ∃ u', a.put o.dst u = a.put o.dst u' ∧ (Kept (Into rs) w0 w' ∧ (∀ k rk, rs[k]? = some rk → upd L i k = true → Got S (upd L i) (updv v i u') w' k rk) ∧ ∀ k rk, rs[k]? = some rk → rk.k = 2 → upd L i k = false → Row w' rk.i rk.cs) := by
      intro u w' T hk hT hnew
      have hapart : ∀ k rk, rs[k]? = some rk → rk.k = 2 → k ≠ i → ¬ T rk.i := fun k rk hrk hk2 hki hTb => by
        obtain ⟨e2, eb⟩ := hT _ hTb
        obtain ⟨o', ho', hg, hm'⟩ := hA i r hri
        rw [e2] at hm'
        obtain ⟨ty, x, y, _, _, _, _, _, _, _, hne, _⟩ := hm'
        exact hne k rk hrk hk2 hki eb
      refine ⟨u, rfl, ?_, fun k rk hrk hLk => ?_, fun k rk hrk hk2 hLk => ?_⟩
      · refine (hB.trans hk).mono (fun b _ h => ?_)
        rcases h with h | h
        · exact h
        · obtain ⟨e2, eb⟩ := hT b h
          exact ⟨i, r, hri, e2, eb.symm⟩
      · by_cases hki : k = i
        · subst hki
          rw [hri] at hrk
          cases hrk
          exact hnew
        rw [upd_ne L hki] at hLk
        obtain ⟨q0, q1, q2⟩ := hI k rk hrk hLk
        refine ⟨fun e => ?_, fun e => ?_, fun e => ?_⟩
        · rw [updv_ne v u hki]; exact q0 e
        · obtain ⟨o', ho', hg, hm'⟩ := hA k rk hrk
          rw [e] at hm'
          obtain ⟨c, ys, ts, vs, _, _, _, hst, hcg, _⟩ := hm'
          refine hcg v _ (fun j hj => ?_) _ (hst _ _ _ (q1 e) (hk.mono (fun b _ hb => ?_)))
          · have hji : j ≠ i := by
              rcases hj with hj | hj
              · rw [hj]; exact hki
              · intro e2
                have := reach_listed hC ops.size k j o' ho' (hC k o' ho' hLk) hj
                rw [e2, hLi] at this
                cases this
            rw [updv_ne v u hji]
          obtain ⟨e2, eb⟩ := hT b hb
          exact hInto b ⟨i, r, hri, e2, eb.symm⟩
        · obtain ⟨cs, c1, c2⟩ := q2 e
          obtain ⟨o', ho', hg, hm'⟩ := hA k rk hrk
          rw [e] at hm'
          obtain ⟨ty, x, y, _, _, _, _, _, _, hr, _, _⟩ := hm'
          have hne : rk.j ≠ i := fun e2 => by
            have := reach_listed hC ops.size k rk.j o' ho' (hC k o' ho' hLk) hr
            rw [e2, hLi] at this
            cases this
          exact ⟨cs, by rw [updv_ne v u hne]; exact c1, c2.kept hk (hapart k rk hrk e hki)⟩
      · have hki : k ≠ i := fun e => by rw [e, upd_same] at hLk; cases hLk
        rw [upd_ne L hki] at hLk
        exact (hZ k rk hrk hk2 hLk).kept hk (hapart k rk hrk hk2 hki)
    obtain ⟨o', ho', hg, hm'⟩ := hqi
    rw [ho] at ho'
    cases ho'
    obtain ⟨k, ri, rj, rcs⟩ := r
    match k, hm', hri, whl with
    | 0, hm', hri, whl =>
      exact wpOp_value ho hg (hm' L v a w kn) (whl _ _ (fun _ => False) (Kept.refl _ _) (fun _ h => h.elim) (got0 rfl (updv_same v i _)))
    | 1, hm', hri, whl =>
      obtain ⟨c, ys, ts, av, hop, hc, hav, hst, hcg, hcon⟩ := hm'
      refine wpOp_call ho hg (enters a o w ys ts c hop (av v) (hav L v a w kn) hc) ?_
      refine (hcon v w hB (fun j rj hj hrj => ⟨fun e => (hI j rj hrj (lsi j hj)).1 e, fun e => (hI j rj hrj (lsi j hj)).2.1 e⟩)).mono ?_
      rintro e w' ⟨V, rfl, hS, hb⟩
      exact ⟨V, rfl, whl V w' (fun _ => False) (Kept.of_below hb) (fun _ h => h.elim) (got1 rfl hS)⟩
    | 2, hm', hri, whl =>
      obtain ⟨ty, x, y, hop, hx, hoff, _, hsz, hd, hr, hne, rj', hrj, hwhich⟩ := hm'
      have hrow : Row w ri rcs := hZ i _ hri rfl hLi
      obtain ⟨cs, hcs, hl, h1⟩ : ∃ cs, v rj = .agg (List.toArray cs) ∧ cs.length = rcs.length ∧ cs.all (·.oneCell') = true := by
        rcases hwhich with ⟨e0, cs, c1, c2, c3⟩ | ⟨e1, hw1⟩
        · exact ⟨cs, ((hI rj rj' hrj (lsi rj hr)).1 e0).trans c1, c2, c3⟩
        · exact hw1 _ _ ((hI rj rj' hrj (lsi rj hr)).2.1 e1)
      have hne2 : rj ≠ i := fun e => by have := lsi rj hr; rw [e, hLi] at this; cases this
      refine wpOp_plain ho hg fun K hK => ?_
      refine wp_store_mid ty x (.tmp y) hop ri 0 cs.toArray ((hAt.eval_off hoff).trans hx) ((hAt.eval_got rj (lsi rj hr) hd).trans hcs) (fun j hj => ?_) (by rw [hsz]; simp [hl]) (all_oneCell_toArray (fun u hu => List.all_eq_true.1 h1 u hu)) ?_
      · have hj' : j < rcs.length := by rw [← hl]; simpa using hj
        rw [Nat.zero_add]
        exact ⟨by rw [hrow.c j (List.getElem?_eq_getElem hj')]; rfl, hrow.f j⟩
      rw [List.toList_toArray, ← puts_setCells]
      have hrow' := puts_row hrow 0 cs
      rw [listed_all cs rcs 0 (by omega)] at hrow'
      refine hK _ _ (whl undef _ (fun b => b = ri) (puts_kept w ri 0 cs) (fun b hb => ⟨rfl, hb⟩) (got2 rfl ⟨cs, ?_, hrow'⟩))
      rw [updv_ne v _ hne2]; exact hcs
    | k + 3, hm', hri, whl => exact hm'.elim
  · rintro L v w hL ⟨hB, hI, _⟩
    exact hend L v w (fun i hi => hL i (by omega)) hB (fun i r hr => hI i r hr (hL i (by have := (List.getElem?_eq_some_iff.1 hr).1; omega)))

end

end Go.Proofs.YtlhnkdogafnnpaaGreat.Rg

namespace Go.Proofs.YtlhnkdogafnnpaaGreat.Rg
open Go.RowKit Go.Proofs.YtlhnkdogafnnpaaGreat.Mem Go.Proofs.YtlhnkdogafnnpaaGreat.Pl
set_option linter.unusedVariables false

theorem four_y (w : World) (xs ys zs us : List Value) (t u v x : TypeId) :
    ∃ wc, (((w.alloc (.cells xs.toArray t)).alloc (.cells ys.toArray u)).alloc (.cells zs.toArray v)).alloc (.cells us.toArray x) = wc ∧ wc.heap.size = w.heap.size + 1 + 1 + 1 + 1 ∧
      Row wc w.heap.size xs ∧ Row wc (w.heap.size + 1) ys ∧ Row wc (w.heap.size + 1 + 1) zs ∧ Row wc (w.heap.size + 1 + 1 + 1) us ∧ Below w.heap.size w wc := by
  obtain ⟨wb, hb, e, r0, r1, r2, b⟩ : ∃ wb, ((w.alloc (.cells xs.toArray t)).alloc (.cells ys.toArray u)).alloc (.cells zs.toArray v) = wb ∧ wb.heap.size = w.heap.size + 1 + 1 + 1 ∧ Row wb w.heap.size xs ∧ Row wb (w.heap.size + 1) ys ∧ Row wb (w.heap.size + 1 + 1) zs ∧ Below w.heap.size w wb := by
    have e0 : (w.alloc (.cells xs.toArray t)).heap.size = w.heap.size + 1 := by simp
    have e1 : ((w.alloc (.cells xs.toArray t)).alloc (.cells ys.toArray u)).heap.size = w.heap.size + 1 + 1 := by simp
    have r1 := Row.new (w.alloc (.cells xs.toArray t)) ys u
    have r2 := Row.new ((w.alloc (.cells xs.toArray t)).alloc (.cells ys.toArray u)) zs v
    rw [e0] at r1
    rw [e1] at r2
    exact ⟨_, rfl, by simp, ((Row.new w xs t).alloc _).alloc _, r1.alloc _, r2, (((Below.refl _ _).alloc (Nat.le_refl _) _).alloc (by omega) _).alloc (by omega) _⟩
  rw [hb]
  have r3 := Row.new wb us x
  rw [e] at r3
  exact ⟨_, rfl, by simp [e], r0.alloc _, r1.alloc _, r2.alloc _, r3, b.alloc (by omega) _⟩

theorem results_cct {P : Program} {fn : Func} {p q u : Tmp} {ty tz : TypeId} (h : fn.results = #[.cell p ty, .cell q tz, .tmp u]) (tmps : Array Value) (w : World) (g k : Nat) (xs ys : List Value) (d e : TypeDesc)
    (hp : tmps.getD p undef = .pointer (some ⟨g, 0, none⟩)) (hr : Row w g xs) (hu : P.underlying ty = some d) (hd : (match d with | .struct _ | .array _ _ => true | _ => false) = true) (hi : (P.info? ty).map (·.size) = some xs.length)
    (hq : tmps.getD q undef = .pointer (some ⟨k, 0, none⟩)) (hs : Row w k ys) (hv : P.underlying tz = some e) (he : (match e with | .struct _ | .array _ _ => true | _ => false) = true) (hj : (P.info? tz).map (·.size) = some ys.length) :
    (results fn tmps).run P w = .ok (.tuple #[.agg xs.toArray, .agg ys.toArray, tmps.getD u undef]) w := by
  obtain ⟨t, hb⟩ := hr
  obtain ⟨t', hb'⟩ := hs
  have hl := run_loadVar_row (P := P) w g t ty xs.toArray (0, 0) d hb hu hd (by simpa using hi)
  have hl' := run_loadVar_row (P := P) w k t' tz ys.toArray (0, 0) e hb' hv he (by simpa using hj)
  rw [Array.getD_eq_getD_getElem?] at hp hq
  simp only [results, h]
  simp [Sem.run_bind, Result.andThen, hp, hq, asAddr, hl, hl']

theorem agg_inj {a b : List Value} (h : Value.agg a.toArray = .agg b.toArray) : a = b := by
  injection h with h1
  exact List.toArray_inj h1

theorem into_of {rs : List Role} {b : Nat} {l : List Nat} (h : Into rs b) (e : (rs.filterMap fun r => if r.k = 2 then some r.i else none) = l) : b ∈ l := by
  obtain ⟨i, r, hr, hk, rfl⟩ := h
  rw [← e]
  exact List.mem_filterMap.2 ⟨r, List.mem_of_getElem? hr, by rw [if_pos hk]⟩

theorem run_load_row {P : Program} {ρ : Operand → Value} {o : Oper} {w : World} (ty : TypeId) (x : Operand) (p : o.op = .load ty x) (b : Nat) (e : ρ x = .pointer (some ⟨b, 0, none⟩)) (cs : List Value) (d : TypeDesc) (hr : Row w b cs)
    (hu : P.underlying ty = some d) (hd : d.isRow = true) (hi : (P.info? ty).map (·.size) = some cs.length) : (execOp ρ o).run P w = .ok (.value (.agg cs.toArray)) w := by
  unfold execOp
  simp only [p, e, Instr.loadAt, Instr.sureAddr, Sem.run_bind, Sem.run_pure, Result.andThen_ok, run_loadVar_mid w b 0 ty cs d (fun j v hv => by rw [Nat.zero_add]; exact hr.c j hv) hu hd hi]

/-- What lies in a box behind the store of a fixed row. -/
theorem stored {S : Nat → (Nat → Value) → World → Prop} {rs : List Role} {L : Nat → Bool} {v : Nat → Value} {w : World} (hG : ∀ i r, rs[i]? = some r → Got S L v w i r) (k j b : Nat) {zs cs : List Value} {rj : Role} (h : rs[k]? = some ⟨2, b, j, zs⟩) (hj : rs[j]? = some rj) (h0 : rj.k = 0) (e : rj.cs.headD undef = .agg cs.toArray) : Row w b cs := by
  obtain ⟨ds, c1, c2⟩ := (hG k _ h).2.2 rfl
  have := ((hG j _ hj).1 h0).trans e
  have h1 : v j = .agg ds.toArray := c1
  rw [this] at h1
  rw [agg_inj h1]
  exact c2

/-- The stores of a region: their numbers and the blocks that they go into. -/
def storesOf (rs : List Role) : List (Nat × Nat) := rs.zipIdx.filterMap fun x => if x.1.k = 2 then some (x.2, x.1.i) else none

theorem in_stores {rs : List Role} {m : Nat} {r : Role} (h : rs[m]? = some r) (hk : r.k = 2) : (m, r.i) ∈ storesOf rs := by
  unfold storesOf
  refine List.mem_filterMap.2 ⟨(r, m), ?_, by simp [hk]⟩
  rw [List.mem_zipIdx_iff_getElem?]
  simpa using h

section
variable {P : Program} {ops : Array Oper} {a0 : Act} {w0 : World} {rs : List Role} {S : Nat → (Nat → Value) → World → Prop}

theorem rNil (i : Nat) : AsksRAll P ops a0 w0 rs S i [] := trivial
theorem rCons {i : Nat} {r : Role} {l : List Role} (h : AsksR P ops a0 w0 rs S i r) (t : AsksRAll P ops a0 w0 rs S (i + 1) l) : AsksRAll P ops a0 w0 rs S i (r :: l) := ⟨h, t⟩

/-- A fixed value. -/
theorem rFix {i a b : Nat} {x : Value} {o : Oper} (ho : ops[i]? = some o) (hg : o.guard = none) (h : ∀ L v a w, Known ops a0 w0 rs S i L v a w → (execOp a.eval o).run P w = .ok (.value x) w) : AsksR P ops a0 w0 rs S i ⟨0, a, b, [x]⟩ :=
  ⟨o, ho, hg, h⟩

/-- A struct that is loaded whole, out of a block that is not stored into. -/
theorem rLoad {i a' b' b : Nat} {cs : List Value} {o : Oper} (ho : ops[i]? = some o) (hg : o.guard = none) (ty : TypeId) (x : Operand) (p : o.op = .load ty x) (hx : a0.eval x = .pointer (some ⟨b, 0, none⟩)) (hoff : offAll ops x = true) (d : TypeDesc) (hr : Row w0 b cs) (hb : ¬ Into rs b)
    (hu : P.underlying ty = some d) (hd : d.isRow = true) (hi : (P.info? ty).map (·.size) = some cs.length) : AsksR P ops a0 w0 rs S i ⟨0, a', b', [.agg cs.toArray]⟩ :=
  rFix ho hg fun L v a w K => run_load_row ty x p b ((K.off hoff).trans hx) cs d (hr.kept K.kept hb) hu hd hi

/-- A call. -/
theorem rCall {i a' b' : Nat} {xs : List Value} {o : Oper} (ho : ops[i]? = some o) (hg : o.guard = none) (c : FuncId) (ys : Array Operand) (ts : Array TypeId) (av : (Nat → Value) → Array Value) (p : o.op = .call { callee := .value (.func c), args := ys, argTypes := ts }) (hc : ∀ vs w, (callFunc c vs).run P w = .ok (.enter c vs) w)
    (hav : ∀ L v a w, Known ops a0 w0 rs S i L v a w → ys.map a.eval = av v) (hst : ∀ v w w', S i v w → Kept (fun b => b < w0.heap.size) w w' → S i v w')
    (hcg : ∀ v v', (∀ j, j = i ∨ reach ops ops.size i j = true → v j = v' j) → ∀ w', S i v w' → S i v' w')
    (hcon : ∀ v w, Kept (Into rs) w0 w → (∀ j rj, reach ops ops.size i j = true → rs[j]? = some rj → (rj.k = 0 → v j = rj.cs.headD undef) ∧ (rj.k = 1 → S j v w)) → Calls P c (av v) w fun e w' => ∃ V, e = .returned V ∧ S i (updv v i V) w' ∧ Below w.heap.size w w') : AsksR P ops a0 w0 rs S i ⟨1, a', b', xs⟩ :=
  ⟨o, ho, hg, c, ys, ts, av, p, hc, hav, hst, hcg, hcon⟩

/-- A store of a fixed struct. -/
theorem rStore {i j b : Nat} {zs cs : List Value} {o : Oper} (ho : ops[i]? = some o) (hg : o.guard = none) (ty : TypeId) (x : Operand) (y : Tmp) (p : o.op = .store ty x (.tmp y)) (hx : a0.eval x = .pointer (some ⟨b, 0, none⟩)) (hoff : offAll ops x = true) (hr : Row w0 b zs) (hi : (P.info? ty).map (·.size) = some zs.length)
    (hd : dstOf ops j = some y) (hre : reach ops ops.size i j = true) (hap : ∀ m b', (m, b') ∈ storesOf rs → m ≠ i → b' ≠ b) {rj : Role} (hj : rs[j]? = some rj) (h0 : rj.k = 0) (hv : rj.cs.headD undef = .agg cs.toArray) (hl : cs.length = zs.length) (h1 : cs.all (·.oneCell') = true) : AsksR P ops a0 w0 rs S i ⟨2, b, j, zs⟩ :=
  ⟨o, ho, hg, ty, x, y, p, hx, hoff, hr, hi, hd, hre, fun m rm hm hk hne => hap m rm.i (in_stores hm hk) hne, rj, hj, .inl ⟨h0, cs, hv, hl, h1⟩⟩

/-- A store of what a call has answered. -/
theorem rStoreC {i j b : Nat} {zs : List Value} {o : Oper} (ho : ops[i]? = some o) (hg : o.guard = none) (ty : TypeId) (x : Operand) (y : Tmp) (p : o.op = .store ty x (.tmp y)) (hx : a0.eval x = .pointer (some ⟨b, 0, none⟩)) (hoff : offAll ops x = true) (hr : Row w0 b zs) (hi : (P.info? ty).map (·.size) = some zs.length)
    (hd : dstOf ops j = some y) (hre : reach ops ops.size i j = true) (hap : ∀ m b', (m, b') ∈ storesOf rs → m ≠ i → b' ≠ b) {rj : Role} (hj : rs[j]? = some rj) (h0 : rj.k = 1) (hv : ∀ v w, S j v w → ∃ cs, v j = .agg (List.toArray cs) ∧ cs.length = zs.length ∧ cs.all (·.oneCell') = true) : AsksR P ops a0 w0 rs S i ⟨2, b, j, zs⟩ :=
  ⟨o, ho, hg, ty, x, y, p, hx, hoff, hr, hi, hd, hre, fun m rm hm hk hne => hap m rm.i (in_stores hm hk) hne, rj, hj, .inr ⟨h0, hv⟩⟩
end

end Go.Proofs.YtlhnkdogafnnpaaGreat.Rg

namespace Go.Proofs.YtlhnkdogafnnpaaGreat.Mem
open Go.RowKit
set_option linter.unusedVariables false

theorem info9 : (Tryz.prog.info? 9).map (fun i => (i.zero, i.size, i.bytes)) = some (some (.string ByteArray.empty), 1, 16) := by kernel_rfl
theorem info3 : (Tryz.prog.info? 3).map (fun i => (i.zero, i.size, i.bytes)) = some (some (.int .i64 0), 1, 8) := by kernel_rfl

/-- What stands in the new row behind k rounds. -/
def partS (l : List ByteArray) (k : Nat) (i : Nat) : Value := .string (if i < k then l.getD i ByteArray.empty else ByteArray.empty)
def partI (l : List Int) (k : Nat) (i : Nat) : Value := .int .i64 (if i < k then l.getD i 0 else 0)

theorem partS_succ (l : List ByteArray) (k : Nat) : (fun j => if j = k then Value.string (l.getD k ByteArray.empty) else partS l k j) = partS l (k + 1) := by
  funext j
  unfold partS
  by_cases h : j = k
  · subst h; simp
  · by_cases h2 : j < k
    · simp [h, h2, Nat.lt_succ_of_lt h2]
    · simp [h, h2, show ¬ j < k + 1 by omega]

theorem partI_succ (l : List Int) (k : Nat) : (fun j => if j = k then Value.int .i64 (l.getD k 0) else partI l k j) = partI l (k + 1) := by
  funext j
  unfold partI
  by_cases h : j = k
  · subst h; simp
  · by_cases h2 : j < k
    · simp [h, h2, Nat.lt_succ_of_lt h2]
    · simp [h, h2, show ¬ j < k + 1 by omega]

set_option maxRecDepth 100000 in
set_option maxHeartbeats 1000000 in
theorem toStringS (w : World) (a : Option Addr) (cap : Nat) (l : List ByteArray) (S : Strs w a l) (hl : l.length ≤ 1048576) :
    Calls Tryz.prog 28 #[.slice a l.length cap] w fun e w' => ∃ g, e = .returned (.slice (some ⟨g, 0, none⟩) l.length l.length) ∧ w.heap.size ≤ g ∧ g < w'.heap.size ∧ StrsW w' w.heap.size (some ⟨g, 0, none⟩) l ∧ Below w.heap.size w w' := by
  have hmk := run_make_row' (P := Tryz.prog) 29 9 (.string ByteArray.empty) 16 Tryz.underlying29 info9 rfl .i64 .i64 l.length (by omega) (by omega)
  have HS := hid S
  have HW := hid (wr_made w (.string ByteArray.empty) l.length 9)
  clear S
  go_enter Tryz.func28, Tryz.ntmps28
  go_wp2
  go_loopw [4] (fun i wr => ∃ k : Nat, k ≤ l.length ∧ i = .int .i64 (k : Int) ∧ w.heap.size < wr.heap.size ∧ Hid (Wr wr w.heap.size (some ⟨w.heap.size, 0, none⟩) l.length (partS l k)) ∧ Hid (Below w.heap.size w wr)) (fun i _ => l.length - (intOf i).toNat)
  case atStart => exact ⟨0, Nat.zero_le _, rfl, lt_alloc _ _, HW, (Below.refl _ _).alloc (Nat.le_refl _) _⟩
  case round =>
    obtain ⟨k, hk, rfl, hsz, HW', HB⟩ := hrel
    by_cases hlt : k < l.length
    · obtain ⟨b, off, rfl, hc⟩ := (HS.out.below HB.out) k hlt
      obtain ⟨b', off', e', hB, hc', hz⟩ := HW'.out k hlt
      cases e'
      rw [Nat.zero_add] at hc' hz
      replace hc : wr.cell? ⟨b, off + k, none⟩ = some (.string (l.getD k ByteArray.empty)) := hc
      generalize hx : l.getD k ByteArray.empty = x at hc
      have HX := hid hx
      clear hx
      go_wp2
      refine ⟨⟨k + 1, by omega, by go_num, by simpa using hsz, ?_, HB.out.setCell (Nat.le_refl _) _⟩, by simp [intOf]; omega⟩
      have hs := HW'.out.set k hlt (.string x)
      rw [Nat.zero_add] at hs
      exact hs.congr (fun i _ => by rw [← partS_succ, HX.out])
    · obtain rfl : k = l.length := by omega
      go_wp2
      go_ret
      exact ⟨_, rfl, Nat.le_refl _, hsz, HW'.out.congr (fun i hi => by simp [partS, hi]), HB.out⟩

set_option maxRecDepth 100000 in
set_option maxHeartbeats 1000000 in
theorem toIntS (w : World) (a : Option Addr) (cap : Nat) (l : List Int) (S : Ints w a l) (hl : l.length ≤ 1048576) :
    Calls Tryz.prog 29 #[.slice a l.length cap] w fun e w' => ∃ g, e = .returned (.slice (some ⟨g, 0, none⟩) l.length l.length) ∧ w.heap.size ≤ g ∧ g < w'.heap.size ∧ IntsW w' w.heap.size (some ⟨g, 0, none⟩) l ∧ Below w.heap.size w w' := by
  have hmk := run_make_row' (P := Tryz.prog) 30 3 (.int .i64 0) 8 Tryz.underlying30 info3 rfl .i64 .i64 l.length (by omega) (by omega)
  have HS := hid S
  have HW := hid (wr_made w (.int .i64 0) l.length 3)
  clear S
  go_enter Tryz.func29, Tryz.ntmps29
  go_wp2
  go_loopw [4] (fun i wr => ∃ k : Nat, k ≤ l.length ∧ i = .int .i64 (k : Int) ∧ w.heap.size < wr.heap.size ∧ Hid (Wr wr w.heap.size (some ⟨w.heap.size, 0, none⟩) l.length (partI l k)) ∧ Hid (Below w.heap.size w wr)) (fun i _ => l.length - (intOf i).toNat)
  case atStart => exact ⟨0, Nat.zero_le _, rfl, lt_alloc _ _, HW, (Below.refl _ _).alloc (Nat.le_refl _) _⟩
  case round =>
    obtain ⟨k, hk, rfl, hsz, HW', HB⟩ := hrel
    by_cases hlt : k < l.length
    · obtain ⟨b, off, rfl, hc⟩ := (HS.out.below HB.out) k hlt
      obtain ⟨b', off', e', hB, hc', hz⟩ := HW'.out k hlt
      cases e'
      rw [Nat.zero_add] at hc' hz
      replace hc : wr.cell? ⟨b, off + k, none⟩ = some (.int .i64 (l.getD k 0)) := hc
      generalize hx : l.getD k 0 = x at hc
      have HX := hid hx
      clear hx
      go_wp2
      refine ⟨⟨k + 1, by omega, by go_num, by simpa using hsz, ?_, HB.out.setCell (Nat.le_refl _) _⟩, by simp [intOf]; omega⟩
      have hs := HW'.out.set k hlt (.int .i64 x)
      rw [Nat.zero_add] at hs
      exact hs.congr (fun i _ => by rw [← partI_succ, HX.out])
    · obtain rfl : k = l.length := by omega
      go_wp2
      go_ret
      exact ⟨_, rfl, Nat.le_refl _, hsz, HW'.out.congr (fun i hi => by simp [partI, hi]), HB.out⟩

end Go.Proofs.YtlhnkdogafnnpaaGreat.Mem

namespace Go.Proofs.YtlhnkdogafnnpaaGreat.Mem
open Go.RowKit
set_option linter.unusedVariables false

/-- A write under way. -/
structure Wt where
  host : Int
  epoch : Int
  sector : Int
  text : ByteArray

def Wt.none : Wt := ⟨0, 0, 0, ByteArray.empty⟩
def Wt.cells (x : Wt) : List Value := [.int .i64 x.host, .int .i64 x.epoch, .int .i64 x.sector, .string x.text]
def Wt.val (x : Wt) : Value := .agg #[.int .i64 x.host, .int .i64 x.epoch, .int .i64 x.sector, .string x.text]

/-- Cell i of a list of writes, four cells each. -/
def wcell (l : List Wt) (i : Nat) : Value := (l.getD (i / 4) Wt.none).cells.getD (i % 4) undef
def Wts (w : World) (a : Option Addr) (l : List Wt) : Prop := Sl w a (l.length * 4) (wcell l)
def WtsW (w : World) (B : Nat) (a : Option Addr) (l : List Wt) : Prop := Wr w B a (l.length * 4) (wcell l)

theorem wcell_at (l : List Wt) (k j : Nat) (hj : j < 4) : wcell l (k * 4 + j) = (l.getD k Wt.none).cells.getD j undef := by
  unfold wcell
  rw [show (k * 4 + j) / 4 = k by omega, show (k * 4 + j) % 4 = j by omega]

/-- The four cells of write k. -/
theorem Wts.at_ {w : World} {a : Option Addr} {l : List Wt} (h : Wts w a l) (k : Nat) (hk : k < l.length) : ∃ b off, a = some ⟨b, off, none⟩ ∧
    w.cell? ⟨b, off + k * 4, none⟩ = some (.int .i64 (l.getD k Wt.none).host) ∧ w.cell? ⟨b, off + k * 4 + 1, none⟩ = some (.int .i64 (l.getD k Wt.none).epoch) ∧
    w.cell? ⟨b, off + k * 4 + 2, none⟩ = some (.int .i64 (l.getD k Wt.none).sector) ∧ w.cell? ⟨b, off + k * 4 + 3, none⟩ = some (.string (l.getD k Wt.none).text) := by
  obtain ⟨b, off, rfl, h0⟩ := h (k * 4 + 0) (by omega)
  obtain ⟨b1, off1, e1, h1⟩ := h (k * 4 + 1) (by omega)
  obtain ⟨b2, off2, e2, h2⟩ := h (k * 4 + 2) (by omega)
  obtain ⟨b3, off3, e3, h3⟩ := h (k * 4 + 3) (by omega)
  cases e1; cases e2; cases e3
  rw [wcell_at l k _ (by omega)] at h0 h1 h2 h3
  exact ⟨b, off, rfl, h0, by rw [Nat.add_assoc]; exact h1, by rw [Nat.add_assoc]; exact h2, by rw [Nat.add_assoc]; exact h3⟩

set_option maxRecDepth 100000 in
set_option maxHeartbeats 1000000 in
theorem toWrite (w : World) (x : Wt) : Calls Tryz.prog 59 #[x.val] w fun e w' => e = .returned x.val ∧ Below w.heap.size w w' := by
  obtain ⟨h, ep, s, t⟩ := x
  unfold Wt.val
  go_enter Tryz.func59, Tryz.ntmps59
  go_wp2
  go_returns
  exact ⟨rfl, by go_grown⟩

theorem infoW : (Tryz.prog.info? 87).map (fun i => (i.zero, i.size, i.bytes)) = some (some Wt.none.val, 4, 40) := by kernel_rfl

/-- What stands in the new row behind k rounds. -/
def partW (l : List Wt) (k : Nat) (i : Nat) : Value := if i < k * 4 then wcell l i else Wt.none.cells.getD (i % 4) undef

theorem partW_succ (l : List Wt) (k : Nat) (j : Nat) : (if j / 4 = k then [Value.int .i64 (l.getD k Wt.none).host, .int .i64 (l.getD k Wt.none).epoch, .int .i64 (l.getD k Wt.none).sector, .string (l.getD k Wt.none).text].getD (j % 4) undef else partW l k j) = partW l (k + 1) j := by
  unfold partW
  by_cases h : j / 4 = k
  · rw [if_pos h, if_pos (by omega)]
    unfold wcell
    rw [h]; rfl
  · by_cases h2 : j < k * 4
    · rw [if_neg h, if_pos h2, if_pos (by omega)]
    · rw [if_neg h, if_neg h2, if_neg (by omega)]

/-- The four cells of write k, which may be written. -/
theorem wr_at {w : World} {B b : Nat} {m : Nat} {f : Nat → Value} (h : Wr w B (some ⟨b, 0, none⟩) m f) (k : Nat) (hk : k * 4 + 4 ≤ m) :
    (∃ v, w.cell? ⟨b, k * 4, none⟩ = some v) ∧ (∃ v, w.cell? ⟨b, k * 4 + 1, none⟩ = some v) ∧ (∃ v, w.cell? ⟨b, k * 4 + 2, none⟩ = some v) ∧ (∃ v, w.cell? ⟨b, k * 4 + 3, none⟩ = some v) ∧
    w.frozen? ⟨b, k * 4, none⟩ = false ∧ w.frozen? ⟨b, k * 4 + 1, none⟩ = false ∧ w.frozen? ⟨b, k * 4 + 2, none⟩ = false ∧ w.frozen? ⟨b, k * 4 + 3, none⟩ = false := by
  obtain ⟨_, _, e0, _, h0, z0⟩ := h (k * 4) (by omega)
  obtain ⟨_, _, e1, _, h1, z1⟩ := h (k * 4 + 1) (by omega)
  obtain ⟨_, _, e2, _, h2, z2⟩ := h (k * 4 + 2) (by omega)
  obtain ⟨_, _, e3, _, h3, z3⟩ := h (k * 4 + 3) (by omega)
  cases e0; cases e1; cases e2; cases e3
  rw [Nat.zero_add] at h0 h1 h2 h3 z0 z1 z2 z3
  exact ⟨⟨_, h0⟩, ⟨_, h1⟩, ⟨_, h2⟩, ⟨_, h3⟩, z0, z1, z2, z3⟩

set_option maxRecDepth 100000 in
set_option maxHeartbeats 1000000 in
theorem toWriteS (w : World) (a : Option Addr) (cap : Nat) (l : List Wt) (S : Wts w a l) (hl : l.length ≤ 1048576) :
    Calls Tryz.prog 30 #[.slice a l.length cap] w fun e w' => ∃ g, e = .returned (.slice (some ⟨g, 0, none⟩) l.length l.length) ∧ w.heap.size ≤ g ∧ g < w'.heap.size ∧ WtsW w' w.heap.size (some ⟨g, 0, none⟩) l ∧ Below w.heap.size w w' := by
  have hmk := make_rows (P := Tryz.prog) 42 87 Wt.none.val 4 40 Tryz.underlying42 infoW .i64 .i64 l.length (by omega) (by omega)
  have HS := hid S
  have hw0 := wr_new w (madeCells Wt.none.val.cells (l.length * 4)) 87 (l.length * 4) (partW l 0) (fun i hi => by
    simp [madeCells, hi, partW, Wt.none, Wt.val, Wt.cells, Value.cells]
    have : i % 4 = 0 ∨ i % 4 = 1 ∨ i % 4 = 2 ∨ i % 4 = 3 := by omega
    rcases this with h | h | h | h <;> simp [h])
  generalize madeCells Wt.none.val.cells (l.length * 4) = cur at hmk hw0
  have HW := hid hw0
  clear S hw0
  go_enter Tryz.func30, Tryz.ntmps30
  go_wp2
  go_loopw [4] (fun i wr => ∃ k : Nat, k ≤ l.length ∧ i = .int .i64 (k : Int) ∧ w.heap.size < wr.heap.size ∧ Hid (Wr wr w.heap.size (some ⟨w.heap.size, 0, none⟩) (l.length * 4) (partW l k)) ∧ Hid (Below w.heap.size w wr)) (fun i _ => l.length - (intOf i).toNat)
  case atStart => exact ⟨0, Nat.zero_le _, rfl, lt_alloc _ _, HW, (Below.refl _ _).alloc (Nat.le_refl _) _⟩
  case round =>
    obtain ⟨k, hk, rfl, hsz, HW', HB⟩ := hrel
    by_cases hlt : k < l.length
    · obtain ⟨b, off, rfl, c0, c1, c2, c3⟩ := Wts.at_ (HS.out.below HB.out) k hlt
      generalize hx : l.getD k Wt.none = x at c0 c1 c2 c3
      have HX := hid hx
      clear hx
      go_wp2_with fail
      refine (toWrite _ x).mono ?_
      rintro e w1 ⟨rfl, hb1⟩
      have HW1 := hid (HW'.out.below hb1)
      have HB1 := hid (HB.out.trans (hb1.mono (Nat.le_of_lt hsz)))
      have hsz1 : w.heap.size < w1.heap.size := Nat.lt_of_lt_of_le hsz hb1.size
      obtain ⟨⟨u0, d0⟩, ⟨u1, d1⟩, ⟨u2, d2⟩, ⟨u3, d3⟩, z0, z1, z2, z3⟩ := wr_at HW1.out k (by omega)
      clear hb1 c0 c1 c2 c3
      unfold Wt.val
      go_wp2
      refine ⟨⟨k + 1, by omega, by go_num, by simpa using hsz1, ?_, (((HB1.out.setCell (Nat.le_refl _) _).setCell (Nat.le_refl _) _).setCell (Nat.le_refl _) _).setCell (Nat.le_refl _) _⟩, by simp [intOf]; omega⟩
      exact (HW1.out.set4 k (by omega) _ _ _ _).congr (fun j _ => by rw [← partW_succ, HX.out])
    · obtain rfl : k = l.length := by omega
      go_wp2
      go_ret
      exact ⟨_, rfl, Nat.le_refl _, hsz, HW'.out.congr (fun i hi => by simp [partW, hi]), HB.out⟩

/-- A disk. -/
structure Dk where
  sec : List ByteArray
  ep : List Int
  pe : List Wt

/-- v is the disk D in world w. -/
def DkR (w : World) (v : Value) (D : Dk) : Prop := ∃ a1 c1 a2 c2 a3 c3, v = .agg #[.slice a1 D.sec.length c1, .slice a2 D.ep.length c2, .slice a3 D.pe.length c3] ∧ Strs w a1 D.sec ∧ Ints w a2 D.ep ∧ Wts w a3 D.pe

/-- The same, in blocks from B on, no two lists in one block; they may be written. -/
def DkW (w : World) (B : Nat) (v : Value) (D : Dk) : Prop := ∃ a1 c1 a2 c2 a3 c3, v = .agg #[.slice a1 D.sec.length c1, .slice a2 D.ep.length c2, .slice a3 D.pe.length c3] ∧ StrsW w B a1 D.sec ∧ IntsW w B a2 D.ep ∧ WtsW w B a3 D.pe ∧
  (∀ b, foot a1 D.sec.length b → ¬ foot a2 D.ep.length b ∧ ¬ foot a3 (D.pe.length * 4) b) ∧ (∀ b, foot a2 D.ep.length b → ¬ foot a3 (D.pe.length * 4) b)

theorem DkR.below {w w' : World} {v : Value} {D : Dk} (h : DkR w v D) (b : Below w.heap.size w w') : DkR w' v D := by
  obtain ⟨a1, c1, a2, c2, a3, c3, e, s1, s2, s3⟩ := h
  exact ⟨a1, c1, a2, c2, a3, c3, e, Sl.below s1 b, Sl.below s2 b, Sl.below s3 b⟩

theorem DkW.read {w : World} {B : Nat} {v : Value} {D : Dk} (h : DkW w B v D) : DkR w v D := by
  obtain ⟨a1, c1, a2, c2, a3, c3, e, s1, s2, s3, _⟩ := h
  exact ⟨a1, c1, a2, c2, a3, c3, e, Wr.sl s1, Wr.sl s2, Wr.sl s3⟩

theorem DkW.below {w w' : World} {B : Nat} {v : Value} {D : Dk} (h : DkW w B v D) (b : Below w.heap.size w w') : DkW w' B v D := by
  obtain ⟨a1, c1, a2, c2, a3, c3, e, s1, s2, s3, f1, f2⟩ := h
  exact ⟨a1, c1, a2, c2, a3, c3, e, Wr.below s1 b, Wr.below s2 b, Wr.below s3 b, f1, f2⟩

set_option maxRecDepth 100000 in
set_option maxHeartbeats 1000000 in
theorem toDisk (w : World) (v : Value) (D : Dk) (h : DkR w v D) (h1 : D.sec.length ≤ 1048576) (h2 : D.ep.length ≤ 1048576) (h3 : D.pe.length ≤ 1048576) :
    Calls Tryz.prog 8 #[v] w fun e w' => ∃ v', e = .returned v' ∧ DkW w' w.heap.size v' D ∧ Below w.heap.size w w' := by
  obtain ⟨a1, c1, a2, c2, a3, c3, rfl, s1, s2, s3⟩ := h
  have HS1 := hid s1
  have HS2 := hid s2
  have HS3 := hid s3
  clear s1 s2 s3
  go_enter Tryz.func8, Tryz.ntmps8
  go_wp2_with fail
  obtain ⟨wc, hwc, e2, A0, R0, O0, B0⟩ := three_new w [.slice a1 D.sec.length c1, .slice a2 D.ep.length c2, .slice a3 D.pe.length c3] [.slice none 0 0, .slice none 0 0, .slice none 0 0] 33 44
  simp only [hwc]
  clear hwc
  refine (toStringS wc a1 c1 D.sec (HS1.out.below B0) h1).mono ?_
  rintro e w1 ⟨g1, rfl, hg1, hl1, S1, b1⟩
  replace A0 := A0.below b1 (by omega)
  replace R0 := R0.below b1 (by omega)
  replace O0 := O0.below b1 (by omega)
  replace B0 := B0.trans (b1.mono (by omega))
  have ca := A0.c 1 rfl
  have co := O0.c 0 rfl
  have fo := O0.f 0
  have HA := hid A0
  have HR := hid R0
  have HO := hid O0
  clear A0 R0 O0 b1
  go_wp2_with fail
  have A0 := HA.out.other (p := ⟨w.heap.size + 1 + 1, 0, none⟩) (by show w.heap.size ≠ w.heap.size + 1 + 1; omega) (.slice (some ⟨g1, 0, none⟩) D.sec.length D.sec.length)
  have R0 := HR.out.other (p := ⟨w.heap.size + 1 + 1, 0, none⟩) (by show w.heap.size + 1 ≠ w.heap.size + 1 + 1; omega) (.slice (some ⟨g1, 0, none⟩) D.sec.length D.sec.length)
  have O0 := HO.out.set 0 (.slice (some ⟨g1, 0, none⟩) D.sec.length D.sec.length)
  replace B0 := below_set B0 (w.heap.size + 1 + 1) 0 (.slice (some ⟨g1, 0, none⟩) D.sec.length D.sec.length) (by omega)
  replace S1 := S1.move (kept_set w1 (w.heap.size + 1 + 1) 0 (.slice (some ⟨g1, 0, none⟩) D.sec.length D.sec.length)) (fun b hb => by have := S1.foot_ge hb; omega)
  have es : (w1.setCell ⟨w.heap.size + 1 + 1, 0, none⟩ (.slice (some ⟨g1, 0, none⟩) D.sec.length D.sec.length)).heap.size = w1.heap.size := by simp
  generalize w1.setCell ⟨w.heap.size + 1 + 1, 0, none⟩ (.slice (some ⟨g1, 0, none⟩) D.sec.length D.sec.length) = w1' at *
  clear ca co fo HA HR HO
  refine (toIntS w1' a2 c2 D.ep (HS2.out.below B0) h2).mono ?_
  rintro e w2 ⟨g2, rfl, hg2, hl2, S2, b2⟩
  replace A0 := A0.below b2 A0.lt
  replace R0 := R0.below b2 R0.lt
  replace O0 := O0.below b2 O0.lt
  replace S1 := S1.below b2
  replace B0 := B0.trans (b2.mono (by omega))
  have ca := A0.c 2 rfl
  have co := O0.c 1 rfl
  have fo := O0.f 1
  have HA := hid A0
  have HR := hid R0
  have HO := hid O0
  clear A0 R0 O0 b2
  go_wp2_with fail
  have R0 := HR.out.other (p := ⟨w.heap.size + 1 + 1, 1, none⟩) (by show w.heap.size + 1 ≠ w.heap.size + 1 + 1; omega) (.slice (some ⟨g2, 0, none⟩) D.ep.length D.ep.length)
  have O0 := HO.out.set 1 (.slice (some ⟨g2, 0, none⟩) D.ep.length D.ep.length)
  replace B0 := below_set B0 (w.heap.size + 1 + 1) 1 (.slice (some ⟨g2, 0, none⟩) D.ep.length D.ep.length) (by omega)
  replace S1 := S1.move (kept_set w2 (w.heap.size + 1 + 1) 1 (.slice (some ⟨g2, 0, none⟩) D.ep.length D.ep.length)) (fun b hb => by have := S1.foot_ge hb; omega)
  replace S2 := S2.move (kept_set w2 (w.heap.size + 1 + 1) 1 (.slice (some ⟨g2, 0, none⟩) D.ep.length D.ep.length)) (fun b hb => by have := S2.foot_ge hb; omega)
  have es2 : (w2.setCell ⟨w.heap.size + 1 + 1, 1, none⟩ (.slice (some ⟨g2, 0, none⟩) D.ep.length D.ep.length)).heap.size = w2.heap.size := by simp
  generalize w2.setCell ⟨w.heap.size + 1 + 1, 1, none⟩ (.slice (some ⟨g2, 0, none⟩) D.ep.length D.ep.length) = w2' at *
  clear ca co fo HA HR HO
  refine (toWriteS w2' a3 c3 D.pe (HS3.out.below B0) h3).mono ?_
  rintro e w3 ⟨g3, rfl, hg3, hl3, S3, b3⟩
  replace R0 := R0.below b3 R0.lt
  replace O0 := O0.below b3 O0.lt
  replace S1 := S1.below b3
  replace S2 := S2.below b3
  replace B0 := B0.trans (b3.mono (by omega))
  have co0 := O0.c 0 rfl
  have co1 := O0.c 1 rfl
  have co2 := O0.c 2 rfl
  have fo := O0.f 2
  have cr0 := R0.c 0 rfl
  have cr1 := R0.c 1 rfl
  have cr2 := R0.c 2 rfl
  have fr0 := R0.f 0
  have fr1 := R0.f 1
  have fr2 := R0.f 2
  have HS1' := hid S1
  have HS2' := hid S2
  have HS3' := hid S3
  have HB := hid B0
  have HR := hid (((((R0.other (p := ⟨w.heap.size + 1 + 1, 2, none⟩) (by show w.heap.size + 1 ≠ w.heap.size + 1 + 1; omega) (.slice (some ⟨g3, 0, none⟩) D.pe.length D.pe.length)).set 0 (.slice (some ⟨g1, 0, none⟩) D.sec.length D.sec.length)).set 1 (.slice (some ⟨g2, 0, none⟩) D.ep.length D.ep.length)).set 2 (.slice (some ⟨g3, 0, none⟩) D.pe.length D.pe.length)))
  clear R0 O0 b3 S1 S2 S3 B0
  go_wp2
  refine bodyPost_ret (results_row rfl _ _ (w.heap.size + 1) [.slice (some ⟨g1, 0, none⟩) D.sec.length D.sec.length, .slice (some ⟨g2, 0, none⟩) D.ep.length D.ep.length, .slice (some ⟨g3, 0, none⟩) D.pe.length D.pe.length] _ rfl HR.out Tryz.underlying44 rfl (by kernel_rfl)) rfl ?_
  have hk : ∀ v0 v1 v2 v3, Kept (fun b => b < wc.heap.size) w3 ((((w3.setCell ⟨w.heap.size + 1 + 1, 2, none⟩ v0).setCell ⟨w.heap.size + 1, 0, none⟩ v1).setCell ⟨w.heap.size + 1, 1, none⟩ v2).setCell ⟨w.heap.size + 1, 2, none⟩ v3) := fun v0 v1 v2 v3 =>
    ((((kept_set _ _ _ _).trans (kept_set _ _ _ _)).trans (kept_set _ _ _ _)).trans (kept_set _ _ _ _)).mono (fun b _ hb => by rcases hb with ((h | h) | h) | h <;> omega)
  refine ⟨_, rfl, ⟨_, _, _, _, _, _, rfl, ?_, ?_, ?_, ?_, ?_⟩, ?_⟩
  · exact (HS1'.out.move (hk _ _ _ _) (fun b hb => by have := HS1'.out.foot_ge hb; omega)).mono (by omega)
  · exact (HS2'.out.move (hk _ _ _ _) (fun b hb => by have := HS2'.out.foot_ge hb; omega)).mono (by omega)
  · exact (HS3'.out.move (hk _ _ _ _) (fun b hb => by have := HS3'.out.foot_ge hb; omega)).mono (by omega)
  · rintro b ⟨_, o1, e1⟩
    cases e1
    exact ⟨fun ⟨_, o2, e2'⟩ => by cases e2'; omega, fun ⟨_, o2, e2'⟩ => by cases e2'; omega⟩
  · rintro b ⟨_, o1, e1⟩ ⟨_, o2, e2'⟩
    cases e1; cases e2'; omega
  · exact below_set (below_set (below_set (below_set HB.out _ _ _ (by omega)) _ _ _ (by omega)) _ _ _ (by omega)) _ _ _ (by omega)

end Go.Proofs.YtlhnkdogafnnpaaGreat.Mem

namespace Go.Proofs.YtlhnkdogafnnpaaGreat.Mem
open Go.RowKit
set_option linter.unusedVariables false

/-- v is a slice of n elements, k cells each, that hold xs: empty and without room, or a block of the call's own from B on. -/
def RowO (w : World) (B : Nat) (e : TypeId) (k : Nat) (v : Value) (n : Nat) (xs : List Value) : Prop :=
  (∃ b, v = .slice b 0 0 ∧ n = 0 ∧ xs = []) ∨ (w.ownsRow B e k v n xs ∧ ∃ a c, v = .slice (some a) n (c + 1))

/-- The block of a slice that has room. -/
def rb : Value → Option Nat
  | .slice (some a) _ (_ + 1) => some a.block
  | _ => none

theorem rb_bare (b : Option Addr) (n : Nat) : rb (.slice b n 0) = none := by cases b <;> rfl

theorem rowO_of {w : World} {B : Nat} {e : TypeId} {k : Nat} {v : Value} {n : Nat} {xs : List Value} (h : w.ownsRow B e k v n xs) : RowO w B e k v n xs := by
  rcases h.2 with ⟨rfl, rfl⟩ | ⟨g, cap, cur, rfl, r⟩
  · exact Or.inl ⟨none, rfl, rfl, List.eq_nil_of_length_eq_zero (by simpa using h.1)⟩
  · cases cap with
    | zero =>
      have hn : n = 0 := by have := r.2.2.1; omega
      subst hn
      exact Or.inl ⟨_, rfl, rfl, List.eq_nil_of_length_eq_zero (by simpa using h.1)⟩
    | succ c => exact Or.inr ⟨h, _, c, rfl⟩

theorem rb_own {v : Value} {b : Nat} (h : rb v = some b) : v.ownBlock = some b := by
  unfold rb at h
  split at h
  · exact h
  · cases h

theorem RowO.len {w : World} {B : Nat} {e : TypeId} {k : Nat} {v : Value} {n : Nat} {xs : List Value} (h : RowO w B e k v n xs) : xs.length = n * k := by
  rcases h with ⟨_, _, rfl, rfl⟩ | ⟨h, _⟩
  · simp
  · exact h.1

theorem RowO.wr {w : World} {B : Nat} {e : TypeId} {k : Nat} {v : Value} {n : Nat} {xs : List Value} (h : RowO w B e k v n xs) :
    ∃ a cap, v = .slice a n cap ∧ Wr w B a (n * k) (fun i => xs.getD i undef) := by
  rcases h with ⟨b, rfl, rfl, rfl⟩ | ⟨h, hne⟩
  · exact ⟨b, 0, rfl, fun i hi => by omega⟩
  · obtain ⟨hl, h⟩ := h
    rcases h with ⟨rfl, _⟩ | ⟨g, cap, cur, rfl, hB, hg, hn, hm, hs, ht⟩
    · obtain ⟨_, _, e⟩ := hne; cases e
    · refine ⟨_, cap, rfl, fun i hi => ⟨g, 0, rfl, hB, ?_, frozen_of_row w g _ _ _ hg⟩⟩
      rw [cell_of_row w g (0 + i) _ _ (0, 0) hg, Nat.zero_add]
      have e1 : xs[i]? = cur.toList[i]? := by rw [← ht, List.getElem?_take, if_pos hi]
      have hi' : i < xs.length := by omega
      rw [List.getElem?_eq_getElem hi'] at e1
      show cur[i]? = some (xs.getD i undef)
      rw [List.getD_eq_getElem?_getD, List.getElem?_eq_getElem hi', ← Array.getElem?_toList, ← e1]
      rfl

theorem RowO.kept {S : Nat → Prop} {w w' : World} {B : Nat} {e : TypeId} {k : Nat} {v : Value} {n : Nat} {xs : List Value} (h : RowO w B e k v n xs) (hk : Kept S w w') (hn : ∀ b, rb v = some b → ¬ S b) : RowO w' B e k v n xs := by
  rcases h with h | ⟨h, hne⟩
  · exact Or.inl h
  · refine Or.inr ⟨⟨h.1, ?_⟩, hne⟩
    rcases h.2 with h2 | ⟨g, cap, cur, rfl, hB, hg, r⟩
    · exact Or.inl h2
    · refine Or.inr ⟨g, cap, cur, rfl, hB, ?_, r⟩
      have hlt : g < w.heap.size := by
        rcases Nat.lt_or_ge g w.heap.size with x | x
        · exact x
        · rw [Array.getElem?_eq_none x] at hg; cases hg
      obtain ⟨_, c, e⟩ := hne
      cases e
      rw [hk.block g hlt (hn g rfl)]
      exact hg

theorem RowO.below {w w' : World} {B : Nat} {e : TypeId} {k : Nat} {v : Value} {n : Nat} {xs : List Value} (h : RowO w B e k v n xs) (hb : Below w.heap.size w w') : RowO w' B e k v n xs :=
  h.kept (Kept.of_below (S := fun _ => False) hb) (fun _ _ x => x)

theorem RowO.mono {w : World} {B B' : Nat} {e : TypeId} {k : Nat} {v : Value} {n : Nat} {xs : List Value} (h : RowO w B e k v n xs) (hb : B' ≤ B) : RowO w B' e k v n xs := by
  rcases h with h | ⟨⟨h1, h2⟩, hne⟩
  · exact Or.inl h
  · refine Or.inr ⟨⟨h1, ?_⟩, hne⟩
    rcases h2 with h2 | ⟨g, cap, cur, rfl, hB, r⟩
    · exact Or.inl h2
    · exact Or.inr ⟨g, cap, cur, rfl, Nat.le_trans hb hB, r⟩

/-- The block of an owned row that isn't empty. -/
theorem RowO.foot {w : World} {B : Nat} {e : TypeId} {k : Nat} {v : Value} {n : Nat} {xs : List Value} (h : RowO w B e k v n xs) {a : Option Addr} {cap : Nat} (hv : v = .slice a n cap) {b : Nat} (hb : foot a (n * k) b) : rb v = some b := by
  obtain ⟨h0, off, rfl⟩ := hb
  subst hv
  rcases h with ⟨_, e, rfl, _⟩ | ⟨_, _, c, e⟩
  · omega
  · cases e; rfl

theorem RowO.lt {w : World} {B : Nat} {e : TypeId} {k : Nat} {v : Value} {n : Nat} {xs : List Value} (h : RowO w B e k v n xs) {b : Nat} (hb : rb v = some b) : B ≤ b ∧ b < w.heap.size := by
  rcases h with ⟨_, rfl, rfl, _⟩ | ⟨h, _⟩
  · rw [rb_bare] at hb; cases hb
  · exact h.lt b (rb_own hb)

theorem src_of {P : Program} {w : World} {k : Nat} {t e : TypeId} (ht : P.underlying t = some (.slice e)) {a : Option Addr} {m c : Nat} {news : List Value} (hl : news.length = m * k) (hk : 0 < k) (hS : Sl w a (m * k) (fun i => news.getD i undef)) (h1 : ∀ u ∈ news, u.oneCell' = true) :
    Src P k t (.slice a m c) m news w := by
  cases a with
  | none =>
    have hm : m = 0 := by
      rcases Nat.eq_zero_or_pos m with h | h
      · exact h
      · obtain ⟨_, _, e, _⟩ := hS 0 (Nat.mul_pos h hk)
        cases e
    subst hm
    have : news = [] := List.eq_nil_of_length_eq_zero (by simpa using hl)
    subst this
    exact Src.ofNil w ht c
  | some ad =>
    refine Src.ofSlice w ht ad m c news hl (fun j u hj => ?_) h1
    have hjl : j < news.length := (List.getElem?_eq_some_iff.1 hj).1
    obtain ⟨b, off, e, hc⟩ := hS j (by omega)
    cases e
    rw [Addr.add_mid, hc]
    show some (news.getD j undef) = some u
    rw [List.getD_eq_getElem?_getD, hj]
    rfl

/-- 'append' on an empty slice without room: nothing, or a new block. -/
theorem run_app_empty {P : Program} (w : World) (t ty e : TypeId) (z : Value) (k bytes : Nat) (ht : P.underlying t = some (.slice e)) (hinfo : (P.info? e).map (fun i => (i.zero, i.size, i.bytes)) = some (some z, k, bytes)) (hzs : z.cells.size = k) (hk : 0 < k)
    (b a : Option Addr) (m c : Nat) (news : List Value) (hl : news.length = m * k) (hS : Sl w a (m * k) (fun i => news.getD i undef)) (h1 : ∀ u ∈ news, u.oneCell' = true) (hm : m ≤ 1048576) (hby : bytes ≤ 1048576) :
    ∃ v' w', (Builtin.append_ #[t, t] ty #[.slice b 0 0, .slice a m c]).run P w = .ok v' w' ∧ RowO w' w.heap.size e k v' m news ∧ Below w.heap.size w w' ∧ (0 < m → rb v' = some w.heap.size ∧ w.heap.size < w'.heap.size) ∧ (m = 0 → v' = .slice b 0 0) := by
  obtain ⟨i, hi, hzz⟩ := Option.map_eq_some_iff.1 hinfo
  simp only [Prod.mk.injEq] at hzz
  obtain ⟨hz, rfl, rfl⟩ := hzz
  have hs := src_of (P := P) (c := c) ht hl hk hS h1
  rcases Nat.eq_zero_or_pos m with rfl | hpos
  · have hn : news = [] := List.eq_nil_of_length_eq_zero (by simpa using hl)
    subst hn
    refine ⟨.slice b 0 0, w, ?_, Or.inl ⟨b, rfl, rfl, rfl⟩, Below.refl _ _, fun h => absurd h (by omega), fun _ => rfl⟩
    cases b with
    | none => simp [Builtin.append_, run_underlying ht, sizeOf, typeInfo, hi, hs.cells, Builtin.lenOf]
    | some ad => simp [Builtin.append_, run_underlying ht, sizeOf, typeInfo, hi, hs.cells, Builtin.lenOf, storeCells]
  · have hb2 : (0 + m) * i.bytes ≤ 140737488355328 := by
      have := Nat.mul_le_mul hm hby
      simp only [Nat.zero_add]
      omega
    have hold : (Builtin.firstCells i.size 0 (.slice b 0 0)).run P w.drew = .ok ([] : List Value).toArray w.drew := by
      cases b with
      | none => exact run_firstCells_none w.drew i.size 0 0 0
      | some ad => exact run_firstCells_some w.drew i.size 0 ad 0 0 [] (by simp) (fun j u hj => by simp at hj)
    have hr := run_append_grow_src (P := P) w t t ty e i z ht hi hz b 0 0 [] hold (.slice a m c) m news hs (by omega) (by omega) (growslice_fits (by omega) hb2)
    have hge := grownCap_ge w (0 + m) 0 e
    have hcm : grownCap w (0 + m) 0 e ≤ maxLen := grownCap_le_maxLen w (0 + m) 0 e (by unfold maxLen; omega)
    simp only [Nat.zero_add, List.nil_append] at hr hge hcm
    obtain ⟨c', hc'⟩ : ∃ c', grownCap w m 0 e = c' + 1 := ⟨grownCap w m 0 e - 1, by omega⟩
    rw [hc'] at hr hge hcm
    refine ⟨_, _, hr, Or.inr ⟨⟨hl, Or.inr ⟨w.heap.size, _, _, rfl, Nat.le_refl _, heap_alloc_new w.drew _, hge, hcm, ?_, ?_⟩⟩, _, c', rfl⟩, ⟨rfl, rfl, rfl, by simp, fun k hk => heap_alloc_old w.drew _ hk⟩, fun _ => ⟨rfl, by simp⟩, fun h => absurd h (by omega)⟩
    · simp only [Array.size_append, List.size_toArray, size_zeroCells, hzs, hl, ← Nat.add_mul]
      congr 1
      omega
    · simp only [Array.toList_append]
      rw [← hl]
      exact List.take_left

/-- 'append' on an owned row. -/
theorem run_app {P : Program} (w : World) (B : Nat) (t ty e : TypeId) (z : Value) (k bytes : Nat) (ht : P.underlying t = some (.slice e)) (hinfo : (P.info? e).map (fun i => (i.zero, i.size, i.bytes)) = some (some z, k, bytes)) (hzs : z.cells.size = k) (hk : 0 < k)
    (v : Value) (n : Nat) (xs : List Value) (h : RowO w B e k v n xs) (ad : Addr) (m c : Nat) (news : List Value) (hl : news.length = m * k) (hS : Sl w (some ad) (m * k) (fun i => news.getD i undef)) (h1 : ∀ u ∈ news, u.oneCell' = true) (hm : n + m ≤ 1048576) (hby : bytes ≤ 1048576) (hB : B ≤ w.heap.size) :
    ∃ v' w', (Builtin.append_ #[t, t] ty #[v, .slice (some ad) m c]).run P w = .ok v' w' ∧ RowO w' B e k v' (n + m) (xs ++ news) ∧ Kept (fun b => rb v = some b) w w' ∧ (rb v' = none ∨ rb v' = rb v ∨ (rb v' = some w.heap.size ∧ w.heap.size < w'.heap.size)) := by
  rcases h with ⟨b, rfl, rfl, rfl⟩ | ⟨h, hne⟩
  · obtain ⟨v', w', hr, h2, h3, h4, h5⟩ := run_app_empty (P := P) w t ty e z k bytes ht hinfo hzs hk b (some ad) m c news hl hS h1 (by omega) hby
    refine ⟨v', w', hr, ?_, Kept.of_below h3, ?_⟩
    · simp only [Nat.zero_add, List.nil_append]
      exact h2.mono hB
    · rcases Nat.eq_zero_or_pos m with rfl | hpos
      · rw [h5 rfl]; exact Or.inl (rb_bare b 0)
      · exact Or.inr (Or.inr (h4 hpos))
  · obtain ⟨i, hi, hzz⟩ := Option.map_eq_some_iff.1 hinfo
    simp only [Prod.mk.injEq] at hzz
    obtain ⟨hz, hsz, hb⟩ := hzz
    have hnews : ∀ j u, news[j]? = some u → w.cell? (ad.add j) = some u := fun j u hj => by
      have hjl : j < news.length := (List.getElem?_eq_some_iff.1 hj).1
      obtain ⟨b, off, e, hc⟩ := hS j (by omega)
      cases e
      rw [Addr.add_mid, hc]
      show some (news.getD j undef) = some u
      rw [List.getD_eq_getElem?_getD, hj]
      rfl
    have hb2 : (n + m) * bytes ≤ 140737488355328 := by
      have := Nat.mul_le_mul hm hby
      omega
    obtain ⟨v', w', hr, h2, h3, h4, h5⟩ := run_append_own_at (P := P) w B t ty e i z k bytes ht hi hz hsz hb hzs hk v n xs h ad m c news hl hnews h1 (by unfold maxLen; omega) hb2 hB
    obtain ⟨a0, c0, hv⟩ := hne
    have hrb : rb v = v.ownBlock := by rw [hv]; rfl
    refine ⟨v', w', hr, rowO_of h2, ⟨h3.os, h3.tape, h3.output, h3.size, fun k hk hn => h3.block k hk (fun e => hn (by rw [hrb]; exact e.symm))⟩, ?_⟩
    cases hq : rb v' with
    | none => exact Or.inl rfl
    | some b =>
      have hb' := rb_own hq
      rcases h5 with h5 | h5
      · exact Or.inr (Or.inl (by rw [hrb, ← h5, hb']))
      · rw [hb'] at h5
        cases h5
        exact Or.inr (Or.inr ⟨rfl, (h2.lt _ hb').2⟩)

/-- 'append' on an empty slice without room, as one step of a region that draws its order. -/
theorem step_app_empty {P : Program} (t e : TypeId) (z : Value) (k bytes : Nat) (ht : P.underlying t = some (.slice e)) (hinfo : (P.info? e).map (fun i => (i.zero, i.size, i.bytes)) = some (some z, k, bytes)) (hzs : z.cells.size = k) (hk : 0 < k) (hby : bytes ≤ 1048576)
    {ops : Array Oper} {o : Oper} {a : Act} {w : World} {K : Act → World → Prop} {Q : Exit → Act → World → Prop} {E : Prop} (hgd : o.guard = none) (s x : Operand)
    (ho : o.op = .call { callee := .builtin .append, args := #[s, x], argTypes := #[t, t] })
    (b : Option Addr) (hs : a.eval s = .slice b 0 0) (ad : Option Addr) (m c : Nat) (news : List Value) (hx : a.eval x = .slice ad m c) (hl : news.length = m * k) (hS : Sl w ad (m * k) (fun i => news.getD i undef)) (h1 : ∀ u ∈ news, u.oneCell' = true) (hm : m ≤ 1048576)
    (hK : ∀ v' w', RowO w' w.heap.size e k v' m news → Below w.heap.size w w' → (m = 0 → rb v' = none) → (0 < m → rb v' = some w.heap.size ∧ w.heap.size < w'.heap.size) → K (a.put o.dst v') w') :
    if Region.wanted o (yielded ops a.tmps) = true then Oper.wp P o a w K Q else E := by
  have hw : Region.wanted o (yielded ops a.tmps) = true := by simp [Region.wanted, hgd]
  rw [if_pos hw]
  obtain ⟨v', w', hr, h2, h3, h4, h5⟩ := run_app_empty (P := P) w t o.type e z k bytes ht hinfo hzs hk b ad m c news hl hS h1 hm hby
  unfold Oper.wp execOp
  simp only [ho, resolve, invoke, builtin, Sem.run_bind, Sem.run_pure, Result.andThen_ok, List.map_toArray, List.map_cons, List.map_nil, hs, hx, hr]
  exact hK v' w' h2 h3 (fun h => by rw [h5 h]; exact rb_bare b 0) h4

/-- 'append' on an owned row, at the list of a plain region's operations. -/
theorem wpList_app {P : Program} (t e : TypeId) (z : Value) (k bytes : Nat) (ht : P.underlying t = some (.slice e)) (hinfo : (P.info? e).map (fun i => (i.zero, i.size, i.bytes)) = some (some z, k, bytes)) (hzs : z.cells.size = k) (hk : 0 < k) (hby : bytes ≤ 1048576)
    {ops : Array Oper} {rest : List Oper} {o : Oper} {a : Act} {Q : Exit → Act → World → Prop} (w : World) (hgd : o.guard = none) (s x : Operand)
    (ho : o.op = .call { callee := .builtin .append, args := #[s, x], argTypes := #[t, t] })
    (B : Nat) (v : Value) (n : Nat) (xs : List Value) (hs : a.eval s = v) (h : RowO w B e k v n xs) (ad : Addr) (m c : Nat) (news : List Value) (hx : a.eval x = .slice (some ad) m c) (hl : news.length = m * k) (hS : Sl w (some ad) (m * k) (fun i => news.getD i undef)) (h1 : ∀ u ∈ news, u.oneCell' = true)
    (hm : n + m ≤ 1048576) (hB : B ≤ w.heap.size)
    (hK : ∀ v' w', RowO w' B e k v' (n + m) (xs ++ news) → Kept (fun b => rb v = some b) w w' → (rb v' = none ∨ rb v' = rb v ∨ (rb v' = some w.heap.size ∧ w.heap.size < w'.heap.size)) → wpList P ops Q rest (a.put o.dst v') w') :
    wpList P ops Q (o :: rest) a w := by
  refine wpList_plain hgd fun K hK' => ?_
  obtain ⟨v', w', hr, h2, h3, h4⟩ := run_app (P := P) w B t o.type e z k bytes ht hinfo hzs hk v n xs h ad m c news hl hS h1 hm hby hB
  unfold Oper.wp execOp
  simp only [ho, resolve, invoke, builtin, Sem.run_bind, Sem.run_pure, Result.andThen_ok, List.map_toArray, List.map_cons, List.map_nil, hs, hx, hr]
  exact hK' _ _ (hK v' w' h2 h3 h4)

end Go.Proofs.YtlhnkdogafnnpaaGreat.Mem

namespace Go.Proofs.YtlhnkdogafnnpaaGreat.Mem
open Go.RowKit
set_option linter.unusedVariables false

/-- The cells of a disk's three lists. -/
def sCells (l : List ByteArray) : List Value := l.map .string
def iCells (l : List Int) : List Value := l.map (.int .i64)
def wCells (l : List Wt) : List Value := l.flatMap Wt.cells

theorem wCells_length (l : List Wt) : (wCells l).length = l.length * 4 := by
  induction l with
  | nil => rfl
  | cons x l ih =>
    show (x.cells ++ wCells l).length = _
    rw [List.length_append, ih]
    simp [Wt.cells]; omega

theorem wCells_at (l : List Wt) (i : Nat) (h : i < l.length * 4) : (wCells l).getD i undef = wcell l i := by
  induction l generalizing i with
  | nil => simp at h
  | cons x l ih =>
    show (x.cells ++ wCells l).getD i undef = _
    have hx : x.cells.length = 4 := rfl
    rw [List.getD_eq_getElem?_getD]
    by_cases h4 : i < 4
    · rw [List.getElem?_append_left (by omega)]
      unfold wcell
      rw [show i / 4 = 0 by omega, show i % 4 = i by omega]
      rw [List.getD_eq_getElem?_getD]
      rfl
    · rw [List.getElem?_append_right (by omega), hx, ← List.getD_eq_getElem?_getD, ih (i - 4) (by simp at h; omega)]
      unfold wcell
      rw [show (i - 4) % 4 = i % 4 by omega]
      obtain ⟨q, hq⟩ : ∃ q, i / 4 = q + 1 := ⟨i / 4 - 1, by omega⟩
      rw [hq, show (i - 4) / 4 = q by omega]
      rfl

theorem sCells_at (l : List ByteArray) (i : Nat) (h : i < l.length) : (sCells l).getD i undef = .string (l.getD i ByteArray.empty) := by
  unfold sCells
  simp [List.getD_eq_getElem?_getD, h]
theorem iCells_at (l : List Int) (i : Nat) (h : i < l.length) : (iCells l).getD i undef = .int .i64 (l.getD i 0) := by
  unfold iCells
  simp [List.getD_eq_getElem?_getD, h]

theorem strs_sl {w : World} {a : Option Addr} {l : List ByteArray} (h : Strs w a l) : Sl w a (l.length * 1) (fun i => (sCells l).getD i undef) := by
  rw [Nat.mul_one]; exact Sl.congr h (fun i hi => (sCells_at l i hi).symm)
theorem ints_sl {w : World} {a : Option Addr} {l : List Int} (h : Ints w a l) : Sl w a (l.length * 1) (fun i => (iCells l).getD i undef) := by
  rw [Nat.mul_one]; exact Sl.congr h (fun i hi => (iCells_at l i hi).symm)
theorem wts_sl {w : World} {a : Option Addr} {l : List Wt} (h : Wts w a l) : Sl w a (l.length * 4) (fun i => (wCells l).getD i undef) :=
  Sl.congr h (fun i hi => (wCells_at l i hi).symm)
theorem sCells_one (l : List ByteArray) : ∀ u ∈ sCells l, u.oneCell' = true := fun u hu => by
  obtain ⟨x, _, rfl⟩ := List.mem_map.1 hu; rfl
theorem iCells_one (l : List Int) : ∀ u ∈ iCells l, u.oneCell' = true := fun u hu => by
  obtain ⟨x, _, rfl⟩ := List.mem_map.1 hu; rfl
theorem wCells_one (l : List Wt) : ∀ u ∈ wCells l, u.oneCell' = true := fun u hu => by
  obtain ⟨x, _, hx⟩ := List.mem_flatMap.1 hu
  unfold Wt.cells at hx
  simp only [List.mem_cons, List.not_mem_nil, or_false] at hx
  rcases hx with rfl | rfl | rfl | rfl <;> rfl

/-- A disk of the call's own: three rows, no two in one block. -/
def DkO (w : World) (B : Nat) (v : Value) (D : Dk) : Prop := ∃ v1 v2 v3, v = .agg #[v1, v2, v3] ∧ RowO w B 9 1 v1 D.sec.length (sCells D.sec) ∧ RowO w B 3 1 v2 D.ep.length (iCells D.ep) ∧ RowO w B 87 4 v3 D.pe.length (wCells D.pe) ∧
  (∀ b, rb v1 = some b → rb v2 ≠ some b ∧ rb v3 ≠ some b) ∧ (∀ b, rb v2 = some b → rb v3 ≠ some b)

theorem DkO.w {w : World} {B : Nat} {v : Value} {D : Dk} (h : DkO w B v D) : DkW w B v D := by
  obtain ⟨v1, v2, v3, rfl, r1, r2, r3, f1, f2⟩ := h
  obtain ⟨a1, c1, e1, w1⟩ := r1.wr
  obtain ⟨a2, c2, e2, w2⟩ := r2.wr
  obtain ⟨a3, c3, e3, w3⟩ := r3.wr
  refine ⟨a1, c1, a2, c2, a3, c3, by rw [e1, e2, e3], ?_, ?_, ?_, ?_, ?_⟩
  · rw [Nat.mul_one] at w1; exact w1.congr (fun i hi => sCells_at _ i hi)
  · rw [Nat.mul_one] at w2; exact w2.congr (fun i hi => iCells_at _ i hi)
  · exact w3.congr (fun i hi => wCells_at _ i hi)
  · intro b hb
    have hb1 := r1.foot e1 (b := b) (by rw [Nat.mul_one]; exact hb)
    exact ⟨fun h2 => (f1 b hb1).1 (r2.foot e2 (by rw [Nat.mul_one]; exact h2)), fun h3 => (f1 b hb1).2 (r3.foot e3 h3)⟩
  · intro b hb h3
    exact f2 b (r2.foot e2 (by rw [Nat.mul_one]; exact hb)) (r3.foot e3 h3)

theorem DkO.below {w w' : World} {B : Nat} {v : Value} {D : Dk} (h : DkO w B v D) (b : Below w.heap.size w w') : DkO w' B v D := by
  obtain ⟨v1, v2, v3, e, r1, r2, r3, f1, f2⟩ := h
  exact ⟨v1, v2, v3, e, r1.below b, r2.below b, r3.below b, f1, f2⟩

theorem info9' : (Tryz.prog.info? 9).map (fun i => (i.zero, i.size, i.bytes)) = some (some (.string ByteArray.empty), 1, 16) := by kernel_rfl
theorem info3' : (Tryz.prog.info? 3).map (fun i => (i.zero, i.size, i.bytes)) = some (some (.int .i64 0), 1, 8) := by kernel_rfl

/-- What stays while a disk is copied, beside the argument's three cells: all up to block n, and that the result's three cells may be written. -/
structure CpRest (wc : World) (n : Nat) (w : World) : Prop where
  bel : Below (n + 1) wc w
  s : ∀ j, j < 3 → ∃ u, w.cell? ⟨n + 1, j, none⟩ = some u
  f : ∀ j, j < 3 → w.frozen? ⟨n + 1, j, none⟩ = false

theorem CpRest.below {wc w w' : World} {n : Nat} (h : CpRest wc n w) (b : Below w.heap.size w w') (hn : n + 1 ≤ wc.heap.size) : CpRest wc n w' :=
  ⟨h.bel.trans (b.mono (Nat.le_trans hn h.bel.size)), fun j hj => by
    obtain ⟨u, hu⟩ := h.s j hj
    exact ⟨u, (b.cell (p := ⟨n + 1, j, none⟩) (World.block_lt_of_cell? w _ hu)).trans hu⟩, fun j hj => by
    obtain ⟨u, hu⟩ := h.s j hj
    exact (b.frozen (p := ⟨n + 1, j, none⟩) (World.block_lt_of_cell? w _ hu)).trans (h.f j hj)⟩

theorem CpRest.set {wc w : World} {n : Nat} (h : CpRest wc n w) (i : Nat) (v : Value) : CpRest wc n (w.setCell ⟨n + 1, i, none⟩ v) :=
  ⟨h.bel.setCell (Nat.le_refl _) v, fun j hj => by
    obtain ⟨u, hu⟩ := h.s j hj
    exact cell?_setCell_some hu, fun j hj => by rw [World.frozen?_setCell]; exact h.f j hj⟩

theorem cp_below {wc w w' : World} {n : Nat} {x0 x1 x2 : Value} (hn : n + 1 ≤ wc.heap.size) (b : Below w.heap.size w w') (h : w.cell? ⟨n, 0, none⟩ = some x0 ∧ w.cell? ⟨n, 1, none⟩ = some x1 ∧ w.cell? ⟨n, 2, none⟩ = some x2 ∧ CpRest wc n w) : w'.cell? ⟨n, 0, none⟩ = some x0 ∧ w'.cell? ⟨n, 1, none⟩ = some x1 ∧ w'.cell? ⟨n, 2, none⟩ = some x2 ∧ CpRest wc n w' := by
  obtain ⟨h0, h1, h2, hb⟩ := h
  exact ⟨(b.cell (p := ⟨n, 0, none⟩) (World.block_lt_of_cell? w _ h0)).trans h0, (b.cell (p := ⟨n, 1, none⟩) (World.block_lt_of_cell? w _ h1)).trans h1, (b.cell (p := ⟨n, 2, none⟩) (World.block_lt_of_cell? w _ h2)).trans h2, hb.below b hn⟩

theorem cp_alloc {wc w : World} {n : Nat} {x0 x1 x2 : Value} (hn : n + 1 ≤ wc.heap.size) (h : w.cell? ⟨n, 0, none⟩ = some x0 ∧ w.cell? ⟨n, 1, none⟩ = some x1 ∧ w.cell? ⟨n, 2, none⟩ = some x2 ∧ CpRest wc n w) (o : Obj) : (w.alloc o).cell? ⟨n, 0, none⟩ = some x0 ∧ (w.alloc o).cell? ⟨n, 1, none⟩ = some x1 ∧ (w.alloc o).cell? ⟨n, 2, none⟩ = some x2 ∧ CpRest wc n (w.alloc o) :=
  cp_below hn ((Below.refl _ _).alloc (Nat.le_refl _) o) h

theorem cp_alloc_drew {wc w : World} {n : Nat} {x0 x1 x2 : Value} (hn : n + 1 ≤ wc.heap.size) (h : w.drew.cell? ⟨n, 0, none⟩ = some x0 ∧ w.drew.cell? ⟨n, 1, none⟩ = some x1 ∧ w.drew.cell? ⟨n, 2, none⟩ = some x2 ∧ CpRest wc n (w.drew)) (o : Obj) : (w.alloc o).drew.cell? ⟨n, 0, none⟩ = some x0 ∧ (w.alloc o).drew.cell? ⟨n, 1, none⟩ = some x1 ∧ (w.alloc o).drew.cell? ⟨n, 2, none⟩ = some x2 ∧ CpRest wc n ((w.alloc o).drew) := cp_alloc (w := w.drew) hn h o

theorem cp_set {wc w : World} {n : Nat} {x0 x1 x2 : Value} (h : w.cell? ⟨n, 0, none⟩ = some x0 ∧ w.cell? ⟨n, 1, none⟩ = some x1 ∧ w.cell? ⟨n, 2, none⟩ = some x2 ∧ CpRest wc n w) (i : Nat) (v : Value) : (w.setCell ⟨n + 1, i, none⟩ v).cell? ⟨n, 0, none⟩ = some x0 ∧ (w.setCell ⟨n + 1, i, none⟩ v).cell? ⟨n, 1, none⟩ = some x1 ∧ (w.setCell ⟨n + 1, i, none⟩ v).cell? ⟨n, 2, none⟩ = some x2 ∧ CpRest wc n (w.setCell ⟨n + 1, i, none⟩ v) := by
  obtain ⟨h0, h1, h2, hb⟩ := h
  have ne : ∀ j, (⟨n + 1, i, none⟩ : Addr) ≠ ⟨n, j, none⟩ := fun j e => by injection e; omega
  exact ⟨by rw [World.cell?_setCell_other _ _ _ _ (ne 0)]; exact h0, by rw [World.cell?_setCell_other _ _ _ _ (ne 1)]; exact h1, by rw [World.cell?_setCell_other _ _ _ _ (ne 2)]; exact h2, hb.set i v⟩

theorem cp_sl {w0 wc w : World} {n : Nat} {x0 x1 x2 : Value} {a : Option Addr} {m : Nat} {f : Nat → Value} (hS : Sl w0 a m f) (hB : Below w0.heap.size w0 wc) (hn : w0.heap.size = n) (h : w.cell? ⟨n, 0, none⟩ = some x0 ∧ w.cell? ⟨n, 1, none⟩ = some x1 ∧ w.cell? ⟨n, 2, none⟩ = some x2 ∧ CpRest wc n w) : Sl w a m f :=
  hS.below (hB.trans (h.2.2.2.bel.mono (by omega)))

theorem below_a1 {w w' : World} {o : Obj} (b : Below (w.alloc o).heap.size (w.alloc o) w') : Below w.heap.size w w' :=
  ((Below.refl _ _).alloc (Nat.le_refl _) o).trans (b.mono (Nat.le_of_lt (lt_alloc w o)))
theorem below_a2 {w w' : World} {o p : Obj} (b : Below ((w.alloc o).alloc p).heap.size ((w.alloc o).alloc p) w') : Below w.heap.size w w' := below_a1 (below_a1 b)

/-- Rows that were laid one after the other lie in blocks of their own. -/
theorem apart_fresh {v1 v2 : Value} {n1 n2 s1 s2 z : Nat} {p2 : Prop} (z1 : n1 = 0 → rb v1 = none) (y1 : 0 < n1 → rb v1 = some s1 ∧ s1 < z) (z2 : n2 = 0 → rb v2 = none) (y2 : 0 < n2 → rb v2 = some s2 ∧ p2) (h : z ≤ s2) : ∀ b, rb v1 = some b → rb v2 ≠ some b := by
  intro b h1 h2
  rcases Nat.eq_zero_or_pos n1 with e | e
  · rw [z1 e] at h1; cases h1
  rcases Nat.eq_zero_or_pos n2 with e' | e'
  · rw [z2 e'] at h2; cases h2
  have q1 := (y1 e).1.symm.trans h1
  have q2 := (y2 e').1.symm.trans h2
  have := (y1 e).2
  cases q1
  cases q2
  omega

/-- A struct that is handed back out of cells that are known. -/
theorem results_mid {P : Program} {fn : Func} {p : Tmp} {ty : TypeId} (h : fn.results = #[.cell p ty]) (tmps : Array Value) (w : World) (g : Nat) (xs : List Value) (d : TypeDesc)
    (hp : tmps.getD p undef = .pointer (some ⟨g, 0, none⟩)) (hr : w.rangeAt g 0 xs)
    (hu : P.underlying ty = some d) (hd : d.isRow = true) (hi : (P.info? ty).map (·.size) = some xs.length) :
    (results fn tmps).run P w = .ok (.agg xs.toArray) w := by
  have hp' : tmps[p]?.getD undef = .pointer (some ⟨g, 0, none⟩) := by simpa using hp
  simp [results, h, hp', asAddr, run_loadVar_mid w g 0 ty xs d hr hu hd hi]

theorem range3 {w : World} {g : Nat} {x0 x1 x2 u0 u1 u2 : Value} (h0 : w.cell? ⟨g, 0, none⟩ = some u0) (h1 : w.cell? ⟨g, 1, none⟩ = some u1) (h2 : w.cell? ⟨g, 2, none⟩ = some u2) :
    (((w.setCell ⟨g, 0, none⟩ x0).setCell ⟨g, 1, none⟩ x1).setCell ⟨g, 2, none⟩ x2).rangeAt g 0 [x0, x1, x2] := by
  have ne : ∀ i j, i ≠ j → (⟨g, i, none⟩ : Addr) ≠ ⟨g, j, none⟩ := fun i j h e => h (by injection e)
  intro j v hv
  match j, hv with
  | 0, hv =>
    cases hv
    rw [World.cell?_setCell_other _ _ _ _ (ne 2 (0 + 0) (by omega)), World.cell?_setCell_other _ _ _ _ (ne 1 (0 + 0) (by omega))]
    exact World.cell?_setCell_same _ _ _ h0
  | 1, hv =>
    cases hv
    rw [World.cell?_setCell_other _ _ _ _ (ne 2 (0 + 1) (by omega))]
    exact World.cell?_setCell_same _ _ _ (u := u1) (by rw [World.cell?_setCell_other _ _ _ _ (ne 0 1 (by omega))]; exact h1)
  | 2, hv =>
    cases hv
    exact World.cell?_setCell_same _ _ _ (u := u2) (by rw [World.cell?_setCell_other _ _ _ _ (ne 1 2 (by omega)), World.cell?_setCell_other _ _ _ _ (ne 0 2 (by omega))]; exact h2)

theorem kept3 (w : World) (g : Nat) (x0 x1 x2 : Value) : Kept (fun b => b = g) w (((w.setCell ⟨g, 0, none⟩ x0).setCell ⟨g, 1, none⟩ x1).setCell ⟨g, 2, none⟩ x2) :=
  (((kept_set _ _ _ _).trans (kept_set _ _ _ _)).trans (kept_set _ _ _ _)).mono (fun b _ h => by rcases h with (h | h) | h <;> exact h)

theorem cp_size {wc w : World} {n : Nat} {x0 x1 x2 : Value} (h : w.cell? ⟨n, 0, none⟩ = some x0 ∧ w.cell? ⟨n, 1, none⟩ = some x1 ∧ w.cell? ⟨n, 2, none⟩ = some x2 ∧ CpRest wc n w) : wc.heap.size ≤ w.heap.size := h.2.2.2.bel.size

theorem copy_end {w wc w3 : World} {v1 v2 v3 : Value} {D : Dk} (ec : wc.heap.size = w.heap.size + 1 + 1) (hB : Below w.heap.size w wc) (hb : Below (w.heap.size + 1) wc w3)
    (r1 : RowO w3 wc.heap.size 9 1 v1 D.sec.length (sCells D.sec)) (r2 : RowO w3 wc.heap.size 3 1 v2 D.ep.length (iCells D.ep)) (r3 : RowO w3 wc.heap.size 87 4 v3 D.pe.length (wCells D.pe))
    (s12 : ∀ b, rb v1 = some b → rb v2 ≠ some b) (s13 : ∀ b, rb v1 = some b → rb v3 ≠ some b) (s23 : ∀ b, rb v2 = some b → rb v3 ≠ some b) :
    DkO (((w3.setCell ⟨w.heap.size + 1, 0, none⟩ v1).setCell ⟨w.heap.size + 1, 1, none⟩ v2).setCell ⟨w.heap.size + 1, 2, none⟩ v3) w.heap.size (.agg [v1, v2, v3].toArray) D ∧
    Below w.heap.size w (((w3.setCell ⟨w.heap.size + 1, 0, none⟩ v1).setCell ⟨w.heap.size + 1, 1, none⟩ v2).setCell ⟨w.heap.size + 1, 2, none⟩ v3) := by
  have k := kept3 w3 (w.heap.size + 1) v1 v2 v3
  refine ⟨⟨v1, v2, v3, rfl, ?_, ?_, ?_, fun b h => ⟨s12 b h, s13 b h⟩, s23⟩, ?_⟩
  · exact (r1.kept k (fun b h e => by have := (r1.lt h).1; omega)).mono (by omega)
  · exact (r2.kept k (fun b h e => by have := (r2.lt h).1; omega)).mono (by omega)
  · exact (r3.kept k (fun b h e => by have := (r3.lt h).1; omega)).mono (by omega)
  · exact below_set (below_set (below_set (hB.trans (hb.mono (by omega))) _ _ _ (by omega)) _ _ _ (by omega)) _ _ _ (by omega)

set_option maxRecDepth 100000 in
set_option maxHeartbeats 2000000 in
theorem l3Copy (w : World) (v : Value) (D : Dk) (h : DkR w v D) (h1 : D.sec.length ≤ 1048576) (h2 : D.ep.length ≤ 1048576) (h3 : D.pe.length ≤ 1048576) :
    Calls Tryz.prog 25 #[v] w fun e w' => ∃ v', e = .returned v' ∧ DkO w' w.heap.size v' D ∧ Below w.heap.size w w' := by
  obtain ⟨a1, c1, a2, c2, a3, c3, rfl, s1, s2, s3⟩ := h
  have HS1 := hid (strs_sl s1)
  have HS2 := hid (ints_sl s2)
  have HS3 := hid (wts_sl s3)
  clear s1 s2 s3
  go_enter Tryz.func25, Tryz.ntmps25
  go_wp2
  obtain ⟨wc, hwc, ec, A0, R0, B0⟩ := two_new w [.slice a1 D.sec.length c1, .slice a2 D.ep.length c2, .slice a3 D.pe.length c3] [.slice none 0 0, .slice none 0 0, .slice none 0 0] 44 44
  simp only [hwc]
  clear hwc
  have k0 := A0.c 0 rfl
  have k1 := A0.c 1 rfl
  have k2 := A0.c 2 rfl
  have HB := hid B0
  have hn : w.heap.size + 1 ≤ wc.heap.size := by omega
  have hcp : CpRest wc w.heap.size wc.drew := ⟨(Below.refl _ wc).drew, fun j hj => by
    match j, hj with
    | 0, _ => exact ⟨_, R0.c 0 rfl⟩
    | 1, _ => exact ⟨_, R0.c 1 rfl⟩
    | 2, _ => exact ⟨_, R0.c 2 rfl⟩, fun j _ => R0.f j⟩
  have Q0 := hid (show wc.drew.cell? ⟨w.heap.size, 0, none⟩ = some (.slice a1 D.sec.length c1) ∧ wc.drew.cell? ⟨w.heap.size, 1, none⟩ = some (.slice a2 D.ep.length c2) ∧ wc.drew.cell? ⟨w.heap.size, 2, none⟩ = some (.slice a3 D.pe.length c3) ∧ CpRest wc w.heap.size wc.drew from ⟨k0, k1, k2, hcp⟩)
  clear A0 R0 B0 hcp k0 k1 k2
  go_region_held_law (fun w' => w'.cell? ⟨w.heap.size, 0, none⟩ = some (.slice a1 D.sec.length c1) ∧ w'.cell? ⟨w.heap.size, 1, none⟩ = some (.slice a2 D.ep.length c2) ∧ w'.cell? ⟨w.heap.size, 2, none⟩ = some (.slice a3 D.pe.length c3) ∧ CpRest wc w.heap.size w')
    (first | with_reducible exact Q0.out | with_reducible exact Q3.out | with_reducible exact Q2.out | with_reducible exact Q1.out | (with_reducible refine cp_alloc_drew hn ?_ _; with_reducible assumption) | (with_reducible refine cp_alloc hn ?_ _; with_reducible assumption) | (with_reducible refine cp_set (cp_set (cp_set ?_ 0 _) 1 _) 2 _; with_reducible assumption))
    (first
      | (refine step_app_empty 29 9 (.string ByteArray.empty) 1 16 Tryz.underlying29 info9' rfl (by decide) (by decide) rfl (.tmp 3) (.tmp 5) rfl _ rfl a1 D.sec.length c1 (sCells D.sec) rfl (by simp [sCells]) (cp_sl HS1.out HB.out rfl (by with_reducible assumption)) (sCells_one _) h1 ?_; intro v1 w1 r1 b1 z1 y1; replace r1 := r1.mono (cp_size (wc := wc) (n := w.heap.size) (x0 := .slice a1 D.sec.length c1) (x1 := .slice a2 D.ep.length c2) (x2 := .slice a3 D.pe.length c3) (by with_reducible assumption)); obtain ⟨p1, d1, e1, _⟩ := r1.wr; subst e1; have Q1 := hid (cp_below (wc := wc) (n := w.heap.size) (x0 := .slice a1 D.sec.length c1) (x1 := .slice a2 D.ep.length c2) (x2 := .slice a3 D.pe.length c3) hn b1 (by with_reducible assumption)); have R1 := hid r1; have Z1 := hid z1; have Y1 := hid y1; clear r1 b1 z1 y1)
      | (refine step_app_empty 42 87 Wt.none.val 4 40 Tryz.underlying42 infoW rfl (by decide) (by decide) rfl (.tmp 11) (.tmp 13) rfl _ rfl a3 D.pe.length c3 (wCells D.pe) rfl (wCells_length _) (cp_sl HS3.out HB.out rfl (by with_reducible assumption)) (wCells_one _) h3 ?_; intro v3 w3 r3 b3 z3 y3; replace r3 := r3.mono (cp_size (wc := wc) (n := w.heap.size) (x0 := .slice a1 D.sec.length c1) (x1 := .slice a2 D.ep.length c2) (x2 := .slice a3 D.pe.length c3) (by with_reducible assumption)); obtain ⟨p3, d3, e3, _⟩ := r3.wr; subst e3; have Q3 := hid (cp_below (wc := wc) (n := w.heap.size) (x0 := .slice a1 D.sec.length c1) (x1 := .slice a2 D.ep.length c2) (x2 := .slice a3 D.pe.length c3) hn b3 (by with_reducible assumption)); have T23 := hid (show Below w2.heap.size w2 w3 from (by first | with_reducible exact b3 | with_reducible exact below_a1 b3 | with_reducible exact below_a2 b3)); have R1'' := hid (R1'.out.below T23.out); have R2' := hid (R2.out.below T23.out); have S23 := hid (apart_fresh Z2.out Y2.out z3 y3 (by first | with_reducible exact Nat.le_refl _ | with_reducible exact Nat.le_of_lt (lt_alloc _ _) | with_reducible exact Nat.le_of_lt (Nat.lt_trans (lt_alloc _ _) (lt_alloc _ _)))); have S13 := hid (apart_fresh Z1.out Y1.out z3 y3 (Nat.le_trans T12.out.size (by first | with_reducible exact Nat.le_refl _ | with_reducible exact Nat.le_of_lt (lt_alloc _ _) | with_reducible exact Nat.le_of_lt (Nat.lt_trans (lt_alloc _ _) (lt_alloc _ _))))); obtain ⟨u0, g0⟩ := Q3.out.2.2.2.s 0 (by decide); obtain ⟨u1, g1⟩ := Q3.out.2.2.2.s 1 (by decide); obtain ⟨u2, g2⟩ := Q3.out.2.2.2.s 2 (by decide); have f0 := Q3.out.2.2.2.f 0 (by decide); have f1 := Q3.out.2.2.2.f 1 (by decide); have f2 := Q3.out.2.2.2.f 2 (by decide); have R3 := hid r3; have Z3 := hid z3; have Y3 := hid y3; clear r3 b3 z3 y3)
      | (refine step_app_empty 30 3 (.int .i64 0) 1 8 Tryz.underlying30 info3' rfl (by decide) (by decide) rfl (.tmp 7) (.tmp 9) rfl _ rfl a2 D.ep.length c2 (iCells D.ep) rfl (by simp [iCells]) (cp_sl HS2.out HB.out rfl (by with_reducible assumption)) (iCells_one _) h2 ?_; intro v2 w2 r2 b2 z2 y2; replace r2 := r2.mono (cp_size (wc := wc) (n := w.heap.size) (x0 := .slice a1 D.sec.length c1) (x1 := .slice a2 D.ep.length c2) (x2 := .slice a3 D.pe.length c3) (by with_reducible assumption)); obtain ⟨p2, d2, e2, _⟩ := r2.wr; subst e2; have Q2 := hid (cp_below (wc := wc) (n := w.heap.size) (x0 := .slice a1 D.sec.length c1) (x1 := .slice a2 D.ep.length c2) (x2 := .slice a3 D.pe.length c3) hn b2 (by with_reducible assumption)); have T12 := hid (show Below w1.heap.size w1 w2 from (by first | with_reducible exact b2 | with_reducible exact below_a1 b2 | with_reducible exact below_a2 b2)); have R1' := hid (R1.out.below T12.out); have S12 := hid (apart_fresh Z1.out Y1.out z2 y2 (by first | with_reducible exact Nat.le_refl _ | with_reducible exact Nat.le_of_lt (lt_alloc _ _) | with_reducible exact Nat.le_of_lt (Nat.lt_trans (lt_alloc _ _) (lt_alloc _ _)))); have R2 := hid r2; have Z2 := hid z2; have Y2 := hid y2; clear r2 b2 z2 y2))
  all_goals clear Q0
  all_goals (go_wp2; refine bodyPost_ret (results_mid rfl _ _ (w.heap.size + 1) [.slice p1 D.sec.length d1, .slice p2 D.ep.length d2, .slice p3 D.pe.length d3] _ rfl (range3 g0 g1 g2) Tryz.underlying44 rfl (by kernel_rfl)) rfl ?_; exact ⟨_, rfl, copy_end ec HB.out Q3.out.2.2.2.bel R1''.out R2'.out R3.out S12.out S13.out S23.out⟩)

end Go.Proofs.YtlhnkdogafnnpaaGreat.Mem
