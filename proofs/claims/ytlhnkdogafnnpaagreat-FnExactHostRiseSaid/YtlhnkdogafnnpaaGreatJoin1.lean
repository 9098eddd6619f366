/-
  A region that draws its order, walked once: one condition on what has come up, what it has left, and the world; each operation keeps it; so whatever order is drawn, it holds at the end. At any program. No condition.
  Plain facts on slices in memory: what is read of one, what a call owns of one, and what is left alone. No condition.
  Plain: cells stored one behind the other. No condition.
  A struct of many cells that is loaded whole and stored whole in a plain region: one step each, however long it is. No condition.
  Two regions that each exact law has, at any program: an argument laid anew and put into a box; what stands in the box compared with the argument laid anew. One step an operation, however long the structs are. No condition.
  The regions of an exact law in which a function of two answers is called, and its first answer put into a box: at any program, whatever the order that is drawn. No condition.
-/
import Derived.WalkKit
import Derived.WalkSmall
import Derived.RegionTactic
import Derived.Deep.MidRow
import Derived.OrdersHeld
import Derived.Deep.OwnRows
import Derived.Handy
namespace Go.Proofs.YtlhnkdogafnnpaaGreat.Rg
open Go.RowKit
set_option linter.unusedVariables false

def dstOf (ops : Array Oper) (i : Nat) : Option Tmp := (ops[i]?).bind (·.dst)

/-- The region's form: its results lie apart within n slots, and each operation waits for elder ones alone. -/
def fits (ops : Array Oper) (n : Nat) : Bool :=
  (List.range ops.size).all fun i =>
    (match dstOf ops i with
      | some d => decide (d < n) && (List.range ops.size).all fun j => j == i || dstOf ops j != some d
      | none => true) &&
    (match ops[i]? with
      | some o => o.after.all fun e => !Region.binds .any e || decide (e.on < i)
      | none => true)

/-- The slots behind the operations that have come up. -/
structure At (ops : Array Oper) (a0 : Act) (L : Nat → Bool) (v : Nat → Value) (a : Act) : Prop where
  size : a.tmps.size = a0.tmps.size
  defers : a.defers = a0.defers
  got : ∀ i d, L i = true → dstOf ops i = some d → a.tmps[d]? = some (v i)
  off : ∀ t, (∀ i, L i = true → dstOf ops i ≠ some t) → a.tmps[t]? = a0.tmps[t]?

def upd (L : Nat → Bool) (i : Nat) : Nat → Bool := fun j => if j = i then true else L j
def updv (v : Nat → Value) (i : Nat) (u : Value) : Nat → Value := fun j => if j = i then u else v j

theorem fits_lt {ops : Array Oper} {n i : Nat} {d : Tmp} (h : fits ops n = true) (hi : dstOf ops i = some d) : d < n := by
  have hlt : i < ops.size := by
    rcases Nat.lt_or_ge i ops.size with h1 | h1
    · exact h1
    · simp [dstOf, Array.getElem?_eq_none h1] at hi
  unfold fits at h
  rw [List.all_eq_true] at h
  have h1 := h i (List.mem_range.2 hlt)
  rw [hi] at h1
  simp only [Bool.and_eq_true, decide_eq_true_eq] at h1
  exact h1.1.1

theorem dstOf_lt {ops : Array Oper} {i : Nat} {d : Tmp} (hi : dstOf ops i = some d) : i < ops.size := by
  rcases Nat.lt_or_ge i ops.size with h1 | h1
  · exact h1
  · simp [dstOf, Array.getElem?_eq_none h1] at hi

theorem fits_inj {ops : Array Oper} {n i j : Nat} {d : Tmp} (h : fits ops n = true) (hi : dstOf ops i = some d) (hj : dstOf ops j = some d) : j = i := by
  unfold fits at h
  rw [List.all_eq_true] at h
  have h1 := h i (List.mem_range.2 (dstOf_lt hi))
  rw [hi] at h1
  simp only [Bool.and_eq_true, decide_eq_true_eq, List.all_eq_true] at h1
  have h2 := h1.1.2 j (List.mem_range.2 (dstOf_lt hj))
  rw [hj] at h2
  simpa using h2

theorem fits_after {ops : Array Oper} {n i : Nat} {o : Oper} (h : fits ops n = true) (hi : ops[i]? = some o) {e : Edge} (he : e ∈ o.after) (hb : Region.binds .any e = true) : e.on < i := by
  have hlt : i < ops.size := by
    rcases Nat.lt_or_ge i ops.size with h1 | h1
    · exact h1
    · simp [Array.getElem?_eq_none h1] at hi
  unfold fits at h
  rw [List.all_eq_true] at h
  have h1 := h i (List.mem_range.2 hlt)
  rw [hi] at h1
  simp only [Bool.and_eq_true] at h1
  have h2 := Array.all_eq_true_iff_forall_mem.1 h1.2 e he
  rw [hb] at h2
  simpa using h2

theorem At.step {ops : Array Oper} {n : Nat} {a0 a : Act} {L : Nat → Bool} {v : Nat → Value} (h : At ops a0 L v a) (hf : fits ops a0.tmps.size = true) {i : Nat} {o : Oper} (hi : ops[i]? = some o) (hL : L i = false) (u : Value) :
    At ops a0 (upd L i) (updv v i u) (a.put o.dst u) := by
  have hd : dstOf ops i = o.dst := by simp [dstOf, hi]
  cases hdd : o.dst with
  | none =>
    rw [hdd] at hd
    refine ⟨h.size, h.defers, fun j d hj e => ?_, fun t ht => ?_⟩
    · by_cases hji : j = i
      · rw [hji, hd] at e; cases e
      · simp only [upd, updv, if_neg hji] at hj ⊢
        exact h.got j d hj e
    · exact h.off t (fun j hj => ht j (by simp only [upd]; split <;> simp_all))
  | some s =>
    rw [hdd] at hd
    have hs : s < a.tmps.size := by rw [h.size]; exact fits_lt hf hd
    refine ⟨by simpa [Act.put] using h.size, h.defers, fun j d hj e => ?_, fun t ht => ?_⟩
    · by_cases hji : j = i
      · subst hji
        rw [hd] at e
        cases e
        show (a.tmps.setIfInBounds s u)[s]? = some (if j = j then u else v j)
        rw [Array.getElem?_setIfInBounds_self_of_lt hs, if_pos rfl]
      · simp only [upd, if_neg hji] at hj
        have hds : s ≠ d := fun e2 => hji (fits_inj hf hd (e2 ▸ e))
        simp only [Act.put, updv, if_neg hji]
        rw [Array.getElem?_setIfInBounds_ne hds]
        exact h.got j d hj e
    · have hts : s ≠ t := fun e => ht i (by simp [upd]) (e ▸ hd)
      simp only [Act.put]
      rw [Array.getElem?_setIfInBounds_ne hts]
      exact h.off t (fun j hj => ht j (by simp only [upd]; split <;> simp_all))

/-- The slots where all have come up. -/
def putsAll (a0 : Act) : List (Option Tmp) → (Nat → Value) → Nat → Act
  | [], _, _ => a0
  | d :: ds, v, k => putsAll (a0.put d (v k)) ds v (k + 1)

theorem At.eval_got {ops : Array Oper} {a0 a : Act} {L : Nat → Bool} {v : Nat → Value} (h : At ops a0 L v a) (j : Nat) {t : Tmp} (hj : L j = true) (hd : dstOf ops j = some t) : a.eval (.tmp t) = v j := by
  show a.tmps.getD t undef = v j
  rw [Array.getD_eq_getD_getElem?, h.got j t hj hd]
  rfl

def offAll (ops : Array Oper) (x : Operand) : Bool := match x with
  | .tmp t => (List.range ops.size).all fun j => dstOf ops j != some t
  | _ => true

theorem At.eval_off {ops : Array Oper} {a0 a : Act} {L : Nat → Bool} {v : Nat → Value} (h : At ops a0 L v a) {x : Operand} (hx : offAll ops x = true) : a.eval x = a0.eval x := by
  cases x with
  | tmp t =>
    show a.tmps.getD t undef = a0.tmps.getD t undef
    rw [Array.getD_eq_getD_getElem?, Array.getD_eq_getD_getElem?, h.off t (fun j _ e => ?_)]
    unfold offAll at hx
    simp only [List.all_eq_true] at hx
    have := hx j (List.mem_range.2 (dstOf_lt e))
    rw [e] at this
    simp at this
  | _ => rfl

theorem At.yielded {ops : Array Oper} {a0 a : Act} {L : Nat → Bool} {v : Nat → Value} (h : At ops a0 L v a) (j : Nat) {t : Tmp} (hj : L j = true) (hd : dstOf ops j = some t) {b : Bool} (hv : v j = .bool b) : yielded ops a.tmps j = some b := by
  have e : ((ops[j]?).bind (·.dst)) = some t := hd
  unfold Go.yielded
  rw [e]
  simp only [Option.bind_some]
  rw [h.got j t hj hd, hv]

theorem putsAll_size : ∀ (ds : List (Option Tmp)) (a0 : Act) (v : Nat → Value) (k : Nat), (putsAll a0 ds v k).tmps.size = a0.tmps.size ∧ (putsAll a0 ds v k).defers = a0.defers
  | [], a0, v, k => ⟨rfl, rfl⟩
  | d :: ds, a0, v, k => by
    have h := putsAll_size ds (a0.put d (v k)) v (k + 1)
    unfold putsAll
    rw [h.1, h.2]
    cases d <;> simp [Act.put]

theorem putsAll_off : ∀ (ds : List (Option Tmp)) (a0 : Act) (v : Nat → Value) (k t : Nat), some t ∉ ds → (putsAll a0 ds v k).tmps[t]? = a0.tmps[t]?
  | [], a0, v, k, t, _ => rfl
  | d :: ds, a0, v, k, t, h => by
    unfold putsAll
    rw [putsAll_off ds _ v (k + 1) t (fun e => h (List.mem_cons_of_mem _ e))]
    cases d with
    | none => rfl
    | some s =>
      have : s ≠ t := fun e => h (e ▸ List.mem_cons_self)
      simp only [Act.put]
      rw [Array.getElem?_setIfInBounds_ne this]

theorem putsAll_got : ∀ (ds : List (Option Tmp)) (a0 : Act) (v : Nat → Value) (k t j : Nat), ds[j]? = some (some t) → (∀ i, ds[i]? = some (some t) → i = j) → t < a0.tmps.size → (putsAll a0 ds v k).tmps[t]? = some (v (k + j))
  | [], a0, v, k, t, j, h, _, _ => by simp at h
  | d :: ds, a0, v, k, t, 0, h, hu, ht => by
    simp only [List.getElem?_cons_zero, Option.some.injEq] at h
    subst h
    unfold putsAll
    rw [putsAll_off ds _ v (k + 1) t (fun e => by
      obtain ⟨i, hi⟩ := List.mem_iff_getElem?.1 e
      have := hu (i + 1) (by simpa using hi)
      omega)]
    simp only [Act.put, Nat.add_zero]
    rw [Array.getElem?_setIfInBounds_self_of_lt ht]
  | d :: ds, a0, v, k, t, j + 1, h, hu, ht => by
    unfold putsAll
    have := putsAll_got ds (a0.put d (v k)) v (k + 1) t j (by simpa using h) (fun i hi => by have := hu (i + 1) (by simpa using hi); omega) (by cases d <;> simpa [Act.put] using ht)
    rw [this, show k + 1 + j = k + (j + 1) by omega]

theorem At.all {ops : Array Oper} {a0 a : Act} {L : Nat → Bool} {v : Nat → Value} (h : At ops a0 L v a) (hf : fits ops a0.tmps.size = true) (hL : ∀ i, i < ops.size → L i = true) (ds : List (Option Tmp)) (hds : (List.range ops.size).map (dstOf ops) = ds) :
    a = putsAll a0 ds v 0 := by
  have hds' : ∀ i, ds[i]? = some (dstOf ops i) ∨ (ds[i]? = none ∧ dstOf ops i = none) := fun i => by
    rw [← hds]
    rcases Nat.lt_or_ge i ops.size with h1 | h1
    · left; simp [h1]
    · right; exact ⟨by simp [h1], by simp [dstOf, Array.getElem?_eq_none h1]⟩
  obtain ⟨s1, s2⟩ := putsAll_size ds a0 v 0
  have ht : a.tmps = (putsAll a0 ds v 0).tmps := by
    refine Array.ext_getElem? (fun t => ?_)
    rcases Nat.lt_or_ge t a0.tmps.size with htl | htl
    · by_cases hx : ∃ j, dstOf ops j = some t
      · obtain ⟨j, hj⟩ := hx
        have e1 : ds[j]? = some (some t) := by
          rcases hds' j with h1 | ⟨_, h1⟩
          · rw [h1, hj]
          · rw [hj] at h1; cases h1
        rw [putsAll_got ds a0 v 0 t j e1 (fun i hi => by
          rcases hds' i with h1 | ⟨h1, _⟩
          · rw [h1] at hi
            exact fits_inj hf hj (Option.some.inj hi)
          · rw [h1] at hi; cases hi) htl, Nat.zero_add]
        exact h.got j t (hL j (dstOf_lt hj)) hj
      · rw [putsAll_off ds a0 v 0 t (fun e => by
          obtain ⟨i, hi⟩ := List.mem_iff_getElem?.1 e
          rcases hds' i with h1 | ⟨h1, _⟩
          · rw [h1] at hi; exact hx ⟨i, Option.some.inj hi⟩
          · rw [h1] at hi; cases hi)]
        exact h.off t (fun i _ e => hx ⟨i, e⟩)
    · rw [Array.getElem?_eq_none (by rw [h.size]; exact htl), Array.getElem?_eq_none (by rw [s1]; exact htl)]
  have : a.defers = (putsAll a0 ds v 0).defers := by rw [s2]; exact h.defers
  cases a
  cases hp : putsAll a0 ds v 0
  rw [hp] at ht this
  simp only at ht this
  rw [ht, this]

/-- What an operation waits for has come up. -/
def waits (o : Oper) (L : Nat → Bool) : Bool := o.after.all fun e => !Region.binds .any e || L e.on

section
variable {P : Program} {ops : Array Oper} {Q : Exit → Act → World → Prop}

theorem rg_any (a0 : Act) (hf : fits ops a0.tmps.size = true) (I : (Nat → Bool) → (Nat → Value) → World → Prop)
    (hstep : ∀ i o, ops[i]? = some o → ∀ L v a w, At ops a0 L v a → I L v w → (∀ j oj, ops[j]? = some oj → L j = true → waits oj L = true) → L i = false → waits o L = true → wpOp P ops Q i (fun a' w' => ∃ u, a' = a.put o.dst u ∧ I (upd L i) (updv v i u) w') a w)
    (hend : ∀ L v a w, (∀ i, i < ops.size → L i = true) → At ops a0 L v a → I L v w → Q .normal a w) :
    ∀ (fuel : Nat) (listed : Array Bool) (v : Nat → Value) (a : Act) (w : World) (l : List Nat), listed.size = ops.size → l.length = fuel → l.Nodup → (∀ i, i ∈ l ↔ i < ops.size ∧ listed.getD i false = false) →
      At ops a0 (fun i => listed.getD i false) v a → I (fun i => listed.getD i false) v w → (∀ j oj, ops[j]? = some oj → listed.getD j false = true → waits oj (fun i => listed.getD i false) = true) → wpAny P .any ops Q fuel listed a w := by
  have hdone : ∀ (listed : Array Bool) (v : Nat → Value) (a : Act) (w : World), listed.size = ops.size → (∀ i, i < ops.size → listed.getD i false = true) → At ops a0 (fun i => listed.getD i false) v a → I (fun i => listed.getD i false) v w → Q .normal a w :=
    fun listed v a w hsz hall hA hJ => hend _ v a w hall hA hJ
  intro fuel
  induction fuel with
  | zero =>
    intro listed v a w l hsz hl hnd hm hA hJ hC
    have hl0 : l = [] := List.length_eq_zero_iff.1 hl
    subst hl0
    have hall : ∀ i, i < ops.size → listed.getD i false = true := fun i hi => by
      cases hb : listed.getD i false with
      | true => rfl
      | false => exact absurd ((hm i).2 ⟨hi, hb⟩) (by simp)
    refine ⟨?_, hdone listed v a w hsz hall hA hJ⟩
    refine List.eq_nil_iff_forall_not_mem.2 (fun i hi => ?_)
    obtain ⟨h1, o, ho, _⟩ := mem_ready.1 hi
    have hlt : i < ops.size := (Array.getElem?_eq_some_iff.1 ho).1
    have h2 := hall i hlt
    rw [Array.getD_eq_getD_getElem?, Array.getElem?_eq_getElem (by omega)] at h1 h2
    simp at h1 h2
    rw [h1] at h2
    cases h2
  | succ fuel ih =>
    intro listed v a w l hsz hl hnd hm hA hJ hC
    refine ⟨fun hr => ?_, fun i hi => ?_⟩
    · -- none may come up: all have
      have hall : ∀ n i, i < n → i < ops.size → listed.getD i false = true := by
        intro n
        induction n with
        | zero => intro i h; omega
        | succ n ihn =>
          intro i hin hi
          by_cases hlt : i < n
          · exact ihn i hlt hi
          · obtain rfl : i = n := by omega
            cases hb : listed.getD i false with
            | true => rfl
            | false =>
              have : i ∈ Region.ready .any ops listed := by
                refine mem_ready.2 ⟨?_, ops[i], Array.getElem?_eq_getElem hi, fun e he hb2 => ?_⟩
                · rw [Array.getD_eq_getD_getElem?, Array.getElem?_eq_getElem (by omega)] at hb ⊢
                  simpa using hb
                · have hlt2 := fits_after hf (Array.getElem?_eq_getElem hi) he hb2
                  exact ihn e.on hlt2 (by omega)
              rw [hr] at this
              cases this
      exact hdone listed v a w hsz (fun i hi => hall (i + 1) i (by omega) hi) hA hJ
    · obtain ⟨h1, o, ho, hwt⟩ := mem_ready.1 hi
      have hlt : i < ops.size := (Array.getElem?_eq_some_iff.1 ho).1
      have hb : listed.getD i false = false := by
        rw [Array.getD_eq_getD_getElem?, Array.getElem?_eq_getElem (by omega)] at h1 ⊢
        simpa using h1
      have hw : waits o (fun j => listed.getD j false) = true := by
        unfold waits
        refine Array.all_eq_true_iff_forall_mem.2 (fun e he => ?_)
        cases hbb : Region.binds .any e with
        | false => rfl
        | true => simpa using hwt e he hbb
      refine wpOp_mono ?_ (hstep i o ho _ v a w hA hJ hC hb hw)
      rintro a' w' ⟨u, rfl, hJ'⟩
      have hset : ∀ j, (listed.setIfInBounds i true).getD j false = upd (fun j => listed.getD j false) i j := fun j => by
        unfold upd
        by_cases hji : j = i
        · subst hji
          rw [if_pos rfl, Array.getD_eq_getD_getElem?, Array.getElem?_setIfInBounds_self_of_lt (by omega)]
          rfl
        · rw [if_neg hji]
          show (listed.setIfInBounds i true).getD j false = listed.getD j false
          rw [Array.getD_eq_getD_getElem?, Array.getD_eq_getD_getElem?, Array.getElem?_setIfInBounds_ne (Ne.symm hji)]
      have hA' := At.step (n := 0) hA hf ho hb u
      refine ih (listed.setIfInBounds i true) (updv v i u) _ w' (l.erase i) (by simpa using hsz) ?_ (hnd.erase i) ?_ ?_ ?_ ?_
      · rw [List.length_erase_of_mem ((hm i).2 ⟨hlt, hb⟩), hl]; rfl
      · intro j
        rw [hnd.mem_erase_iff, hm j]
        constructor
        · rintro ⟨hne, hj, hjb⟩
          exact ⟨hj, by rw [hset j]; unfold upd; rw [if_neg hne]; exact hjb⟩
        · rintro ⟨hj, hjb⟩
          rw [hset j] at hjb
          unfold upd at hjb
          by_cases hji : j = i
          · rw [if_pos hji] at hjb; cases hjb
          · rw [if_neg hji] at hjb
            exact ⟨hji, hj, hjb⟩
      · rw [show (fun j => (listed.setIfInBounds i true).getD j false) = upd (fun j => listed.getD j false) i from funext hset]
        exact hA'
      · rw [show (fun j => (listed.setIfInBounds i true).getD j false) = upd (fun j => listed.getD j false) i from funext hset]
        exact hJ'
      · intro j oj hoj hj
        rw [hset j] at hj
        have hup : ∀ e, listed.getD e false = true → (listed.setIfInBounds i true).getD e false = true := fun e he => by
          rw [hset e]
          unfold upd
          split
          · rfl
          · exact he
        have hwj : waits oj (fun i => listed.getD i false) = true := by
          unfold upd at hj
          by_cases hji : j = i
          · subst hji
            rw [ho] at hoj
            cases hoj
            exact hw
          · rw [if_neg hji] at hj
            exact hC j oj hoj hj
        unfold waits at hwj ⊢
        rw [Array.all_eq_true_iff_forall_mem] at hwj ⊢
        intro e he
        have h9 := hwj e he
        simp only [Bool.or_eq_true] at h9 ⊢
        exact h9.imp id (hup e.on)

/-- THE LAW. 'a0' is the state ahead of the region, 'ds' are its results' slots. -/
theorem wp_region_rg {id : Nat} {a0 : Act} {w : World} (hm : P.follows .mixedOrders = true) (hf : fits ops a0.tmps.size = true)
    (ds : List (Option Tmp)) (hds : (List.range ops.size).map (dstOf ops) = ds)
    (I : (Nat → Bool) → (Nat → Value) → World → Prop) (h0 : I (fun _ => false) (fun _ => undef) w.drew)
    (hstep : ∀ i o, ops[i]? = some o → ∀ (L : Nat → Bool) (v : Nat → Value) (a : Act) (w : World), At ops a0 L v a → I L v w → (∀ j oj, ops[j]? = some oj → L j = true → waits oj L = true) → L i = false → waits o L = true →
      wpOp P ops Q i (fun a' w' => ∃ u, a' = a.put o.dst u ∧ I (upd L i) (updv v i u) w') a w)
    (hend : ∀ L v w, (∀ i, i < ops.size → L i = true) → I L v w → Q .normal (putsAll a0 ds v 0) w) : (Code.region id ops true).wp P Q a0 w := by
  refine wp_region_any hm ?_
  have hr : (fun i => (Array.replicate ops.size false).getD i false) = fun _ => false := by
    funext i
    rw [Array.getD_eq_getD_getElem?]
    rcases Nat.lt_or_ge i ops.size with h1 | h1
    · simp [h1]
    · rw [Array.getElem?_eq_none (by simpa using h1)]; rfl
  refine rg_any a0 hf I hstep ?_ ops.size (Array.replicate ops.size false) (fun _ => undef) a0 _ (List.range ops.size) (by simp) (by simp) List.nodup_range ?_ ?_ ?_ ?_
  · intro L v a w hL hA hI
    rw [hA.all hf hL ds hds]
    exact hend L v w hL hI
  · intro i
    rw [congrFun hr i]
    simp
  · rw [hr]
    exact ⟨rfl, rfl, fun i d hi => (by cases hi), fun t _ => rfl⟩
  · rw [hr]
    exact h0
  · intro j oj hoj hj2
    rw [congrFun hr j] at hj2
    cases hj2

/-- The same in a region that keeps its order. -/
theorem wp_region_rg_plain {id : Nat} {a0 : Act} {w : World} (hf : fits ops a0.tmps.size = true)
    (ds : List (Option Tmp)) (hds : (List.range ops.size).map (dstOf ops) = ds)
    (I : (Nat → Bool) → (Nat → Value) → World → Prop) (h0 : I (fun _ => false) (fun _ => undef) w)
    (hstep : ∀ i o, ops[i]? = some o → ∀ (L : Nat → Bool) (v : Nat → Value) (a : Act) (w : World), At ops a0 L v a → I L v w → (∀ j oj, ops[j]? = some oj → L j = true → waits oj L = true) → L i = false → waits o L = true →
      wpOp P ops Q i (fun a' w' => ∃ u, a' = a.put o.dst u ∧ I (upd L i) (updv v i u) w') a w)
    (hend : ∀ L v w, (∀ i, i < ops.size → L i = true) → I L v w → Q .normal (putsAll a0 ds v 0) w) : (Code.region id ops false).wp P Q a0 w := by
  refine wp_region ?_
  have main : ∀ (m i : Nat) (v : Nat → Value) (a : Act) (w : World), i + m = ops.size → At ops a0 (fun j => decide (j < i)) v a → I (fun j => decide (j < i)) v w → wpOps P ops Q (List.range' i m) a w := by
    intro m
    induction m with
    | zero =>
      intro i v a w hi hA hI
      have hL : ∀ j, j < ops.size → decide (j < i) = true := fun j hj => decide_eq_true (by omega)
      show Q .normal a w
      rw [hA.all hf hL ds hds]
      exact hend _ v w hL hI
    | succ m ih =>
      intro i v a w hi hA hI
      have hlt : i < ops.size := by omega
      have ho : ops[i]? = some ops[i] := Array.getElem?_eq_getElem hlt
      rw [List.range'_succ, wpOps_cons]
      have hup : upd (fun j => decide (j < i)) i = fun j => decide (j < i + 1) := by
        funext j
        unfold upd
        by_cases hji : j = i
        · rw [if_pos hji]; exact (decide_eq_true (by omega)).symm
        · rw [if_neg hji]
          by_cases hjl : j < i
          · exact (decide_eq_true hjl).trans (decide_eq_true (by omega)).symm
          · exact (decide_eq_false hjl).trans (decide_eq_false (by omega)).symm
      have hw : ∀ j oj, ops[j]? = some oj → j ≤ i → waits oj (fun j => decide (j < i)) = true := fun j oj hoj hji => by
        unfold waits
        refine Array.all_eq_true_iff_forall_mem.2 (fun e he => ?_)
        cases hb : Region.binds .any e with
        | false => rfl
        | true =>
          have := fits_after hf hoj he hb
          simp only [Bool.not_true, Bool.false_or]
          exact decide_eq_true (by omega)
      have hni : (fun j => decide (j < i)) i = false := decide_eq_false (by omega)
      refine wpOp_mono ?_ (hstep i ops[i] ho _ v a w hA hI (fun j oj hoj hj => hw j oj hoj (Nat.le_of_lt (of_decide_eq_true hj))) hni (hw i _ ho (Nat.le_refl _)))
      rintro a' w' ⟨u, rfl, hI'⟩
      have hA' := At.step (n := 0) hA hf ho hni u
      rw [hup] at hA' hI'
      exact ih (i + 1) _ _ w' (by omega) hA' hI'
  have h := main ops.size 0 (fun _ => undef) a0 w (by omega) ⟨rfl, rfl, fun i d hi => (by cases hi), fun t _ => rfl⟩ h0
  rw [List.range_eq_range']
  exact h

/-- What comes up only behind another one, near or far. -/
def reach (ops : Array Oper) : Nat → Nat → Nat → Bool
  | 0, _, _ => false
  | f + 1, i, j => match ops[i]? with
    | some o => o.after.toList.any fun e => Region.binds .any e && (e.on == j || reach ops f e.on j)
    | none => false

theorem reach_listed {L : Nat → Bool} (hC : ∀ j oj, ops[j]? = some oj → L j = true → waits oj L = true) : ∀ (f i j : Nat) (o : Oper), ops[i]? = some o → waits o L = true → reach ops f i j = true → L j = true
  | 0, i, j, o, _, _, h => by cases h
  | f + 1, i, j, o, ho, hw, h => by
    unfold reach at h
    rw [ho] at h
    rw [List.any_eq_true] at h
    obtain ⟨e, he, hb⟩ := h
    simp only [Bool.and_eq_true, Bool.or_eq_true, beq_iff_eq] at hb
    unfold waits at hw
    have h1 := Array.all_eq_true_iff_forall_mem.1 hw e (Array.mem_toList_iff.1 he)
    rw [hb.1] at h1
    have hLe : L e.on = true := by simpa using h1
    rcases hb.2 with h2 | h2
    · rw [← h2]; exact hLe
    · cases hoe : ops[e.on]? with
      | none =>
        cases f with
        | zero => cases h2
        | succ f => unfold reach at h2; rw [hoe] at h2; cases h2
      | some oe => exact reach_listed hC f e.on j oe hoe (hC e.on oe hoe hLe) h2

theorem wpOp_plain {i : Nat} {o : Oper} {K : Act → World → Prop} {a : Act} {w : World} (ho : ops[i]? = some o) (hg : o.guard = none) (h : ∀ K' : Act → World → Prop, (∀ a w, K a w → K' a w) → Oper.wp P o a w K' Q) : wpOp P ops Q i K a w :=
  wpOp_step ho fun K' hK => by
    rw [if_pos (by simp [Region.wanted, hg])]
    exact h K' hK

theorem wpOp_value {i : Nat} {o : Oper} {K : Act → World → Prop} {a : Act} {w w' : World} {u : Value} (ho : ops[i]? = some o) (hg : o.guard = none) (hr : (execOp a.eval o).run P w = .ok (.value u) w') (h : K (a.put o.dst u) w') : wpOp P ops Q i K a w :=
  wpOp_plain ho hg fun K' hK => by
    unfold Oper.wp
    rw [hr, Oper.upon_value]
    exact hK _ _ h

theorem wpOp_call {i : Nat} {o : Oper} {K : Act → World → Prop} {a : Act} {w : World} {f : FuncId} {vs : Array Value} (ho : ops[i]? = some o) (hg : o.guard = none) (hr : (execOp a.eval o).run P w = .ok (.enter f vs) w)
    (h : Calls P f vs w fun e w' => ∃ u, e = .returned u ∧ K (a.put o.dst u) w') : wpOp P ops Q i K a w :=
  wpOp_plain ho hg fun K' hK => by
    unfold Oper.wp
    rw [hr, Oper.upon_enter]
    refine h.mono ?_
    rintro e w' ⟨u, rfl, hu⟩
    exact hK _ _ hu

end

end Go.Proofs.YtlhnkdogafnnpaaGreat.Rg

namespace Go.Proofs.YtlhnkdogafnnpaaGreat.Mem
open Go.RowKit

theorem hid {p : Prop} (h : p) : Hid p := h

/-- The m cells behind a slice's address are those that f tells. -/
def Sl (w : World) (a : Option Addr) (m : Nat) (f : Nat → Value) : Prop :=
  ∀ i, i < m → ∃ b off, a = some ⟨b, off, none⟩ ∧ w.cell? ⟨b, off + i, none⟩ = some (f i)

/-- The same, in a block from B on, and they may be written. -/
def Wr (w : World) (B : Nat) (a : Option Addr) (m : Nat) (f : Nat → Value) : Prop :=
  ∀ i, i < m → ∃ b off, a = some ⟨b, off, none⟩ ∧ B ≤ b ∧ w.cell? ⟨b, off + i, none⟩ = some (f i) ∧ w.frozen? ⟨b, off + i, none⟩ = false

theorem Wr.sl {w : World} {B : Nat} {a : Option Addr} {m : Nat} {f : Nat → Value} (h : Wr w B a m f) : Sl w a m f := fun i hi => by
  obtain ⟨b, off, e, _, hc, _⟩ := h i hi
  exact ⟨b, off, e, hc⟩

theorem Wr.mono {w : World} {B B' : Nat} {a : Option Addr} {m : Nat} {f : Nat → Value} (h : Wr w B a m f) (hb : B' ≤ B) : Wr w B' a m f := fun i hi => by
  obtain ⟨b, off, e, hB, hc, hf⟩ := h i hi
  exact ⟨b, off, e, Nat.le_trans hb hB, hc, hf⟩

theorem Sl.congr {w : World} {a : Option Addr} {m : Nat} {f g : Nat → Value} (h : Sl w a m f) (e : ∀ i, i < m → f i = g i) : Sl w a m g := fun i hi => by
  rw [← e i hi]; exact h i hi
theorem Wr.congr {w : World} {B : Nat} {a : Option Addr} {m : Nat} {f g : Nat → Value} (h : Wr w B a m f) (e : ∀ i, i < m → f i = g i) : Wr w B a m g := fun i hi => by
  rw [← e i hi]; exact h i hi

/-- The blocks that a slice of m cells takes. -/
def foot (a : Option Addr) (m : Nat) (b : Nat) : Prop := 0 < m ∧ ∃ off, a = some ⟨b, off, none⟩

/-- Nothing that was there has turned but in the blocks of S. -/
structure Kept (S : Nat → Prop) (w w' : World) : Prop where
  os : w'.os = w.os
  tape : w'.tape = w.tape
  output : w'.output = w.output
  size : w.heap.size ≤ w'.heap.size
  block : ∀ k, k < w.heap.size → ¬ S k → w'.heap[k]? = w.heap[k]?

theorem Kept.refl (S : Nat → Prop) (w : World) : Kept S w w := ⟨rfl, rfl, rfl, Nat.le_refl _, fun _ _ _ => rfl⟩

theorem Kept.trans {S T : Nat → Prop} {w w1 w2 : World} (h : Kept S w w1) (k : Kept T w1 w2) : Kept (fun b => S b ∨ T b) w w2 :=
  ⟨k.os.trans h.os, k.tape.trans h.tape, k.output.trans h.output, Nat.le_trans h.size k.size,
    fun i hi hn => (k.block i (Nat.lt_of_lt_of_le hi h.size) (fun x => hn (Or.inr x))).trans (h.block i hi (fun x => hn (Or.inl x)))⟩

theorem Kept.mono {S T : Nat → Prop} {w w' : World} (h : Kept S w w') (i : ∀ b, b < w.heap.size → S b → T b) : Kept T w w' :=
  ⟨h.os, h.tape, h.output, h.size, fun k hk hn => h.block k hk (fun x => hn (i k hk x))⟩

theorem Kept.of_below {S : Nat → Prop} {w w' : World} (h : Below w.heap.size w w') : Kept S w w' := ⟨h.os, h.tape, h.output, h.size, fun k hk _ => h.block k hk⟩

theorem Kept.below {S : Nat → Prop} {B : Nat} {w w' : World} (h : Kept S w w') (hB : B ≤ w.heap.size) (i : ∀ b, b < B → ¬ S b) : Below B w w' :=
  ⟨h.os, h.tape, h.output, h.size, fun k hk => h.block k (Nat.lt_of_lt_of_le hk hB) (i k hk)⟩

theorem cell_block {w w' : World} {p : Addr} (e : w'.heap[p.block]? = w.heap[p.block]?) : w'.cell? p = w.cell? p := by
  unfold World.cell?; rw [e]
theorem frozen_block {w w' : World} {p : Addr} (e : w'.heap[p.block]? = w.heap[p.block]?) : w'.frozen? p = w.frozen? p := by
  unfold World.frozen?; rw [e]

theorem Sl.lt {w : World} {a : Option Addr} {m : Nat} {f : Nat → Value} (h : Sl w a m f) {b : Nat} (hb : foot a m b) : b < w.heap.size := by
  obtain ⟨h0, off, rfl⟩ := hb
  obtain ⟨b', off', e, hc⟩ := h 0 h0
  cases e
  exact World.block_lt_of_cell? w _ hc

theorem Sl.move {S : Nat → Prop} {w w' : World} {a : Option Addr} {m : Nat} {f : Nat → Value} (h : Sl w a m f) (k : Kept S w w') (hn : ∀ b, foot a m b → ¬ S b) : Sl w' a m f := fun i hi => by
  obtain ⟨b, off, e, hc⟩ := h i hi
  have hf : foot a m b := ⟨by omega, off, e⟩
  exact ⟨b, off, e, by rw [cell_block (p := ⟨b, off + i, none⟩) (k.block b (h.lt hf) (hn b hf))]; exact hc⟩

theorem Wr.move {S : Nat → Prop} {w w' : World} {B : Nat} {a : Option Addr} {m : Nat} {f : Nat → Value} (h : Wr w B a m f) (k : Kept S w w') (hn : ∀ b, foot a m b → ¬ S b) : Wr w' B a m f := fun i hi => by
  obtain ⟨b, off, e, hB, hc, hz⟩ := h i hi
  have hf : foot a m b := ⟨by omega, off, e⟩
  have hk := k.block b (h.sl.lt hf) (hn b hf)
  exact ⟨b, off, e, hB, by rw [cell_block (p := ⟨b, off + i, none⟩) hk]; exact hc, by rw [frozen_block (p := ⟨b, off + i, none⟩) hk]; exact hz⟩

theorem Sl.below {w w' : World} {a : Option Addr} {m : Nat} {f : Nat → Value} (h : Sl w a m f) (k : Below w.heap.size w w') : Sl w' a m f := h.move (Kept.of_below (S := fun _ => False) k) (fun _ _ x => x)
theorem Wr.below {w w' : World} {B : Nat} {a : Option Addr} {m : Nat} {f : Nat → Value} (h : Wr w B a m f) (k : Below w.heap.size w w') : Wr w' B a m f := h.move (Kept.of_below (S := fun _ => False) k) (fun _ _ x => x)

theorem Wr.foot_ge {w : World} {B : Nat} {a : Option Addr} {m : Nat} {f : Nat → Value} (h : Wr w B a m f) {b : Nat} (hb : foot a m b) : B ≤ b := by
  obtain ⟨h0, off, rfl⟩ := hb
  obtain ⟨b', off', e, hB, _⟩ := h 0 h0
  cases e
  exact hB

/-- A cell is stored. -/
theorem Wr.set {w : World} {B b off : Nat} {m : Nat} {f : Nat → Value} (h : Wr w B (some ⟨b, off, none⟩) m f) (i : Nat) (hi : i < m) (v : Value) :
    Wr (w.setCell ⟨b, off + i, none⟩ v) B (some ⟨b, off, none⟩) m (fun j => if j = i then v else f j) := fun j hj => by
  obtain ⟨b', off', e, hB, hc, hz⟩ := h j hj
  cases e
  refine ⟨b, off, rfl, hB, ?_, by rw [World.frozen?_setCell]; exact hz⟩
  by_cases hji : j = i
  · subst hji
    show _ = some (if j = j then v else f j)
    rw [if_pos rfl]
    exact World.cell?_setCell_same _ _ _ hc
  · show _ = some (if j = i then v else f j)
    rw [if_neg hji, World.cell?_setCell_other _ _ _ _ (fun x => hji (by injection x; omega))]
    exact hc

theorem below_set {B : Nat} {w w' : World} (h : Below B w w') (g off : Nat) (v : Value) (hg : B ≤ g) : Below B w (w'.setCell ⟨g, off, none⟩ v) := h.setCell hg v

theorem undrew {B : Nat} {w w' : World} (h : Below B w.drew w') : Below B w w' := ⟨h.os, h.tape, h.output, h.size, h.block⟩

/-- Four cells that stand side by side are stored. -/
theorem Wr.set4 {w : World} {B b : Nat} {m : Nat} {f : Nat → Value} (h : Wr w B (some ⟨b, 0, none⟩) m f) (k : Nat) (hk : k * 4 + 4 ≤ m) (v0 v1 v2 v3 : Value) :
    Wr ((((w.setCell ⟨b, k * 4, none⟩ v0).setCell ⟨b, k * 4 + 1, none⟩ v1).setCell ⟨b, k * 4 + 2, none⟩ v2).setCell ⟨b, k * 4 + 3, none⟩ v3) B (some ⟨b, 0, none⟩) m
      (fun j => if j / 4 = k then [v0, v1, v2, v3].getD (j % 4) undef else f j) := by
  have h0 := h.set (k * 4) (by omega) v0
  have h1 := h0.set (k * 4 + 1) (by omega) v1
  have h2 := h1.set (k * 4 + 2) (by omega) v2
  have h3 := h2.set (k * 4 + 3) (by omega) v3
  simp only [Nat.zero_add] at h3
  refine h3.congr (fun j _ => ?_)
  by_cases hj : j / 4 = k
  · have : j = k * 4 ∨ j = k * 4 + 1 ∨ j = k * 4 + 2 ∨ j = k * 4 + 3 := by omega
    rcases this with rfl | rfl | rfl | rfl
    · rw [if_neg (by omega), if_neg (by omega), if_neg (by omega), if_pos rfl, if_pos (by omega), show k * 4 % 4 = 0 by omega]; rfl
    · rw [if_neg (by omega), if_neg (by omega), if_pos rfl, if_pos (by omega), show (k * 4 + 1) % 4 = 1 by omega]; rfl
    · rw [if_neg (by omega), if_pos rfl, if_pos (by omega), show (k * 4 + 2) % 4 = 2 by omega]; rfl
    · rw [if_pos rfl, if_pos (by omega), show (k * 4 + 3) % 4 = 3 by omega]; rfl
  · rw [if_neg (by omega), if_neg (by omega), if_neg (by omega), if_neg (by omega), if_neg hj]

theorem kept_set (w : World) (b off : Nat) (v : Value) : Kept (fun k => k = b) w (w.setCell ⟨b, off, none⟩ v) :=
  ⟨rfl, rfl, rfl, by simp, fun k _ hk => heap_setCell_other w ⟨b, off, none⟩ k v (fun e => hk e)⟩

theorem lt_alloc (w : World) (o : Obj) : w.heap.size < (w.alloc o).heap.size := by
  show _ < (w.heap.push o).size
  simp

/-- A row that was just made. -/
theorem wr_made (w : World) (z : Value) (n : Nat) (t : TypeId) : Wr (w.alloc (.cells (madeCells #[z] n) t)) w.heap.size (some ⟨w.heap.size, 0, none⟩) n (fun _ => z) := fun i hi => by
  refine ⟨w.heap.size, 0, rfl, Nat.le_refl _, ?_, ?_⟩
  · rw [cell_of_row _ w.heap.size (0 + i) _ _ (0, 0) (heap_alloc_new w _)]
    simp [madeCells, hi, Nat.mod_one]
  · exact frozen_of_row _ w.heap.size (0 + i) _ _ (heap_alloc_new w _)

theorem wr_new (w : World) (cur : Array Value) (t : TypeId) (m : Nat) (f : Nat → Value) (h : ∀ i, i < m → cur[i]? = some (f i)) : Wr (w.alloc (.cells cur t)) w.heap.size (some ⟨w.heap.size, 0, none⟩) m f := fun i hi => by
  refine ⟨w.heap.size, 0, rfl, Nat.le_refl _, ?_, ?_⟩
  · rw [cell_of_row _ w.heap.size (0 + i) _ _ (0, 0) (heap_alloc_new w _), Nat.zero_add]
    exact h i hi
  · exact frozen_of_row _ w.heap.size (0 + i) _ _ (heap_alloc_new w _)

/-- 'make([]T, n)', T of k cells. -/
theorem make_rows {P : Program} (t e : TypeId) (z : Value) (k bytes : Nat) (ht : P.underlying t = some (.slice e)) (hinfo : (P.info? e).map (fun i => (i.zero, i.size, i.bytes)) = some (some z, k, bytes))
    (kl kc : IntKind) (n : Nat) (hbytes : bytes * n ≤ 281474976710656) (h63 : n ≤ 9223372036854775807) (w : World) :
    (Instr.makeSlice t (.int kl (n : Int)) (.int kc (n : Int))).run P w = .ok (.slice (some ⟨w.heap.size, 0, none⟩) n n) (w.alloc (.cells (madeCells z.cells (n * k)) e)) := by
  obtain ⟨i, hi, hzz⟩ := Option.map_eq_some_iff.1 hinfo
  simp only [Prod.mk.injEq] at hzz
  obtain ⟨hz, hs, hb⟩ := hzz
  have h := run_make (P := P) w t e i z ht hi hz kl kc n n (by omega) (by omega) (by rw [hb, ← Int.natCast_mul]; omega) (by omega)
  rw [hs] at h
  simpa using h

/-- A block that holds just these cells. -/
def Row (w : World) (g : Nat) (xs : List Value) : Prop := ∃ t, w.heap[g]? = some (.cells xs.toArray t (0, 0))

theorem Row.c {w : World} {g : Nat} {xs : List Value} (h : Row w g xs) (i : Nat) {v : Value} (e : xs[i]? = some v) : w.cell? ⟨g, i, none⟩ = some v := by
  obtain ⟨t, hb⟩ := h
  rw [cell_of_row w g i _ _ (0, 0) hb]
  simpa using e
theorem Row.f {w : World} {g : Nat} {xs : List Value} (h : Row w g xs) (j : Nat) : w.frozen? ⟨g, j, none⟩ = false := by
  obtain ⟨t, hb⟩ := h
  exact frozen_of_row w g j _ _ hb
theorem Row.lt {w : World} {g : Nat} {xs : List Value} (h : Row w g xs) : g < w.heap.size := by
  obtain ⟨t, hb⟩ := h
  rcases Nat.lt_or_ge g w.heap.size with hh | hh
  · exact hh
  · rw [Array.getElem?_eq_none hh] at hb; cases hb
theorem Row.below {w w' : World} {B g : Nat} {xs : List Value} (h : Row w g xs) (hb : Below B w w') (hg : g < B) : Row w' g xs := by
  obtain ⟨t, e⟩ := h
  exact ⟨t, by rw [hb.block g hg]; exact e⟩
theorem Row.kept {S : Nat → Prop} {w w' : World} {g : Nat} {xs : List Value} (h : Row w g xs) (hb : Kept S w w') (hg : ¬ S g) : Row w' g xs := by
  obtain ⟨t, e⟩ := h
  exact ⟨t, by rw [hb.block g (Row.lt ⟨t, e⟩) hg]; exact e⟩
theorem Row.other {w : World} {g : Nat} {xs : List Value} (h : Row w g xs) {p : Addr} (hp : g ≠ p.block) (v : Value) : Row (w.setCell p v) g xs := by
  obtain ⟨t, e⟩ := h
  exact ⟨t, by rw [heap_setCell_other w p g v hp]; exact e⟩
theorem Row.set {w : World} {g : Nat} {xs : List Value} (h : Row w g xs) (i : Nat) (v : Value) : Row (w.setCell ⟨g, i, none⟩ v) g (xs.set i v) := by
  obtain ⟨t, e⟩ := h
  exact ⟨t, by simpa using heap_setCell_same w g i _ _ v e⟩
theorem Row.new (w : World) (xs : List Value) (t : TypeId) : Row (w.alloc (.cells xs.toArray t)) w.heap.size xs := ⟨t, heap_alloc_new w _⟩
theorem Row.alloc {w : World} {g : Nat} {xs : List Value} (h : Row w g xs) (o : Obj) : Row (w.alloc o) g xs := by
  obtain ⟨t, e⟩ := h
  exact ⟨t, by rw [heap_alloc_old w o (Row.lt ⟨t, e⟩)]; exact e⟩

/-- A struct that is handed back out of its own block. -/
theorem results_row {P : Program} {fn : Func} {p : Tmp} {ty : TypeId} (h : fn.results = #[.cell p ty]) (tmps : Array Value) (w : World) (g : Nat) (xs : List Value) (d : TypeDesc)
    (hp : tmps.getD p undef = .pointer (some ⟨g, 0, none⟩)) (hr : Row w g xs)
    (hu : P.underlying ty = some d) (hd : (match d with | .struct _ | .array _ _ => true | _ => false) = true) (hi : (P.info? ty).map (·.size) = some xs.length) :
    (results fn tmps).run P w = .ok (.agg xs.toArray) w := by
  obtain ⟨t, hb⟩ := hr
  exact results_cell_row h tmps w g t xs.toArray (0, 0) d hp hb hu hd (by simpa using hi)

/-- One block laid: an argument's box. -/
theorem one_new (w : World) (xs : List Value) (t : TypeId) :
    ∃ wc, w.alloc (.cells xs.toArray t) = wc ∧ wc.heap.size = w.heap.size + 1 ∧ Row wc w.heap.size xs ∧ Below w.heap.size w wc :=
  ⟨_, rfl, by simp, Row.new w xs t, (Below.refl _ _).alloc (Nat.le_refl _) _⟩

/-- Two blocks laid: two arguments' boxes, or an argument's and a result's. -/
theorem two_new (w : World) (xs ys : List Value) (t u : TypeId) :
    ∃ wc, (w.alloc (.cells xs.toArray t)).alloc (.cells ys.toArray u) = wc ∧ wc.heap.size = w.heap.size + 1 + 1 ∧ Row wc w.heap.size xs ∧ Row wc (w.heap.size + 1) ys ∧ Below w.heap.size w wc := by
  have e0 : (w.alloc (.cells xs.toArray t)).heap.size = w.heap.size + 1 := by simp
  have r1 := Row.new (w.alloc (.cells xs.toArray t)) ys u
  rw [e0] at r1
  exact ⟨_, rfl, by simp, (Row.new w xs t).alloc _, r1, ((Below.refl _ _).alloc (Nat.le_refl _) _).alloc (by omega) _⟩

/-- Three blocks laid one behind the other: an argument's box, the result's, a variable's. -/
theorem three_new (w : World) (xs ys : List Value) (t u : TypeId) :
    ∃ wc, ((w.alloc (.cells xs.toArray t)).alloc (.cells ys.toArray u)).alloc (.cells ys.toArray u) = wc ∧ wc.heap.size = w.heap.size + 1 + 1 + 1 ∧
      Row wc w.heap.size xs ∧ Row wc (w.heap.size + 1) ys ∧ Row wc (w.heap.size + 1 + 1) ys ∧ Below w.heap.size w wc := by
  have e0 : (w.alloc (.cells xs.toArray t)).heap.size = w.heap.size + 1 := by simp
  have e1 : ((w.alloc (.cells xs.toArray t)).alloc (.cells ys.toArray u)).heap.size = w.heap.size + 1 + 1 := by simp
  have r1 := Row.new (w.alloc (.cells xs.toArray t)) ys u
  have r2 := Row.new ((w.alloc (.cells xs.toArray t)).alloc (.cells ys.toArray u)) ys u
  rw [e0] at r1
  rw [e1] at r2
  exact ⟨_, rfl, by simp, ((Row.new w xs t).alloc _).alloc _, r1.alloc _, r2, (((Below.refl _ _).alloc (Nat.le_refl _) _).alloc (by omega) _).alloc (by omega) _⟩

/-- A slice of texts, of ints. -/
def Strs (w : World) (a : Option Addr) (l : List ByteArray) : Prop := Sl w a l.length (fun i => .string (l.getD i ByteArray.empty))
def Ints (w : World) (a : Option Addr) (l : List Int) : Prop := Sl w a l.length (fun i => .int .i64 (l.getD i 0))
def StrsW (w : World) (B : Nat) (a : Option Addr) (l : List ByteArray) : Prop := Wr w B a l.length (fun i => .string (l.getD i ByteArray.empty))
def IntsW (w : World) (B : Nat) (a : Option Addr) (l : List Int) : Prop := Wr w B a l.length (fun i => .int .i64 (l.getD i 0))

end Go.Proofs.YtlhnkdogafnnpaaGreat.Mem

namespace Go.Proofs.YtlhnkdogafnnpaaGreat.Pl
open Go.RowKit Go.Proofs.YtlhnkdogafnnpaaGreat.Mem
set_option linter.unusedVariables false

/-- Cells stored one behind the other. -/
def puts (w : World) (g : Nat) : Nat → List Value → World
  | _, [] => w
  | i, v :: vs => puts (w.setCell ⟨g, i, none⟩ v) g (i + 1) vs

def listed (xs : List Value) : Nat → List Value → List Value
  | _, [] => xs
  | i, v :: vs => listed (xs.set i v) (i + 1) vs

theorem puts_row {w : World} {g : Nat} {xs : List Value} (h : Row w g xs) (i : Nat) (vs : List Value) : Row (puts w g i vs) g (listed xs i vs) := by
  induction vs generalizing w xs i with
  | nil => exact h
  | cons v vs ih => exact ih (h.set i v) (i + 1)

theorem puts_other {w : World} {g b : Nat} {xs : List Value} (h : Row w b xs) (hb : b ≠ g) (i : Nat) (vs : List Value) : Row (puts w g i vs) b xs := by
  induction vs generalizing w i with
  | nil => exact h
  | cons v vs ih => exact ih (h.other (p := ⟨g, i, none⟩) hb v) (i + 1)

theorem puts_kept (w : World) (g i : Nat) (vs : List Value) : Kept (fun b => b = g) w (puts w g i vs) := by
  induction vs generalizing w i with
  | nil => exact Kept.refl _ _
  | cons v vs ih => exact ((kept_set w g i v).trans (ih (w.setCell ⟨g, i, none⟩ v) (i + 1))).mono (fun b _ h => by rcases h with h | h <;> exact h)

theorem puts_below {B : Nat} {w w' : World} {g : Nat} (h : Below B w w') (hg : B ≤ g) (i : Nat) (vs : List Value) : Below B w (puts w' g i vs) := by
  induction vs generalizing w' i with
  | nil => exact h
  | cons v vs ih => exact ih (below_set h g i v hg) (i + 1)

theorem puts_size (w : World) (g i : Nat) (vs : List Value) : (puts w g i vs).heap.size = w.heap.size := by
  induction vs generalizing w i with
  | nil => rfl
  | cons v vs ih => rw [puts, ih]; simp

theorem three_news (w : World) (xs ys zs : List Value) (t u : TypeId) :
    ∃ wc, ((w.alloc (.cells xs.toArray t)).alloc (.cells ys.toArray u)).alloc (.cells zs.toArray u) = wc ∧ wc.heap.size = w.heap.size + 1 + 1 + 1 ∧
      Row wc w.heap.size xs ∧ Row wc (w.heap.size + 1) ys ∧ Row wc (w.heap.size + 1 + 1) zs ∧ Below w.heap.size w wc := by
  have e0 : (w.alloc (.cells xs.toArray t)).heap.size = w.heap.size + 1 := by simp
  have e1 : ((w.alloc (.cells xs.toArray t)).alloc (.cells ys.toArray u)).heap.size = w.heap.size + 1 + 1 := by simp
  have r1 := Row.new (w.alloc (.cells xs.toArray t)) ys u
  have r2 := Row.new ((w.alloc (.cells xs.toArray t)).alloc (.cells ys.toArray u)) zs u
  rw [e0] at r1
  rw [e1] at r2
  exact ⟨_, rfl, by simp, ((Row.new w xs t).alloc _).alloc _, r1.alloc _, r2, (((Below.refl _ _).alloc (Nat.le_refl _) _).alloc (by omega) _).alloc (by omega) _⟩

end Go.Proofs.YtlhnkdogafnnpaaGreat.Pl

namespace Go.Proofs.YtlhnkdogafnnpaaGreat.Pl
open Go.RowKit Go.Proofs.YtlhnkdogafnnpaaGreat.Mem
set_option linter.unusedVariables false

theorem puts_setCells (g : Nat) : ∀ (vs : List Value) (w : World) (i : Nat), puts w g i vs = w.setCells g i vs
  | [], _, _ => rfl
  | v :: vs, w, i => by rw [puts, World.setCells]; exact puts_setCells g vs _ (i + 1)

theorem wpList_load_row {P : Program} {ops : Array Oper} {rest : List Oper} {op : Oper} {a : Act} {w : World} {Q : Exit → Act → World → Prop} (hgd : op.guard = none) (ty : TypeId) (x : Operand) (ho : op.op = .load ty x)
    (b : Nat) (hx : a.eval x = .pointer (some ⟨b, 0, none⟩)) (cs : List Value) (d : TypeDesc) (hr : Row w b cs)
    (hu : P.underlying ty = some d) (hd : d.isRow = true) (hi : (P.info? ty).map (·.size) = some cs.length)
    (h : wpList P ops Q rest (a.put op.dst (.agg cs.toArray)) w) : wpList P ops Q (op :: rest) a w :=
  wpList_load_mid hgd ty x ho b 0 hx cs d (fun j v hv => by rw [Nat.zero_add]; exact hr.c j hv) hu hd hi h

theorem wpList_store_row {P : Program} {ops : Array Oper} {rest : List Oper} {op : Oper} {a : Act} {w : World} {Q : Exit → Act → World → Prop} (hgd : op.guard = none) (ty : TypeId) (x y : Operand) (ho : op.op = .store ty x y)
    (b : Nat) (hx : a.eval x = .pointer (some ⟨b, 0, none⟩)) (xs cs : List Value) (hy : a.eval y = .agg cs.toArray) (hr : Row w b xs) (hl : cs.length = xs.length)
    (hi : (P.info? ty).map (·.size) = some cs.length) (h1 : cs.all (·.oneCell') = true)
    (h : wpList P ops Q rest (a.put op.dst undef) (puts w b 0 cs)) : wpList P ops Q (op :: rest) a w :=
  wpList_store_mid hgd ty x y ho b 0 cs.toArray hx hy
    (fun j hj => by
      have hj' : j < xs.length := by rw [← hl]; simpa using hj
      rw [Nat.zero_add]
      exact ⟨by rw [hr.c j (List.getElem?_eq_getElem hj')]; rfl, hr.f j⟩)
    (by rw [hi]; simp) (all_oneCell_toArray (fun v hv => List.all_eq_true.1 h1 v hv)) (by rw [puts_setCells] at h; exact h)

end Go.Proofs.YtlhnkdogafnnpaaGreat.Pl

namespace Go.Proofs.YtlhnkdogafnnpaaGreat.Pl
open Go.RowKit Go.Proofs.YtlhnkdogafnnpaaGreat.Mem
set_option linter.unusedVariables false

theorem enters {P : Program} (a : Act) (o : Oper) (w : World) (xs : Array Operand) (ts : Array TypeId) (f : FuncId) (ho : o.op = .call { callee := .value (.func f), args := xs, argTypes := ts }) (vs : Array Value) (hv : xs.map a.eval = vs) (hc : ∀ vs w, (callFunc f vs).run P w = .ok (.enter f vs) w) :
    (execOp a.eval o).run P w = .ok (.enter f vs) w := by
  unfold execOp
  simp [ho, hv, go_sem, resolve, invoke, hc]

theorem run_not {P : Program} {ρ : Operand → Value} {o : Oper} {w : World} (ty : TypeId) (x : Operand) (p : o.op = .unOp .not ty x) (e : ρ x = .bool true) : (execOp ρ o).run P w = .ok (.value (.bool false)) w := by
  unfold execOp
  simp [p, e, go_sem]

theorem wpList_call {P : Program} {ops : Array Oper} {rest : List Oper} {op : Oper} {a : Act} {w : World} {Q : Exit → Act → World → Prop} (hgd : op.guard = none) (f : FuncId) (xs : Array Operand) (ts : Array TypeId)
    (ho : op.op = .call { callee := .value (.func f), args := xs, argTypes := ts }) (vs : Array Value) (hv : xs.map a.eval = vs) (hc : ∀ vs w, (callFunc f vs).run P w = .ok (.enter f vs) w)
    (h : Calls P f vs w fun e w' => ∃ v, e = .returned v ∧ wpList P ops Q rest (a.put op.dst v) w') : wpList P ops Q (op :: rest) a w :=
  wpList_plain hgd fun K hK => by
    unfold Oper.wp
    rw [enters a op w xs ts f ho vs hv hc, Oper.upon_enter]
    refine h.mono ?_
    rintro e w' ⟨v, rfl, hw⟩
    exact hK _ _ hw

/-- What stands in a box, held against the argument laid anew. -/
theorem region_eq {P : Program} {ops : Array Oper} {id : Nat} {a : Act} {w : World} {Q : Exit → Act → World → Prop} (hm : P.follows .mixedOrders = true) (h5 : ops.size = 5)
    {o0 o1 o2 o3 o4 : Oper} (i0 : ops[0]? = some o0) (i1 : ops[1]? = some o1) (i2 : ops[2]? = some o2) (i3 : ops[3]? = some o3) (i4 : ops[4]? = some o4)
    (g0 : o0.guard = none) (g1 : o1.guard = none) (g2 : o2.guard = none) (g3 : o3.guard = none) (g4 : o4.guard = none)
    (hs : Region.noSelect ops = true)
    (f0 : Region.free .any ops (Array.replicate 5 false) 0 = true) (r0 : (Region.ready .any ops (Array.replicate 5 false)).contains 0 = true)
    (f1 : Region.free .any ops ((Array.replicate 5 false).setIfInBounds 0 true) 1 = true) (r1 : (Region.ready .any ops ((Array.replicate 5 false).setIfInBounds 0 true)).contains 1 = true)
    (r2 : Region.ready .any ops (((Array.replicate 5 false).setIfInBounds 0 true).setIfInBounds 1 true) = [2])
    (r3 : Region.ready .any ops ((((Array.replicate 5 false).setIfInBounds 0 true).setIfInBounds 1 true).setIfInBounds 2 true) = [3])
    (r4 : Region.ready .any ops (((((Array.replicate 5 false).setIfInBounds 0 true).setIfInBounds 1 true).setIfInBounds 2 true).setIfInBounds 3 true) = [4])
    (r5 : Region.ready .any ops ((((((Array.replicate 5 false).setIfInBounds 0 true).setIfInBounds 1 true).setIfInBounds 2 true).setIfInBounds 3 true).setIfInBounds 4 true) = [])
    (q0 : ∀ (v : Value) c (a : Act) w, Q (.panic c) (a.put o0.dst v) w → Q (.panic c) a w) (q1 : ∀ (v : Value) c (a : Act) w, Q (.panic c) (a.put o1.dst v) w → Q (.panic c) a w)
    (ty0 : TypeId) (x0 : Operand) (p0 : o0.op = .load ty0 x0) (b0 : Nat) (cs0 : List Value) (d0 : TypeDesc) (e0 : a.eval x0 = .pointer (some ⟨b0, 0, none⟩)) (R0 : Row w b0 cs0)
    (u0 : P.underlying ty0 = some d0) (k0 : d0.isRow = true) (n0 : (P.info? ty0).map (·.size) = some cs0.length)
    (ty1 : TypeId) (x1 : Operand) (p1 : o1.op = .load ty1 x1) (b1 : Nat) (cs1 : List Value) (d1 : TypeDesc) (e1 : (a.put o0.dst (.agg cs0.toArray)).eval x1 = .pointer (some ⟨b1, 0, none⟩)) (R1 : Row w b1 cs1)
    (u1 : P.underlying ty1 = some d1) (k1 : d1.isRow = true) (n1 : (P.info? ty1).map (·.size) = some cs1.length)
    (c2 : FuncId) (y2 : Operand) (ts2 : Array TypeId) (p2 : o2.op = .call { callee := .value (.func c2), args := #[y2], argTypes := ts2 }) (m2 : ∀ vs w, (callFunc c2 vs).run P w = .ok (.enter c2 vs) w)
    (e2 : ((a.put o0.dst (.agg cs0.toArray)).put o1.dst (.agg cs1.toArray)).eval y2 = .agg cs1.toArray)
    (c3 : FuncId) (y3 z3 : Operand) (ts3 : Array TypeId) (p3 : o3.op = .call { callee := .value (.func c3), args := #[y3, z3], argTypes := ts3 }) (m3 : ∀ vs w, (callFunc c3 vs).run P w = .ok (.enter c3 vs) w)
    (e3 : ∀ V, (((a.put o0.dst (.agg cs0.toArray)).put o1.dst (.agg cs1.toArray)).put o2.dst V).eval y3 = .agg cs0.toArray) (e3' : ∀ V, (((a.put o0.dst (.agg cs0.toArray)).put o1.dst (.agg cs1.toArray)).put o2.dst V).eval z3 = V)
    (ty4 : TypeId) (x4 : Operand) (p4 : o4.op = .unOp .not ty4 x4) (e4 : ∀ V, ((((a.put o0.dst (.agg cs0.toArray)).put o1.dst (.agg cs1.toArray)).put o2.dst V).put o3.dst (.bool true)).eval x4 = .bool true)
    (R : Value → World → Prop)
    (C2 : ∀ w', Below w.heap.size w w' → Calls P c2 #[.agg cs1.toArray] w' fun e w'' => ∃ V, e = .returned V ∧ R V w'' ∧ Below w'.heap.size w' w'')
    (C3 : ∀ V w', Below w.heap.size w w' → R V w' → Calls P c3 #[.agg cs0.toArray, V] w' fun e w'' => e = .returned (.bool true) ∧ Below w'.heap.size w' w'')
    (h : ∀ V w', Below w.heap.size w w' → Q .normal (((((a.put o0.dst (.agg cs0.toArray)).put o1.dst (.agg cs1.toArray)).put o2.dst V).put o3.dst (.bool true)).put o4.dst (.bool false)) w') :
    (Code.region id ops true).wp P Q a w := by
  refine wp_region_held (S := fun w' => Below w.heap.size w w') hm ?_
  rw [h5]
  have S0 : Below w.heap.size w { w with drawn := w.drawn + 1 } := (Below.refl _ w).drew
  refine wpAnyH_take i0 hs f0 r0 (q0 _) (yieldsIf_load_mid (by simp [Region.wanted, g0]) ty0 x0 p0 b0 0 e0 cs0 d0 (fun w' hw' => fun j v hv => by rw [Nat.zero_add]; exact (R0.below hw' R0.lt).c j hv) u0 k0 n0) S0 ?_
  refine wpAnyH_take i1 hs f1 r1 (q1 _) (yieldsIf_load_mid (by simp [Region.wanted, g1]) ty1 x1 p1 b1 0 e1 cs1 d1 (fun w' hw' => fun j v hv => by rw [Nat.zero_add]; exact (R1.below hw' R1.lt).c j hv) u1 k1 n1) S0 ?_
  refine wpAnyH_all r2 (by simp) ?_
  intro i hi
  obtain rfl : i = 2 := by simpa using hi
  refine wpOp_step i2 (fun K hK => ?_)
  rw [if_pos (by simp [Region.wanted, g2])]
  unfold Oper.wp
  rw [enters _ o2 _ #[y2] ts2 c2 p2 #[.agg cs1.toArray] (by simp only [List.map_toArray, List.map_cons, List.map_nil, e2]) m2, Oper.upon_enter]
  refine (C2 _ S0).mono ?_
  rintro e w2 ⟨V, rfl, hR, B2⟩
  have S2 : Below w.heap.size w w2 := S0.trans (B2.mono S0.size)
  refine hK _ _ ⟨S2, ?_⟩
  refine wpAnyH_all r3 (by simp) ?_
  intro i hi
  obtain rfl : i = 3 := by simpa using hi
  refine wpOp_step i3 (fun K hK => ?_)
  rw [if_pos (by simp [Region.wanted, g3])]
  unfold Oper.wp
  rw [enters _ o3 _ #[y3, z3] ts3 c3 p3 #[.agg cs0.toArray, V] (by simp only [List.map_toArray, List.map_cons, List.map_nil, e3 V, e3' V]) m3, Oper.upon_enter]
  refine (C3 V w2 S2 hR).mono ?_
  rintro e w3 ⟨rfl, B3⟩
  have S3 : Below w.heap.size w w3 := S2.trans (B3.mono S2.size)
  refine hK _ _ ⟨S3, ?_⟩
  refine wpAnyH_all r4 (by simp) ?_
  intro i hi
  obtain rfl : i = 4 := by simpa using hi
  refine wpOp_step i4 (fun K hK => ?_)
  rw [if_pos (by simp [Region.wanted, g4])]
  unfold Oper.wp
  rw [run_not ty4 x4 p4 (e4 V), Oper.upon_value]
  exact hK _ _ ⟨S3, wpAnyH_done r5 (h V w3 S3) _⟩

theorem listed_all (vs : List Value) : ∀ (xs : List Value) (i : Nat), xs.length = i + vs.length → listed xs i vs = xs.take i ++ vs := by
  induction vs with
  | nil => intro xs i h; simp only [listed, List.append_nil]; rw [List.take_of_length_le]; simp at h; omega
  | cons v vs ih =>
    intro xs i h
    have h2 : i < xs.length := by simp at h; omega
    have h3 : (xs.set i v).take (i + 1) = xs.take i ++ [v] := by
      rw [List.take_add_one, List.take_set, List.set_eq_of_length_le (by simp; omega)]
      simp [h2]
    rw [listed, ih (xs.set i v) (i + 1) (by simp at h ⊢; omega), h3, List.append_assoc]
    rfl

/-- An argument laid anew and put into a box. -/
theorem region_box {P : Program} {ops : Array Oper} {id : Nat} {a : Act} {w : World} {Q : Exit → Act → World → Prop}
    {o0 o1 o2 o3 : Oper} (hl : ops.toList = [o0, o1, o2, o3]) (g0 : o0.guard = none) (g1 : o1.guard = none) (g2 : o2.guard = none) (g3 : o3.guard = none)
    (ty0 : TypeId) (x0 : Operand) (p0 : o0.op = .load ty0 x0) (b0 : Nat) (cs0 : List Value) (d0 : TypeDesc) (e0 : a.eval x0 = .pointer (some ⟨b0, 0, none⟩)) (R0 : Row w b0 cs0)
    (u0 : P.underlying ty0 = some d0) (k0 : d0.isRow = true) (n0 : (P.info? ty0).map (·.size) = some cs0.length)
    (c1 : FuncId) (y1 : Operand) (ts1 : Array TypeId) (p1 : o1.op = .call { callee := .value (.func c1), args := #[y1], argTypes := ts1 }) (m1 : ∀ vs w, (callFunc c1 vs).run P w = .ok (.enter c1 vs) w)
    (e1 : (a.put o0.dst (.agg cs0.toArray)).eval y1 = .agg cs0.toArray)
    (zs : List Value) (ty2 : TypeId) (al : ∀ (ρ : Operand → Value) w, (execOp ρ o2).run P w = .ok (.value (.pointer (some ⟨w.heap.size, 0, none⟩))) (w.alloc (.cells zs.toArray ty2)))
    (ty3 : TypeId) (x3 y3 : Operand) (p3 : o3.op = .store ty3 x3 y3) (i3 : (P.info? ty3).map (·.size) = some zs.length)
    (e3 : ∀ V X, (((a.put o0.dst (.agg cs0.toArray)).put o1.dst V).put o2.dst X).eval x3 = X) (e4 : ∀ V X, (((a.put o0.dst (.agg cs0.toArray)).put o1.dst V).put o2.dst X).eval y3 = V)
    (R : List Value → World → Prop)
    (C1 : Calls P c1 #[.agg cs0.toArray] w fun e w' => ∃ cs, e = .returned (.agg (List.toArray cs)) ∧ cs.length = zs.length ∧ cs.all (·.oneCell') = true ∧ R cs w' ∧ Below w.heap.size w w')
    (h : ∀ cs w1 wz, R cs w1 → Below w.heap.size w w1 → Row wz w1.heap.size cs → Below w1.heap.size w1 wz → Q .normal ((((a.put o0.dst (.agg cs0.toArray)).put o1.dst (.agg cs.toArray)).put o2.dst (.pointer (some ⟨w1.heap.size, 0, none⟩))).put o3.dst undef) wz) :
    (Code.region id ops false).wp P Q a w := by
  refine wp_region_list ?_
  rw [hl]
  refine wpList_load_row g0 ty0 x0 p0 b0 e0 cs0 d0 R0 u0 k0 n0 ?_
  refine wpList_call g1 c1 #[y1] ts1 p1 #[.agg cs0.toArray] (by simp only [List.map_toArray, List.map_cons, List.map_nil, e1]) m1 (C1.mono ?_)
  rintro e w1 ⟨cs, rfl, hlen, h1, hR, B1⟩
  refine ⟨_, rfl, ?_⟩
  refine wpList_plain g2 (fun K hK => ?_)
  unfold Oper.wp
  rw [al, Oper.upon_value]
  refine hK _ _ ?_
  have hr := Row.new w1 zs ty2
  refine wpList_store_row g3 ty3 x3 y3 p3 w1.heap.size (e3 _ _) zs cs (e4 _ _) hr hlen (by rw [i3, hlen]) h1 ?_
  refine wpList_nil ?_
  have hrow := puts_row hr 0 cs
  rw [listed_all cs zs 0 (by omega)] at hrow
  exact h cs w1 _ hR B1 hrow (puts_below ((Below.refl _ w1).alloc (Nat.le_refl _) _) (Nat.le_refl _) 0 cs)

end Go.Proofs.YtlhnkdogafnnpaaGreat.Pl

namespace Go.Proofs.YtlhnkdogafnnpaaGreat.Pl
open Go.RowKit Go.Proofs.YtlhnkdogafnnpaaGreat.Mem
set_option linter.unusedVariables false

def arr (n : Nat) (S : List Nat) : Array Bool := ((List.range n).map (fun i => S.contains i)).toArray
/-- Number i may come up and may be taken first. -/
def frT (n : Nat) (ops : Array Oper) (S : List Nat) (i : Nat) : Bool := Region.free .any ops (arr n S) i && (Region.ready .any ops (arr n S)).contains i
def rdT (n : Nat) (ops : Array Oper) (S : List Nat) (l : List Nat) : Bool := Region.ready .any ops (arr n S) == l

/-- The shape: load, call, load, call, call, move, extract, extract, alloc, store, assign. -/
def shapeA (ops : Array Oper) : Bool :=
  (ops.size == 11 && Region.noSelect ops) && ((frT 11 ops [] 0 && frT 11 ops [0] 2)
  && ((rdT 11 ops [0, 2] [1, 8] && (rdT 11 ops [0, 1, 2] [3, 8] && rdT 11 ops [0, 1, 2, 3] [4, 8]))
  && ((rdT 11 ops [0, 2, 8] [1] && (rdT 11 ops [0, 1, 2, 8] [3] && rdT 11 ops [0, 1, 2, 3, 8] [4]))
  && ((frT 11 ops [0, 1, 2, 3, 4] 5 && (frT 11 ops [0, 1, 2, 3, 4, 5] 6 && (frT 11 ops [0, 1, 2, 3, 4, 5, 6] 7 && rdT 11 ops [0, 1, 2, 3, 4, 5, 6, 7] [8])))
  && ((frT 11 ops [0, 1, 2, 3, 4, 8] 5 && (frT 11 ops [0, 1, 2, 3, 4, 5, 8] 6 && (frT 11 ops [0, 1, 2, 3, 4, 5, 6, 8] 7 && rdT 11 ops [0, 1, 2, 3, 4, 5, 6, 7, 8] [9])))
  && (rdT 11 ops [0, 1, 2, 3, 4, 5, 6, 7, 8, 9] [10] && rdT 11 ops [0, 1, 2, 3, 4, 5, 6, 7, 8, 9, 10] []))))))

/-- The same without the first call: load, load, call, call, move, extract, extract, alloc, store, assign. -/
def shapeB (ops : Array Oper) : Bool :=
  (ops.size == 10 && Region.noSelect ops) && ((frT 10 ops [] 0 && frT 10 ops [0] 1)
  && ((rdT 10 ops [0, 1] [2, 7] && rdT 10 ops [0, 1, 2] [3, 7])
  && ((rdT 10 ops [0, 1, 7] [2] && rdT 10 ops [0, 1, 2, 7] [3])
  && ((frT 10 ops [0, 1, 2, 3] 4 && (frT 10 ops [0, 1, 2, 3, 4] 5 && (frT 10 ops [0, 1, 2, 3, 4, 5] 6 && rdT 10 ops [0, 1, 2, 3, 4, 5, 6] [7])))
  && ((frT 10 ops [0, 1, 2, 3, 7] 4 && (frT 10 ops [0, 1, 2, 3, 4, 7] 5 && (frT 10 ops [0, 1, 2, 3, 4, 5, 7] 6 && rdT 10 ops [0, 1, 2, 3, 4, 5, 6, 7] [8])))
  && (rdT 10 ops [0, 1, 2, 3, 4, 5, 6, 7, 8] [9] && rdT 10 ops [0, 1, 2, 3, 4, 5, 6, 7, 8, 9] []))))))

theorem put_comm (a : Act) {d1 d2 : Option Tmp} (h : d1 ≠ d2) (u v : Value) : (a.put d1 u).put d2 v = (a.put d2 v).put d1 u := by
  cases d1 with
  | none => rfl
  | some s =>
    cases d2 with
    | none => rfl
    | some t =>
      have hst : s ≠ t := fun e => h (by rw [e])
      simp only [Act.put]
      rw [Array.setIfInBounds_comm _ _ hst]
def offT (d : Option Tmp) (y : Operand) : Bool := match d, y with
  | some t, .tmp s => s != t
  | _, _ => true
theorem eval_off (a : Act) {d : Option Tmp} {y : Operand} (h : offT d y = true) (v : Value) : (a.put d v).eval y = a.eval y := by
  cases d with
  | none => rfl
  | some t =>
    cases y with
    | tmp s =>
      have hst : s ≠ t := by simpa [offT] using h
      simp only [Act.put, Act.eval]
      rw [Array.getD_eq_getD_getElem?, Array.getD_eq_getD_getElem?, Array.getElem?_setIfInBounds_ne hst.symm]
    | _ => rfl

theorem run_move {P : Program} {ρ : Operand → Value} {o : Oper} {w : World} (x : Operand) (p : o.op = .move x) {v : Value} (e : ρ x = v) : (execOp ρ o).run P w = .ok (.value v) w := by
  unfold execOp
  simp [p, e, go_sem]
theorem run_assign {P : Program} {ρ : Operand → Value} {o : Oper} {w : World} (x : Operand) (p : o.op = .assign x) {v : Value} (e : ρ x = v) : (execOp ρ o).run P w = .ok (.value v) w := by
  unfold execOp
  simp [p, e, go_sem]
theorem run_ext {P : Program} {ρ : Operand → Value} {o : Oper} {w : World} (x : Operand) (i : Nat) (p : o.op = .extract x i) {vs : Array Value} {v : Value} (e : ρ x = .tuple vs) (hv : vs[i]? = some v) : (execOp ρ o).run P w = .ok (.value v) w := by
  unfold execOp
  simp [p, e, hv, go_sem]

theorem arr_set (n : Nat) (S T : List Nat) (i : Nat) (h : ((arr n S).setIfInBounds i true == arr n T) = true) : (arr n S).setIfInBounds i true = arr n T := by simpa using h

/-- load, call, load, call, call of two answers, the first one into a box. -/
theorem region_three {P : Program} {ops : Array Oper} {id : Nat} {a : Act} {w : World} {Q : Exit → Act → World → Prop} (hm : P.follows .mixedOrders = true) (hsh : shapeA ops = true)
    {o0 o1 o2 o3 o4 o5 o6 o7 o8 o9 o10 : Oper} (i0 : ops[0]? = some o0) (i1 : ops[1]? = some o1) (i2 : ops[2]? = some o2) (i3 : ops[3]? = some o3) (i4 : ops[4]? = some o4) (i5 : ops[5]? = some o5) (i6 : ops[6]? = some o6) (i7 : ops[7]? = some o7) (i8 : ops[8]? = some o8) (i9 : ops[9]? = some o9) (i10 : ops[10]? = some o10)
    (hg : o0.guard = none ∧ o1.guard = none ∧ o2.guard = none ∧ o3.guard = none ∧ o4.guard = none ∧ o5.guard = none ∧ o6.guard = none ∧ o7.guard = none ∧ o8.guard = none ∧ o9.guard = none ∧ o10.guard = none)
    (q : ∀ (d : Option Tmp) (v : Value) c (a : Act) w, Q (.panic c) (a.put d v) w → Q (.panic c) a w)
    (hd : o1.dst ≠ o8.dst ∧ o3.dst ≠ o8.dst ∧ o4.dst ≠ o8.dst ∧ o5.dst ≠ o8.dst ∧ o6.dst ≠ o8.dst ∧ o7.dst ≠ o8.dst)
    (tyA : TypeId) (xA : Operand) (pA : o0.op = .load tyA xA) (bA : Nat) (csA : List Value) (dA : TypeDesc) (eA : a.eval xA = .pointer (some ⟨bA, 0, none⟩)) (RA : Row w bA csA) (uA : P.underlying tyA = some dA) (kA : dA.isRow = true) (nA : (P.info? tyA).map (·.size) = some csA.length)
    (tyB : TypeId) (xB : Operand) (pB : o2.op = .load tyB xB) (bB : Nat) (csB : List Value) (dB : TypeDesc) (eB : (a.put o0.dst (.agg csA.toArray)).eval xB = .pointer (some ⟨bB, 0, none⟩)) (RB : Row w bB csB) (uB : P.underlying tyB = some dB) (kB : dB.isRow = true) (nB : (P.info? tyB).map (·.size) = some csB.length)
    (cA : FuncId) (yA : Operand) (tsA : Array TypeId) (p1 : o1.op = .call { callee := .value (.func cA), args := #[yA], argTypes := tsA }) (mA : ∀ vs w, (callFunc cA vs).run P w = .ok (.enter cA vs) w) (eyA : ((a.put o0.dst (.agg csA.toArray)).put o2.dst (.agg csB.toArray)).eval yA = .agg csA.toArray) (fyA : offT o8.dst yA = true)
    (cB : FuncId) (yB : Operand) (tsB : Array TypeId) (p3 : o3.op = .call { callee := .value (.func cB), args := #[yB], argTypes := tsB }) (mB : ∀ vs w, (callFunc cB vs).run P w = .ok (.enter cB vs) w) (eyB : ∀ VA, (((a.put o0.dst (.agg csA.toArray)).put o2.dst (.agg csB.toArray)).put o1.dst VA).eval yB = .agg csB.toArray) (fyB : offT o8.dst yB = true)
    (cF : FuncId) (yF zF : Operand) (tsF : Array TypeId) (p4 : o4.op = .call { callee := .value (.func cF), args := #[yF, zF], argTypes := tsF }) (mF : ∀ vs w, (callFunc cF vs).run P w = .ok (.enter cF vs) w) (eyF : ∀ VA VB, ((((a.put o0.dst (.agg csA.toArray)).put o2.dst (.agg csB.toArray)).put o1.dst VA).put o3.dst VB).eval yF = VA) (ezF : ∀ VA VB, ((((a.put o0.dst (.agg csA.toArray)).put o2.dst (.agg csB.toArray)).put o1.dst VA).put o3.dst VB).eval zF = VB) (fF : offT o8.dst yF = true ∧ offT o8.dst zF = true)
    (x5 : Operand) (p5 : o5.op = .move x5) (e5 : ∀ VA VB T, (((((a.put o0.dst (.agg csA.toArray)).put o2.dst (.agg csB.toArray)).put o1.dst VA).put o3.dst VB).put o4.dst T).eval x5 = T)
    (x6 : Operand) (p6 : o6.op = .extract x6 0) (e6 : ∀ VA VB T, ((((((a.put o0.dst (.agg csA.toArray)).put o2.dst (.agg csB.toArray)).put o1.dst VA).put o3.dst VB).put o4.dst T).put o5.dst T).eval x6 = T)
    (x7 : Operand) (p7 : o7.op = .extract x7 1) (e7 : ∀ VA VB T V1, (((((((a.put o0.dst (.agg csA.toArray)).put o2.dst (.agg csB.toArray)).put o1.dst VA).put o3.dst VB).put o4.dst T).put o5.dst T).put o6.dst V1).eval x7 = T) (f57 : offT o8.dst x5 = true ∧ offT o8.dst x6 = true ∧ offT o8.dst x7 = true)
    (zs : List Value) (ty8 : TypeId) (al : ∀ (ρ : Operand → Value) w, (execOp ρ o8).run P w = .ok (.value (.pointer (some ⟨w.heap.size, 0, none⟩))) (w.alloc (.cells zs.toArray ty8)))
    (ty9 : TypeId) (x9 y9 : Operand) (p9 : o9.op = .store ty9 x9 y9) (n9 : (P.info? ty9).map (·.size) = some zs.length) (e9 : ∀ VA VB T V1 V2 X, (((((((((a.put o0.dst (.agg csA.toArray)).put o2.dst (.agg csB.toArray)).put o1.dst VA).put o3.dst VB).put o4.dst T).put o5.dst T).put o6.dst V1).put o7.dst V2).put o8.dst X).eval x9 = X) (e9' : ∀ VA VB T V1 V2 X, (((((((((a.put o0.dst (.agg csA.toArray)).put o2.dst (.agg csB.toArray)).put o1.dst VA).put o3.dst VB).put o4.dst T).put o5.dst T).put o6.dst V1).put o7.dst V2).put o8.dst X).eval y9 = V1)
    (x10 : Operand) (p10 : o10.op = .assign x10) (e10 : ∀ VA VB T V1 V2 X, ((((((((((a.put o0.dst (.agg csA.toArray)).put o2.dst (.agg csB.toArray)).put o1.dst VA).put o3.dst VB).put o4.dst T).put o5.dst T).put o6.dst V1).put o7.dst V2).put o8.dst X).put o9.dst undef).eval x10 = V2)
    (SA SB : Value → World → Prop) (sA : ∀ V w' w'', SA V w' → Below w'.heap.size w' w'' → SA V w'') (sB : ∀ V w' w'', SB V w' → Below w'.heap.size w' w'' → SB V w'')
    (CA : ∀ w', Below w.heap.size w w' → Calls P cA #[.agg csA.toArray] w' fun e w'' => ∃ V, e = .returned V ∧ SA V w'' ∧ Below w'.heap.size w' w'')
    (CB : ∀ w', Below w.heap.size w w' → Calls P cB #[.agg csB.toArray] w' fun e w'' => ∃ V, e = .returned V ∧ SB V w'' ∧ Below w'.heap.size w' w'')
    (V2 : Value) (RF : Nat → List Value → World → Prop) (Ft : List Value → Nat → Prop)
    (CF : ∀ VA VB w', Below w.heap.size w w' → SA VA w' → SB VB w' → Calls P cF #[VA, VB] w' fun e w'' => ∃ cs, e = .returned (.tuple #[.agg (List.toArray cs), V2]) ∧ cs.length = zs.length ∧ cs.all (·.oneCell') = true ∧ RF w'.heap.size cs w'' ∧ Below w'.heap.size w' w'')
    (hF : ∀ B cs w', RF B cs w' → ∀ b, Ft cs b → B ≤ b ∧ b < w'.heap.size)
    (hK : ∀ B cs w' w'' (S : Nat → Prop), RF B cs w' → Kept S w' w'' → (∀ b, Ft cs b → ¬ S b) → RF B cs w'')
    (h : ∀ VA VB cs g B wr, w.heap.size ≤ B → w.heap.size ≤ g → Below w.heap.size w wr → Row wr g cs → RF B cs wr → (∀ b, Ft cs b → b ≠ g) → Q .normal (((((((((((a.put o0.dst (.agg csA.toArray)).put o2.dst (.agg csB.toArray)).put o1.dst VA).put o3.dst VB).put o4.dst (.tuple #[.agg (List.toArray cs), V2])).put o5.dst (.tuple #[.agg (List.toArray cs), V2])).put o6.dst (.agg (List.toArray cs))).put o7.dst V2).put o8.dst (.pointer (some ⟨g, 0, none⟩))).put o9.dst undef).put o10.dst V2) wr) :
    (Code.region id ops true).wp P Q a w := by
  obtain ⟨g0, g1, g2, g3, g4, g5, g6, g7, g8, g9, g10⟩ := hg
  obtain ⟨d1, d3, d4, d5, d6, d7⟩ := hd
  simp only [shapeA, frT, rdT, Bool.and_eq_true, beq_iff_eq] at hsh
  obtain ⟨⟨h11, hns⟩, ⟨fr0, fr2⟩, ⟨ra, rb, rc⟩, ⟨rd, re, rf⟩, ⟨f5a, f6a, f7a, r8⟩, ⟨f5b, f6b, f7b, r9⟩, r10, r11⟩ := hsh
  -- behind the box: the store and the last one
  have hst : ∀ VA VB cs g B wr, cs.length = zs.length → cs.all (·.oneCell') = true → w.heap.size ≤ B → w.heap.size ≤ g → Below w.heap.size w wr → Row wr g zs → RF B cs wr → (∀ b, Ft cs b → b ≠ g) → wpAnyH P .any ops Q (fun w' => Below w.heap.size w w') 2 (arr 11 [0, 1, 2, 3, 4, 5, 6, 7, 8]) (((((((((a.put o0.dst (.agg csA.toArray)).put o2.dst (.agg csB.toArray)).put o1.dst VA).put o3.dst VB).put o4.dst (.tuple #[.agg (List.toArray cs), V2])).put o5.dst (.tuple #[.agg (List.toArray cs), V2])).put o6.dst (.agg (List.toArray cs))).put o7.dst V2).put o8.dst (.pointer (some ⟨g, 0, none⟩))) wr := by
    intro VA VB cs g B wr hl h1 hB hge hb hr hRF hsep
    refine wpAnyH_all r9 (by simp) ?_
    intro i hi
    obtain rfl : i = 9 := by simpa using hi
    refine wpOp_step i9 (fun K hKK => ?_)
    rw [if_pos (by simp [Region.wanted, g9])]
    refine wp_store_mid ty9 x9 y9 p9 g 0 cs.toArray (e9 _ _ _ _ _ _) (e9' _ _ _ _ _ _) (fun j hj => ?_) (by rw [n9]; simp [hl]) (all_oneCell_toArray (fun v hv => List.all_eq_true.1 h1 v hv)) ?_
    · have hj' : j < zs.length := by rw [← hl]; simpa using hj
      rw [Nat.zero_add]
      exact ⟨by rw [hr.c j (List.getElem?_eq_getElem hj')]; rfl, hr.f j⟩
    rw [List.toList_toArray, ← puts_setCells]
    have hrow := puts_row hr 0 cs
    rw [listed_all cs zs 0 (by omega)] at hrow
    have hb' := puts_below hb hge 0 cs
    have hRF' := hK B cs wr _ (fun b => b = g) hRF (puts_kept wr g 0 cs) (fun b hb e => hsep b hb e)
    refine hKK _ _ ⟨hb', ?_⟩
    rw [arr_set 11 [0, 1, 2, 3, 4, 5, 6, 7, 8] [0, 1, 2, 3, 4, 5, 6, 7, 8, 9] 9 (by decide)]
    refine wpAnyH_all r10 (by simp) ?_
    intro i hi
    obtain rfl : i = 10 := by simpa using hi
    refine wpOp_step i10 (fun K hKK => ?_)
    rw [if_pos (by simp [Region.wanted, g10])]
    unfold Oper.wp
    rw [run_assign x10 p10 (e10 _ _ _ _ _ _), Oper.upon_value]
    refine hKK _ _ ⟨hb', ?_⟩
    rw [arr_set 11 [0, 1, 2, 3, 4, 5, 6, 7, 8, 9] [0, 1, 2, 3, 4, 5, 6, 7, 8, 9, 10] 10 (by decide)]
    exact wpAnyH_done r11 (h VA VB cs g B _ hB hge hb' hrow hRF' hsep) _
  -- behind the function, the box not yet made
  have hp0 : ∀ VA VB cs B wr, cs.length = zs.length → cs.all (·.oneCell') = true → w.heap.size ≤ B → Below w.heap.size w wr → RF B cs wr → wpAnyH P .any ops Q (fun w' => Below w.heap.size w w') 6 (arr 11 [0, 1, 2, 3, 4]) (((((a.put o0.dst (.agg csA.toArray)).put o2.dst (.agg csB.toArray)).put o1.dst VA).put o3.dst VB).put o4.dst (.tuple #[.agg (List.toArray cs), V2])) wr := by
    intro VA VB cs B wr hl h1 hB hb hRF
    refine wpAnyH_take i5 hns f5a.1 f5a.2 (fun _ _ _ => q _ _ _ _ _) (.inl ⟨by simp [Region.wanted, g5], fun _ _ => run_move x5 p5 (e5 _ _ _)⟩) hb ?_
    rw [arr_set 11 [0, 1, 2, 3, 4] [0, 1, 2, 3, 4, 5] 5 (by decide)]
    refine wpAnyH_take i6 hns f6a.1 f6a.2 (fun _ _ _ => q _ _ _ _ _) (.inl ⟨by simp [Region.wanted, g6], fun _ _ => run_ext x6 0 p6 (e6 _ _ _) rfl⟩) hb ?_
    rw [arr_set 11 [0, 1, 2, 3, 4, 5] [0, 1, 2, 3, 4, 5, 6] 6 (by decide)]
    refine wpAnyH_take i7 hns f7a.1 f7a.2 (fun _ _ _ => q _ _ _ _ _) (.inl ⟨by simp [Region.wanted, g7], fun _ _ => run_ext x7 1 p7 (e7 _ _ _ _) rfl⟩) hb ?_
    rw [arr_set 11 [0, 1, 2, 3, 4, 5, 6] [0, 1, 2, 3, 4, 5, 6, 7] 7 (by decide)]
    refine wpAnyH_all r8 (by simp) ?_
    intro i hi
    obtain rfl : i = 8 := by simpa using hi
    refine wpOp_step i8 (fun K hKK => ?_)
    rw [if_pos (by simp [Region.wanted, g8])]
    unfold Oper.wp
    rw [al, Oper.upon_value]
    have hb' := hb.alloc hb.size (.cells zs.toArray ty8)
    refine hKK _ _ ⟨hb', ?_⟩
    rw [arr_set 11 [0, 1, 2, 3, 4, 5, 6, 7] [0, 1, 2, 3, 4, 5, 6, 7, 8] 8 (by decide)]
    exact hst VA VB cs _ B _ hl h1 hB hb.size hb' (Row.new wr zs ty8) (hK B cs wr _ (fun _ => False) hRF (Kept.of_below ((Below.refl _ wr).alloc (Nat.le_refl _) _)) (fun _ _ hf => hf)) (fun b hb2 e => by have := (hF B cs wr hRF b hb2).2; omega)
  -- behind the function, the box made before
  have hp1 : ∀ VA VB cs g B wr, cs.length = zs.length → cs.all (·.oneCell') = true → w.heap.size ≤ B → w.heap.size ≤ g → g < B → Below w.heap.size w wr → Row wr g zs → RF B cs wr → wpAnyH P .any ops Q (fun w' => Below w.heap.size w w') 5 (arr 11 [0, 1, 2, 3, 4, 8]) ((((((a.put o0.dst (.agg csA.toArray)).put o2.dst (.agg csB.toArray)).put o1.dst VA).put o3.dst VB).put o4.dst (.tuple #[.agg (List.toArray cs), V2])).put o8.dst (.pointer (some ⟨g, 0, none⟩))) wr := by
    intro VA VB cs g B wr hl h1 hB hge hgB hb hr hRF
    refine wpAnyH_take i5 hns f5b.1 f5b.2 (fun _ _ _ => q _ _ _ _ _) (.inl ⟨by simp [Region.wanted, g5], fun _ _ => run_move x5 p5 ((eval_off _ f57.1 _).trans (e5 _ _ _))⟩) hb ?_
    rw [arr_set 11 [0, 1, 2, 3, 4, 8] [0, 1, 2, 3, 4, 5, 8] 5 (by decide), put_comm _ (Ne.symm d5)]
    refine wpAnyH_take i6 hns f6b.1 f6b.2 (fun _ _ _ => q _ _ _ _ _) (.inl ⟨by simp [Region.wanted, g6], fun _ _ => run_ext x6 0 p6 ((eval_off _ f57.2.1 _).trans (e6 _ _ _)) rfl⟩) hb ?_
    rw [arr_set 11 [0, 1, 2, 3, 4, 5, 8] [0, 1, 2, 3, 4, 5, 6, 8] 6 (by decide), put_comm _ (Ne.symm d6)]
    refine wpAnyH_take i7 hns f7b.1 f7b.2 (fun _ _ _ => q _ _ _ _ _) (.inl ⟨by simp [Region.wanted, g7], fun _ _ => run_ext x7 1 p7 ((eval_off _ f57.2.2 _).trans (e7 _ _ _ _)) rfl⟩) hb ?_
    rw [arr_set 11 [0, 1, 2, 3, 4, 5, 6, 8] [0, 1, 2, 3, 4, 5, 6, 7, 8] 7 (by decide), put_comm _ (Ne.symm d7)]
    exact hst VA VB cs g B wr hl h1 hB hge hb hr hRF (fun b hb2 e => by have := (hF B cs wr hRF b hb2).1; omega)
  -- the function
  have hF1 : ∀ VA VB g wr, w.heap.size ≤ g → Below w.heap.size w wr → Row wr g zs → SA VA wr → SB VB wr → wpAnyH P .any ops Q (fun w' => Below w.heap.size w w') 6 (arr 11 [0, 1, 2, 3, 8]) (((((a.put o0.dst (.agg csA.toArray)).put o2.dst (.agg csB.toArray)).put o1.dst VA).put o3.dst VB).put o8.dst (.pointer (some ⟨g, 0, none⟩))) wr := by
    intro VA VB g wr hge hb hr hA hB
    refine wpAnyH_all rf (by simp) ?_
    intro i hi
    obtain rfl : i = 4 := by simpa using hi
    refine wpOp_step i4 (fun K hKK => ?_)
    rw [if_pos (by simp [Region.wanted, g4])]
    unfold Oper.wp
    rw [enters _ o4 _ #[yF, zF] tsF cF p4 #[VA, VB] (by simp only [List.map_toArray, List.map_cons, List.map_nil, eval_off _ fF.1, eval_off _ fF.2, eyF, ezF]) mF, Oper.upon_enter]
    refine (CF VA VB wr hb hA hB).mono ?_
    rintro e w5 ⟨cs, rfl, hl, h1, hRF, b5⟩
    refine hKK _ _ ⟨hb.trans (b5.mono hb.size), ?_⟩
    rw [arr_set 11 [0, 1, 2, 3, 8] [0, 1, 2, 3, 4, 8] 4 (by decide), put_comm _ (Ne.symm d4)]
    exact hp1 VA VB cs g _ w5 hl h1 hb.size hge hr.lt (hb.trans (b5.mono hb.size)) (hr.below b5 hr.lt) hRF
  have hF0 : ∀ VA VB wr, Below w.heap.size w wr → SA VA wr → SB VB wr → wpAnyH P .any ops Q (fun w' => Below w.heap.size w w') 7 (arr 11 [0, 1, 2, 3]) ((((a.put o0.dst (.agg csA.toArray)).put o2.dst (.agg csB.toArray)).put o1.dst VA).put o3.dst VB) wr := by
    intro VA VB wr hb hA hB
    refine wpAnyH_all rc (by simp) ?_
    intro i hi
    rcases (by simpa using hi : i = 4 ∨ i = 8) with rfl | rfl
    · refine wpOp_step i4 (fun K hKK => ?_)
      rw [if_pos (by simp [Region.wanted, g4])]
      unfold Oper.wp
      rw [enters _ o4 _ #[yF, zF] tsF cF p4 #[VA, VB] (by simp only [List.map_toArray, List.map_cons, List.map_nil, eyF, ezF]) mF, Oper.upon_enter]
      refine (CF VA VB wr hb hA hB).mono ?_
      rintro e w5 ⟨cs, rfl, hl, h1, hRF, b5⟩
      refine hKK _ _ ⟨hb.trans (b5.mono hb.size), ?_⟩
      rw [arr_set 11 [0, 1, 2, 3] [0, 1, 2, 3, 4] 4 (by decide)]
      exact hp0 VA VB cs _ w5 hl h1 hb.size (hb.trans (b5.mono hb.size)) hRF
    · refine wpOp_step i8 (fun K hKK => ?_)
      rw [if_pos (by simp [Region.wanted, g8])]
      unfold Oper.wp
      rw [al, Oper.upon_value]
      have ba : Below wr.heap.size wr (wr.alloc (.cells zs.toArray ty8)) := (Below.refl _ wr).alloc (Nat.le_refl _) _
      refine hKK _ _ ⟨hb.trans (ba.mono hb.size), ?_⟩
      rw [arr_set 11 [0, 1, 2, 3] [0, 1, 2, 3, 8] 8 (by decide)]
      exact hF1 VA VB _ _ hb.size (hb.trans (ba.mono hb.size)) (Row.new wr zs ty8) (sA _ _ _ hA ba) (sB _ _ _ hB ba)
  -- the second argument
  have hB1 : ∀ VA g wr, w.heap.size ≤ g → Below w.heap.size w wr → Row wr g zs → SA VA wr → wpAnyH P .any ops Q (fun w' => Below w.heap.size w w') 7 (arr 11 [0, 1, 2, 8]) ((((a.put o0.dst (.agg csA.toArray)).put o2.dst (.agg csB.toArray)).put o1.dst VA).put o8.dst (.pointer (some ⟨g, 0, none⟩))) wr := by
    intro VA g wr hge hb hr hA
    refine wpAnyH_all re (by simp) ?_
    intro i hi
    obtain rfl : i = 3 := by simpa using hi
    refine wpOp_step i3 (fun K hKK => ?_)
    rw [if_pos (by simp [Region.wanted, g3])]
    unfold Oper.wp
    rw [enters _ o3 _ #[yB] tsB cB p3 #[.agg csB.toArray] (by simp only [List.map_toArray, List.map_cons, List.map_nil, eval_off _ fyB, eyB]) mB, Oper.upon_enter]
    refine (CB wr hb).mono ?_
    rintro e w5 ⟨VB, rfl, hS, b5⟩
    refine hKK _ _ ⟨hb.trans (b5.mono hb.size), ?_⟩
    rw [arr_set 11 [0, 1, 2, 8] [0, 1, 2, 3, 8] 3 (by decide), put_comm _ (Ne.symm d3)]
    exact hF1 VA VB g w5 hge (hb.trans (b5.mono hb.size)) (hr.below b5 hr.lt) (sA _ _ _ hA b5) hS
  have hB0 : ∀ VA wr, Below w.heap.size w wr → SA VA wr → wpAnyH P .any ops Q (fun w' => Below w.heap.size w w') 8 (arr 11 [0, 1, 2]) (((a.put o0.dst (.agg csA.toArray)).put o2.dst (.agg csB.toArray)).put o1.dst VA) wr := by
    intro VA wr hb hA
    refine wpAnyH_all rb (by simp) ?_
    intro i hi
    rcases (by simpa using hi : i = 3 ∨ i = 8) with rfl | rfl
    · refine wpOp_step i3 (fun K hKK => ?_)
      rw [if_pos (by simp [Region.wanted, g3])]
      unfold Oper.wp
      rw [enters _ o3 _ #[yB] tsB cB p3 #[.agg csB.toArray] (by simp only [List.map_toArray, List.map_cons, List.map_nil, eyB]) mB, Oper.upon_enter]
      refine (CB wr hb).mono ?_
      rintro e w5 ⟨VB, rfl, hS, b5⟩
      refine hKK _ _ ⟨hb.trans (b5.mono hb.size), ?_⟩
      rw [arr_set 11 [0, 1, 2] [0, 1, 2, 3] 3 (by decide)]
      exact hF0 VA VB w5 (hb.trans (b5.mono hb.size)) (sA _ _ _ hA b5) hS
    · refine wpOp_step i8 (fun K hKK => ?_)
      rw [if_pos (by simp [Region.wanted, g8])]
      unfold Oper.wp
      rw [al, Oper.upon_value]
      have ba : Below wr.heap.size wr (wr.alloc (.cells zs.toArray ty8)) := (Below.refl _ wr).alloc (Nat.le_refl _) _
      refine hKK _ _ ⟨hb.trans (ba.mono hb.size), ?_⟩
      rw [arr_set 11 [0, 1, 2] [0, 1, 2, 8] 8 (by decide)]
      exact hB1 VA _ _ hb.size (hb.trans (ba.mono hb.size)) (Row.new wr zs ty8) (sA _ _ _ hA ba)
  -- the first argument
  have hA1 : ∀ g wr, w.heap.size ≤ g → Below w.heap.size w wr → Row wr g zs → wpAnyH P .any ops Q (fun w' => Below w.heap.size w w') 8 (arr 11 [0, 2, 8]) (((a.put o0.dst (.agg csA.toArray)).put o2.dst (.agg csB.toArray)).put o8.dst (.pointer (some ⟨g, 0, none⟩))) wr := by
    intro g wr hge hb hr
    refine wpAnyH_all rd (by simp) ?_
    intro i hi
    obtain rfl : i = 1 := by simpa using hi
    refine wpOp_step i1 (fun K hKK => ?_)
    rw [if_pos (by simp [Region.wanted, g1])]
    unfold Oper.wp
    rw [enters _ o1 _ #[yA] tsA cA p1 #[.agg csA.toArray] (by simp only [List.map_toArray, List.map_cons, List.map_nil, eval_off _ fyA, eyA]) mA, Oper.upon_enter]
    refine (CA wr hb).mono ?_
    rintro e w5 ⟨VA, rfl, hS, b5⟩
    refine hKK _ _ ⟨hb.trans (b5.mono hb.size), ?_⟩
    rw [arr_set 11 [0, 2, 8] [0, 1, 2, 8] 1 (by decide), put_comm _ (Ne.symm d1)]
    exact hB1 VA g w5 hge (hb.trans (b5.mono hb.size)) (hr.below b5 hr.lt) hS
  refine wp_region_held (S := fun w' => Below w.heap.size w w') hm ?_
  rw [h11, show Array.replicate 11 false = arr 11 [] from by decide]
  have S0 : Below w.heap.size w { w with drawn := w.drawn + 1 } := (Below.refl _ w).drew
  refine wpAnyH_take i0 hns fr0.1 fr0.2 (fun _ _ _ => q _ _ _ _ _) (yieldsIf_load_mid (by simp [Region.wanted, g0]) tyA xA pA bA 0 eA csA dA (fun w' hw' => fun j v hv => by rw [Nat.zero_add]; exact (RA.below hw' RA.lt).c j hv) uA kA nA) S0 ?_
  rw [arr_set 11 [] [0] 0 (by decide)]
  refine wpAnyH_take i2 hns fr2.1 fr2.2 (fun _ _ _ => q _ _ _ _ _) (yieldsIf_load_mid (by simp [Region.wanted, g2]) tyB xB pB bB 0 eB csB dB (fun w' hw' => fun j v hv => by rw [Nat.zero_add]; exact (RB.below hw' RB.lt).c j hv) uB kB nB) S0 ?_
  rw [arr_set 11 [0] [0, 2] 2 (by decide)]
  refine wpAnyH_all ra (by simp) ?_
  intro i hi
  rcases (by simpa using hi : i = 1 ∨ i = 8) with rfl | rfl
  · refine wpOp_step i1 (fun K hKK => ?_)
    rw [if_pos (by simp [Region.wanted, g1])]
    unfold Oper.wp
    rw [enters _ o1 _ #[yA] tsA cA p1 #[.agg csA.toArray] (by simp only [List.map_toArray, List.map_cons, List.map_nil, eyA]) mA, Oper.upon_enter]
    refine (CA _ S0).mono ?_
    rintro e w5 ⟨VA, rfl, hS, b5⟩
    refine hKK _ _ ⟨S0.trans (b5.mono S0.size), ?_⟩
    rw [arr_set 11 [0, 2] [0, 1, 2] 1 (by decide)]
    exact hB0 VA w5 (S0.trans (b5.mono S0.size)) hS
  · refine wpOp_step i8 (fun K hKK => ?_)
    rw [if_pos (by simp [Region.wanted, g8])]
    unfold Oper.wp
    rw [al, Oper.upon_value]
    have ba := (Below.refl _ ({ w with drawn := w.drawn + 1 } : World)).alloc (Nat.le_refl _) (.cells zs.toArray ty8)
    refine hKK _ _ ⟨S0.trans (ba.mono S0.size), ?_⟩
    rw [arr_set 11 [0, 2] [0, 2, 8] 8 (by decide)]
    exact hA1 _ _ S0.size (S0.trans (ba.mono S0.size)) (Row.new _ zs ty8)

/-- load, load, call, call of two answers, the first one into a box. -/
theorem region_two {P : Program} {ops : Array Oper} {id : Nat} {a : Act} {w : World} {Q : Exit → Act → World → Prop} (hm : P.follows .mixedOrders = true) (hsh : shapeB ops = true)
    {o0 o2 o3 o4 o5 o6 o7 o8 o9 o10 : Oper} (i0 : ops[0]? = some o0) (i2 : ops[1]? = some o2) (i3 : ops[2]? = some o3) (i4 : ops[3]? = some o4) (i5 : ops[4]? = some o5) (i6 : ops[5]? = some o6) (i7 : ops[6]? = some o7) (i8 : ops[7]? = some o8) (i9 : ops[8]? = some o9) (i10 : ops[9]? = some o10)
    (hg : o0.guard = none ∧ o2.guard = none ∧ o3.guard = none ∧ o4.guard = none ∧ o5.guard = none ∧ o6.guard = none ∧ o7.guard = none ∧ o8.guard = none ∧ o9.guard = none ∧ o10.guard = none)
    (q : ∀ (d : Option Tmp) (v : Value) c (a : Act) w, Q (.panic c) (a.put d v) w → Q (.panic c) a w)
    (hd : o3.dst ≠ o8.dst ∧ o4.dst ≠ o8.dst ∧ o5.dst ≠ o8.dst ∧ o6.dst ≠ o8.dst ∧ o7.dst ≠ o8.dst)
    (tyA : TypeId) (xA : Operand) (pA : o0.op = .load tyA xA) (bA : Nat) (csA : List Value) (dA : TypeDesc) (eA : a.eval xA = .pointer (some ⟨bA, 0, none⟩)) (RA : Row w bA csA) (uA : P.underlying tyA = some dA) (kA : dA.isRow = true) (nA : (P.info? tyA).map (·.size) = some csA.length)
    (tyB : TypeId) (xB : Operand) (pB : o2.op = .load tyB xB) (bB : Nat) (csB : List Value) (dB : TypeDesc) (eB : (a.put o0.dst (.agg csA.toArray)).eval xB = .pointer (some ⟨bB, 0, none⟩)) (RB : Row w bB csB) (uB : P.underlying tyB = some dB) (kB : dB.isRow = true) (nB : (P.info? tyB).map (·.size) = some csB.length)
    (cB : FuncId) (yB : Operand) (tsB : Array TypeId) (p3 : o3.op = .call { callee := .value (.func cB), args := #[yB], argTypes := tsB }) (mB : ∀ vs w, (callFunc cB vs).run P w = .ok (.enter cB vs) w) (eyB : ((a.put o0.dst (.agg csA.toArray)).put o2.dst (.agg csB.toArray)).eval yB = .agg csB.toArray) (fyB : offT o8.dst yB = true)
    (cF : FuncId) (yF zF : Operand) (tsF : Array TypeId) (p4 : o4.op = .call { callee := .value (.func cF), args := #[yF, zF], argTypes := tsF }) (mF : ∀ vs w, (callFunc cF vs).run P w = .ok (.enter cF vs) w) (eyF : ∀ VB, (((a.put o0.dst (.agg csA.toArray)).put o2.dst (.agg csB.toArray)).put o3.dst VB).eval yF = .agg csA.toArray) (ezF : ∀ VB, (((a.put o0.dst (.agg csA.toArray)).put o2.dst (.agg csB.toArray)).put o3.dst VB).eval zF = VB) (fF : offT o8.dst yF = true ∧ offT o8.dst zF = true)
    (x5 : Operand) (p5 : o5.op = .move x5) (e5 : ∀ VB T, ((((a.put o0.dst (.agg csA.toArray)).put o2.dst (.agg csB.toArray)).put o3.dst VB).put o4.dst T).eval x5 = T)
    (x6 : Operand) (p6 : o6.op = .extract x6 0) (e6 : ∀ VB T, (((((a.put o0.dst (.agg csA.toArray)).put o2.dst (.agg csB.toArray)).put o3.dst VB).put o4.dst T).put o5.dst T).eval x6 = T)
    (x7 : Operand) (p7 : o7.op = .extract x7 1) (e7 : ∀ VB T V1, ((((((a.put o0.dst (.agg csA.toArray)).put o2.dst (.agg csB.toArray)).put o3.dst VB).put o4.dst T).put o5.dst T).put o6.dst V1).eval x7 = T) (f57 : offT o8.dst x5 = true ∧ offT o8.dst x6 = true ∧ offT o8.dst x7 = true)
    (zs : List Value) (ty8 : TypeId) (al : ∀ (ρ : Operand → Value) w, (execOp ρ o8).run P w = .ok (.value (.pointer (some ⟨w.heap.size, 0, none⟩))) (w.alloc (.cells zs.toArray ty8)))
    (ty9 : TypeId) (x9 y9 : Operand) (p9 : o9.op = .store ty9 x9 y9) (n9 : (P.info? ty9).map (·.size) = some zs.length) (e9 : ∀ VB T V1 V2 X, ((((((((a.put o0.dst (.agg csA.toArray)).put o2.dst (.agg csB.toArray)).put o3.dst VB).put o4.dst T).put o5.dst T).put o6.dst V1).put o7.dst V2).put o8.dst X).eval x9 = X) (e9' : ∀ VB T V1 V2 X, ((((((((a.put o0.dst (.agg csA.toArray)).put o2.dst (.agg csB.toArray)).put o3.dst VB).put o4.dst T).put o5.dst T).put o6.dst V1).put o7.dst V2).put o8.dst X).eval y9 = V1)
    (x10 : Operand) (p10 : o10.op = .assign x10) (e10 : ∀ VB T V1 V2 X, (((((((((a.put o0.dst (.agg csA.toArray)).put o2.dst (.agg csB.toArray)).put o3.dst VB).put o4.dst T).put o5.dst T).put o6.dst V1).put o7.dst V2).put o8.dst X).put o9.dst undef).eval x10 = V2)
    (SB : Value → World → Prop) (sB : ∀ V w' w'', SB V w' → Below w'.heap.size w' w'' → SB V w'')
    (CB : ∀ w', Below w.heap.size w w' → Calls P cB #[.agg csB.toArray] w' fun e w'' => ∃ V, e = .returned V ∧ SB V w'' ∧ Below w'.heap.size w' w'')
    (V2 : Value) (RF : Nat → List Value → World → Prop) (Ft : List Value → Nat → Prop)
    (CF : ∀ VB w', Below w.heap.size w w' → SB VB w' → Calls P cF #[.agg csA.toArray, VB] w' fun e w'' => ∃ cs, e = .returned (.tuple #[.agg (List.toArray cs), V2]) ∧ cs.length = zs.length ∧ cs.all (·.oneCell') = true ∧ RF w'.heap.size cs w'' ∧ Below w'.heap.size w' w'')
    (hF : ∀ B cs w', RF B cs w' → ∀ b, Ft cs b → B ≤ b ∧ b < w'.heap.size)
    (hK : ∀ B cs w' w'' (S : Nat → Prop), RF B cs w' → Kept S w' w'' → (∀ b, Ft cs b → ¬ S b) → RF B cs w'')
    (h : ∀ VB cs g B wr, w.heap.size ≤ B → w.heap.size ≤ g → Below w.heap.size w wr → Row wr g cs → RF B cs wr → (∀ b, Ft cs b → b ≠ g) → Q .normal ((((((((((a.put o0.dst (.agg csA.toArray)).put o2.dst (.agg csB.toArray)).put o3.dst VB).put o4.dst (.tuple #[.agg (List.toArray cs), V2])).put o5.dst (.tuple #[.agg (List.toArray cs), V2])).put o6.dst (.agg (List.toArray cs))).put o7.dst V2).put o8.dst (.pointer (some ⟨g, 0, none⟩))).put o9.dst undef).put o10.dst V2) wr) :
    (Code.region id ops true).wp P Q a w := by
  obtain ⟨g0, g2, g3, g4, g5, g6, g7, g8, g9, g10⟩ := hg
  obtain ⟨d3, d4, d5, d6, d7⟩ := hd
  simp only [shapeB, frT, rdT, Bool.and_eq_true, beq_iff_eq] at hsh
  obtain ⟨⟨h11, hns⟩, ⟨fr0, fr2⟩, ⟨rb, rc⟩, ⟨re, rf⟩, ⟨f5a, f6a, f7a, r8⟩, ⟨f5b, f6b, f7b, r9⟩, r10, r11⟩ := hsh
  -- behind the box: the store and the last one
  have hst : ∀ VB cs g B wr, cs.length = zs.length → cs.all (·.oneCell') = true → w.heap.size ≤ B → w.heap.size ≤ g → Below w.heap.size w wr → Row wr g zs → RF B cs wr → (∀ b, Ft cs b → b ≠ g) → wpAnyH P .any ops Q (fun w' => Below w.heap.size w w') 2 (arr 10 [0, 1, 2, 3, 4, 5, 6, 7]) ((((((((a.put o0.dst (.agg csA.toArray)).put o2.dst (.agg csB.toArray)).put o3.dst VB).put o4.dst (.tuple #[.agg (List.toArray cs), V2])).put o5.dst (.tuple #[.agg (List.toArray cs), V2])).put o6.dst (.agg (List.toArray cs))).put o7.dst V2).put o8.dst (.pointer (some ⟨g, 0, none⟩))) wr := by
    intro VB cs g B wr hl h1 hB hge hb hr hRF hsep
    refine wpAnyH_all r9 (by simp) ?_
    intro i hi
    obtain rfl : i = 8 := by simpa using hi
    refine wpOp_step i9 (fun K hKK => ?_)
    rw [if_pos (by simp [Region.wanted, g9])]
    refine wp_store_mid ty9 x9 y9 p9 g 0 cs.toArray (e9 _ _ _ _ _) (e9' _ _ _ _ _) (fun j hj => ?_) (by rw [n9]; simp [hl]) (all_oneCell_toArray (fun v hv => List.all_eq_true.1 h1 v hv)) ?_
    · have hj' : j < zs.length := by rw [← hl]; simpa using hj
      rw [Nat.zero_add]
      exact ⟨by rw [hr.c j (List.getElem?_eq_getElem hj')]; rfl, hr.f j⟩
    rw [List.toList_toArray, ← puts_setCells]
    have hrow := puts_row hr 0 cs
    rw [listed_all cs zs 0 (by omega)] at hrow
    have hb' := puts_below hb hge 0 cs
    have hRF' := hK B cs wr _ (fun b => b = g) hRF (puts_kept wr g 0 cs) (fun b hb e => hsep b hb e)
    refine hKK _ _ ⟨hb', ?_⟩
    rw [arr_set 10 [0, 1, 2, 3, 4, 5, 6, 7] [0, 1, 2, 3, 4, 5, 6, 7, 8] 8 (by decide)]
    refine wpAnyH_all r10 (by simp) ?_
    intro i hi
    obtain rfl : i = 9 := by simpa using hi
    refine wpOp_step i10 (fun K hKK => ?_)
    rw [if_pos (by simp [Region.wanted, g10])]
    unfold Oper.wp
    rw [run_assign x10 p10 (e10 _ _ _ _ _), Oper.upon_value]
    refine hKK _ _ ⟨hb', ?_⟩
    rw [arr_set 10 [0, 1, 2, 3, 4, 5, 6, 7, 8] [0, 1, 2, 3, 4, 5, 6, 7, 8, 9] 9 (by decide)]
    exact wpAnyH_done r11 (h VB cs g B _ hB hge hb' hrow hRF' hsep) _
  -- behind the function, the box not yet made
  have hp0 : ∀ VB cs B wr, cs.length = zs.length → cs.all (·.oneCell') = true → w.heap.size ≤ B → Below w.heap.size w wr → RF B cs wr → wpAnyH P .any ops Q (fun w' => Below w.heap.size w w') 6 (arr 10 [0, 1, 2, 3]) ((((a.put o0.dst (.agg csA.toArray)).put o2.dst (.agg csB.toArray)).put o3.dst VB).put o4.dst (.tuple #[.agg (List.toArray cs), V2])) wr := by
    intro VB cs B wr hl h1 hB hb hRF
    refine wpAnyH_take i5 hns f5a.1 f5a.2 (fun _ _ _ => q _ _ _ _ _) (.inl ⟨by simp [Region.wanted, g5], fun _ _ => run_move x5 p5 (e5 _ _)⟩) hb ?_
    rw [arr_set 10 [0, 1, 2, 3] [0, 1, 2, 3, 4] 4 (by decide)]
    refine wpAnyH_take i6 hns f6a.1 f6a.2 (fun _ _ _ => q _ _ _ _ _) (.inl ⟨by simp [Region.wanted, g6], fun _ _ => run_ext x6 0 p6 (e6 _ _) rfl⟩) hb ?_
    rw [arr_set 10 [0, 1, 2, 3, 4] [0, 1, 2, 3, 4, 5] 5 (by decide)]
    refine wpAnyH_take i7 hns f7a.1 f7a.2 (fun _ _ _ => q _ _ _ _ _) (.inl ⟨by simp [Region.wanted, g7], fun _ _ => run_ext x7 1 p7 (e7 _ _ _) rfl⟩) hb ?_
    rw [arr_set 10 [0, 1, 2, 3, 4, 5] [0, 1, 2, 3, 4, 5, 6] 6 (by decide)]
    refine wpAnyH_all r8 (by simp) ?_
    intro i hi
    obtain rfl : i = 7 := by simpa using hi
    refine wpOp_step i8 (fun K hKK => ?_)
    rw [if_pos (by simp [Region.wanted, g8])]
    unfold Oper.wp
    rw [al, Oper.upon_value]
    have hb' := hb.alloc hb.size (.cells zs.toArray ty8)
    refine hKK _ _ ⟨hb', ?_⟩
    rw [arr_set 10 [0, 1, 2, 3, 4, 5, 6] [0, 1, 2, 3, 4, 5, 6, 7] 7 (by decide)]
    exact hst VB cs _ B _ hl h1 hB hb.size hb' (Row.new wr zs ty8) (hK B cs wr _ (fun _ => False) hRF (Kept.of_below ((Below.refl _ wr).alloc (Nat.le_refl _) _)) (fun _ _ hf => hf)) (fun b hb2 e => by have := (hF B cs wr hRF b hb2).2; omega)
  -- behind the function, the box made before
  have hp1 : ∀ VB cs g B wr, cs.length = zs.length → cs.all (·.oneCell') = true → w.heap.size ≤ B → w.heap.size ≤ g → g < B → Below w.heap.size w wr → Row wr g zs → RF B cs wr → wpAnyH P .any ops Q (fun w' => Below w.heap.size w w') 5 (arr 10 [0, 1, 2, 3, 7]) (((((a.put o0.dst (.agg csA.toArray)).put o2.dst (.agg csB.toArray)).put o3.dst VB).put o4.dst (.tuple #[.agg (List.toArray cs), V2])).put o8.dst (.pointer (some ⟨g, 0, none⟩))) wr := by
    intro VB cs g B wr hl h1 hB hge hgB hb hr hRF
    refine wpAnyH_take i5 hns f5b.1 f5b.2 (fun _ _ _ => q _ _ _ _ _) (.inl ⟨by simp [Region.wanted, g5], fun _ _ => run_move x5 p5 ((eval_off _ f57.1 _).trans (e5 _ _))⟩) hb ?_
    rw [arr_set 10 [0, 1, 2, 3, 7] [0, 1, 2, 3, 4, 7] 4 (by decide), put_comm _ (Ne.symm d5)]
    refine wpAnyH_take i6 hns f6b.1 f6b.2 (fun _ _ _ => q _ _ _ _ _) (.inl ⟨by simp [Region.wanted, g6], fun _ _ => run_ext x6 0 p6 ((eval_off _ f57.2.1 _).trans (e6 _ _)) rfl⟩) hb ?_
    rw [arr_set 10 [0, 1, 2, 3, 4, 7] [0, 1, 2, 3, 4, 5, 7] 5 (by decide), put_comm _ (Ne.symm d6)]
    refine wpAnyH_take i7 hns f7b.1 f7b.2 (fun _ _ _ => q _ _ _ _ _) (.inl ⟨by simp [Region.wanted, g7], fun _ _ => run_ext x7 1 p7 ((eval_off _ f57.2.2 _).trans (e7 _ _ _)) rfl⟩) hb ?_
    rw [arr_set 10 [0, 1, 2, 3, 4, 5, 7] [0, 1, 2, 3, 4, 5, 6, 7] 6 (by decide), put_comm _ (Ne.symm d7)]
    exact hst VB cs g B wr hl h1 hB hge hb hr hRF (fun b hb2 e => by have := (hF B cs wr hRF b hb2).1; omega)
  -- the function
  have hF1 : ∀ VB g wr, w.heap.size ≤ g → Below w.heap.size w wr → Row wr g zs → SB VB wr → wpAnyH P .any ops Q (fun w' => Below w.heap.size w w') 6 (arr 10 [0, 1, 2, 7]) ((((a.put o0.dst (.agg csA.toArray)).put o2.dst (.agg csB.toArray)).put o3.dst VB).put o8.dst (.pointer (some ⟨g, 0, none⟩))) wr := by
    intro VB g wr hge hb hr hB
    refine wpAnyH_all rf (by simp) ?_
    intro i hi
    obtain rfl : i = 3 := by simpa using hi
    refine wpOp_step i4 (fun K hKK => ?_)
    rw [if_pos (by simp [Region.wanted, g4])]
    unfold Oper.wp
    rw [enters _ o4 _ #[yF, zF] tsF cF p4 #[.agg csA.toArray, VB] (by simp only [List.map_toArray, List.map_cons, List.map_nil, eval_off _ fF.1, eval_off _ fF.2, eyF, ezF]) mF, Oper.upon_enter]
    refine (CF VB wr hb hB).mono ?_
    rintro e w5 ⟨cs, rfl, hl, h1, hRF, b5⟩
    refine hKK _ _ ⟨hb.trans (b5.mono hb.size), ?_⟩
    rw [arr_set 10 [0, 1, 2, 7] [0, 1, 2, 3, 7] 3 (by decide), put_comm _ (Ne.symm d4)]
    exact hp1 VB cs g _ w5 hl h1 hb.size hge hr.lt (hb.trans (b5.mono hb.size)) (hr.below b5 hr.lt) hRF
  have hF0 : ∀ VB wr, Below w.heap.size w wr → SB VB wr → wpAnyH P .any ops Q (fun w' => Below w.heap.size w w') 7 (arr 10 [0, 1, 2]) (((a.put o0.dst (.agg csA.toArray)).put o2.dst (.agg csB.toArray)).put o3.dst VB) wr := by
    intro VB wr hb hB
    refine wpAnyH_all rc (by simp) ?_
    intro i hi
    rcases (by simpa using hi : i = 3 ∨ i = 7) with rfl | rfl
    · refine wpOp_step i4 (fun K hKK => ?_)
      rw [if_pos (by simp [Region.wanted, g4])]
      unfold Oper.wp
      rw [enters _ o4 _ #[yF, zF] tsF cF p4 #[.agg csA.toArray, VB] (by simp only [List.map_toArray, List.map_cons, List.map_nil, eyF, ezF]) mF, Oper.upon_enter]
      refine (CF VB wr hb hB).mono ?_
      rintro e w5 ⟨cs, rfl, hl, h1, hRF, b5⟩
      refine hKK _ _ ⟨hb.trans (b5.mono hb.size), ?_⟩
      rw [arr_set 10 [0, 1, 2] [0, 1, 2, 3] 3 (by decide)]
      exact hp0 VB cs _ w5 hl h1 hb.size (hb.trans (b5.mono hb.size)) hRF
    · refine wpOp_step i8 (fun K hKK => ?_)
      rw [if_pos (by simp [Region.wanted, g8])]
      unfold Oper.wp
      rw [al, Oper.upon_value]
      have ba : Below wr.heap.size wr (wr.alloc (.cells zs.toArray ty8)) := (Below.refl _ wr).alloc (Nat.le_refl _) _
      refine hKK _ _ ⟨hb.trans (ba.mono hb.size), ?_⟩
      rw [arr_set 10 [0, 1, 2] [0, 1, 2, 7] 7 (by decide)]
      exact hF1 VB _ _ hb.size (hb.trans (ba.mono hb.size)) (Row.new wr zs ty8) (sB _ _ _ hB ba)
  -- the second argument
  have hB1 : ∀ g wr, w.heap.size ≤ g → Below w.heap.size w wr → Row wr g zs → wpAnyH P .any ops Q (fun w' => Below w.heap.size w w') 7 (arr 10 [0, 1, 7]) (((a.put o0.dst (.agg csA.toArray)).put o2.dst (.agg csB.toArray)).put o8.dst (.pointer (some ⟨g, 0, none⟩))) wr := by
    intro g wr hge hb hr
    refine wpAnyH_all re (by simp) ?_
    intro i hi
    obtain rfl : i = 2 := by simpa using hi
    refine wpOp_step i3 (fun K hKK => ?_)
    rw [if_pos (by simp [Region.wanted, g3])]
    unfold Oper.wp
    rw [enters _ o3 _ #[yB] tsB cB p3 #[.agg csB.toArray] (by simp only [List.map_toArray, List.map_cons, List.map_nil, eval_off _ fyB, eyB]) mB, Oper.upon_enter]
    refine (CB wr hb).mono ?_
    rintro e w5 ⟨VB, rfl, hS, b5⟩
    refine hKK _ _ ⟨hb.trans (b5.mono hb.size), ?_⟩
    rw [arr_set 10 [0, 1, 7] [0, 1, 2, 7] 2 (by decide), put_comm _ (Ne.symm d3)]
    exact hF1 VB g w5 hge (hb.trans (b5.mono hb.size)) (hr.below b5 hr.lt) hS
  have hB0 : ∀ wr, Below w.heap.size w wr → wpAnyH P .any ops Q (fun w' => Below w.heap.size w w') 8 (arr 10 [0, 1]) ((a.put o0.dst (.agg csA.toArray)).put o2.dst (.agg csB.toArray)) wr := by
    intro wr hb
    refine wpAnyH_all rb (by simp) ?_
    intro i hi
    rcases (by simpa using hi : i = 2 ∨ i = 7) with rfl | rfl
    · refine wpOp_step i3 (fun K hKK => ?_)
      rw [if_pos (by simp [Region.wanted, g3])]
      unfold Oper.wp
      rw [enters _ o3 _ #[yB] tsB cB p3 #[.agg csB.toArray] (by simp only [List.map_toArray, List.map_cons, List.map_nil, eyB]) mB, Oper.upon_enter]
      refine (CB wr hb).mono ?_
      rintro e w5 ⟨VB, rfl, hS, b5⟩
      refine hKK _ _ ⟨hb.trans (b5.mono hb.size), ?_⟩
      rw [arr_set 10 [0, 1] [0, 1, 2] 2 (by decide)]
      exact hF0 VB w5 (hb.trans (b5.mono hb.size)) hS
    · refine wpOp_step i8 (fun K hKK => ?_)
      rw [if_pos (by simp [Region.wanted, g8])]
      unfold Oper.wp
      rw [al, Oper.upon_value]
      have ba : Below wr.heap.size wr (wr.alloc (.cells zs.toArray ty8)) := (Below.refl _ wr).alloc (Nat.le_refl _) _
      refine hKK _ _ ⟨hb.trans (ba.mono hb.size), ?_⟩
      rw [arr_set 10 [0, 1] [0, 1, 7] 7 (by decide)]
      exact hB1 _ _ hb.size (hb.trans (ba.mono hb.size)) (Row.new wr zs ty8)
  refine wp_region_held (S := fun w' => Below w.heap.size w w') hm ?_
  rw [h11, show Array.replicate 10 false = arr 10 [] from by decide]
  have S0 : Below w.heap.size w { w with drawn := w.drawn + 1 } := (Below.refl _ w).drew
  refine wpAnyH_take i0 hns fr0.1 fr0.2 (fun _ _ _ => q _ _ _ _ _) (yieldsIf_load_mid (by simp [Region.wanted, g0]) tyA xA pA bA 0 eA csA dA (fun w' hw' => fun j v hv => by rw [Nat.zero_add]; exact (RA.below hw' RA.lt).c j hv) uA kA nA) S0 ?_
  rw [arr_set 10 [] [0] 0 (by decide)]
  refine wpAnyH_take i2 hns fr2.1 fr2.2 (fun _ _ _ => q _ _ _ _ _) (yieldsIf_load_mid (by simp [Region.wanted, g2]) tyB xB pB bB 0 eB csB dB (fun w' hw' => fun j v hv => by rw [Nat.zero_add]; exact (RB.below hw' RB.lt).c j hv) uB kB nB) S0 ?_
  rw [arr_set 10 [0] [0, 1] 1 (by decide)]
  exact hB0 _ S0

end Go.Proofs.YtlhnkdogafnnpaaGreat.Pl
