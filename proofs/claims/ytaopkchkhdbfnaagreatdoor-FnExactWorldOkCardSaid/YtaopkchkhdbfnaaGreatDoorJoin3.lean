/-
  A region that draws its order and ends a function: what is read, built and called, and put into the results' own boxes: whatever the order. At any program. No condition.
  What the end of a function wants: boxes laid, results of three parts, what stands in a box that was stored into. At any program. No condition.
  A region that draws its order, with guards, that reads, reckons and calls, and stores into nothing that was there: each operation's value is fixed ahead, or is told of by what it hangs on. At any program. No condition.
  What the walks of regions by their operations' values want besides: cells and ranges that stay, loads of a range. At any program. No condition.
  Lists of hosts in memory: sizes, laid anew, compared, and as an argument. No condition but lists of at most 2^20.
  The walk of laws.markEventS, and a list of events that comes in as an argument. No condition.
  The walks of laws.eqWriteS and laws.eqDisk: they tell whether two lists of writes or disks are the same. No condition.
  The walk of spec.DiskOk: it tells whether a disk is right. No condition but lengths that Go can hold.
  The walks of spec.l3There, spec.l3Peek and spec.Peek: what a host sees. No condition but lengths that Go can hold.
  A disk that comes in as an argument: what it is in memory. No condition.
  A world in memory: its size, laid anew, compared, and as an argument. No condition but lists of at most 2^20.
  Which hosts are right; the walk of spec.HostOk and of what it calls. No condition but texts and lists of at most 2^20.
  The walk of laws.eqLease: a lease is itself. No condition.
  The walks of impl.ReadHost, spec.ReadHost and laws.FnExactReadHost: the law answers true, and nothing that was there is changed. Condition: the table of sixteen sums and the error of a part that lacks stand in their variables.
  The walks of spec.ReadFrees and laws.FnExactReadFrees: the law answers true, and nothing that was there is changed. Condition: the table of sixteen sums and the error of a part that lacks stand in their variables.
  What a Var that is read says of the text: its bytes are the number's own, and a first byte below 128 is the number. No condition.
  A volume's text whose flag is read as more than 1 is not what is shown of it: so both sides refuse it. Condition: texts of at most 2^20 bytes.
  Plain: what a piece and outs are read as. The walks of impl's cursor's piece, and of impl.outsParts. Condition: the error of a part that lacks stands in its variable.
-/
import Derived.Test.YtaopkchkhdbfnaaGreatDoorJoin2
import Derived.Laws.ResultCell
import Derived.Test.YtaopkchkhdbfnaaGreatDoorJoin1
import Derived.RegionTactic
import Derived.BigRegion
import Derived.Deep.RegionWith
import Derived.Deep.RegionHeldLaw
import Derived.ProofKit
import Derived.OpenShut
import Derived.ShutString
import Derived.Lib.SmallJoins
import Derived.Deep.Strs
import Derived.Deep.Slices
import Derived.Carry
import Derived.Test.YtaopkchkhdbfnaaGreatDoorSecHost2
import Derived.Test.YtaopkchkhdbfnaaGreatDoorRdHost
import Derived.Test.YtaopkchkhdbfnaaGreatDoorRdFrees
import Derived.Test.YtaopkchkhdbfnaaGreatDoorRdNum
import Derived.Test.YtaopkchkhdbfnaaGreatDoorSecNum
import Derived.Test.YtaopkchkhdbfnaaGreatDoorRdVol2
import Derived.Test.YtaopkchkhdbfnaaGreatDoorAppRow
namespace Go.Proofs.YtaopkchkhdbfnaaGreatDoor.Rg
open Go.RowKit Go.Proofs.YtaopkchkhdbfnaaGreatDoor.Mem Go.Proofs.YtaopkchkhdbfnaaGreatDoor.Pl
set_option linter.unusedVariables false

section
variable (P : Program) (ops : Array Oper) (a0 : Act) (w0 : World) (rs : List Role) (S : Nat → (Nat → Value) → World → Prop)

/-- The blocks that the region stores into. Roles: 0 a value that the world ahead of the region fixes (cs = [it]), 1 a call, or a value that hangs on one's answer, 2 a store of number j's value into block i (cs = what lies there). -/
def Into (b : Nat) : Prop := ∃ (i : Nat) (r : Role), rs[i]? = some r ∧ r.k = 2 ∧ r.i = b

def Got (L : Nat → Bool) (v : Nat → Value) (w : World) (i : Nat) (r : Role) : Prop :=
  (r.k = 0 → v i = r.cs.headD undef) ∧ (r.k = 1 → S i v w) ∧ (r.k = 2 → ∃ cs, v r.j = .agg (List.toArray cs) ∧ Row w r.i cs)

/-- What an operation may count on. -/
structure Known (i : Nat) (L : Nat → Bool) (v : Nat → Value) (a : Act) (w : World) : Prop where
  slots : At ops a0 L v a
  kept : Kept (Into rs) w0 w
  up : ∀ j, reach ops ops.size i j = true → L j = true
  fix : ∀ j rj, reach ops ops.size i j = true → rs[j]? = some rj → rj.k = 0 → v j = rj.cs.headD undef
  said : ∀ j rj, reach ops ops.size i j = true → rs[j]? = some rj → rj.k = 1 → S j v w

def AsksR (i : Nat) (r : Role) : Prop :=
  ∃ o, ops[i]? = some o ∧ o.guard = none ∧
  match r.k with
  | 0 => ∀ L v a w, Known ops a0 w0 rs S i L v a w → (execOp a.eval o).run P w = .ok (.value (r.cs.headD undef)) w
  | 1 => (∀ v w w', S i v w → Kept (fun b => b < w0.heap.size) w w' → S i v w') ∧ (∀ v v', (∀ j, j = i ∨ reach ops ops.size i j = true → v j = v' j) → ∀ w', S i v w' → S i v' w') ∧
      ((∃ (c : FuncId) (ys : Array Operand) (ts : Array TypeId) (av : (Nat → Value) → Array Value), o.op = .call { callee := .value (.func c), args := ys, argTypes := ts } ∧ (∀ vs w, (callFunc c vs).run P w = .ok (.enter c vs) w) ∧
        (∀ L v a w, Known ops a0 w0 rs S i L v a w → ys.map a.eval = av v) ∧
        ∀ v w, Kept (Into rs) w0 w → (∀ j rj, reach ops ops.size i j = true → rs[j]? = some rj → (rj.k = 0 → v j = rj.cs.headD undef) ∧ (rj.k = 1 → S j v w)) → Calls P c (av v) w fun e w' => ∃ V, e = .returned V ∧ S i (updv v i V) w' ∧ Below w.heap.size w w') ∨
      ∀ L v a w, Known ops a0 w0 rs S i L v a w → ∃ x, (execOp a.eval o).run P w = .ok (.value x) w ∧ S i (updv v i x) w)
  | 2 => ∃ ty x y, o.op = .store ty x (.tmp y) ∧ a0.eval x = .pointer (some ⟨r.i, 0, none⟩) ∧ offAll ops x = true ∧ Row w0 r.i r.cs ∧ (P.info? ty).map (·.size) = some r.cs.length ∧
      dstOf ops r.j = some y ∧ reach ops ops.size i r.j = true ∧ (∀ m rm, rs[m]? = some rm → rm.k = 2 → m ≠ i → rm.i ≠ r.i) ∧
      ∃ rj, rs[r.j]? = some rj ∧ ((rj.k = 0 ∧ ∃ cs, rj.cs.headD undef = .agg (List.toArray cs) ∧ cs.length = r.cs.length ∧ cs.all (·.oneCell') = true) ∨
        (rj.k = 1 ∧ ∀ v w, S r.j v w → ∃ cs, v r.j = .agg (List.toArray cs) ∧ cs.length = r.cs.length ∧ cs.all (·.oneCell') = true))
  | _ => False

def AsksRAll : Nat → List Role → Prop
  | _, [] => True
  | i, r :: l => AsksR P ops a0 w0 rs S i r ∧ AsksRAll (i + 1) l

theorem AsksRAll.at {P : Program} {ops : Array Oper} {a0 : Act} {w0 : World} {rs : List Role} {S : Nat → (Nat → Value) → World → Prop} :
    ∀ (l : List Role) (k : Nat), AsksRAll P ops a0 w0 rs S k l → ∀ j r, l[j]? = some r → AsksR P ops a0 w0 rs S (k + j) r
  | [], _, _, j, r, h => by simp at h
  | x :: l, k, h, 0, r, e => by
    simp only [List.getElem?_cons_zero, Option.some.injEq] at e
    subst e
    exact h.1
  | x :: l, k, h, j + 1, r, e => by
    have := AsksRAll.at l (k + 1) h.2 j r (by simpa using e)
    rwa [show k + 1 + j = k + (j + 1) by omega] at this
end

section
variable {P : Program} {ops : Array Oper} {a0 : Act} {w0 : World} {rs : List Role} {S : Nat → (Nat → Value) → World → Prop}

theorem Known.got {i : Nat} {L : Nat → Bool} {v : Nat → Value} {a : Act} {w : World} (h : Known ops a0 w0 rs S i L v a w) (j : Nat) {t : Tmp} {rj : Role} (hr : reach ops ops.size i j = true) (hd : dstOf ops j = some t) (hrj : rs[j]? = some rj) (h0 : rj.k = 0) :
    a.eval (.tmp t) = rj.cs.headD undef := (h.slots.eval_got j (h.up j hr) hd).trans (h.fix j rj hr hrj h0)
theorem Known.off {i : Nat} {L : Nat → Bool} {v : Nat → Value} {a : Act} {w : World} (h : Known ops a0 w0 rs S i L v a w) {x : Operand} (hx : offAll ops x = true) : a.eval x = a0.eval x := h.slots.eval_off hx

theorem got0 {L : Nat → Bool} {v : Nat → Value} {w : World} {i : Nat} {r : Role} (e : r.k = 0) (h : v i = r.cs.headD undef) : Got S L v w i r := ⟨fun _ => h, fun q => by omega, fun q => by omega⟩
theorem got1 {L : Nat → Bool} {v : Nat → Value} {w : World} {i : Nat} {r : Role} (e : r.k = 1) (h : S i v w) : Got S L v w i r := ⟨fun q => by omega, fun _ => h, fun q => by omega⟩
theorem got2 {L : Nat → Bool} {v : Nat → Value} {w : World} {i : Nat} {r : Role} (e : r.k = 2) (h : ∃ cs, v r.j = .agg (List.toArray cs) ∧ Row w r.i cs) : Got S L v w i r := ⟨fun q => by omega, fun q => by omega, fun _ => h⟩

/-- THE LAW: whatever the order, at the end each operation has what its role says. -/
theorem region_ret {Q : Exit → Act → World → Prop} {id : Nat} (dr : Bool) (hm : P.follows .mixedOrders = true) (hf : fits ops a0.tmps.size = true) (hn : ops.size = rs.length)
    (hAll : AsksRAll P ops a0 w0 rs S 0 rs) (ds : List (Option Tmp)) (hds : (List.range ops.size).map (dstOf ops) = ds)
    (hend : ∀ L v w, (∀ i, i < rs.length → L i = true) → Kept (Into rs) w0 w → (∀ i r, rs[i]? = some r → Got S L v w i r) → Q .normal (putsAll a0 ds v 0) w) : (Code.region id ops dr).wp P Q a0 w0 := by
  have hA : ∀ i r, rs[i]? = some r → AsksR P ops a0 w0 rs S i r := fun i r h => by
    have := AsksRAll.at rs 0 hAll i r h
    rwa [Nat.zero_add] at this
  have hInto : ∀ b, Into rs b → b < w0.heap.size := fun b hb => by
    obtain ⟨i, r, hr, hk, rfl⟩ := hb
    obtain ⟨o, _, _, hm'⟩ := hA i r hr
    rw [hk] at hm'
    obtain ⟨ty, x, y, _, _, _, hrow, _⟩ := hm'
    exact hrow.lt
  refine rg_both dr hm hf ds hds (fun L v w => Kept (Into rs) w0 w ∧ (∀ k rk, rs[k]? = some rk → L k = true → Got S L v w k rk) ∧ ∀ k rk, rs[k]? = some rk → rk.k = 2 → L k = false → Row w rk.i rk.cs) ?_ ?_ ?_ ?_
  · refine ⟨Kept.of_below (Below.refl _ w0).drew, fun k rk _ h => (by cases h), fun k rk hr hk _ => ?_⟩
    obtain ⟨o, _, _, hm'⟩ := hA k rk hr
    rw [hk] at hm'
    obtain ⟨ty, x, y, _, _, _, hrow, _⟩ := hm'
    exact hrow.below ((Below.refl _ w0).drew) hrow.lt
  · refine ⟨Kept.refl _ _, fun k rk _ h => (by cases h), fun k rk hr hk _ => ?_⟩
    obtain ⟨o, _, _, hm'⟩ := hA k rk hr
    rw [hk] at hm'
    obtain ⟨ty, x, y, _, _, _, hrow, _⟩ := hm'
    exact hrow
  · rintro i o ho L v a w hAt ⟨hB, hI, hZ⟩ hC hLi hw
    have hlt : i < ops.size := (Array.getElem?_eq_some_iff.1 ho).1
    obtain ⟨r, hri⟩ : ∃ r, rs[i]? = some r := ⟨_, List.getElem?_eq_getElem (by omega)⟩
    have hqi := hA i r hri
    have lsi : ∀ j, reach ops ops.size i j = true → L j = true := fun j hj => reach_listed hC ops.size i j o ho hw hj
    have kn : Known ops a0 w0 rs S i L v a w := ⟨hAt, hB, lsi, fun j rj hj hrj h0 => (hI j rj hrj (lsi j hj)).1 h0, fun j rj hj hrj h0 => (hI j rj hrj (lsi j hj)).2.1 h0⟩
    -- the others stay
    have whl : ∀ (u : Value) (w' : World) (T : Nat → Prop), Kept T w w' → (∀ b, T b → r.k = 2 ∧ b = r.i) → Got S (upd L i) (updv v i u) w' i r →
        ∃ u', a.put o.dst u = a.put o.dst u' ∧ (Kept (Into rs) w0 w' ∧ (∀ k rk, rs[k]? = some rk → upd L i k = true → Got S (upd L i) (updv v i u') w' k rk) ∧ ∀ k rk, rs[k]? = some rk → rk.k = 2 → upd L i k = false → Row w' rk.i rk.cs) := by
      intro u w' T hk hT hnew
      have hapart : ∀ k rk, rs[k]? = some rk → rk.k = 2 → k ≠ i → ¬ T rk.i := fun k rk hrk hk2 hki hTb => by
        obtain ⟨e2, eb⟩ := hT _ hTb
        obtain ⟨o', ho', hg, hm'⟩ := hA i r hri
        rw [e2] at hm'
        obtain ⟨ty, x, y, _, _, _, _, _, _, _, hne, _⟩ := hm'
        exact hne k rk hrk hk2 hki eb
      refine ⟨u, rfl, ?_, fun k rk hrk hLk => ?_, fun k rk hrk hk2 hLk => ?_⟩
      · refine (hB.trans hk).mono (fun b _ h => ?_)
        rcases h with h | h
        · exact h
        · obtain ⟨e2, eb⟩ := hT b h
          exact ⟨i, r, hri, e2, eb.symm⟩
      · by_cases hki : k = i
        · subst hki
          rw [hri] at hrk
          cases hrk
          exact hnew
        rw [upd_ne L hki] at hLk
        obtain ⟨q0, q1, q2⟩ := hI k rk hrk hLk
        refine ⟨fun e => ?_, fun e => ?_, fun e => ?_⟩
        · rw [updv_ne v u hki]; exact q0 e
        · obtain ⟨o', ho', hg, hm'⟩ := hA k rk hrk
          rw [e] at hm'
          obtain ⟨hst, hcg, _⟩ := hm'
          refine hcg v _ (fun j hj => ?_) _ (hst _ _ _ (q1 e) (hk.mono (fun b _ hb => ?_)))
          · have hji : j ≠ i := by
              rcases hj with hj | hj
              · rw [hj]; exact hki
              · intro e2
                have := reach_listed hC ops.size k j o' ho' (hC k o' ho' hLk) hj
                rw [e2, hLi] at this
                cases this
            rw [updv_ne v u hji]
          obtain ⟨e2, eb⟩ := hT b hb
          exact hInto b ⟨i, r, hri, e2, eb.symm⟩
        · obtain ⟨cs, c1, c2⟩ := q2 e
          obtain ⟨o', ho', hg, hm'⟩ := hA k rk hrk
          rw [e] at hm'
          obtain ⟨ty, x, y, _, _, _, _, _, _, hr, _, _⟩ := hm'
          have hne : rk.j ≠ i := fun e2 => by
            have := reach_listed hC ops.size k rk.j o' ho' (hC k o' ho' hLk) hr
            rw [e2, hLi] at this
            cases this
          exact ⟨cs, by rw [updv_ne v u hne]; exact c1, c2.kept hk (hapart k rk hrk e hki)⟩
      · have hki : k ≠ i := fun e => by rw [e, upd_same] at hLk; cases hLk
        rw [upd_ne L hki] at hLk
        exact (hZ k rk hrk hk2 hLk).kept hk (hapart k rk hrk hk2 hki)
    obtain ⟨o', ho', hg, hm'⟩ := hqi
    rw [ho] at ho'
    cases ho'
    obtain ⟨k, ri, rj, rcs⟩ := r
    match k, hm', hri, whl with
    | 0, hm', hri, whl =>
      exact wpOp_value ho hg (hm' L v a w kn) (whl _ _ (fun _ => False) (Kept.refl _ _) (fun _ h => h.elim) (got0 rfl (updv_same v i _)))
    | 1, hm', hri, whl =>
      obtain ⟨hst, hcg, ⟨c, ys, ts, av, hop, hc, hav, hcon⟩ | hval⟩ := hm'
      · refine wpOp_call ho hg (enters a o w ys ts c hop (av v) (hav L v a w kn) hc) ?_
        refine (hcon v w hB (fun j rj hj hrj => ⟨fun e => (hI j rj hrj (lsi j hj)).1 e, fun e => (hI j rj hrj (lsi j hj)).2.1 e⟩)).mono ?_
        rintro e w' ⟨V, rfl, hS, hb⟩
        exact ⟨V, rfl, whl V w' (fun _ => False) (Kept.of_below hb) (fun _ h => h.elim) (got1 rfl hS)⟩
      · obtain ⟨x, hx, hS⟩ := hval L v a w kn
        exact wpOp_value ho hg hx (whl x _ (fun _ => False) (Kept.refl _ _) (fun _ h => h.elim) (got1 rfl hS))
    | 2, hm', hri, whl =>
      obtain ⟨ty, x, y, hop, hx, hoff, _, hsz, hd, hr, hne, rj', hrj, hwhich⟩ := hm'
      have hrow : Row w ri rcs := hZ i _ hri rfl hLi
      obtain ⟨cs, hcs, hl, h1⟩ : ∃ cs, v rj = .agg (List.toArray cs) ∧ cs.length = rcs.length ∧ cs.all (·.oneCell') = true := by
        rcases hwhich with ⟨e0, cs, c1, c2, c3⟩ | ⟨e1, hw1⟩
        · exact ⟨cs, ((hI rj rj' hrj (lsi rj hr)).1 e0).trans c1, c2, c3⟩
        · exact hw1 _ _ ((hI rj rj' hrj (lsi rj hr)).2.1 e1)
      have hne2 : rj ≠ i := fun e => by have := lsi rj hr; rw [e, hLi] at this; cases this
      refine wpOp_plain ho hg fun K hK => ?_
      refine wp_store_mid ty x (.tmp y) hop ri 0 cs.toArray ((hAt.eval_off hoff).trans hx) ((hAt.eval_got rj (lsi rj hr) hd).trans hcs) (fun j hj => ?_) (by rw [hsz]; simp [hl]) (all_oneCell_toArray (fun u hu => List.all_eq_true.1 h1 u hu)) ?_
      · have hj' : j < rcs.length := by rw [← hl]; simpa using hj
        rw [Nat.zero_add]
        exact ⟨by rw [hrow.c j (List.getElem?_eq_getElem hj')]; rfl, hrow.f j⟩
      rw [List.toList_toArray, ← puts_setCells]
      have hrow' := puts_row hrow 0 cs
      rw [listed_all cs rcs 0 (by omega)] at hrow'
      refine hK _ _ (whl undef _ (fun b => b = ri) (puts_kept w ri 0 cs) (fun b hb => ⟨rfl, hb⟩) (got2 rfl ⟨cs, ?_, hrow'⟩))
      rw [updv_ne v _ hne2]; exact hcs
    | k + 3, hm', hri, whl => exact hm'.elim
  · rintro L v w hL ⟨hB, hI, _⟩
    exact hend L v w (fun i hi => hL i (by omega)) hB (fun i r hr => hI i r hr (hL i (by have := (List.getElem?_eq_some_iff.1 hr).1; omega)))

end

end Go.Proofs.YtaopkchkhdbfnaaGreatDoor.Rg

namespace Go.Proofs.YtaopkchkhdbfnaaGreatDoor.Rg
open Go.RowKit Go.Proofs.YtaopkchkhdbfnaaGreatDoor.Mem Go.Proofs.YtaopkchkhdbfnaaGreatDoor.Pl
set_option linter.unusedVariables false

theorem four_y (w : World) (xs ys zs us : List Value) (t u v x : TypeId) :
    ∃ wc, (((w.alloc (.cells xs.toArray t)).alloc (.cells ys.toArray u)).alloc (.cells zs.toArray v)).alloc (.cells us.toArray x) = wc ∧ wc.heap.size = w.heap.size + 1 + 1 + 1 + 1 ∧
      Row wc w.heap.size xs ∧ Row wc (w.heap.size + 1) ys ∧ Row wc (w.heap.size + 1 + 1) zs ∧ Row wc (w.heap.size + 1 + 1 + 1) us ∧ Below w.heap.size w wc := by
  obtain ⟨wb, hb, e, r0, r1, r2, b⟩ : ∃ wb, ((w.alloc (.cells xs.toArray t)).alloc (.cells ys.toArray u)).alloc (.cells zs.toArray v) = wb ∧ wb.heap.size = w.heap.size + 1 + 1 + 1 ∧ Row wb w.heap.size xs ∧ Row wb (w.heap.size + 1) ys ∧ Row wb (w.heap.size + 1 + 1) zs ∧ Below w.heap.size w wb := by
    have e0 : (w.alloc (.cells xs.toArray t)).heap.size = w.heap.size + 1 := by simp
    have e1 : ((w.alloc (.cells xs.toArray t)).alloc (.cells ys.toArray u)).heap.size = w.heap.size + 1 + 1 := by simp
    have r1 := Row.new (w.alloc (.cells xs.toArray t)) ys u
    have r2 := Row.new ((w.alloc (.cells xs.toArray t)).alloc (.cells ys.toArray u)) zs v
    rw [e0] at r1
    rw [e1] at r2
    exact ⟨_, rfl, by simp, ((Row.new w xs t).alloc _).alloc _, r1.alloc _, r2, (((Below.refl _ _).alloc (Nat.le_refl _) _).alloc (by omega) _).alloc (by omega) _⟩
  rw [hb]
  have r3 := Row.new wb us x
  rw [e] at r3
  exact ⟨_, rfl, by simp [e], r0.alloc _, r1.alloc _, r2.alloc _, r3, b.alloc (by omega) _⟩

theorem results_cct {P : Program} {fn : Func} {p q u : Tmp} {ty tz : TypeId} (h : fn.results = #[.cell p ty, .cell q tz, .tmp u]) (tmps : Array Value) (w : World) (g k : Nat) (xs ys : List Value) (d e : TypeDesc)
    (hp : tmps.getD p undef = .pointer (some ⟨g, 0, none⟩)) (hr : Row w g xs) (hu : P.underlying ty = some d) (hd : (match d with | .struct _ | .array _ _ => true | _ => false) = true) (hi : (P.info? ty).map (·.size) = some xs.length)
    (hq : tmps.getD q undef = .pointer (some ⟨k, 0, none⟩)) (hs : Row w k ys) (hv : P.underlying tz = some e) (he : (match e with | .struct _ | .array _ _ => true | _ => false) = true) (hj : (P.info? tz).map (·.size) = some ys.length) :
    (results fn tmps).run P w = .ok (.tuple #[.agg xs.toArray, .agg ys.toArray, tmps.getD u undef]) w := by
  obtain ⟨t, hb⟩ := hr
  obtain ⟨t', hb'⟩ := hs
  have hl := run_loadVar_row (P := P) w g t ty xs.toArray (0, 0) d hb hu hd (by simpa using hi)
  have hl' := run_loadVar_row (P := P) w k t' tz ys.toArray (0, 0) e hb' hv he (by simpa using hj)
  rw [Array.getD_eq_getD_getElem?] at hp hq
  simp only [results, h]
  simp [Sem.run_bind, Result.andThen, hp, hq, asAddr, hl, hl']

theorem agg_inj {a b : List Value} (h : Value.agg a.toArray = .agg b.toArray) : a = b := by
  injection h with h1
  exact List.toArray_inj h1

theorem into_of {rs : List Role} {b : Nat} {l : List Nat} (h : Into rs b) (e : (rs.filterMap fun r => if r.k = 2 then some r.i else none) = l) : b ∈ l := by
  obtain ⟨i, r, hr, hk, rfl⟩ := h
  rw [← e]
  exact List.mem_filterMap.2 ⟨r, List.mem_of_getElem? hr, by rw [if_pos hk]⟩

theorem run_load_row {P : Program} {ρ : Operand → Value} {o : Oper} {w : World} (ty : TypeId) (x : Operand) (p : o.op = .load ty x) (b : Nat) (e : ρ x = .pointer (some ⟨b, 0, none⟩)) (cs : List Value) (d : TypeDesc) (hr : Row w b cs)
    (hu : P.underlying ty = some d) (hd : d.isRow = true) (hi : (P.info? ty).map (·.size) = some cs.length) : (execOp ρ o).run P w = .ok (.value (.agg cs.toArray)) w := by
  unfold execOp
  simp only [p, e, Instr.loadAt, Instr.sureAddr, Sem.run_bind, Sem.run_pure, Result.andThen_ok, run_loadVar_mid w b 0 ty cs d (fun j v hv => by rw [Nat.zero_add]; exact hr.c j hv) hu hd hi]

/-- What lies in a box behind the store of a fixed row. -/
theorem stored {S : Nat → (Nat → Value) → World → Prop} {rs : List Role} {L : Nat → Bool} {v : Nat → Value} {w : World} (hG : ∀ i r, rs[i]? = some r → Got S L v w i r) (k j b : Nat) {zs cs : List Value} {rj : Role} (h : rs[k]? = some ⟨2, b, j, zs⟩) (hj : rs[j]? = some rj) (h0 : rj.k = 0) (e : rj.cs.headD undef = .agg cs.toArray) : Row w b cs := by
  obtain ⟨ds, c1, c2⟩ := (hG k _ h).2.2 rfl
  have := ((hG j _ hj).1 h0).trans e
  have h1 : v j = .agg ds.toArray := c1
  rw [this] at h1
  rw [agg_inj h1]
  exact c2

/-- The stores of a region: their numbers and the blocks that they go into. -/
def storesOf (rs : List Role) : List (Nat × Nat) := rs.zipIdx.filterMap fun x => if x.1.k = 2 then some (x.2, x.1.i) else none

theorem in_stores {rs : List Role} {m : Nat} {r : Role} (h : rs[m]? = some r) (hk : r.k = 2) : (m, r.i) ∈ storesOf rs := by
  unfold storesOf
  refine List.mem_filterMap.2 ⟨(r, m), ?_, by simp [hk]⟩
  rw [List.mem_zipIdx_iff_getElem?]
  simpa using h

section
variable {P : Program} {ops : Array Oper} {a0 : Act} {w0 : World} {rs : List Role} {S : Nat → (Nat → Value) → World → Prop}

theorem rNil (i : Nat) : AsksRAll P ops a0 w0 rs S i [] := trivial
theorem rCons {i : Nat} {r : Role} {l : List Role} (h : AsksR P ops a0 w0 rs S i r) (t : AsksRAll P ops a0 w0 rs S (i + 1) l) : AsksRAll P ops a0 w0 rs S i (r :: l) := ⟨h, t⟩

/-- A fixed value. -/
theorem rFix {i a b : Nat} {x : Value} {o : Oper} (ho : ops[i]? = some o) (hg : o.guard = none) (h : ∀ L v a w, Known ops a0 w0 rs S i L v a w → (execOp a.eval o).run P w = .ok (.value x) w) : AsksR P ops a0 w0 rs S i ⟨0, a, b, [x]⟩ :=
  ⟨o, ho, hg, h⟩

/-- A struct that is loaded whole, out of a block that is not stored into. -/
theorem rLoad {i a' b' b : Nat} {cs : List Value} {o : Oper} (ho : ops[i]? = some o) (hg : o.guard = none) (ty : TypeId) (x : Operand) (p : o.op = .load ty x) (hx : a0.eval x = .pointer (some ⟨b, 0, none⟩)) (hoff : offAll ops x = true) (d : TypeDesc) (hr : Row w0 b cs) (hb : ¬ Into rs b)
    (hu : P.underlying ty = some d) (hd : d.isRow = true) (hi : (P.info? ty).map (·.size) = some cs.length) : AsksR P ops a0 w0 rs S i ⟨0, a', b', [.agg cs.toArray]⟩ :=
  rFix ho hg fun L v a w K => run_load_row ty x p b ((K.off hoff).trans hx) cs d (hr.kept K.kept hb) hu hd hi

/-- A call. -/
theorem rCall {i a' b' : Nat} {xs : List Value} {o : Oper} (ho : ops[i]? = some o) (hg : o.guard = none) (c : FuncId) (ys : Array Operand) (ts : Array TypeId) (av : (Nat → Value) → Array Value) (p : o.op = .call { callee := .value (.func c), args := ys, argTypes := ts }) (hc : ∀ vs w, (callFunc c vs).run P w = .ok (.enter c vs) w)
    (hav : ∀ L v a w, Known ops a0 w0 rs S i L v a w → ys.map a.eval = av v) (hst : ∀ v w w', S i v w → Kept (fun b => b < w0.heap.size) w w' → S i v w')
    (hcg : ∀ v v', (∀ j, j = i ∨ reach ops ops.size i j = true → v j = v' j) → ∀ w', S i v w' → S i v' w')
    (hcon : ∀ v w, Kept (Into rs) w0 w → (∀ j rj, reach ops ops.size i j = true → rs[j]? = some rj → (rj.k = 0 → v j = rj.cs.headD undef) ∧ (rj.k = 1 → S j v w)) → Calls P c (av v) w fun e w' => ∃ V, e = .returned V ∧ S i (updv v i V) w' ∧ Below w.heap.size w w') : AsksR P ops a0 w0 rs S i ⟨1, a', b', xs⟩ :=
  ⟨o, ho, hg, hst, hcg, .inl ⟨c, ys, ts, av, p, hc, hav, hcon⟩⟩

/-- A value that hangs on what a call has answered. -/
theorem rVal {i a' b' : Nat} {xs : List Value} {o : Oper} (ho : ops[i]? = some o) (hg : o.guard = none) (hst : ∀ v w w', S i v w → Kept (fun b => b < w0.heap.size) w w' → S i v w')
    (hcg : ∀ v v', (∀ j, j = i ∨ reach ops ops.size i j = true → v j = v' j) → ∀ w', S i v w' → S i v' w')
    (h : ∀ L v a w, Known ops a0 w0 rs S i L v a w → ∃ x, (execOp a.eval o).run P w = .ok (.value x) w ∧ S i (updv v i x) w) : AsksR P ops a0 w0 rs S i ⟨1, a', b', xs⟩ :=
  ⟨o, ho, hg, hst, hcg, .inr h⟩

/-- A store of a fixed struct. -/
theorem rStore {i j b : Nat} {zs cs : List Value} {o : Oper} (ho : ops[i]? = some o) (hg : o.guard = none) (ty : TypeId) (x : Operand) (y : Tmp) (p : o.op = .store ty x (.tmp y)) (hx : a0.eval x = .pointer (some ⟨b, 0, none⟩)) (hoff : offAll ops x = true) (hr : Row w0 b zs) (hi : (P.info? ty).map (·.size) = some zs.length)
    (hd : dstOf ops j = some y) (hre : reach ops ops.size i j = true) (hap : ∀ m b', (m, b') ∈ storesOf rs → m ≠ i → b' ≠ b) {rj : Role} (hj : rs[j]? = some rj) (h0 : rj.k = 0) (hv : rj.cs.headD undef = .agg cs.toArray) (hl : cs.length = zs.length) (h1 : cs.all (·.oneCell') = true) : AsksR P ops a0 w0 rs S i ⟨2, b, j, zs⟩ :=
  ⟨o, ho, hg, ty, x, y, p, hx, hoff, hr, hi, hd, hre, fun m rm hm hk hne => hap m rm.i (in_stores hm hk) hne, rj, hj, .inl ⟨h0, cs, hv, hl, h1⟩⟩

/-- A store of what a call has answered. -/
theorem rStoreC {i j b : Nat} {zs : List Value} {o : Oper} (ho : ops[i]? = some o) (hg : o.guard = none) (ty : TypeId) (x : Operand) (y : Tmp) (p : o.op = .store ty x (.tmp y)) (hx : a0.eval x = .pointer (some ⟨b, 0, none⟩)) (hoff : offAll ops x = true) (hr : Row w0 b zs) (hi : (P.info? ty).map (·.size) = some zs.length)
    (hd : dstOf ops j = some y) (hre : reach ops ops.size i j = true) (hap : ∀ m b', (m, b') ∈ storesOf rs → m ≠ i → b' ≠ b) {rj : Role} (hj : rs[j]? = some rj) (h0 : rj.k = 1) (hv : ∀ v w, S j v w → ∃ cs, v j = .agg (List.toArray cs) ∧ cs.length = zs.length ∧ cs.all (·.oneCell') = true) : AsksR P ops a0 w0 rs S i ⟨2, b, j, zs⟩ :=
  ⟨o, ho, hg, ty, x, y, p, hx, hoff, hr, hi, hd, hre, fun m rm hm hk hne => hap m rm.i (in_stores hm hk) hne, rj, hj, .inr ⟨h0, hv⟩⟩
end

end Go.Proofs.YtaopkchkhdbfnaaGreatDoor.Rg

namespace Go.Proofs.YtaopkchkhdbfnaaGreatDoor.Rg
open Go.RowKit Go.Proofs.YtaopkchkhdbfnaaGreatDoor.Mem Go.Proofs.YtaopkchkhdbfnaaGreatDoor.Pl
set_option linter.unusedVariables false

/-- What an operation waits for, nearest. -/
def near (ops : Array Oper) (i j : Nat) : Bool := match ops[i]? with
  | some o => o.after.toList.any fun e => Region.binds .any e && e.on == j
  | none => false

theorem near_up {ops : Array Oper} {i j : Nat} {o : Oper} {L : Nat → Bool} (ho : ops[i]? = some o) (hw : waits o L = true) (h : near ops i j = true) : L j = true := by
  unfold near at h
  rw [ho] at h
  obtain ⟨e, he', hb⟩ := List.any_eq_true.1 h
  have he := Array.mem_toList_iff.1 he'
  rw [Bool.and_eq_true] at hb
  unfold waits at hw
  have h1 := Array.all_eq_true_iff_forall_mem.1 hw e he
  rw [hb.1] at h1
  have h2 : e.on = j := by simpa using hb.2
  rw [← h2]
  simpa using h1

/-- A value against a guard. -/
def isB : Value → Bool → Bool
  | .bool c, b => c == b
  | _, _ => false

section
variable (P : Program) (ops : Array Oper) (a0 : Act) (w0 : World) (val : Nat → Value) (sp : Nat → Option (Value → World → Prop))

/-- What is said of an operation's value. -/
def GG (i : Nat) (v : Nat → Value) (w : World) : Prop := match sp i with
  | none => v i = val i
  | some p => p (v i) w

structure KnG (i : Nat) (L : Nat → Bool) (v : Nat → Value) (a : Act) (w : World) : Prop where
  slots : At ops a0 L v a
  bel : Below w0.heap.size w0 w
  up : ∀ j, near ops i j = true → L j = true
  said : ∀ j, near ops i j = true → GG val sp j v w

/-- Is an operation carried out. -/
def WIs (c : Bool) (i : Nat) (o : Oper) : Prop := (o.guard = none ∧ c = true) ∨ ∃ j b t, o.guard = some (j, b) ∧ near ops i j = true ∧ dstOf ops j = some t ∧ sp j = none ∧ isB (val j) b = c

def StepG (Q : Exit → Act → World → Prop) (i : Nat) : Prop := ∀ o, ops[i]? = some o → ∀ L v a w, KnG ops a0 w0 val sp i L v a w → wpOp P ops Q i (fun a' w' => ∃ u, a' = a.put o.dst u ∧ Below w.heap.size w w' ∧ GG val sp i (updv v i u) w') a w
end

section
variable {P : Program} {ops : Array Oper} {a0 : Act} {w0 : World} {val : Nat → Value} {sp : Nat → Option (Value → World → Prop)} {Q : Exit → Act → World → Prop}

theorem KnG.at_val {i : Nat} {L : Nat → Bool} {v : Nat → Value} {a : Act} {w : World} (K : KnG ops a0 w0 val sp i L v a w) (j : Nat) {t : Tmp} (hn : near ops i j = true) (hd : dstOf ops j = some t) (hs : sp j = none) : a.eval (.tmp t) = val j := by
  have h := K.said j hn
  unfold GG at h
  rw [hs] at h
  exact (K.slots.eval_got j (K.up j hn) hd).trans h
theorem KnG.off {i : Nat} {L : Nat → Bool} {v : Nat → Value} {a : Act} {w : World} (K : KnG ops a0 w0 val sp i L v a w) {x : Operand} (hx : offAll ops x = true) : a.eval x = a0.eval x := K.slots.eval_off hx

theorem wanted_is {c : Bool} {i : Nat} {o : Oper} {L : Nat → Bool} {v : Nat → Value} {a : Act} {w : World} (h : WIs ops val sp c i o) (K : KnG ops a0 w0 val sp i L v a w) : Region.wanted o (yielded ops a.tmps) = c := by
  rcases h with ⟨hg, rfl⟩ | ⟨j, b, t, hg, hn, hd, hs, hb⟩
  · simp [Region.wanted, hg]
  · have hv : v j = val j := by
      have h := K.said j hn
      unfold GG at h
      rwa [hs] at h
    have hgot := K.slots.got j t (K.up j hn) hd
    have hy : yielded ops a.tmps j = (match v j with | .bool c => some c | _ => none) := by
      unfold yielded
      have e : ((ops[j]?).bind (·.dst)) = some t := hd
      rw [e]
      simp only [Option.bind_some]
      rw [hgot]
      cases v j <;> rfl
    unfold Region.wanted
    rw [hg]
    show (yielded ops a.tmps j == some b) = c
    rw [hy, hv, ← hb]
    cases val j <;> rfl

theorem gVal {i : Nat} {o : Oper} (ho : ops[i]? = some o) (hw : WIs ops val sp true i o) (hs : sp i = none) (h : ∀ L v a w, KnG ops a0 w0 val sp i L v a w → (execOp a.eval o).run P w = .ok (.value (val i)) w) : StepG P ops a0 w0 val sp Q i := by
  intro o' ho' L v a w K
  rw [ho] at ho'
  cases ho'
  refine wpOp_step ho (fun K' hK => ?_)
  rw [if_pos (wanted_is hw K)]
  unfold Oper.wp
  rw [h L v a w K, Oper.upon_value]
  exact hK _ _ ⟨_, rfl, Below.refl _ _, by unfold GG; rw [hs]; exact updv_same v i _⟩

theorem gSkip {i : Nat} {o : Oper} (ho : ops[i]? = some o) (hw : WIs ops val sp false i o) (hs : sp i = none) (hv : val i = undef) : StepG P ops a0 w0 val sp Q i := by
  intro o' ho' L v a w K
  rw [ho] at ho'
  cases ho'
  refine wpOp_step ho (fun K' hK => ?_)
  rw [if_neg (by rw [wanted_is hw K]; decide)]
  exact hK _ _ ⟨_, rfl, Below.refl _ _, by unfold GG; rw [hs, hv]; exact updv_same v i _⟩

theorem gCall {i : Nat} {o : Oper} (ho : ops[i]? = some o) (hw : WIs ops val sp true i o) (c : FuncId) (ys : Array Operand) (ts : Array TypeId) (av : (Nat → Value) → Array Value) (p : o.op = .call { callee := .value (.func c), args := ys, argTypes := ts }) (hc : ∀ vs w, (callFunc c vs).run P w = .ok (.enter c vs) w)
    (hav : ∀ L v a w, KnG ops a0 w0 val sp i L v a w → ys.map a.eval = av v)
    (hcon : ∀ v w, Below w0.heap.size w0 w → (∀ j, near ops i j = true → GG val sp j v w) → Calls P c (av v) w fun e w' => ∃ V, e = .returned V ∧ Below w.heap.size w w' ∧ (match sp i with | none => V = val i | some p => p V w')) : StepG P ops a0 w0 val sp Q i := by
  intro o' ho' L v a w K
  rw [ho] at ho'
  cases ho'
  refine wpOp_step ho (fun K' hK => ?_)
  rw [if_pos (wanted_is hw K)]
  unfold Oper.wp
  rw [enters a o w ys ts c p (av v) (hav L v a w K) hc, Oper.upon_enter]
  refine (hcon v w K.bel K.said).mono ?_
  rintro e w' ⟨V, rfl, hb, hp⟩
  refine hK _ _ ⟨_, rfl, hb, ?_⟩
  unfold GG
  cases hs : sp i with
  | none => rw [hs] at hp; exact (updv_same v i _).trans hp
  | some q => rw [hs] at hp; show q (updv v i V i) w'; rw [updv_same]; exact hp

def AllG (P : Program) (ops : Array Oper) (a0 : Act) (w0 : World) (val : Nat → Value) (sp : Nat → Option (Value → World → Prop)) (Q : Exit → Act → World → Prop) : Nat → Nat → Prop
  | _, 0 => True
  | k, n + 1 => StepG P ops a0 w0 val sp Q k ∧ AllG P ops a0 w0 val sp Q (k + 1) n

theorem AllG.at : ∀ (n k : Nat), AllG P ops a0 w0 val sp Q k n → ∀ i, k ≤ i → i < k + n → StepG P ops a0 w0 val sp Q i
  | 0, k, _, i, h1, h2 => by omega
  | n + 1, k, h, i, h1, h2 => by
    by_cases e : i = k
    · subst e; exact h.1
    · exact AllG.at n (k + 1) h.2 i (by omega) (by omega)

/-- THE LAW. -/
theorem region_grow {id : Nat} (dr : Bool) (hm : P.follows .mixedOrders = true) (hf : fits ops a0.tmps.size = true) (ds : List (Option Tmp)) (hds : (List.range ops.size).map (dstOf ops) = ds)
    (hst : ∀ i p, sp i = some p → ∀ x w w', p x w → Below w.heap.size w w' → p x w')
    (hall : AllG P ops a0 w0 val sp Q 0 ops.size)
    (hend : ∀ v w, Below w0.heap.size w0 w → (∀ i, i < ops.size → GG val sp i v w) → Q .normal (putsAll a0 ds v 0) w) : (Code.region id ops dr).wp P Q a0 w0 := by
  have hop : ∀ i, i < ops.size → StepG P ops a0 w0 val sp Q i := fun i hi => AllG.at ops.size 0 hall i (Nat.zero_le _) (by omega)
  refine rg_both dr hm hf ds hds (fun L v w => Below w0.heap.size w0 w ∧ ∀ k, k < ops.size → L k = true → GG val sp k v w) ⟨(Below.refl _ _).drew, fun k _ h => (by cases h)⟩ ⟨Below.refl _ _, fun k _ h => (by cases h)⟩ ?_ ?_
  · rintro i o ho L v a w hAt ⟨hB, hI⟩ hC hLi hw
    have hlt : i < ops.size := (Array.getElem?_eq_some_iff.1 ho).1
    have hup : ∀ j, near ops i j = true → L j = true := fun j hj => near_up ho hw hj
    have hsz : ∀ j, near ops i j = true → j < ops.size := fun j hj => by
      unfold near at hj
      rw [ho] at hj
      obtain ⟨e, he', hb⟩ := List.any_eq_true.1 hj
      have he := Array.mem_toList_iff.1 he'
      rw [Bool.and_eq_true] at hb
      have := fits_after hf ho he hb.1
      have h2 : e.on = j := by simpa using hb.2
      omega
    refine wpOp_mono ?_ (hop i hlt o ho L v a w ⟨hAt, hB, hup, fun j hj => hI j (hsz j hj) (hup j hj)⟩)
    rintro a' w' ⟨u, rfl, hb, hG⟩
    refine ⟨u, rfl, hB.trans (hb.mono hB.size), fun k hk hLk => ?_⟩
    by_cases hki : k = i
    · subst hki; exact hG
    · rw [upd_ne L hki] at hLk
      have h := hI k hk hLk
      unfold GG at h ⊢
      cases hs : sp k with
      | none => rw [hs] at h; show updv v i u k = val k; rw [updv_ne v u hki]; exact h
      | some q => rw [hs] at h; show q (updv v i u k) w'; rw [updv_ne v u hki]; exact hst k q hs _ _ _ h hb
  · rintro L v w hL ⟨hB, hI⟩
    exact hend v w hB (fun i hi => hI i hi (hL i hi))

end

end Go.Proofs.YtaopkchkhdbfnaaGreatDoor.Rg

namespace Go.Proofs.YtaopkchkhdbfnaaGreatDoor.Rg
open Go.RowKit Go.Proofs.YtaopkchkhdbfnaaGreatDoor.Mem Go.Proofs.YtaopkchkhdbfnaaGreatDoor.Pl
set_option linter.unusedVariables false

theorem cell_later {w w' : World} {p : Addr} {v : Value} (h : w.cell? p = some v) (k : Below w.heap.size w w') : w'.cell? p = some v := by
  have hb := World.block_lt_of_cell? w _ h
  rw [cell_block (p := p) (k.block p.block hb)]
  exact h

theorem run_load_at {P : Program} {ρ : Operand → Value} {o : Oper} {w : World} (ty : TypeId) (x : Operand) (p : o.op = .load ty x) (b off : Nat) (e : ρ x = .pointer (some ⟨b, off, none⟩)) (cs : List Value) (hr : w.rangeAt b off cs) (d : TypeDesc)
    (hu : P.underlying ty = some d) (hd : d.isRow = true) (hi : (P.info? ty).map (·.size) = some cs.length) : (execOp ρ o).run P w = .ok (.value (.agg cs.toArray)) w := by
  unfold execOp
  simp only [p, e, Instr.loadAt, Instr.sureAddr, Sem.run_bind, Sem.run_pure, Result.andThen_ok, run_loadVar_mid w b off ty cs d hr hu hd hi]

theorem range_of_row {w : World} {b : Nat} {cs : List Value} (h : Row w b cs) : w.rangeAt b 0 cs := fun j v hv => by rw [Nat.zero_add]; exact h.c j hv

end Go.Proofs.YtaopkchkhdbfnaaGreatDoor.Rg

namespace Go.Proofs.YtaopkchkhdbfnaaGreatDoor.Pl
open Go.RowKit Go.ChangeShapes Go.WideShapes Go.ChangeAt Go.Joins Go.Deep
open Go.Proofs.YtaopkchkhdbfnaaGreatDoor.Mem Go.Proofs.YtaopkchkhdbfnaaGreatDoor.Sec Go.Proofs.YtaopkchkhdbfnaaGreatDoor.Rg
set_option linter.unusedVariables false

/-- A host and where its outs lie. -/
structure Hx where
  H : Ho
  p : Option Addr
  c : Nat

def Ho.none : Ho := ⟨0, 0, false, false, false, 0, 0, 0, 0, ByteArray.empty, 0, 0, 0, ByteArray.empty, [], 0⟩
def Hx.none : Hx := ⟨Ho.none, Option.none, 0⟩
def Hx.cells (x : Hx) : List Value := [.int .i64 x.H.id, .int .i64 x.H.ep, .bool x.H.up, .bool x.H.rd, .bool x.H.bz, .int .i64 x.H.k, .int .i64 x.H.v, .int .i64 x.H.t, .int .i64 x.H.a, .string x.H.s, .int .i64 x.H.pc, .int .i64 x.H.cd, .int .i64 x.H.bk, .string x.H.tx, .slice x.p x.H.l.length x.c, .int .i64 x.H.txn]

theorem Hx.val (x : Hx) : Value.agg x.cells.toArray = hoV x.H x.p x.c := rfl

theorem hx_len (x : Hx) : x.cells.length = 16 := rfl
def hcell (L : List Hx) (i : Nat) : Value := (L.getD (i / 16) Hx.none).cells.getD (i % 16) undef
/-- A list of hosts, to be read. -/
def Hos (w : World) (a : Option Addr) (L : List Hx) : Prop := Sl w a (L.length * 16) (hcell L) ∧ ∀ x ∈ L, Ous w x.p x.H.l
/-- The same in blocks from B on, which may be written. -/
def HosW (w : World) (B : Nat) (a : Option Addr) (L : List Hx) : Prop := Wr w B a (L.length * 16) (hcell L) ∧ ∀ x ∈ L, OusW w B x.p x.H.l

theorem HosW.read {w : World} {B : Nat} {a : Option Addr} {L : List Hx} (h : HosW w B a L) : Hos w a L := ⟨h.1.sl, fun x hx => Wr.sl (h.2 x hx)⟩
theorem HosW.mono {w : World} {B B' : Nat} {a : Option Addr} {L : List Hx} (h : HosW w B a L) (hb : B' ≤ B) : HosW w B' a L := ⟨h.1.mono hb, fun x hx => Wr.mono (h.2 x hx) hb⟩
theorem Hos.below {w w' : World} {a : Option Addr} {L : List Hx} (h : Hos w a L) (b : Below w.heap.size w w') : Hos w' a L := ⟨h.1.below b, fun x hx => Sl.below (h.2 x hx) b⟩

/-- What lies from B on stays where only what lies ahead of it turns. -/
theorem Wr.over {w w' : World} {B : Nat} {a : Option Addr} {m : Nat} {f : Nat → Value} (h : Wr w B a m f) (k : Kept (fun b => b < B) w w') : Wr w' B a m f := h.move k (fun b hb => by have := h.foot_ge hb; omega)
theorem HosW.over {w w' : World} {B : Nat} {a : Option Addr} {L : List Hx} (h : HosW w B a L) (k : Kept (fun b => b < B) w w') : HosW w' B a L := ⟨Wr.over h.1 k, fun x hx => Wr.over (h.2 x hx) k⟩

theorem hcell_at (L : List Hx) (k j : Nat) (hj : j < 16) : hcell L (k * 16 + j) = (L.getD k Hx.none).cells.getD j undef := by
  unfold hcell
  rw [show (k * 16 + j) / 16 = k by omega, show (k * 16 + j) % 16 = j by omega]

/-- Host k, as a range of cells. -/
theorem Hos.range {w : World} {a : Option Addr} {L : List Hx} (h : Hos w a L) (k : Nat) (hk : k < L.length) : ∃ b off, a = some ⟨b, off, Option.none⟩ ∧ w.rangeAt b (off + k * 16) (L.getD k Hx.none).cells ∧ Ous w (L.getD k Hx.none).p (L.getD k Hx.none).H.l := by
  obtain ⟨b, off, rfl, _⟩ := h.1 (k * 16 + 0) (by omega)
  refine ⟨b, off, rfl, fun j v hv => ?_, h.2 _ (by simp [List.getD, hk])⟩
  have hj : j < 16 := by
    have := (List.getElem?_eq_some_iff.1 hv).1
    rwa [hx_len] at this
  obtain ⟨b1, off1, e1, h1⟩ := h.1 (k * 16 + j) (by omega)
  cases e1
  have e2 : (L.getD k Hx.none).cells.getD j undef = v := by rw [List.getD, hv]; rfl
  rw [hcell_at L k j hj, e2] at h1
  rw [Nat.add_assoc]
  exact h1

/-- What is left: a number below 0, or one not above what was, and all fits. -/
def FitH (r left : Int) (L : List Hx) : Prop := r < 0 ∨ (0 ≤ r ∧ r ≤ left ∧ (L.length : Int) ≤ left ∧ ∀ x ∈ L, x.H.Upto 1048576)

set_option maxRecDepth 100000 in
set_option maxHeartbeats 2000000 in
theorem szHostS (w : World) (a : Option Addr) (cap : Nat) (L : List Hx) (left : Int) (S : Hos w a L) (hl : L.length ≤ maxLen) (hs : ∀ x ∈ L, x.H.Upto maxLen) (h0 : 0 ≤ left) (h1 : left ≤ 1048576) :
    Calls Tryz.prog 24 #[.slice a L.length cap, .int .i64 left] w fun e w' => ∃ r, e = .returned (.int .i64 r) ∧ Below w.heap.size w w' ∧ FitH r left L := by
  unfold maxLen at hl
  have HS := hid S
  have Hs := hid hs
  clear S hs
  by_cases hb : left < (L.length : Int)
  · go_enter Tryz.func24, Tryz.ntmps24
    go_wp2
    go_ret
    exact ⟨_, rfl, Below.refl _ _, Or.inl (by decide)⟩
  go_enter Tryz.func24, Tryz.ntmps24
  go_wp2
  go_loopw [1, 5] (fun z i wr => ∃ (k : Nat) (m : Int), k ≤ L.length ∧ i = .int .i64 (k : Int) ∧ z = .int .i64 m ∧ 0 ≤ m ∧ m ≤ left ∧ Hid (∀ j, j < k → (L.getD j Hx.none).H.Upto 1048576) ∧ Hid (Below w.heap.size w wr)) (fun _ i _ => L.length - (intOf i).toNat)
  case atStart => exact ⟨0, left - L.length, Nat.zero_le _, rfl, rfl, by omega, by omega, fun j hj => by omega, Below.refl _ _⟩
  case round =>
    obtain ⟨k, m, hk, rfl, rfl, hm0, hm1, HJ, HB⟩ := hrel
    by_cases hlt : k < L.length
    · obtain ⟨b, off, rfl, hrg, hou⟩ := (HS.out.below HB.out).range k hlt
      have hx : (L.getD k Hx.none).H.Upto maxLen := Hs.out _ (by simp [List.getD, hlt])
      have HC := hid (szHost wr (L.getD k Hx.none).H (L.getD k Hx.none).p (L.getD k Hx.none).c m hou hx hm0 (by omega))
      rw [← Hx.val] at HC
      have HCl := hid (hx_len (L.getD k Hx.none))
      generalize (L.getD k Hx.none).cells = C at hrg HC HCl
      have HRG := hid hrg
      clear hx hou hrg
      go_upto_region 7 with fail
      apply wp_region_lit
      iterate 9 go_step
      refine wpList_load_mid rfl 140 _ rfl b (off + k * 16) rfl C _ HRG.out Tryz.underlying140 rfl (by rw [HCl.out]; kernel_rfl) ?_
      simp only [Act.put, List.setIfInBounds_toArray, List.set_cons_zero, List.set_cons_succ]
      generalize Value.agg C.toArray = V at HC ⊢
      go_wp2_with fail
      refine HC.out.mono ?_
      rintro e w1 ⟨r, rfl, b1, hf⟩
      have HB1 := hid (HB.out.trans (b1.mono HB.out.size))
      have HF := hid hf
      clear b1 hf HC
      by_cases hr : r < 0
      · go_wp2
        go_ret
        exact ⟨_, rfl, HB1.out, Or.inl (by decide)⟩
      · have hf : 0 ≤ r ∧ r ≤ m ∧ (L.getD k Hx.none).H.Upto 1048576 := by
          rcases HF.out with h | h
          · omega
          · exact h
        have hf1 := hf.1
        have hf2 := hf.2.1
        have HF2 := hid hf.2.2
        clear hf HF
        go_wp2
        exact ⟨⟨k + 1, r, by omega, by go_num, rfl, hf1, by omega, fun j hj => by
          by_cases h : j = k
          · subst h; exact HF2.out
          · exact HJ.out j (by omega), HB1⟩, by simp [intOf]; omega⟩
    · obtain rfl : k = L.length := by omega
      go_wp2
      go_ret
      refine ⟨_, rfl, HB.out, Or.inr ⟨hm0, hm1, by omega, fun x hx => ?_⟩⟩
      obtain ⟨j, hj, rfl⟩ := List.getElem_of_mem hx
      have := HJ.out j hj
      rwa [List.getD, List.getElem?_eq_getElem hj] at this

theorem infoHo : (Tryz.prog.info? 63).map (fun i => (i.zero, i.size, i.bytes)) = some (some (.agg Hx.none.cells.toArray), 16, 144) := by kernel_rfl

/-- What stands in the new row behind so many rounds. -/
def partH (L : List Hx) (i : Nat) : Value := if i < L.length * 16 then hcell L i else Hx.none.cells.getD (i % 16) undef

theorem partH_succ (L : List Hx) (y : Hx) (j : Nat) : (if L.length * 16 ≤ j ∧ j < L.length * 16 + y.cells.length then y.cells.getD (j - L.length * 16) undef else partH L j) = partH (L ++ [y]) j := by
  rw [hx_len]
  unfold partH
  by_cases h : L.length * 16 ≤ j ∧ j < L.length * 16 + 16
  · rw [if_pos h, if_pos (by simp; omega)]
    obtain ⟨i, rfl⟩ : ∃ i, j = L.length * 16 + i := ⟨j - L.length * 16, by omega⟩
    rw [hcell_at _ _ i (by omega), Nat.add_sub_cancel_left]
    simp [List.getD]
  · by_cases h2 : j < L.length * 16
    · rw [if_neg h, if_pos h2, if_pos (by simp; omega)]
      unfold hcell
      have : (L ++ [y]).getD (j / 16) Hx.none = L.getD (j / 16) Hx.none := by
        rw [List.getD, List.getD, List.getElem?_append_left (by omega)]
      rw [this]
    · rw [if_neg h, if_neg h2, if_neg (by simp; omega)]

set_option maxRecDepth 100000 in
set_option maxHeartbeats 2000000 in
theorem toHostS (w : World) (a : Option Addr) (cap : Nat) (L : List Hx) (S : Hos w a L) (hl : L.length ≤ 1048576) (hs : ∀ x ∈ L, x.H.l.length ≤ 1048576) :
    Calls Tryz.prog 35 #[.slice a L.length cap] w fun e w' => ∃ g L', e = .returned (.slice (some ⟨g, 0, Option.none⟩) (L' : List Hx).length L'.length) ∧ L'.map (·.H) = L.map (·.H) ∧ w.heap.size ≤ g ∧ g < w'.heap.size ∧ HosW w' w.heap.size (some ⟨g, 0, Option.none⟩) L' ∧ Below w.heap.size w w' := by
  have hmk := make_rows (P := Tryz.prog) 37 63 (.agg Hx.none.cells.toArray) 16 144 Tryz.underlying37 infoHo .i64 .i64 L.length (by omega) (by omega)
  have HS := hid S
  have Hs := hid hs
  have hw0 := wr_new w (madeCells (Value.agg Hx.none.cells.toArray).cells (L.length * 16)) 63 (L.length * 16) (partH []) (fun i hi => by
    simp [madeCells, hi, partH, Hx.none, Ho.none, Hx.cells, Value.cells]
    have : i % 16 = 0 ∨ i % 16 = 1 ∨ i % 16 = 2 ∨ i % 16 = 3 ∨ i % 16 = 4 ∨ i % 16 = 5 ∨ i % 16 = 6 ∨ i % 16 = 7 ∨ i % 16 = 8 ∨ i % 16 = 9 ∨ i % 16 = 10 ∨ i % 16 = 11 ∨ i % 16 = 12 ∨ i % 16 = 13 ∨ i % 16 = 14 ∨ i % 16 = 15 := by omega
    rcases this with h | h | h | h | h | h | h | h | h | h | h | h | h | h | h | h <;> simp [h])
  generalize madeCells (Value.agg Hx.none.cells.toArray).cells (L.length * 16) = cur at hmk hw0
  have HW := hid hw0
  clear S hs hw0
  go_enter Tryz.func35, Tryz.ntmps35
  go_wp2
  go_loopw [4] (fun i wr => ∃ (k : Nat) (L' : List Hx), k ≤ L.length ∧ i = .int .i64 (k : Int) ∧ w.heap.size < wr.heap.size ∧ Hid (L'.length = k) ∧ Hid (L'.map (·.H) = (L.take k).map (·.H)) ∧ Hid (Wr wr w.heap.size (some ⟨w.heap.size, 0, Option.none⟩) (L.length * 16) (partH L')) ∧ Hid (∀ x ∈ L', OusW wr (w.heap.size + 1) x.p x.H.l) ∧ Hid (Below w.heap.size w wr)) (fun i _ => L.length - (intOf i).toNat)
  case atStart => exact ⟨0, [], Nat.zero_le _, rfl, lt_alloc _ _, rfl, rfl, HW, (by intro x hx; cases hx), (Below.refl _ _).alloc (Nat.le_refl _) _⟩
  case round =>
    obtain ⟨k, L', hk, rfl, hsz, HL, HM, HW', HO, HB⟩ := hrel
    by_cases hlt : k < L.length
    · obtain ⟨b, off, rfl, hrg, hou⟩ := (HS.out.below HB.out).range k hlt
      have hx : (L.getD k Hx.none).H.l.length ≤ 1048576 := Hs.out _ (by simp [List.getD, hlt])
      have HC := hid (toHost wr (L.getD k Hx.none).H (L.getD k Hx.none).p (L.getD k Hx.none).c hou hx)
      rw [← Hx.val] at HC
      have HT : Hid ((L.take (k + 1)).map (·.H) = (L.take k).map (·.H) ++ [(L.getD k Hx.none).H]) := by
        show _ = _
        rw [List.take_add_one, List.map_append, List.getElem?_eq_getElem hlt]
        simp [List.getD, List.getElem?_eq_getElem hlt]
      have HCl := hid (hx_len (L.getD k Hx.none))
      generalize (L.getD k Hx.none).cells = C at hrg HC HCl
      generalize (L.getD k Hx.none).H = J at HC HT
      have HRG := hid hrg
      clear hx hou hrg
      go_upto_region 5 with fail
      apply wp_region_lit
      iterate 15 go_step
      refine wpList_load_mid rfl 140 _ rfl b (off + k * 16) rfl C _ HRG.out Tryz.underlying140 rfl (by rw [HCl.out]; kernel_rfl) ?_
      simp only [Act.put, List.setIfInBounds_toArray, List.set_cons_zero, List.set_cons_succ]
      generalize Value.agg C.toArray = V at HC ⊢
      go_wp2_with fail
      refine HC.out.mono ?_
      rintro e w1 ⟨g, rfl, hg, hg1, S1, hb1⟩
      have HW1 := hid (HW'.out.below hb1)
      have HB1 := hid (HB.out.trans (hb1.mono (Nat.le_of_lt hsz)))
      have hsz1 : w.heap.size < w1.heap.size := Nat.lt_of_lt_of_le hsz hb1.size
      have HO1 : Hid (∀ x ∈ L' ++ [(⟨J, some ⟨g, 0, Option.none⟩, J.l.length⟩ : Hx)], OusW w1 (w.heap.size + 1) x.p x.H.l) := fun x hx => by
        rcases List.mem_append.1 hx with h | h
        · exact Wr.below (HO.out x h) hb1
        · rw [List.mem_singleton] at h
          subst h
          exact Wr.mono S1 (by omega)
      clear hb1 HC S1 hg hg1
      have hcell' : ∀ j, j < 16 → (w1.cell? ⟨w.heap.size, k * 16 + j, Option.none⟩).isSome ∧ w1.frozen? ⟨w.heap.size, k * 16 + j, Option.none⟩ = false := fun j hj => by
        obtain ⟨b', off', e', _, hc', hz'⟩ := HW1.out (k * 16 + j) (by omega)
        cases e'
        rw [Nat.zero_add] at hc' hz'
        exact ⟨by rw [hc']; rfl, hz'⟩
      obtain ⟨y, hy, hyH⟩ : ∃ y : Hx, y = ⟨J, some ⟨g, 0, Option.none⟩, J.l.length⟩ ∧ y.H = J := ⟨_, rfl, rfl⟩
      have hyV : hoV J (some ⟨g, 0, Option.none⟩) J.l.length = .agg y.cells.toArray := by rw [Hx.val, hy]
      rw [← hy] at HO1
      dsimp only
      rw [hyV]
      clear hyV hy
      iterate 4 go_step
      refine wpList_store_mid rfl 63 _ _ rfl w.heap.size (k * 16) y.cells.toArray rfl rfl (fun j hj => hcell' j (by simpa [Hx.cells] using hj)) (by kernel_rfl) (all_oneCell_toArray (fun v hv => List.all_eq_true.1 (show y.cells.all (·.oneCell') = true from rfl) v hv)) ?_
      clear hcell'
      obtain ⟨w2, hw2, HW2, HB2, hsz2, HO2⟩ : ∃ w2, w1.setCells w.heap.size (k * 16) y.cells.toArray.toList = w2 ∧ Hid (Wr w2 w.heap.size (some ⟨w.heap.size, 0, Option.none⟩) (L.length * 16) (partH (L' ++ [y]))) ∧ Hid (Below w.heap.size w w2) ∧ w.heap.size < w2.heap.size ∧ Hid (∀ x ∈ L' ++ [y], OusW w2 (w.heap.size + 1) x.p x.H.l) := by
        refine ⟨puts w1 w.heap.size (k * 16) y.cells, (puts_setCells _ _ _ _).symm, ?_, puts_below HB1.out (Nat.le_refl _) _ _, by rw [puts_size]; exact hsz1, fun x hx => Wr.over (HO1.out x hx) ((puts_kept _ _ _ _).mono (fun b _ h => by omega))⟩
        have h2 := wr_puts y.cells w1 _ 0 (k * 16) HW1.out (by rw [hx_len]; omega)
        rw [Nat.zero_add] at h2
        exact h2.congr (fun j _ => by rw [← partH_succ, HL.out])
      rw [hw2]
      clear hw2
      generalize Value.agg y.cells.toArray = V2
      go_wp2
      refine ⟨⟨k + 1, L' ++ [y], by omega, by go_num, hsz2, ?_, ?_, HW2, HO2, HB2⟩, by simp [intOf]; omega⟩
      · show (L' ++ [y]).length = k + 1
        have := HL.out
        simp; omega
      · show (L' ++ [y]).map (·.H) = _
        rw [HT.out, ← HM.out, List.map_append]
        simp [hyH]
    · obtain rfl : k = L.length := by omega
      have hle := HL.out
      go_wp2
      go_ret
      refine ⟨w.heap.size, L', by rw [HL.out]; rfl, by rw [HM.out, List.take_of_length_le (Nat.le_refl _)], Nat.le_refl _, hsz, ⟨?_, fun x hx => Wr.mono (HO.out x hx) (by omega)⟩, HB.out⟩
      rw [HL.out]
      exact HW'.out.congr (fun i hi => by unfold partH; rw [if_pos (by rw [HL.out]; exact hi)])

theorem call_eqHost (vs : Array Value) (w : World) : (callFunc 108 vs).run Tryz.prog w = .ok (.enter 108 vs) w := by simp [go_sem]

set_option maxRecDepth 100000 in
set_option maxHeartbeats 2000000 in
theorem eqHostS (w : World) (a b : Option Addr) (ca cb : Nat) (L M : List Hx) (S : Hos w a L) (T : Hos w b M) (hm : L.map (·.H) = M.map (·.H)) (hl : L.length ≤ maxLen) (hs : ∀ x ∈ L, x.H.l.length ≤ maxLen) :
    Calls Tryz.prog 46 #[.slice a L.length ca, .slice b M.length cb] w fun e w' => e = .returned (.bool true) ∧ Below w.heap.size w w' := by
  unfold maxLen at hl
  have HS := hid S
  have HT := hid T
  have Hs := hid hs
  have HM := hid hm
  have hlm : M.length = L.length := by have := congrArg List.length hm; simpa using this.symm
  clear S T hs hm
  rw [hlm]
  go_enter Tryz.func46, Tryz.ntmps46
  go_wp2
  go_loopw [5] (fun i wr => ∃ k : Nat, k ≤ L.length ∧ i = .int .i64 (k : Int) ∧ Hid (Below w.heap.size w wr)) (fun i _ => L.length - (intOf i).toNat)
  case atStart => exact ⟨0, Nat.zero_le _, rfl, Below.refl _ _⟩
  case round =>
    obtain ⟨k, hk, rfl, HB⟩ := hrel
    by_cases hlt : k < L.length
    · obtain ⟨b1, o1, rfl, r1, u1⟩ := (HS.out.below HB.out).range k hlt
      obtain ⟨b2, o2, rfl, r2, u2⟩ := (HT.out.below HB.out).range k (by omega)
      have hx : (L.getD k Hx.none).H.l.length ≤ maxLen := Hs.out _ (by simp [List.getD, hlt])
      have he : (M.getD k Hx.none).H = (L.getD k Hx.none).H := by
        have h1 := congrArg (fun l => l[k]?) HM.out
        have hlt2 : k < M.length := by omega
        simp [hlt, hlt2] at h1
        simp [List.getD, hlt, hlt2, h1]
      have HC := hid (fun (u : World) (hu : Below wr.heap.size wr u) => eqHost u (L.getD k Hx.none).H (L.getD k Hx.none).p (M.getD k Hx.none).p (L.getD k Hx.none).c (M.getD k Hx.none).c (Sl.below u1 hu) (Sl.below (he ▸ u2) hu) hx)
      rw [show hoV (L.getD k Hx.none).H (M.getD k Hx.none).p (M.getD k Hx.none).c = .agg (M.getD k Hx.none).cells.toArray by rw [Hx.val, he], ← Hx.val] at HC
      have HL1 := hid (hx_len (L.getD k Hx.none))
      have HL2 := hid (hx_len (M.getD k Hx.none))
      generalize (L.getD k Hx.none).cells = C1 at r1 HC HL1
      generalize (M.getD k Hx.none).cells = C2 at r2 HC HL2
      have HR1 := hid r1
      have HR2 := hid r2
      clear r1 r2 u1 u2 he hx
      go_upto_region 6 with fail
      refine region_grow (val := fun i => [.slice (some ⟨b1, o1, Option.none⟩) L.length ca, .int .i64 (k : Int), .pointer (some ⟨b1, o1 + k * 16, Option.none⟩), .agg (List.toArray C1), .slice (some ⟨b2, o2, Option.none⟩) L.length cb, .int .i64 (k : Int), .pointer (some ⟨b2, o2 + k * 16, Option.none⟩), .agg (List.toArray C2), .bool true, .bool false].getD i undef) (sp := fun _ => Option.none) true (by kernel_rfl) (by kernel_rfl) [some 17, some 18, some 19, some 20, some 21, some 22, some 23, some 24, some 25, some 26] (by kernel_rfl) (fun _ _ h => by cases h) ?_ (fun v w hb hG => ?_)
      · refine ⟨gVal rfl (.inl ⟨rfl, rfl⟩) rfl (fun Lb v act wr K => by
          have e1 : act.eval (.tmp 0) = .slice (some ⟨b1, o1, Option.none⟩) L.length ca := (K.off (x := .tmp 0) (by kernel_rfl)).trans rfl
          exact run_move _ rfl e1), ?_⟩
        refine ⟨gVal rfl (.inl ⟨rfl, rfl⟩) rfl (fun Lb v act wr K => by
          have e1 : act.eval (.tmp 5) = .int .i64 (k : Int) := (K.off (x := .tmp 5) (by kernel_rfl)).trans rfl
          exact run_move _ rfl e1), ?_⟩
        refine ⟨gVal rfl (.inl ⟨rfl, rfl⟩) rfl (fun Lb v act wr K => by
          have e1 : act.eval (.tmp 17) = .slice (some ⟨b1, o1, Option.none⟩) L.length ca := K.at_val 0 (by kernel_rfl) (by kernel_rfl) rfl
          have e2 : act.eval (.tmp 18) = .int .i64 (k : Int) := K.at_val 1 (by kernel_rfl) (by kernel_rfl) rfl
          show (execOp act.eval _).run Tryz.prog wr = .ok (.value (.pointer (some ⟨b1, o1 + k * 16, Option.none⟩))) wr
          generalize act.eval = ρ at e1 e2 ⊢
          unfold execOp
          simp [go_sem, e1, e2, hlt]), ?_⟩
        refine ⟨gVal rfl (.inl ⟨rfl, rfl⟩) rfl (fun Lb v act wr K => run_load_at 63 (.tmp 19) rfl _ _ ((K.at_val 2 (by kernel_rfl) (by kernel_rfl) rfl)) _ (rangeAt_below HR1.out K.bel) _ Tryz.underlying63 rfl (by rw [HL1.out]; kernel_rfl)), ?_⟩
        refine ⟨gVal rfl (.inl ⟨rfl, rfl⟩) rfl (fun Lb v act wr K => by
          have e1 : act.eval (.tmp 1) = .slice (some ⟨b2, o2, Option.none⟩) L.length cb := (K.off (x := .tmp 1) (by kernel_rfl)).trans rfl
          exact run_move _ rfl e1), ?_⟩
        refine ⟨gVal rfl (.inl ⟨rfl, rfl⟩) rfl (fun Lb v act wr K => by
          have e1 : act.eval (.tmp 5) = .int .i64 (k : Int) := (K.off (x := .tmp 5) (by kernel_rfl)).trans rfl
          exact run_move _ rfl e1), ?_⟩
        refine ⟨gVal rfl (.inl ⟨rfl, rfl⟩) rfl (fun Lb v act wr K => by
          have e1 : act.eval (.tmp 21) = .slice (some ⟨b2, o2, Option.none⟩) L.length cb := K.at_val 4 (by kernel_rfl) (by kernel_rfl) rfl
          have e2 : act.eval (.tmp 22) = .int .i64 (k : Int) := K.at_val 5 (by kernel_rfl) (by kernel_rfl) rfl
          show (execOp act.eval _).run Tryz.prog wr = .ok (.value (.pointer (some ⟨b2, o2 + k * 16, Option.none⟩))) wr
          generalize act.eval = ρ at e1 e2 ⊢
          unfold execOp
          simp [go_sem, e1, e2, hlt]), ?_⟩
        refine ⟨gVal rfl (.inl ⟨rfl, rfl⟩) rfl (fun Lb v act wr K => run_load_at 63 (.tmp 23) rfl _ _ ((K.at_val 6 (by kernel_rfl) (by kernel_rfl) rfl)) _ (rangeAt_below HR2.out K.bel) _ Tryz.underlying63 rfl (by rw [HL2.out]; kernel_rfl)), ?_⟩
        refine ⟨gCall rfl (.inl ⟨rfl, rfl⟩) 108 #[.tmp 20, .tmp 24] _ (fun _ => #[.agg (List.toArray C1), .agg (List.toArray C2)]) rfl call_eqHost (fun Lb v act wr K => by
          have e1 : act.eval (.tmp 20) = .agg (List.toArray C1) := K.at_val 3 (by kernel_rfl) (by kernel_rfl) rfl
          have e2 : act.eval (.tmp 24) = .agg (List.toArray C2) := K.at_val 7 (by kernel_rfl) (by kernel_rfl) rfl
          simp only [List.map_toArray, List.map_cons, List.map_nil, e1, e2]) (fun v w hb hs => (HC.out w hb).mono (fun e w' ⟨h1, h2⟩ => ⟨_, h1, h2, rfl⟩)), ?_⟩
        refine ⟨gVal rfl (.inl ⟨rfl, rfl⟩) rfl (fun Lb v act wr K => by
          have e1 : act.eval (.tmp 25) = .bool true := K.at_val 8 (by kernel_rfl) (by kernel_rfl) rfl
          show (execOp act.eval _).run Tryz.prog wr = .ok (.value (.bool false)) wr
          generalize act.eval = ρ at e1 ⊢
          unfold execOp
          simp [go_sem, e1]), ?_⟩
        exact trivial
      have e9 : v 9 = .bool false := hG 9 (by show 9 < 10; decide)
      have HU := hid (HB.out.trans (hb.mono HB.out.size))
      clear hG hb
      simp only [Rg.putsAll, Act.put, List.setIfInBounds_toArray, List.set_cons_zero, List.set_cons_succ, e9]
      clear e9
      go_wp2
      exact ⟨⟨k + 1, by omega, by go_num, HU⟩, by simp [intOf]; omega⟩
    · obtain rfl : k = L.length := by omega
      go_wp2
      go_ret
      exact ⟨rfl, HB.out⟩

section
variable {H : Type} {enc : TypeId × Value → H} {W : World} {base : Nat} {spare : Nat → Bool} {held : Bool}

set_option maxRecDepth 100000 in
theorem hx_cells_in {fuel : Nat} {cs : List Value} {x : DataW H × List MemPlace} (h : DataW.trod enc Tryz.prog W base spare held fuel 140 cs = some x) :
    ∃ y : Hx, cs = y.cells ∧ Ous W y.p y.H.l ∧ y.H.Upto maxLen := by
  have c16 : Tryz.prog.cellsOf 140 = 16 := by kernel_rfl
  have cO : Tryz.prog.cellsOf 135 = 5 := by kernel_rfl
  have cP : Tryz.prog.cellsOf 138 = 4 := by kernel_rfl
  have cB : Tryz.prog.cellsOf 4 = 1 := by kernel_rfl
  obtain ⟨xs, n, _, rfl, hl, hlen, hf⟩ := DataW.trod_struct Tryz.underlying140 h
  rw [c16] at hl
  match xs, hlen, cs, hl with
  | [y0, y1, y2, y3, y4, y5, y6, y7, y8], _, [v0, v1, v2, v3, v4, v5, v6, v7, v8, v9, v10, v11, v12, v13, v14, v15], _ =>
    have f0 : DataW.trod enc Tryz.prog W base spare held n 3 [v0] = some y0 := by simpa [cInt, Value.cells] using hf 0 _ rfl
    have f1 : DataW.trod enc Tryz.prog W base spare held n 3 [v1] = some y1 := by simpa [cInt, Value.cells] using hf 1 _ rfl
    have f2 : DataW.trod enc Tryz.prog W base spare held n 4 [v2] = some y2 := by simpa [cInt, cB, Value.cells] using hf 2 _ rfl
    have f3 : DataW.trod enc Tryz.prog W base spare held n 4 [v3] = some y3 := by simpa [cInt, cB, Value.cells] using hf 3 _ rfl
    have f4 : DataW.trod enc Tryz.prog W base spare held n 4 [v4] = some y4 := by simpa [cInt, cB, Value.cells] using hf 4 _ rfl
    have f5 : DataW.trod enc Tryz.prog W base spare held n 135 [v5, v6, v7, v8, v9] = some y5 := by simpa [cInt, cB, cO, Value.cells] using hf 5 _ rfl
    have f6 : DataW.trod enc Tryz.prog W base spare held n 3 [v10] = some y6 := by simpa [cInt, cB, cO, Value.cells] using hf 6 _ rfl
    have f7 : DataW.trod enc Tryz.prog W base spare held n 138 [v11, v12, v13, v14] = some y7 := by simpa [cInt, cB, cO, cP, Value.cells] using hf 7 _ rfl
    have f8 : DataW.trod enc Tryz.prog W base spare held n 3 [v15] = some y8 := by simpa [cInt, cB, cO, cP, Value.cells] using hf 8 _ rfl
    obtain ⟨n0, e0, _, _⟩ := DataW.trod_int Tryz.underlying3 f0
    obtain ⟨n1, e1, _, _⟩ := DataW.trod_int Tryz.underlying3 f1
    obtain ⟨b2, e2, _⟩ := DataW.trod_bool Tryz.underlying4 f2
    obtain ⟨b3, e3, _⟩ := DataW.trod_bool Tryz.underlying4 f3
    obtain ⟨b4, e4, _⟩ := DataW.trod_bool Tryz.underlying4 f4
    obtain ⟨k, v, t, at_, s, e5, hs⟩ := op_in f5
    obtain ⟨n6, e6, _, _⟩ := DataW.trod_int Tryz.underlying3 f6
    obtain ⟨cd, bk, tx, a, cap, l, e7, S, ht, hm, he⟩ := plan_in f7
    obtain ⟨n8, e8, _, _⟩ := DataW.trod_int Tryz.underlying3 f8
    simp only [List.cons.injEq, and_true] at e0 e1 e2 e3 e4 e5 e6 e7 e8
    obtain ⟨rfl, rfl, rfl, rfl, rfl⟩ := e5
    obtain ⟨rfl, rfl, rfl, rfl⟩ := e7
    subst e0; subst e1; subst e2; subst e3; subst e4; subst e6; subst e8
    exact ⟨⟨⟨n0, n1, b2, b3, b4, k, v, t, at_, s, n6, cd, bk, tx, l, n8⟩, a, cap⟩, rfl, S, ⟨hs, ht, hm, he⟩⟩

set_option maxRecDepth 100000 in
/-- Hosts that came in. -/
theorem hos_in {fuel : Nat} {v : Value} {x : DataW H × List MemPlace} (h : DataW.trod enc Tryz.prog W base spare held fuel 27 [v] = some x) :
    ∃ a cap L, v = .slice a (L : List Hx).length cap ∧ Hos W a L ∧ L.length ≤ maxLen ∧ ∀ y ∈ L, y.H.Upto maxLen := by
  have c2 : Tryz.prog.cellsOf 140 = 16 := by kernel_rfl
  rcases open_slice Tryz.underlying27 h with ⟨hcs, _⟩ | ⟨a, len, cap, m, n, D, Pl, hcs, _, hl, hm, hmm, _, hx⟩
  · simp only [List.cons.injEq, and_true] at hcs
    exact ⟨Option.none, 0, [], hcs, ⟨fun i hi => by simp at hi, by simp⟩, by simp, by simp⟩
  · simp only [List.cons.injEq, and_true] at hcs
    have hlm : len ≤ m := by rw [hmm]; split <;> omega
    have each : ∀ i, ∃ y : Hx, i < len → W.cells? base (a.add (i * 16)) 16 = some y.cells ∧ Ous W y.p y.H.l ∧ y.H.Upto maxLen := fun i => by
      by_cases hi : i < len
      · obtain ⟨cs', hc, ht⟩ := hx i (by omega)
        rw [c2] at hc
        obtain ⟨y, rfl, hy⟩ := hx_cells_in ht
        exact ⟨y, fun _ => ⟨hc, hy⟩⟩
      · exact ⟨Hx.none, fun h => absurd h hi⟩
    obtain ⟨Y, hY⟩ := Classical.axiomOfChoice each
    refine ⟨some a, cap, (List.range len).map Y, by rw [hcs]; simp, ⟨?_, ?_⟩, by simp; omega, ?_⟩
    · rw [List.length_map, List.length_range]
      refine Pk.sl_of_add (fun i hi => ?_)
      have hq : i / 16 < len := by omega
      have hc := (World.cells?_some (hY (i / 16) hq).1).2.2 (i % 16) (by omega)
      rw [Addr.add_add, show i / 16 * 16 + i % 16 = i by omega] at hc
      rw [hc]
      unfold hcell
      have e : ((List.range len).map Y).getD (i / 16) Hx.none = Y (i / 16) := by simp [List.getD, hq]
      rw [e]
      have : i % 16 = 0 ∨ i % 16 = 1 ∨ i % 16 = 2 ∨ i % 16 = 3 ∨ i % 16 = 4 ∨ i % 16 = 5 ∨ i % 16 = 6 ∨ i % 16 = 7 ∨ i % 16 = 8 ∨ i % 16 = 9 ∨ i % 16 = 10 ∨ i % 16 = 11 ∨ i % 16 = 12 ∨ i % 16 = 13 ∨ i % 16 = 14 ∨ i % 16 = 15 := by omega
      rcases this with h | h | h | h | h | h | h | h | h | h | h | h | h | h | h | h <;> rw [h] <;> rfl
    · intro s hs
      obtain ⟨i, hi, rfl⟩ := List.mem_map.1 hs
      exact (hY i (List.mem_range.1 hi)).2.1
    · intro s hs
      obtain ⟨i, hi, rfl⟩ := List.mem_map.1 hs
      exact (hY i (List.mem_range.1 hi)).2.2

end

end Go.Proofs.YtaopkchkhdbfnaaGreatDoor.Pl

namespace Go.Proofs.YtaopkchkhdbfnaaGreatDoor.Pl
open Go.RowKit Go.ChangeShapes Go.WideShapes Go.ChangeAt Go.Joins Go.Deep
open Go.Proofs.YtaopkchkhdbfnaaGreatDoor.Mem
set_option linter.unusedVariables false

/-- The marks in a list of events. -/
def mkE (k i : Nat) : Value := if i % 7 = 6 then .string (markS (k + i)) else .int .i64 ((k + i : Nat) : Int)

def msE (f : Nat → Value) (k j i : Nat) : Value := if i < j * 7 then mkE k i else f i

theorem msE_succ (f : Nat → Value) (k j : Nat) (i : Nat) : (if i = j * 7 + 6 then Value.string (markS (k + (j * 7 + 6))) else if i = j * 7 + 5 then Value.int .i64 ((k + (j * 7 + 5) : Nat) : Int) else if i = j * 7 + 4 then Value.int .i64 ((k + (j * 7 + 4) : Nat) : Int) else if i = j * 7 + 3 then Value.int .i64 ((k + (j * 7 + 3) : Nat) : Int) else if i = j * 7 + 2 then Value.int .i64 ((k + (j * 7 + 2) : Nat) : Int) else if i = j * 7 + 1 then Value.int .i64 ((k + (j * 7 + 1) : Nat) : Int) else if i = j * 7 then Value.int .i64 ((k + (j * 7) : Nat) : Int) else msE f k j i) = msE f k (j + 1) i := by
  unfold msE mkE
  by_cases h6 : i = j * 7 + 6
  · subst h6
    rw [if_pos rfl, if_pos (by omega), if_pos (by omega)]
  rw [if_neg h6]
  by_cases h5 : i = j * 7 + 5
  · subst h5
    rw [if_pos rfl, if_pos (by omega), if_neg (by omega)]
  rw [if_neg h5]
  by_cases h4 : i = j * 7 + 4
  · subst h4
    rw [if_pos rfl, if_pos (by omega), if_neg (by omega)]
  rw [if_neg h4]
  by_cases h3 : i = j * 7 + 3
  · subst h3
    rw [if_pos rfl, if_pos (by omega), if_neg (by omega)]
  rw [if_neg h3]
  by_cases h2 : i = j * 7 + 2
  · subst h2
    rw [if_pos rfl, if_pos (by omega), if_neg (by omega)]
  rw [if_neg h2]
  by_cases h1 : i = j * 7 + 1
  · subst h1
    rw [if_pos rfl, if_pos (by omega), if_neg (by omega)]
  rw [if_neg h1]
  by_cases h0 : i = j * 7
  · subst h0
    rw [if_pos rfl, if_pos (by omega), if_neg (by omega)]
  rw [if_neg h0]
  by_cases h : i < j * 7
  · rw [if_pos h, if_pos (show i < (j + 1) * 7 by omega)]
  · rw [if_neg h, if_neg (show ¬ i < (j + 1) * 7 by omega)]

set_option maxRecDepth 100000 in
set_option maxHeartbeats 1500000 in
theorem markEventS (w : World) (B : Nat) (a : Option Addr) (n cap k : Nat) (f : Nat → Value) (S : Wr w B a (n * 7) f) (hk : 0 < k) (hn : n ≤ 1048576) (hb : k + n * 7 ≤ 16777216) :
    Calls Tryz.prog 57 #[.slice a n cap, .int .i64 (k : Int)] w fun e w' => e = .returned (.int .i64 ((k + n * 7 : Nat) : Int)) ∧ Wr w' B a (n * 7) (mkE k) ∧ Kept (foot a (n * 7)) w w' := by
  have HS := hid S
  clear S
  go_enter Tryz.func57, Tryz.ntmps57
  go_wp2
  go_loopw [1, 5] (fun x i wr => ∃ (j m : Nat), j ≤ n ∧ i = .int .i64 (j : Int) ∧ x = .int .i64 (m : Int) ∧ m ≤ 16777216 ∧ Hid (m = k + j * 7) ∧ Hid (Wr wr B a (n * 7) (msE f k j)) ∧ Hid (Kept (foot a (n * 7)) w wr)) (fun _ i _ => n - (intOf i).toNat)
  case atStart => exact ⟨0, k, Nat.zero_le _, rfl, rfl, by omega, by rw [Hid]; omega, HS.out.congr (fun i _ => by simp [msE]), Kept.refl _ _⟩
  case round =>
    obtain ⟨j, m, hj, rfl, rfl, hm, Hm, HW, HK⟩ := hrel
    by_cases hlt : j < n
    · have hm2 : m + 7 ≤ 16777216 := by have := Hm.out; omega
      obtain ⟨b, off, rfl, hB, hc0, hz0⟩ := HW.out (j * 7) (by omega)
      go_upto_region 6 with fail
      obtain ⟨w00, hw00, HW0, HK0⟩ : ∃ w00, wr.setCell ⟨b, off + j * 7, none⟩ (.int .i64 ((m : Int))) = w00 ∧ Hid (Wr w00 B (some ⟨b, off, none⟩) (n * 7) _) ∧ Hid (Kept _ w w00) :=
        ⟨_, rfl, (by have := HW.out.set (j * 7) (by omega) (.int .i64 ((m : Int))); exact this), HK.out.trans (kept_set _ b (off + j * 7) (.int .i64 ((m : Int))))⟩
      simp only [hw00]
      clear hw00 hc0 hz0
      obtain ⟨b1, off1, e1, _, hc1, hz1⟩ := HW0.out (j * 7 + 1) (by omega)
      cases e1
      rw [← Nat.add_assoc] at hc1 hz1
      go_upto_region 8 with fail
      obtain ⟨w10, hw10, HW1, HK1⟩ : ∃ w10, w00.setCell ⟨b, off + j * 7 + 1, none⟩ (.int .i64 ((m : Int) + 1)) = w10 ∧ Hid (Wr w10 B (some ⟨b, off, none⟩) (n * 7) _) ∧ Hid (Kept _ w w10) :=
        ⟨_, rfl, (by have := HW0.out.set (j * 7 + 1) (by omega) (.int .i64 ((m : Int) + 1)); rw [← Nat.add_assoc] at this; exact this), HK0.out.trans (kept_set _ b (off + j * 7 + 1) (.int .i64 ((m : Int) + 1)))⟩
      simp only [hw10]
      clear hw10 hc1 hz1
      obtain ⟨b1, off1, e1, _, hc2, hz2⟩ := HW1.out (j * 7 + 2) (by omega)
      cases e1
      rw [← Nat.add_assoc] at hc2 hz2
      go_upto_region 10 with fail
      obtain ⟨w20, hw20, HW2, HK2⟩ : ∃ w20, w10.setCell ⟨b, off + j * 7 + 2, none⟩ (.int .i64 ((m : Int) + 1 + 1)) = w20 ∧ Hid (Wr w20 B (some ⟨b, off, none⟩) (n * 7) _) ∧ Hid (Kept _ w w20) :=
        ⟨_, rfl, (by have := HW1.out.set (j * 7 + 2) (by omega) (.int .i64 ((m : Int) + 1 + 1)); rw [← Nat.add_assoc] at this; exact this), HK1.out.trans (kept_set _ b (off + j * 7 + 2) (.int .i64 ((m : Int) + 1 + 1)))⟩
      simp only [hw20]
      clear hw20 hc2 hz2
      obtain ⟨b1, off1, e1, _, hc3, hz3⟩ := HW2.out (j * 7 + 3) (by omega)
      cases e1
      rw [← Nat.add_assoc] at hc3 hz3
      go_upto_region 12 with fail
      obtain ⟨w30, hw30, HW3, HK3⟩ : ∃ w30, w20.setCell ⟨b, off + j * 7 + 3, none⟩ (.int .i64 ((m : Int) + 1 + 1 + 1)) = w30 ∧ Hid (Wr w30 B (some ⟨b, off, none⟩) (n * 7) _) ∧ Hid (Kept _ w w30) :=
        ⟨_, rfl, (by have := HW2.out.set (j * 7 + 3) (by omega) (.int .i64 ((m : Int) + 1 + 1 + 1)); rw [← Nat.add_assoc] at this; exact this), HK2.out.trans (kept_set _ b (off + j * 7 + 3) (.int .i64 ((m : Int) + 1 + 1 + 1)))⟩
      simp only [hw30]
      clear hw30 hc3 hz3
      obtain ⟨b1, off1, e1, _, hc4, hz4⟩ := HW3.out (j * 7 + 4) (by omega)
      cases e1
      rw [← Nat.add_assoc] at hc4 hz4
      go_upto_region 14 with fail
      obtain ⟨w40, hw40, HW4, HK4⟩ : ∃ w40, w30.setCell ⟨b, off + j * 7 + 4, none⟩ (.int .i64 ((m : Int) + 1 + 1 + 1 + 1)) = w40 ∧ Hid (Wr w40 B (some ⟨b, off, none⟩) (n * 7) _) ∧ Hid (Kept _ w w40) :=
        ⟨_, rfl, (by have := HW3.out.set (j * 7 + 4) (by omega) (.int .i64 ((m : Int) + 1 + 1 + 1 + 1)); rw [← Nat.add_assoc] at this; exact this), HK3.out.trans (kept_set _ b (off + j * 7 + 4) (.int .i64 ((m : Int) + 1 + 1 + 1 + 1)))⟩
      simp only [hw40]
      clear hw40 hc4 hz4
      obtain ⟨b1, off1, e1, _, hc5, hz5⟩ := HW4.out (j * 7 + 5) (by omega)
      cases e1
      rw [← Nat.add_assoc] at hc5 hz5
      go_wp2_with fail
      obtain ⟨w50, hw50, HW5, HK5⟩ : ∃ w50, w40.setCell ⟨b, off + j * 7 + 5, none⟩ (.int .i64 ((m : Int) + 1 + 1 + 1 + 1 + 1)) = w50 ∧ Hid (Wr w50 B (some ⟨b, off, none⟩) (n * 7) _) ∧ Hid (Kept _ w w50) :=
        ⟨_, rfl, (by have := HW4.out.set (j * 7 + 5) (by omega) (.int .i64 ((m : Int) + 1 + 1 + 1 + 1 + 1)); rw [← Nat.add_assoc] at this; exact this), HK4.out.trans (kept_set _ b (off + j * 7 + 5) (.int .i64 ((m : Int) + 1 + 1 + 1 + 1 + 1)))⟩
      simp only [hw50]
      clear hw50 hc5 hz5
      have hm6 : (m : Int) + 1 + 1 + 1 + 1 + 1 + 1 = ((m + 6 : Nat) : Int) := by omega
      rw [hm6]
      clear hm6
      refine (markText (m + 6) w50 (by omega) (by omega)).mono ?_
      rintro e w1 ⟨rfl, b1⟩
      have HW7 := hid (HW5.out.below b1)
      have HK7 := hid (HK5.out.trans (Kept.of_below (S := fun _ => False) b1))
      clear b1
      obtain ⟨b', off', e', _, hc', hz'⟩ := HW7.out (j * 7 + 6) (by omega)
      cases e'
      rw [← Nat.add_assoc] at hc' hz'
      go_wp2
      refine ⟨⟨j + 1, m + 7, by omega, by go_num, by go_num, hm2, by have := Hm.out; rw [Hid]; omega, ?_, ?_⟩, by simp [intOf]; omega⟩
      · have := HW7.out.set (j * 7 + 6) (by omega) (.string (markS (m + 6)))
        rw [← Nat.add_assoc] at this
        have hq := Hm.out
        have q0 : ((k + (j * 7) : Nat) : Int) = (m : Int) := by omega
        have q1 : ((k + (j * 7 + 1) : Nat) : Int) = (m : Int) + 1 := by omega
        have q2 : ((k + (j * 7 + 2) : Nat) : Int) = (m : Int) + 1 + 1 := by omega
        have q3 : ((k + (j * 7 + 3) : Nat) : Int) = (m : Int) + 1 + 1 + 1 := by omega
        have q4 : ((k + (j * 7 + 4) : Nat) : Int) = (m : Int) + 1 + 1 + 1 + 1 := by omega
        have q5 : ((k + (j * 7 + 5) : Nat) : Int) = (m : Int) + 1 + 1 + 1 + 1 + 1 := by omega
        have q6 : k + (j * 7 + 6) = m + 6 := by omega
        exact this.congr (fun i _ => by rw [← msE_succ, q0, q1, q2, q3, q4, q5, q6])
      · exact (HK7.out.trans (kept_set w1 b (off + j * 7 + 6) _)).mono (fun b2 _ h => by
          rcases h with ((((((((h | h) | h) | h) | h) | h) | h) | h) | h)
          · exact h
          all_goals first
            | exact h.elim
            | (subst h; exact ⟨by omega, off, rfl⟩))
    · obtain rfl : j = n := by omega
      go_wp2
      go_ret
      exact ⟨by rw [Hm.out]; rfl, HW.out.congr (fun i hi => by unfold msE; rw [if_pos hi]), HK.out⟩

variable {H : Type} {enc : TypeId × Value → H} {W : World} {base : Nat} {spare : Nat → Bool} {held : Bool}

set_option maxRecDepth 100000 in
theorem ev_cells_in {fuel : Nat} {cs : List Value} {x : DataW H × List MemPlace} (h : DataW.trod enc Tryz.prog W base spare held fuel 143 cs = some x) :
    ∃ y : Ev, cs = y.cells ∧ y.s.size ≤ maxLen := by
  obtain ⟨xs, n, _, rfl, hl, hlen, hf⟩ := DataW.trod_struct Tryz.underlying143 h
  have c7 : Tryz.prog.cellsOf 143 = 7 := by kernel_rfl
  have cO : Tryz.prog.cellsOf 135 = 5 := by kernel_rfl
  rw [c7] at hl
  match xs, hlen, cs, hl with
  | [y0, y1, y2], _, [v0, v1, v2, v3, v4, v5, v6], _ =>
    have f0 : DataW.trod enc Tryz.prog W base spare held n 3 [v0] = some y0 := by simpa [cInt] using hf 0 _ rfl
    have f1 : DataW.trod enc Tryz.prog W base spare held n 3 [v1] = some y1 := by simpa [cInt] using hf 1 _ rfl
    have f2 : DataW.trod enc Tryz.prog W base spare held n 135 [v2, v3, v4, v5, v6] = some y2 := by simpa [cInt, cO] using hf 2 _ rfl
    obtain ⟨n0, e0, _, _⟩ := DataW.trod_int Tryz.underlying3 f0
    obtain ⟨n1, e1, _, _⟩ := DataW.trod_int Tryz.underlying3 f1
    obtain ⟨k, v, t, a, s, e2, hs⟩ := op_in f2
    simp only [List.cons.injEq, and_true] at e0 e1 e2
    obtain ⟨r2, r3, r4, r5, r6⟩ := e2
    subst e0; subst e1; subst r2; subst r3; subst r4; subst r5; subst r6
    exact ⟨⟨n0, n1, k, v, t, a, s⟩, rfl, hs⟩

set_option maxRecDepth 100000 in
/-- A log that came in. -/
theorem evs_in {fuel : Nat} {v : Value} {x : DataW H × List MemPlace} (h : DataW.trod enc Tryz.prog W base spare held fuel 28 [v] = some x) :
    ∃ a cap l, v = .slice a (l : List Ev).length cap ∧ Evs W a l ∧ l.length ≤ maxLen ∧ ∀ y ∈ l, y.s.size ≤ maxLen := by
  have c2 : Tryz.prog.cellsOf 143 = 7 := by kernel_rfl
  rcases open_slice Tryz.underlying28 h with ⟨hcs, _⟩ | ⟨a, len, cap, m, n, D, Pl, hcs, _, hl, hm, hmm, _, hx⟩
  · simp only [List.cons.injEq, and_true] at hcs
    exact ⟨none, 0, [], hcs, fun i hi => by simp at hi, by simp, by simp⟩
  · simp only [List.cons.injEq, and_true] at hcs
    have hlm : len ≤ m := by rw [hmm]; split <;> omega
    have each : ∀ i, ∃ y : Ev, i < len → W.cells? base (a.add (i * 7)) 7 = some y.cells ∧ y.s.size ≤ maxLen := fun i => by
      by_cases hi : i < len
      · obtain ⟨cs', hc, ht⟩ := hx i (by omega)
        rw [c2] at hc
        obtain ⟨y, rfl, hy⟩ := ev_cells_in ht
        exact ⟨y, fun _ => ⟨hc, hy⟩⟩
      · exact ⟨Ev.none, fun h => absurd h hi⟩
    obtain ⟨Y, hY⟩ := Classical.axiomOfChoice each
    refine ⟨some a, cap, (List.range len).map Y, by rw [hcs]; simp, ?_, by simp; omega, ?_⟩
    · unfold Evs
      rw [List.length_map, List.length_range]
      refine Pk.sl_of_add (fun i hi => ?_)
      have hq : i / 7 < len := by omega
      have hc := (World.cells?_some (hY (i / 7) hq).1).2.2 (i % 7) (by omega)
      rw [Addr.add_add, show i / 7 * 7 + i % 7 = i by omega] at hc
      rw [hc]
      unfold evcell
      have e : ((List.range len).map Y).getD (i / 7) Ev.none = Y (i / 7) := by simp [List.getD, hq]
      rw [e]
      have : i % 7 = 0 ∨ i % 7 = 1 ∨ i % 7 = 2 ∨ i % 7 = 3 ∨ i % 7 = 4 ∨ i % 7 = 5 ∨ i % 7 = 6 := by omega
      rcases this with h | h | h | h | h | h | h <;> rw [h] <;> rfl
    · intro s hs
      obtain ⟨i, hi, rfl⟩ := List.mem_map.1 hs
      exact (hY i (List.mem_range.1 hi)).2

end Go.Proofs.YtaopkchkhdbfnaaGreatDoor.Pl

namespace Go.Proofs.YtaopkchkhdbfnaaGreatDoor.Mem
open Go.RowKit Classical
set_option linter.unusedVariables false

set_option maxRecDepth 100000 in
set_option maxHeartbeats 1000000 in
theorem eqWriteS (w : World) (a b : Option Addr) (ca cb : Nat) (l m : List Wt) (S : Wts w a l) (T : Wts w b m) (hl : l.length ≤ maxLen) (hm : m.length ≤ maxLen) :
    Calls Tryz.prog 107 #[.slice a l.length ca, .slice b m.length cb] w fun e w' => e = .returned (.bool (decide (l = m))) ∧ Below w.heap.size w w' := by
  unfold maxLen at hl hm
  have HS := hid S
  have HT := hid T
  clear S T
  by_cases hne : l.length = m.length
  · have Hne := hid hne
    rw [← hne]
    clear hne hm
    generalize hq : decide (l = m) = q
    have HQ := hid hq
    clear hq
    go_enter Tryz.func107, Tryz.ntmps107
    go_wp2
    go_loopw [5] (fun i wr => ∃ k : Nat, k ≤ l.length ∧ i = .int .i64 (k : Int) ∧ Hid (∀ j, j < k → l.getD j Wt.none = m.getD j Wt.none) ∧ Hid (Below w.heap.size w wr)) (fun i _ => l.length - (intOf i).toNat)
    case atStart => exact ⟨0, Nat.zero_le _, rfl, fun j hj => by omega, Below.refl _ _⟩
    case round =>
      obtain ⟨k, hk, rfl, HJ, HB⟩ := hrel
      by_cases hlt : k < l.length
      · obtain ⟨b1, o1, rfl, c0, c1, c2, c3⟩ := Wts.at_ (HS.out.below HB.out) k hlt
        obtain ⟨b2, o2, rfl, d0, d1, d2, d3⟩ := Wts.at_ (HT.out.below HB.out) k (Hne.out ▸ hlt)
        generalize hx : l.getD k Wt.none = x at c0 c1 c2 c3
        generalize hy : m.getD k Wt.none = y at d0 d1 d2 d3
        have HX := hid hx
        have HY := hid hy
        clear hx hy
        by_cases he : x = y
        · have he' := decide_eq_true he
          have HE := hid he
          clear he
          go_wp2
          go_region_with (go_at_call 156; refine (eqWrite _ x y).mono ?_; rintro e w1 ⟨rfl, hb1⟩)
          all_goals (have HB1 := hid (HB.out.drew.trans (hb1.mono HB.out.size)); clear hb1 c0 c1 c2 c3 d0 d1 d2 d3; go_wp2)
          all_goals exact ⟨⟨k + 1, by omega, by go_num, fun j hj => by
            by_cases h : j = k
            · subst h; rw [HX.out, HY.out]; exact HE.out
            · exact HJ.out j (by omega), HB1⟩, by simp [intOf]; omega⟩
        · have he' := decide_eq_false he
          have HE := hid he
          clear he
          go_wp2
          go_region_with (go_at_call 156; refine (eqWrite _ x y).mono ?_; rintro e w1 ⟨rfl, hb1⟩)
          all_goals (have HB1 := hid (HB.out.drew.trans (hb1.mono HB.out.size)); clear hb1 c0 c1 c2 c3 d0 d1 d2 d3; go_wp2)
          all_goals go_ret
          all_goals (refine ⟨?_, HB1.out⟩; rw [← HQ.out, decide_eq_false (fun e => HE.out (by rw [← HX.out, ← HY.out, e]))]; rfl)
      · obtain rfl : k = l.length := by omega
        go_wp2
        go_ret
        refine ⟨?_, HB.out⟩
        rw [← HQ.out, decide_eq_true (getD_ext Wt.none Hne.out HJ.out)]
        rfl
  · have hne' : ¬ (l.length : Int) = (m.length : Int) := by omega
    have HQ := hid (decide_eq_false (p := l = m) (fun e => hne (by rw [e])))
    rw [HQ.out]
    go_enter Tryz.func107, Tryz.ntmps107
    go_wp2
    go_ret
    exact ⟨rfl, Below.refl _ _⟩

set_option maxRecDepth 100000 in
set_option maxHeartbeats 1000000 in
theorem eqDisk (w : World) (v u : Value) (D E : Dk) (h : DkR w v D) (k : DkR w u E) (hd : D.Held) (he : E.Held) :
    Calls Tryz.prog 45 #[v, u] w fun e w' => e = .returned (.bool (decide (D = E))) ∧ Below w.heap.size w w' := by
  obtain ⟨a1, c1, a2, c2, a3, c3, rfl, s1, s2, s3⟩ := h
  obtain ⟨b1, d1, b2, d2, b3, d3, rfl, t1, t2, t3⟩ := k
  obtain ⟨l1, l2, l3⟩ := D
  obtain ⟨m1, m2, m3⟩ := E
  generalize hq : decide (Dk.mk l1 l2 l3 = Dk.mk m1 m2 m3) = q
  have HQ := hid hq
  have HS1 := hid s1
  have HS2 := hid s2
  have HS3 := hid s3
  have HT1 := hid t1
  have HT2 := hid t2
  have HT3 := hid t3
  have HD := hid hd
  have HE := hid he
  clear s1 s2 s3 t1 t2 t3 hd he hq
  simp only []
  go_enter Tryz.func45, Tryz.ntmps45
  go_wp2_with fail
  obtain ⟨wc, hwc, _, A0, R0, B0⟩ := two_new w [.slice a1 l1.length c1, .slice a2 l2.length c2, .slice a3 l3.length c3] [.slice b1 m1.length d1, .slice b2 m2.length d2, .slice b3 m3.length d3] 36 36
  simp only [hwc]
  clear hwc
  refine (eqStringS wc a1 b1 c1 d1 l1 m1 (HS1.out.below B0) (HT1.out.below B0) HD.out.h1 HE.out.h1).mono ?_
  rintro e w1 ⟨rfl, hb1⟩
  replace A0 := A0.below hb1 A0.lt
  replace R0 := R0.below hb1 R0.lt
  replace B0 := B0.trans (hb1.mono B0.size)
  by_cases h1 : ¬ l1 = m1
  · have h1' := decide_eq_false h1
    have HX := hid (HQ.out.symm.trans (decide_eq_false (fun e => h1 (by injection e))))
    have HB := hid B0
    clear h1 A0 R0 B0 hb1 HQ
    go_wp2
    go_ret
    exact ⟨by rw [HX.out]; rfl, HB.out⟩
  replace h1 := Classical.not_not.mp h1
  have h1' := decide_eq_true h1
  have H1 := hid h1
  have ca := A0.c 1 rfl
  have cb := R0.c 1 rfl
  have HA := hid A0
  have HR := hid R0
  have HB := hid B0
  clear h1 A0 R0 B0 hb1
  go_wp2_with fail
  refine (eqIntS w1 a2 b2 c2 d2 l2 m2 (HS2.out.below HB.out) (HT2.out.below HB.out) HD.out.h2 HE.out.h2).mono ?_
  rintro e w2 ⟨rfl, hb2⟩
  have A0 := HA.out.below hb2 HA.out.lt
  have R0 := HR.out.below hb2 HR.out.lt
  have B0 := HB.out.trans (hb2.mono HB.out.size)
  clear HA HR HB ca cb
  by_cases h2 : ¬ l2 = m2
  · have h2' := decide_eq_false h2
    have HX := hid (HQ.out.symm.trans (decide_eq_false (fun e => h2 (by injection e))))
    have HB := hid B0
    clear h2 A0 R0 B0 hb2 HQ
    go_wp2
    go_ret
    exact ⟨by rw [HX.out]; rfl, HB.out⟩
  replace h2 := Classical.not_not.mp h2
  have h2' := decide_eq_true h2
  have H2 := hid h2
  have ca := A0.c 2 rfl
  have cb := R0.c 2 rfl
  have HB := hid B0
  clear h2 A0 R0 B0 hb2
  go_wp2_with fail
  refine (eqWriteS w2 a3 b3 c3 d3 l3 m3 (HS3.out.below HB.out) (HT3.out.below HB.out) HD.out.h3 HE.out.h3).mono ?_
  rintro e w3 ⟨rfl, hb3⟩
  have HB3 := hid (HB.out.trans (hb3.mono HB.out.size))
  clear HB ca cb hb3
  by_cases h3 : l3 = m3
  · have h3' := decide_eq_true h3
    have HX := hid (HQ.out.symm.trans (decide_eq_true (by rw [H1.out, H2.out, h3])))
    clear h3 HQ
    go_wp2
    go_ret
    exact ⟨by rw [HX.out]; rfl, HB3.out⟩
  · have h3' := decide_eq_false h3
    have HX := hid (HQ.out.symm.trans (decide_eq_false (fun e => h3 (by injection e))))
    clear h3 HQ
    go_wp2
    go_ret
    exact ⟨by rw [HX.out]; rfl, HB3.out⟩

end Go.Proofs.YtaopkchkhdbfnaaGreatDoor.Mem

namespace Go.Proofs.YtaopkchkhdbfnaaGreatDoor.Mem
open Go.RowKit
set_option linter.unusedVariables false

/-- A write is one of the disk's. -/
def Wt.okIn (D : Dk) (x : Wt) : Prop := (0 ≤ x.host ∧ x.host < 3) ∧ x.epoch = D.ep.getD x.host.toNat 0 ∧ 0 ≤ x.sector ∧ x.sector < (D.sec.length : Int) ∧ (x.text.size : Int) ≤ 700

/-- A disk is right. -/
structure Dk.Right (D : Dk) : Prop where
  n1 : 1 ≤ D.sec.length
  n2 : D.sec.length ≤ 40
  e3 : D.ep.length = 3
  p40 : D.pe.length ≤ 40
  s : ∀ j, j < D.sec.length → ((D.sec.getD j ByteArray.empty).size : Int) ≤ 700
  e : ∀ j, j < D.ep.length → 1 ≤ D.ep.getD j 0 ∧ D.ep.getD j 0 ≤ 100000
  p : ∀ j, j < D.pe.length → (D.pe.getD j Wt.none).okIn D

def Dk.right (D : Dk) : Bool := decide (1 ≤ D.sec.length ∧ D.sec.length ≤ 40 ∧ D.ep.length = 3 ∧ D.pe.length ≤ 40 ∧ (∀ j, j < D.sec.length → ((D.sec.getD j ByteArray.empty).size : Int) ≤ 700) ∧ (∀ j, j < D.ep.length → 1 ≤ D.ep.getD j 0 ∧ D.ep.getD j 0 ≤ 100000) ∧
  ∀ j, j < D.pe.length → (0 ≤ (D.pe.getD j Wt.none).host ∧ (D.pe.getD j Wt.none).host < 3) ∧ (D.pe.getD j Wt.none).epoch = D.ep.getD (D.pe.getD j Wt.none).host.toNat 0 ∧ 0 ≤ (D.pe.getD j Wt.none).sector ∧ (D.pe.getD j Wt.none).sector < (D.sec.length : Int) ∧ ((D.pe.getD j Wt.none).text.size : Int) ≤ 700)
theorem Dk.right_yes {D : Dk} (h : D.Right) : D.right = true := decide_eq_true ⟨h.n1, h.n2, h.e3, h.p40, h.s, h.e, h.p⟩
theorem Dk.right_no {D : Dk} (h : ¬ D.Right) : D.right = false := decide_eq_false (fun ⟨a, b, c, d, e, f, g⟩ => h ⟨a, b, c, d, e, f, g⟩)

set_option maxHeartbeats 400000 in
theorem l1In (x lo hi : Int) (w : World) :
    Calls Tryz.prog 31 #[.int .i64 x, .int .i64 lo, .int .i64 hi] w fun e w' => e = .returned (.bool (decide (lo ≤ x ∧ x ≤ hi))) ∧ w' = w := by
  by_cases h1 : lo ≤ x
  · by_cases h2 : x ≤ hi
    · rw [decide_eq_true (And.intro h1 h2)]
      go_enter Tryz.func31, Tryz.ntmps31
      go_wp2
      go_ret
      exact ⟨rfl, rfl⟩
    · rw [decide_eq_false (fun h => h2 h.2)]
      go_enter Tryz.func31, Tryz.ntmps31
      go_wp2
      go_ret
      exact ⟨rfl, rfl⟩
  · rw [decide_eq_false (fun h => h1 h.1)]
    go_enter Tryz.func31, Tryz.ntmps31
    go_wp2
    go_ret
    exact ⟨rfl, rfl⟩

set_option maxHeartbeats 400000 in
theorem l3Host (x : Int) (w : World) :
    Calls Tryz.prog 32 #[.int .i64 x] w fun e w' => e = .returned (.bool (decide (0 ≤ x ∧ x < 3))) ∧ w' = w := by
  by_cases h1 : 0 ≤ x
  · by_cases h2 : x < 3
    · rw [decide_eq_true (And.intro h1 h2)]
      go_enter Tryz.func32, Tryz.ntmps32
      go_wp2
      go_ret
      exact ⟨rfl, rfl⟩
    · rw [decide_eq_false (fun h => h2 h.2)]
      go_enter Tryz.func32, Tryz.ntmps32
      go_wp2
      go_ret
      exact ⟨rfl, rfl⟩
  · rw [decide_eq_false (fun h => h1 h.1)]
    go_enter Tryz.func32, Tryz.ntmps32
    go_wp2
    go_ret
    exact ⟨rfl, rfl⟩

set_option maxRecDepth 100000 in
set_option maxHeartbeats 2000000 in
theorem diskOk (w : World) (v : Value) (D : Dk) (h : DkR w v D) (hd : D.Held) :
    Calls Tryz.prog 28 #[v] w fun e w' => e = .returned (.bool D.right) ∧ Below w.heap.size w w' := by
  obtain ⟨a1, c1, a2, c2, a3, c3, rfl, s1, s2, s3⟩ := h
  obtain ⟨l1, l2, l3⟩ := D
  have HS1 := hid s1
  have HS2 := hid s2
  have HS3 := hid s3
  have d1 : l1.length ≤ 9223372036854775807 := hd.h1
  have d2 : l2.length ≤ 9223372036854775807 := hd.h2
  have d3 : l3.length ≤ 9223372036854775807 := hd.h3
  have HD := hid hd
  clear s1 s2 s3 hd
  simp only []
  have no : ¬ (Dk.mk l1 l2 l3).Right → (Dk.mk l1 l2 l3).right = false := Dk.right_no
  have yes : (Dk.mk l1 l2 l3).Right → (Dk.mk l1 l2 l3).right = true := Dk.right_yes
  generalize (Dk.mk l1 l2 l3).right = q at *
  have HN := hid no
  have HY := hid yes
  clear no yes
  go_enter Tryz.func28, Tryz.ntmps28
  go_wp2_with fail
  obtain ⟨wb, hwb, ez, A0, B0⟩ := one_new w [.slice a1 l1.length c1, .slice a2 l2.length c2, .slice a3 l3.length c3] 36
  simp only [hwb]
  clear hwb
  refine (l1In l1.length 1 40 wb).mono ?_
  rintro e w1 ⟨rfl, hw⟩
  subst hw
  have HB := hid B0
  have HA := hid A0
  have k1 := A0.c 1 rfl
  have k2 := A0.c 2 rfl
  have k0 := A0.c 0 rfl
  clear A0 B0
  by_cases g1 : ¬ (1 ≤ (l1.length : Int) ∧ (l1.length : Int) ≤ 40)
  · have g1' := decide_eq_false g1
    have HN := hid (HN.out (by intro x; have := x.n1; have := x.n2; simp only [] at *; omega))
    clear g1
    go_wp2
    go_ret
    exact ⟨by rw [HN.out]; rfl, HB.out⟩
  replace g1 := Classical.not_not.mp g1
  have g1' := decide_eq_true g1
  obtain ⟨g1a, g1b⟩ := g1
  by_cases g2 : ¬ (l2.length : Int) = 3
  · have HN := hid (HN.out (by intro x; have := x.e3; simp only [] at *; omega))
    go_wp2
    go_ret
    exact ⟨by rw [HN.out]; rfl, HB.out⟩
  replace g2 := Classical.not_not.mp g2
  by_cases g3 : 40 < (l3.length : Int)
  · have HN := hid (HN.out (by intro x; have := x.p40; simp only [] at *; omega))
    go_wp2
    go_ret
    exact ⟨by rw [HN.out]; rfl, HB.out⟩
  go_wp2
  go_loop [3] (fun i => ∃ k : Nat, k ≤ l1.length ∧ i = .int .i64 (k : Int) ∧ Hid (∀ j, j < k → ((l1.getD j ByteArray.empty).size : Int) ≤ 700)) (fun i => l1.length - (intOf i).toNat)
  case atStart => exact ⟨0, Nat.zero_le _, rfl, fun j hj => by omega⟩
  case round =>
    obtain ⟨k, hk, rfl, HJ⟩ := hrel
    by_cases hlt : k < l1.length
    · obtain ⟨b, off, rfl, hc⟩ := (HS1.out.below HB.out) k hlt
      replace hc : w1.cell? ⟨b, off + k, none⟩ = some (.string (l1.getD k ByteArray.empty)) := hc
      generalize hx : l1.getD k ByteArray.empty = x at hc
      have HX := hid hx
      clear hx
      by_cases hn : 700 < (x.size : Int)
      · have HN := hid (HN.out (by intro q; have := q.s k hlt; simp only [HX.out] at this; omega))
        go_wp2
        go_ret
        exact ⟨by rw [HN.out]; rfl, HB.out⟩
      · go_wp2
        go_round
        case rel => exact ⟨k + 1, by omega, by go_num, fun j hj => by
          by_cases h : j = k
          · subst h; rw [HX.out]; omega
          · exact HJ.out j (by omega)⟩
        case measure => simp [intOf]; omega
    obtain rfl : k = l1.length := by omega
    go_wp2
    go_loop [4] (fun i => ∃ k : Nat, k ≤ l2.length ∧ i = .int .i64 (k : Int) ∧ Hid (∀ j, j < k → 1 ≤ l2.getD j 0 ∧ l2.getD j 0 ≤ 100000)) (fun i => l2.length - (intOf i).toNat)
    case atStart => exact ⟨0, Nat.zero_le _, rfl, fun j hj => by omega⟩
    case round =>
      obtain ⟨k, hk, rfl, HE⟩ := hrel
      by_cases hlt : k < l2.length
      · obtain ⟨b, off, rfl, hc⟩ := (HS2.out.below HB.out) k hlt
        replace hc : w1.cell? ⟨b, off + k, none⟩ = some (.int .i64 (l2.getD k 0)) := hc
        generalize hx : l2.getD k 0 = x at hc
        have HX := hid hx
        clear hx
        go_wp2_with fail
        refine (l1In x 1 100000 w1).mono ?_
        rintro e w1' ⟨rfl, hw⟩
        subst hw
        by_cases hn : 1 ≤ x ∧ x ≤ 100000
        · have hn' := decide_eq_true hn
          have HX2 := hid hn
          clear hn
          go_wp2
          exact ⟨⟨k + 1, by omega, by go_num, fun j hj => by
            by_cases h : j = k
            · subst h; rw [HX.out]; exact HX2.out
            · exact HE.out j (by omega)⟩, by simp [intOf]; omega⟩
        · have hn' := decide_eq_false hn
          have HN := hid (HN.out (by intro q; have := q.e k hlt; simp only [HX.out] at this; exact hn this))
          clear hn
          go_wp2
          go_ret
          exact ⟨by rw [HN.out]; rfl, HB.out⟩
      obtain rfl : k = l2.length := by omega
      go_wp2
      go_loopw [5] (fun i wr => ∃ k : Nat, k ≤ l3.length ∧ i = .int .i64 (k : Int) ∧ Hid (∀ j, j < k → (l3.getD j Wt.none).okIn (Dk.mk l1 l2 l3)) ∧ Hid (Below w1.heap.size w1 wr)) (fun i _ => l3.length - (intOf i).toNat)
      case atStart => exact ⟨0, Nat.zero_le _, rfl, fun j hj => by omega, Below.refl _ _⟩
      case round =>
        obtain ⟨k, hk, rfl, HP, HB'⟩ := hrel
        have A0 := HA.out.below HB'.out HA.out.lt
        have HBw := hid (HB.out.trans (HB'.out.mono HB.out.size))
        have m0 := A0.c 0 rfl
        have m1 := A0.c 1 rfl
        have m2 := A0.c 2 rfl
        by_cases hlt : k < l3.length
        · obtain ⟨b, off, rfl, x0, x1, x2, x3⟩ := Wts.at_ (HS3.out.below HBw.out) k hlt
          generalize hx : l3.getD k Wt.none = x at x0 x1 x2 x3
          have HX := hid hx
          clear hx
          have HA' := hid A0
          clear A0
          obtain ⟨xh, xe, xs, xt⟩ := x
          simp only [] at x0 x1 x2 x3
          go_wp2
          obtain ⟨wa, hwa, ea, R0, B0⟩ := one_new wr [.int .i64 xh, .int .i64 xe, .int .i64 xs, .string xt] 148
          simp only [hwa]
          clear hwa
          have HB1 := hid (HB'.out.trans (B0.mono HB'.out.size))
          have HBw1 := hid (HB.out.trans (HB1.out.mono HB.out.size))
          replace m0 := (HA'.out.below B0 HA'.out.lt).c 0 rfl
          replace m1 := (HA'.out.below B0 HA'.out.lt).c 1 rfl
          have y0 := R0.c 0 rfl
          have y1 := R0.c 1 rfl
          have y2 := R0.c 2 rfl
          have y3 := R0.c 3 rfl
          clear m2 x0 x1 x2 x3 k0 k1 k2 B0 R0 ea
          by_cases q1 : ¬ (0 ≤ xh ∧ xh < 3)
          · have q1' := decide_eq_false q1
            have HN := hid (HN.out (by intro q; have := (q.p k hlt).1; simp only [HX.out] at this; exact q1 this))
            clear q1
            go_quiet ((go_at_call 32; refine Calls.quiet_of_same (l3Host _ _)))
            go_wp2
            go_ret
            exact ⟨by rw [HN.out]; rfl, below_drewN HBw1.out _⟩
          replace q1 := Classical.not_not.mp q1
          have q1' := decide_eq_true q1
          have HQ1 := hid q1
          obtain ⟨n, rfl⟩ : ∃ n : Nat, xh = (n : Int) := Int.eq_ofNat_of_zero_le q1.1
          have hn3 : (n : Int) < 3 := q1.2
          clear q1
          obtain ⟨b2, o2, rfl, hc⟩ := (HS2.out.below HBw1.out) n (by omega)
          replace hc : wa.cell? ⟨b2, o2 + n, none⟩ = some (.int .i64 (l2.getD n 0)) := hc
          generalize hy : l2.getD n 0 = y at hc
          have HYE := hid hy
          clear hy
          by_cases q2 : ¬ xe = y
          · have q2' := decide_eq_false q2
            have HN := hid (HN.out (by intro q; have := (q.p k hlt).2.1; simp only [HX.out, Int.toNat_natCast, HYE.out] at this; exact q2 this))
            go_quiet ((go_at_call 32; refine Calls.quiet_of_same (l3Host _ _)))
            go_wp2
            go_ret
            exact ⟨by rw [HN.out]; rfl, below_drewN HBw1.out _⟩
          obtain rfl := Classical.not_not.mp q2
          clear q2
          by_cases q3 : xs < 0
          · have q3' := decide_eq_true q3
            have HN := hid (HN.out (by intro q; have := (q.p k hlt).2.2.1; simp only [HX.out] at this; omega))
            go_quiet ((go_at_call 32; refine Calls.quiet_of_same (l3Host _ _)))
            go_wp2
            go_ret
            exact ⟨by rw [HN.out]; rfl, below_drewN HBw1.out _⟩
          have q3' := decide_eq_false q3
          by_cases q4 : (l1.length : Int) ≤ xs
          · have q4' := decide_eq_true q4
            have HN := hid (HN.out (by intro q; have := (q.p k hlt).2.2.2.1; simp only [HX.out] at this; omega))
            go_quiet ((go_at_call 32; refine Calls.quiet_of_same (l3Host _ _)))
            go_wp2
            go_ret
            exact ⟨by rw [HN.out]; rfl, below_drewN HBw1.out _⟩
          have q4' := decide_eq_false q4
          by_cases q5 : 700 < (xt.size : Int)
          · have q5' := decide_eq_true q5
            have HN := hid (HN.out (by intro q; have := (q.p k hlt).2.2.2.2; simp only [HX.out] at this; omega))
            go_quiet ((go_at_call 32; refine Calls.quiet_of_same (l3Host _ _)))
            go_wp2
            go_ret
            exact ⟨by rw [HN.out]; rfl, below_drewN HBw1.out _⟩
          have q5' := decide_eq_false q5
          go_quiet ((go_at_call 32; refine Calls.quiet_of_same (l3Host _ _)))
          go_wp2
          exact ⟨⟨k + 1, by omega, by go_num, fun j hj => by
            by_cases h : j = k
            · subst h
              rw [HX.out]
              exact ⟨HQ1.out, by simpa using HYE.out.symm, by show 0 ≤ xs; omega, by show xs < (l1.length : Int); omega, by show (xt.size : Int) ≤ 700; omega⟩
            · exact HP.out j (by omega), below_drewN HB1.out _⟩, by simp [intOf]; omega⟩
        obtain rfl : k = l3.length := by omega
        have HY := hid (HY.out ⟨by show 1 ≤ l1.length; omega, by show l1.length ≤ 40; omega, by show l2.length = 3; omega, by show l3.length ≤ 40; omega, HJ.out, HE.out, HP.out⟩)
        go_wp2
        go_ret
        exact ⟨by rw [HY.out]; rfl, HBw.out⟩

end Go.Proofs.YtaopkchkhdbfnaaGreatDoor.Mem

namespace Go.Proofs.YtaopkchkhdbfnaaGreatDoor.Mem
open Go.RowKit Classical
set_option linter.unusedVariables false

/-- There is such a host and such a sector. -/
def Dk.There (D : Dk) (h s : Int) : Prop := (0 ≤ h ∧ h < 3) ∧ 0 ≤ s ∧ s < (D.sec.length : Int)

/-- What a host sees of a sector behind the first k writes under way. -/
def Dk.see (D : Dk) (h s : Int) : Nat → ByteArray
  | 0 => D.sec.getD s.toNat ByteArray.empty
  | k + 1 => if (D.pe.getD k Wt.none).host = h ∧ (D.pe.getD k Wt.none).sector = s then (D.pe.getD k Wt.none).text else D.see h s k

/-- What Peek answers. -/
def Dk.peek (D : Dk) (h s : Int) : ByteArray × Bool := if D.right = true ∧ (0 ≤ h ∧ h < 3) ∧ 0 ≤ s ∧ s < (D.sec.length : Int) then (D.see h s D.pe.length, true) else (ByteArray.empty, false)

end Go.Proofs.YtaopkchkhdbfnaaGreatDoor.Mem

namespace Go.Proofs.YtaopkchkhdbfnaaGreatDoor.Mem
open Go.RowKit Go.ChangeShapes Go.WideShapes Go.ChangeAt Go.Joins Go.Deep
set_option linter.unusedVariables false

variable {H : Type} {enc : TypeId × Value → H} {W : World} {base : Nat} {spare : Nat → Bool} {held : Bool}

theorem sl_of_add {w : World} {a : Addr} {m : Nat} {f : Nat → Value} (h : ∀ i, i < m → w.cell? (a.add i) = some (f i)) : Sl w (some a) m f := by
  intro i hi
  have hc := h i hi
  obtain ⟨b, off, sp⟩ := a
  have hs : sp = none := by simpa [Addr.add] using World.cell?_spot (h 0 (by omega))
  subst hs
  rw [Addr.add_mid] at hc
  exact ⟨b, off, rfl, hc⟩

theorem strs_in {fuel : Nat} {v : Value} {x : DataW H × List MemPlace} (h : DataW.trod enc Tryz.prog W base spare held fuel 22 [v] = some x) :
    ∃ a cap l, v = .slice a (l : List ByteArray).length cap ∧ Strs W a l ∧ l.length ≤ maxLen ∧ ∀ s ∈ l, s.size ≤ maxLen := by
  rcases open_strs Tryz.underlying22 Tryz.underlying9 (by kernel_rfl) h with ⟨hcs, _⟩ | ⟨a, len, cap, m, Sx, hcs, _, hl, hm, hmm, _, hx⟩
  · simp only [List.cons.injEq, and_true] at hcs
    exact ⟨none, 0, [], hcs, fun i hi => by simp at hi, by simp, by simp⟩
  · simp only [List.cons.injEq, and_true] at hcs
    have hlm : len ≤ m := by rw [hmm]; split <;> omega
    refine ⟨some a, cap, (List.range len).map Sx, by rw [hcs]; simp, ?_, by simp; omega, ?_⟩
    · unfold Strs
      rw [List.length_map, List.length_range]
      refine sl_of_add (fun i hi => ?_)
      rw [(hx i (by omega)).1]
      simp [List.getD, hi]
    · intro s hs
      obtain ⟨i, hi, rfl⟩ := List.mem_map.1 hs
      exact (hx i (by have := List.mem_range.1 hi; omega)).2

theorem ints_in {fuel : Nat} {v : Value} {x : DataW H × List MemPlace} (h : DataW.trod enc Tryz.prog W base spare held fuel 23 [v] = some x) :
    ∃ a cap l, v = .slice a (l : List Int).length cap ∧ Ints W a l ∧ l.length ≤ maxLen ∧ ∀ z ∈ l, -9223372036854775808 ≤ z ∧ z ≤ 9223372036854775807 := by
  rcases open_ints Tryz.underlying23 Tryz.underlying3 (by kernel_rfl) h with ⟨hcs, _⟩ | ⟨a, len, cap, zs, hcs, _, hl, hm, hz, _, hcell, hwz⟩
  · simp only [List.cons.injEq, and_true] at hcs
    exact ⟨none, 0, [], hcs, fun i hi => by simp at hi, by simp, by simp⟩
  · simp only [List.cons.injEq, and_true] at hcs
    have hlm : len ≤ zs.length := by rw [hz]; split <;> omega
    have e : (zs.take len).length = len := by simp; omega
    refine ⟨some a, cap, zs.take len, by rw [hcs, e], ?_, by omega, fun z hz' => bounds_i64 (hwz z (List.mem_of_mem_take hz'))⟩
    unfold Ints
    rw [e]
    refine sl_of_add (fun i hi => ?_)
    rw [hcell i (by omega)]
    simp [List.getD, hi]

set_option maxRecDepth 100000 in
/-- The four fields of a write. -/
theorem write_in {fuel : Nat} {cs : List Value} {x : DataW H × List MemPlace} (h : DataW.trod enc Tryz.prog W base spare held fuel 197 cs = some x) :
    ∃ y : Wt, cs = y.cells ∧ y.text.size ≤ maxLen := by
  obtain ⟨xs, n, _, rfl, hl, hlen, hf⟩ := DataW.trod_struct Tryz.underlying197 h
  have c4 : Tryz.prog.cellsOf 197 = 4 := by kernel_rfl
  have cs3 : Tryz.prog.cellsOf 3 = 1 := by kernel_rfl
  have cs9 : Tryz.prog.cellsOf 9 = 1 := by kernel_rfl
  rw [c4] at hl
  match xs, hlen, cs, hl with
  | [y0, y1, y2, y3], _, [v0, v1, v2, v3], _ =>
    have f0 : DataW.trod enc Tryz.prog W base spare held n 3 [v0] = some y0 := by simpa [cs3] using hf 0 _ rfl
    have f1 : DataW.trod enc Tryz.prog W base spare held n 3 [v1] = some y1 := by simpa [cs3] using hf 1 _ rfl
    have f2 : DataW.trod enc Tryz.prog W base spare held n 3 [v2] = some y2 := by simpa [cs3] using hf 2 _ rfl
    have f3 : DataW.trod enc Tryz.prog W base spare held n 9 [v3] = some y3 := by simpa [cs9] using hf 3 _ rfl
    obtain ⟨n0, e0, _, _⟩ := DataW.trod_int Tryz.underlying3 f0
    obtain ⟨n1, e1, _, _⟩ := DataW.trod_int Tryz.underlying3 f1
    obtain ⟨n2, e2, _, _⟩ := DataW.trod_int Tryz.underlying3 f2
    obtain ⟨s3, e3, _, hs⟩ := DataW.trod_string Tryz.underlying9 f3
    simp only [List.cons.injEq, and_true] at e0 e1 e2 e3
    subst e0; subst e1; subst e2; subst e3
    exact ⟨⟨n0, n1, n2, s3⟩, rfl, hs⟩

set_option maxRecDepth 100000 in
theorem writes_in {fuel : Nat} {v : Value} {x : DataW H × List MemPlace} (h : DataW.trod enc Tryz.prog W base spare held fuel 24 [v] = some x) :
    ∃ a cap l, v = .slice a (l : List Wt).length cap ∧ Wts W a l ∧ l.length ≤ maxLen ∧ ∀ y ∈ l, y.text.size ≤ maxLen := by
  have c4 : Tryz.prog.cellsOf 197 = 4 := by kernel_rfl
  rcases open_slice Tryz.underlying24 h with ⟨hcs, _⟩ | ⟨a, len, cap, m, n, D, Pl, hcs, _, hl, hm, hmm, _, hx⟩
  · simp only [List.cons.injEq, and_true] at hcs
    exact ⟨none, 0, [], hcs, fun i hi => by simp at hi, by simp, by simp⟩
  · simp only [List.cons.injEq, and_true] at hcs
    have hlm : len ≤ m := by rw [hmm]; split <;> omega
    have each : ∀ i, ∃ y : Wt, i < len → W.cells? base (a.add (i * 4)) 4 = some y.cells ∧ y.text.size ≤ maxLen := fun i => by
      by_cases hi : i < len
      · obtain ⟨cs', hc, ht⟩ := hx i (by omega)
        rw [c4] at hc
        obtain ⟨y, rfl, hy⟩ := write_in ht
        exact ⟨y, fun _ => ⟨hc, hy⟩⟩
      · exact ⟨Wt.none, fun h => absurd h hi⟩
    obtain ⟨Y, hY⟩ := Classical.axiomOfChoice each
    refine ⟨some a, cap, (List.range len).map Y, by rw [hcs]; simp, ?_, by simp; omega, ?_⟩
    · unfold Wts
      rw [List.length_map, List.length_range]
      refine sl_of_add (fun i hi => ?_)
      have hq : i / 4 < len := by omega
      have hc := (World.cells?_some (hY (i / 4) hq).1).2.2 (i % 4) (by omega)
      rw [Addr.add_add, show i / 4 * 4 + i % 4 = i by omega] at hc
      rw [hc]
      unfold wcell
      have e : ((List.range len).map Y).getD (i / 4) Wt.none = Y (i / 4) := by simp [List.getD, hq]
      rw [e]
      have : i % 4 = 0 ∨ i % 4 = 1 ∨ i % 4 = 2 ∨ i % 4 = 3 := by omega
      rcases this with h | h | h | h <;> rw [h] <;> rfl
    · intro s hs
      obtain ⟨i, hi, rfl⟩ := List.mem_map.1 hs
      exact (hY i (List.mem_range.1 hi)).2

set_option maxRecDepth 100000 in
/-- A disk that came in. -/
theorem disk_in {v : Value} {d : DataW H} {p : List MemPlace} {r : Reach} {b0 : Nat} (hv : Value.okWide Tryz.prog W r b0 26 v) (h : DataW.Trod enc Tryz.prog W base spare held 26 v d p) :
    ∃ D : Dk, DkR W v D ∧ D.Held := by
  obtain ⟨v0, v1, v2, y0, y1, y2, n, rfl, _, _, h0, h1, h2⟩ := open_agg3 Tryz.underlying26 (by kernel_rfl) (by kernel_rfl) hv h
  obtain ⟨a1, c1, l1, rfl, s1, n1, t1⟩ := strs_in h0
  obtain ⟨a2, c2, l2, rfl, s2, n2, _⟩ := ints_in h1
  obtain ⟨a3, c3, l3, rfl, s3, n3, t3⟩ := writes_in h2
  exact ⟨⟨l1, l2, l3⟩, ⟨a1, c1, a2, c2, a3, c3, rfl, s1, s2, s3⟩, ⟨n1, n2, n3, t1, t3⟩⟩

end Go.Proofs.YtaopkchkhdbfnaaGreatDoor.Mem

namespace Go.Proofs.YtaopkchkhdbfnaaGreatDoor.Pl
open Go.RowKit Go.ChangeShapes Go.WideShapes Go.ChangeAt Go.Joins Go.Deep
open Go.Proofs.YtaopkchkhdbfnaaGreatDoor.Mem Go.Proofs.YtaopkchkhdbfnaaGreatDoor.Sec
set_option linter.unusedVariables false

/-- A world: its disk, its hosts, what landed, what was seen and what was replied. -/
structure Wd where
  D : Dk
  hs : List Ho
  log : List Ev
  seen : List Int
  rep : List Rp

def wdL (a1 a2 a3 a4 a5 a6 a7 : Option Addr) (c1 c2 c3 c4 c5 c6 c7 : Nat) (n1 n2 n3 n4 n5 n6 n7 : Nat) : List Value := [.slice a1 n1 c1, .slice a2 n2 c2, .slice a3 n3 c3, .slice a4 n4 c4, .slice a5 n5 c5, .slice a6 n6 c6, .slice a7 n7 c7]

/-- v is the world X in w. -/
def WdR (w : World) (v : Value) (X : Wd) : Prop := ∃ a1 c1 a2 c2 a3 c3 a4 c4 a5 c5 a6 c6 a7 c7, ∃ L : List Hx, v = .agg #[.slice a1 X.D.sec.length c1, .slice a2 X.D.ep.length c2, .slice a3 X.D.pe.length c3, .slice a4 L.length c4, .slice a5 X.log.length c5, .slice a6 X.seen.length c6, .slice a7 X.rep.length c7] ∧ L.map (·.H) = X.hs ∧
  Strs w a1 X.D.sec ∧ Ints w a2 X.D.ep ∧ Wts w a3 X.D.pe ∧ Hos w a4 L ∧ Evs w a5 X.log ∧ Ints w a6 X.seen ∧ Rps w a7 X.rep

theorem WdR.below {w w' : World} {v : Value} {X : Wd} (h : WdR w v X) (b : Below w.heap.size w w') : WdR w' v X := by
  obtain ⟨a1, c1, a2, c2, a3, c3, a4, c4, a5, c5, a6, c6, a7, c7, L, e, m, s1, s2, s3, s4, s5, s6, s7⟩ := h
  exact ⟨a1, c1, a2, c2, a3, c3, a4, c4, a5, c5, a6, c6, a7, c7, L, e, m, Sl.below s1 b, Sl.below s2 b, Sl.below s3 b, Hos.below s4 b, Sl.below s5 b, Sl.below s6 b, Sl.below s7 b⟩

/-- All lists and texts are of at most 2^20. -/
structure Wd.Small (X : Wd) : Prop where
  d1 : X.D.sec.length ≤ 1048576
  d2 : X.D.ep.length ≤ 1048576
  d3 : X.D.pe.length ≤ 1048576
  h : X.hs.length ≤ 1048576
  hh : ∀ x ∈ X.hs, x.Upto 1048576
  e : X.log.length ≤ 1048576
  s : X.seen.length ≤ 1048576
  r : X.rep.length ≤ 1048576
  dt : ∀ x ∈ X.D.sec, x.size ≤ 1048576
  dw : ∀ x ∈ X.D.pe, x.text.size ≤ 1048576
  et : ∀ x ∈ X.log, x.s.size ≤ 1048576
  rt : ∀ x ∈ X.rep, x.s.size ≤ 1048576 ∧ x.d.size ≤ 1048576

/-- All that Go can hold. -/
structure Wd.Held (X : Wd) : Prop where
  d : X.D.Held
  h : X.hs.length ≤ maxLen
  hh : ∀ x ∈ X.hs, x.Upto maxLen
  e : X.log.length ≤ maxLen
  et : ∀ x ∈ X.log, x.s.size ≤ maxLen
  s : X.seen.length ≤ maxLen
  r : X.rep.length ≤ maxLen
  rt : ∀ x ∈ X.rep, x.s.size ≤ maxLen ∧ x.d.size ≤ maxLen

set_option maxRecDepth 100000 in
set_option maxHeartbeats 4000000 in
theorem szWorld (w : World) (v : Value) (X : Wd) (left : Int) (h : WdR w v X) (hh : X.Held) (h0 : 0 ≤ left) (h1 : left ≤ 1048576) :
    Calls Tryz.prog 8 #[v, .int .i64 left] w fun e w' => ∃ r, e = .returned (.int .i64 r) ∧ Below w.heap.size w w' ∧ (r < 0 ∨ X.Small) := by
  obtain ⟨a1, c1, a2, c2, a3, c3, a4, c4, a5, c5, a6, c6, a7, c7, L, rfl, hm, s1, s2, s3, s4, s5, s6, s7⟩ := h
  have HS1 := hid (show DkR w (.agg #[.slice a1 X.D.sec.length c1, .slice a2 X.D.ep.length c2, .slice a3 X.D.pe.length c3]) X.D from ⟨a1, c1, a2, c2, a3, c3, rfl, s1, s2, s3⟩)
  have HS4 := hid s4
  have HS5 := hid s5
  have HS6 := hid s6
  have HS7 := hid s7
  have HH := hid hh
  have HM := hid hm
  have HLl : Hid (L.length ≤ maxLen) := by have := hh.h; rw [← hm, List.length_map] at this; exact this
  have HLx : Hid (∀ x ∈ L, x.H.Upto maxLen) := fun x hx => hh.hh _ (by rw [← hm]; exact List.mem_map_of_mem hx)
  have hln : L.length = X.hs.length := by rw [← hm, List.length_map]
  have HLN := hid hln
  clear s1 s2 s3 s4 s5 s6 s7 hh hm hln
  obtain ⟨wa, hwa, ez, A0, B0⟩ := one_new w [.slice a1 X.D.sec.length c1, .slice a2 X.D.ep.length c2, .slice a3 X.D.pe.length c3, .slice a4 L.length c4, .slice a5 X.log.length c5, .slice a6 X.seen.length c6, .slice a7 X.rep.length c7] 31
  have k0 := A0.c 0 rfl
  have k1 := A0.c 1 rfl
  have k2 := A0.c 2 rfl
  have HA := hid A0
  have HB := hid B0
  clear A0 B0 ez
  go_enter Tryz.func8, Tryz.ntmps8
  go_wp2_with fail
  try simp only [hwa]
  clear hwa
  refine (szDisk wa _ X.D left (HS1.out.below HB.out) HH.out.d h0 h1).mono ?_
  rintro e w1 ⟨r1, rfl, b1, f1⟩
  have HA1 := hid (HA.out.below b1 HA.out.lt)
  have HB1 := hid (HB.out.trans (b1.mono HB.out.size))
  have HF1 := hid f1
  clear b1 f1 k0 k1 k2 HA HB
  by_cases hr1 : r1 < 0
  · go_wp2
    go_ret
    exact ⟨_, rfl, HB1.out, Or.inl (by decide)⟩
  have hq1 : 0 ≤ r1 := by omega
  have hq1' : r1 ≤ 1048576 := by
    have := HF1.out
    rcases this with h | h
    · omega
    · have := h.2.1; omega
  have k3 := HA1.out.c 3 rfl
  go_wp2_with fail
  refine (szHostS w1 a4 c4 L r1 (HS4.out.below HB1.out) HLl.out HLx.out hq1 hq1').mono ?_
  rintro e w2 ⟨r2, rfl, b2, f2⟩
  have HA2 := hid (HA1.out.below b2 HA1.out.lt)
  have HB2 := hid (HB1.out.trans (b2.mono HB1.out.size))
  have HF2 := hid f2
  clear b2 f2 k3 HA1 HB1
  by_cases hr2 : r2 < 0
  · go_wp2
    go_ret
    exact ⟨_, rfl, HB2.out, Or.inl (by decide)⟩
  have hq2 : 0 ≤ r2 := by omega
  have hq2' : r2 ≤ 1048576 := by
    rcases HF2.out with h | h
    · omega
    · have := h.2.1; omega
  have k4 := HA2.out.c 4 rfl
  go_wp2_with fail
  refine (szEventS w2 a5 c5 X.log r2 (Sl.below HS5.out HB2.out) HH.out.e HH.out.et hq2 hq2').mono ?_
  rintro e w3 ⟨r3, rfl, b3, f3⟩
  have HA3 := hid (HA2.out.below b3 HA2.out.lt)
  have HB3 := hid (HB2.out.trans (b3.mono HB2.out.size))
  have HF3 := hid f3
  clear b3 f3 k4 HA2 HB2
  by_cases hr3 : r3 < 0
  · go_wp2
    go_ret
    exact ⟨_, rfl, HB3.out, Or.inl (by decide)⟩
  have hq3 : 0 ≤ r3 := by omega
  have hq3' : r3 ≤ 1048576 := by
    rcases HF3.out with h | h
    · omega
    · have := h.2.1; omega
  have k5 := HA3.out.c 5 rfl
  have hsl : X.seen.length ≤ maxLen := HH.out.s
  go_wp2_with fail
  refine (szIntS w3 a6 c6 X.seen.length r3 hsl hq3 hq3').mono ?_
  rintro e w4 ⟨r4, rfl, b4, f4⟩
  subst b4
  have HA4 := HA3
  have HB4 := HB3
  have HF4 := hid f4
  clear f4 k5 HA3 HB3 hsl
  by_cases hr4 : r4 < 0
  · go_wp2
    go_ret
    exact ⟨_, rfl, HB4.out, Or.inl (by decide)⟩
  have hq4 : 0 ≤ r4 := by omega
  have hq4' : r4 ≤ 1048576 := by
    have := HF4.out
    rcases this with h | h
    · omega
    · have := h.2.1; omega
  have k6 := HA4.out.c 6 rfl
  go_wp2_with fail
  refine (szReplyS w4 a7 c7 X.rep r4 (Sl.below HS7.out HB4.out) HH.out.r HH.out.rt hq4 hq4').mono ?_
  rintro e w5 ⟨r5, rfl, b5, f5⟩
  have HB5 := hid (HB4.out.trans (b5.mono HB4.out.size))
  have HF5 := hid f5
  clear b5 f5 k6 HB4
  by_cases hr5 : r5 < 0
  · go_wp2
    go_ret
    exact ⟨_, rfl, HB5.out, Or.inl (by decide)⟩
  · have HX : Hid X.Small := by
      have g1 : X.D.Small left := by
        rcases HF1.out with h | h
        · omega
        · exact h.2.2
      have g1r : r1 ≤ left := by
        rcases HF1.out with h | h
        · omega
        · exact h.2.1
      have g2 : r2 ≤ r1 ∧ (L.length : Int) ≤ r1 ∧ ∀ x ∈ L, x.H.Upto 1048576 := by
        rcases HF2.out with h | h
        · omega
        · exact h.2
      have g3 : r3 ≤ r2 ∧ (X.log.length : Int) ≤ r2 ∧ ∀ x ∈ X.log, (x.s.size : Int) ≤ r2 := by
        rcases HF3.out with h | h
        · omega
        · exact h.2
      have g4 : r4 ≤ r3 ∧ (X.seen.length : Int) ≤ r3 := by
        rcases HF4.out with h | h
        · omega
        · exact h.2
      have g5 : r5 ≤ r4 ∧ (X.rep.length : Int) ≤ r4 ∧ ∀ x ∈ X.rep, (x.s.size : Int) ≤ r4 ∧ (x.d.size : Int) ≤ r4 := by
        rcases HF5.out with h | h
        · omega
        · exact h.2
      obtain ⟨q1, q2, q3, q4, q5⟩ := g1
      have hln := HLN.out
      have gm : ∀ x ∈ X.hs, x.Upto 1048576 := fun x hx => by
        rw [← HM.out] at hx
        obtain ⟨y, hy, rfl⟩ := List.mem_map.1 hx
        exact g2.2.2 y hy
      refine ⟨by omega, by omega, by omega, by omega, gm, by omega, by omega, by omega, fun x hx => ?_, fun x hx => ?_, fun x hx => ?_, fun x hx => ?_⟩
      · have := q4 x hx; omega
      · have := q5 x hx; omega
      · have := g3.2.2 x hx; omega
      · have := g5.2.2 x hx; omega
    go_wp2
    go_ret
    exact ⟨_, rfl, HB5.out, Or.inr HX.out⟩

set_option maxRecDepth 100000 in
set_option maxHeartbeats 4000000 in
theorem toWorld (w : World) (v : Value) (X : Wd) (h : WdR w v X) (hs : X.Small) :
    Calls Tryz.prog 10 #[v] w fun e w' => ∃ v', e = .returned v' ∧ WdR w' v' X ∧ Below w.heap.size w w' := by
  obtain ⟨a1, c1, a2, c2, a3, c3, a4, c4, a5, c5, a6, c6, a7, c7, L, rfl, hm, s1, s2, s3, s4, s5, s6, s7⟩ := h
  have HS1 := hid (show DkR w (.agg #[.slice a1 X.D.sec.length c1, .slice a2 X.D.ep.length c2, .slice a3 X.D.pe.length c3]) X.D from ⟨a1, c1, a2, c2, a3, c3, rfl, s1, s2, s3⟩)
  have HS4 := hid s4
  have HS5 := hid s5
  have HS6 := hid s6
  have HS7 := hid s7
  have HM := hid hm
  have hl1 := hs.d1
  have hl2 := hs.d2
  have hl3 := hs.d3
  have hl4 : L.length ≤ 1048576 := by have := hs.h; rw [← hm, List.length_map] at this; exact this
  have HL4 : Hid (∀ x ∈ L, x.H.l.length ≤ 1048576) := fun x hx => (hs.hh _ (by rw [← hm]; exact List.mem_map_of_mem hx)).l
  have hl5 := hs.e
  have hl6 := hs.s
  have hl7 := hs.r
  clear s1 s2 s3 s4 s5 s6 s7 hm hs
  go_enter Tryz.func10, Tryz.ntmps10
  go_wp2_with fail
  obtain ⟨wc, hwc, e2, A0, R0, O0, B0⟩ := three_new w [.slice a1 X.D.sec.length c1, .slice a2 X.D.ep.length c2, .slice a3 X.D.pe.length c3, .slice a4 L.length c4, .slice a5 X.log.length c5, .slice a6 X.seen.length c6, .slice a7 X.rep.length c7] [.slice none 0 0, .slice none 0 0, .slice none 0 0, .slice none 0 0, .slice none 0 0, .slice none 0 0, .slice none 0 0] 31 41
  simp only [hwc]
  clear hwc
  refine (toDisk wc _ X.D (HS1.out.below B0) hl1 hl2 hl3).mono ?_
  rintro e w1 ⟨v1, rfl, S1, b1⟩
  have HA := hid (A0.below b1 A0.lt)
  have HR := hid (R0.below b1 R0.lt)
  have HO := hid (O0.below b1 O0.lt)
  have HB := hid (B0.trans (b1.mono (by omega)))
  have hsz := b1.size
  obtain ⟨p1, d1, p2, d2, p3, d3, rfl, t1, t2, t3, _, _⟩ := S1
  have T1 := hid (Wr.mono t1 (show w.heap.size + 1 + 1 + 1 ≤ wc.heap.size by omega))
  have T2 := hid (Wr.mono t2 (show w.heap.size + 1 + 1 + 1 ≤ wc.heap.size by omega))
  have T3 := hid (Wr.mono t3 (show w.heap.size + 1 + 1 + 1 ≤ wc.heap.size by omega))
  clear t1 t2 t3 A0 R0 O0 B0 b1
  have k3 := HA.out.c 3 rfl
  have o0 := HO.out.c 0 rfl
  have o1 := HO.out.c 1 rfl
  have o2 := HO.out.c 2 rfl
  have f0 := HO.out.f 0
  have f1 := HO.out.f 1
  have f2 := HO.out.f 2
  go_wp2_with fail
  clear k3 o0 o1 o2 f0 f1 f2
  obtain ⟨w1', hw1', A0, R0, O0, B0, T1, T2, T3⟩ : ∃ w', (((w1.setCell ⟨w.heap.size + 1 + 1, 0, none⟩ (.slice p1 X.D.sec.length d1)).setCell ⟨w.heap.size + 1 + 1, 1, none⟩ (.slice p2 X.D.ep.length d2)).setCell ⟨w.heap.size + 1 + 1, 2, none⟩ (.slice p3 X.D.pe.length d3)) = w' ∧ Row w' w.heap.size _ ∧ Row w' (w.heap.size + 1) _ ∧ Row w' (w.heap.size + 1 + 1) _ ∧ Hid (Below w.heap.size w w') ∧ Hid (StrsW w' (w.heap.size + 1 + 1 + 1) p1 X.D.sec) ∧ Hid (IntsW w' (w.heap.size + 1 + 1 + 1) p2 X.D.ep) ∧ Hid (WtsW w' (w.heap.size + 1 + 1 + 1) p3 X.D.pe) :=
    ⟨_, rfl, puts_other HA.out (by omega) 0 [.slice p1 X.D.sec.length d1, .slice p2 X.D.ep.length d2, .slice p3 X.D.pe.length d3], puts_other HR.out (by omega) 0 [.slice p1 X.D.sec.length d1, .slice p2 X.D.ep.length d2, .slice p3 X.D.pe.length d3], puts_row HO.out 0 [.slice p1 X.D.sec.length d1, .slice p2 X.D.ep.length d2, .slice p3 X.D.pe.length d3], puts_below HB.out (by omega) 0 [.slice p1 X.D.sec.length d1, .slice p2 X.D.ep.length d2, .slice p3 X.D.pe.length d3], Wr.over T1.out ((puts_kept _ (w.heap.size + 1 + 1) 0 [.slice p1 X.D.sec.length d1, .slice p2 X.D.ep.length d2, .slice p3 X.D.pe.length d3]).mono (fun b _ h => by omega)), Wr.over T2.out ((puts_kept _ (w.heap.size + 1 + 1) 0 [.slice p1 X.D.sec.length d1, .slice p2 X.D.ep.length d2, .slice p3 X.D.pe.length d3]).mono (fun b _ h => by omega)), Wr.over T3.out ((puts_kept _ (w.heap.size + 1 + 1) 0 [.slice p1 X.D.sec.length d1, .slice p2 X.D.ep.length d2, .slice p3 X.D.pe.length d3]).mono (fun b _ h => by omega))⟩
  try simp only [hw1']
  clear hw1' HA HR HO HB
  refine (toHostS w1' a4 c4 L (HS4.out.below B0.out) hl4 HL4.out).mono ?_
  rintro e w4 ⟨g4, L', rfl, hm', hg4, hg4', t4, b4⟩
  have HA := hid (A0.below b4 A0.lt)
  have HR := hid (R0.below b4 R0.lt)
  have HO := hid (O0.below b4 O0.lt)
  have hle := B0.out.size
  have hl8 := O0.lt
  have HB := hid (B0.out.trans (b4.mono B0.out.size))
  replace T1 := hid (Wr.over T1.out (Kept.of_below b4))
  replace T2 := hid (Wr.over T2.out (Kept.of_below b4))
  replace T3 := hid (Wr.over T3.out (Kept.of_below b4))
  have T4 := hid (HosW.mono t4 (show w.heap.size + 1 + 1 + 1 ≤ w1'.heap.size by omega))
  clear A0 R0 O0 B0 b4 t4 hle hl8
  have k := HA.out.c 4 rfl
  have o := HO.out.c 3 rfl
  have f := HO.out.f 3
  go_wp2_with fail
  clear k o f
  obtain ⟨w4', hw4', A0, R0, O0, B0, T1, T2, T3, T4⟩ : ∃ w', (w4.setCell ⟨w.heap.size + 1 + 1, 3, none⟩ (.slice (some ⟨g4, 0, none⟩) L'.length L'.length)) = w' ∧ Row w' w.heap.size _ ∧ Row w' (w.heap.size + 1) _ ∧ Row w' (w.heap.size + 1 + 1) _ ∧ Hid (Below w.heap.size w w') ∧ Hid (StrsW w' (w.heap.size + 1 + 1 + 1) p1 X.D.sec) ∧ Hid (IntsW w' (w.heap.size + 1 + 1 + 1) p2 X.D.ep) ∧ Hid (WtsW w' (w.heap.size + 1 + 1 + 1) p3 X.D.pe) ∧ Hid (HosW w' (w.heap.size + 1 + 1 + 1) (some ⟨g4, 0, none⟩) L') :=
    ⟨_, rfl, puts_other HA.out (by omega) 3 [.slice (some ⟨g4, 0, none⟩) L'.length L'.length], puts_other HR.out (by omega) 3 [.slice (some ⟨g4, 0, none⟩) L'.length L'.length], puts_row HO.out 3 [.slice (some ⟨g4, 0, none⟩) L'.length L'.length], puts_below HB.out (by omega) 3 [.slice (some ⟨g4, 0, none⟩) L'.length L'.length], Wr.over T1.out ((puts_kept _ (w.heap.size + 1 + 1) 3 [.slice (some ⟨g4, 0, none⟩) L'.length L'.length]).mono (fun b _ h => by omega)), Wr.over T2.out ((puts_kept _ (w.heap.size + 1 + 1) 3 [.slice (some ⟨g4, 0, none⟩) L'.length L'.length]).mono (fun b _ h => by omega)), Wr.over T3.out ((puts_kept _ (w.heap.size + 1 + 1) 3 [.slice (some ⟨g4, 0, none⟩) L'.length L'.length]).mono (fun b _ h => by omega)), HosW.over T4.out ((puts_kept _ (w.heap.size + 1 + 1) 3 [.slice (some ⟨g4, 0, none⟩) L'.length L'.length]).mono (fun b _ h => by omega))⟩
  try simp only [hw4']
  clear hw4' HA HR HO HB
  refine (toEventS w4' a5 c5 X.log (Sl.below HS5.out B0.out) hl5).mono ?_
  rintro e w5 ⟨g5, rfl, hg5, hg5', t5, b5⟩
  have HA := hid (A0.below b5 A0.lt)
  have HR := hid (R0.below b5 R0.lt)
  have HO := hid (O0.below b5 O0.lt)
  have hle := B0.out.size
  have hl8 := O0.lt
  have HB := hid (B0.out.trans (b5.mono B0.out.size))
  replace T1 := hid (Wr.over T1.out (Kept.of_below b5))
  replace T2 := hid (Wr.over T2.out (Kept.of_below b5))
  replace T3 := hid (Wr.over T3.out (Kept.of_below b5))
  replace T4 := hid (HosW.over T4.out (Kept.of_below b5))
  have T5 := hid (Wr.mono t5 (show w.heap.size + 1 + 1 + 1 ≤ w4'.heap.size by omega))
  clear A0 R0 O0 B0 b5 t5 hle hl8
  have k := HA.out.c 5 rfl
  have o := HO.out.c 4 rfl
  have f := HO.out.f 4
  go_wp2_with fail
  clear k o f
  obtain ⟨w5', hw5', A0, R0, O0, B0, T1, T2, T3, T4, T5⟩ : ∃ w', (w5.setCell ⟨w.heap.size + 1 + 1, 4, none⟩ (.slice (some ⟨g5, 0, none⟩) X.log.length X.log.length)) = w' ∧ Row w' w.heap.size _ ∧ Row w' (w.heap.size + 1) _ ∧ Row w' (w.heap.size + 1 + 1) _ ∧ Hid (Below w.heap.size w w') ∧ Hid (StrsW w' (w.heap.size + 1 + 1 + 1) p1 X.D.sec) ∧ Hid (IntsW w' (w.heap.size + 1 + 1 + 1) p2 X.D.ep) ∧ Hid (WtsW w' (w.heap.size + 1 + 1 + 1) p3 X.D.pe) ∧ Hid (HosW w' (w.heap.size + 1 + 1 + 1) (some ⟨g4, 0, none⟩) L') ∧ Hid (EvsW w' (w.heap.size + 1 + 1 + 1) (some ⟨g5, 0, none⟩) X.log) :=
    ⟨_, rfl, puts_other HA.out (by omega) 4 [.slice (some ⟨g5, 0, none⟩) X.log.length X.log.length], puts_other HR.out (by omega) 4 [.slice (some ⟨g5, 0, none⟩) X.log.length X.log.length], puts_row HO.out 4 [.slice (some ⟨g5, 0, none⟩) X.log.length X.log.length], puts_below HB.out (by omega) 4 [.slice (some ⟨g5, 0, none⟩) X.log.length X.log.length], Wr.over T1.out ((puts_kept _ (w.heap.size + 1 + 1) 4 [.slice (some ⟨g5, 0, none⟩) X.log.length X.log.length]).mono (fun b _ h => by omega)), Wr.over T2.out ((puts_kept _ (w.heap.size + 1 + 1) 4 [.slice (some ⟨g5, 0, none⟩) X.log.length X.log.length]).mono (fun b _ h => by omega)), Wr.over T3.out ((puts_kept _ (w.heap.size + 1 + 1) 4 [.slice (some ⟨g5, 0, none⟩) X.log.length X.log.length]).mono (fun b _ h => by omega)), HosW.over T4.out ((puts_kept _ (w.heap.size + 1 + 1) 4 [.slice (some ⟨g5, 0, none⟩) X.log.length X.log.length]).mono (fun b _ h => by omega)), Wr.over T5.out ((puts_kept _ (w.heap.size + 1 + 1) 4 [.slice (some ⟨g5, 0, none⟩) X.log.length X.log.length]).mono (fun b _ h => by omega))⟩
  try simp only [hw5']
  clear hw5' HA HR HO HB
  refine (toIntS w5' a6 c6 X.seen (Sl.below HS6.out B0.out) hl6).mono ?_
  rintro e w6 ⟨g6, rfl, hg6, hg6', t6, b6⟩
  have HA := hid (A0.below b6 A0.lt)
  have HR := hid (R0.below b6 R0.lt)
  have HO := hid (O0.below b6 O0.lt)
  have hle := B0.out.size
  have hl8 := O0.lt
  have HB := hid (B0.out.trans (b6.mono B0.out.size))
  replace T1 := hid (Wr.over T1.out (Kept.of_below b6))
  replace T2 := hid (Wr.over T2.out (Kept.of_below b6))
  replace T3 := hid (Wr.over T3.out (Kept.of_below b6))
  replace T4 := hid (HosW.over T4.out (Kept.of_below b6))
  replace T5 := hid (Wr.over T5.out (Kept.of_below b6))
  have T6 := hid (Wr.mono t6 (show w.heap.size + 1 + 1 + 1 ≤ w5'.heap.size by omega))
  clear A0 R0 O0 B0 b6 t6 hle hl8
  have k := HA.out.c 6 rfl
  have o := HO.out.c 5 rfl
  have f := HO.out.f 5
  go_wp2_with fail
  clear k o f
  obtain ⟨w6', hw6', A0, R0, O0, B0, T1, T2, T3, T4, T5, T6⟩ : ∃ w', (w6.setCell ⟨w.heap.size + 1 + 1, 5, none⟩ (.slice (some ⟨g6, 0, none⟩) X.seen.length X.seen.length)) = w' ∧ Row w' w.heap.size _ ∧ Row w' (w.heap.size + 1) _ ∧ Row w' (w.heap.size + 1 + 1) _ ∧ Hid (Below w.heap.size w w') ∧ Hid (StrsW w' (w.heap.size + 1 + 1 + 1) p1 X.D.sec) ∧ Hid (IntsW w' (w.heap.size + 1 + 1 + 1) p2 X.D.ep) ∧ Hid (WtsW w' (w.heap.size + 1 + 1 + 1) p3 X.D.pe) ∧ Hid (HosW w' (w.heap.size + 1 + 1 + 1) (some ⟨g4, 0, none⟩) L') ∧ Hid (EvsW w' (w.heap.size + 1 + 1 + 1) (some ⟨g5, 0, none⟩) X.log) ∧ Hid (IntsW w' (w.heap.size + 1 + 1 + 1) (some ⟨g6, 0, none⟩) X.seen) :=
    ⟨_, rfl, puts_other HA.out (by omega) 5 [.slice (some ⟨g6, 0, none⟩) X.seen.length X.seen.length], puts_other HR.out (by omega) 5 [.slice (some ⟨g6, 0, none⟩) X.seen.length X.seen.length], puts_row HO.out 5 [.slice (some ⟨g6, 0, none⟩) X.seen.length X.seen.length], puts_below HB.out (by omega) 5 [.slice (some ⟨g6, 0, none⟩) X.seen.length X.seen.length], Wr.over T1.out ((puts_kept _ (w.heap.size + 1 + 1) 5 [.slice (some ⟨g6, 0, none⟩) X.seen.length X.seen.length]).mono (fun b _ h => by omega)), Wr.over T2.out ((puts_kept _ (w.heap.size + 1 + 1) 5 [.slice (some ⟨g6, 0, none⟩) X.seen.length X.seen.length]).mono (fun b _ h => by omega)), Wr.over T3.out ((puts_kept _ (w.heap.size + 1 + 1) 5 [.slice (some ⟨g6, 0, none⟩) X.seen.length X.seen.length]).mono (fun b _ h => by omega)), HosW.over T4.out ((puts_kept _ (w.heap.size + 1 + 1) 5 [.slice (some ⟨g6, 0, none⟩) X.seen.length X.seen.length]).mono (fun b _ h => by omega)), Wr.over T5.out ((puts_kept _ (w.heap.size + 1 + 1) 5 [.slice (some ⟨g6, 0, none⟩) X.seen.length X.seen.length]).mono (fun b _ h => by omega)), Wr.over T6.out ((puts_kept _ (w.heap.size + 1 + 1) 5 [.slice (some ⟨g6, 0, none⟩) X.seen.length X.seen.length]).mono (fun b _ h => by omega))⟩
  try simp only [hw6']
  clear hw6' HA HR HO HB
  refine (toReplyS w6' a7 c7 X.rep (Sl.below HS7.out B0.out) hl7).mono ?_
  rintro e w7 ⟨g7, rfl, hg7, hg7', t7, b7⟩
  have HA := hid (A0.below b7 A0.lt)
  have HR := hid (R0.below b7 R0.lt)
  have HO := hid (O0.below b7 O0.lt)
  have hle := B0.out.size
  have hl8 := O0.lt
  have HB := hid (B0.out.trans (b7.mono B0.out.size))
  replace T1 := hid (Wr.over T1.out (Kept.of_below b7))
  replace T2 := hid (Wr.over T2.out (Kept.of_below b7))
  replace T3 := hid (Wr.over T3.out (Kept.of_below b7))
  replace T4 := hid (HosW.over T4.out (Kept.of_below b7))
  replace T5 := hid (Wr.over T5.out (Kept.of_below b7))
  replace T6 := hid (Wr.over T6.out (Kept.of_below b7))
  have T7 := hid (Wr.mono t7 (show w.heap.size + 1 + 1 + 1 ≤ w6'.heap.size by omega))
  clear A0 R0 O0 B0 b7 t7 hle hl8
  have o := HO.out.c 6 rfl
  have f := HO.out.f 6
  go_upto_region 7 with fail
  clear o f
  obtain ⟨w7', hw7', A0, R0, O0, B0, T1, T2, T3, T4, T5, T6, T7⟩ : ∃ w', (w7.setCell ⟨w.heap.size + 1 + 1, 6, none⟩ (.slice (some ⟨g7, 0, none⟩) X.rep.length X.rep.length)) = w' ∧ Row w' w.heap.size _ ∧ Row w' (w.heap.size + 1) _ ∧ Row w' (w.heap.size + 1 + 1) _ ∧ Hid (Below w.heap.size w w') ∧ Hid (StrsW w' (w.heap.size + 1 + 1 + 1) p1 X.D.sec) ∧ Hid (IntsW w' (w.heap.size + 1 + 1 + 1) p2 X.D.ep) ∧ Hid (WtsW w' (w.heap.size + 1 + 1 + 1) p3 X.D.pe) ∧ Hid (HosW w' (w.heap.size + 1 + 1 + 1) (some ⟨g4, 0, none⟩) L') ∧ Hid (EvsW w' (w.heap.size + 1 + 1 + 1) (some ⟨g5, 0, none⟩) X.log) ∧ Hid (IntsW w' (w.heap.size + 1 + 1 + 1) (some ⟨g6, 0, none⟩) X.seen) ∧ Hid (RpsW w' (w.heap.size + 1 + 1 + 1) (some ⟨g7, 0, none⟩) X.rep) :=
    ⟨_, rfl, puts_other HA.out (by omega) 6 [.slice (some ⟨g7, 0, none⟩) X.rep.length X.rep.length], puts_other HR.out (by omega) 6 [.slice (some ⟨g7, 0, none⟩) X.rep.length X.rep.length], puts_row HO.out 6 [.slice (some ⟨g7, 0, none⟩) X.rep.length X.rep.length], puts_below HB.out (by omega) 6 [.slice (some ⟨g7, 0, none⟩) X.rep.length X.rep.length], Wr.over T1.out ((puts_kept _ (w.heap.size + 1 + 1) 6 [.slice (some ⟨g7, 0, none⟩) X.rep.length X.rep.length]).mono (fun b _ h => by omega)), Wr.over T2.out ((puts_kept _ (w.heap.size + 1 + 1) 6 [.slice (some ⟨g7, 0, none⟩) X.rep.length X.rep.length]).mono (fun b _ h => by omega)), Wr.over T3.out ((puts_kept _ (w.heap.size + 1 + 1) 6 [.slice (some ⟨g7, 0, none⟩) X.rep.length X.rep.length]).mono (fun b _ h => by omega)), HosW.over T4.out ((puts_kept _ (w.heap.size + 1 + 1) 6 [.slice (some ⟨g7, 0, none⟩) X.rep.length X.rep.length]).mono (fun b _ h => by omega)), Wr.over T5.out ((puts_kept _ (w.heap.size + 1 + 1) 6 [.slice (some ⟨g7, 0, none⟩) X.rep.length X.rep.length]).mono (fun b _ h => by omega)), Wr.over T6.out ((puts_kept _ (w.heap.size + 1 + 1) 6 [.slice (some ⟨g7, 0, none⟩) X.rep.length X.rep.length]).mono (fun b _ h => by omega)), Wr.over T7.out ((puts_kept _ (w.heap.size + 1 + 1) 6 [.slice (some ⟨g7, 0, none⟩) X.rep.length X.rep.length]).mono (fun b _ h => by omega))⟩
  try simp only [hw7']
  clear hw7' HA HR HO HB
  refine wp_region_list ?_
  refine wpList_load_row rfl 41 _ rfl (w.heap.size + 1 + 1) rfl [.slice p1 X.D.sec.length d1, .slice p2 X.D.ep.length d2, .slice p3 X.D.pe.length d3, .slice (some ⟨g4, 0, none⟩) L'.length L'.length, .slice (some ⟨g5, 0, none⟩) X.log.length X.log.length, .slice (some ⟨g6, 0, none⟩) X.seen.length X.seen.length, .slice (some ⟨g7, 0, none⟩) X.rep.length X.rep.length] _ O0 Tryz.underlying41 rfl (by kernel_rfl) ?_
  refine wpList_store_row rfl 41 _ _ rfl (w.heap.size + 1) rfl _ [.slice p1 X.D.sec.length d1, .slice p2 X.D.ep.length d2, .slice p3 X.D.pe.length d3, .slice (some ⟨g4, 0, none⟩) L'.length L'.length, .slice (some ⟨g5, 0, none⟩) X.log.length X.log.length, .slice (some ⟨g6, 0, none⟩) X.seen.length X.seen.length, .slice (some ⟨g7, 0, none⟩) X.rep.length X.rep.length] rfl R0 rfl (by kernel_rfl) rfl ?_
  have HR3 := hid (puts_row R0 0 [.slice p1 X.D.sec.length d1, .slice p2 X.D.ep.length d2, .slice p3 X.D.pe.length d3, .slice (some ⟨g4, 0, none⟩) L'.length L'.length, .slice (some ⟨g5, 0, none⟩) X.log.length X.log.length, .slice (some ⟨g6, 0, none⟩) X.seen.length X.seen.length, .slice (some ⟨g7, 0, none⟩) X.rep.length X.rep.length])
  have HB3 := hid (puts_below B0.out (show w.heap.size ≤ w.heap.size + 1 by omega) 0 [.slice p1 X.D.sec.length d1, .slice p2 X.D.ep.length d2, .slice p3 X.D.pe.length d3, .slice (some ⟨g4, 0, none⟩) L'.length L'.length, .slice (some ⟨g5, 0, none⟩) X.log.length X.log.length, .slice (some ⟨g6, 0, none⟩) X.seen.length X.seen.length, .slice (some ⟨g7, 0, none⟩) X.rep.length X.rep.length])
  have KK := (puts_kept w7' (w.heap.size + 1) 0 [.slice p1 X.D.sec.length d1, .slice p2 X.D.ep.length d2, .slice p3 X.D.pe.length d3, .slice (some ⟨g4, 0, none⟩) L'.length L'.length, .slice (some ⟨g5, 0, none⟩) X.log.length X.log.length, .slice (some ⟨g6, 0, none⟩) X.seen.length X.seen.length, .slice (some ⟨g7, 0, none⟩) X.rep.length X.rep.length]).mono (T := fun b => b < w.heap.size + 1 + 1 + 1) (fun b _ h => by omega)
  have HX : Hid (WdR (puts w7' (w.heap.size + 1) 0 [.slice p1 X.D.sec.length d1, .slice p2 X.D.ep.length d2, .slice p3 X.D.pe.length d3, .slice (some ⟨g4, 0, none⟩) L'.length L'.length, .slice (some ⟨g5, 0, none⟩) X.log.length X.log.length, .slice (some ⟨g6, 0, none⟩) X.seen.length X.seen.length, .slice (some ⟨g7, 0, none⟩) X.rep.length X.rep.length]) (.agg #[.slice p1 X.D.sec.length d1, .slice p2 X.D.ep.length d2, .slice p3 X.D.pe.length d3, .slice (some ⟨g4, 0, none⟩) L'.length L'.length, .slice (some ⟨g5, 0, none⟩) X.log.length X.log.length, .slice (some ⟨g6, 0, none⟩) X.seen.length X.seen.length, .slice (some ⟨g7, 0, none⟩) X.rep.length X.rep.length]) X) :=
    ⟨_, _, _, _, _, _, _, _, _, _, _, _, _, _, L', rfl, hm'.trans HM.out, (Wr.over T1.out KK).sl, (Wr.over T2.out KK).sl, (Wr.over T3.out KK).sl, (HosW.over T4.out KK).read, (Wr.over T5.out KK).sl, (Wr.over T6.out KK).sl, (Wr.over T7.out KK).sl⟩
  clear KK T1 T2 T3 T4 T5 T6 T7
  generalize puts w7' (w.heap.size + 1) 0 [.slice p1 X.D.sec.length d1, .slice p2 X.D.ep.length d2, .slice p3 X.D.pe.length d3, .slice (some ⟨g4, 0, none⟩) L'.length L'.length, .slice (some ⟨g5, 0, none⟩) X.log.length X.log.length, .slice (some ⟨g6, 0, none⟩) X.seen.length X.seen.length, .slice (some ⟨g7, 0, none⟩) X.rep.length X.rep.length] = w8 at *
  clear R0 O0 A0 B0
  go_wp2
  refine bodyPost_ret (results_row rfl _ _ (w.heap.size + 1) [.slice p1 X.D.sec.length d1, .slice p2 X.D.ep.length d2, .slice p3 X.D.pe.length d3, .slice (some ⟨g4, 0, none⟩) L'.length L'.length, .slice (some ⟨g5, 0, none⟩) X.log.length X.log.length, .slice (some ⟨g6, 0, none⟩) X.seen.length X.seen.length, .slice (some ⟨g7, 0, none⟩) X.rep.length X.rep.length] _ rfl HR3.out Tryz.underlying41 rfl (by kernel_rfl)) rfl ?_
  exact ⟨_, rfl, HX.out, HB3.out⟩

set_option maxRecDepth 100000 in
set_option maxHeartbeats 4000000 in
theorem eqWorld (w : World) (v u : Value) (X : Wd) (h : WdR w v X) (k : WdR w u X) (hs : X.Held) :
    Calls Tryz.prog 12 #[v, u] w fun e w' => e = .returned (.bool true) ∧ Below w.heap.size w w' := by
  obtain ⟨a1, c1, a2, c2, a3, c3, a4, c4, a5, c5, a6, c6, a7, c7, L, rfl, hm, s1, s2, s3, s4, s5, s6, s7⟩ := h
  obtain ⟨b1, d1, b2, d2, b3, d3, b4, d4, b5, d5, b6, d6, b7, d7, M, rfl, hn, t1, t2, t3, t4, t5, t6, t7⟩ := k
  have HS1 := hid (show DkR w (.agg #[.slice a1 X.D.sec.length c1, .slice a2 X.D.ep.length c2, .slice a3 X.D.pe.length c3]) X.D from ⟨a1, c1, a2, c2, a3, c3, rfl, s1, s2, s3⟩)
  have HT1 := hid (show DkR w (.agg #[.slice b1 X.D.sec.length d1, .slice b2 X.D.ep.length d2, .slice b3 X.D.pe.length d3]) X.D from ⟨b1, d1, b2, d2, b3, d3, rfl, t1, t2, t3⟩)
  have HS4 := hid s4
  have HS5 := hid s5
  have HS6 := hid s6
  have HS7 := hid s7
  have HT4 := hid t4
  have HT5 := hid t5
  have HT6 := hid t6
  have HT7 := hid t7
  have HH := hid hs
  have HML := hid (hm.trans hn.symm)
  have HLl : Hid (L.length ≤ maxLen) := by have := hs.h; rw [← hm, List.length_map] at this; exact this
  have HLx : Hid (∀ x ∈ L, x.H.l.length ≤ maxLen) := fun x hx => (hs.hh _ (by rw [← hm]; exact List.mem_map_of_mem hx)).l
  clear s1 s2 s3 s4 s5 s6 s7 t1 t2 t3 t4 t5 t6 t7 hm hn hs
  obtain ⟨wa, hwa, ez, A0, C0, B0⟩ := two_new w [.slice a1 X.D.sec.length c1, .slice a2 X.D.ep.length c2, .slice a3 X.D.pe.length c3, .slice a4 L.length c4, .slice a5 X.log.length c5, .slice a6 X.seen.length c6, .slice a7 X.rep.length c7] [.slice b1 X.D.sec.length d1, .slice b2 X.D.ep.length d2, .slice b3 X.D.pe.length d3, .slice b4 M.length d4, .slice b5 X.log.length d5, .slice b6 X.seen.length d6, .slice b7 X.rep.length d7] 41 41
  have k0 := A0.c 0 rfl
  have k1 := A0.c 1 rfl
  have k2 := A0.c 2 rfl
  have m0 := C0.c 0 rfl
  have m1 := C0.c 1 rfl
  have m2 := C0.c 2 rfl
  have HA := hid A0
  have HC := hid C0
  have HB := hid B0
  clear A0 C0 B0 ez
  go_enter Tryz.func12, Tryz.ntmps12
  go_wp2_with fail
  try simp only [hwa]
  clear hwa k0 k1 k2 m0 m1 m2
  refine (eqDisk wa _ _ X.D X.D (HS1.out.below HB.out) (HT1.out.below HB.out) HH.out.d HH.out.d).mono ?_
  rintro e w1 ⟨he, q1⟩
  obtain rfl : e = .returned (.bool true) := by rw [he]; simp
  have HA1 := hid (HA.out.below q1 HA.out.lt)
  have HC1 := hid (HC.out.below q1 HC.out.lt)
  have HB1 := hid (HB.out.trans (q1.mono HB.out.size))
  clear q1 HA HC HB
  have k := HA1.out.c 3 rfl
  have m := HC1.out.c 3 rfl
  go_wp2_with fail
  clear k m
  refine (eqHostS w1 a4 b4 c4 d4 L M (HS4.out.below HB1.out) (HT4.out.below HB1.out) HML.out HLl.out HLx.out).mono ?_
  rintro e w2 ⟨rfl, q2⟩
  have HA2 := hid (HA1.out.below q2 HA1.out.lt)
  have HC2 := hid (HC1.out.below q2 HC1.out.lt)
  have HB2 := hid (HB1.out.trans (q2.mono HB1.out.size))
  clear q2 HA1 HC1 HB1
  have k := HA2.out.c 4 rfl
  have m := HC2.out.c 4 rfl
  go_wp2_with fail
  clear k m
  refine (eqEventS w2 a5 b5 c5 d5 X.log (Sl.below HS5.out HB2.out) (Sl.below HT5.out HB2.out) HH.out.e).mono ?_
  rintro e w3 ⟨rfl, q3⟩
  have HA3 := hid (HA2.out.below q3 HA2.out.lt)
  have HC3 := hid (HC2.out.below q3 HC2.out.lt)
  have HB3 := hid (HB2.out.trans (q3.mono HB2.out.size))
  clear q3 HA2 HC2 HB2
  have k := HA3.out.c 5 rfl
  have m := HC3.out.c 5 rfl
  go_wp2_with fail
  clear k m
  refine (eqIntS w3 a6 b6 c6 d6 X.seen X.seen (Sl.below HS6.out HB3.out) (Sl.below HT6.out HB3.out) HH.out.s HH.out.s).mono ?_
  rintro e w4 ⟨rfl, q4⟩
  rw [decide_eq_true (rfl : X.seen = X.seen)]
  have HA4 := hid (HA3.out.below q4 HA3.out.lt)
  have HC4 := hid (HC3.out.below q4 HC3.out.lt)
  have HB4 := hid (HB3.out.trans (q4.mono HB3.out.size))
  clear q4 HA3 HC3 HB3
  have k := HA4.out.c 6 rfl
  have m := HC4.out.c 6 rfl
  go_wp2_with fail
  clear k m
  refine (eqReplyS w4 a7 b7 c7 d7 X.rep (Sl.below HS7.out HB4.out) (Sl.below HT7.out HB4.out) HH.out.r).mono ?_
  rintro e w5 ⟨rfl, q5⟩
  have HB5 := hid (HB4.out.trans (q5.mono HB4.out.size))
  clear q5
  go_wp2
  go_ret
  exact ⟨rfl, HB5.out⟩

section
variable {H : Type} {enc : TypeId × Value → H} {W : World} {base : Nat} {spare : Nat → Bool} {held : Bool}

set_option maxRecDepth 100000 in
theorem dk_cells_in {fuel : Nat} {cs : List Value} {x : DataW H × List MemPlace} (h : DataW.trod enc Tryz.prog W base spare held fuel 26 cs = some x) :
    ∃ (D : Dk) (a1 : Option Addr) (c1 : Nat) (a2 : Option Addr) (c2 : Nat) (a3 : Option Addr) (c3 : Nat), cs = [.slice a1 D.sec.length c1, .slice a2 D.ep.length c2, .slice a3 D.pe.length c3] ∧ Strs W a1 D.sec ∧ Ints W a2 D.ep ∧ Wts W a3 D.pe ∧ D.Held := by
  have c3 : Tryz.prog.cellsOf 26 = 3 := by kernel_rfl
  have cA : Tryz.prog.cellsOf 22 = 1 := by kernel_rfl
  have cI : Tryz.prog.cellsOf 23 = 1 := by kernel_rfl
  have cW : Tryz.prog.cellsOf 24 = 1 := by kernel_rfl
  obtain ⟨xs, n, _, rfl, hl, hlen, hf⟩ := DataW.trod_struct Tryz.underlying26 h
  rw [c3] at hl
  match xs, hlen, cs, hl with
  | [y0, y1, y2], _, [v0, v1, v2], _ =>
    have f0 : DataW.trod enc Tryz.prog W base spare held n 22 [v0] = some y0 := by simpa [cA] using hf 0 _ rfl
    have f1 : DataW.trod enc Tryz.prog W base spare held n 23 [v1] = some y1 := by simpa [cA, cI] using hf 1 _ rfl
    have f2 : DataW.trod enc Tryz.prog W base spare held n 24 [v2] = some y2 := by simpa [cA, cI, cW] using hf 2 _ rfl
    obtain ⟨a1, c1, l1, rfl, s1, n1, t1⟩ := Mem.strs_in f0
    obtain ⟨a2, c2, l2, rfl, s2, n2, _⟩ := Mem.ints_in f1
    obtain ⟨a3, c3, l3, rfl, s3, n3, t3⟩ := Mem.writes_in f2
    exact ⟨⟨l1, l2, l3⟩, a1, c1, a2, c2, a3, c3, rfl, s1, s2, s3, ⟨n1, n2, n3, t1, t3⟩⟩

set_option maxRecDepth 100000 in
/-- A world that came in. -/
theorem world_in {v : Value} {d : DataW H} {p : List MemPlace} {r : Reach} {b0 : Nat} (hv : Value.okWide Tryz.prog W r b0 31 v) (h : DataW.Trod enc Tryz.prog W base spare held 31 v d p) :
    ∃ X : Wd, WdR W v X ∧ X.Held := by
  have c7 : Tryz.prog.cellsOf 31 = 7 := by kernel_rfl
  have cD : Tryz.prog.cellsOf 26 = 3 := by kernel_rfl
  have cH : Tryz.prog.cellsOf 27 = 1 := by kernel_rfl
  have cE : Tryz.prog.cellsOf 28 = 1 := by kernel_rfl
  have cI : Tryz.prog.cellsOf 23 = 1 := by kernel_rfl
  have cR : Tryz.prog.cellsOf 29 = 1 := by kernel_rfl
  obtain ⟨cs, rfl, hsz⟩ := okWide_struct Tryz.underlying31 hv
  rw [c7] at hsz
  obtain ⟨v0, v1, v2, v3, v4, v5, v6, rfl⟩ : ∃ v0 v1 v2 v3 v4 v5 v6, cs = #[v0, v1, v2, v3, v4, v5, v6] := by
    obtain ⟨l⟩ := cs
    match l, hsz with
    | [v0, v1, v2, v3, v4, v5, v6], _ => exact ⟨v0, v1, v2, v3, v4, v5, v6, rfl⟩
  obtain ⟨fuel, hf⟩ := h
  obtain ⟨xs, n, _, _, _, hlen, hf⟩ := DataW.trod_struct Tryz.underlying31 hf
  match xs, hlen with
  | [y0, y1, y2, y3, y4], _ =>
    have f0 : DataW.trod enc Tryz.prog W base spare held n 26 [v0, v1, v2] = some y0 := by simpa [cD, Value.cells] using hf 0 _ rfl
    have f1 : DataW.trod enc Tryz.prog W base spare held n 27 [v3] = some y1 := by simpa [cD, cH, Value.cells] using hf 1 _ rfl
    have f2 : DataW.trod enc Tryz.prog W base spare held n 28 [v4] = some y2 := by simpa [cD, cH, cE, Value.cells] using hf 2 _ rfl
    have f3 : DataW.trod enc Tryz.prog W base spare held n 23 [v5] = some y3 := by simpa [cD, cH, cE, cI, Value.cells] using hf 3 _ rfl
    have f4 : DataW.trod enc Tryz.prog W base spare held n 29 [v6] = some y4 := by simpa [cD, cH, cE, cI, cR, Value.cells] using hf 4 _ rfl
    obtain ⟨D, a1, c1, a2, c2, a3, c3, e0, s1, s2, s3, hd⟩ := dk_cells_in f0
    obtain ⟨a4, c4, L, rfl, s4, n4, u4⟩ := hos_in f1
    obtain ⟨a5, c5, lg, rfl, s5, n5, u5⟩ := evs_in f2
    obtain ⟨a6, c6, sn, rfl, s6, n6, _⟩ := Mem.ints_in f3
    obtain ⟨a7, c7, rp, rfl, s7, n7, u7⟩ := rps_in f4
    simp only [List.cons.injEq, and_true] at e0
    obtain ⟨rfl, rfl, rfl⟩ := e0
    exact ⟨⟨D, L.map (·.H), lg, sn, rp⟩, ⟨a1, c1, a2, c2, a3, c3, a4, c4, a5, c5, a6, c6, a7, c7, L, rfl, rfl, s1, s2, s3, s4, s5, s6, s7⟩, ⟨hd, by simpa using n4, fun x hx => by
      obtain ⟨y, hy, rfl⟩ := List.mem_map.1 hx
      exact u4 y hy, n5, u5, n6, n7, u7⟩⟩

end

end Go.Proofs.YtaopkchkhdbfnaaGreatDoor.Pl

namespace Go.Proofs.YtaopkchkhdbfnaaGreatDoor.Pl
open Go.RowKit Go.Proofs.YtaopkchkhdbfnaaGreatDoor.Mem Go.Proofs.YtaopkchkhdbfnaaGreatDoor.Sec
set_option linter.unusedVariables false

def Ho.opz (H : Ho) : Bool := decide (H.k = 0 ∧ H.v = 0 ∧ H.t = 0 ∧ H.a = 0 ∧ H.s = ⟨#[]⟩)
def zeroPlan (cd bk : Int) (tx : ByteArray) (l : List Ou) : Bool := decide (cd = 0) && (decide (bk = 0) && (decide (tx = ⟨#[]⟩) && decide ((l.length : Int) = 0)))
def keptPlan (cd bk : Int) (tx : ByteArray) (l : List Ou) : Bool := decide (cd = 0) && (decide (-1 ≤ bk ∧ bk ≤ 17) && (decide ((tx.size : Int) ≤ 16) && (decide (l.length ≤ 8) && outsOk l)))
def Ho.zp (H : Ho) : Bool := zeroPlan H.cd H.bk H.tx H.l
def Ho.kept (H : Ho) : Bool := keptPlan H.cd H.bk H.tx H.l
def Ho.idle (H : Ho) : Bool := H.opz && (decide (H.pc = 0) && H.zp)
def Ho.down (H : Ho) : Bool := decide (H.ep = 0) && (!H.rd && (!H.bz && (decide (H.txn = 0) && H.idle)))
def Ho.busy (H : Ho) : Bool := opRight H.k H.v H.t H.a H.s && (decide (0 ≤ H.pc ∧ H.pc ≤ 20) && (!(decide (1 ≤ H.pc ∧ H.pc ≤ 3) && decide (1000000 ≤ H.txn)) && (if H.pc = 0 then H.zp else H.kept)))
/-- Is a host right. -/
def Ho.ok (H : Ho) : Bool := decide (0 ≤ H.id ∧ H.id < 3) && (if H.up = true then decide (1 ≤ H.ep ∧ H.ep ≤ 100000) && (decide (0 ≤ H.txn ∧ H.txn ≤ 1000000) && (if H.bz = true then H.busy else H.idle)) else H.down)

theorem zero_kept {cd bk : Int} {tx : ByteArray} {l : List Ou} (h : zeroPlan cd bk tx l = true) : keptPlan cd bk tx l = true := by
  unfold zeroPlan at h
  simp only [Bool.and_eq_true, decide_eq_true_eq] at h
  obtain ⟨h1, h2, h3, h4⟩ := h
  have h5 : l = [] := List.eq_nil_of_length_eq_zero (by omega)
  subst h1; subst h2; subst h3; subst h5
  decide

theorem text_no {t : ByteArray} (h : ¬ t = ⟨#[]⟩) : (t.toList == []) = false ∧ ¬ t.toList = [] := by
  have h1 : ¬ t.toList = [] := fun e => h (by
    rw [ByteArray.toList_eq] at e
    exact ByteArray.ext (Array.toList_inj.1 (show t.data.toList = (#[] : Array UInt8).toList from e)))
  exact ⟨by simpa using h1, h1⟩

set_option maxHeartbeats 400000 in
theorem l1In (x lo hi : Int) (w : World) :
    Calls Tryz.prog 31 #[.int .i64 x, .int .i64 lo, .int .i64 hi] w fun e w' => e = .returned (.bool (decide (lo ≤ x ∧ x ≤ hi))) ∧ w' = w := by
  by_cases h1 : lo ≤ x
  · by_cases h2 : x ≤ hi
    · rw [decide_eq_true (And.intro h1 h2)]
      go_enter Tryz.func31, Tryz.ntmps31
      go_wp2
      go_ret
      exact ⟨rfl, rfl⟩
    · rw [decide_eq_false (fun h => h2 h.2)]
      go_enter Tryz.func31, Tryz.ntmps31
      go_wp2
      go_ret
      exact ⟨rfl, rfl⟩
  · rw [decide_eq_false (fun h => h1 h.1)]
    go_enter Tryz.func31, Tryz.ntmps31
    go_wp2
    go_ret
    exact ⟨rfl, rfl⟩

set_option maxRecDepth 100000 in
set_option maxHeartbeats 4000000 in
theorem sOuts (w : World) (a : Option Addr) (cap : Nat) (l : List Ou) (S : Ous w a l) (hl : l.length ≤ 1048576) (hs : ∀ x ∈ l, x.text.size ≤ 1048576) :
    Calls Tryz.prog 92 #[.slice a l.length cap] w fun e w' => e = .returned (.bool (decide (l.length ≤ 8) && outsOk l)) ∧ Below w.heap.size w w' := by
  have HS := hid S
  have Hs : Hid (∀ k, (l.getD k Ou.none).text.size ≤ 1048576) := fun k => by
    by_cases h : k < l.length
    · exact hs _ (by simp [List.getD, h])
    · simp [List.getD, h, Ou.none]
  clear S hs
  by_cases hg : 8 < (l.length : Int)
  · have hg' : decide (l.length ≤ 8) = false := decide_eq_false (by omega)
    rw [hg']
    clear hg'
    go_enter Tryz.func92, Tryz.ntmps92
    go_wp2
    go_ret
    exact ⟨rfl, Below.refl _ _⟩
  have hg' : decide (l.length ≤ 8) = true := decide_eq_true (by omega)
  rw [hg', Bool.true_and]
  clear hg'
  go_enter Tryz.func92, Tryz.ntmps92
  go_wp2
  go_loopw [3] (fun i wr => ∃ k : Nat, k ≤ l.length ∧ i = .int .i64 (k : Int) ∧ Hid (∀ i, i < k → outAt l i) ∧ Hid (Below w.heap.size w wr)) (fun i _ => l.length - (intOf i).toNat)
  case atStart => exact ⟨0, Nat.zero_le _, rfl, fun i hi => by omega, Below.refl _ _⟩
  case round =>
    obtain ⟨i, hi, rfl, HK, HB⟩ := hrel
    by_cases hlt : i < l.length
    · obtain ⟨b, off, rfl, e0, e1⟩ := Ous.at_ (HS.out.below HB.out) i hlt
      have hsz := Hs.out i
      have HN := hid (outsOk_no i hlt)
      have HST := hid (fun h => outs_step (k := i) HK.out h)
      have HAt : Hid (outAt l i ↔ ((0 ≤ (l.getD i Ou.none).sec ∧ (l.getD i Ou.none).sec ≤ 33) ∧ (0 < i → (l.getD (i - 1) Ou.none).sec < (l.getD i Ou.none).sec)) ∧ ((l.getD i Ou.none).text.size : Int) ≤ 60) := by
        unfold outAt
        exact ⟨fun x => ⟨⟨x.1, x.2.1⟩, x.2.2⟩, fun x => ⟨x.1.1, x.1.2, x.2⟩⟩
      generalize l.getD i Ou.none = x at e0 e1 hsz HAt
      obtain ⟨xs, xt⟩ := x
      simp only [] at e0 e1 hsz HAt
      have hne : Nonempty (BW wr) := ⟨⟨wr, Below.refl _ _⟩⟩
      replace e0 := BW.cell e0
      replace e1 := BW.cell e1
      by_cases d0 : 0 ≤ xs ∧ xs ≤ 33
      · have d0' := decide_eq_true d0
        cases i with
        | zero =>
          simp only [Nat.zero_mul, Nat.add_zero] at e0 e1
          by_cases h60 : 60 < (xt.size : Int)
          · have HR := hid (HN.out (fun x => by have := (HAt.out.1 x).2; omega))
            clear d0
            go_wp2
            refine wp_region_bw (by kernel_rfl) (by kernel_rfl) ?_
            repeat (go_big_quiet_step (first
              | (go_at_call 31; refine bw_same (v := .bool true) (d0' ▸ l1In xs 0 33 _))))
            refine wpQuiet_nil ?_
            intro _ hw'
            obtain ⟨u, rfl⟩ := hw'
            have HU := hid (HB.out.trans (u.bel.mono HB.out.size))
            clear e0 e1
            go_wp2
            go_ret
            exact ⟨by rw [HR.out]; rfl, HU.out⟩
          · have HR := hid (HST.out (HAt.out.2 ⟨⟨d0, fun h => by omega⟩, by omega⟩))
            clear d0
            go_wp2
            refine wp_region_bw (by kernel_rfl) (by kernel_rfl) ?_
            repeat (go_big_quiet_step (first
              | (go_at_call 31; refine bw_same (v := .bool true) (d0' ▸ l1In xs 0 33 _))))
            refine wpQuiet_nil ?_
            intro _ hw'
            obtain ⟨u, rfl⟩ := hw'
            have HU := hid (HB.out.trans (u.bel.mono HB.out.size))
            clear e0 e1
            go_wp2
            exact ⟨⟨1, by omega, by go_num, HR, HU⟩, by simp [intOf]; omega⟩
        | succ m =>
          obtain ⟨b', off', eb, p0, _⟩ := Ous.at_ (HS.out.below HB.out) m (by omega)
          cases eb
          rw [show m + 1 - 1 = m from rfl] at HAt
          generalize (l.getD m Ou.none).sec = ys at p0 HAt
          replace p0 := BW.cell p0
          have hm0 : (0 : Int) < ((m + 1 : Nat) : Int) := by omega
          have hm1 : ((m + 1 : Nat) : Int) - 1 = (m : Int) := by omega
          have hm2 : (m : Int) < (l.length : Int) := by omega
          by_cases d1 : xs ≤ ys
          · have HR := hid (HN.out (fun x => by have := (HAt.out.1 x).1.2 (by omega); omega))
            clear d0
            go_wp2
            refine wp_region_bw (by kernel_rfl) (by kernel_rfl) ?_
            repeat (go_big_quiet_step (first
              | (go_at_call 31; refine bw_same (v := .bool true) (d0' ▸ l1In xs 0 33 _))))
            refine wpQuiet_nil ?_
            intro _ hw'
            obtain ⟨u, rfl⟩ := hw'
            have HU := hid (HB.out.trans (u.bel.mono HB.out.size))
            clear e0 e1 p0
            go_wp2
            go_ret
            exact ⟨by rw [HR.out]; rfl, HU.out⟩
          have d1' : decide (xs ≤ ys) = false := decide_eq_false d1
          by_cases h60 : 60 < (xt.size : Int)
          · have HR := hid (HN.out (fun x => by have := (HAt.out.1 x).2; omega))
            clear d0
            go_wp2
            refine wp_region_bw (by kernel_rfl) (by kernel_rfl) ?_
            repeat (go_big_quiet_step (first
              | (go_at_call 31; refine bw_same (v := .bool true) (d0' ▸ l1In xs 0 33 _))))
            refine wpQuiet_nil ?_
            intro _ hw'
            obtain ⟨u, rfl⟩ := hw'
            have HU := hid (HB.out.trans (u.bel.mono HB.out.size))
            clear e0 e1 p0
            go_wp2
            go_ret
            exact ⟨by rw [HR.out]; rfl, HU.out⟩
          · have HR := hid (HST.out (HAt.out.2 ⟨⟨d0, fun h => by omega⟩, by omega⟩))
            clear d0
            go_wp2
            refine wp_region_bw (by kernel_rfl) (by kernel_rfl) ?_
            repeat (go_big_quiet_step (first
              | (go_at_call 31; refine bw_same (v := .bool true) (d0' ▸ l1In xs 0 33 _))))
            refine wpQuiet_nil ?_
            intro _ hw'
            obtain ⟨u, rfl⟩ := hw'
            have HU := hid (HB.out.trans (u.bel.mono HB.out.size))
            clear e0 e1 p0
            go_wp2
            exact ⟨⟨m + 1 + 1, by omega, by go_num, HR, HU⟩, by simp [intOf]; omega⟩
      · have d0' := decide_eq_false d0
        have HR := hid (HN.out (fun x => d0 (HAt.out.1 x).1.1))
        clear d0
        go_wp2
        refine wp_region_bw (by kernel_rfl) (by kernel_rfl) ?_
        repeat (go_big_quiet_step (first
          | (go_at_call 31; refine bw_same (v := .bool false) (d0' ▸ l1In xs 0 33 _))))
        refine wpQuiet_nil ?_
        intro _ hw'
        obtain ⟨u, rfl⟩ := hw'
        have HU := hid (HB.out.trans (u.bel.mono HB.out.size))
        clear e0 e1
        go_wp2
        go_ret
        exact ⟨by rw [HR.out]; rfl, HU.out⟩
    · obtain rfl : i = l.length := by omega
      have HR := hid ((outsOk_iff l).2 HK.out)
      go_wp2
      go_ret
      exact ⟨by rw [HR.out]; rfl, HB.out⟩

set_option maxRecDepth 100000 in
set_option maxHeartbeats 2000000 in
theorem sZeroPlan (w : World) (cd bk : Int) (tx : ByteArray) (p : Option Addr) (c : Nat) (l : List Ou) (hl : l.length ≤ 1048576) :
    Calls Tryz.prog 91 #[plnV cd bk tx p l.length c] w fun e w' => e = .returned (.bool (zeroPlan cd bk tx l)) ∧ Below w.heap.size w w' := by
  unfold plnV zeroPlan
  generalize l.length = n at *
  obtain ⟨wa, hwa, ez, A0, B0⟩ := one_new w [.int .i64 cd, .int .i64 bk, .string tx, .slice p n c] 61
  have k0 := A0.c 0 rfl
  have k1 := A0.c 1 rfl
  have k2 := A0.c 2 rfl
  have k3 := A0.c 3 rfl
  have HB := hid B0
  clear A0 B0 ez
  by_cases h0 : cd = 0
  · by_cases h1 : bk = 0
    · by_cases h2 : tx = ⟨#[]⟩
      · subst h0; subst h1; subst h2
        by_cases h3 : n = 0
        · subst h3
          go_enter Tryz.func91, Tryz.ntmps91
          go_wp2
          go_ret
          exact ⟨rfl, HB.out⟩
        · rw [decide_eq_false (show ¬ (n : Int) = 0 by omega)]
          have h3' : ((n : Int) == 0) = false := by simpa using h3
          have h3n : (n == 0) = false := by simpa using h3
          go_enter Tryz.func91, Tryz.ntmps91
          go_wp2
          go_ret
          exact ⟨rfl, HB.out⟩
      · rw [decide_eq_false h2]
        subst h0; subst h1
        have h2' := (text_no h2).1
        have h2n := (text_no h2).2
        go_enter Tryz.func91, Tryz.ntmps91
        go_wp2
        go_ret
        exact ⟨rfl, HB.out⟩
    · rw [decide_eq_false h1]
      subst h0
      have h1' := beq_no h1
      go_enter Tryz.func91, Tryz.ntmps91
      go_wp2
      go_ret
      exact ⟨rfl, HB.out⟩
  · rw [decide_eq_false h0]
    have h0' := beq_no h0
    go_enter Tryz.func91, Tryz.ntmps91
    go_wp2
    go_ret
    exact ⟨rfl, HB.out⟩

set_option maxRecDepth 100000 in
set_option maxHeartbeats 2000000 in
theorem iZeroPlan (w : World) (cd bk : Int) (tx : ByteArray) (p : Option Addr) (c : Nat) (l : List Ou) (hl : l.length ≤ 1048576) :
    Calls Tryz.prog 215 #[plnV cd bk tx p l.length c] w fun e w' => e = .returned (.bool (zeroPlan cd bk tx l)) ∧ Below w.heap.size w w' := by
  unfold plnV zeroPlan
  generalize l.length = n at *
  obtain ⟨wa, hwa, ez, A0, B0⟩ := one_new w [.int .i64 cd, .int .i64 bk, .string tx, .slice p n c] 61
  have k0 := A0.c 0 rfl
  have k1 := A0.c 1 rfl
  have k2 := A0.c 2 rfl
  have k3 := A0.c 3 rfl
  have HB := hid B0
  clear A0 B0 ez
  by_cases h0 : cd = 0
  · by_cases h1 : bk = 0
    · by_cases h2 : tx = ⟨#[]⟩
      · subst h0; subst h1; subst h2
        by_cases h3 : n = 0
        · subst h3
          go_enter Tryz.func215, Tryz.ntmps215
          go_wp2
          go_ret
          exact ⟨rfl, HB.out⟩
        · rw [decide_eq_false (show ¬ (n : Int) = 0 by omega)]
          have h3' : ((n : Int) == 0) = false := by simpa using h3
          have h3n : (n == 0) = false := by simpa using h3
          go_enter Tryz.func215, Tryz.ntmps215
          go_wp2
          go_ret
          exact ⟨rfl, HB.out⟩
      · rw [decide_eq_false h2]
        subst h0; subst h1
        have h2' := (text_no h2).1
        have h2n := (text_no h2).2
        go_enter Tryz.func215, Tryz.ntmps215
        go_wp2
        go_ret
        exact ⟨rfl, HB.out⟩
    · rw [decide_eq_false h1]
      subst h0
      have h1' := beq_no h1
      go_enter Tryz.func215, Tryz.ntmps215
      go_wp2
      go_ret
      exact ⟨rfl, HB.out⟩
  · rw [decide_eq_false h0]
    have h0' := beq_no h0
    go_enter Tryz.func215, Tryz.ntmps215
    go_wp2
    go_ret
    exact ⟨rfl, HB.out⟩

end Go.Proofs.YtaopkchkhdbfnaaGreatDoor.Pl

namespace Go.Proofs.YtaopkchkhdbfnaaGreatDoor.Sec
open Go.RowKit Go.Proofs.YtaopkchkhdbfnaaGreatDoor.Mem
set_option linter.unusedVariables false

end Go.Proofs.YtaopkchkhdbfnaaGreatDoor.Sec

namespace Go.Proofs.YtaopkchkhdbfnaaGreatDoor.Rd
open Go.RowKit Go.Proofs.YtaopkchkhdbfnaaGreatDoor.Mem Go.Proofs.YtaopkchkhdbfnaaGreatDoor.Sec
set_option linter.unusedVariables false

/-- A struct out of its own block, and a slot. -/
theorem results_one {P : Program} {fn : Func} {p q : Tmp} {ty : TypeId} (h : fn.results = #[.cell p ty, .tmp q]) (tmps : Array Value) (w : World) (g : Nat) (v b : Value)
    (hp : tmps.getD p undef = .pointer (some ⟨g, 0, none⟩)) (hq : tmps.getD q undef = b) (h1 : (loadVar ty ⟨g, 0, none⟩).run P w = .ok v w) :
    (results fn tmps).run P w = .ok (.tuple #[v, b]) w := by
  rw [results_cell_tmp h, hp, hq]
  simp [asAddr, h1]

/-- What both sides answer. -/
def HostOut (R : ByteArray → Int × Nat) (s : ByteArray) (e : Ending) : Prop := (∃ b x y, readHost R s = some (b, x, y) ∧ e = .returned (.tuple #[hsV b x y, .bool true])) ∨ (readHost R s = none ∧ e = .returned (.tuple #[hsV 0 0 0, .bool false]))

set_option maxRecDepth 100000 in
set_option maxHeartbeats 2000000 in
theorem iReadHost (R : ByteArray → Int × Nat) (hR : Reads R) (s : ByteArray) (hs : s.size ≤ 1048576) (w : World) (u : TypeId) (pv : Value) (hL : Lacks w u pv) (T : Sums w) :
    Calls Tryz.prog 149 #[.string s] w fun e w' => HostOut R s e ∧ Below w.heap.size w w' := by
  have HR := hid hR
  have HL := hid hL
  have HT := hid T
  clear hR hL T
  go_enter Tryz.func149, Tryz.ntmps149
  go_wp2_with fail
  obtain ⟨wc, hwc, ec, A0, K0⟩ := one_new w [.int .i64 0, .int .i64 0, .int .i64 0] 150
  simp only [hwc]
  clear hwc
  have HA := hid A0
  have HK := hid K0
  clear A0 K0
  refine (readKindHost R HR.out s hs wc u pv (HL.out.kept (Kept.of_below (S := fun _ => False) HK.out) (fun x => x)) (HT.out.below HK.out)).mono ?_
  rintro e w1 (⟨b, x, y, hn, rfl, b1⟩ | ⟨hn, rfl, b1⟩)
  · have HN := hid hn
    have HA1 := hid (HA.out.below b1 HA.out.lt)
    have HB1 := hid (HK.out.trans (b1.mono HK.out.size))
    clear hn b1 HA
    have a0 := HA1.out.c 0 rfl
    have a1 := HA1.out.c 1 rfl
    have a2 := HA1.out.c 2 rfl
    have f0 := HA1.out.f 0
    have f1 := HA1.out.f 1
    have f2 := HA1.out.f 2
    have HRA := hid (((HA1.out.set 0 (.int .i64 b)).set 1 (.int .i64 x)).set 2 (.int .i64 y))
    have HBf := hid (below_set (below_set (below_set HB1.out w.heap.size 0 (.int .i64 b) (Nat.le_refl _)) w.heap.size 1 (.int .i64 x) (Nat.le_refl _)) w.heap.size 2 (.int .i64 y) (Nat.le_refl _))
    unfold hsV
    go_wp2
    refine bodyPost_ret (results_one rfl _ _ w.heap.size _ _ rfl rfl (load_row HRA.out Tryz.underlying150 rfl (by kernel_rfl))) rfl ?_
    exact ⟨Or.inl ⟨b, x, y, HN.out, rfl⟩, HBf.out⟩
  · have HN := hid hn
    have HA1 := hid (HA.out.below b1 HA.out.lt)
    have HB1 := hid (HK.out.trans (b1.mono HK.out.size))
    clear hn b1 HA
    have a0 := HA1.out.c 0 rfl
    have a1 := HA1.out.c 1 rfl
    have a2 := HA1.out.c 2 rfl
    have f0 := HA1.out.f 0
    have f1 := HA1.out.f 1
    have f2 := HA1.out.f 2
    have HRA := hid (((HA1.out.set 0 (.int .i64 0)).set 1 (.int .i64 0)).set 2 (.int .i64 0))
    have HBf := hid (below_set (below_set (below_set HB1.out w.heap.size 0 (.int .i64 0) (Nat.le_refl _)) w.heap.size 1 (.int .i64 0) (Nat.le_refl _)) w.heap.size 2 (.int .i64 0) (Nat.le_refl _))
    unfold hsV
    go_wp2
    refine bodyPost_ret (results_one rfl _ _ w.heap.size _ _ rfl rfl (load_row HRA.out Tryz.underlying150 rfl (by kernel_rfl))) rfl ?_
    exact ⟨Or.inr ⟨HN.out, rfl⟩, HBf.out⟩

set_option maxRecDepth 100000 in
set_option maxHeartbeats 2000000 in
theorem sReadHost (R : ByteArray → Int × Nat) (hR : Reads R) (s : ByteArray) (hs : s.size ≤ 1048576) (w : World) :
    Calls Tryz.prog 89 #[.string s] w fun e w' => HostOut R s e ∧ Below w.heap.size w w' := by
  have HR := hid hR
  clear hR
  go_enter Tryz.func89, Tryz.ntmps89
  go_wp2_with fail
  obtain ⟨wc, hwc, ec, A0, K0⟩ := one_new w [.int .i64 0, .int .i64 0, .int .i64 0] 150
  simp only [hwc]
  clear hwc
  have HA := hid A0
  have HK := hid K0
  clear A0 K0
  refine (l4Vars R HR.out s hs 5 3 (by decide) (by decide) wc).mono ?_
  rintro e w1 ⟨hg, b1⟩
  have HA1 := hid (HA.out.below b1 HA.out.lt)
  have HB1 := hid (HK.out.trans (b1.mono HK.out.size))
  clear b1 HA HK
  cases hn : nums R s 5 3 with
  | none =>
    rw [hn] at hg
    obtain ⟨v, rfl⟩ := hg
    have HN : Hid (readHost R s = none) := by unfold Hid readHost; rw [hn]
    clear hn
    have a0 := HA1.out.c 0 rfl
    have a1 := HA1.out.c 1 rfl
    have a2 := HA1.out.c 2 rfl
    have f0 := HA1.out.f 0
    have f1 := HA1.out.f 1
    have f2 := HA1.out.f 2
    have HRA := hid (((HA1.out.set 0 (.int .i64 0)).set 1 (.int .i64 0)).set 2 (.int .i64 0))
    have HBf := hid (below_set (below_set (below_set HB1.out w.heap.size 0 (.int .i64 0) (Nat.le_refl _)) w.heap.size 1 (.int .i64 0) (Nat.le_refl _)) w.heap.size 2 (.int .i64 0) (Nat.le_refl _))
    go_wp2
    refine bodyPost_ret (results_one rfl _ _ w.heap.size _ _ rfl rfl (load_row HRA.out Tryz.underlying150 rfl (by kernel_rfl))) rfl ?_
    exact ⟨Or.inr ⟨HN.out, rfl⟩, HBf.out⟩
  | some p =>
    obtain ⟨l, z⟩ := p
    rw [hn] at hg
    obtain ⟨v, rfl, hI⟩ := hg
    have hl := nums_len hn
    have hbd := nums_bd HR.out (by unfold maxLen; omega) hn
    obtain ⟨a, cap, rfl, hW⟩ := hI.w
    match l, hl with
    | [b, x, y], _ =>
    obtain ⟨g, off, rfl, c0⟩ := hW.sl 0 (by simp)
    obtain ⟨g1, off1, e1, c1⟩ := hW.sl 1 (by simp)
    obtain ⟨g2, off2, e2, c2⟩ := hW.sl 2 (by simp)
    cases e1; cases e2
    replace c0 : w1.cell? ⟨g, off + 0, none⟩ = some (.int .i64 b) := c0
    replace c1 : w1.cell? ⟨g, off + 1, none⟩ = some (.int .i64 x) := c1
    replace c2 : w1.cell? ⟨g, off + 2, none⟩ = some (.int .i64 y) := c2
    rw [Nat.add_zero] at c0
    have hx := hbd x (by simp)
    have HN := hid hn
    have hz : (0 : Int) ≤ (z : Int) := by omega
    simp only [List.length_cons, List.length_nil]
    clear hn hbd hI hW
    go_wp2
    obtain ⟨wz, hwz, ez, Z0, BZ⟩ := one_new w1 [.int .i64 0, .int .i64 0, .int .i64 0] 150
    have hgl : g < w1.heap.size := World.block_lt_of_cell? w1 _ c0
    have d0 := (BZ.cell (p := ⟨g, off, none⟩) hgl).trans c0
    have d1 := (BZ.cell (p := ⟨g, off + 1, none⟩) hgl).trans c1
    have d2 := (BZ.cell (p := ⟨g, off + 2, none⟩) hgl).trans c2
    have z0 := Z0.c 0 rfl
    have z1 := Z0.c 1 rfl
    have z2 := Z0.c 2 rfl
    have y0 := Z0.f 0
    have y1 := Z0.f 1
    have y2 := Z0.f 2
    have HZ := hid (((Z0.set 0 (.int .i64 b)).set 1 (.int .i64 (x - 1))).set 2 (.int .i64 y))
    have HAz := hid ((((HA1.out.below BZ HA1.out.lt).other (p := ⟨w1.heap.size, 0, none⟩) (by have := HA1.out.lt; show w.heap.size ≠ w1.heap.size; omega) (.int .i64 b)).other (p := ⟨w1.heap.size, 1, none⟩) (by have := HA1.out.lt; show w.heap.size ≠ w1.heap.size; omega) (.int .i64 (x - 1))).other (p := ⟨w1.heap.size, 2, none⟩) (by have := HA1.out.lt; show w.heap.size ≠ w1.heap.size; omega) (.int .i64 y))
    have HBz := hid (below_set (below_set (below_set (HB1.out.trans (BZ.mono HB1.out.size)) w1.heap.size 0 (.int .i64 b) HB1.out.size) w1.heap.size 1 (.int .i64 (x - 1)) HB1.out.size) w1.heap.size 2 (.int .i64 y) HB1.out.size)
    clear Z0 BZ
    go_region
    go_wp2_with fail
    obtain ⟨wq, hwq⟩ : ∃ wq, (((wz.setCell ⟨w1.heap.size, 0, none⟩ (.int .i64 b)).setCell ⟨w1.heap.size, 1, none⟩ (.int .i64 (x - 1))).setCell ⟨w1.heap.size, 2, none⟩ (.int .i64 y)).drew = wq := ⟨_, rfl⟩
    have HZq : Hid (Row wq w1.heap.size [.int .i64 b, .int .i64 (x - 1), .int .i64 y]) := by rw [← hwq]; exact HZ.out
    have HAq : Hid (Row wq w.heap.size [.int .i64 0, .int .i64 0, .int .i64 0]) := by rw [← hwq]; exact HAz.out
    have HBq : Hid (Below w.heap.size w wq) := by rw [← hwq]; exact HBz.out.drew
    simp only [hwq]
    clear hwq hwz d0 d1 d2 z0 z1 z2 y0 y1 y2 HZ HAz HBz c0 c1 c2
    refine (sShowHost b (x - 1) y wq).mono ?_
    rintro e w5 ⟨rfl, b5⟩
    have HA5 := hid (HAq.out.below b5 HAq.out.lt)
    have HZ5 := hid (HZq.out.below b5 HZq.out.lt)
    have HB5 := hid (HBq.out.trans (b5.mono HBq.out.size))
    clear b5 HAq HZq HBq
    have a0 := HA5.out.c 0 rfl
    have a1 := HA5.out.c 1 rfl
    have a2 := HA5.out.c 2 rfl
    have f0 := HA5.out.f 0
    have f1 := HA5.out.f 1
    have f2 := HA5.out.f 2
    have q0 := HZ5.out.c 0 rfl
    have q1 := HZ5.out.c 1 rfl
    have q2 := HZ5.out.c 2 rfl
    by_cases hsh : showHost b (x - 1) y = s
    · have HN2 : Hid (readHost R s = some (b, x - 1, y)) := by unfold Hid readHost; rw [HN.out]; simp only []; rw [if_pos hsh]
      have hne := Own.eqS_yes hsh
      generalize showHost b (x - 1) y = sh at *
      have HRA := hid ((((HA5.out).set 0 (.int .i64 b)).set 1 (.int .i64 (x - 1))).set 2 (.int .i64 y))
      have HBf := hid (below_set (below_set (below_set (HB5.out) w.heap.size 0 (.int .i64 b) (Nat.le_refl _)) w.heap.size 1 (.int .i64 (x - 1)) (Nat.le_refl _)) w.heap.size 2 (.int .i64 y) (Nat.le_refl _))
      go_wp2
      refine bodyPost_ret (results_one rfl _ _ w.heap.size _ _ rfl rfl (load_row HRA.out Tryz.underlying150 rfl (by kernel_rfl))) rfl ?_
      exact ⟨Or.inl ⟨b, x - 1, y, HN2.out, rfl⟩, HBf.out⟩
    · have HN2 : Hid (readHost R s = none) := by unfold Hid readHost; rw [HN.out]; simp only []; rw [if_neg hsh]
      have hne := Own.eqS_no hsh
      generalize showHost b (x - 1) y = sh at *
      have HRA := hid ((((HA5.out).set 0 (.int .i64 0)).set 1 (.int .i64 0)).set 2 (.int .i64 0))
      have HBf := hid (below_set (below_set (below_set (HB5.out) w.heap.size 0 (.int .i64 0) (Nat.le_refl _)) w.heap.size 1 (.int .i64 0) (Nat.le_refl _)) w.heap.size 2 (.int .i64 0) (Nat.le_refl _))
      go_wp2
      refine bodyPost_ret (results_one rfl _ _ w.heap.size _ _ rfl rfl (load_row HRA.out Tryz.underlying150 rfl (by kernel_rfl))) rfl ?_
      exact ⟨Or.inr ⟨HN2.out, rfl⟩, HBf.out⟩

end Go.Proofs.YtaopkchkhdbfnaaGreatDoor.Rd

namespace Go.Proofs.YtaopkchkhdbfnaaGreatDoor.Rd
open Go.RowKit Go.Proofs.YtaopkchkhdbfnaaGreatDoor.Mem Go.Proofs.YtaopkchkhdbfnaaGreatDoor.Sec Classical
set_option linter.unusedVariables false

theorem nums_one {R : ByteArray → Int × Nat} {s : ByteArray} {i : Nat} : nums R s i 1 = if (R (rest s i)).2 = 0 then none else some ([(R (rest s i)).1], i + (R (rest s i)).2) := nums_step (l := []) (e := i) rfl

theorem none_row (w : World) (B : Nat) (b : Option Addr) : Ir w B (.slice b 0 0) [] := Or.inl ⟨b, rfl, rfl, rfl⟩

set_option maxRecDepth 100000 in
set_option maxHeartbeats 2000000 in
theorem sReadFrees (R : ByteArray → Int × Nat) (hR : Reads R) (s : ByteArray) (hs : s.size ≤ 1048576) (w : World) :
    Calls Tryz.prog 90 #[.string s] w fun e w' => FreesOut R s w w' e := by
  have HR := hid hR
  have hRV := hR (rest s 5) (by rw [rest_size]; unfold maxLen; omega)
  have hx0 := hRV.x0
  have hle := hRV.le
  rw [rest_size] at hle
  clear hR hRV
  go_enter Tryz.func90, Tryz.ntmps90
  go_wp2_with fail
  refine (l4Vars R HR.out s hs 5 1 (by decide) (by decide) w).mono ?_
  rintro e w1 ⟨hg, b1⟩
  have HB1 := hid b1
  clear b1
  rw [nums_one] at hg
  by_cases hq : (R (rest s 5)).2 = 0
  · rw [if_pos hq] at hg
    obtain ⟨v, rfl⟩ := hg
    have HN : Hid (readFrees R s = none) := by unfold Hid readFrees freesNums; rw [if_pos (Or.inl hq)]
    have HBf := hid (HB1.out.alloc HB1.out.size (.cells #[] 3))
    clear hq hx0 hle
    go_wp2
    go_ret2
    exact ⟨_, [], false, Or.inr ⟨HN.out, rfl, rfl⟩, rfl, none_row _ _ _, HBf.out⟩
  · rw [if_neg hq] at hg
    obtain ⟨v, rfl, hI⟩ := hg
    have HF : Hid (∀ h : ¬ 12 < (R (rest s 5)).1, freesNums R s = nums R s (5 + (R (rest s 5)).2) (R (rest s 5)).1.toNat) := fun h => by
      unfold freesNums; rw [if_neg (by omega)]
    have HF2 : Hid (12 < (R (rest s 5)).1 → freesNums R s = none) := fun h => by unfold freesNums; rw [if_pos (Or.inr h)]
    generalize (R (rest s 5)).1 = x at *
    obtain ⟨a, cap, rfl, hW⟩ := hI.w
    obtain ⟨g, off, rfl, c0⟩ := hW.sl 0 (by simp)
    replace c0 : w1.cell? ⟨g, off + 0, none⟩ = some (.int .i64 x) := c0
    rw [Nat.add_zero] at c0
    have hi2 : 5 + (R (rest s 5)).2 ≤ 1048576 := by omega
    generalize 5 + (R (rest s 5)).2 = i2 at *
    have hi20 : (0 : Int) ≤ (i2 : Int) := by omega
    simp only [List.length_cons, List.length_nil]
    clear hI hW hq
    by_cases hm : 12 < x
    · have HN : Hid (readFrees R s = none) := by unfold Hid readFrees; rw [HF2.out hm]
      have HBf := hid (HB1.out.alloc HB1.out.size (.cells #[] 3))
      go_wp2
      go_ret2
      exact ⟨_, [], false, Or.inr ⟨HN.out, rfl, rfl⟩, rfl, none_row _ _ _, HBf.out⟩
    · have HFn := hid (HF.out hm)
      obtain ⟨n, rfl⟩ : ∃ n : Nat, x = (n : Int) := Int.eq_ofNat_of_zero_le hx0
      rw [Int.toNat_natCast] at HFn
      clear HF HF2 hx0
      go_wp2_with fail
      refine (l4Vars R HR.out s hs i2 n hi2 (by omega) w1).mono ?_
      rintro e w2 ⟨hg, b2⟩
      have HB2 := hid (HB1.out.trans (b2.mono HB1.out.size))
      have hs1 := HB1.out.size
      clear b2 c0
      cases hnu : nums R s i2 n with
      | none =>
        rw [hnu] at hg HFn
        obtain ⟨v2, rfl⟩ := hg
        have HN : Hid (readFrees R s = none) := by unfold Hid readFrees; rw [HFn.out]
        have HBf := hid (HB2.out.alloc HB2.out.size (.cells #[] 3))
        clear hnu
        go_wp2
        go_ret2
        exact ⟨_, [], false, Or.inr ⟨HN.out, rfl, rfl⟩, rfl, none_row _ _ _, HBf.out⟩
      | some p =>
        obtain ⟨l, z⟩ := p
        rw [hnu] at hg HFn
        obtain ⟨v2, rfl, hI⟩ := hg
        have hll : l.length ≤ 12 := by have := nums_len hnu; omega
        have hz0 : (0 : Int) ≤ (z : Int) := by omega
        have HI := hid (RowO.mono hI hs1)
        obtain ⟨a2, cap2, rfl, hW⟩ := hI.w
        have HS2 := hid hW.sl
        clear hnu hI hW
        go_wp2_with fail
        refine (sShowFrees w2 a2 cap2 l HS2.out (by omega)).mono ?_
        rintro e w3 ⟨rfl, b3⟩
        have HB3 := hid (HB2.out.trans (b3.mono HB2.out.size))
        have HI3 := hid (RowO.below HI.out b3)
        clear b3
        by_cases hsh : showFrees l = s
        · have HN2 : Hid (readFrees R s = some l) := by unfold Hid readFrees; rw [HFn.out]; simp only []; rw [if_pos hsh]
          have hne := Own.eqS_yes hsh
          generalize showFrees l = sh at *
          go_wp2
          go_ret2
          exact ⟨_, l, true, Or.inl ⟨HN2.out, rfl⟩, rfl, HI3.out, HB3.out⟩
        · have HN2 : Hid (readFrees R s = none) := by unfold Hid readFrees; rw [HFn.out]; simp only []; rw [if_neg hsh]
          have hne := Own.eqS_no hsh
          have HBf := hid (HB3.out.alloc HB3.out.size (.cells #[] 3))
          generalize showFrees l = sh at *
          go_wp2
          go_ret2
          exact ⟨_, [], false, Or.inr ⟨HN2.out, rfl, rfl⟩, rfl, none_row _ _ _, HBf.out⟩

/-- Two answers are alike. -/
theorem out_alike {R : ByteArray → Int × Nat} {s : ByteArray} {l l' : List Int} {ok ok' : Bool} (h : readFrees R s = some l ∧ ok = true ∨ readFrees R s = none ∧ l = [] ∧ ok = false) (h' : readFrees R s = some l' ∧ ok' = true ∨ readFrees R s = none ∧ l' = [] ∧ ok' = false) : l' = l ∧ ok' = ok := by
  rcases h with ⟨a, b⟩ | ⟨a, b, c⟩ <;> rcases h' with ⟨a', b'⟩ | ⟨a', b', c'⟩
  · rw [a] at a'; cases a'; exact ⟨rfl, by rw [b, b']⟩
  · rw [a] at a'; cases a'
  · rw [a] at a'; cases a'
  · exact ⟨by rw [b, b'], by rw [c, c']⟩

theorem out_len {R : ByteArray → Int × Nat} (hR : Reads R) {s : ByteArray} (hs : s.size ≤ 1048576) {l : List Int} {ok : Bool} (h : readFrees R s = some l ∧ ok = true ∨ readFrees R s = none ∧ l = [] ∧ ok = false) : l.length ≤ 12 := by
  rcases h with ⟨a, _⟩ | ⟨_, b, _⟩
  · unfold readFrees at a
    cases hf : freesNums R s with
    | none => rw [hf] at a; cases a
    | some p =>
      obtain ⟨m, z⟩ := p
      rw [hf] at a
      simp only [] at a
      split at a
      · cases a; exact frees_short_len hR hs hf
      · cases a
  · rw [b]; simp

end Go.Proofs.YtaopkchkhdbfnaaGreatDoor.Rd

namespace Go.Proofs.YtaopkchkhdbfnaaGreatDoor.Rd
open Go.RowKit Go.Proofs.YtaopkchkhdbfnaaGreatDoor.Mem
open Go.Proofs.YtaopkchkhdbfnaaGreatDoor.Var (bl val varS first_low spec_hit spec_none impl_read impl_cut impl_none hit_of hit_shape val_le len_take bl_length)
set_option linter.unusedVariables false

def Tx (s : ByteArray) (p : Int × Nat) : Prop := (p.2 ≠ 0 → varS p.1 = s.extract 0 p.2) ∧ (p.2 ≠ 0 → (bl s).getD 0 0 < 128 → p.1 = (bl s).getD 0 0)

theorem tx_none (s : ByteArray) (x : Int) : Tx s (x, 0) := ⟨fun h => absurd rfl h, fun h => absurd rfl h⟩

theorem val_first (s : ByteArray) (h0 : 0 < s.size) (h : (bl s).getD 0 0 < 128) : val ((bl s).take 1) = (bl s).getD 0 0 := by
  have hl := bl_length s
  unfold bl at *
  cases hd : s.data.toList with
  | nil => rw [hd] at hl; simp at hl; omega
  | cons c t =>
    rw [hd] at h
    simp only [List.map_cons, List.take_succ_cons, List.take_zero, val, List.getD_cons_zero] at *
    omega

theorem rv_ex2 (s : ByteArray) (hs : s.size ≤ maxLen) : ∃ p : Int × Nat, RV s p ∧ Tx s p := by
  rcases first_low s (min 7 s.size) (by omega) with ⟨m, h1, h2, h3⟩ | h1
  · by_cases hz : m = 0 ∨ (bl s).getD m 0 ≠ 0
    · have hv := val_le ((bl s).take (m + 1)) (by have := len_take s (m + 1); omega)
      refine ⟨(val ((bl s).take (m + 1)), m + 1), ⟨fun w => spec_hit s m w hs (by omega) (by omega) (hit_of s m (by omega) (by omega) h2 h3 hz) ?_, fun w => impl_read s m w hs (by omega) (by omega) h2 h3 hz, by show m + 1 ≤ s.size; omega, hv.1, hv.2⟩, fun _ => hit_of s m (by omega) (by omega) h2 h3 hz, fun _ hb => ?_⟩
      · intro k hk1 hkm hh
        obtain ⟨j, rfl, _, g2, _⟩ := hit_shape s k (by omega) (by omega) hh
        have := h2 j (by omega)
        omega
      · have hm : m = 0 := by
          by_cases e : m = 0
          · exact e
          · have := h2 0 (by omega)
            omega
        subst hm
        exact val_first s (by omega) hb
    · have hm : m ≠ 0 := fun e => hz (Or.inl e)
      have hb : (bl s).getD m 0 = 0 := by
        by_cases e : (bl s).getD m 0 = 0
        · exact e
        · exact absurd (Or.inr e) hz
      refine ⟨(0, 0), ⟨fun w => spec_none s w hs ?_, fun w => impl_cut s m w hs (by omega) (by omega) h2 hb hm, Nat.zero_le _, Int.le_refl _, by decide⟩, tx_none _ _⟩
      intro k hk1 hk7 hks hh
      obtain ⟨j, rfl, g1, g2, g3⟩ := hit_shape s k hks hk7 hh
      by_cases hj : j < m
      · have := h2 j hj; omega
      · by_cases e : j = m
        · subst e
          rcases g3 with g3 | g3
          · exact hm g3
          · exact g3 hb
        · have := g1 m (by omega); omega
  · refine ⟨(0, 0), ⟨fun w => spec_none s w hs ?_, fun w => impl_none s w hs (fun j a b => h1 j (by omega)), Nat.zero_le _, Int.le_refl _, by decide⟩, tx_none _ _⟩
    intro k hk1 hk7 hks hh
    obtain ⟨j, rfl, _, g2, _⟩ := hit_shape s k hks hk7 hh
    have := h1 j (by omega)
    omega

theorem reads_ex2 : ∃ R, Reads R ∧ ∀ s : ByteArray, s.size ≤ maxLen → Tx s (R s) := by
  have h : ∀ s : ByteArray, ∃ p : Int × Nat, s.size ≤ maxLen → RV s p ∧ Tx s p := fun s => by
    by_cases hs : s.size ≤ maxLen
    · obtain ⟨p, hp⟩ := rv_ex2 s hs
      exact ⟨p, fun _ => hp⟩
    · exact ⟨(0, 0), fun h => absurd h hs⟩
  obtain ⟨R, hR⟩ := Classical.axiomOfChoice h
  exact ⟨R, fun s hs => (hR s hs).1, fun s hs => (hR s hs).2⟩

/-- What is left behind a head is the tail. -/
theorem rest_app (a b : ByteArray) (n : Nat) (hn : n = a.size) : rest (a ++ b) n = b := by
  subst hn
  unfold rest
  apply ByteArray.ext
  simp
  have e1 : a.data.extract a.data.size (a.data.size + b.data.size) = #[] := by
    apply Array.eq_empty_of_size_eq_zero
    rw [Array.size_extract]
    omega
  have e2 : b.data.extract 0 b.data.size = b.data := Array.extract_size
  show a.data.extract a.data.size (a.data.size + b.data.size) ++ b.data.extract 0 b.data.size = b.data
  rw [e1, e2, Array.empty_append]

end Go.Proofs.YtaopkchkhdbfnaaGreatDoor.Rd

namespace Go.Proofs.YtaopkchkhdbfnaaGreatDoor.Rd
open Go.RowKit Go.Proofs.YtaopkchkhdbfnaaGreatDoor.Mem Go.Proofs.YtaopkchkhdbfnaaGreatDoor.Sec
open Go.Proofs.YtaopkchkhdbfnaaGreatDoor.Var (bl varS)
set_option linter.unusedVariables false

theorem three_steps {R : ByteArray → Int × Nat} {s : ByteArray} {i n : Nat} {x y f : Int} {l : List Int} {z : Nat} (h : nums R s i (n + 3) = some (x :: y :: f :: l, z)) :
    ∃ k1 k2 k3, R (rest s i) = (x, k1) ∧ R (rest s (i + k1)) = (y, k2) ∧ R (rest s (i + k1 + k2)) = (f, k3) ∧ k1 ≠ 0 ∧ k2 ≠ 0 ∧ k3 ≠ 0 := by
  have s1 := nums_step (R := R) (s := s) (i := i) (k := 0) (l := []) (e := i) rfl
  by_cases q1 : (R (rest s i)).2 = 0
  · rw [if_pos q1] at s1
    rw [show n + 3 = (n + 2) + 1 by omega] at h
    have := nums_none (k := 1) s1 (n + 2)
    rw [show 1 + (n + 2) = (n + 2) + 1 by omega] at this
    rw [this] at h
    cases h
  rw [if_neg q1] at s1
  have s2 := nums_step s1
  by_cases q2 : (R (rest s (i + (R (rest s i)).2))).2 = 0
  · rw [if_pos q2] at s2
    have := nums_none (k := 2) s2 (n + 1)
    rw [show 2 + (n + 1) = n + 3 by omega] at this
    rw [this] at h
    cases h
  rw [if_neg q2] at s2
  have s3 := nums_step s2
  by_cases q3 : (R (rest s (i + (R (rest s i)).2 + (R (rest s (i + (R (rest s i)).2))).2))).2 = 0
  · rw [if_pos q3] at s3
    have := nums_none (k := 3) s3 n
    rw [show 3 + n = n + 3 by omega] at this
    rw [this] at h
    cases h
  rw [if_neg q3] at s3
  have h7 := nums_split3 (n := n) s3
  rw [h] at h7
  cases hn : nums R s (i + (R (rest s i)).2 + (R (rest s (i + (R (rest s i)).2))).2 + (R (rest s (i + (R (rest s i)).2 + (R (rest s (i + (R (rest s i)).2))).2))).2) n with
  | none => rw [hn] at h7; cases h7
  | some p =>
    rw [hn] at h7
    simp only [Option.map_some, Option.some.injEq, Prod.mk.injEq, List.cons.injEq] at h7
    obtain ⟨⟨rfl, rfl, rfl, _⟩, _⟩ := h7
    exact ⟨_, _, _, rfl, rfl, rfl, q1, q2, q3⟩

theorem vr_of {x : Int} (h0 : 0 ≤ x) (h1 : x ≤ 562949953421311) : vr x = varS x := by unfold vr; rw [if_pos ⟨h0, h1⟩]

theorem flag_bytes (on : Bool) : ∃ c : UInt8, flag on = ⟨#[c]⟩ ∧ c.toNat ≤ 1 := by
  cases on
  · exact ⟨0, by decide, by decide⟩
  · exact ⟨1, by decide, by decide⟩

theorem no_flag (R : ByteArray → Int × Nat) (hR : Reads R) (hT : ∀ s : ByteArray, s.size ≤ maxLen → Tx s (R s)) (s : ByteArray) (hs : s.size ≤ 1048576) : NoVol R s 5 → readVol R s = none := by
  rintro (h | ⟨x, y, f, l, z, h, hf⟩)
  · unfold readVol; rw [h]
  unfold readVol
  rw [h]
  simp only []
  rw [if_neg]
  intro hsh
  obtain ⟨k1, k2, k3, e1, e2, e3, q1, q2, q3⟩ := three_steps (n := 4) h
  have hb : ∀ i, (rest s i).size ≤ maxLen := fun i => by rw [rest_size]; unfold maxLen; omega
  have r1 := hR _ (hb 5)
  have r2 := hR _ (hb (5 + k1))
  have t1 := (hT _ (hb 5)).1
  have t2 := (hT _ (hb (5 + k1))).1
  have t3 := (hT _ (hb (5 + k1 + k2))).2
  rw [e1] at r1 t1
  rw [e2] at r2 t2
  rw [e3] at t3
  have z1 : (vr x).size = k1 := by rw [vr_of r1.x0 r1.x1, t1 q1]; have := r1.le; simp at this ⊢; omega
  have z2 : (vr y).size = k2 := by rw [vr_of r2.x0 r2.x1, t2 q2]; have := r2.le; simp at this ⊢; omega
  by_cases hv : volOk (x - 1) y (decide (f = 1)) (l.map (· + -1)) = true
  · obtain ⟨c, hc, hc1⟩ := flag_bytes (decide (f = 1))
    rw [← vol_yes hv] at hsh
    unfold summed showLs at hsh
    obtain ⟨A, hA⟩ : ∃ A, Go.Proofs.YtaopkchkhdbfnaaGreatDoor.Fix.fxS (crc (⟨#[118]⟩ ++ (vr (x - 1 + 1) ++ vr y) ++ flag (decide (f = 1)) ++ vrs (-1) (l.map (· + -1)))) 4 = A := ⟨_, rfl⟩
    have hA4 : A.size = 4 := by rw [← hA, Go.Proofs.YtaopkchkhdbfnaaGreatDoor.Fix.fxS_size]
    rw [hA] at hsh
    rw [show x - 1 + 1 = x by omega, hc] at hsh
    generalize vrs (-1) (l.map (· + -1)) = V at hsh
    have hs2 : (A ++ ⟨#[118]⟩ ++ vr x ++ vr y) ++ (⟨#[c]⟩ ++ V) = s := by rw [← hsh]; simp only [ByteArray.append_assoc]
    have hr := rest_app (A ++ ⟨#[118]⟩ ++ vr x ++ vr y) (⟨#[c]⟩ ++ V) (5 + k1 + k2) (by simp only [ByteArray.size_append, hA4, z1, z2]; rfl)
    rw [hs2] at hr
    rw [hr] at t3
    have hg : (bl (⟨#[c]⟩ ++ V)).getD 0 0 = (c.toNat : Int) := by simp [bl]
    rw [hg] at t3
    have := t3 q3 (by omega)
    simp at this
    omega
  · rw [vol_no (by simpa using hv)] at hsh
    have hk := r1.le
    rw [rest_size, ← hsh] at hk
    have h0 : (⟨#[]⟩ : ByteArray).size = 0 := rfl
    rw [h0] at hk
    have : k1 ≤ 0 - 5 := hk
    omega

end Go.Proofs.YtaopkchkhdbfnaaGreatDoor.Rd

namespace Go.Proofs.YtaopkchkhdbfnaaGreatDoor.Rd
open Go.RowKit Go.Proofs.YtaopkchkhdbfnaaGreatDoor.Mem Go.Proofs.YtaopkchkhdbfnaaGreatDoor.Sec
set_option linter.unusedVariables false

/-- A piece at a place: its text, and where it ends. -/
def pieceAt (R : ByteArray → Int × Nat) (s : ByteArray) (i : Nat) : Option (ByteArray × Nat) :=
  if (R (rest s i)).2 = 0 then none
  else if ((rest s (i + (R (rest s i)).2)).size : Int) < (R (rest s i)).1 then none
  else some ((rest s (i + (R (rest s i)).2)).extract 0 (R (rest s i)).1.toNat, i + (R (rest s i)).2 + (R (rest s i)).1.toNat)

theorem pieceAt_size {R : ByteArray → Int × Nat} {s : ByteArray} {i : Nat} {t : ByteArray} {z : Nat} (h : pieceAt R s i = some (t, z)) : t.size ≤ s.size := by
  unfold pieceAt at h
  split at h
  · cases h
  · split at h
    · cases h
    · simp only [Option.some.injEq, Prod.mk.injEq] at h
      rw [← h.1, ByteArray.size_extract, rest_size]
      omega

/-- Outs at a place. -/
def outsAt (R : ByteArray → Int × Nat) (s : ByteArray) (i : Nat) : Nat → Option (List Ou × Nat)
  | 0 => some ([], i)
  | k + 1 => (outsAt R s i k).bind fun p => if (R (rest s p.2)).2 = 0 then none else (pieceAt R s (p.2 + (R (rest s p.2)).2)).map fun q => (p.1 ++ [⟨(R (rest s p.2)).1, q.1⟩], q.2)

theorem outsAt_len {R : ByteArray → Int × Nat} {s : ByteArray} {i : Nat} : ∀ {k : Nat} {l : List Ou} {e : Nat}, outsAt R s i k = some (l, e) → l.length = k ∧ ∀ x ∈ l, x.text.size ≤ s.size
  | 0, l, e, h => by simp [outsAt] at h; obtain ⟨rfl, _⟩ := h; simp
  | k + 1, l, e, h => by
    unfold outsAt at h
    cases hk : outsAt R s i k with
    | none => rw [hk] at h; cases h
    | some p =>
      obtain ⟨l0, e0⟩ := p
      rw [hk] at h
      simp only [Option.bind_some] at h
      split at h
      · cases h
      · cases hp : pieceAt R s (e0 + (R (rest s e0)).2) with
        | none => rw [hp] at h; cases h
        | some q =>
          obtain ⟨t, z⟩ := q
          rw [hp] at h
          simp only [Option.map_some, Option.some.injEq, Prod.mk.injEq] at h
          obtain ⟨rfl, rfl⟩ := h
          have ih := outsAt_len hk
          refine ⟨by simp [ih.1], fun x hx => ?_⟩
          rcases List.mem_append.1 hx with hx | hx
          · exact ih.2 x hx
          · obtain rfl := List.mem_singleton.1 hx
            exact pieceAt_size hp

theorem outsAt_none {R : ByteArray → Int × Nat} {s : ByteArray} {i k : Nat} (h : outsAt R s i k = none) : ∀ n, outsAt R s i (k + n) = none
  | 0 => h
  | n + 1 => by
    show outsAt R s i ((k + n) + 1) = none
    unfold outsAt
    rw [outsAt_none h n]
    rfl

theorem outsAt_step {R : ByteArray → Int × Nat} {s : ByteArray} {i k : Nat} {l : List Ou} {e : Nat} (h : outsAt R s i k = some (l, e)) :
    outsAt R s i (k + 1) = if (R (rest s e)).2 = 0 then none else (pieceAt R s (e + (R (rest s e)).2)).map fun q => (l ++ [⟨(R (rest s e)).1, q.1⟩], q.2) := by
  conv => lhs; unfold outsAt
  rw [h]
  rfl

set_option maxRecDepth 100000 in
set_option maxHeartbeats 1000000 in
/-- A piece: how many bytes, then they; or a part lacks. -/
theorem piece (R : ByteArray → Int × Nat) (hR : Reads R) (s : ByteArray) (hs : s.size ≤ 1048576) (i : Nat) (w : World) (c : Nat) (h : Cur w c (rest s i)) (u : TypeId) (pv : Value) (hL : Lacks w u pv) (hc : 1 < c) :
    Calls Tryz.prog 233 #[.pointer (some ⟨c, 0, none⟩)] w fun e w' => (∃ t z, pieceAt R s i = some (t, z) ∧ e = .returned (.string t) ∧ Moved w w' c (rest s z)) ∨ (pieceAt R s i = none ∧ e = lack u pv ∧ Kept (fun b => b = c) w w') := by
  have HR := hid hR
  have HH := hid h
  have HL := hid hL
  have hx0 : 0 ≤ (R (rest s i)).1 := (hR (rest s i) (by rw [rest_size]; unfold maxLen; omega)).x0
  clear hR h hL
  go_enter Tryz.func233, Tryz.ntmps233
  go_wp2_with fail
  refine (number R HR.out s hs i w c HH.out u pv HL.out).mono ?_
  rintro e w1 (⟨hq, rfl, M1⟩ | ⟨hq, rfl, hw⟩)
  · obtain ⟨n, hn⟩ : ∃ n : Nat, (R (rest s i)).1 = (n : Int) := Int.eq_ofNat_of_zero_le hx0
    have HP : Hid (pieceAt R s i = if ((rest s (i + (R (rest s i)).2)).size : Int) < (n : Int) then none else some ((rest s (i + (R (rest s i)).2)).extract 0 n, i + (R (rest s i)).2 + n)) := by
      unfold Hid pieceAt; rw [if_neg hq, hn, Int.toNat_natCast]
    have HM := hid M1
    have HL1 := hid (HL.out.kept M1.2 (by omega))
    rw [hn]
    clear hq M1 hx0 hn
    generalize i + (R (rest s i)).2 = i2 at *
    have hsz : (rest s i2).size ≤ 1048576 := by rw [rest_size]; omega
    by_cases hlt : ((rest s i2).size : Int) < (n : Int)
    · have HN : Hid (pieceAt R s i = none) := by rw [Hid, HP.out, if_pos hlt]
      go_wp2_with fail
      refine (take_no w1 c (rest s i2) (n : Int) HM.out.1 hlt u pv HL1.out).mono ?_
      rintro e w2 ⟨rfl, hw⟩
      obtain rfl := hw.symm
      unfold lack
      clear hlt
      go_wp2
      exact ⟨rfl, Or.inr ⟨HN.out, rfl, HM.out.2⟩⟩
    · have HN : Hid (pieceAt R s i = some ((rest s i2).extract 0 n, i2 + n)) := by rw [Hid, HP.out, if_neg hlt]
      have HRR := hid (rest_rest s i2 n)
      go_wp2_with fail
      refine (take_yes w1 c (rest s i2) n HM.out.1 (by omega) hsz).mono ?_
      rintro e w2 ⟨rfl, hw⟩
      have HM2 : Hid (Moved w w2 c (rest s (i2 + n))) := HM.out.trans (by rw [hw, HRR.out]; exact moved_set HM.out.1 _)
      clear hw hlt
      generalize (rest s i2).extract 0 n = t at *
      go_wp2
      go_ret
      exact Or.inl ⟨t, i2 + n, HN.out, rfl, HM2.out⟩
  · have HN : Hid (pieceAt R s i = none) := by unfold Hid pieceAt; rw [if_pos hq]
    obtain rfl := hw.symm
    clear hq hw
    unfold lack
    go_wp2
    exact ⟨rfl, Or.inr ⟨HN.out, rfl, Kept.refl _ _⟩⟩

/-- The cells of a list of outs, and a row of them of its own. -/
def oc (l : List Ou) : List Value := l.flatMap Ou.cells
theorem oc_len (l : List Ou) : (oc l).length = l.length * 2 := by
  induction l with
  | nil => rfl
  | cons x l ih => simp only [oc, List.flatMap_cons, List.length_append, List.length_cons] at *; rw [ih]; simp [Ou.cells]; omega
theorem oc_app (l : List Ou) (x : Ou) : oc l ++ x.cells = oc (l ++ [x]) := by simp [oc]
theorem oc_at (l : List Ou) (i : Nat) (h : i < l.length * 2) : (oc l).getD i undef = ocell l i := by
  induction l generalizing i with
  | nil => simp at h
  | cons x l ih =>
    have e : oc (x :: l) = Value.int .i64 x.sec :: .string x.text :: oc l := rfl
    rw [e]
    match i, h with
    | 0, _ => rfl
    | 1, _ => rfl
    | i + 2, h =>
      have := ih i (by simp only [List.length_cons] at h; omega)
      show (oc l).getD i undef = _
      rw [this]
      unfold ocell
      rw [show (i + 2) / 2 = i / 2 + 1 by omega, show (i + 2) % 2 = i % 2 by omega]
      rfl

def Or2 (w : World) (B : Nat) (v : Value) (l : List Ou) : Prop := RowO w B 187 2 v l.length (oc l)

theorem Or2.w {w : World} {B : Nat} {v : Value} {l : List Ou} (h : Or2 w B v l) : ∃ a cap, v = .slice a l.length cap ∧ OusW w B a l := by
  obtain ⟨a, cap, e, hw⟩ := RowO.wr h
  exact ⟨a, cap, e, hw.congr (fun i hi => oc_at l i hi)⟩

theorem infoOut : (Tryz.prog.info? 187).map (fun i => (i.zero, i.size, i.bytes)) = some (some (.agg #[.int .i64 0, .string ByteArray.empty]), 2, 24) := by kernel_rfl

theorem one_out (w : World) (x : Int) (t : ByteArray) : Sl (w.alloc (.cells #[.int .i64 x, .string t] 187)) (some ⟨w.heap.size, 0, none⟩) (1 * 2) (fun i => [Value.int .i64 x, .string t].getD i undef) :=
  (wr_new w _ 187 2 (fun i => [Value.int .i64 x, .string t].getD i undef) (fun i hi => by
    have : i = 0 ∨ i = 1 := by omega
    rcases this with rfl | rfl <;> rfl)).sl

/-- The outs of a journal's text: how many, then they. -/
def outsAll (R : ByteArray → Int × Nat) (s : ByteArray) (i : Nat) : Option (List Ou × Nat) :=
  if (R (rest s i)).2 = 0 ∨ 8 < (R (rest s i)).1 then none else outsAt R s (i + (R (rest s i)).2) (R (rest s i)).1.toNat

set_option maxRecDepth 100000 in
set_option maxHeartbeats 2000000 in
theorem outsParts (R : ByteArray → Int × Nat) (hR : Reads R) (s : ByteArray) (hs : s.size ≤ 1048576) (i : Nat) (w : World) (c : Nat) (h : Cur w c (rest s i)) (u : TypeId) (pv : Value) (hL : Lacks w u pv) (hc : 1 < c) :
    Calls Tryz.prog 182 #[.pointer (some ⟨c, 0, none⟩)] w fun e w' => ((∃ l z a cap, outsAll R s i = some (l, z) ∧ e = .returned (.slice a l.length cap) ∧ Or2 w' w.heap.size (.slice a l.length cap) l) ∨ (outsAll R s i = none ∧ e = lack u pv)) ∧ Kept (fun b => b = c) w w' := by
  have HR := hid hR
  have HH := hid h
  have HL := hid hL
  have hcl := h.lt
  have hx0 : 0 ≤ (R (rest s i)).1 := (hR (rest s i) (by rw [rest_size]; unfold maxLen; omega)).x0
  clear hR h hL
  go_enter Tryz.func182, Tryz.ntmps182
  go_wp2_with fail
  refine (count R HR.out s hs i 8 w c HH.out u pv HL.out hc).mono ?_
  rintro e w1 (⟨hq, hm, rfl, M1⟩ | ⟨hq, rfl, k1⟩)
  · have HF : Hid (outsAll R s i = outsAt R s (i + (R (rest s i)).2) (R (rest s i)).1.toNat) := by
      unfold Hid outsAll; rw [if_neg (by omega)]
    have HM := hid M1
    have hws1 := M1.2.size
    clear M1 hq
    generalize i + (R (rest s i)).2 = i2 at *
    obtain ⟨n, hn⟩ : ∃ n : Nat, (R (rest s i)).1 = (n : Int) := Int.eq_ofNat_of_zero_le hx0
    rw [hn] at HF hm
    rw [Int.toNat_natCast] at HF
    rw [hn]
    clear hn hx0
    go_wp2
    go_loopw [3, 7] (fun v j wr => ∃ (k : Nat) (l : List Ou) (z : Nat), k ≤ n ∧ j = .int .i64 (k : Int) ∧ Hid (outsAt R s i2 k = some (l, z)) ∧ Hid (Or2 wr w.heap.size v l) ∧ Hid (Cur wr c (rest s z)) ∧ Hid (Kept (fun b => b = c) w wr)) (fun _ j _ => n - (intOf j).toNat)
    case atStart => exact ⟨0, [], i2, Nat.zero_le _, rfl, rfl, Or.inl ⟨_, rfl, rfl, rfl⟩, HM.out.1, HM.out.2⟩
    case round =>
      obtain ⟨k, l, z, hk, rfl, HN, HI, HC, HK⟩ := hrel
      have hl : l.length ≤ 8 := by have := (outsAt_len HN.out).1; omega
      obtain ⟨a, cap, rfl, _⟩ := HI.out.w
      have hws := HK.out.size
      by_cases hlt : k < n
      · have HST := hid (outsAt_step HN.out)
        have HLr := hid (HL.out.kept HK.out (by omega))
        go_wp2_with fail
        refine (number R HR.out s hs z wr c HC.out u pv HLr.out).mono ?_
        rintro e w2 (⟨hq, rfl, M2⟩ | ⟨hq, rfl, hw⟩)
        · have HX : Hid (outsAt R s i2 (k + 1) = (pieceAt R s (z + (R (rest s z)).2)).map fun q => (l ++ [⟨(R (rest s z)).1, q.1⟩], q.2)) := by rw [Hid, HST.out, if_neg hq]
          have HM2 := hid M2
          have HL2 := hid (HLr.out.kept M2.2 (by omega))
          have HI2 : Hid (Or2 w2 w.heap.size (.slice a l.length cap) l) := RowO.kept HI.out M2.2 (fun b hb x => by have := (RowO.lt HI.out hb).1; omega)
          have HK2 : Hid (Kept (fun b => b = c) w w2) := (HK.out.trans M2.2).mono (fun b _ x => by rcases x with x | x <;> exact x)
          clear M2 hq HST HLr
          generalize (R (rest s z)).1 = x at *
          generalize z + (R (rest s z)).2 = z2 at *
          go_wp2_with fail
          refine (piece R HR.out s hs z2 w2 c HM2.out.1 u pv HL2.out hc).mono ?_
          rintro e w3 (⟨t, z3, hp, rfl, M3⟩ | ⟨hp, rfl, k3⟩)
          · have HX2 : Hid (outsAt R s i2 (k + 1) = some (l ++ [⟨x, t⟩], z3)) := by rw [Hid, HX.out, hp]; rfl
            have HM3 := hid M3
            have HI3 : Hid (Or2 w3 w.heap.size (.slice a l.length cap) l) := RowO.kept HI2.out M3.2 (fun b hb x => by have := (RowO.lt HI2.out hb).1; omega)
            have HK3 : Hid (Kept (fun b => b = c) w w3) := (HK2.out.trans M3.2).mono (fun b _ x => by rcases x with x | x <;> exact x)
            have hws3 := HK3.out.size
            clear M3 hp HX HI2 HM2 HL2
            have hwb : w.heap.size ≤ (w3.alloc (.cells #[.int .i64 x, .string t] 187)).heap.size := by have := lt_alloc w3 (.cells #[.int .i64 x, .string t] 187); omega
            go_wp2_with (at_builtin; refine wpList_app 59 187 (.agg #[.int .i64 0, .string ByteArray.empty]) 2 24 Tryz.underlying59 infoOut rfl (by decide) (by decide) _ rfl (.tmp 11) (.tmp 16) rfl w.heap.size _ l.length (oc l) rfl (RowO.below HI3.out ((Below.refl _ _).alloc (Nat.le_refl _) _)) ⟨w3.heap.size, 0, none⟩ 1 1 [.int .i64 x, .string t] rfl rfl (one_out w3 x t) (by intro u hu; simp at hu; rcases hu with rfl | rfl <;> rfl) (by omega) hwb ?_; intro v2 w4 r2 kk hi2; obtain ⟨p2, d2, e2, _⟩ := r2.wr; subst e2)
            have hrb : ∀ b, rb (.slice a l.length cap) = some b → w.heap.size ≤ b := fun b hb => (RowO.lt HI3.out hb).1
            have HC2 : Cur w4 c (rest s z3) := cur_kept ((HM3.out.1).below ((Below.refl _ _).alloc (Nat.le_refl _) _)) kk (fun x => by have := hrb c x; omega)
            have HK4 : Kept (fun b => b = c) w w4 := (HK3.out.trans ((Kept.of_below (S := fun _ => False) ((Below.refl _ w3).alloc (Nat.le_refl _) (.cells #[.int .i64 x, .string t] 187))).trans kk)).mono (fun b hb x => by rcases x with x | (x | x); exact x; cases x; (have := hrb b x; omega))
            exact ⟨⟨k + 1, l ++ [⟨x, t⟩], z3, by omega, by go_num, HX2, by unfold Or2; rw [← oc_app, List.length_append]; exact r2, HC2, HK4⟩, by simp [intOf]; omega⟩
          · have HX2 : Hid (outsAll R s i = none) := by
              have hz : outsAt R s i2 (k + 1) = none := by rw [HX.out, hp]; rfl
              have := outsAt_none hz (n - (k + 1))
              rw [Hid, HF.out]
              rwa [show k + 1 + (n - (k + 1)) = n by omega] at this
            have HK3 : Hid (Kept (fun b => b = c) w w3) := (HK2.out.trans k3).mono (fun b _ x => by rcases x with x | x <;> exact x)
            clear hp k3
            unfold lack
            go_wp2
            exact ⟨rfl, Or.inr ⟨HX2.out, rfl⟩, HK3.out⟩
        · have HX2 : Hid (outsAll R s i = none) := by
            have hz : outsAt R s i2 (k + 1) = none := by rw [HST.out, if_pos hq]
            have := outsAt_none hz (n - (k + 1))
            rw [Hid, HF.out]
            rwa [show k + 1 + (n - (k + 1)) = n by omega] at this
          obtain rfl := hw.symm
          clear hq hw
          unfold lack
          go_wp2
          exact ⟨rfl, Or.inr ⟨HX2.out, rfl⟩, HK.out⟩
      · obtain rfl : k = n := by omega
        go_wp2
        go_ret
        exact ⟨Or.inl ⟨l, z, a, cap, HF.out.trans HN.out, rfl, HI.out⟩, HK.out⟩
  · have HX2 : Hid (outsAll R s i = none) := by unfold Hid outsAll; rw [if_pos hq]
    have HK1 := hid k1
    clear hq k1
    unfold lack
    go_wp2
    exact ⟨rfl, Or.inr ⟨HX2.out, rfl⟩, HK1.out⟩

end Go.Proofs.YtaopkchkhdbfnaaGreatDoor.Rd
