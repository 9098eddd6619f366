/-
  Plain: what HostCall makes of a host. No condition.
-/
import Derived.Test.YtllgjoflhjnnaaaHoOk
import Derived.Test.YtllgjoflhjnnaaaHoCp
import Derived.Test.YtllgjoflhjnnaaaLawReg
namespace Go.Proofs.Ytllgjoflhjnnaaa.Pl
open Go.RowKit Go.Proofs.Ytllgjoflhjnnaaa.Mem Go.Proofs.Ytllgjoflhjnnaaa.Sec
set_option linter.unusedVariables false

def Ho.zero : Ho := ⟨0, 0, false, false, false, 0, 0, 0, 0, ⟨#[]⟩, 0, 0, 0, ⟨#[]⟩, [], 0⟩
def Ho.may (H : Ho) (K V T A : Int) (X : ByteArray) : Bool := H.up && (!H.bz && (opRight K V T A X && !(decide (K = 12) && decide (V = H.id))))
/-- What HostCall answers. -/
def callD (H : Ho) (K V T A : Int) (X : ByteArray) : Ho × Bool := if H.ok = true then (if H.may K V T A X = true then (⟨H.id, H.ep, H.up, H.rd, true, K, V, T, A, X, H.pc, H.cd, H.bk, H.tx, H.l, H.txn⟩, true) else (H, false)) else (Ho.zero, false)

theorem call_no {H : Ho} {K V T A : Int} {X : ByteArray} (h : H.ok = false) : callD H K V T A X = (Ho.zero, false) := by unfold callD; rw [h]; rfl
theorem call_is {H : Ho} {K V T A : Int} {X : ByteArray} (h : H.ok = true) (m : H.may K V T A X = false) : callD H K V T A X = (H, false) := by unfold callD; rw [h, m]; rfl
theorem call_on {H : Ho} {K V T A : Int} {X : ByteArray} (h : H.ok = true) (m : H.may K V T A X = true) : callD H K V T A X = (⟨H.id, H.ep, H.up, H.rd, true, K, V, T, A, X, H.pc, H.cd, H.bk, H.tx, H.l, H.txn⟩, true) := by unfold callD; rw [h, m]; rfl
theorem may_up {H : Ho} {K V T A : Int} {X : ByteArray} (h : H.up = false) : H.may K V T A X = false := by unfold Ho.may; rw [h]; rfl
theorem may_bz {H : Ho} {K V T A : Int} {X : ByteArray} (h : H.bz = true) : H.may K V T A X = false := by unfold Ho.may; rw [h]; simp
theorem may_op {H : Ho} {K V T A : Int} {X : ByteArray} (h : opRight K V T A X = false) : H.may K V T A X = false := by unfold Ho.may; rw [h]; simp
theorem may_self {H : Ho} {K V T A : Int} {X : ByteArray} (h : K = 12 ∧ V = H.id) : H.may K V T A X = false := by unfold Ho.may; rw [decide_eq_true h.1, decide_eq_true h.2]; simp
theorem may_yes {H : Ho} {K V T A : Int} {X : ByteArray} (h1 : H.up = true) (h2 : H.bz = false) (h3 : opRight K V T A X = true) (h : ¬ (K = 12 ∧ V = H.id)) : H.may K V T A X = true := by
  unfold Ho.may
  rw [h1, h2, h3]
  by_cases hk : K = 12
  · rw [decide_eq_true hk, decide_eq_false (fun e => h ⟨hk, e⟩)]; rfl
  · rw [decide_eq_false hk]; rfl
/-- A right call that recovers one names nothing else. -/
theorem self_is {K V T A i : Int} {X : ByteArray} (h : opRight K V T A X = true) : (K = 12 ∧ V = i ∧ T = 0 ∧ A = 0 ∧ X = ⟨#[]⟩) ↔ (K = 12 ∧ V = i) := by
  constructor
  · intro x; exact ⟨x.1, x.2.1⟩
  · rintro ⟨rfl, rfl⟩
    unfold opRight at h
    rw [Bool.and_eq_true] at h
    have h2 := of_decide_eq_true h.2
    obtain ⟨_, _, h3, h4, h5⟩ := h2
    exact ⟨rfl, rfl, h3.symm, h4.symm, h5.symm⟩

theorem call_sCopy (vs : Array Value) (w : World) : (callFunc 30 vs).run Try.prog w = .ok (.enter 30 vs) w := by simp [go_sem]
theorem call_iCopy (vs : Array Value) (w : World) : (callFunc 31 vs).run Try.prog w = .ok (.enter 31 vs) w := by simp [go_sem]

theorem three_y (w : World) (xs ys zs : List Value) (t u v : TypeId) :
    ∃ wc, ((w.alloc (.cells xs.toArray t)).alloc (.cells ys.toArray u)).alloc (.cells zs.toArray v) = wc ∧ wc.heap.size = w.heap.size + 1 + 1 + 1 ∧
      Row wc w.heap.size xs ∧ Row wc (w.heap.size + 1) ys ∧ Row wc (w.heap.size + 1 + 1) zs ∧ Below w.heap.size w wc := by
  have e0 : (w.alloc (.cells xs.toArray t)).heap.size = w.heap.size + 1 := by simp
  have e1 : ((w.alloc (.cells xs.toArray t)).alloc (.cells ys.toArray u)).heap.size = w.heap.size + 1 + 1 := by simp
  have r1 := Row.new (w.alloc (.cells xs.toArray t)) ys u
  have r2 := Row.new ((w.alloc (.cells xs.toArray t)).alloc (.cells ys.toArray u)) zs v
  rw [e0] at r1
  rw [e1] at r2
  exact ⟨_, rfl, by simp, ((Row.new w xs t).alloc _).alloc _, r1.alloc _, r2, (((Below.refl _ _).alloc (Nat.le_refl _) _).alloc (by omega) _).alloc (by omega) _⟩

theorem results_hb {P : Program} {fn : Func} {p u : Tmp} {ty : TypeId} (h : fn.results = #[.cell p ty, .tmp u]) (tmps : Array Value) (w : World) (g : Nat) (xs : List Value) (d : TypeDesc)
    (hp : tmps.getD p undef = .pointer (some ⟨g, 0, none⟩)) (hr : Row w g xs)
    (hu : P.underlying ty = some d) (hd : (match d with | .struct _ | .array _ _ => true | _ => false) = true) (hi : (P.info? ty).map (·.size) = some xs.length) :
    (results fn tmps).run P w = .ok (.tuple #[.agg xs.toArray, tmps.getD u undef]) w := by
  obtain ⟨t, hb⟩ := hr
  rw [results_cell_tmp h, hp]
  have hl := run_loadVar_row (P := P) w g t ty xs.toArray (0, 0) d hb hu hd (by simpa using hi)
  simp [asAddr, Result.andThen, hl]

end Go.Proofs.Ytllgjoflhjnnaaa.Pl
