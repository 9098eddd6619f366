/-
  Plain: which pools are right. The walk of spec.ModelOk. No condition but lists of at most 2^20.
-/
import Derived.Test.YtbnpnhcegoanmaaPpMk
namespace Go.Proofs.Ytbnpnhcegoanmaa.Pl
open Go.RowKit Go.Proofs.Ytbnpnhcegoanmaa.Mem
set_option linter.unusedVariables false

/-- Is what stands at one number of a volume not right. -/
def plBad (on h : Bool) (t : ByteArray) : Bool := (h && !on) || ((!h && !decide (t = ⟨#[]⟩)) || decide (16 < t.size))
def placeOk (x : Pv) (k : Nat) : Bool := !plBad x.on (x.hs.getD k false) (x.ts.getD k ByteArray.empty)
def Pv.ok (x : Pv) : Bool := (decide (x.hs.length = 4) && decide (x.ts.length = 4)) && (List.range 4).all (placeOk x)
/-- Is a pool right. -/
def modelOk (L : List Pv) : Bool := decide (L.length = 4) && L.all Pv.ok

theorem pv_ok_data {x y : Pv} (h : x.data = y.data) : x.ok = y.ok := by
  obtain ⟨a, b, c, d, e, f, g⟩ := x
  obtain ⟨a', b', c', d', e', f', g'⟩ := y
  simp only [Pv.data, Prod.mk.injEq] at h
  obtain ⟨rfl, rfl, rfl⟩ := h
  rfl
theorem modelOk_data {L M : List Pv} (h : L.map Pv.data = M.map Pv.data) : modelOk L = modelOk M := by
  have hl : L.length = M.length := by have := congrArg List.length h; simpa using this
  have e : ∀ L : List Pv, L.all Pv.ok = (L.map Pv.data).all (fun d => Pv.ok ⟨d.1, Option.none, 0, d.2.1, Option.none, 0, d.2.2⟩) := fun L => by
    rw [List.all_map]
    congr 1
  unfold modelOk
  rw [hl, e, e, h]

theorem pall_take {X : Type} (f : X → Bool) (d : X) (L : List X) (k : Nat) (hk : k < L.length) (h : (L.take k).all f = true) (h1 : f (L.getD k d) = true) : (L.take (k + 1)).all f = true := by
  rw [List.take_add_one, List.all_append, h, List.getElem?_eq_getElem hk]
  rw [List.getD, List.getElem?_eq_getElem hk] at h1
  simpa using h1
theorem pall_no {X : Type} (f : X → Bool) (d : X) (L : List X) (k : Nat) (hk : k < L.length) (h1 : f (L.getD k d) = false) : L.all f = false := by
  rw [List.all_eq_false]
  rw [List.getD, List.getElem?_eq_getElem hk] at h1
  exact ⟨L[k], List.getElem_mem hk, by simpa using h1⟩

theorem pv_no1 {x : Pv} (h : ¬ x.hs.length = 4) : x.ok = false := by unfold Pv.ok; rw [decide_eq_false h]; rfl
theorem pv_no2 {x : Pv} (h : ¬ x.ts.length = 4) : x.ok = false := by unfold Pv.ok; rw [decide_eq_false h, Bool.and_false]; rfl
theorem pv_no3 {x : Pv} (k : Nat) (hk : k < 4) (h : placeOk x k = false) : x.ok = false := by
  unfold Pv.ok
  have : (List.range 4).all (placeOk x) = false := by rw [List.all_eq_false]; exact ⟨k, List.mem_range.2 hk, by simpa using h⟩
  rw [this, Bool.and_false]
theorem pv_yes {x : Pv} (h1 : x.hs.length = 4) (h2 : x.ts.length = 4) (h3 : ∀ j, j < 4 → placeOk x j = true) : x.ok = true := by
  unfold Pv.ok
  have : (List.range 4).all (placeOk x) = true := by rw [List.all_eq_true]; exact fun k hk => h3 k (List.mem_range.1 hk)
  rw [this, decide_eq_true h1, decide_eq_true h2]; rfl

end Go.Proofs.Ytbnpnhcegoanmaa.Pl
