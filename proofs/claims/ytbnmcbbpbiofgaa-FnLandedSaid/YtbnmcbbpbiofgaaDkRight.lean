/-
  Plain facts on disks: a right disk stays right; what a host sees. No condition.
-/
import Derived.Test.YtbnmcbbpbiofgaaDkPure
namespace Go.Proofs.Ytbnmcbbpbiofgaa.Mem
set_option linter.unusedVariables false

theorem getD_mem {α : Type} {l : List α} {d : α} {j : Nat} (h : j < l.length) : l.getD j d ∈ l := by
  rw [List.getD_eq_getElem?_getD, List.getElem?_eq_getElem h]
  exact List.getElem_mem h
theorem mem_getD {α : Type} {l : List α} {d x : α} (h : x ∈ l) : ∃ j, j < l.length ∧ l.getD j d = x := by
  obtain ⟨j, hj, rfl⟩ := List.getElem_of_mem h
  exact ⟨j, hj, by rw [List.getD_eq_getElem?_getD, List.getElem?_eq_getElem hj]; rfl⟩

theorem right_of {D : Dk} (n1 : 1 ≤ D.sec.length) (n2 : D.sec.length ≤ 40) (e3 : D.ep.length = 3) (p40 : D.pe.length ≤ 40) (s : ∀ x ∈ D.sec, (x.size : Int) ≤ 700) (e : ∀ x ∈ D.ep, 1 ≤ x ∧ x ≤ 100000) (p : ∀ x ∈ D.pe, x.okIn D) : D.Right :=
  ⟨n1, n2, e3, p40, fun j hj => s _ (getD_mem hj), fun j hj => e _ (getD_mem hj), fun j hj => p _ (getD_mem hj)⟩
theorem Dk.Right.sm {D : Dk} (h : D.Right) : ∀ x ∈ D.sec, (x.size : Int) ≤ 700 := fun x hx => by
  obtain ⟨j, hj, rfl⟩ := mem_getD (d := ByteArray.empty) hx; exact h.s j hj
theorem Dk.Right.em {D : Dk} (h : D.Right) : ∀ x ∈ D.ep, 1 ≤ x ∧ x ≤ 100000 := fun x hx => by
  obtain ⟨j, hj, rfl⟩ := mem_getD (d := (0 : Int)) hx; exact h.e j hj
theorem Dk.Right.pm {D : Dk} (h : D.Right) : ∀ x ∈ D.pe, x.okIn D := fun x hx => by
  obtain ⟨j, hj, rfl⟩ := mem_getD (d := Wt.none) hx; exact h.p j hj

theorem mem_set_or {α : Type} {l : List α} {i : Nat} {a x : α} (h : x ∈ l.set i a) : x ∈ l ∨ x = a := List.mem_or_eq_of_mem_set h

/-- Fewer writes under way leave a right disk right. -/
theorem Dk.Right.fewer {D : Dk} (h : D.Right) (l : List Wt) (hl : l.length ≤ D.pe.length) (hm : ∀ x ∈ l, x ∈ D.pe) : (Dk.mk D.sec D.ep l).Right :=
  right_of h.n1 h.n2 h.e3 (Nat.le_trans hl h.p40) h.sm h.em (fun x hx => h.pm x (hm x hx))

/-- Another text in a sector leaves a right disk right. -/
theorem Dk.Right.sector {D : Dk} (h : D.Right) (i : Nat) (t : ByteArray) (ht : (t.size : Int) ≤ 700) : (Dk.mk (D.sec.set i t) D.ep D.pe).Right :=
  right_of (by show 1 ≤ (D.sec.set i t).length; rw [List.length_set]; exact h.n1) (by show (D.sec.set i t).length ≤ 40; rw [List.length_set]; exact h.n2) h.e3 h.p40
    (fun x hx => by rcases mem_set_or hx with h' | rfl; exact h.sm x h'; exact ht) h.em
    (fun x hx => by
      obtain ⟨a, b, c, d, f⟩ := h.pm x hx
      exact ⟨a, b, c, by show x.sector < ((D.sec.set i t).length : Int); rw [List.length_set]; exact d, f⟩)

theorem Dk.Right.put {D : Dk} (h : D.Right) (x e s : Int) (t : ByteArray) : (D.put x e s t).1.Right := by
  unfold Dk.put
  split
  · rename_i h1
    split
    · rename_i h2
      split
      · rename_i h3
        refine right_of h.n1 h.n2 h.e3 (by show (D.pe ++ [_]).length ≤ 40; rw [List.length_append]; show D.pe.length + 1 ≤ 40; omega) h.sm h.em (fun y hy => ?_)
        rcases List.mem_append.1 hy with hy | hy
        · exact h.pm y hy
        · obtain rfl : y = ⟨x, e, s, t⟩ := by simpa using hy
          exact ⟨h1.1.1, h2.symm, h1.1.2.1, h1.1.2.2, h1.2⟩
      · exact h
    · exact h
  · exact h

theorem lands_right (D : Dk) (h : D.Right) (hh : Int) : ∀ (l : List Wt), (∀ x ∈ l, x ∈ D.pe) → (Dk.mk (lands D.sec l hh) D.ep D.pe).Right := by
  intro l
  suffices H : ∀ (l : List Wt) (s : List ByteArray), (Dk.mk s D.ep D.pe).Right → (∀ x ∈ l, x ∈ D.pe) → (Dk.mk (lands s l hh) D.ep D.pe).Right from fun hl => H l D.sec h hl
  intro l
  induction l with
  | nil => intro s hr _; exact hr
  | cons x l ih =>
    intro s hr hl
    rw [lands_cons]
    refine ih _ ?_ (fun y hy => hl y (List.mem_cons_of_mem _ hy))
    split
    · exact hr.sector x.sector.toNat x.text (hr.pm x (hl x (List.mem_cons_self ..))).2.2.2.2
    · exact hr

theorem others_mem {l : List Wt} {h : Int} {x : Wt} (hx : x ∈ others l h) : x ∈ l ∧ x.host ≠ h := by
  unfold others at hx
  obtain ⟨a, b⟩ := List.mem_filter.1 hx
  exact ⟨a, by simpa using b⟩
theorem others_len (l : List Wt) (h : Int) : (others l h).length ≤ l.length := List.length_filter_le _ _

theorem Dk.Right.flush {D : Dk} (h : D.Right) (x e : Int) : (D.flush x e).1.Right := by
  unfold Dk.flush
  split
  · split
    · exact (lands_right D h x D.pe (fun _ hx => hx)).fewer (others D.pe x) (others_len _ _) (fun y hy => (others_mem hy).1)
    · exact h
  · exact h

theorem Dk.Right.land {D : Dk} (h : D.Right) (i : Int) : (D.land i).1.Right := by
  unfold Dk.land
  split
  · rename_i hc
    have hi : i.toNat < D.pe.length := by have := hc.1; have := hc.2.1; omega
    have hr := h.sector (D.pe.getD i.toNat Wt.none).sector.toNat (D.pe.getD i.toNat Wt.none).text (h.p i.toNat hi).2.2.2.2
    exact hr.fewer (D.pe.eraseIdx i.toNat) (List.length_eraseIdx_le ..) (fun y hy => List.mem_of_mem_eraseIdx hy)
  · exact h

theorem Dk.Right.swap {D : Dk} (h : D.Right) (x e s : Int) (old t : ByteArray) : (D.swap x e s old t).1.Right := by
  unfold Dk.swap
  split
  · rename_i h1
    split
    · split
      · exact h.sector s.toNat t h1.2.1
      · exact h
    · exact h
  · exact h

theorem getD_set_ne {l : List Int} {i j : Nat} {z : Int} (h : i ≠ j) : (l.set i z).getD j 0 = l.getD j 0 := by
  rw [List.getD_eq_getElem?_getD, List.getD_eq_getElem?_getD, List.getElem?_set_ne h]

theorem Dk.Right.fence {D : Dk} (h : D.Right) (x : Int) : (D.fence x).1.Right := by
  unfold Dk.fence
  split
  · rename_i h1
    have hx : x.toNat < D.ep.length := by have := h.e3; omega
    have h1e := h.e x.toNat hx
    refine right_of h.n1 h.n2 (by show (D.ep.set x.toNat _).length = 3; rw [List.length_set]; exact h.e3) (Nat.le_trans (others_len _ _) h.p40) h.sm ?_ ?_
    · intro y hy
      rcases mem_set_or hy with hy | rfl
      · exact h.em y hy
      · omega
    · intro y hy
      obtain ⟨hy1, hy2⟩ := others_mem hy
      obtain ⟨a, b, c, d, f⟩ := h.pm y hy1
      refine ⟨a, ?_, c, d, f⟩
      rw [b]
      exact (getD_set_ne (by have := a.1; omega)).symm
  · exact h

/-- What a host sees, over the list of writes under way. -/
def seeL (t : ByteArray) (l : List Wt) (h s : Int) : ByteArray := l.foldl (fun t x => if x.host = h ∧ x.sector = s then x.text else t) t

theorem see_eq (D : Dk) (h s : Int) : ∀ k, k ≤ D.pe.length → D.see h s k = seeL (D.sec.getD s.toNat ByteArray.empty) (D.pe.take k) h s
  | 0, _ => rfl
  | k + 1, hk => by
    rw [take_more D.pe k (by omega)]
    show (if (D.pe.getD k Wt.none).host = h ∧ (D.pe.getD k Wt.none).sector = s then (D.pe.getD k Wt.none).text else D.see h s k) = _
    rw [see_eq D h s k (by omega)]
    unfold seeL
    rw [List.foldl_append]
    rfl
theorem see_all (D : Dk) (h s : Int) : D.see h s D.pe.length = seeL (D.sec.getD s.toNat ByteArray.empty) D.pe h s := by
  rw [see_eq D h s _ (Nat.le_refl _), List.take_length]
theorem seeL_append (t : ByteArray) (l m : List Wt) (h s : Int) : seeL t (l ++ m) h s = seeL (seeL t l h s) m h s := by unfold seeL; rw [List.foldl_append]
theorem seeL_none (t : ByteArray) (l : List Wt) (h s : Int) (hn : ∀ x ∈ l, ¬ (x.host = h ∧ x.sector = s)) : seeL t l h s = t := by
  induction l generalizing t with
  | nil => rfl
  | cons x l ih =>
    show seeL (if x.host = h ∧ x.sector = s then x.text else t) l h s = t
    rw [if_neg (hn x (List.mem_cons_self ..)), ih _ (fun y hy => hn y (List.mem_cons_of_mem _ hy))]
theorem seeL_last (t : ByteArray) (l : List Wt) (h s : Int) (x : Wt) (hx : x.host = h ∧ x.sector = s) : seeL t (l ++ [x]) h s = x.text := by
  rw [seeL_append]
  show (if x.host = h ∧ x.sector = s then x.text else _) = _
  rw [if_pos hx]

end Go.Proofs.Ytbnmcbbpbiofgaa.Mem
