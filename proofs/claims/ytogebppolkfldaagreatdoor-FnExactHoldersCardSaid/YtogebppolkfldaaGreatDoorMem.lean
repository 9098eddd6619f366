/-
  Plain facts on slices in memory: what is read of one, what a call owns of one, and what is left alone. No condition.
-/
import Derived.WalkKit
import Derived.WalkSmall
import Derived.Deep.OwnRows
import Derived.Deep.MidRow
import Derived.Handy
namespace Go.Proofs.YtogebppolkfldaaGreatDoor.Mem
open Go.RowKit

theorem hid {p : Prop} (h : p) : Hid p := h

/-- The m cells behind a slice's address are those that f tells. -/
def Sl (w : World) (a : Option Addr) (m : Nat) (f : Nat → Value) : Prop :=
  ∀ i, i < m → ∃ b off, a = some ⟨b, off, none⟩ ∧ w.cell? ⟨b, off + i, none⟩ = some (f i)

/-- The same, in a block from B on, and they may be written. -/
def Wr (w : World) (B : Nat) (a : Option Addr) (m : Nat) (f : Nat → Value) : Prop :=
  ∀ i, i < m → ∃ b off, a = some ⟨b, off, none⟩ ∧ B ≤ b ∧ w.cell? ⟨b, off + i, none⟩ = some (f i) ∧ w.frozen? ⟨b, off + i, none⟩ = false

theorem Wr.sl {w : World} {B : Nat} {a : Option Addr} {m : Nat} {f : Nat → Value} (h : Wr w B a m f) : Sl w a m f := fun i hi => by
  obtain ⟨b, off, e, _, hc, _⟩ := h i hi
  exact ⟨b, off, e, hc⟩

theorem Wr.mono {w : World} {B B' : Nat} {a : Option Addr} {m : Nat} {f : Nat → Value} (h : Wr w B a m f) (hb : B' ≤ B) : Wr w B' a m f := fun i hi => by
  obtain ⟨b, off, e, hB, hc, hf⟩ := h i hi
  exact ⟨b, off, e, Nat.le_trans hb hB, hc, hf⟩

theorem Sl.congr {w : World} {a : Option Addr} {m : Nat} {f g : Nat → Value} (h : Sl w a m f) (e : ∀ i, i < m → f i = g i) : Sl w a m g := fun i hi => by
  rw [← e i hi]; exact h i hi
theorem Wr.congr {w : World} {B : Nat} {a : Option Addr} {m : Nat} {f g : Nat → Value} (h : Wr w B a m f) (e : ∀ i, i < m → f i = g i) : Wr w B a m g := fun i hi => by
  rw [← e i hi]; exact h i hi

/-- The blocks that a slice of m cells takes. -/
def foot (a : Option Addr) (m : Nat) (b : Nat) : Prop := 0 < m ∧ ∃ off, a = some ⟨b, off, none⟩

/-- Nothing that was there has turned but in the blocks of S. -/
structure Kept (S : Nat → Prop) (w w' : World) : Prop where
  os : w'.os = w.os
  tape : w'.tape = w.tape
  output : w'.output = w.output
  size : w.heap.size ≤ w'.heap.size
  block : ∀ k, k < w.heap.size → ¬ S k → w'.heap[k]? = w.heap[k]?

theorem Kept.refl (S : Nat → Prop) (w : World) : Kept S w w := ⟨rfl, rfl, rfl, Nat.le_refl _, fun _ _ _ => rfl⟩

theorem Kept.trans {S T : Nat → Prop} {w w1 w2 : World} (h : Kept S w w1) (k : Kept T w1 w2) : Kept (fun b => S b ∨ T b) w w2 :=
  ⟨k.os.trans h.os, k.tape.trans h.tape, k.output.trans h.output, Nat.le_trans h.size k.size,
    fun i hi hn => (k.block i (Nat.lt_of_lt_of_le hi h.size) (fun x => hn (Or.inr x))).trans (h.block i hi (fun x => hn (Or.inl x)))⟩

theorem Kept.mono {S T : Nat → Prop} {w w' : World} (h : Kept S w w') (i : ∀ b, b < w.heap.size → S b → T b) : Kept T w w' :=
  ⟨h.os, h.tape, h.output, h.size, fun k hk hn => h.block k hk (fun x => hn (i k hk x))⟩

theorem Kept.of_below {S : Nat → Prop} {w w' : World} (h : Below w.heap.size w w') : Kept S w w' := ⟨h.os, h.tape, h.output, h.size, fun k hk _ => h.block k hk⟩

theorem Kept.below {S : Nat → Prop} {B : Nat} {w w' : World} (h : Kept S w w') (hB : B ≤ w.heap.size) (i : ∀ b, b < B → ¬ S b) : Below B w w' :=
  ⟨h.os, h.tape, h.output, h.size, fun k hk => h.block k (Nat.lt_of_lt_of_le hk hB) (i k hk)⟩

theorem cell_block {w w' : World} {p : Addr} (e : w'.heap[p.block]? = w.heap[p.block]?) : w'.cell? p = w.cell? p := by
  unfold World.cell?; rw [e]
theorem frozen_block {w w' : World} {p : Addr} (e : w'.heap[p.block]? = w.heap[p.block]?) : w'.frozen? p = w.frozen? p := by
  unfold World.frozen?; rw [e]

theorem Sl.lt {w : World} {a : Option Addr} {m : Nat} {f : Nat → Value} (h : Sl w a m f) {b : Nat} (hb : foot a m b) : b < w.heap.size := by
  obtain ⟨h0, off, rfl⟩ := hb
  obtain ⟨b', off', e, hc⟩ := h 0 h0
  cases e
  exact World.block_lt_of_cell? w _ hc

theorem Sl.move {S : Nat → Prop} {w w' : World} {a : Option Addr} {m : Nat} {f : Nat → Value} (h : Sl w a m f) (k : Kept S w w') (hn : ∀ b, foot a m b → ¬ S b) : Sl w' a m f := fun i hi => by
  obtain ⟨b, off, e, hc⟩ := h i hi
  have hf : foot a m b := ⟨by omega, off, e⟩
  exact ⟨b, off, e, by rw [cell_block (p := ⟨b, off + i, none⟩) (k.block b (h.lt hf) (hn b hf))]; exact hc⟩

theorem Wr.move {S : Nat → Prop} {w w' : World} {B : Nat} {a : Option Addr} {m : Nat} {f : Nat → Value} (h : Wr w B a m f) (k : Kept S w w') (hn : ∀ b, foot a m b → ¬ S b) : Wr w' B a m f := fun i hi => by
  obtain ⟨b, off, e, hB, hc, hz⟩ := h i hi
  have hf : foot a m b := ⟨by omega, off, e⟩
  have hk := k.block b (h.sl.lt hf) (hn b hf)
  exact ⟨b, off, e, hB, by rw [cell_block (p := ⟨b, off + i, none⟩) hk]; exact hc, by rw [frozen_block (p := ⟨b, off + i, none⟩) hk]; exact hz⟩

theorem Sl.below {w w' : World} {a : Option Addr} {m : Nat} {f : Nat → Value} (h : Sl w a m f) (k : Below w.heap.size w w') : Sl w' a m f := h.move (Kept.of_below (S := fun _ => False) k) (fun _ _ x => x)
theorem Wr.below {w w' : World} {B : Nat} {a : Option Addr} {m : Nat} {f : Nat → Value} (h : Wr w B a m f) (k : Below w.heap.size w w') : Wr w' B a m f := h.move (Kept.of_below (S := fun _ => False) k) (fun _ _ x => x)

theorem Wr.foot_ge {w : World} {B : Nat} {a : Option Addr} {m : Nat} {f : Nat → Value} (h : Wr w B a m f) {b : Nat} (hb : foot a m b) : B ≤ b := by
  obtain ⟨h0, off, rfl⟩ := hb
  obtain ⟨b', off', e, hB, _⟩ := h 0 h0
  cases e
  exact hB

/-- A cell is stored. -/
theorem Wr.set {w : World} {B b off : Nat} {m : Nat} {f : Nat → Value} (h : Wr w B (some ⟨b, off, none⟩) m f) (i : Nat) (hi : i < m) (v : Value) :
    Wr (w.setCell ⟨b, off + i, none⟩ v) B (some ⟨b, off, none⟩) m (fun j => if j = i then v else f j) := fun j hj => by
  obtain ⟨b', off', e, hB, hc, hz⟩ := h j hj
  cases e
  refine ⟨b, off, rfl, hB, ?_, by rw [World.frozen?_setCell]; exact hz⟩
  by_cases hji : j = i
  · subst hji
    show _ = some (if j = j then v else f j)
    rw [if_pos rfl]
    exact World.cell?_setCell_same _ _ _ hc
  · show _ = some (if j = i then v else f j)
    rw [if_neg hji, World.cell?_setCell_other _ _ _ _ (fun x => hji (by injection x; omega))]
    exact hc

theorem below_set {B : Nat} {w w' : World} (h : Below B w w') (g off : Nat) (v : Value) (hg : B ≤ g) : Below B w (w'.setCell ⟨g, off, none⟩ v) := h.setCell hg v

theorem undrew {B : Nat} {w w' : World} (h : Below B w.drew w') : Below B w w' := ⟨h.os, h.tape, h.output, h.size, h.block⟩

/-- Four cells that stand side by side are stored. -/
theorem Wr.set4 {w : World} {B b : Nat} {m : Nat} {f : Nat → Value} (h : Wr w B (some ⟨b, 0, none⟩) m f) (k : Nat) (hk : k * 4 + 4 ≤ m) (v0 v1 v2 v3 : Value) :
    Wr ((((w.setCell ⟨b, k * 4, none⟩ v0).setCell ⟨b, k * 4 + 1, none⟩ v1).setCell ⟨b, k * 4 + 2, none⟩ v2).setCell ⟨b, k * 4 + 3, none⟩ v3) B (some ⟨b, 0, none⟩) m
      (fun j => if j / 4 = k then [v0, v1, v2, v3].getD (j % 4) undef else f j) := by
  have h0 := h.set (k * 4) (by omega) v0
  have h1 := h0.set (k * 4 + 1) (by omega) v1
  have h2 := h1.set (k * 4 + 2) (by omega) v2
  have h3 := h2.set (k * 4 + 3) (by omega) v3
  simp only [Nat.zero_add] at h3
  refine h3.congr (fun j _ => ?_)
  by_cases hj : j / 4 = k
  · have : j = k * 4 ∨ j = k * 4 + 1 ∨ j = k * 4 + 2 ∨ j = k * 4 + 3 := by omega
    rcases this with rfl | rfl | rfl | rfl
    · rw [if_neg (by omega), if_neg (by omega), if_neg (by omega), if_pos rfl, if_pos (by omega), show k * 4 % 4 = 0 by omega]; rfl
    · rw [if_neg (by omega), if_neg (by omega), if_pos rfl, if_pos (by omega), show (k * 4 + 1) % 4 = 1 by omega]; rfl
    · rw [if_neg (by omega), if_pos rfl, if_pos (by omega), show (k * 4 + 2) % 4 = 2 by omega]; rfl
    · rw [if_pos rfl, if_pos (by omega), show (k * 4 + 3) % 4 = 3 by omega]; rfl
  · rw [if_neg (by omega), if_neg (by omega), if_neg (by omega), if_neg (by omega), if_neg hj]

theorem kept_set (w : World) (b off : Nat) (v : Value) : Kept (fun k => k = b) w (w.setCell ⟨b, off, none⟩ v) :=
  ⟨rfl, rfl, rfl, by simp, fun k _ hk => heap_setCell_other w ⟨b, off, none⟩ k v (fun e => hk e)⟩

theorem lt_alloc (w : World) (o : Obj) : w.heap.size < (w.alloc o).heap.size := by
  show _ < (w.heap.push o).size
  simp

/-- A row that was just made. -/
theorem wr_made (w : World) (z : Value) (n : Nat) (t : TypeId) : Wr (w.alloc (.cells (madeCells #[z] n) t)) w.heap.size (some ⟨w.heap.size, 0, none⟩) n (fun _ => z) := fun i hi => by
  refine ⟨w.heap.size, 0, rfl, Nat.le_refl _, ?_, ?_⟩
  · rw [cell_of_row _ w.heap.size (0 + i) _ _ (0, 0) (heap_alloc_new w _)]
    simp [madeCells, hi, Nat.mod_one]
  · exact frozen_of_row _ w.heap.size (0 + i) _ _ (heap_alloc_new w _)

theorem wr_new (w : World) (cur : Array Value) (t : TypeId) (m : Nat) (f : Nat → Value) (h : ∀ i, i < m → cur[i]? = some (f i)) : Wr (w.alloc (.cells cur t)) w.heap.size (some ⟨w.heap.size, 0, none⟩) m f := fun i hi => by
  refine ⟨w.heap.size, 0, rfl, Nat.le_refl _, ?_, ?_⟩
  · rw [cell_of_row _ w.heap.size (0 + i) _ _ (0, 0) (heap_alloc_new w _), Nat.zero_add]
    exact h i hi
  · exact frozen_of_row _ w.heap.size (0 + i) _ _ (heap_alloc_new w _)

/-- 'make([]T, n)', T of k cells. -/
theorem make_rows {P : Program} (t e : TypeId) (z : Value) (k bytes : Nat) (ht : P.underlying t = some (.slice e)) (hinfo : (P.info? e).map (fun i => (i.zero, i.size, i.bytes)) = some (some z, k, bytes))
    (kl kc : IntKind) (n : Nat) (hbytes : bytes * n ≤ 281474976710656) (h63 : n ≤ 9223372036854775807) (w : World) :
    (Instr.makeSlice t (.int kl (n : Int)) (.int kc (n : Int))).run P w = .ok (.slice (some ⟨w.heap.size, 0, none⟩) n n) (w.alloc (.cells (madeCells z.cells (n * k)) e)) := by
  obtain ⟨i, hi, hzz⟩ := Option.map_eq_some_iff.1 hinfo
  simp only [Prod.mk.injEq] at hzz
  obtain ⟨hz, hs, hb⟩ := hzz
  have h := run_make (P := P) w t e i z ht hi hz kl kc n n (by omega) (by omega) (by rw [hb, ← Int.natCast_mul]; omega) (by omega)
  rw [hs] at h
  simpa using h

/-- A block that holds just these cells. -/
def Row (w : World) (g : Nat) (xs : List Value) : Prop := ∃ t, w.heap[g]? = some (.cells xs.toArray t (0, 0))

theorem Row.c {w : World} {g : Nat} {xs : List Value} (h : Row w g xs) (i : Nat) {v : Value} (e : xs[i]? = some v) : w.cell? ⟨g, i, none⟩ = some v := by
  obtain ⟨t, hb⟩ := h
  rw [cell_of_row w g i _ _ (0, 0) hb]
  simpa using e
theorem Row.f {w : World} {g : Nat} {xs : List Value} (h : Row w g xs) (j : Nat) : w.frozen? ⟨g, j, none⟩ = false := by
  obtain ⟨t, hb⟩ := h
  exact frozen_of_row w g j _ _ hb
theorem Row.lt {w : World} {g : Nat} {xs : List Value} (h : Row w g xs) : g < w.heap.size := by
  obtain ⟨t, hb⟩ := h
  rcases Nat.lt_or_ge g w.heap.size with hh | hh
  · exact hh
  · rw [Array.getElem?_eq_none hh] at hb; cases hb
theorem Row.below {w w' : World} {B g : Nat} {xs : List Value} (h : Row w g xs) (hb : Below B w w') (hg : g < B) : Row w' g xs := by
  obtain ⟨t, e⟩ := h
  exact ⟨t, by rw [hb.block g hg]; exact e⟩
theorem Row.kept {S : Nat → Prop} {w w' : World} {g : Nat} {xs : List Value} (h : Row w g xs) (hb : Kept S w w') (hg : ¬ S g) : Row w' g xs := by
  obtain ⟨t, e⟩ := h
  exact ⟨t, by rw [hb.block g (Row.lt ⟨t, e⟩) hg]; exact e⟩
theorem Row.other {w : World} {g : Nat} {xs : List Value} (h : Row w g xs) {p : Addr} (hp : g ≠ p.block) (v : Value) : Row (w.setCell p v) g xs := by
  obtain ⟨t, e⟩ := h
  exact ⟨t, by rw [heap_setCell_other w p g v hp]; exact e⟩
theorem Row.set {w : World} {g : Nat} {xs : List Value} (h : Row w g xs) (i : Nat) (v : Value) : Row (w.setCell ⟨g, i, none⟩ v) g (xs.set i v) := by
  obtain ⟨t, e⟩ := h
  exact ⟨t, by simpa using heap_setCell_same w g i _ _ v e⟩
theorem Row.new (w : World) (xs : List Value) (t : TypeId) : Row (w.alloc (.cells xs.toArray t)) w.heap.size xs := ⟨t, heap_alloc_new w _⟩
theorem Row.alloc {w : World} {g : Nat} {xs : List Value} (h : Row w g xs) (o : Obj) : Row (w.alloc o) g xs := by
  obtain ⟨t, e⟩ := h
  exact ⟨t, by rw [heap_alloc_old w o (Row.lt ⟨t, e⟩)]; exact e⟩

/-- A struct that is handed back out of its own block. -/
theorem results_row {P : Program} {fn : Func} {p : Tmp} {ty : TypeId} (h : fn.results = #[.cell p ty]) (tmps : Array Value) (w : World) (g : Nat) (xs : List Value) (d : TypeDesc)
    (hp : tmps.getD p undef = .pointer (some ⟨g, 0, none⟩)) (hr : Row w g xs)
    (hu : P.underlying ty = some d) (hd : (match d with | .struct _ | .array _ _ => true | _ => false) = true) (hi : (P.info? ty).map (·.size) = some xs.length) :
    (results fn tmps).run P w = .ok (.agg xs.toArray) w := by
  obtain ⟨t, hb⟩ := hr
  exact results_cell_row h tmps w g t xs.toArray (0, 0) d hp hb hu hd (by simpa using hi)

/-- One block laid: an argument's box. -/
theorem one_new (w : World) (xs : List Value) (t : TypeId) :
    ∃ wc, w.alloc (.cells xs.toArray t) = wc ∧ wc.heap.size = w.heap.size + 1 ∧ Row wc w.heap.size xs ∧ Below w.heap.size w wc :=
  ⟨_, rfl, by simp, Row.new w xs t, (Below.refl _ _).alloc (Nat.le_refl _) _⟩

/-- Two blocks laid: two arguments' boxes, or an argument's and a result's. -/
theorem two_new (w : World) (xs ys : List Value) (t u : TypeId) :
    ∃ wc, (w.alloc (.cells xs.toArray t)).alloc (.cells ys.toArray u) = wc ∧ wc.heap.size = w.heap.size + 1 + 1 ∧ Row wc w.heap.size xs ∧ Row wc (w.heap.size + 1) ys ∧ Below w.heap.size w wc := by
  have e0 : (w.alloc (.cells xs.toArray t)).heap.size = w.heap.size + 1 := by simp
  have r1 := Row.new (w.alloc (.cells xs.toArray t)) ys u
  rw [e0] at r1
  exact ⟨_, rfl, by simp, (Row.new w xs t).alloc _, r1, ((Below.refl _ _).alloc (Nat.le_refl _) _).alloc (by omega) _⟩

/-- Three blocks laid one behind the other: an argument's box, the result's, a variable's. -/
theorem three_new (w : World) (xs ys : List Value) (t u : TypeId) :
    ∃ wc, ((w.alloc (.cells xs.toArray t)).alloc (.cells ys.toArray u)).alloc (.cells ys.toArray u) = wc ∧ wc.heap.size = w.heap.size + 1 + 1 + 1 ∧
      Row wc w.heap.size xs ∧ Row wc (w.heap.size + 1) ys ∧ Row wc (w.heap.size + 1 + 1) ys ∧ Below w.heap.size w wc := by
  have e0 : (w.alloc (.cells xs.toArray t)).heap.size = w.heap.size + 1 := by simp
  have e1 : ((w.alloc (.cells xs.toArray t)).alloc (.cells ys.toArray u)).heap.size = w.heap.size + 1 + 1 := by simp
  have r1 := Row.new (w.alloc (.cells xs.toArray t)) ys u
  have r2 := Row.new ((w.alloc (.cells xs.toArray t)).alloc (.cells ys.toArray u)) ys u
  rw [e0] at r1
  rw [e1] at r2
  exact ⟨_, rfl, by simp, ((Row.new w xs t).alloc _).alloc _, r1.alloc _, r2, (((Below.refl _ _).alloc (Nat.le_refl _) _).alloc (by omega) _).alloc (by omega) _⟩

/-- A slice of texts, of ints. -/
def Strs (w : World) (a : Option Addr) (l : List ByteArray) : Prop := Sl w a l.length (fun i => .string (l.getD i ByteArray.empty))
def Ints (w : World) (a : Option Addr) (l : List Int) : Prop := Sl w a l.length (fun i => .int .i64 (l.getD i 0))
def StrsW (w : World) (B : Nat) (a : Option Addr) (l : List ByteArray) : Prop := Wr w B a l.length (fun i => .string (l.getD i ByteArray.empty))
def IntsW (w : World) (B : Nat) (a : Option Addr) (l : List Int) : Prop := Wr w B a l.length (fun i => .int .i64 (l.getD i 0))

end Go.Proofs.YtogebppolkfldaaGreatDoor.Mem
