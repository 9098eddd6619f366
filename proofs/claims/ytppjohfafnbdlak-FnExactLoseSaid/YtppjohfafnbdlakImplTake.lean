/-
  The walk of impl's take: one number is struck from one queue. No condition but that it is there.
-/
import Derived.Test.YtppjohfafnbdlakImplPeek
import Derived.Test.YtppjohfafnbdlakShelf3
import Derived.Test.YtppjohfafnbdlakDkLand
import Derived.Sort.OwnSortedInts
import Derived.Shelf.Slices.Delete
namespace Go.Proofs.Ytppjohfafnbdlak.Mem
open Go.RowKit Go.Sort
set_option linter.unusedVariables false

def zOf (l : List Nat) : List Int := l.map (fun (i : Nat) => (i : Int))
theorem zOf_length (l : List Nat) : (zOf l).length = l.length := by simp [zOf]
theorem qCells_zOf (l : List Nat) : qCells l = (zOf l).map (Value.int .i64) := by simp [qCells, zOf]

theorem QM.more {w : World} {B b n : Nat} {Q : Int → Int → List Nat} {D : DataW Value} {V : Int → Int → Value} (q : QM w B b n Q D V) : QM w B b (n + 1) Q D V := ⟨q.own.mono (Nat.le_succ _), q.lt, q.has, q.at_, q.row, q.apart, q.only⟩

/-- The block of a row that is not empty. -/
theorem RowO.block {w : World} {B : Nat} {e : TypeId} {g n c : Nat} {xs : List Value} (h : RowO w B e 1 (.slice (some ⟨g, 0, none⟩) n (c + 1)) n xs) :
    ∃ cur, w.heap[g]? = some (.cells cur e (0, 0)) ∧ B ≤ g ∧ n ≤ c + 1 ∧ c + 1 ≤ maxLen ∧ cur.size = (c + 1) * 1 ∧ cur.toList.take n = xs := by
  rcases h with ⟨_, e, _⟩ | ⟨h, _⟩
  · cases e
  · rcases h.2 with ⟨e, _⟩ | ⟨g', cap', cur, e, hB, hb, h1, h2, h3, h4⟩
    · cases e
    · cases e
      exact ⟨cur, hb, hB, h1, h2, h3, by simpa using h4⟩

theorem grow_nil (w : World) : grow w #[] = w := by cases w; simp [grow]

theorem kept_putRow (w : World) (g q : Nat) (d : Array Int) : Kept (fun b => b = g) w (putRow (Value.int .i64) (Sort.ahead w q) g 0 d) := by
  have h := grownBy_sortedI (w := w) (g := g) (n := q) (os := #[]) d
  have e : grow (putRow (Value.int .i64) (Sort.ahead w q) g 0 d) #[] = putRow (Value.int .i64) (Sort.ahead w q) g 0 d := grow_nil _
  rw [e] at h
  exact ⟨h.os, h.tape, h.output, h.size, fun k hk hn => h.block k hk (fun x => hn (by cases x; rfl))⟩

theorem zOf_erase (l : List Nat) (i : Nat) : (zOf l).take i ++ (zOf l).drop (i + 1) = zOf (l.eraseIdx i) := by
  rw [List.eraseIdx_eq_take_drop_succ]
  unfold zOf
  simp

/-- Behind a deletion. -/
theorem row_deleted {w : World} {B g c i q : Nat} {l : List Nat} (r : RowO w B 3 1 (.slice (some ⟨g, 0, none⟩) l.length (c + 1)) l.length (qCells l)) (hi : i < l.length) :
    RowO (putRow (Value.int .i64) (Sort.ahead w q) g 0 ((zOf l).take i ++ (zOf l).drop (i + 1) ++ List.replicate (i + 1 - i) 0).toArray) B 3 1 (.slice (some ⟨g, 0, none⟩) (l.length - 1) (c + 1)) (l.eraseIdx i).length (qCells (l.eraseIdx i)) := by
  obtain ⟨cur, hb, hB, h1, h2, h3, h4⟩ := r.block
  have hle : (l.eraseIdx i).length = l.length - 1 := List.length_eraseIdx_of_lt hi
  rw [zOf_erase]
  have hh := heap_sortedI (w := w) (g := g) (n := q) (os := #[]) (zOf (l.eraseIdx i) ++ List.replicate (i + 1 - i) 0).toArray hb
  have e : grow (putRow (Value.int .i64) (Sort.ahead w q) g 0 (zOf (l.eraseIdx i) ++ List.replicate (i + 1 - i) 0).toArray) #[] = putRow (Value.int .i64) (Sort.ahead w q) g 0 (zOf (l.eraseIdx i) ++ List.replicate (i + 1 - i) 0).toArray := grow_nil _
  rw [e] at hh
  have hlen : (zOf (l.eraseIdx i) ++ List.replicate (i + 1 - i) (0 : Int)).length = l.length := by
    rw [List.length_append, zOf_length, List.length_replicate, hle]
    omega
  have ht := take_putCellsI cur (zOf (l.eraseIdx i) ++ List.replicate (i + 1 - i) 0) (by rw [hlen, h3]; omega)
  refine Or.inr ⟨⟨by simp [qCells], Or.inr ⟨g, c + 1, _, by rw [hle], hB, hh, by omega, h2, by simp [putCells, h3], ?_⟩⟩, _, c, by rw [hle]⟩
  rw [hlen] at ht
  have : (putCells (Value.int .i64) 0 (zOf (l.eraseIdx i) ++ List.replicate (i + 1 - i) 0).toArray cur).toList.take (l.eraseIdx i).length = (((zOf (l.eraseIdx i) ++ List.replicate (i + 1 - i) 0).map (Value.int .i64))).take (l.eraseIdx i).length := by
    rw [← ht, List.take_take]
    congr 1
    omega
  rw [Nat.mul_one, this, List.map_append, qCells_zOf, List.take_append_of_le_length (by rw [List.length_map, zOf_length]; exact Nat.le_refl _), List.take_of_length_le (by rw [List.length_map, zOf_length]; exact Nat.le_refl _)]

theorem holds_row {w : World} {B g c : Nat} {l : List Nat} (r : RowO w B 3 1 (.slice (some ⟨g, 0, none⟩) l.length (c + 1)) l.length (qCells l)) : Holds (Value.int .i64) w g 0 (zOf l).toArray := by
  obtain ⟨cur, hb, hB, h1, h2, h3, h4⟩ := r.block
  exact holds_of_blockI hb (by rw [zOf_length, h4, qCells_zOf])

set_option maxRecDepth 100000 in
set_option maxHeartbeats 2000000 in
theorem take (w : World) (B b n : Nat) (Q : Int → Int → List Nat) (D : DataW Value) (V : Int → Int → Value) (q : QM w B b n Q D V) (h s : Int) (hk : OkK h s) (i : Nat) (hi : i < (Q h s).length) (hn : n < 1048576) (hi40 : i < 1048576) :
    Calls Try.prog 49 #[.map (some b), .agg #[.int .i64 h, .int .i64 s], .int .i64 (i : Int)] w fun e w' => e = .returned (.tuple #[]) ∧ (∃ D' V', QM w' B b (n + 1) (upd Q h s ((Q h s).eraseIdx i)) D' V') ∧ Kept (fun g => g = b ∨ B ≤ g) w w' := by
  obtain ⟨wb, hwb, ez, A0, B0⟩ := one_new w [.int .i64 h, .int .i64 s] 66
  have qb := q.below B0
  have hlk : (Instr.lookup 63 (.map (some b)) (.agg #[.int .i64 h, .int .i64 s]) false).run Try.prog wb = .ok (V h s) wb := qb.look hk
  have hrow := qb.row h s hk
  obtain ⟨g, c, hv⟩ := hrow.form (by omega)
  have HV := hid hv
  have hgl : g < w.heap.size := ((q.row h s hk).lt (b := g) (by rw [hv]; rfl)).2
  rw [hv] at hlk hrow
  have HQ := hid qb
  have HR := hid hrow
  have HA := hid A0
  have HB0 := hid B0
  have hcap := hid hrow.cap
  have k0 := A0.c 0 rfl
  have k1 := A0.c 1 rfl
  have Hlt := hid (show (zOf (Q h s)).length = (Q h s).length from zOf_length _)
  have hq40 : (Q h s).length ≤ 9223372036854775807 := by have := hcap.out.1; have := hcap.out.2; unfold maxLen at this; omega
  clear q qb hv hrow A0 B0 ez
  generalize hZ : Q h s = Z at *
  have HZ := hid hZ
  clear hZ
  go_enter Try.func49, Try.ntmps49
  go_wp2_with fail
  have hc := Any.slices_Delete_int Try.lays223 g 0 (c + 1) i (i + 1) (zOf Z) wb (holds_row HR.out) (by rw [zOf_length]; exact hcap.out.1) (by have := hcap.out.2; unfold maxLen at this; exact this) (by omega) (by rw [zOf_length]; omega)
  rw [zOf_length, show (i + 1 - i) = 1 from by omega] at hc
  obtain ⟨m, hm⟩ : ∃ m, Z.length - 1 = m := ⟨_, rfl⟩
  rw [hm] at hc
  refine hc.mono ?_
  rintro e w2 ⟨rfl, p, hw2⟩
  have r2 := row_deleted (q := p) HR.out hi
  rw [show (i + 1 - i) = 1 from by omega, ← hw2, hm] at r2
  have k2 : Kept (fun y => y = g) wb w2 := by rw [hw2]; exact kept_putRow wb g p _
  have hlE : (Z.eraseIdx i).length = m := by rw [List.length_eraseIdx_of_lt hi]; exact hm
  have kv : Kept (fun y => rb (V h s) = some y) wb w2 := k2.mono (fun y _ e => by rw [HV.out, e]; rfl)
  have R2 := HA.out.kept k2 (by omega)
  have hgB := (HR.out.lt (b := g) rfl).1
  have HK2 := hid ((Kept.of_below (S := fun _ => False) HB0.out).trans k2)
  clear hc hw2 k0 k1 hlk hwb
  have k0 := R2.c 0 rfl
  have k1 := R2.c 1 rfl
  have HKV := hid kv
  have HR2 := hid r2
  clear kv k2 r2 R2
  by_cases hm0 : m = 0
  · subst hm0
    have hnil : Z.eraseIdx i = [] := List.eq_nil_of_length_eq_zero hlE
    obtain ⟨w3, hr3, q3, k3⟩ := HQ.out.drop hk HKV.out 0
    have hd : ∀ ty, (Builtin.delete_ #[63, 66] ty #[.map (some b), .agg #[.int .i64 h, .int .i64 s]]).run Try.prog w2 = .ok (.tuple #[]) w3 := fun ty => hr3
    have HQ3 := hid q3
    have HK3 := hid k3
    clear q3 k3 hr3
    go_wp2
    refine bodyPost_ret (results_none rfl _ _ _) rfl ?_
    rw [hnil]
    exact ⟨rfl, ⟨_, _, HQ3.out.more⟩, (HK2.out.trans HK3.out).mono (fun y _ e => by rcases e with (e | e) | e; exact e.elim; exact Or.inr (by omega); exact Or.inl e)⟩
  · have hne : Z.eraseIdx i ≠ [] := fun e => hm0 (by rw [← hlE, e]; rfl)
    obtain ⟨w3, hr3, q3, k3⟩ := HQ.out.store hk (by unfold maxLen; omega) HKV.out (.slice (some ⟨g, 0, none⟩) m (c + 1)) (Z.eraseIdx i) hne HR2.out (Or.inr (Or.inl (by rw [HV.out]; rfl)))
    replace hr3 : (Instr.mapUpdate 63 (.map (some b)) (.agg #[.int .i64 h, .int .i64 s]) (.slice (some ⟨g, 0, none⟩) m (c + 1))).run Try.prog w2 = .ok () w3 := hr3
    have HQ3 := hid q3
    have HK3 := hid k3
    clear q3 k3
    go_wp2
    go_end0
    exact ⟨rfl, ⟨_, _, HQ3.out⟩, (HK2.out.trans HK3.out).mono (fun y _ e => by rcases e with (e | e) | e; exact e.elim; exact Or.inr (by omega); exact Or.inl e)⟩

end Go.Proofs.Ytppjohfafnbdlak.Mem
