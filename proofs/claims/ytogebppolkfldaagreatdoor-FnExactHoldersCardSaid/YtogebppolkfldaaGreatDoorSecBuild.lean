/-
  The walks of (*strings.Builder).copyCheck and WriteString in this program, and String by the library's own contract: a builder takes a text behind what it holds, and gives what it holds. No condition but lengths that Go can hold.
-/
import Derived.Test.YtogebppolkfldaaGreatDoorShelf4
import Derived.Test.YtogebppolkfldaaGreatDoorMem
import Derived.Test.YtogebppolkfldaaGreatDoorRows
import Derived.Shelf.Strings.Builder1
namespace Go.Proofs.YtogebppolkfldaaGreatDoor.Build
open Go.RowKit Go.Proofs.YtogebppolkfldaaGreatDoor.Mem
set_option linter.unusedVariables false

/-- The numbers of the types that a builder is made of. -/
abbrev TB : TypeId := 214

theorem sizeB : (Tryz.prog.info? 214).map (·.size) = some 2 := by kernel_rfl
theorem liesB : liesAt Tryz.prog Tryz.prog.depth 214 (2 / Tryz.prog.cellsOf 214) 0 214 1 = true := by kernel_rfl
theorem infoU8 : (Tryz.prog.info? 5).map (fun i => (i.zero, i.size, i.bytes)) = some (some (.int .u8 0), 1, 1) := by kernel_rfl

set_option maxRecDepth 100000 in
set_option maxHeartbeats 1000000 in
theorem check_used (b : Nat) (w : World) (h0 : w.cell? ⟨b, 0, none⟩ = some (.pointer (some ⟨b, 0, none⟩))) :
    Calls Tryz.prog 180 #[.pointer (some ⟨b, 0, none⟩)] w fun e w' => e = .returned (.tuple #[]) ∧ w' = w := by
  obtain ⟨j, hj, _⟩ := Option.map_eq_some_iff.1 sizeB
  have hne := fun w => Lib.run_neq_ptr_same (P := Tryz.prog) w ⟨b, 0, none⟩ Tryz.underlying212 hj
  go_enter Tryz.func180, Tryz.ntmps180
  go_wp2
  go_end0
  exact ⟨rfl, rfl⟩

/-- The model stands in for internal/abi.NoEscape: it gives what it is given. -/
theorem noEsc (x : Value) (w : World) : (callFunc 185 #[x]).run Tryz.prog w = .ok (.value x) w := by
  rw [run_callFunc_extern Tryz.func185 (by kernel_rfl) (by kernel_rfl) (by kernel_rfl) (e := Extern.AbiNoEscape.same) (by kernel_rfl), Lib.run_noEscape]
  rfl

set_option maxRecDepth 100000 in
set_option maxHeartbeats 1000000 in
theorem check_new (b : Nat) (w : World) (h0 : w.cell? ⟨b, 0, none⟩ = some (.pointer none)) (hsh : w.shape? b = some (214, 2)) (hfz : w.frozen? ⟨b, 0, none⟩ = false) :
    Calls Tryz.prog 180 #[.pointer (some ⟨b, 0, none⟩)] w fun e w' => e = .returned (.tuple #[]) ∧ w' = w.setCell ⟨b, 0, none⟩ (.pointer (some ⟨b, 0, none⟩)) := by
  obtain ⟨j, hj, hjs⟩ := Option.map_eq_some_iff.1 sizeB
  have hto := Lib.run_to_unsafe (P := Tryz.prog) w ⟨b, 0, none⟩ Tryz.underlying212 Tryz.underlying229 hj (by rw [hjs]; decide) hsh (Nat.zero_lt_succ 1)
  have hesc := noEsc (.pointer (some ⟨b, 0, none⟩)) w
  have hfrom := Lib.run_from_unsafe (P := Tryz.prog) w ⟨b, 0, none⟩ Tryz.underlying229 Tryz.underlying212 hj hsh liesB
  go_enter Tryz.func180, Tryz.ntmps180
  go_wp2
  go_end0
  exact ⟨rfl, rfl⟩

/-- A builder in block b that holds the text s, all of it in blocks from B on. -/
def Bd (B b : Nat) (s : ByteArray) (w : World) : Prop := Lib.IsBuilder 214 5 B b (Lib.strCells s) w

theorem Bd.new (w : World) : Bd w.heap.size w.heap.size ⟨#[]⟩ (w.alloc (.cells #[.pointer none, .slice none 0 0] 214)) := Lib.fresh_isBuilder _ _ w

theorem at_below {B b : Nat} {p : Value} {bs : List Value} {w w' : World} (h : Lib.BuilderAt 214 5 B b p bs w) (k : Below w.heap.size w w') : Lib.BuilderAt 214 5 B b p bs w' := by
  have hlt := h.lt
  obtain ⟨hB, v, hb, ho, hne⟩ := h
  refine ⟨hB, v, by rw [k.block b hlt]; exact hb, ?_, hne⟩
  exact ho.kept (row := some w.heap.size) ⟨k.os, k.tape, k.output, k.size, fun i hi _ => k.block i hi⟩ (by
    rcases hv : v.ownBlock with _ | g
    · exact Or.inl rfl
    · refine Or.inr (fun e => ?_)
      have := (ho.lt g hv).2
      injection e with e
      omega)

theorem Bd.below {B b : Nat} {s : ByteArray} {w w' : World} (h : Bd B b s w) (k : Below w.heap.size w w') : Bd B b s w' := by
  rcases h with h | h
  · exact Or.inl (at_below h k)
  · exact Or.inr (at_below h k)

theorem Bd.lt {B b : Nat} {s : ByteArray} {w : World} (h : Bd B b s w) : b < w.heap.size := by
  rcases h with h | h
  · exact h.lt
  · exact h.lt

/-- No block but the builder's own and rows of bytes has turned. -/
def Others (b : Nat) (w w' : World) : Prop := ∀ (j : Nat) (cs : Array Value) (T : TypeId) (fr : Nat × Nat), j ≠ b → T ≠ 5 → w.heap[j]? = some (.cells cs T fr) → w'.heap[j]? = some (.cells cs T fr)

theorem Others.refl (b : Nat) (w : World) : Others b w w := fun _ _ _ _ _ _ h => h
theorem Others.trans {b : Nat} {w w1 w2 : World} (h : Others b w w1) (k : Others b w1 w2) : Others b w w2 := fun j cs T fr hj hT e => k j cs T fr hj hT (h j cs T fr hj hT e)
theorem Others.set (b off : Nat) (w : World) (v : Value) : Others b w (w.setCell ⟨b, off, none⟩ v) := fun j cs T fr hj _ e => by
  rw [heap_setCell_other w ⟨b, off, none⟩ j v hj]; exact e

theorem Others.row {b : Nat} {w w' : World} {g : Nat} {xs : List Value} {t : TypeId} (h : Others b w w') (hg : g ≠ b) (ht : t ≠ 5) (e : w.heap[g]? = some (.cells xs.toArray t (0, 0))) : w'.heap[g]? = some (.cells xs.toArray t (0, 0)) := h g _ t _ hg ht e

theorem check (B b : Nat) (bs : List Value) (w : World) (h : Lib.IsBuilder 214 5 B b bs w) :
    Calls Tryz.prog 180 #[.pointer (some ⟨b, 0, none⟩)] w fun e w' => e = .returned (.tuple #[]) ∧ Lib.BuilderAt 214 5 B b (.pointer (some ⟨b, 0, none⟩)) bs w' ∧ Below B w w' ∧ Others b w w' := by
  rcases h with h | h
  · refine (check_new b w h.cell0 h.shape h.frozen0).mono ?_
    rintro e w' ⟨rfl, rfl⟩
    exact ⟨rfl, h.used _, (Below.refl B w).setCell (p := ⟨b, 0, none⟩) h.1 _, Others.set b 0 w _⟩
  · refine (check_used b w h.cell0).mono ?_
    rintro e w' ⟨rfl, rfl⟩
    exact ⟨rfl, h, Below.refl B _, Others.refl b _⟩

theorem cells_append (s t : ByteArray) : Lib.strCells s ++ Lib.strCells t = Lib.strCells (s ++ t) := by
  unfold Lib.strCells
  rw [ByteArray.data_append]
  simp

set_option maxRecDepth 100000 in
set_option maxHeartbeats 1000000 in
/-- WriteString. -/
theorem write_others (B b : Nat) (s t : ByteArray) (w : World) (h : Bd B b s w) (hs : s.size + t.size ≤ 1048576) (hBw : B ≤ w.heap.size) :
    Calls Tryz.prog 160 #[.pointer (some ⟨b, 0, none⟩), .string t] w fun e w' => e = .returned (.tuple #[.int .i64 (t.size : Int), .nilIface]) ∧ Bd B b (s ++ t) w' ∧ Below B w w' ∧ Others b w w' := by
  obtain ⟨i0, hi, hz⟩ := Option.map_eq_some_iff.1 infoU8
  simp only [Prod.mk.injEq] at hz
  obtain ⟨hz0, hz1, hz2⟩ := hz
  have hls := Lib.strCells_length s
  have HC := hid (cells_append s t)
  go_enter Tryz.func160, Tryz.ntmps160
  go_wp2_with fail
  refine (check B b _ w h).mono ?_
  rintro e w1 ⟨rfl, h1, hb1, ho1⟩
  have hlt := h1.lt
  obtain ⟨hB, v, hbk, hown, hne⟩ := h1
  have hsz1 := hb1.size
  have k1 : w1.cell? ⟨b, 1, none⟩ = some v := by rw [Lib.cell_of_heap hbk]; rfl
  have HK := hid hbk
  have HO := hid hown
  have HB1 := hid hb1
  have HO1 := hid ho1
  clear hbk hown hb1 ho1
  go_wp2_with (at_builtin; refine Lib.wpList_append_own_string _ rfl _ _ 184 9 rfl B 5 i0 Tryz.underlying184 Tryz.underlying9 hi hz0 hz1 hz2 _ _ _ rfl HO.out t rfl (by unfold maxLen; omega) (by omega) (by omega) ?_)
  intro v2 w2 hown2 hgrow _
  have hb2 : w2.heap[b]? = some (.cells #[.pointer (some ⟨b, 0, none⟩), v] 214 (0, 0)) := by
    rw [hgrow.block b hlt (fun e => hne e.symm)]; exact HK.out
  have d1 : w2.cell? ⟨b, 1, none⟩ = some v := by rw [Lib.cell_of_heap hb2]; rfl
  have f1 : w2.frozen? ⟨b, 1, none⟩ = false := Lib.frozen_of_heap hb2 1
  obtain ⟨ao, n2, cap, rfl⟩ : ∃ ao n2 cap, v2 = .slice ao n2 cap := by
    rcases hown2.2 with ⟨hv, _⟩ | ⟨g, cap, cur, hv, _⟩
    · exact ⟨_, _, _, hv⟩
    · exact ⟨_, _, _, hv⟩
  have HP := hid (Lib.BuilderAt.put (T := 214) (e := 5) hB hb2 (bs' := Lib.strCells (s ++ t)) (by rw [← HC.out]; simpa [Lib.strCells_length] using hown2) (by decide))
  have HL := hid ((HB1.out.grown hgrow (by omega) (fun k hk => (HO.out.lt k hk).1)).setCell (p := ⟨b, 1, none⟩) hB (.slice ao n2 cap))
  have HW : Hid (Others b w (w2.setCell ⟨b, 1, none⟩ (.slice ao n2 cap))) := by
    refine (HO1.out.trans (fun j cs T fr hj hT e => ?_)).trans (Others.set b 1 w2 _)
    have hjl : j < w1.heap.size := by
      rcases Nat.lt_or_ge j w1.heap.size with q | q
      · exact q
      · rw [Array.getElem?_eq_none q] at e; cases e
    rw [hgrow.block j hjl (fun x => ?_)]
    · exact e
    · rcases HO.out.2 with ⟨hv, _⟩ | ⟨g, cp, cur, hv, _, hgk, _⟩
      · rw [hv] at x; cases x
      · rw [hv] at x
        obtain rfl : j = g := by injection x
        rw [hgk] at e
        injection e with e
        injection e with _ e2 _
        exact hT e2.symm
  clear hgrow hown2 hb2
  go_wp2
  go_ret2
  exact ⟨rfl, Or.inr HP.out, HL.out, HW.out⟩

theorem write (B b : Nat) (s t : ByteArray) (w : World) (h : Bd B b s w) (hs : s.size + t.size ≤ 1048576) (hBw : B ≤ w.heap.size) :
    Calls Tryz.prog 160 #[.pointer (some ⟨b, 0, none⟩), .string t] w fun e w' => e = .returned (.tuple #[.int .i64 (t.size : Int), .nilIface]) ∧ Bd B b (s ++ t) w' ∧ Below B w w' :=
  (write_others B b s t w h hs hBw).mono fun _ _ ⟨he, hd, hb, _⟩ => ⟨he, hd, hb⟩

/-- What the library's contract of String asks of the two types. -/
theorem extra : Builder.Extra Tryz.prog Tryz.lays169_ren :=
  { sizeBuilder := by kernel_rfl, liesBuilder := by kernel_rfl, t5 := Tryz.underlying5, a5 := Tryz.isAgg5, z5 := Tryz.sizeOf5, v5 := Tryz.zeroValue5, infoByte := by kernel_rfl, cellsByte := by kernel_rfl, sizeByte := by kernel_rfl, neB5 := by decide }

/-- String. -/
theorem string (B b : Nat) (s : ByteArray) (w : World) (h : Bd B b s w) (hBw : B ≤ w.heap.size) :
    Calls Tryz.prog 161 #[.pointer (some ⟨b, 0, none⟩)] w fun e w' => e = .returned (.string s) ∧ Below B w w' :=
  Any.Builder_String_any Tryz.lays169 extra B b s.data.toList w h hBw

end Go.Proofs.YtogebppolkfldaaGreatDoor.Build
