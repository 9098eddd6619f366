/-
  Plain facts on a slice of bytes that a call owns: one more byte appended, and its conversion to a text. No condition.
-/
import Derived.WalkKit
import Derived.Laws.BytesArg
namespace Go.Proofs.YtogebppolkfldaaGreatDoor.Own
open Go.RowKit

theorem hid {p : Prop} (h : p) : Hid p := h

/-- An owned row is not a block below its base. -/
theorem own_ne {w : World} {base cb : Nat} {e : TypeId} {size : Nat} {v : Value} {n : Nat} {xs : List Value} (h : w.ownsRow base e size v n xs) (hcb : cb < base) : v.ownBlock = none ∨ v.ownBlock ≠ some cb :=
  Or.inr (fun e => by have := (h.lt cb e).1; omega)

/-- A conversion of an owned row of bytes to a text. -/
theorem conv_own {P : Program} {w : World} {base g n cap : Nat} {l : List Int} (t : TypeId) (ht : P.underlying t = some (.slice 5)) (h5 : P.underlying 5 = some (.int .u8)) (h9 : P.underlying 9 = some .string)
    (h : w.ownsRow base 5 1 (.slice (some ⟨g, 0, none⟩) n cap) n (l.map (.int .u8))) (hl : l.length = n) :
    (convert t 9 (.slice (some ⟨g, 0, none⟩) n cap)).run P w = .ok (.string (strOfNums l)) w :=
  run_convert_bytes_arg w t 5 ht h5 g 0 n cap l hl (fun i hi => by
    have hi' : i < l.length := by omega
    rw [Nat.zero_add, h.cellAt i (by omega)]
    simp [List.getD, hi']) 9 h9

/-- The same, whatever the value is. -/
theorem conv_any {P : Program} {w : World} {base n : Nat} {v : Value} {l : List Int} (t : TypeId) (ht : P.underlying t = some (.slice 5)) (h5 : P.underlying 5 = some (.int .u8)) (h9 : P.underlying 9 = some .string)
    (h : w.ownsRow base 5 1 v n (l.map (.int .u8))) (hl : l.length = n) :
    (convert t 9 v).run P w = .ok (.string (strOfNums l)) w := by
  rcases h.2 with ⟨rfl, rfl⟩ | ⟨g, cap, cur, rfl, _⟩
  · rw [run_convert_bytes_nil w t 5 ht h5 0 0 9 h9, List.eq_nil_of_length_eq_zero hl]
    rfl
  · exact conv_own t ht h5 h9 h hl

/-- 'append(s, y)' on an owned row of bytes: the row is one byte longer, and below base all is as it was. -/
theorem wpList_app1 {P : Program} (t : TypeId) (ht : P.underlying t = some (.slice 5)) (hinfo : (P.info? 5).map (fun i => (i.zero, i.size, i.bytes)) = some (some (.int .u8 0), 1, 1))
    {ops : Array Oper} {rest : List Oper} {o : Oper} {a : Act} {Q : Exit → Act → World → Prop} (wr : World) (y : Int) (hgd : o.guard = none) (s x : Operand)
    (ho : o.op = .call { callee := .builtin .append, args := #[s, x], argTypes := #[t, t] })
    (base : Nat) (v : Value) (n : Nat) (l : List Int) (hs : a.eval s = v) (hown : wr.ownsRow base 5 1 v n (l.map (.int .u8)))
    (hx : a.eval x = .slice (some ⟨wr.heap.size, 0, none⟩) 1 1) (hn : n + 1 ≤ 140737488355328) (hbase : base ≤ wr.heap.size)
    (h : ∀ v' w', w'.ownsRow base 5 1 v' (n + 1) ((l ++ [y]).map (.int .u8)) → Below base wr w' → wpList P ops Q rest (a.put o.dst v') w') :
    wpList P ops Q (o :: rest) a (wr.alloc (.cells #[.int .u8 y] 5)) := by
  obtain ⟨i5, j1, j2, j3, j4⟩ := info_parts hinfo
  refine wpList_append_own _ hgd s x t ho base 5 i5 (.int .u8 0) 1 1 ht j1 j2 j3 j4 rfl (by decide) v n _ hs (hown.alloc _) ⟨wr.heap.size, 0, none⟩ 1 1 [.int .u8 y] hx rfl ?_ ?_ ?_ ?_ ?_ ?_
  · intro j u hj
    match j, hj with
    | 0, hj => simp at hj; subst hj; simp [Addr.add]
  · intro u hu; simp at hu; subst hu; rfl
  · unfold maxLen; omega
  · omega
  · simp; omega
  · intro v' w' hown' hgr _
    refine h v' w' (by simpa using hown') ?_
    refine ((Below.refl base wr).alloc hbase _).grown hgr (by simp; omega) (fun k hk => ?_)
    exact (hown.lt k hk).1

/-- An append of bytes on an owned row, as one step of a region that draws its order. -/
theorem step_app {P : Program} (t : TypeId) (ht : P.underlying t = some (.slice 5)) (hinfo : (P.info? 5).map (fun i => (i.zero, i.size, i.bytes)) = some (some (.int .u8 0), 1, 1))
    {ops : Array Oper} {o : Oper} {a : Act} {w : World} {K : Act → World → Prop} {Q : Exit → Act → World → Prop} {E : Prop} (hgd : o.guard = none) (s x : Operand)
    (ho : o.op = .call { callee := .builtin .append, args := #[s, x], argTypes := #[t, t] })
    (base : Nat) (v : Value) (n : Nat) (l news : List Int) (ad : Addr) (m : Nat) (hs : a.eval s = v) (hx : a.eval x = .slice (some ad) m m) (hm : news.length = m) (hown : w.ownsRow base 5 1 v n (l.map (.int .u8)))
    (hc : ∀ j u, (news.map (Value.int .u8))[j]? = some u → w.cell? (ad.add j) = some u) (hn : n + m ≤ 140737488355328) (hbase : base ≤ w.heap.size)
    (hK : ∀ v' w', w'.ownsRow base 5 1 v' (n + m) ((l ++ news).map (.int .u8)) → Below base w w' → K (a.put o.dst v') w') :
    if Region.wanted o (yielded ops a.tmps) = true then Oper.wp P o a w K Q else E := by
  have hw : Region.wanted o (yielded ops a.tmps) = true := by simp [Region.wanted, hgd]
  rw [if_pos hw]
  obtain ⟨i5, j1, j2, j3, j4⟩ := info_parts hinfo
  obtain ⟨v', w', hrun, r1, r2, _⟩ := run_append_own (P := P) w base t o.type 5 i5 (.int .u8 0) 1 1 ht j1 j2 j3 j4 rfl (by decide) v n _ hown ad m m (news.map (Value.int .u8)) (by simp [hm]) hc
    (by intro u hu; obtain ⟨y, _, rfl⟩ := List.mem_map.1 hu; rfl) (by unfold maxLen; omega) (by omega) hbase
  unfold Oper.wp
  simp [execOp, ho, resolve, invoke, builtin, hs, hx, hrun, Result.andThen]
  refine hK v' w' (by simpa using r1) ((Below.refl base w).grown r2 hbase (fun k hk => (hown.lt k hk).1))

/-- The two cells of a new block of two bytes. -/
theorem two_cells (w : World) (a b : Int) : ∀ j u, ([a, b].map (Value.int .u8))[j]? = some u → (w.alloc (.cells #[.int .u8 a, .int .u8 b] 5)).cell? ((⟨w.heap.size, 0, none⟩ : Addr).add j) = some u := by
  intro j u hj
  match j, hj with
  | 0, hj => simp at hj; subst hj; simp [Addr.add]
  | 1, hj => simp at hj; subst hj; simp [Addr.add]

theorem eqS_yes {a b : ByteArray} (h : a = b) : (a.toList == b.toList) = true := by rw [h]; simp
theorem eqS_no {a b : ByteArray} (h : a ≠ b) : (a.toList == b.toList) = false := by
  rw [beq_eq_false_iff_ne]
  intro e
  rw [ByteArray.toList_eq, ByteArray.toList_eq] at e
  exact h (ByteArray.ext (Array.toList_inj.1 e))

theorem ret_str {a b : ByteArray} (h : a = b) : Ending.returned (.string a) = .returned (.string b) := by rw [h]

end Go.Proofs.YtogebppolkfldaaGreatDoor.Own
