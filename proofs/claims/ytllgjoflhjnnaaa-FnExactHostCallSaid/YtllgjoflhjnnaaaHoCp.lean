/-
  The walks of spec.l8Copy and impl.copyHost: the same host, with outs of its own. No condition but lists of at most 2^20.
-/
import Derived.Test.YtllgjoflhjnnaaaHo
import Derived.Test.YtllgjoflhjnnaaaRowCopy
import Derived.Test.YtllgjoflhjnnaaaAppRow
import Derived.Deep.DeepCutAuto
namespace Go.Proofs.Ytllgjoflhjnnaaa.Pl
open Go.RowKit Go.Proofs.Ytllgjoflhjnnaaa.Mem Go.Proofs.Ytllgjoflhjnnaaa.Sec
set_option linter.unusedVariables false

/-- 'append' on an empty slice without room, at the list of a plain region's operations. -/
theorem wpList_app_empty {P : Program} (t e : TypeId) (z : Value) (k bytes : Nat) (ht : P.underlying t = some (.slice e)) (hinfo : (P.info? e).map (fun i => (i.zero, i.size, i.bytes)) = some (some z, k, bytes)) (hzs : z.cells.size = k) (hk : 0 < k) (hby : bytes ≤ 1048576)
    {ops : Array Oper} {rest : List Oper} {o : Oper} {a : Act} {w : World} {Q : Exit → Act → World → Prop} (hgd : o.guard = none) (s x : Operand)
    (ho : o.op = .call { callee := .builtin .append, args := #[s, x], argTypes := #[t, t] })
    (b : Option Addr) (hs : a.eval s = .slice b 0 0) (ad : Option Addr) (m c : Nat) (news : List Value) (hx : a.eval x = .slice ad m c) (hl : news.length = m * k) (hS : Sl w ad (m * k) (fun i => news.getD i undef)) (h1 : ∀ u ∈ news, u.oneCell' = true) (hm : m ≤ 1048576)
    (hK : ∀ v' w', RowO w' w.heap.size e k v' m news → Below w.heap.size w w' → wpList P ops Q rest (a.put o.dst v') w') :
    wpList P ops Q (o :: rest) a w := by
  refine wpList_plain hgd fun K hK' => ?_
  obtain ⟨v', w', hr, h2, h3, _, _⟩ := run_app_empty (P := P) w t o.type e z k bytes ht hinfo hzs hk b ad m c news hl hS h1 hm hby
  unfold Oper.wp execOp
  simp only [ho, resolve, invoke, builtin, Sem.run_bind, Sem.run_pure, Result.andThen_ok, List.map_toArray, List.map_cons, List.map_nil, hs, hx, hr]
  exact hK' _ _ (hK v' w' h2 h3)

def oCells (l : List Ou) : List Value := l.flatMap Ou.cells
theorem oCells_length (l : List Ou) : (oCells l).length = l.length * 2 := by
  induction l with
  | nil => rfl
  | cons x l ih =>
    show (x.cells ++ oCells l).length = _
    rw [List.length_append, ih]
    simp [Ou.cells]; omega
theorem oCells_at (l : List Ou) (i : Nat) (h : i < l.length * 2) : (oCells l).getD i undef = ocell l i := by
  induction l generalizing i with
  | nil => simp at h
  | cons x l ih =>
    show (x.cells ++ oCells l).getD i undef = _
    have hx : x.cells.length = 2 := rfl
    rw [List.getD_eq_getElem?_getD]
    by_cases h4 : i < 2
    · rw [List.getElem?_append_left (by omega)]
      unfold ocell
      rw [show i / 2 = 0 by omega, show i % 2 = i by omega]
      rw [List.getD_eq_getElem?_getD]
      rfl
    · rw [List.getElem?_append_right (by omega), hx, ← List.getD_eq_getElem?_getD, ih (i - 2) (by simp at h; omega)]
      unfold ocell
      rw [show (i - 2) % 2 = i % 2 by omega]
      obtain ⟨q, hq⟩ : ∃ q, i / 2 = q + 1 := ⟨i / 2 - 1, by omega⟩
      rw [hq, show (i - 2) / 2 = q by omega]
      rfl
theorem oCells_one (l : List Ou) : ∀ u ∈ oCells l, u.oneCell' = true := fun u hu => by
  obtain ⟨x, _, hx⟩ := List.mem_flatMap.1 hu
  unfold Ou.cells at hx
  simp only [List.mem_cons, List.not_mem_nil, or_false] at hx
  rcases hx with rfl | rfl <;> rfl
theorem ous_sl {w : World} {a : Option Addr} {l : List Ou} (h : Ous w a l) : Sl w a (l.length * 2) (fun i => (oCells l).getD i undef) :=
  Sl.congr h (fun i hi => (oCells_at l i hi).symm)

set_option maxRecDepth 100000 in
set_option maxHeartbeats 4000000 in
theorem sCopyHost (w : World) (H : Ho) (p : Option Addr) (c : Nat) (S : Ous w p H.l) (hl : H.l.length ≤ 1048576) :
    Calls Try.prog 30 #[hoV H p c] w fun r w' => ∃ p' c', r = .returned (hoV H p' c') ∧ OusW w' w.heap.size p' H.l ∧ Below w.heap.size w w' := by
  obtain ⟨id, ep, up, rd, bz, k, v, t, a, s, pc, cd, bk, tx, l, txn⟩ := H
  have HS : Hid (Ous w p l) := S
  have hl' : l.length ≤ 1048576 := hl
  have HL := hid hl'
  clear S hl hl'
  unfold hoV
  try simp only []
  go_enter Try.func30, Try.ntmps30
  go_upto_region 1 with fail
  obtain ⟨wc, hwc, e2, A0, R0, B0⟩ := two_new w [.int .i64 id, .int .i64 ep, .bool up, .bool rd, .bool bz, .int .i64 k, .int .i64 v, .int .i64 t, .int .i64 a, .string s, .int .i64 pc, .int .i64 cd, .int .i64 bk, .string tx, .slice p l.length c, .int .i64 txn] [.int .i64 0, .int .i64 0, .bool false, .bool false, .bool false, .int .i64 0, .int .i64 0, .int .i64 0, .int .i64 0, .string ⟨#[]⟩, .int .i64 0, .int .i64 0, .int .i64 0, .string ⟨#[]⟩, .slice none 0 0, .int .i64 0] 36 36
  simp only [hwc]
  clear hwc
  have k14 := A0.c 14 rfl
  have HN := hid (Sl.below (ous_sl HS.out) B0)
  have HA := hid A0
  have HR := hid R0
  have HB := hid B0
  have hn1 : w.heap.size < wc.heap.size := by omega
  have hn2 : w.heap.size + 1 < wc.heap.size := by omega
  clear A0 R0 B0 e2
  go_upto_region 2 with (at_builtin; refine wpList_app_empty 32 60 (.agg #[.int .i64 0, .string ByteArray.empty]) 2 24 Try.underlying32 infoO rfl (by decide) (by decide) rfl (.tmp 3) (.tmp 6) rfl (some ⟨wc.heap.size, 0, none⟩) rfl p l.length c (oCells l) rfl (oCells_length l) (Sl.below HN.out ((Below.refl _ wc).alloc (Nat.le_refl _) _)) (oCells_one l) HL.out ?_; intro v1 w1 r1 b1; obtain ⟨p1, c1, rfl, W1⟩ := r1.wr; have HA1 := hid (HA.out.below (((Below.refl _ wc).alloc (Nat.le_refl _) _).trans (b1.mono (Nat.le_of_lt (lt_alloc wc _)))) HA.out.lt); have HR1 := hid (HR.out.below (((Below.refl _ wc).alloc (Nat.le_refl _) _).trans (b1.mono (Nat.le_of_lt (lt_alloc wc _)))) HR.out.lt); have HB1 := hid (HB.out.trans (Below.mono (((Below.refl _ wc).alloc (Nat.le_refl _) _).trans (b1.mono (Nat.le_of_lt (lt_alloc wc _)))) HB.out.size)); have HW1 := hid (W1.congr (g := ocell l) (fun i hi => oCells_at l i hi)); have hw1 : wc.heap.size ≤ w1.heap.size := Below.size (((Below.refl _ wc).alloc (Nat.le_refl _) _).trans (b1.mono (Nat.le_of_lt (lt_alloc wc _)))); have k14' := HA1.out.c 14 rfl; have f14' := HA1.out.f 14; clear r1 W1 b1)
  obtain ⟨w2, hw2, A2, R2, B2, K2⟩ : ∃ w2, w1.setCell ⟨w.heap.size, 14, none⟩ (.slice p1 l.length c1) = w2 ∧ Row w2 w.heap.size [.int .i64 id, .int .i64 ep, .bool up, .bool rd, .bool bz, .int .i64 k, .int .i64 v, .int .i64 t, .int .i64 a, .string s, .int .i64 pc, .int .i64 cd, .int .i64 bk, .string tx, .slice p1 l.length c1, .int .i64 txn] ∧ Row w2 (w.heap.size + 1) [.int .i64 0, .int .i64 0, .bool false, .bool false, .bool false, .int .i64 0, .int .i64 0, .int .i64 0, .int .i64 0, .string ⟨#[]⟩, .int .i64 0, .int .i64 0, .int .i64 0, .string ⟨#[]⟩, .slice none 0 0, .int .i64 0] ∧ Below w.heap.size w w2 ∧ Kept (fun b => b = w.heap.size) w1 w2 :=
    ⟨_, rfl, HA1.out.set 14 _, HR1.out.other (p := ⟨w.heap.size, 14, none⟩) (by show w.heap.size + 1 ≠ w.heap.size; omega) _, below_set HB1.out _ _ _ (Nat.le_refl _), kept_set w1 _ _ _⟩
  try simp only [hw2]
  clear hw2 k14 k14' f14' HA HR HA1 HR1 HB1
  refine wp_region_list ?_
  refine wpList_load_row rfl 36 _ rfl w.heap.size rfl [.int .i64 id, .int .i64 ep, .bool up, .bool rd, .bool bz, .int .i64 k, .int .i64 v, .int .i64 t, .int .i64 a, .string s, .int .i64 pc, .int .i64 cd, .int .i64 bk, .string tx, .slice p1 l.length c1, .int .i64 txn] _ A2 Try.underlying36 rfl (by kernel_rfl) ?_
  refine wpList_store_row rfl 36 _ _ rfl (w.heap.size + 1) rfl _ [.int .i64 id, .int .i64 ep, .bool up, .bool rd, .bool bz, .int .i64 k, .int .i64 v, .int .i64 t, .int .i64 a, .string s, .int .i64 pc, .int .i64 cd, .int .i64 bk, .string tx, .slice p1 l.length c1, .int .i64 txn] rfl R2 rfl (by kernel_rfl) rfl ?_
  have HR := hid (puts_row R2 0 [.int .i64 id, .int .i64 ep, .bool up, .bool rd, .bool bz, .int .i64 k, .int .i64 v, .int .i64 t, .int .i64 a, .string s, .int .i64 pc, .int .i64 cd, .int .i64 bk, .string tx, .slice p1 l.length c1, .int .i64 txn])
  have HB := hid (puts_below B2 (show w.heap.size ≤ w.heap.size + 1 by omega) 0 [.int .i64 id, .int .i64 ep, .bool up, .bool rd, .bool bz, .int .i64 k, .int .i64 v, .int .i64 t, .int .i64 a, .string s, .int .i64 pc, .int .i64 cd, .int .i64 bk, .string tx, .slice p1 l.length c1, .int .i64 txn])
  have HK := hid ((K2.trans (puts_kept w2 (w.heap.size + 1) 0 [.int .i64 id, .int .i64 ep, .bool up, .bool rd, .bool bz, .int .i64 k, .int .i64 v, .int .i64 t, .int .i64 a, .string s, .int .i64 pc, .int .i64 cd, .int .i64 bk, .string tx, .slice p1 l.length c1, .int .i64 txn])).mono (T := fun b => b < wc.heap.size) (fun b _ hb => by rcases hb with h | h <;> omega))
  generalize puts w2 (w.heap.size + 1) 0 [.int .i64 id, .int .i64 ep, .bool up, .bool rd, .bool bz, .int .i64 k, .int .i64 v, .int .i64 t, .int .i64 a, .string s, .int .i64 pc, .int .i64 cd, .int .i64 bk, .string tx, .slice p1 l.length c1, .int .i64 txn] = w5 at *
  clear R2 A2 B2 K2
  refine wpList_nil ?_
  go_wp2
  refine bodyPost_ret (results_row rfl _ _ (w.heap.size + 1) [.int .i64 id, .int .i64 ep, .bool up, .bool rd, .bool bz, .int .i64 k, .int .i64 v, .int .i64 t, .int .i64 a, .string s, .int .i64 pc, .int .i64 cd, .int .i64 bk, .string tx, .slice p1 l.length c1, .int .i64 txn] _ rfl HR.out Try.underlying36 rfl (by kernel_rfl)) rfl ?_
  exact ⟨p1, c1, rfl, (Wr.move HW1.out HK.out (fun b hb => by have := Wr.foot_ge HW1.out hb; simp at *; omega)).mono (by simp at *; omega), HB.out⟩

set_option maxRecDepth 100000 in
set_option maxHeartbeats 4000000 in
theorem iCopyHost (w : World) (H : Ho) (p : Option Addr) (c : Nat) (S : Ous w p H.l) (hl : H.l.length ≤ 1048576) :
    Calls Try.prog 31 #[hoV H p c] w fun r w' => ∃ p' c', r = .returned (hoV H p' c') ∧ OusW w' w.heap.size p' H.l ∧ Below w.heap.size w w' := by
  obtain ⟨id, ep, up, rd, bz, k, v, t, a, s, pc, cd, bk, tx, l, txn⟩ := H
  have HS : Hid (Ous w p l) := S
  have hl' : l.length ≤ 1048576 := hl
  have HL := hid hl'
  clear S hl hl'
  unfold hoV
  try simp only []
  go_enter Try.func31, Try.ntmps31
  go_upto_region 1 with fail
  obtain ⟨wc, hwc, e2, A0, R0, B0⟩ := two_new w [.int .i64 id, .int .i64 ep, .bool up, .bool rd, .bool bz, .int .i64 k, .int .i64 v, .int .i64 t, .int .i64 a, .string s, .int .i64 pc, .int .i64 cd, .int .i64 bk, .string tx, .slice p l.length c, .int .i64 txn] [.int .i64 0, .int .i64 0, .bool false, .bool false, .bool false, .int .i64 0, .int .i64 0, .int .i64 0, .int .i64 0, .string ⟨#[]⟩, .int .i64 0, .int .i64 0, .int .i64 0, .string ⟨#[]⟩, .slice none 0 0, .int .i64 0] 36 36
  simp only [hwc]
  clear hwc
  have k14 := A0.c 14 rfl
  have HN := hid (Sl.below (ous_sl HS.out) B0)
  have HA := hid A0
  have HR := hid R0
  have HB := hid B0
  have hn1 : w.heap.size < wc.heap.size := by omega
  have hn2 : w.heap.size + 1 < wc.heap.size := by omega
  clear A0 R0 B0 e2
  go_upto_region 2 with (at_builtin; refine wpList_app_empty 32 60 (.agg #[.int .i64 0, .string ByteArray.empty]) 2 24 Try.underlying32 infoO rfl (by decide) (by decide) rfl (.const (.slice none 0 0)) (.tmp 5) rfl none rfl p l.length c (oCells l) rfl (oCells_length l) HN.out (oCells_one l) HL.out ?_; intro v1 w1 r1 b1; obtain ⟨p1, c1, rfl, W1⟩ := r1.wr; have HA1 := hid (HA.out.below b1 HA.out.lt); have HR1 := hid (HR.out.below b1 HR.out.lt); have HB1 := hid (HB.out.trans (Below.mono b1 HB.out.size)); have HW1 := hid (W1.congr (g := ocell l) (fun i hi => oCells_at l i hi)); have hw1 : wc.heap.size ≤ w1.heap.size := Below.size b1; have k14' := HA1.out.c 14 rfl; have f14' := HA1.out.f 14; clear r1 W1 b1)
  obtain ⟨w2, hw2, A2, R2, B2, K2⟩ : ∃ w2, w1.setCell ⟨w.heap.size, 14, none⟩ (.slice p1 l.length c1) = w2 ∧ Row w2 w.heap.size [.int .i64 id, .int .i64 ep, .bool up, .bool rd, .bool bz, .int .i64 k, .int .i64 v, .int .i64 t, .int .i64 a, .string s, .int .i64 pc, .int .i64 cd, .int .i64 bk, .string tx, .slice p1 l.length c1, .int .i64 txn] ∧ Row w2 (w.heap.size + 1) [.int .i64 0, .int .i64 0, .bool false, .bool false, .bool false, .int .i64 0, .int .i64 0, .int .i64 0, .int .i64 0, .string ⟨#[]⟩, .int .i64 0, .int .i64 0, .int .i64 0, .string ⟨#[]⟩, .slice none 0 0, .int .i64 0] ∧ Below w.heap.size w w2 ∧ Kept (fun b => b = w.heap.size) w1 w2 :=
    ⟨_, rfl, HA1.out.set 14 _, HR1.out.other (p := ⟨w.heap.size, 14, none⟩) (by show w.heap.size + 1 ≠ w.heap.size; omega) _, below_set HB1.out _ _ _ (Nat.le_refl _), kept_set w1 _ _ _⟩
  try simp only [hw2]
  clear hw2 k14 k14' f14' HA HR HA1 HR1 HB1
  refine wp_region_list ?_
  refine wpList_load_row rfl 36 _ rfl w.heap.size rfl [.int .i64 id, .int .i64 ep, .bool up, .bool rd, .bool bz, .int .i64 k, .int .i64 v, .int .i64 t, .int .i64 a, .string s, .int .i64 pc, .int .i64 cd, .int .i64 bk, .string tx, .slice p1 l.length c1, .int .i64 txn] _ A2 Try.underlying36 rfl (by kernel_rfl) ?_
  refine wpList_store_row rfl 36 _ _ rfl (w.heap.size + 1) rfl _ [.int .i64 id, .int .i64 ep, .bool up, .bool rd, .bool bz, .int .i64 k, .int .i64 v, .int .i64 t, .int .i64 a, .string s, .int .i64 pc, .int .i64 cd, .int .i64 bk, .string tx, .slice p1 l.length c1, .int .i64 txn] rfl R2 rfl (by kernel_rfl) rfl ?_
  have HR := hid (puts_row R2 0 [.int .i64 id, .int .i64 ep, .bool up, .bool rd, .bool bz, .int .i64 k, .int .i64 v, .int .i64 t, .int .i64 a, .string s, .int .i64 pc, .int .i64 cd, .int .i64 bk, .string tx, .slice p1 l.length c1, .int .i64 txn])
  have HB := hid (puts_below B2 (show w.heap.size ≤ w.heap.size + 1 by omega) 0 [.int .i64 id, .int .i64 ep, .bool up, .bool rd, .bool bz, .int .i64 k, .int .i64 v, .int .i64 t, .int .i64 a, .string s, .int .i64 pc, .int .i64 cd, .int .i64 bk, .string tx, .slice p1 l.length c1, .int .i64 txn])
  have HK := hid ((K2.trans (puts_kept w2 (w.heap.size + 1) 0 [.int .i64 id, .int .i64 ep, .bool up, .bool rd, .bool bz, .int .i64 k, .int .i64 v, .int .i64 t, .int .i64 a, .string s, .int .i64 pc, .int .i64 cd, .int .i64 bk, .string tx, .slice p1 l.length c1, .int .i64 txn])).mono (T := fun b => b < wc.heap.size) (fun b _ hb => by rcases hb with h | h <;> omega))
  generalize puts w2 (w.heap.size + 1) 0 [.int .i64 id, .int .i64 ep, .bool up, .bool rd, .bool bz, .int .i64 k, .int .i64 v, .int .i64 t, .int .i64 a, .string s, .int .i64 pc, .int .i64 cd, .int .i64 bk, .string tx, .slice p1 l.length c1, .int .i64 txn] = w5 at *
  clear R2 A2 B2 K2
  refine wpList_nil ?_
  go_wp2
  refine bodyPost_ret (results_row rfl _ _ (w.heap.size + 1) [.int .i64 id, .int .i64 ep, .bool up, .bool rd, .bool bz, .int .i64 k, .int .i64 v, .int .i64 t, .int .i64 a, .string s, .int .i64 pc, .int .i64 cd, .int .i64 bk, .string tx, .slice p1 l.length c1, .int .i64 txn] _ rfl HR.out Try.underlying36 rfl (by kernel_rfl)) rfl ?_
  exact ⟨p1, c1, rfl, (Wr.move HW1.out HK.out (fun b hb => by have := Wr.foot_ge HW1.out hb; omega)).mono (by omega), HB.out⟩

end Go.Proofs.Ytllgjoflhjnnaaa.Pl
