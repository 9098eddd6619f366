/-
  A region as in RgGrow whose last operation stores one cell into memory that was there: all others come ahead of it. At any program. No condition.
  The walks of laws.markHostS and laws.heldHostS at hosts without outs, from a mark on that leaves 2 behind a division by 3. No condition.
  The walk of laws.heldHostS at hosts without outs, and those of marks at empty lists of events and replies. No condition.
  The walks of spec.ShowVol and impl.ShowVol: both give a volume's text. Condition for impl's: the table of sixteen sums holds what the program's text lays.
  The walks of spec.ShowGroup and impl.ShowGroup: both give a group's text. Condition for impl's: the table of sixteen sums holds what the program's text lays.
-/
import Derived.Test.YtaopkchkhdbfnaaGreatDoorJoin1
import Derived.Test.YtaopkchkhdbfnaaGreatDoorSecRows
namespace Go.Proofs.YtaopkchkhdbfnaaGreatDoor.Rg
open Go.RowKit Go.Proofs.YtaopkchkhdbfnaaGreatDoor.Mem Go.Proofs.YtaopkchkhdbfnaaGreatDoor.Pl
set_option linter.unusedVariables false

theorem run_store_one {P : Program} {ρ : Operand → Value} {o : Oper} {w : World} (ty : TypeId) (x y : Operand) (p : o.op = .store ty x y) (b off : Nat) (v u : Value) (e1 : ρ x = .pointer (some ⟨b, off, none⟩)) (e2 : ρ y = v)
    (hs : (storeVar ty ⟨b, off, none⟩ v).run P w = .ok () (w.setCell ⟨b, off, none⟩ v)) : (execOp ρ o).run P w = .ok .skip (w.setCell ⟨b, off, none⟩ v) := by
  unfold execOp
  simp only [p, e1, e2, Instr.storeAt, Instr.sureAddr, Sem.run_bind, Sem.run_pure, Result.andThen_ok, hs]

/-- A number in a slot is one more. -/
theorem region_inc {P : Program} {ops : Array Oper} {id : Nat} {a : Act} {w : World} {Q : Exit → Act → World → Prop} {o0 o1 o2 : Oper} (hl : ops.toList = [o0, o1, o2]) (g0 : o0.guard = none) (g1 : o1.guard = none) (g2 : o2.guard = none)
    (t0 t1 t2 : Tmp) (ty ty' : TypeId) (p0 : o0.op = .move (.tmp t0)) (p1 : o1.op = .binOp .add ty (.tmp t1) (.const (.int .i64 1)) ty') (p2 : o2.op = .assign (.tmp t2)) (x y : Int) (e0 : a.eval (.tmp t0) = .int .i64 x) (e1 : (a.put o0.dst (.int .i64 x)).eval (.tmp t1) = .int .i64 x)
    (r1 : ∀ ρ : Operand → Value, ρ (.tmp t1) = .int .i64 x → ρ (.const (.int .i64 1)) = .int .i64 1 → (execOp ρ o1).run P w = .ok (.value (.int .i64 y)) w) (e2 : ((a.put o0.dst (.int .i64 x)).put o1.dst (.int .i64 y)).eval (.tmp t2) = .int .i64 y)
    (h : Q .normal (((a.put o0.dst (.int .i64 x)).put o1.dst (.int .i64 y)).put o2.dst (.int .i64 y)) w) : (Code.region id ops false).wp P Q a w := by
  refine wp_region_list ?_
  rw [hl]
  refine wpList_plain g0 (fun K hK => ?_)
  unfold Oper.wp
  rw [run_move (.tmp t0) p0 e0, Oper.upon_value]
  refine hK _ _ ?_
  refine wpList_plain g1 (fun K hK => ?_)
  unfold Oper.wp
  rw [r1 _ e1 rfl, Oper.upon_value]
  refine hK _ _ ?_
  refine wpList_plain g2 (fun K hK => ?_)
  unfold Oper.wp
  rw [run_assign (.tmp t2) p2 e2, Oper.upon_value]
  refine hK _ _ ?_
  exact wpList_nil h

/-- A cell that is there and may be written. -/
theorem run_storeVar_one {P : Program} (w : World) (b o : Nat) (ty : TypeId) (x : Value) (hx : x.cells = #[x]) (h1 : x.oneCell' = true) (hc : ∃ u, w.cell? ⟨b, o, none⟩ = some u) (hz : w.frozen? ⟨b, o, none⟩ = false) (hi : (P.info? ty).map (·.size) = some 1) :
    (storeVar ty ⟨b, o, none⟩ x).run P w = .ok () (w.setCell ⟨b, o, none⟩ x) := by
  obtain ⟨u, hu⟩ := hc
  have := run_storeCells_cells (P := P) b o [x] 0 w (fun j hj => by obtain rfl : j = 0 := by simpa using hj
                                                                    simp [hu]) (fun j hj => by obtain rfl : j = 0 := by simpa using hj
                                                                                               simpa using hz)
    (fun v hv => by rw [List.mem_singleton] at hv; subst hv; exact h1)
  cases hq : P.info? ty with
  | none => simp [hq] at hi
  | some i =>
    have hs : i.size = 1 := by simpa [hq] using hi
    simp only [Nat.add_zero] at this
    simp [storeVar, sizeOf, typeInfo, hq, hx, hs, this, World.setCells]

section
variable {P : Program} {ops : Array Oper} {a0 : Act} {w0 : World} {val : Nat → Value} {sp : Nat → Option (Value → World → Prop)} {Q : Exit → Act → World → Prop}

def AllP (P : Program) (ops : Array Oper) (a0 : Act) (w0 : World) (val : Nat → Value) (sp : Nat → Option (Value → World → Prop)) (Q : Exit → Act → World → Prop) (S : Nat) : Nat → Nat → Prop
  | _, 0 => True
  | k, n + 1 => (k = S ∨ StepG P ops a0 w0 val sp Q k) ∧ AllP P ops a0 w0 val sp Q S (k + 1) n

theorem AllP.at {S : Nat} : ∀ (n k : Nat), AllP P ops a0 w0 val sp Q S k n → ∀ i, k ≤ i → i < k + n → i = S ∨ StepG P ops a0 w0 val sp Q i
  | 0, k, _, i, h1, h2 => by omega
  | n + 1, k, h, i, h1, h2 => by
    by_cases e : i = k
    · subst e; exact h.1
    · exact AllP.at n (k + 1) h.2 i (by omega) (by omega)

/-- THE LAW. S: the store; A: where; Y: what. -/
theorem region_put {id : Nat} (dr : Bool) (hm : P.follows .mixedOrders = true) (hf : fits ops a0.tmps.size = true) (ds : List (Option Tmp)) (hds : (List.range ops.size).map (dstOf ops) = ds)
    (S A Y : Nat) {oS : Oper} (hoS : ops[S]? = some oS) (gS : oS.guard = none) (ty : TypeId) (tA tY : Tmp) (pS : oS.op = .store ty (.tmp tA) (.tmp tY)) (dA : dstOf ops A = some tA) (dY : dstOf ops Y = some tY) (nA : near ops S A = true) (nY : near ops S Y = true)
    (hlast : ((List.range ops.size).all fun i => i == S || reach ops ops.size S i) = true)
    (b off : Nat) (x : Value) (vA : val A = .pointer (some ⟨b, off, none⟩)) (sA : sp A = none) (vY : val Y = x) (sY : sp Y = none) (sS : sp S = some (fun _ _ => True))
    (hst : ∀ i p, sp i = some p → ∀ x w w', p x w → p x w')
    (hrun : ∀ w, Below w0.heap.size w0 w → (storeVar ty ⟨b, off, none⟩ x).run P w = .ok () (w.setCell ⟨b, off, none⟩ x))
    (hall : AllP P ops a0 w0 val sp Q S 0 ops.size)
    (hend : ∀ v w, Below w0.heap.size w0 w → (∀ i, i < ops.size → GG val sp i v w) → Q .normal (putsAll a0 ds v 0) (w.setCell ⟨b, off, none⟩ x)) : (Code.region id ops dr).wp P Q a0 w0 := by
  have hop := fun i (hi : i < ops.size) => AllP.at ops.size 0 hall i (Nat.zero_le _) (by omega)
  have hSlt : S < ops.size := (Array.getElem?_eq_some_iff.1 hoS).1
  have gset : ∀ (k i : Nat) (v : Nat → Value) (u : Value) (w w' : World), k ≠ i → GG val sp k v w → GG val sp k (updv v i u) w' := fun k i v u w w' hki h => by
    unfold GG at h ⊢
    cases hs : sp k with
    | none => rw [hs] at h; show updv v i u k = val k; rw [updv_ne v u hki]; exact h
    | some q => rw [hs] at h; show q (updv v i u k) w'; rw [updv_ne v u hki]; exact hst k q hs _ _ _ h
  refine rg_both dr hm hf ds hds (fun L v w => ∃ w1, Below w0.heap.size w0 w1 ∧ (L S = false → w = w1) ∧ (L S = true → w = w1.setCell ⟨b, off, none⟩ x) ∧ ∀ k, k < ops.size → L k = true → GG val sp k v w1)
    ⟨_, (Below.refl _ _).drew, fun _ => rfl, fun h => (by cases h), fun k _ h => (by cases h)⟩ ⟨_, Below.refl _ _, fun _ => rfl, fun h => (by cases h), fun k _ h => (by cases h)⟩ ?_ ?_
  · rintro i o ho L v a w hAt ⟨w1, hB, h0, h1, hI⟩ hC hLi hw
    have hlt : i < ops.size := (Array.getElem?_eq_some_iff.1 ho).1
    have hup : ∀ j, near ops i j = true → L j = true := fun j hj => near_up ho hw hj
    have hsz : ∀ j, near ops i j = true → j < ops.size := fun j hj => by
      unfold near at hj
      rw [ho] at hj
      obtain ⟨e, he', hb⟩ := List.any_eq_true.1 hj
      have he := Array.mem_toList_iff.1 he'
      rw [Bool.and_eq_true] at hb
      have := fits_after hf ho he hb.1
      have h2 : e.on = j := by simpa using hb.2
      omega
    by_cases eS : i = S
    · subst eS
      rw [hoS] at ho
      cases ho
      obtain rfl := h0 hLi
      have e1 : v A = .pointer (some ⟨b, off, none⟩) := by
        have h := hI A (hsz A nA) (hup A nA)
        unfold GG at h
        rw [sA] at h
        exact h.trans vA
      have e2 : v Y = x := by
        have h := hI Y (hsz Y nY) (hup Y nY)
        unfold GG at h
        rw [sY] at h
        exact h.trans vY
      refine wpOp_step hoS (fun K' hK => ?_)
      rw [if_pos (by simp [Region.wanted, gS])]
      unfold Oper.wp
      rw [run_store_one ty (.tmp tA) (.tmp tY) pS b off x x ((hAt.eval_got A (hup A nA) dA).trans e1) ((hAt.eval_got Y (hup Y nY) dY).trans e2) (hrun _ hB)]
      refine hK (a.put oS.dst undef) _ ⟨undef, rfl, _, hB, fun h => ?_, fun _ => rfl, fun k hk hLk => ?_⟩
      · rw [upd_same] at h; cases h
      · by_cases hki : k = i
        · subst hki; unfold GG; rw [sS]; trivial
        · rw [upd_ne L hki] at hLk
          exact gset k i v _ _ _ hki (hI k hk hLk)
    · have hLS : L S = false := by
        cases h : L S with
        | false => rfl
        | true =>
          have hr : reach ops ops.size S i = true := by
            have := List.all_eq_true.1 hlast i (List.mem_range.2 hlt)
            simpa [eS] using this
          have := reach_listed hC ops.size S i oS hoS (hC S oS hoS h) hr
          rw [this] at hLi
          cases hLi
      obtain rfl := h0 hLS
      rcases hop i hlt with h | h
      · exact absurd h eS
      refine wpOp_mono ?_ (h o ho L v a w ⟨hAt, hB, hup, fun j hj => hI j (hsz j hj) (hup j hj)⟩)
      rintro a' w' ⟨u, rfl, hb, hG⟩
      refine ⟨u, rfl, w', hB.trans (hb.mono hB.size), fun _ => rfl, fun h => ?_, fun k hk hLk => ?_⟩
      · rw [upd_ne L (fun h => eS h.symm), hLS] at h; cases h
      · by_cases hki : k = i
        · subst hki; exact hG
        · rw [upd_ne L hki] at hLk
          exact gset k i v u w w' hki (hI k hk hLk)
  · rintro L v w hL ⟨w1, hB, _, h1, hI⟩
    rw [h1 (hL S hSlt)]
    exact hend v w1 hB (fun i hi => hI i hi (hL i hi))

end

end Go.Proofs.YtaopkchkhdbfnaaGreatDoor.Rg

namespace Go.Proofs.YtaopkchkhdbfnaaGreatDoor.Pl
open Go.RowKit Go.Proofs.YtaopkchkhdbfnaaGreatDoor.Mem Go.Proofs.YtaopkchkhdbfnaaGreatDoor.Sec Go.Proofs.YtaopkchkhdbfnaaGreatDoor.Rd Go.Proofs.YtaopkchkhdbfnaaGreatDoor.Rg
set_option linter.unusedVariables false

/-- The cells of a host that is marked from m on; its outs as they were. -/
def mhCells (m : Nat) : List Value := [.int .i64 ((m + 0 : Nat) : Int), .int .i64 ((m + 1 : Nat) : Int), .bool false, .bool false, .bool true, .int .i64 ((m + 5 : Nat) : Int), .int .i64 ((m + 6 : Nat) : Int), .int .i64 ((m + 7 : Nat) : Int), .int .i64 ((m + 8 : Nat) : Int), .string (markS (m + 9)), .int .i64 ((m + 10 : Nat) : Int), .int .i64 ((m + 11 : Nat) : Int), .int .i64 ((m + 12 : Nat) : Int), .string (markS (m + 13)), .slice none 0 0, .int .i64 ((m + 14 : Nat) : Int)]
def mh (k i : Nat) : Value := (mhCells (k + i / 16 * 15)).getD (i % 16) undef
/-- Marked up to host j, and of host j the first c cells. -/
def mhTo (f : Nat → Value) (k j c i : Nat) : Value := if i < j * 16 + c then mh k i else f i

theorem mh_at (k j c : Nat) (hc : c < 16) : mh k (j * 16 + c) = (mhCells (k + j * 15)).getD c undef := by
  unfold mh
  rw [show (j * 16 + c) / 16 = j by omega, show (j * 16 + c) % 16 = c by omega]

theorem mhTo_set (f : Nat → Value) (k j c : Nat) (v : Value) (hv : v = mh k (j * 16 + c)) (i : Nat) : (if i = j * 16 + c then v else mhTo f k j c i) = mhTo f k j (c + 1) i := by
  unfold mhTo
  by_cases h : i = j * 16 + c
  · rw [if_pos h, if_pos (by omega), hv, h]
  · rw [if_neg h]
    by_cases h2 : i < j * 16 + c
    · rw [if_pos h2, if_pos (by omega)]
    · rw [if_neg h2, if_neg (by omega)]
theorem mhTo_same (f : Nat → Value) (k j : Nat) (hf : f (j * 16 + 14) = .slice none 0 0) (i : Nat) : mhTo f k j 14 i = mhTo f k j 15 i := by
  unfold mhTo
  by_cases h : i = j * 16 + 14
  · rw [if_neg (by omega), if_pos (by omega), h, hf, mh_at k j 14 (by omega)]; rfl
  · by_cases h2 : i < j * 16 + 14
    · rw [if_pos h2, if_pos (by omega)]
    · rw [if_neg h2, if_neg (by omega)]
theorem mhTo_next (f : Nat → Value) (k j : Nat) (i : Nat) : mhTo f k j 16 i = mhTo f k (j + 1) 0 i := by
  unfold mhTo
  rw [show j * 16 + 16 = (j + 1) * 16 + 0 by omega]

theorem tmod3 (m : Nat) (r : Nat) (h : m % 3 = r) : Int.tmod (m : Int) 3 = (r : Int) := by
  rw [Int.tmod_eq_emod_of_nonneg (by omega)]
  omega

/-- A cell is stored, wherever it lies. -/
theorem Wr.setAtH {w : World} {B b off o : Nat} {m : Nat} {f g : Nat → Value} (h : Wr w B (some ⟨b, off, none⟩) m f) (i : Nat) (hi : i < m) (ho : o = off + i) (v : Value) (hg : ∀ j, (if j = i then v else f j) = g j) :
    Wr (w.setCell ⟨b, o, none⟩ v) B (some ⟨b, off, none⟩) m g := by subst ho; exact (h.set i hi v).congr (fun j _ => hg j)
theorem Wr.cellH {w : World} {B b off o : Nat} {m : Nat} {f : Nat → Value} (h : Wr w B (some ⟨b, off, none⟩) m f) (i : Nat) (hi : i < m) (ho : o = off + i) : w.cell? ⟨b, o, none⟩ = some (f i) ∧ w.frozen? ⟨b, o, none⟩ = false := by
  subst ho
  obtain ⟨b', off', e, _, h1, h2⟩ := h i hi
  cases e
  exact ⟨h1, h2⟩
theorem Sl.cellH {w : World} {b off o : Nat} {m : Nat} {f : Nat → Value} (h : Sl w (some ⟨b, off, none⟩) m f) (i : Nat) (hi : i < m) (ho : o = off + i) : w.cell? ⟨b, o, none⟩ = some (f i) := by
  subst ho
  obtain ⟨b', off', e, h1⟩ := h i hi
  cases e
  exact h1

theorem call_markText (vs : Array Value) (w : World) : (callFunc 122 vs).run Tryz.prog w = .ok (.enter 122 vs) w := by simp [go_sem]
theorem call_markOutS (vs : Array Value) (w : World) : (callFunc 123 vs).run Tryz.prog w = .ok (.enter 123 vs) w := by simp [go_sem]

theorem wrapI (n : Int) (h : 0 ≤ n ∧ n ≤ 9223372036854775807) : IntKind.i64.wrap n = n := by rw [IntKind.wrap_i64]; omega

theorem kept_same {S : Nat → Prop} {w w1 w2 : World} (h : Kept S w w1) (k : Below w1.heap.size w1 w2) : Kept S w w2 :=
  (h.trans (Kept.of_below (S := fun _ => False) k)).mono (fun b _ h => by rcases h with h | h; exact h; exact h.elim)
theorem kept_more {b off m o : Nat} {v : Value} {w w1 : World} (h : Kept (fun c => foot (some (⟨b, off, none⟩ : Addr)) m c ∨ False) w w1) (hm : 0 < m) : Kept (foot (some ⟨b, off, none⟩) m) w (w1.setCell ⟨b, o, none⟩ v) :=
  (h.trans (kept_set w1 b o v)).mono (fun c _ h => by
    rcases h with (h | h) | h
    · exact h
    · exact h.elim
    · subst h; exact ⟨hm, off, rfl⟩)

theorem markOut0 (w : World) (m : Nat) (h0 : 0 < m) (h1 : m ≤ 4194304) : Calls Tryz.prog 123 #[.slice none 0 0, .int .i64 (m : Int)] w fun e w' => e = .returned (.int .i64 (m : Int)) ∧ Below w.heap.size w w' := by
  refine (markOutS2 w 0 none 0 0 m (fun _ => undef) (fun i hi => by omega) h0 (by omega)).mono ?_
  rintro e w' ⟨h1, _, h3⟩
  exact ⟨h1, h3.below (Nat.le_refl _) (fun b _ h => by have := h.1; omega)⟩

set_option maxRecDepth 100000 in
set_option maxHeartbeats 4000000 in
theorem markHostS (w : World) (B : Nat) (a : Option Addr) (n cap k : Nat) (f : Nat → Value) (S : Wr w B a (n * 16) f) (hf : ∀ j, j < n → f (j * 16 + 14) = .slice none 0 0) (hn : n ≤ 1048576) (hk : 0 < k) (hr : k % 3 = 2) (hb : k + n * 15 ≤ 1048576) :
    Calls Tryz.prog 56 #[.slice a n cap, .int .i64 (k : Int)] w fun e w' => e = .returned (.int .i64 ((k + n * 15 : Nat) : Int)) ∧ Wr w' B a (n * 16) (mh k) ∧ Kept (foot a (n * 16)) w w' := by
  have HS := hid S
  have HF := hid hf
  have HR := hid hr
  have HK0 := hid hk
  have HB0 := hid hb
  clear S hf hr hk hb
  go_enter Tryz.func56, Tryz.ntmps56
  go_wp2
  go_loopw [1, 5] (fun x i wr => ∃ j : Nat, j ≤ n ∧ i = .int .i64 (j : Int) ∧ x = .int .i64 ((k + j * 15 : Nat) : Int) ∧ Hid (Wr wr B a (n * 16) (mhTo f k j 0)) ∧ Hid (Kept (foot a (n * 16)) w wr)) (fun _ i _ => n - (intOf i).toNat)
  case atStart => exact ⟨0, Nat.zero_le _, rfl, rfl, HS.out.congr (fun i _ => by simp [mhTo]), Kept.refl _ _⟩
  case round =>
    obtain ⟨j, hj, rfl, rfl, HW, HK⟩ := hrel
    by_cases hlt : j < n
    · obtain ⟨b, off, rfl, hB, _⟩ := HW.out (j * 16) (by omega)
      have HKB : Hid (k + j * 15 + 15 ≤ 1048576) := by have := HB0.out; show k + j * 15 + 15 ≤ 1048576; omega
      obtain ⟨m0, hm0⟩ : ∃ m0 : Nat, m0 = k + j * 15 := ⟨_, rfl⟩
      rw [← hm0]
      have HM0 := hid hm0
      clear hm0
      obtain ⟨w0, hw0⟩ : ∃ w0, w0 = w := ⟨_, rfl⟩
      rw [← hw0] at HK
      go_upto_region 4 with fail
      refine region_put (val := fun i => [.slice (some ⟨b, off, none⟩) n cap, .int .i64 (j : Int), .int .i64 (m0 : Int), .pointer (some ⟨b, off + j * 16, none⟩), .pointer (some ⟨b, off + j * 16, none⟩), undef].getD i undef) (sp := fun i => (([none, none, none, none, none, some (fun _ => True)] : List (Option (Value → Prop))).getD i none).map fun p v _ => p v) false (by kernel_rfl) (by kernel_rfl) [some 12, some 13, some 14, some 15, some 16, none] (by kernel_rfl) 5 4 2 rfl rfl 3 _ _ rfl rfl rfl (by kernel_rfl) (by kernel_rfl) (by kernel_rfl) b (off + j * 16) (.int .i64 (m0 : Int)) rfl rfl rfl rfl rfl sp_still (fun w hb => run_storeVar_one w _ _ _ _ rfl rfl ⟨_, (Wr.cellH (o := off + j * 16) (Wr.below HW.out hb) (j * 16 + 0) (by omega) (by omega)).1⟩ (Wr.cellH (o := off + j * 16) (Wr.below HW.out hb) (j * 16 + 0) (by omega) (by omega)).2 (by kernel_rfl)) ?_ (fun v w hb hG => ?_)
      · refine ⟨.inr (gVal rfl (.inl ⟨rfl, rfl⟩) rfl (fun Lb v act wy K => by
         have e1 : act.eval (.tmp 0) = .slice (some ⟨b, off, none⟩) n cap := (K.off (x := .tmp 0) (by kernel_rfl)).trans rfl
         exact run_move _ rfl e1)), ?_⟩
        refine ⟨.inr (gVal rfl (.inl ⟨rfl, rfl⟩) rfl (fun Lb v act wy K => by
         have e1 : act.eval (.tmp 5) = .int .i64 (j : Int) := (K.off (x := .tmp 5) (by kernel_rfl)).trans rfl
         exact run_move _ rfl e1)), ?_⟩
        refine ⟨.inr (gVal rfl (.inl ⟨rfl, rfl⟩) rfl (fun Lb v act wy K => by
         have e1 : act.eval (.tmp 1) = .int .i64 (m0 : Int) := (K.off (x := .tmp 1) (by kernel_rfl)).trans rfl
         exact run_move _ rfl e1)), ?_⟩
        refine ⟨.inr (gVal rfl (.inl ⟨rfl, rfl⟩) rfl (fun Lb v act wy K => by
         have e1 : act.eval (.tmp 12) = .slice (some ⟨b, off, none⟩) n cap := K.at_val 0 (by kernel_rfl) (by kernel_rfl) rfl
         have e2 : act.eval (.tmp 13) = .int .i64 (j : Int) := K.at_val 1 (by kernel_rfl) (by kernel_rfl) rfl
         show (execOp act.eval _).run Tryz.prog wy = .ok (.value (.pointer (some ⟨b, off + j * 16, none⟩))) wy
         generalize act.eval = ρ at e1 e2 ⊢
         unfold execOp
         simp [go_sem, e1, e2, hlt])), ?_⟩
        refine ⟨.inr (gVal rfl (.inl ⟨rfl, rfl⟩) rfl (fun Lb v act wy K => by
         have e1 : act.eval (.tmp 15) = .pointer (some ⟨b, off + j * 16, none⟩) := K.at_val 3 (by kernel_rfl) (by kernel_rfl) rfl
         show (execOp act.eval _).run Tryz.prog wy = .ok (.value (.pointer (some ⟨b, off + j * 16, none⟩))) wy
         generalize act.eval = ρ at e1 ⊢
         unfold execOp
         simp [go_sem, e1])), ?_⟩
        refine ⟨.inl rfl, ?_⟩
        exact trivial
      obtain ⟨w1x, hw_, HW_, HK_⟩ : ∃ w1x, w.setCell ⟨b, off + j * 16, none⟩ (.int .i64 (m0 : Int)) = w1x ∧ Hid (Wr w1x B (some ⟨b, off, none⟩) (n * 16) (mhTo f k j 1)) ∧ Hid (Kept (foot (some ⟨b, off, none⟩) (n * 16)) w0 w1x) := ⟨_, rfl, Wr.setAtH (Wr.below HW.out hb) (j * 16 + 0) (by omega) (by omega) _ (fun i => mhTo_set f k j 0 _ (by rw [mh_at k j 0 (by omega), ← HM0.out]; rfl) i), kept_more (HK.out.trans (Kept.of_below (S := fun _ => False) hb)) (by omega)⟩
      simp only [putsAll, Act.put, List.setIfInBounds_toArray, List.set_cons_zero, List.set_cons_succ]
      rw [hw_]
      clear hw_ hG hb
      replace HW := HW_
      replace HK := HK_
      clear HW_ HK_
      go_upto_region 5 with fail
      obtain ⟨m1, hm1⟩ : ∃ q : Nat, q = m0 + 1 := ⟨_, rfl⟩
      have HM1 : Hid (m1 = m0 + 1) := hm1
      have hi : Hid (IntKind.i64.wrap ((m0 : Int) + 1) = (m1 : Int)) := by have := HM0.out; have := HM1.out; have := HKB.out; show IntKind.i64.wrap _ = _; rw [wrapI _ (by omega)]; omega
      clear hm1
      refine region_inc rfl rfl rfl rfl _ _ _ _ _ rfl rfl rfl (m0 : Int) (m1 : Int) (by kernel_rfl) (by kernel_rfl) (fun ρ h1 h2 => by unfold execOp; simp [go_sem, h1, h2, hi.out]) (by kernel_rfl) ?_
      simp only [Act.put, List.setIfInBounds_toArray, List.set_cons_zero, List.set_cons_succ]
      clear hi
      go_upto_region 6 with fail
      refine region_put (val := fun i => [.slice (some ⟨b, off, none⟩) n cap, .int .i64 (j : Int), .int .i64 (m1 : Int), .pointer (some ⟨b, off + j * 16, none⟩), .pointer (some ⟨b, off + j * 16 + 1, none⟩), undef].getD i undef) (sp := fun i => (([none, none, none, none, none, some (fun _ => True)] : List (Option (Value → Prop))).getD i none).map fun p v _ => p v) false (by kernel_rfl) (by kernel_rfl) [some 19, some 20, some 21, some 22, some 23, none] (by kernel_rfl) 5 4 2 rfl rfl 3 _ _ rfl rfl rfl (by kernel_rfl) (by kernel_rfl) (by kernel_rfl) b (off + j * 16 + 1) (.int .i64 (m1 : Int)) rfl rfl rfl rfl rfl sp_still (fun w hb => run_storeVar_one w _ _ _ _ rfl rfl ⟨_, (Wr.cellH (o := off + j * 16 + 1) (Wr.below HW.out hb) (j * 16 + 1) (by omega) (by omega)).1⟩ (Wr.cellH (o := off + j * 16 + 1) (Wr.below HW.out hb) (j * 16 + 1) (by omega) (by omega)).2 (by kernel_rfl)) ?_ (fun v w hb hG => ?_)
      · refine ⟨.inr (gVal rfl (.inl ⟨rfl, rfl⟩) rfl (fun Lb v act wy K => by
         have e1 : act.eval (.tmp 0) = .slice (some ⟨b, off, none⟩) n cap := (K.off (x := .tmp 0) (by kernel_rfl)).trans rfl
         exact run_move _ rfl e1)), ?_⟩
        refine ⟨.inr (gVal rfl (.inl ⟨rfl, rfl⟩) rfl (fun Lb v act wy K => by
         have e1 : act.eval (.tmp 5) = .int .i64 (j : Int) := (K.off (x := .tmp 5) (by kernel_rfl)).trans rfl
         exact run_move _ rfl e1)), ?_⟩
        refine ⟨.inr (gVal rfl (.inl ⟨rfl, rfl⟩) rfl (fun Lb v act wy K => by
         have e1 : act.eval (.tmp 1) = .int .i64 (m1 : Int) := (K.off (x := .tmp 1) (by kernel_rfl)).trans rfl
         exact run_move _ rfl e1)), ?_⟩
        refine ⟨.inr (gVal rfl (.inl ⟨rfl, rfl⟩) rfl (fun Lb v act wy K => by
         have e1 : act.eval (.tmp 19) = .slice (some ⟨b, off, none⟩) n cap := K.at_val 0 (by kernel_rfl) (by kernel_rfl) rfl
         have e2 : act.eval (.tmp 20) = .int .i64 (j : Int) := K.at_val 1 (by kernel_rfl) (by kernel_rfl) rfl
         show (execOp act.eval _).run Tryz.prog wy = .ok (.value (.pointer (some ⟨b, off + j * 16, none⟩))) wy
         generalize act.eval = ρ at e1 e2 ⊢
         unfold execOp
         simp [go_sem, e1, e2, hlt])), ?_⟩
        refine ⟨.inr (gVal rfl (.inl ⟨rfl, rfl⟩) rfl (fun Lb v act wy K => by
         have e1 : act.eval (.tmp 22) = .pointer (some ⟨b, off + j * 16, none⟩) := K.at_val 3 (by kernel_rfl) (by kernel_rfl) rfl
         show (execOp act.eval _).run Tryz.prog wy = .ok (.value (.pointer (some ⟨b, off + j * 16 + 1, none⟩))) wy
         generalize act.eval = ρ at e1 ⊢
         unfold execOp
         simp [go_sem, e1])), ?_⟩
        refine ⟨.inl rfl, ?_⟩
        exact trivial
      obtain ⟨w2x, hw_, HW_, HK_⟩ : ∃ w2x, w.setCell ⟨b, off + j * 16 + 1, none⟩ (.int .i64 (m1 : Int)) = w2x ∧ Hid (Wr w2x B (some ⟨b, off, none⟩) (n * 16) (mhTo f k j 2)) ∧ Hid (Kept (foot (some ⟨b, off, none⟩) (n * 16)) w0 w2x) := ⟨_, rfl, Wr.setAtH (Wr.below HW.out hb) (j * 16 + 1) (by omega) (by omega) _ (fun i => mhTo_set f k j 1 _ (by rw [mh_at k j 1 (by omega), ← HM0.out]; rw [HM1.out]; rfl) i), kept_more (HK.out.trans (Kept.of_below (S := fun _ => False) hb)) (by omega)⟩
      simp only [putsAll, Act.put, List.setIfInBounds_toArray, List.set_cons_zero, List.set_cons_succ]
      rw [hw_]
      clear hw_ hG hb
      replace HW := HW_
      replace HK := HK_
      clear HW_ HK_
      go_upto_region 7 with fail
      obtain ⟨m2, hm2⟩ : ∃ q : Nat, q = m1 + 1 := ⟨_, rfl⟩
      have HM2 : Hid (m2 = m0 + 2) := by have := HM1.out; show m2 = m0 + 2; omega
      have hi : Hid (IntKind.i64.wrap ((m1 : Int) + 1) = (m2 : Int)) := by have := HM0.out; have := HM1.out; have := HKB.out; show IntKind.i64.wrap _ = _; rw [wrapI _ (by omega)]; omega
      clear hm2
      refine region_inc rfl rfl rfl rfl _ _ _ _ _ rfl rfl rfl (m1 : Int) (m2 : Int) (by kernel_rfl) (by kernel_rfl) (fun ρ h1 h2 => by unfold execOp; simp [go_sem, h1, h2, hi.out]) (by kernel_rfl) ?_
      simp only [Act.put, List.setIfInBounds_toArray, List.set_cons_zero, List.set_cons_succ]
      clear hi
      go_upto_region 8 with fail
      have hq : Hid (Int.tmod (m2 : Int) 3 = 1) := tmod3 m2 1 (by have := HM2.out; have := HM0.out; have := HR.out; omega)
      refine region_put (val := fun i => [.slice (some ⟨b, off, none⟩) n cap, .int .i64 (j : Int), .int .i64 (m2 : Int), .int .i64 1, .bool false, .pointer (some ⟨b, off + j * 16, none⟩), .pointer (some ⟨b, off + j * 16 + 2, none⟩), undef].getD i undef) (sp := fun i => (([none, none, none, none, none, none, none, some (fun _ => True)] : List (Option (Value → Prop))).getD i none).map fun p v _ => p v) false (by kernel_rfl) (by kernel_rfl) [some 26, some 27, some 28, some 29, some 30, some 31, some 32, none] (by kernel_rfl) 7 6 4 rfl rfl 4 _ _ rfl rfl rfl (by kernel_rfl) (by kernel_rfl) (by kernel_rfl) b (off + j * 16 + 2) (.bool false) rfl rfl rfl rfl rfl sp_still (fun w hb => run_storeVar_one w _ _ _ _ rfl rfl ⟨_, (Wr.cellH (o := off + j * 16 + 2) (Wr.below HW.out hb) (j * 16 + 2) (by omega) (by omega)).1⟩ (Wr.cellH (o := off + j * 16 + 2) (Wr.below HW.out hb) (j * 16 + 2) (by omega) (by omega)).2 (by kernel_rfl)) ?_ (fun v w hb hG => ?_)
      · refine ⟨.inr (gVal rfl (.inl ⟨rfl, rfl⟩) rfl (fun Lb v act wy K => by
         have e1 : act.eval (.tmp 0) = .slice (some ⟨b, off, none⟩) n cap := (K.off (x := .tmp 0) (by kernel_rfl)).trans rfl
         exact run_move _ rfl e1)), ?_⟩
        refine ⟨.inr (gVal rfl (.inl ⟨rfl, rfl⟩) rfl (fun Lb v act wy K => by
         have e1 : act.eval (.tmp 5) = .int .i64 (j : Int) := (K.off (x := .tmp 5) (by kernel_rfl)).trans rfl
         exact run_move _ rfl e1)), ?_⟩
        refine ⟨.inr (gVal rfl (.inl ⟨rfl, rfl⟩) rfl (fun Lb v act wy K => by
         have e1 : act.eval (.tmp 1) = .int .i64 (m2 : Int) := (K.off (x := .tmp 1) (by kernel_rfl)).trans rfl
         exact run_move _ rfl e1)), ?_⟩
        refine ⟨.inr (gVal rfl (.inl ⟨rfl, rfl⟩) rfl (fun Lb v act wy K => by
         have e1 : act.eval (.tmp 28) = .int .i64 (m2 : Int) := K.at_val 2 (by kernel_rfl) (by kernel_rfl) rfl
         have ec : act.eval (.const (.int .i64 3)) = .int .i64 3 := rfl
         show (execOp act.eval _).run Tryz.prog wy = .ok (.value (.int .i64 1)) wy
         generalize act.eval = ρ at e1 ec ⊢
         unfold execOp
         simp [go_sem, e1, ec, hq.out])), ?_⟩
        refine ⟨.inr (gVal rfl (.inl ⟨rfl, rfl⟩) rfl (fun Lb v act wy K => by
         have e1 : act.eval (.tmp 29) = .int .i64 1 := K.at_val 3 (by kernel_rfl) (by kernel_rfl) rfl
         have ec : act.eval (.const (.int .i64 0)) = .int .i64 0 := rfl
         show (execOp act.eval _).run Tryz.prog wy = .ok (.value (.bool false)) wy
         generalize act.eval = ρ at e1 ec ⊢
         unfold execOp
         simp [go_sem, e1, ec])), ?_⟩
        refine ⟨.inr (gVal rfl (.inl ⟨rfl, rfl⟩) rfl (fun Lb v act wy K => by
         have e1 : act.eval (.tmp 26) = .slice (some ⟨b, off, none⟩) n cap := K.at_val 0 (by kernel_rfl) (by kernel_rfl) rfl
         have e2 : act.eval (.tmp 27) = .int .i64 (j : Int) := K.at_val 1 (by kernel_rfl) (by kernel_rfl) rfl
         show (execOp act.eval _).run Tryz.prog wy = .ok (.value (.pointer (some ⟨b, off + j * 16, none⟩))) wy
         generalize act.eval = ρ at e1 e2 ⊢
         unfold execOp
         simp [go_sem, e1, e2, hlt])), ?_⟩
        refine ⟨.inr (gVal rfl (.inl ⟨rfl, rfl⟩) rfl (fun Lb v act wy K => by
         have e1 : act.eval (.tmp 31) = .pointer (some ⟨b, off + j * 16, none⟩) := K.at_val 5 (by kernel_rfl) (by kernel_rfl) rfl
         show (execOp act.eval _).run Tryz.prog wy = .ok (.value (.pointer (some ⟨b, off + j * 16 + 2, none⟩))) wy
         generalize act.eval = ρ at e1 ⊢
         unfold execOp
         simp [go_sem, e1])), ?_⟩
        refine ⟨.inl rfl, ?_⟩
        exact trivial
      obtain ⟨w3x, hw_, HW_, HK_⟩ : ∃ w3x, w.setCell ⟨b, off + j * 16 + 2, none⟩ (.bool false) = w3x ∧ Hid (Wr w3x B (some ⟨b, off, none⟩) (n * 16) (mhTo f k j 3)) ∧ Hid (Kept (foot (some ⟨b, off, none⟩) (n * 16)) w0 w3x) := ⟨_, rfl, Wr.setAtH (Wr.below HW.out hb) (j * 16 + 2) (by omega) (by omega) _ (fun i => mhTo_set f k j 2 _ (by rw [mh_at k j 2 (by omega), ← HM0.out]; rfl) i), kept_more (HK.out.trans (Kept.of_below (S := fun _ => False) hb)) (by omega)⟩
      simp only [putsAll, Act.put, List.setIfInBounds_toArray, List.set_cons_zero, List.set_cons_succ]
      rw [hw_]
      clear hw_ hG hb
      replace HW := HW_
      replace HK := HK_
      clear HW_ HK_
      clear hq
      go_upto_region 9 with fail
      obtain ⟨m3, hm3⟩ : ∃ q : Nat, q = m2 + 1 := ⟨_, rfl⟩
      have HM3 : Hid (m3 = m0 + 3) := by have := HM2.out; show m3 = m0 + 3; omega
      have hi : Hid (IntKind.i64.wrap ((m2 : Int) + 1) = (m3 : Int)) := by have := HM0.out; have := HM2.out; have := HKB.out; show IntKind.i64.wrap _ = _; rw [wrapI _ (by omega)]; omega
      clear hm3
      refine region_inc rfl rfl rfl rfl _ _ _ _ _ rfl rfl rfl (m2 : Int) (m3 : Int) (by kernel_rfl) (by kernel_rfl) (fun ρ h1 h2 => by unfold execOp; simp [go_sem, h1, h2, hi.out]) (by kernel_rfl) ?_
      simp only [Act.put, List.setIfInBounds_toArray, List.set_cons_zero, List.set_cons_succ]
      clear hi
      go_upto_region 10 with fail
      have hq : Hid (Int.tmod (m3 : Int) 3 = 2) := tmod3 m3 2 (by have := HM3.out; have := HM0.out; have := HR.out; omega)
      refine region_put (val := fun i => [.slice (some ⟨b, off, none⟩) n cap, .int .i64 (j : Int), .int .i64 (m3 : Int), .int .i64 2, .bool false, .pointer (some ⟨b, off + j * 16, none⟩), .pointer (some ⟨b, off + j * 16 + 3, none⟩), undef].getD i undef) (sp := fun i => (([none, none, none, none, none, none, none, some (fun _ => True)] : List (Option (Value → Prop))).getD i none).map fun p v _ => p v) false (by kernel_rfl) (by kernel_rfl) [some 35, some 36, some 37, some 38, some 39, some 40, some 41, none] (by kernel_rfl) 7 6 4 rfl rfl 4 _ _ rfl rfl rfl (by kernel_rfl) (by kernel_rfl) (by kernel_rfl) b (off + j * 16 + 3) (.bool false) rfl rfl rfl rfl rfl sp_still (fun w hb => run_storeVar_one w _ _ _ _ rfl rfl ⟨_, (Wr.cellH (o := off + j * 16 + 3) (Wr.below HW.out hb) (j * 16 + 3) (by omega) (by omega)).1⟩ (Wr.cellH (o := off + j * 16 + 3) (Wr.below HW.out hb) (j * 16 + 3) (by omega) (by omega)).2 (by kernel_rfl)) ?_ (fun v w hb hG => ?_)
      · refine ⟨.inr (gVal rfl (.inl ⟨rfl, rfl⟩) rfl (fun Lb v act wy K => by
         have e1 : act.eval (.tmp 0) = .slice (some ⟨b, off, none⟩) n cap := (K.off (x := .tmp 0) (by kernel_rfl)).trans rfl
         exact run_move _ rfl e1)), ?_⟩
        refine ⟨.inr (gVal rfl (.inl ⟨rfl, rfl⟩) rfl (fun Lb v act wy K => by
         have e1 : act.eval (.tmp 5) = .int .i64 (j : Int) := (K.off (x := .tmp 5) (by kernel_rfl)).trans rfl
         exact run_move _ rfl e1)), ?_⟩
        refine ⟨.inr (gVal rfl (.inl ⟨rfl, rfl⟩) rfl (fun Lb v act wy K => by
         have e1 : act.eval (.tmp 1) = .int .i64 (m3 : Int) := (K.off (x := .tmp 1) (by kernel_rfl)).trans rfl
         exact run_move _ rfl e1)), ?_⟩
        refine ⟨.inr (gVal rfl (.inl ⟨rfl, rfl⟩) rfl (fun Lb v act wy K => by
         have e1 : act.eval (.tmp 37) = .int .i64 (m3 : Int) := K.at_val 2 (by kernel_rfl) (by kernel_rfl) rfl
         have ec : act.eval (.const (.int .i64 3)) = .int .i64 3 := rfl
         show (execOp act.eval _).run Tryz.prog wy = .ok (.value (.int .i64 2)) wy
         generalize act.eval = ρ at e1 ec ⊢
         unfold execOp
         simp [go_sem, e1, ec, hq.out])), ?_⟩
        refine ⟨.inr (gVal rfl (.inl ⟨rfl, rfl⟩) rfl (fun Lb v act wy K => by
         have e1 : act.eval (.tmp 38) = .int .i64 2 := K.at_val 3 (by kernel_rfl) (by kernel_rfl) rfl
         have ec : act.eval (.const (.int .i64 0)) = .int .i64 0 := rfl
         show (execOp act.eval _).run Tryz.prog wy = .ok (.value (.bool false)) wy
         generalize act.eval = ρ at e1 ec ⊢
         unfold execOp
         simp [go_sem, e1, ec])), ?_⟩
        refine ⟨.inr (gVal rfl (.inl ⟨rfl, rfl⟩) rfl (fun Lb v act wy K => by
         have e1 : act.eval (.tmp 35) = .slice (some ⟨b, off, none⟩) n cap := K.at_val 0 (by kernel_rfl) (by kernel_rfl) rfl
         have e2 : act.eval (.tmp 36) = .int .i64 (j : Int) := K.at_val 1 (by kernel_rfl) (by kernel_rfl) rfl
         show (execOp act.eval _).run Tryz.prog wy = .ok (.value (.pointer (some ⟨b, off + j * 16, none⟩))) wy
         generalize act.eval = ρ at e1 e2 ⊢
         unfold execOp
         simp [go_sem, e1, e2, hlt])), ?_⟩
        refine ⟨.inr (gVal rfl (.inl ⟨rfl, rfl⟩) rfl (fun Lb v act wy K => by
         have e1 : act.eval (.tmp 40) = .pointer (some ⟨b, off + j * 16, none⟩) := K.at_val 5 (by kernel_rfl) (by kernel_rfl) rfl
         show (execOp act.eval _).run Tryz.prog wy = .ok (.value (.pointer (some ⟨b, off + j * 16 + 3, none⟩))) wy
         generalize act.eval = ρ at e1 ⊢
         unfold execOp
         simp [go_sem, e1])), ?_⟩
        refine ⟨.inl rfl, ?_⟩
        exact trivial
      obtain ⟨w4x, hw_, HW_, HK_⟩ : ∃ w4x, w.setCell ⟨b, off + j * 16 + 3, none⟩ (.bool false) = w4x ∧ Hid (Wr w4x B (some ⟨b, off, none⟩) (n * 16) (mhTo f k j 4)) ∧ Hid (Kept (foot (some ⟨b, off, none⟩) (n * 16)) w0 w4x) := ⟨_, rfl, Wr.setAtH (Wr.below HW.out hb) (j * 16 + 3) (by omega) (by omega) _ (fun i => mhTo_set f k j 3 _ (by rw [mh_at k j 3 (by omega), ← HM0.out]; rfl) i), kept_more (HK.out.trans (Kept.of_below (S := fun _ => False) hb)) (by omega)⟩
      simp only [putsAll, Act.put, List.setIfInBounds_toArray, List.set_cons_zero, List.set_cons_succ]
      rw [hw_]
      clear hw_ hG hb
      replace HW := HW_
      replace HK := HK_
      clear HW_ HK_
      clear hq
      go_upto_region 11 with fail
      obtain ⟨m4, hm4⟩ : ∃ q : Nat, q = m3 + 1 := ⟨_, rfl⟩
      have HM4 : Hid (m4 = m0 + 4) := by have := HM3.out; show m4 = m0 + 4; omega
      have hi : Hid (IntKind.i64.wrap ((m3 : Int) + 1) = (m4 : Int)) := by have := HM0.out; have := HM3.out; have := HKB.out; show IntKind.i64.wrap _ = _; rw [wrapI _ (by omega)]; omega
      clear hm4
      refine region_inc rfl rfl rfl rfl _ _ _ _ _ rfl rfl rfl (m3 : Int) (m4 : Int) (by kernel_rfl) (by kernel_rfl) (fun ρ h1 h2 => by unfold execOp; simp [go_sem, h1, h2, hi.out]) (by kernel_rfl) ?_
      simp only [Act.put, List.setIfInBounds_toArray, List.set_cons_zero, List.set_cons_succ]
      clear hi
      go_upto_region 12 with fail
      have hq : Hid (Int.tmod (m4 : Int) 3 = 0) := tmod3 m4 0 (by have := HM4.out; have := HM0.out; have := HR.out; omega)
      refine region_put (val := fun i => [.slice (some ⟨b, off, none⟩) n cap, .int .i64 (j : Int), .int .i64 (m4 : Int), .int .i64 0, .bool true, .pointer (some ⟨b, off + j * 16, none⟩), .pointer (some ⟨b, off + j * 16 + 4, none⟩), undef].getD i undef) (sp := fun i => (([none, none, none, none, none, none, none, some (fun _ => True)] : List (Option (Value → Prop))).getD i none).map fun p v _ => p v) false (by kernel_rfl) (by kernel_rfl) [some 44, some 45, some 46, some 47, some 48, some 49, some 50, none] (by kernel_rfl) 7 6 4 rfl rfl 4 _ _ rfl rfl rfl (by kernel_rfl) (by kernel_rfl) (by kernel_rfl) b (off + j * 16 + 4) (.bool true) rfl rfl rfl rfl rfl sp_still (fun w hb => run_storeVar_one w _ _ _ _ rfl rfl ⟨_, (Wr.cellH (o := off + j * 16 + 4) (Wr.below HW.out hb) (j * 16 + 4) (by omega) (by omega)).1⟩ (Wr.cellH (o := off + j * 16 + 4) (Wr.below HW.out hb) (j * 16 + 4) (by omega) (by omega)).2 (by kernel_rfl)) ?_ (fun v w hb hG => ?_)
      · refine ⟨.inr (gVal rfl (.inl ⟨rfl, rfl⟩) rfl (fun Lb v act wy K => by
         have e1 : act.eval (.tmp 0) = .slice (some ⟨b, off, none⟩) n cap := (K.off (x := .tmp 0) (by kernel_rfl)).trans rfl
         exact run_move _ rfl e1)), ?_⟩
        refine ⟨.inr (gVal rfl (.inl ⟨rfl, rfl⟩) rfl (fun Lb v act wy K => by
         have e1 : act.eval (.tmp 5) = .int .i64 (j : Int) := (K.off (x := .tmp 5) (by kernel_rfl)).trans rfl
         exact run_move _ rfl e1)), ?_⟩
        refine ⟨.inr (gVal rfl (.inl ⟨rfl, rfl⟩) rfl (fun Lb v act wy K => by
         have e1 : act.eval (.tmp 1) = .int .i64 (m4 : Int) := (K.off (x := .tmp 1) (by kernel_rfl)).trans rfl
         exact run_move _ rfl e1)), ?_⟩
        refine ⟨.inr (gVal rfl (.inl ⟨rfl, rfl⟩) rfl (fun Lb v act wy K => by
         have e1 : act.eval (.tmp 46) = .int .i64 (m4 : Int) := K.at_val 2 (by kernel_rfl) (by kernel_rfl) rfl
         have ec : act.eval (.const (.int .i64 3)) = .int .i64 3 := rfl
         show (execOp act.eval _).run Tryz.prog wy = .ok (.value (.int .i64 0)) wy
         generalize act.eval = ρ at e1 ec ⊢
         unfold execOp
         simp [go_sem, e1, ec, hq.out])), ?_⟩
        refine ⟨.inr (gVal rfl (.inl ⟨rfl, rfl⟩) rfl (fun Lb v act wy K => by
         have e1 : act.eval (.tmp 47) = .int .i64 0 := K.at_val 3 (by kernel_rfl) (by kernel_rfl) rfl
         have ec : act.eval (.const (.int .i64 0)) = .int .i64 0 := rfl
         show (execOp act.eval _).run Tryz.prog wy = .ok (.value (.bool true)) wy
         generalize act.eval = ρ at e1 ec ⊢
         unfold execOp
         simp [go_sem, e1, ec])), ?_⟩
        refine ⟨.inr (gVal rfl (.inl ⟨rfl, rfl⟩) rfl (fun Lb v act wy K => by
         have e1 : act.eval (.tmp 44) = .slice (some ⟨b, off, none⟩) n cap := K.at_val 0 (by kernel_rfl) (by kernel_rfl) rfl
         have e2 : act.eval (.tmp 45) = .int .i64 (j : Int) := K.at_val 1 (by kernel_rfl) (by kernel_rfl) rfl
         show (execOp act.eval _).run Tryz.prog wy = .ok (.value (.pointer (some ⟨b, off + j * 16, none⟩))) wy
         generalize act.eval = ρ at e1 e2 ⊢
         unfold execOp
         simp [go_sem, e1, e2, hlt])), ?_⟩
        refine ⟨.inr (gVal rfl (.inl ⟨rfl, rfl⟩) rfl (fun Lb v act wy K => by
         have e1 : act.eval (.tmp 49) = .pointer (some ⟨b, off + j * 16, none⟩) := K.at_val 5 (by kernel_rfl) (by kernel_rfl) rfl
         show (execOp act.eval _).run Tryz.prog wy = .ok (.value (.pointer (some ⟨b, off + j * 16 + 4, none⟩))) wy
         generalize act.eval = ρ at e1 ⊢
         unfold execOp
         simp [go_sem, e1])), ?_⟩
        refine ⟨.inl rfl, ?_⟩
        exact trivial
      obtain ⟨w5x, hw_, HW_, HK_⟩ : ∃ w5x, w.setCell ⟨b, off + j * 16 + 4, none⟩ (.bool true) = w5x ∧ Hid (Wr w5x B (some ⟨b, off, none⟩) (n * 16) (mhTo f k j 5)) ∧ Hid (Kept (foot (some ⟨b, off, none⟩) (n * 16)) w0 w5x) := ⟨_, rfl, Wr.setAtH (Wr.below HW.out hb) (j * 16 + 4) (by omega) (by omega) _ (fun i => mhTo_set f k j 4 _ (by rw [mh_at k j 4 (by omega), ← HM0.out]; rfl) i), kept_more (HK.out.trans (Kept.of_below (S := fun _ => False) hb)) (by omega)⟩
      simp only [putsAll, Act.put, List.setIfInBounds_toArray, List.set_cons_zero, List.set_cons_succ]
      rw [hw_]
      clear hw_ hG hb
      replace HW := HW_
      replace HK := HK_
      clear HW_ HK_
      clear hq
      go_upto_region 13 with fail
      obtain ⟨m5, hm5⟩ : ∃ q : Nat, q = m4 + 1 := ⟨_, rfl⟩
      have HM5 : Hid (m5 = m0 + 5) := by have := HM4.out; show m5 = m0 + 5; omega
      have hi : Hid (IntKind.i64.wrap ((m4 : Int) + 1) = (m5 : Int)) := by have := HM0.out; have := HM4.out; have := HKB.out; show IntKind.i64.wrap _ = _; rw [wrapI _ (by omega)]; omega
      clear hm5
      refine region_inc rfl rfl rfl rfl _ _ _ _ _ rfl rfl rfl (m4 : Int) (m5 : Int) (by kernel_rfl) (by kernel_rfl) (fun ρ h1 h2 => by unfold execOp; simp [go_sem, h1, h2, hi.out]) (by kernel_rfl) ?_
      simp only [Act.put, List.setIfInBounds_toArray, List.set_cons_zero, List.set_cons_succ]
      clear hi
      go_upto_region 14 with fail
      refine region_put (val := fun i => [.slice (some ⟨b, off, none⟩) n cap, .int .i64 (j : Int), .int .i64 (m5 : Int), .pointer (some ⟨b, off + j * 16, none⟩), .pointer (some ⟨b, off + j * 16 + 5, none⟩), .pointer (some ⟨b, off + j * 16 + 5, none⟩), undef].getD i undef) (sp := fun i => (([none, none, none, none, none, none, some (fun _ => True)] : List (Option (Value → Prop))).getD i none).map fun p v _ => p v) false (by kernel_rfl) (by kernel_rfl) [some 53, some 54, some 55, some 56, some 57, some 58, none] (by kernel_rfl) 6 5 2 rfl rfl 3 _ _ rfl rfl rfl (by kernel_rfl) (by kernel_rfl) (by kernel_rfl) b (off + j * 16 + 5) (.int .i64 (m5 : Int)) rfl rfl rfl rfl rfl sp_still (fun w hb => run_storeVar_one w _ _ _ _ rfl rfl ⟨_, (Wr.cellH (o := off + j * 16 + 5) (Wr.below HW.out hb) (j * 16 + 5) (by omega) (by omega)).1⟩ (Wr.cellH (o := off + j * 16 + 5) (Wr.below HW.out hb) (j * 16 + 5) (by omega) (by omega)).2 (by kernel_rfl)) ?_ (fun v w hb hG => ?_)
      · refine ⟨.inr (gVal rfl (.inl ⟨rfl, rfl⟩) rfl (fun Lb v act wy K => by
         have e1 : act.eval (.tmp 0) = .slice (some ⟨b, off, none⟩) n cap := (K.off (x := .tmp 0) (by kernel_rfl)).trans rfl
         exact run_move _ rfl e1)), ?_⟩
        refine ⟨.inr (gVal rfl (.inl ⟨rfl, rfl⟩) rfl (fun Lb v act wy K => by
         have e1 : act.eval (.tmp 5) = .int .i64 (j : Int) := (K.off (x := .tmp 5) (by kernel_rfl)).trans rfl
         exact run_move _ rfl e1)), ?_⟩
        refine ⟨.inr (gVal rfl (.inl ⟨rfl, rfl⟩) rfl (fun Lb v act wy K => by
         have e1 : act.eval (.tmp 1) = .int .i64 (m5 : Int) := (K.off (x := .tmp 1) (by kernel_rfl)).trans rfl
         exact run_move _ rfl e1)), ?_⟩
        refine ⟨.inr (gVal rfl (.inl ⟨rfl, rfl⟩) rfl (fun Lb v act wy K => by
         have e1 : act.eval (.tmp 53) = .slice (some ⟨b, off, none⟩) n cap := K.at_val 0 (by kernel_rfl) (by kernel_rfl) rfl
         have e2 : act.eval (.tmp 54) = .int .i64 (j : Int) := K.at_val 1 (by kernel_rfl) (by kernel_rfl) rfl
         show (execOp act.eval _).run Tryz.prog wy = .ok (.value (.pointer (some ⟨b, off + j * 16, none⟩))) wy
         generalize act.eval = ρ at e1 e2 ⊢
         unfold execOp
         simp [go_sem, e1, e2, hlt])), ?_⟩
        refine ⟨.inr (gVal rfl (.inl ⟨rfl, rfl⟩) rfl (fun Lb v act wy K => by
         have e1 : act.eval (.tmp 56) = .pointer (some ⟨b, off + j * 16, none⟩) := K.at_val 3 (by kernel_rfl) (by kernel_rfl) rfl
         show (execOp act.eval _).run Tryz.prog wy = .ok (.value (.pointer (some ⟨b, off + j * 16 + 5, none⟩))) wy
         generalize act.eval = ρ at e1 ⊢
         unfold execOp
         simp [go_sem, e1])), ?_⟩
        refine ⟨.inr (gVal rfl (.inl ⟨rfl, rfl⟩) rfl (fun Lb v act wy K => by
         have e1 : act.eval (.tmp 57) = .pointer (some ⟨b, off + j * 16 + 5, none⟩) := K.at_val 4 (by kernel_rfl) (by kernel_rfl) rfl
         show (execOp act.eval _).run Tryz.prog wy = .ok (.value (.pointer (some ⟨b, off + j * 16 + 5, none⟩))) wy
         generalize act.eval = ρ at e1 ⊢
         unfold execOp
         simp [go_sem, e1])), ?_⟩
        refine ⟨.inl rfl, ?_⟩
        exact trivial
      obtain ⟨w6x, hw_, HW_, HK_⟩ : ∃ w6x, w.setCell ⟨b, off + j * 16 + 5, none⟩ (.int .i64 (m5 : Int)) = w6x ∧ Hid (Wr w6x B (some ⟨b, off, none⟩) (n * 16) (mhTo f k j 6)) ∧ Hid (Kept (foot (some ⟨b, off, none⟩) (n * 16)) w0 w6x) := ⟨_, rfl, Wr.setAtH (Wr.below HW.out hb) (j * 16 + 5) (by omega) (by omega) _ (fun i => mhTo_set f k j 5 _ (by rw [mh_at k j 5 (by omega), ← HM0.out]; rw [HM5.out]; rfl) i), kept_more (HK.out.trans (Kept.of_below (S := fun _ => False) hb)) (by omega)⟩
      simp only [putsAll, Act.put, List.setIfInBounds_toArray, List.set_cons_zero, List.set_cons_succ]
      rw [hw_]
      clear hw_ hG hb
      replace HW := HW_
      replace HK := HK_
      clear HW_ HK_
      go_upto_region 15 with fail
      obtain ⟨m6, hm6⟩ : ∃ q : Nat, q = m5 + 1 := ⟨_, rfl⟩
      have HM6 : Hid (m6 = m0 + 6) := by have := HM5.out; show m6 = m0 + 6; omega
      have hi : Hid (IntKind.i64.wrap ((m5 : Int) + 1) = (m6 : Int)) := by have := HM0.out; have := HM5.out; have := HKB.out; show IntKind.i64.wrap _ = _; rw [wrapI _ (by omega)]; omega
      clear hm6
      refine region_inc rfl rfl rfl rfl _ _ _ _ _ rfl rfl rfl (m5 : Int) (m6 : Int) (by kernel_rfl) (by kernel_rfl) (fun ρ h1 h2 => by unfold execOp; simp [go_sem, h1, h2, hi.out]) (by kernel_rfl) ?_
      simp only [Act.put, List.setIfInBounds_toArray, List.set_cons_zero, List.set_cons_succ]
      clear hi
      go_upto_region 16 with fail
      refine region_put (val := fun i => [.slice (some ⟨b, off, none⟩) n cap, .int .i64 (j : Int), .int .i64 (m6 : Int), .pointer (some ⟨b, off + j * 16, none⟩), .pointer (some ⟨b, off + j * 16 + 5, none⟩), .pointer (some ⟨b, off + j * 16 + 5 + 1, none⟩), undef].getD i undef) (sp := fun i => (([none, none, none, none, none, none, some (fun _ => True)] : List (Option (Value → Prop))).getD i none).map fun p v _ => p v) false (by kernel_rfl) (by kernel_rfl) [some 61, some 62, some 63, some 64, some 65, some 66, none] (by kernel_rfl) 6 5 2 rfl rfl 3 _ _ rfl rfl rfl (by kernel_rfl) (by kernel_rfl) (by kernel_rfl) b (off + j * 16 + 5 + 1) (.int .i64 (m6 : Int)) rfl rfl rfl rfl rfl sp_still (fun w hb => run_storeVar_one w _ _ _ _ rfl rfl ⟨_, (Wr.cellH (o := off + j * 16 + 5 + 1) (Wr.below HW.out hb) (j * 16 + 6) (by omega) (by omega)).1⟩ (Wr.cellH (o := off + j * 16 + 5 + 1) (Wr.below HW.out hb) (j * 16 + 6) (by omega) (by omega)).2 (by kernel_rfl)) ?_ (fun v w hb hG => ?_)
      · refine ⟨.inr (gVal rfl (.inl ⟨rfl, rfl⟩) rfl (fun Lb v act wy K => by
         have e1 : act.eval (.tmp 0) = .slice (some ⟨b, off, none⟩) n cap := (K.off (x := .tmp 0) (by kernel_rfl)).trans rfl
         exact run_move _ rfl e1)), ?_⟩
        refine ⟨.inr (gVal rfl (.inl ⟨rfl, rfl⟩) rfl (fun Lb v act wy K => by
         have e1 : act.eval (.tmp 5) = .int .i64 (j : Int) := (K.off (x := .tmp 5) (by kernel_rfl)).trans rfl
         exact run_move _ rfl e1)), ?_⟩
        refine ⟨.inr (gVal rfl (.inl ⟨rfl, rfl⟩) rfl (fun Lb v act wy K => by
         have e1 : act.eval (.tmp 1) = .int .i64 (m6 : Int) := (K.off (x := .tmp 1) (by kernel_rfl)).trans rfl
         exact run_move _ rfl e1)), ?_⟩
        refine ⟨.inr (gVal rfl (.inl ⟨rfl, rfl⟩) rfl (fun Lb v act wy K => by
         have e1 : act.eval (.tmp 61) = .slice (some ⟨b, off, none⟩) n cap := K.at_val 0 (by kernel_rfl) (by kernel_rfl) rfl
         have e2 : act.eval (.tmp 62) = .int .i64 (j : Int) := K.at_val 1 (by kernel_rfl) (by kernel_rfl) rfl
         show (execOp act.eval _).run Tryz.prog wy = .ok (.value (.pointer (some ⟨b, off + j * 16, none⟩))) wy
         generalize act.eval = ρ at e1 e2 ⊢
         unfold execOp
         simp [go_sem, e1, e2, hlt])), ?_⟩
        refine ⟨.inr (gVal rfl (.inl ⟨rfl, rfl⟩) rfl (fun Lb v act wy K => by
         have e1 : act.eval (.tmp 64) = .pointer (some ⟨b, off + j * 16, none⟩) := K.at_val 3 (by kernel_rfl) (by kernel_rfl) rfl
         show (execOp act.eval _).run Tryz.prog wy = .ok (.value (.pointer (some ⟨b, off + j * 16 + 5, none⟩))) wy
         generalize act.eval = ρ at e1 ⊢
         unfold execOp
         simp [go_sem, e1])), ?_⟩
        refine ⟨.inr (gVal rfl (.inl ⟨rfl, rfl⟩) rfl (fun Lb v act wy K => by
         have e1 : act.eval (.tmp 65) = .pointer (some ⟨b, off + j * 16 + 5, none⟩) := K.at_val 4 (by kernel_rfl) (by kernel_rfl) rfl
         show (execOp act.eval _).run Tryz.prog wy = .ok (.value (.pointer (some ⟨b, off + j * 16 + 5 + 1, none⟩))) wy
         generalize act.eval = ρ at e1 ⊢
         unfold execOp
         simp [go_sem, e1])), ?_⟩
        refine ⟨.inl rfl, ?_⟩
        exact trivial
      obtain ⟨w7x, hw_, HW_, HK_⟩ : ∃ w7x, w.setCell ⟨b, off + j * 16 + 5 + 1, none⟩ (.int .i64 (m6 : Int)) = w7x ∧ Hid (Wr w7x B (some ⟨b, off, none⟩) (n * 16) (mhTo f k j 7)) ∧ Hid (Kept (foot (some ⟨b, off, none⟩) (n * 16)) w0 w7x) := ⟨_, rfl, Wr.setAtH (Wr.below HW.out hb) (j * 16 + 6) (by omega) (by omega) _ (fun i => mhTo_set f k j 6 _ (by rw [mh_at k j 6 (by omega), ← HM0.out]; rw [HM6.out]; rfl) i), kept_more (HK.out.trans (Kept.of_below (S := fun _ => False) hb)) (by omega)⟩
      simp only [putsAll, Act.put, List.setIfInBounds_toArray, List.set_cons_zero, List.set_cons_succ]
      rw [hw_]
      clear hw_ hG hb
      replace HW := HW_
      replace HK := HK_
      clear HW_ HK_
      go_upto_region 17 with fail
      obtain ⟨m7, hm7⟩ : ∃ q : Nat, q = m6 + 1 := ⟨_, rfl⟩
      have HM7 : Hid (m7 = m0 + 7) := by have := HM6.out; show m7 = m0 + 7; omega
      have hi : Hid (IntKind.i64.wrap ((m6 : Int) + 1) = (m7 : Int)) := by have := HM0.out; have := HM6.out; have := HKB.out; show IntKind.i64.wrap _ = _; rw [wrapI _ (by omega)]; omega
      clear hm7
      refine region_inc rfl rfl rfl rfl _ _ _ _ _ rfl rfl rfl (m6 : Int) (m7 : Int) (by kernel_rfl) (by kernel_rfl) (fun ρ h1 h2 => by unfold execOp; simp [go_sem, h1, h2, hi.out]) (by kernel_rfl) ?_
      simp only [Act.put, List.setIfInBounds_toArray, List.set_cons_zero, List.set_cons_succ]
      clear hi
      go_upto_region 18 with fail
      refine region_put (val := fun i => [.slice (some ⟨b, off, none⟩) n cap, .int .i64 (j : Int), .int .i64 (m7 : Int), .pointer (some ⟨b, off + j * 16, none⟩), .pointer (some ⟨b, off + j * 16 + 5, none⟩), .pointer (some ⟨b, off + j * 16 + 5 + 2, none⟩), undef].getD i undef) (sp := fun i => (([none, none, none, none, none, none, some (fun _ => True)] : List (Option (Value → Prop))).getD i none).map fun p v _ => p v) false (by kernel_rfl) (by kernel_rfl) [some 69, some 70, some 71, some 72, some 73, some 74, none] (by kernel_rfl) 6 5 2 rfl rfl 3 _ _ rfl rfl rfl (by kernel_rfl) (by kernel_rfl) (by kernel_rfl) b (off + j * 16 + 5 + 2) (.int .i64 (m7 : Int)) rfl rfl rfl rfl rfl sp_still (fun w hb => run_storeVar_one w _ _ _ _ rfl rfl ⟨_, (Wr.cellH (o := off + j * 16 + 5 + 2) (Wr.below HW.out hb) (j * 16 + 7) (by omega) (by omega)).1⟩ (Wr.cellH (o := off + j * 16 + 5 + 2) (Wr.below HW.out hb) (j * 16 + 7) (by omega) (by omega)).2 (by kernel_rfl)) ?_ (fun v w hb hG => ?_)
      · refine ⟨.inr (gVal rfl (.inl ⟨rfl, rfl⟩) rfl (fun Lb v act wy K => by
         have e1 : act.eval (.tmp 0) = .slice (some ⟨b, off, none⟩) n cap := (K.off (x := .tmp 0) (by kernel_rfl)).trans rfl
         exact run_move _ rfl e1)), ?_⟩
        refine ⟨.inr (gVal rfl (.inl ⟨rfl, rfl⟩) rfl (fun Lb v act wy K => by
         have e1 : act.eval (.tmp 5) = .int .i64 (j : Int) := (K.off (x := .tmp 5) (by kernel_rfl)).trans rfl
         exact run_move _ rfl e1)), ?_⟩
        refine ⟨.inr (gVal rfl (.inl ⟨rfl, rfl⟩) rfl (fun Lb v act wy K => by
         have e1 : act.eval (.tmp 1) = .int .i64 (m7 : Int) := (K.off (x := .tmp 1) (by kernel_rfl)).trans rfl
         exact run_move _ rfl e1)), ?_⟩
        refine ⟨.inr (gVal rfl (.inl ⟨rfl, rfl⟩) rfl (fun Lb v act wy K => by
         have e1 : act.eval (.tmp 69) = .slice (some ⟨b, off, none⟩) n cap := K.at_val 0 (by kernel_rfl) (by kernel_rfl) rfl
         have e2 : act.eval (.tmp 70) = .int .i64 (j : Int) := K.at_val 1 (by kernel_rfl) (by kernel_rfl) rfl
         show (execOp act.eval _).run Tryz.prog wy = .ok (.value (.pointer (some ⟨b, off + j * 16, none⟩))) wy
         generalize act.eval = ρ at e1 e2 ⊢
         unfold execOp
         simp [go_sem, e1, e2, hlt])), ?_⟩
        refine ⟨.inr (gVal rfl (.inl ⟨rfl, rfl⟩) rfl (fun Lb v act wy K => by
         have e1 : act.eval (.tmp 72) = .pointer (some ⟨b, off + j * 16, none⟩) := K.at_val 3 (by kernel_rfl) (by kernel_rfl) rfl
         show (execOp act.eval _).run Tryz.prog wy = .ok (.value (.pointer (some ⟨b, off + j * 16 + 5, none⟩))) wy
         generalize act.eval = ρ at e1 ⊢
         unfold execOp
         simp [go_sem, e1])), ?_⟩
        refine ⟨.inr (gVal rfl (.inl ⟨rfl, rfl⟩) rfl (fun Lb v act wy K => by
         have e1 : act.eval (.tmp 73) = .pointer (some ⟨b, off + j * 16 + 5, none⟩) := K.at_val 4 (by kernel_rfl) (by kernel_rfl) rfl
         show (execOp act.eval _).run Tryz.prog wy = .ok (.value (.pointer (some ⟨b, off + j * 16 + 5 + 2, none⟩))) wy
         generalize act.eval = ρ at e1 ⊢
         unfold execOp
         simp [go_sem, e1])), ?_⟩
        refine ⟨.inl rfl, ?_⟩
        exact trivial
      obtain ⟨w8x, hw_, HW_, HK_⟩ : ∃ w8x, w.setCell ⟨b, off + j * 16 + 5 + 2, none⟩ (.int .i64 (m7 : Int)) = w8x ∧ Hid (Wr w8x B (some ⟨b, off, none⟩) (n * 16) (mhTo f k j 8)) ∧ Hid (Kept (foot (some ⟨b, off, none⟩) (n * 16)) w0 w8x) := ⟨_, rfl, Wr.setAtH (Wr.below HW.out hb) (j * 16 + 7) (by omega) (by omega) _ (fun i => mhTo_set f k j 7 _ (by rw [mh_at k j 7 (by omega), ← HM0.out]; rw [HM7.out]; rfl) i), kept_more (HK.out.trans (Kept.of_below (S := fun _ => False) hb)) (by omega)⟩
      simp only [putsAll, Act.put, List.setIfInBounds_toArray, List.set_cons_zero, List.set_cons_succ]
      rw [hw_]
      clear hw_ hG hb
      replace HW := HW_
      replace HK := HK_
      clear HW_ HK_
      go_upto_region 19 with fail
      obtain ⟨m8, hm8⟩ : ∃ q : Nat, q = m7 + 1 := ⟨_, rfl⟩
      have HM8 : Hid (m8 = m0 + 8) := by have := HM7.out; show m8 = m0 + 8; omega
      have hi : Hid (IntKind.i64.wrap ((m7 : Int) + 1) = (m8 : Int)) := by have := HM0.out; have := HM7.out; have := HKB.out; show IntKind.i64.wrap _ = _; rw [wrapI _ (by omega)]; omega
      clear hm8
      refine region_inc rfl rfl rfl rfl _ _ _ _ _ rfl rfl rfl (m7 : Int) (m8 : Int) (by kernel_rfl) (by kernel_rfl) (fun ρ h1 h2 => by unfold execOp; simp [go_sem, h1, h2, hi.out]) (by kernel_rfl) ?_
      simp only [Act.put, List.setIfInBounds_toArray, List.set_cons_zero, List.set_cons_succ]
      clear hi
      go_upto_region 20 with fail
      refine region_put (val := fun i => [.slice (some ⟨b, off, none⟩) n cap, .int .i64 (j : Int), .int .i64 (m8 : Int), .pointer (some ⟨b, off + j * 16, none⟩), .pointer (some ⟨b, off + j * 16 + 5, none⟩), .pointer (some ⟨b, off + j * 16 + 5 + 3, none⟩), undef].getD i undef) (sp := fun i => (([none, none, none, none, none, none, some (fun _ => True)] : List (Option (Value → Prop))).getD i none).map fun p v _ => p v) false (by kernel_rfl) (by kernel_rfl) [some 77, some 78, some 79, some 80, some 81, some 82, none] (by kernel_rfl) 6 5 2 rfl rfl 3 _ _ rfl rfl rfl (by kernel_rfl) (by kernel_rfl) (by kernel_rfl) b (off + j * 16 + 5 + 3) (.int .i64 (m8 : Int)) rfl rfl rfl rfl rfl sp_still (fun w hb => run_storeVar_one w _ _ _ _ rfl rfl ⟨_, (Wr.cellH (o := off + j * 16 + 5 + 3) (Wr.below HW.out hb) (j * 16 + 8) (by omega) (by omega)).1⟩ (Wr.cellH (o := off + j * 16 + 5 + 3) (Wr.below HW.out hb) (j * 16 + 8) (by omega) (by omega)).2 (by kernel_rfl)) ?_ (fun v w hb hG => ?_)
      · refine ⟨.inr (gVal rfl (.inl ⟨rfl, rfl⟩) rfl (fun Lb v act wy K => by
         have e1 : act.eval (.tmp 0) = .slice (some ⟨b, off, none⟩) n cap := (K.off (x := .tmp 0) (by kernel_rfl)).trans rfl
         exact run_move _ rfl e1)), ?_⟩
        refine ⟨.inr (gVal rfl (.inl ⟨rfl, rfl⟩) rfl (fun Lb v act wy K => by
         have e1 : act.eval (.tmp 5) = .int .i64 (j : Int) := (K.off (x := .tmp 5) (by kernel_rfl)).trans rfl
         exact run_move _ rfl e1)), ?_⟩
        refine ⟨.inr (gVal rfl (.inl ⟨rfl, rfl⟩) rfl (fun Lb v act wy K => by
         have e1 : act.eval (.tmp 1) = .int .i64 (m8 : Int) := (K.off (x := .tmp 1) (by kernel_rfl)).trans rfl
         exact run_move _ rfl e1)), ?_⟩
        refine ⟨.inr (gVal rfl (.inl ⟨rfl, rfl⟩) rfl (fun Lb v act wy K => by
         have e1 : act.eval (.tmp 77) = .slice (some ⟨b, off, none⟩) n cap := K.at_val 0 (by kernel_rfl) (by kernel_rfl) rfl
         have e2 : act.eval (.tmp 78) = .int .i64 (j : Int) := K.at_val 1 (by kernel_rfl) (by kernel_rfl) rfl
         show (execOp act.eval _).run Tryz.prog wy = .ok (.value (.pointer (some ⟨b, off + j * 16, none⟩))) wy
         generalize act.eval = ρ at e1 e2 ⊢
         unfold execOp
         simp [go_sem, e1, e2, hlt])), ?_⟩
        refine ⟨.inr (gVal rfl (.inl ⟨rfl, rfl⟩) rfl (fun Lb v act wy K => by
         have e1 : act.eval (.tmp 80) = .pointer (some ⟨b, off + j * 16, none⟩) := K.at_val 3 (by kernel_rfl) (by kernel_rfl) rfl
         show (execOp act.eval _).run Tryz.prog wy = .ok (.value (.pointer (some ⟨b, off + j * 16 + 5, none⟩))) wy
         generalize act.eval = ρ at e1 ⊢
         unfold execOp
         simp [go_sem, e1])), ?_⟩
        refine ⟨.inr (gVal rfl (.inl ⟨rfl, rfl⟩) rfl (fun Lb v act wy K => by
         have e1 : act.eval (.tmp 81) = .pointer (some ⟨b, off + j * 16 + 5, none⟩) := K.at_val 4 (by kernel_rfl) (by kernel_rfl) rfl
         show (execOp act.eval _).run Tryz.prog wy = .ok (.value (.pointer (some ⟨b, off + j * 16 + 5 + 3, none⟩))) wy
         generalize act.eval = ρ at e1 ⊢
         unfold execOp
         simp [go_sem, e1])), ?_⟩
        refine ⟨.inl rfl, ?_⟩
        exact trivial
      obtain ⟨w9x, hw_, HW_, HK_⟩ : ∃ w9x, w.setCell ⟨b, off + j * 16 + 5 + 3, none⟩ (.int .i64 (m8 : Int)) = w9x ∧ Hid (Wr w9x B (some ⟨b, off, none⟩) (n * 16) (mhTo f k j 9)) ∧ Hid (Kept (foot (some ⟨b, off, none⟩) (n * 16)) w0 w9x) := ⟨_, rfl, Wr.setAtH (Wr.below HW.out hb) (j * 16 + 8) (by omega) (by omega) _ (fun i => mhTo_set f k j 8 _ (by rw [mh_at k j 8 (by omega), ← HM0.out]; rw [HM8.out]; rfl) i), kept_more (HK.out.trans (Kept.of_below (S := fun _ => False) hb)) (by omega)⟩
      simp only [putsAll, Act.put, List.setIfInBounds_toArray, List.set_cons_zero, List.set_cons_succ]
      rw [hw_]
      clear hw_ hG hb
      replace HW := HW_
      replace HK := HK_
      clear HW_ HK_
      go_upto_region 21 with fail
      obtain ⟨m9, hm9⟩ : ∃ q : Nat, q = m8 + 1 := ⟨_, rfl⟩
      have HM9 : Hid (m9 = m0 + 9) := by have := HM8.out; show m9 = m0 + 9; omega
      have hi : Hid (IntKind.i64.wrap ((m8 : Int) + 1) = (m9 : Int)) := by have := HM0.out; have := HM8.out; have := HKB.out; show IntKind.i64.wrap _ = _; rw [wrapI _ (by omega)]; omega
      clear hm9
      refine region_inc rfl rfl rfl rfl _ _ _ _ _ rfl rfl rfl (m8 : Int) (m9 : Int) (by kernel_rfl) (by kernel_rfl) (fun ρ h1 h2 => by unfold execOp; simp [go_sem, h1, h2, hi.out]) (by kernel_rfl) ?_
      simp only [Act.put, List.setIfInBounds_toArray, List.set_cons_zero, List.set_cons_succ]
      clear hi
      go_upto_region 22 with fail
      have HT := hid (fun u => markText m9 u (by have := HM9.out; omega) (by have := HM0.out; have := HM9.out; have := HKB.out; omega))
      refine region_put (val := fun i => [.slice (some ⟨b, off, none⟩) n cap, .int .i64 (j : Int), .int .i64 (m9 : Int), .string (markS m9), .pointer (some ⟨b, off + j * 16, none⟩), .pointer (some ⟨b, off + j * 16 + 5, none⟩), .pointer (some ⟨b, off + j * 16 + 5 + 4, none⟩), undef].getD i undef) (sp := fun i => (([none, none, none, none, none, none, none, some (fun _ => True)] : List (Option (Value → Prop))).getD i none).map fun p v _ => p v) false (by kernel_rfl) (by kernel_rfl) [some 85, some 86, some 87, some 88, some 89, some 90, some 91, none] (by kernel_rfl) 7 6 3 rfl rfl 9 _ _ rfl rfl rfl (by kernel_rfl) (by kernel_rfl) (by kernel_rfl) b (off + j * 16 + 5 + 4) (.string (markS m9)) rfl rfl rfl rfl rfl sp_still (fun w hb => run_storeVar_one w _ _ _ _ rfl rfl ⟨_, (Wr.cellH (o := off + j * 16 + 5 + 4) (Wr.below HW.out hb) (j * 16 + 9) (by omega) (by omega)).1⟩ (Wr.cellH (o := off + j * 16 + 5 + 4) (Wr.below HW.out hb) (j * 16 + 9) (by omega) (by omega)).2 (by kernel_rfl)) ?_ (fun v w hb hG => ?_)
      · refine ⟨.inr (gVal rfl (.inl ⟨rfl, rfl⟩) rfl (fun Lb v act wy K => by
         have e1 : act.eval (.tmp 0) = .slice (some ⟨b, off, none⟩) n cap := (K.off (x := .tmp 0) (by kernel_rfl)).trans rfl
         exact run_move _ rfl e1)), ?_⟩
        refine ⟨.inr (gVal rfl (.inl ⟨rfl, rfl⟩) rfl (fun Lb v act wy K => by
         have e1 : act.eval (.tmp 5) = .int .i64 (j : Int) := (K.off (x := .tmp 5) (by kernel_rfl)).trans rfl
         exact run_move _ rfl e1)), ?_⟩
        refine ⟨.inr (gVal rfl (.inl ⟨rfl, rfl⟩) rfl (fun Lb v act wy K => by
         have e1 : act.eval (.tmp 1) = .int .i64 (m9 : Int) := (K.off (x := .tmp 1) (by kernel_rfl)).trans rfl
         exact run_move _ rfl e1)), ?_⟩
        refine ⟨.inr (gCall rfl (.inl ⟨rfl, rfl⟩) 122 #[.tmp 87] _ (fun _ => #[.int .i64 (m9 : Int)]) rfl call_markText (fun Lb v act wy K => by
         have e1 : act.eval (.tmp 87) = .int .i64 (m9 : Int) := K.at_val 2 (by kernel_rfl) (by kernel_rfl) rfl
         simp only [List.map_toArray, List.map_cons, List.map_nil, e1]) (fun v w hb hs => (HT.out w).mono (fun e w' ⟨h1, h2⟩ => ⟨_, h1, h2, rfl⟩))), ?_⟩
        refine ⟨.inr (gVal rfl (.inl ⟨rfl, rfl⟩) rfl (fun Lb v act wy K => by
         have e1 : act.eval (.tmp 85) = .slice (some ⟨b, off, none⟩) n cap := K.at_val 0 (by kernel_rfl) (by kernel_rfl) rfl
         have e2 : act.eval (.tmp 86) = .int .i64 (j : Int) := K.at_val 1 (by kernel_rfl) (by kernel_rfl) rfl
         show (execOp act.eval _).run Tryz.prog wy = .ok (.value (.pointer (some ⟨b, off + j * 16, none⟩))) wy
         generalize act.eval = ρ at e1 e2 ⊢
         unfold execOp
         simp [go_sem, e1, e2, hlt])), ?_⟩
        refine ⟨.inr (gVal rfl (.inl ⟨rfl, rfl⟩) rfl (fun Lb v act wy K => by
         have e1 : act.eval (.tmp 89) = .pointer (some ⟨b, off + j * 16, none⟩) := K.at_val 4 (by kernel_rfl) (by kernel_rfl) rfl
         show (execOp act.eval _).run Tryz.prog wy = .ok (.value (.pointer (some ⟨b, off + j * 16 + 5, none⟩))) wy
         generalize act.eval = ρ at e1 ⊢
         unfold execOp
         simp [go_sem, e1])), ?_⟩
        refine ⟨.inr (gVal rfl (.inl ⟨rfl, rfl⟩) rfl (fun Lb v act wy K => by
         have e1 : act.eval (.tmp 90) = .pointer (some ⟨b, off + j * 16 + 5, none⟩) := K.at_val 5 (by kernel_rfl) (by kernel_rfl) rfl
         show (execOp act.eval _).run Tryz.prog wy = .ok (.value (.pointer (some ⟨b, off + j * 16 + 5 + 4, none⟩))) wy
         generalize act.eval = ρ at e1 ⊢
         unfold execOp
         simp [go_sem, e1])), ?_⟩
        refine ⟨.inl rfl, ?_⟩
        exact trivial
      obtain ⟨w10x, hw_, HW_, HK_⟩ : ∃ w10x, w.setCell ⟨b, off + j * 16 + 5 + 4, none⟩ (.string (markS m9)) = w10x ∧ Hid (Wr w10x B (some ⟨b, off, none⟩) (n * 16) (mhTo f k j 10)) ∧ Hid (Kept (foot (some ⟨b, off, none⟩) (n * 16)) w0 w10x) := ⟨_, rfl, Wr.setAtH (Wr.below HW.out hb) (j * 16 + 9) (by omega) (by omega) _ (fun i => mhTo_set f k j 9 _ (by rw [mh_at k j 9 (by omega), ← HM0.out]; rw [HM9.out]; rfl) i), kept_more (HK.out.trans (Kept.of_below (S := fun _ => False) hb)) (by omega)⟩
      simp only [putsAll, Act.put, List.setIfInBounds_toArray, List.set_cons_zero, List.set_cons_succ]
      rw [hw_]
      clear hw_ hG hb
      replace HW := HW_
      replace HK := HK_
      clear HW_ HK_
      clear HT
      go_upto_region 23 with fail
      obtain ⟨m10, hm10⟩ : ∃ q : Nat, q = m9 + 1 := ⟨_, rfl⟩
      have HM10 : Hid (m10 = m0 + 10) := by have := HM9.out; show m10 = m0 + 10; omega
      have hi : Hid (IntKind.i64.wrap ((m9 : Int) + 1) = (m10 : Int)) := by have := HM0.out; have := HM9.out; have := HKB.out; show IntKind.i64.wrap _ = _; rw [wrapI _ (by omega)]; omega
      clear hm10
      refine region_inc rfl rfl rfl rfl _ _ _ _ _ rfl rfl rfl (m9 : Int) (m10 : Int) (by kernel_rfl) (by kernel_rfl) (fun ρ h1 h2 => by unfold execOp; simp [go_sem, h1, h2, hi.out]) (by kernel_rfl) ?_
      simp only [Act.put, List.setIfInBounds_toArray, List.set_cons_zero, List.set_cons_succ]
      clear hi
      go_upto_region 24 with fail
      refine region_put (val := fun i => [.slice (some ⟨b, off, none⟩) n cap, .int .i64 (j : Int), .int .i64 (m10 : Int), .pointer (some ⟨b, off + j * 16, none⟩), .pointer (some ⟨b, off + j * 16 + 10, none⟩), undef].getD i undef) (sp := fun i => (([none, none, none, none, none, some (fun _ => True)] : List (Option (Value → Prop))).getD i none).map fun p v _ => p v) false (by kernel_rfl) (by kernel_rfl) [some 94, some 95, some 96, some 97, some 98, none] (by kernel_rfl) 5 4 2 rfl rfl 3 _ _ rfl rfl rfl (by kernel_rfl) (by kernel_rfl) (by kernel_rfl) b (off + j * 16 + 10) (.int .i64 (m10 : Int)) rfl rfl rfl rfl rfl sp_still (fun w hb => run_storeVar_one w _ _ _ _ rfl rfl ⟨_, (Wr.cellH (o := off + j * 16 + 10) (Wr.below HW.out hb) (j * 16 + 10) (by omega) (by omega)).1⟩ (Wr.cellH (o := off + j * 16 + 10) (Wr.below HW.out hb) (j * 16 + 10) (by omega) (by omega)).2 (by kernel_rfl)) ?_ (fun v w hb hG => ?_)
      · refine ⟨.inr (gVal rfl (.inl ⟨rfl, rfl⟩) rfl (fun Lb v act wy K => by
         have e1 : act.eval (.tmp 0) = .slice (some ⟨b, off, none⟩) n cap := (K.off (x := .tmp 0) (by kernel_rfl)).trans rfl
         exact run_move _ rfl e1)), ?_⟩
        refine ⟨.inr (gVal rfl (.inl ⟨rfl, rfl⟩) rfl (fun Lb v act wy K => by
         have e1 : act.eval (.tmp 5) = .int .i64 (j : Int) := (K.off (x := .tmp 5) (by kernel_rfl)).trans rfl
         exact run_move _ rfl e1)), ?_⟩
        refine ⟨.inr (gVal rfl (.inl ⟨rfl, rfl⟩) rfl (fun Lb v act wy K => by
         have e1 : act.eval (.tmp 1) = .int .i64 (m10 : Int) := (K.off (x := .tmp 1) (by kernel_rfl)).trans rfl
         exact run_move _ rfl e1)), ?_⟩
        refine ⟨.inr (gVal rfl (.inl ⟨rfl, rfl⟩) rfl (fun Lb v act wy K => by
         have e1 : act.eval (.tmp 94) = .slice (some ⟨b, off, none⟩) n cap := K.at_val 0 (by kernel_rfl) (by kernel_rfl) rfl
         have e2 : act.eval (.tmp 95) = .int .i64 (j : Int) := K.at_val 1 (by kernel_rfl) (by kernel_rfl) rfl
         show (execOp act.eval _).run Tryz.prog wy = .ok (.value (.pointer (some ⟨b, off + j * 16, none⟩))) wy
         generalize act.eval = ρ at e1 e2 ⊢
         unfold execOp
         simp [go_sem, e1, e2, hlt])), ?_⟩
        refine ⟨.inr (gVal rfl (.inl ⟨rfl, rfl⟩) rfl (fun Lb v act wy K => by
         have e1 : act.eval (.tmp 97) = .pointer (some ⟨b, off + j * 16, none⟩) := K.at_val 3 (by kernel_rfl) (by kernel_rfl) rfl
         show (execOp act.eval _).run Tryz.prog wy = .ok (.value (.pointer (some ⟨b, off + j * 16 + 10, none⟩))) wy
         generalize act.eval = ρ at e1 ⊢
         unfold execOp
         simp [go_sem, e1])), ?_⟩
        refine ⟨.inl rfl, ?_⟩
        exact trivial
      obtain ⟨w11x, hw_, HW_, HK_⟩ : ∃ w11x, w.setCell ⟨b, off + j * 16 + 10, none⟩ (.int .i64 (m10 : Int)) = w11x ∧ Hid (Wr w11x B (some ⟨b, off, none⟩) (n * 16) (mhTo f k j 11)) ∧ Hid (Kept (foot (some ⟨b, off, none⟩) (n * 16)) w0 w11x) := ⟨_, rfl, Wr.setAtH (Wr.below HW.out hb) (j * 16 + 10) (by omega) (by omega) _ (fun i => mhTo_set f k j 10 _ (by rw [mh_at k j 10 (by omega), ← HM0.out]; rw [HM10.out]; rfl) i), kept_more (HK.out.trans (Kept.of_below (S := fun _ => False) hb)) (by omega)⟩
      simp only [putsAll, Act.put, List.setIfInBounds_toArray, List.set_cons_zero, List.set_cons_succ]
      rw [hw_]
      clear hw_ hG hb
      replace HW := HW_
      replace HK := HK_
      clear HW_ HK_
      go_upto_region 25 with fail
      obtain ⟨m11, hm11⟩ : ∃ q : Nat, q = m10 + 1 := ⟨_, rfl⟩
      have HM11 : Hid (m11 = m0 + 11) := by have := HM10.out; show m11 = m0 + 11; omega
      have hi : Hid (IntKind.i64.wrap ((m10 : Int) + 1) = (m11 : Int)) := by have := HM0.out; have := HM10.out; have := HKB.out; show IntKind.i64.wrap _ = _; rw [wrapI _ (by omega)]; omega
      clear hm11
      refine region_inc rfl rfl rfl rfl _ _ _ _ _ rfl rfl rfl (m10 : Int) (m11 : Int) (by kernel_rfl) (by kernel_rfl) (fun ρ h1 h2 => by unfold execOp; simp [go_sem, h1, h2, hi.out]) (by kernel_rfl) ?_
      simp only [Act.put, List.setIfInBounds_toArray, List.set_cons_zero, List.set_cons_succ]
      clear hi
      go_upto_region 26 with fail
      refine region_put (val := fun i => [.slice (some ⟨b, off, none⟩) n cap, .int .i64 (j : Int), .int .i64 (m11 : Int), .pointer (some ⟨b, off + j * 16, none⟩), .pointer (some ⟨b, off + j * 16 + 11, none⟩), .pointer (some ⟨b, off + j * 16 + 11, none⟩), undef].getD i undef) (sp := fun i => (([none, none, none, none, none, none, some (fun _ => True)] : List (Option (Value → Prop))).getD i none).map fun p v _ => p v) false (by kernel_rfl) (by kernel_rfl) [some 101, some 102, some 103, some 104, some 105, some 106, none] (by kernel_rfl) 6 5 2 rfl rfl 3 _ _ rfl rfl rfl (by kernel_rfl) (by kernel_rfl) (by kernel_rfl) b (off + j * 16 + 11) (.int .i64 (m11 : Int)) rfl rfl rfl rfl rfl sp_still (fun w hb => run_storeVar_one w _ _ _ _ rfl rfl ⟨_, (Wr.cellH (o := off + j * 16 + 11) (Wr.below HW.out hb) (j * 16 + 11) (by omega) (by omega)).1⟩ (Wr.cellH (o := off + j * 16 + 11) (Wr.below HW.out hb) (j * 16 + 11) (by omega) (by omega)).2 (by kernel_rfl)) ?_ (fun v w hb hG => ?_)
      · refine ⟨.inr (gVal rfl (.inl ⟨rfl, rfl⟩) rfl (fun Lb v act wy K => by
         have e1 : act.eval (.tmp 0) = .slice (some ⟨b, off, none⟩) n cap := (K.off (x := .tmp 0) (by kernel_rfl)).trans rfl
         exact run_move _ rfl e1)), ?_⟩
        refine ⟨.inr (gVal rfl (.inl ⟨rfl, rfl⟩) rfl (fun Lb v act wy K => by
         have e1 : act.eval (.tmp 5) = .int .i64 (j : Int) := (K.off (x := .tmp 5) (by kernel_rfl)).trans rfl
         exact run_move _ rfl e1)), ?_⟩
        refine ⟨.inr (gVal rfl (.inl ⟨rfl, rfl⟩) rfl (fun Lb v act wy K => by
         have e1 : act.eval (.tmp 1) = .int .i64 (m11 : Int) := (K.off (x := .tmp 1) (by kernel_rfl)).trans rfl
         exact run_move _ rfl e1)), ?_⟩
        refine ⟨.inr (gVal rfl (.inl ⟨rfl, rfl⟩) rfl (fun Lb v act wy K => by
         have e1 : act.eval (.tmp 101) = .slice (some ⟨b, off, none⟩) n cap := K.at_val 0 (by kernel_rfl) (by kernel_rfl) rfl
         have e2 : act.eval (.tmp 102) = .int .i64 (j : Int) := K.at_val 1 (by kernel_rfl) (by kernel_rfl) rfl
         show (execOp act.eval _).run Tryz.prog wy = .ok (.value (.pointer (some ⟨b, off + j * 16, none⟩))) wy
         generalize act.eval = ρ at e1 e2 ⊢
         unfold execOp
         simp [go_sem, e1, e2, hlt])), ?_⟩
        refine ⟨.inr (gVal rfl (.inl ⟨rfl, rfl⟩) rfl (fun Lb v act wy K => by
         have e1 : act.eval (.tmp 104) = .pointer (some ⟨b, off + j * 16, none⟩) := K.at_val 3 (by kernel_rfl) (by kernel_rfl) rfl
         show (execOp act.eval _).run Tryz.prog wy = .ok (.value (.pointer (some ⟨b, off + j * 16 + 11, none⟩))) wy
         generalize act.eval = ρ at e1 ⊢
         unfold execOp
         simp [go_sem, e1])), ?_⟩
        refine ⟨.inr (gVal rfl (.inl ⟨rfl, rfl⟩) rfl (fun Lb v act wy K => by
         have e1 : act.eval (.tmp 105) = .pointer (some ⟨b, off + j * 16 + 11, none⟩) := K.at_val 4 (by kernel_rfl) (by kernel_rfl) rfl
         show (execOp act.eval _).run Tryz.prog wy = .ok (.value (.pointer (some ⟨b, off + j * 16 + 11, none⟩))) wy
         generalize act.eval = ρ at e1 ⊢
         unfold execOp
         simp [go_sem, e1])), ?_⟩
        refine ⟨.inl rfl, ?_⟩
        exact trivial
      obtain ⟨w12x, hw_, HW_, HK_⟩ : ∃ w12x, w.setCell ⟨b, off + j * 16 + 11, none⟩ (.int .i64 (m11 : Int)) = w12x ∧ Hid (Wr w12x B (some ⟨b, off, none⟩) (n * 16) (mhTo f k j 12)) ∧ Hid (Kept (foot (some ⟨b, off, none⟩) (n * 16)) w0 w12x) := ⟨_, rfl, Wr.setAtH (Wr.below HW.out hb) (j * 16 + 11) (by omega) (by omega) _ (fun i => mhTo_set f k j 11 _ (by rw [mh_at k j 11 (by omega), ← HM0.out]; rw [HM11.out]; rfl) i), kept_more (HK.out.trans (Kept.of_below (S := fun _ => False) hb)) (by omega)⟩
      simp only [putsAll, Act.put, List.setIfInBounds_toArray, List.set_cons_zero, List.set_cons_succ]
      rw [hw_]
      clear hw_ hG hb
      replace HW := HW_
      replace HK := HK_
      clear HW_ HK_
      go_upto_region 27 with fail
      obtain ⟨m12, hm12⟩ : ∃ q : Nat, q = m11 + 1 := ⟨_, rfl⟩
      have HM12 : Hid (m12 = m0 + 12) := by have := HM11.out; show m12 = m0 + 12; omega
      have hi : Hid (IntKind.i64.wrap ((m11 : Int) + 1) = (m12 : Int)) := by have := HM0.out; have := HM11.out; have := HKB.out; show IntKind.i64.wrap _ = _; rw [wrapI _ (by omega)]; omega
      clear hm12
      refine region_inc rfl rfl rfl rfl _ _ _ _ _ rfl rfl rfl (m11 : Int) (m12 : Int) (by kernel_rfl) (by kernel_rfl) (fun ρ h1 h2 => by unfold execOp; simp [go_sem, h1, h2, hi.out]) (by kernel_rfl) ?_
      simp only [Act.put, List.setIfInBounds_toArray, List.set_cons_zero, List.set_cons_succ]
      clear hi
      go_upto_region 28 with fail
      refine region_put (val := fun i => [.slice (some ⟨b, off, none⟩) n cap, .int .i64 (j : Int), .int .i64 (m12 : Int), .pointer (some ⟨b, off + j * 16, none⟩), .pointer (some ⟨b, off + j * 16 + 11, none⟩), .pointer (some ⟨b, off + j * 16 + 11 + 1, none⟩), undef].getD i undef) (sp := fun i => (([none, none, none, none, none, none, some (fun _ => True)] : List (Option (Value → Prop))).getD i none).map fun p v _ => p v) false (by kernel_rfl) (by kernel_rfl) [some 109, some 110, some 111, some 112, some 113, some 114, none] (by kernel_rfl) 6 5 2 rfl rfl 3 _ _ rfl rfl rfl (by kernel_rfl) (by kernel_rfl) (by kernel_rfl) b (off + j * 16 + 11 + 1) (.int .i64 (m12 : Int)) rfl rfl rfl rfl rfl sp_still (fun w hb => run_storeVar_one w _ _ _ _ rfl rfl ⟨_, (Wr.cellH (o := off + j * 16 + 11 + 1) (Wr.below HW.out hb) (j * 16 + 12) (by omega) (by omega)).1⟩ (Wr.cellH (o := off + j * 16 + 11 + 1) (Wr.below HW.out hb) (j * 16 + 12) (by omega) (by omega)).2 (by kernel_rfl)) ?_ (fun v w hb hG => ?_)
      · refine ⟨.inr (gVal rfl (.inl ⟨rfl, rfl⟩) rfl (fun Lb v act wy K => by
         have e1 : act.eval (.tmp 0) = .slice (some ⟨b, off, none⟩) n cap := (K.off (x := .tmp 0) (by kernel_rfl)).trans rfl
         exact run_move _ rfl e1)), ?_⟩
        refine ⟨.inr (gVal rfl (.inl ⟨rfl, rfl⟩) rfl (fun Lb v act wy K => by
         have e1 : act.eval (.tmp 5) = .int .i64 (j : Int) := (K.off (x := .tmp 5) (by kernel_rfl)).trans rfl
         exact run_move _ rfl e1)), ?_⟩
        refine ⟨.inr (gVal rfl (.inl ⟨rfl, rfl⟩) rfl (fun Lb v act wy K => by
         have e1 : act.eval (.tmp 1) = .int .i64 (m12 : Int) := (K.off (x := .tmp 1) (by kernel_rfl)).trans rfl
         exact run_move _ rfl e1)), ?_⟩
        refine ⟨.inr (gVal rfl (.inl ⟨rfl, rfl⟩) rfl (fun Lb v act wy K => by
         have e1 : act.eval (.tmp 109) = .slice (some ⟨b, off, none⟩) n cap := K.at_val 0 (by kernel_rfl) (by kernel_rfl) rfl
         have e2 : act.eval (.tmp 110) = .int .i64 (j : Int) := K.at_val 1 (by kernel_rfl) (by kernel_rfl) rfl
         show (execOp act.eval _).run Tryz.prog wy = .ok (.value (.pointer (some ⟨b, off + j * 16, none⟩))) wy
         generalize act.eval = ρ at e1 e2 ⊢
         unfold execOp
         simp [go_sem, e1, e2, hlt])), ?_⟩
        refine ⟨.inr (gVal rfl (.inl ⟨rfl, rfl⟩) rfl (fun Lb v act wy K => by
         have e1 : act.eval (.tmp 112) = .pointer (some ⟨b, off + j * 16, none⟩) := K.at_val 3 (by kernel_rfl) (by kernel_rfl) rfl
         show (execOp act.eval _).run Tryz.prog wy = .ok (.value (.pointer (some ⟨b, off + j * 16 + 11, none⟩))) wy
         generalize act.eval = ρ at e1 ⊢
         unfold execOp
         simp [go_sem, e1])), ?_⟩
        refine ⟨.inr (gVal rfl (.inl ⟨rfl, rfl⟩) rfl (fun Lb v act wy K => by
         have e1 : act.eval (.tmp 113) = .pointer (some ⟨b, off + j * 16 + 11, none⟩) := K.at_val 4 (by kernel_rfl) (by kernel_rfl) rfl
         show (execOp act.eval _).run Tryz.prog wy = .ok (.value (.pointer (some ⟨b, off + j * 16 + 11 + 1, none⟩))) wy
         generalize act.eval = ρ at e1 ⊢
         unfold execOp
         simp [go_sem, e1])), ?_⟩
        refine ⟨.inl rfl, ?_⟩
        exact trivial
      obtain ⟨w13x, hw_, HW_, HK_⟩ : ∃ w13x, w.setCell ⟨b, off + j * 16 + 11 + 1, none⟩ (.int .i64 (m12 : Int)) = w13x ∧ Hid (Wr w13x B (some ⟨b, off, none⟩) (n * 16) (mhTo f k j 13)) ∧ Hid (Kept (foot (some ⟨b, off, none⟩) (n * 16)) w0 w13x) := ⟨_, rfl, Wr.setAtH (Wr.below HW.out hb) (j * 16 + 12) (by omega) (by omega) _ (fun i => mhTo_set f k j 12 _ (by rw [mh_at k j 12 (by omega), ← HM0.out]; rw [HM12.out]; rfl) i), kept_more (HK.out.trans (Kept.of_below (S := fun _ => False) hb)) (by omega)⟩
      simp only [putsAll, Act.put, List.setIfInBounds_toArray, List.set_cons_zero, List.set_cons_succ]
      rw [hw_]
      clear hw_ hG hb
      replace HW := HW_
      replace HK := HK_
      clear HW_ HK_
      go_upto_region 29 with fail
      obtain ⟨m13, hm13⟩ : ∃ q : Nat, q = m12 + 1 := ⟨_, rfl⟩
      have HM13 : Hid (m13 = m0 + 13) := by have := HM12.out; show m13 = m0 + 13; omega
      have hi : Hid (IntKind.i64.wrap ((m12 : Int) + 1) = (m13 : Int)) := by have := HM0.out; have := HM12.out; have := HKB.out; show IntKind.i64.wrap _ = _; rw [wrapI _ (by omega)]; omega
      clear hm13
      refine region_inc rfl rfl rfl rfl _ _ _ _ _ rfl rfl rfl (m12 : Int) (m13 : Int) (by kernel_rfl) (by kernel_rfl) (fun ρ h1 h2 => by unfold execOp; simp [go_sem, h1, h2, hi.out]) (by kernel_rfl) ?_
      simp only [Act.put, List.setIfInBounds_toArray, List.set_cons_zero, List.set_cons_succ]
      clear hi
      go_upto_region 30 with fail
      have HT := hid (fun u => markText m13 u (by have := HM13.out; omega) (by have := HM0.out; have := HM13.out; have := HKB.out; omega))
      refine region_put (val := fun i => [.slice (some ⟨b, off, none⟩) n cap, .int .i64 (j : Int), .int .i64 (m13 : Int), .string (markS m13), .pointer (some ⟨b, off + j * 16, none⟩), .pointer (some ⟨b, off + j * 16 + 11, none⟩), .pointer (some ⟨b, off + j * 16 + 11 + 2, none⟩), undef].getD i undef) (sp := fun i => (([none, none, none, none, none, none, none, some (fun _ => True)] : List (Option (Value → Prop))).getD i none).map fun p v _ => p v) false (by kernel_rfl) (by kernel_rfl) [some 117, some 118, some 119, some 120, some 121, some 122, some 123, none] (by kernel_rfl) 7 6 3 rfl rfl 9 _ _ rfl rfl rfl (by kernel_rfl) (by kernel_rfl) (by kernel_rfl) b (off + j * 16 + 11 + 2) (.string (markS m13)) rfl rfl rfl rfl rfl sp_still (fun w hb => run_storeVar_one w _ _ _ _ rfl rfl ⟨_, (Wr.cellH (o := off + j * 16 + 11 + 2) (Wr.below HW.out hb) (j * 16 + 13) (by omega) (by omega)).1⟩ (Wr.cellH (o := off + j * 16 + 11 + 2) (Wr.below HW.out hb) (j * 16 + 13) (by omega) (by omega)).2 (by kernel_rfl)) ?_ (fun v w hb hG => ?_)
      · refine ⟨.inr (gVal rfl (.inl ⟨rfl, rfl⟩) rfl (fun Lb v act wy K => by
         have e1 : act.eval (.tmp 0) = .slice (some ⟨b, off, none⟩) n cap := (K.off (x := .tmp 0) (by kernel_rfl)).trans rfl
         exact run_move _ rfl e1)), ?_⟩
        refine ⟨.inr (gVal rfl (.inl ⟨rfl, rfl⟩) rfl (fun Lb v act wy K => by
         have e1 : act.eval (.tmp 5) = .int .i64 (j : Int) := (K.off (x := .tmp 5) (by kernel_rfl)).trans rfl
         exact run_move _ rfl e1)), ?_⟩
        refine ⟨.inr (gVal rfl (.inl ⟨rfl, rfl⟩) rfl (fun Lb v act wy K => by
         have e1 : act.eval (.tmp 1) = .int .i64 (m13 : Int) := (K.off (x := .tmp 1) (by kernel_rfl)).trans rfl
         exact run_move _ rfl e1)), ?_⟩
        refine ⟨.inr (gCall rfl (.inl ⟨rfl, rfl⟩) 122 #[.tmp 119] _ (fun _ => #[.int .i64 (m13 : Int)]) rfl call_markText (fun Lb v act wy K => by
         have e1 : act.eval (.tmp 119) = .int .i64 (m13 : Int) := K.at_val 2 (by kernel_rfl) (by kernel_rfl) rfl
         simp only [List.map_toArray, List.map_cons, List.map_nil, e1]) (fun v w hb hs => (HT.out w).mono (fun e w' ⟨h1, h2⟩ => ⟨_, h1, h2, rfl⟩))), ?_⟩
        refine ⟨.inr (gVal rfl (.inl ⟨rfl, rfl⟩) rfl (fun Lb v act wy K => by
         have e1 : act.eval (.tmp 117) = .slice (some ⟨b, off, none⟩) n cap := K.at_val 0 (by kernel_rfl) (by kernel_rfl) rfl
         have e2 : act.eval (.tmp 118) = .int .i64 (j : Int) := K.at_val 1 (by kernel_rfl) (by kernel_rfl) rfl
         show (execOp act.eval _).run Tryz.prog wy = .ok (.value (.pointer (some ⟨b, off + j * 16, none⟩))) wy
         generalize act.eval = ρ at e1 e2 ⊢
         unfold execOp
         simp [go_sem, e1, e2, hlt])), ?_⟩
        refine ⟨.inr (gVal rfl (.inl ⟨rfl, rfl⟩) rfl (fun Lb v act wy K => by
         have e1 : act.eval (.tmp 121) = .pointer (some ⟨b, off + j * 16, none⟩) := K.at_val 4 (by kernel_rfl) (by kernel_rfl) rfl
         show (execOp act.eval _).run Tryz.prog wy = .ok (.value (.pointer (some ⟨b, off + j * 16 + 11, none⟩))) wy
         generalize act.eval = ρ at e1 ⊢
         unfold execOp
         simp [go_sem, e1])), ?_⟩
        refine ⟨.inr (gVal rfl (.inl ⟨rfl, rfl⟩) rfl (fun Lb v act wy K => by
         have e1 : act.eval (.tmp 122) = .pointer (some ⟨b, off + j * 16 + 11, none⟩) := K.at_val 5 (by kernel_rfl) (by kernel_rfl) rfl
         show (execOp act.eval _).run Tryz.prog wy = .ok (.value (.pointer (some ⟨b, off + j * 16 + 11 + 2, none⟩))) wy
         generalize act.eval = ρ at e1 ⊢
         unfold execOp
         simp [go_sem, e1])), ?_⟩
        refine ⟨.inl rfl, ?_⟩
        exact trivial
      obtain ⟨w14x, hw_, HW_, HK_⟩ : ∃ w14x, w.setCell ⟨b, off + j * 16 + 11 + 2, none⟩ (.string (markS m13)) = w14x ∧ Hid (Wr w14x B (some ⟨b, off, none⟩) (n * 16) (mhTo f k j 14)) ∧ Hid (Kept (foot (some ⟨b, off, none⟩) (n * 16)) w0 w14x) := ⟨_, rfl, Wr.setAtH (Wr.below HW.out hb) (j * 16 + 13) (by omega) (by omega) _ (fun i => mhTo_set f k j 13 _ (by rw [mh_at k j 13 (by omega), ← HM0.out]; rw [HM13.out]; rfl) i), kept_more (HK.out.trans (Kept.of_below (S := fun _ => False) hb)) (by omega)⟩
      simp only [putsAll, Act.put, List.setIfInBounds_toArray, List.set_cons_zero, List.set_cons_succ]
      rw [hw_]
      clear hw_ hG hb
      replace HW := HW_
      replace HK := HK_
      clear HW_ HK_
      clear HT
      go_upto_region 31 with fail
      obtain ⟨m14, hm14⟩ : ∃ q : Nat, q = m13 + 1 := ⟨_, rfl⟩
      have HM14 : Hid (m14 = m0 + 14) := by have := HM13.out; show m14 = m0 + 14; omega
      have hi : Hid (IntKind.i64.wrap ((m13 : Int) + 1) = (m14 : Int)) := by have := HM0.out; have := HM13.out; have := HKB.out; show IntKind.i64.wrap _ = _; rw [wrapI _ (by omega)]; omega
      clear hm14
      refine region_inc rfl rfl rfl rfl _ _ _ _ _ rfl rfl rfl (m13 : Int) (m14 : Int) (by kernel_rfl) (by kernel_rfl) (fun ρ h1 h2 => by unfold execOp; simp [go_sem, h1, h2, hi.out]) (by kernel_rfl) ?_
      simp only [Act.put, List.setIfInBounds_toArray, List.set_cons_zero, List.set_cons_succ]
      clear hi
      go_upto_region 32 with fail
      obtain ⟨hco, _⟩ := Wr.cellH (o := off + j * 16 + 14) HW.out (j * 16 + 14) (by omega) (by omega)
      rw [show mhTo f k j 14 (j * 16 + 14) = .slice none 0 0 by unfold mhTo; rw [if_neg (by omega)]; exact HF.out j hlt] at hco
      go_wp2_with fail
      refine (markOut0 _ m14 (by have := HM14.out; omega) (by have := HM0.out; have := HM14.out; have := HKB.out; omega)).mono ?_
      rintro e wo ⟨rfl, bo⟩
      replace HW := hid (Wr.congr (Wr.below HW.out bo) (fun i _ => mhTo_same f k j (HF.out j hlt) i))
      replace HK := hid (kept_same HK.out bo)
      clear hco bo
      go_upto_region 33 with fail
      refine region_put (val := fun i => [.slice (some ⟨b, off, none⟩) n cap, .int .i64 (j : Int), .int .i64 (m14 : Int), .pointer (some ⟨b, off + j * 16, none⟩), .pointer (some ⟨b, off + j * 16 + 15, none⟩), undef].getD i undef) (sp := fun i => (([none, none, none, none, none, some (fun _ => True)] : List (Option (Value → Prop))).getD i none).map fun p v _ => p v) false (by kernel_rfl) (by kernel_rfl) [some 134, some 135, some 136, some 137, some 138, none] (by kernel_rfl) 5 4 2 rfl rfl 3 _ _ rfl rfl rfl (by kernel_rfl) (by kernel_rfl) (by kernel_rfl) b (off + j * 16 + 15) (.int .i64 (m14 : Int)) rfl rfl rfl rfl rfl sp_still (fun w hb => run_storeVar_one w _ _ _ _ rfl rfl ⟨_, (Wr.cellH (o := off + j * 16 + 15) (Wr.below HW.out hb) (j * 16 + 15) (by omega) (by omega)).1⟩ (Wr.cellH (o := off + j * 16 + 15) (Wr.below HW.out hb) (j * 16 + 15) (by omega) (by omega)).2 (by kernel_rfl)) ?_ (fun v w hb hG => ?_)
      · refine ⟨.inr (gVal rfl (.inl ⟨rfl, rfl⟩) rfl (fun Lb v act wy K => by
         have e1 : act.eval (.tmp 0) = .slice (some ⟨b, off, none⟩) n cap := (K.off (x := .tmp 0) (by kernel_rfl)).trans rfl
         exact run_move _ rfl e1)), ?_⟩
        refine ⟨.inr (gVal rfl (.inl ⟨rfl, rfl⟩) rfl (fun Lb v act wy K => by
         have e1 : act.eval (.tmp 5) = .int .i64 (j : Int) := (K.off (x := .tmp 5) (by kernel_rfl)).trans rfl
         exact run_move _ rfl e1)), ?_⟩
        refine ⟨.inr (gVal rfl (.inl ⟨rfl, rfl⟩) rfl (fun Lb v act wy K => by
         have e1 : act.eval (.tmp 1) = .int .i64 (m14 : Int) := (K.off (x := .tmp 1) (by kernel_rfl)).trans rfl
         exact run_move _ rfl e1)), ?_⟩
        refine ⟨.inr (gVal rfl (.inl ⟨rfl, rfl⟩) rfl (fun Lb v act wy K => by
         have e1 : act.eval (.tmp 134) = .slice (some ⟨b, off, none⟩) n cap := K.at_val 0 (by kernel_rfl) (by kernel_rfl) rfl
         have e2 : act.eval (.tmp 135) = .int .i64 (j : Int) := K.at_val 1 (by kernel_rfl) (by kernel_rfl) rfl
         show (execOp act.eval _).run Tryz.prog wy = .ok (.value (.pointer (some ⟨b, off + j * 16, none⟩))) wy
         generalize act.eval = ρ at e1 e2 ⊢
         unfold execOp
         simp [go_sem, e1, e2, hlt])), ?_⟩
        refine ⟨.inr (gVal rfl (.inl ⟨rfl, rfl⟩) rfl (fun Lb v act wy K => by
         have e1 : act.eval (.tmp 137) = .pointer (some ⟨b, off + j * 16, none⟩) := K.at_val 3 (by kernel_rfl) (by kernel_rfl) rfl
         show (execOp act.eval _).run Tryz.prog wy = .ok (.value (.pointer (some ⟨b, off + j * 16 + 15, none⟩))) wy
         generalize act.eval = ρ at e1 ⊢
         unfold execOp
         simp [go_sem, e1])), ?_⟩
        refine ⟨.inl rfl, ?_⟩
        exact trivial
      obtain ⟨w15x, hw_, HW_, HK_⟩ : ∃ w15x, w.setCell ⟨b, off + j * 16 + 15, none⟩ (.int .i64 (m14 : Int)) = w15x ∧ Hid (Wr w15x B (some ⟨b, off, none⟩) (n * 16) (mhTo f k j 16)) ∧ Hid (Kept (foot (some ⟨b, off, none⟩) (n * 16)) w0 w15x) := ⟨_, rfl, Wr.setAtH (Wr.below HW.out hb) (j * 16 + 15) (by omega) (by omega) _ (fun i => mhTo_set f k j 15 _ (by rw [mh_at k j 15 (by omega), ← HM0.out]; rw [HM14.out]; rfl) i), kept_more (HK.out.trans (Kept.of_below (S := fun _ => False) hb)) (by omega)⟩
      simp only [putsAll, Act.put, List.setIfInBounds_toArray, List.set_cons_zero, List.set_cons_succ]
      rw [hw_]
      clear hw_ hG hb
      replace HW := HW_
      replace HK := HK_
      clear HW_ HK_
      go_upto_region 34 with fail
      obtain ⟨m15, hm15⟩ : ∃ q : Nat, q = m14 + 1 := ⟨_, rfl⟩
      have HM15 : Hid (m15 = m0 + 15) := by have := HM14.out; show m15 = m0 + 15; omega
      have hi : Hid (IntKind.i64.wrap ((m14 : Int) + 1) = (m15 : Int)) := by have := HM0.out; have := HM14.out; have := HKB.out; show IntKind.i64.wrap _ = _; rw [wrapI _ (by omega)]; omega
      clear hm15
      refine region_inc rfl rfl rfl rfl _ _ _ _ _ rfl rfl rfl (m14 : Int) (m15 : Int) (by kernel_rfl) (by kernel_rfl) (fun ρ h1 h2 => by unfold execOp; simp [go_sem, h1, h2, hi.out]) (by kernel_rfl) ?_
      simp only [Act.put, List.setIfInBounds_toArray, List.set_cons_zero, List.set_cons_succ]
      clear hi
      go_wp2
      refine ⟨⟨j + 1, by omega, by go_num, by have h1 := HM0.out; have h2 := HM15.out; rw [h2, h1]; go_num, HW.out.congr (fun i _ => mhTo_next f k j i), by rw [← hw0]; exact HK.out⟩, by simp [intOf]; omega⟩

    · obtain rfl : j = n := by omega
      go_wp2
      go_ret
      exact ⟨rfl, HW.out.congr (fun i hi => by unfold mhTo; rw [if_pos (by omega)]), HK.out⟩

end Go.Proofs.YtaopkchkhdbfnaaGreatDoor.Pl

namespace Go.Proofs.YtaopkchkhdbfnaaGreatDoor.Pl
open Go.RowKit Go.Proofs.YtaopkchkhdbfnaaGreatDoor.Mem Go.Proofs.YtaopkchkhdbfnaaGreatDoor.Sec Go.Proofs.YtaopkchkhdbfnaaGreatDoor.Rd Go.Proofs.YtaopkchkhdbfnaaGreatDoor.Rg
set_option linter.unusedVariables false

theorem heldOut0 (w : World) (m : Nat) (h0 : 0 < m) (h1 : m ≤ 4194304) : Calls Tryz.prog 126 #[.slice none 0 0, .int .i64 (m : Int)] w fun e w' => e = .returned (.int .i64 (m : Int)) ∧ Below w.heap.size w w' :=
  heldOutS2 w none 0 0 m (fun i hi => by omega) h0 (by omega)

set_option maxRecDepth 100000 in
set_option maxHeartbeats 4000000 in
theorem heldHostS (w : World) (a : Option Addr) (n cap k : Nat) (S : Sl w a (n * 16) (mh k)) (hn : n ≤ 1048576) (hk : 0 < k) (hr : k % 3 = 2) (hb : k + n * 15 ≤ 1048576) :
    Calls Tryz.prog 61 #[.slice a n cap, .int .i64 (k : Int)] w fun e w' => e = .returned (.int .i64 ((k + n * 15 : Nat) : Int)) ∧ Below w.heap.size w w' := by
  have HS := hid S
  have HR := hid hr
  have HK0 := hid hk
  have HB0 := hid hb
  clear S hr hk hb
  go_enter Tryz.func61, Tryz.ntmps61
  go_wp2
  go_loopw [1, 5] (fun x i wr => ∃ j : Nat, j ≤ n ∧ i = .int .i64 (j : Int) ∧ x = .int .i64 ((k + j * 15 : Nat) : Int) ∧ Hid (Below w.heap.size w wr)) (fun _ i _ => n - (intOf i).toNat)
  case atStart => exact ⟨0, Nat.zero_le _, rfl, rfl, Below.refl _ _⟩
  case round =>
    obtain ⟨j, hj, rfl, rfl, HB⟩ := hrel
    by_cases hlt : j < n
    · obtain ⟨b, off, rfl, _⟩ := HS.out (j * 16) (by omega)
      have HKB : Hid (k + j * 15 + 15 ≤ 1048576) := by have := HB0.out; show k + j * 15 + 15 ≤ 1048576; omega
      obtain ⟨m0, hm0⟩ : ∃ m0 : Nat, m0 = k + j * 15 := ⟨_, rfl⟩
      rw [← hm0]
      have HM0 := hid hm0
      clear hm0
      go_upto_region 4 with fail
      have hc : Hid (wr.cell? ⟨b, off + j * 16, none⟩ = some (.int .i64 (m0 : Int))) := by
        have h1 := Sl.cellH (o := off + j * 16) (Sl.below HS.out HB.out) (j * 16 + 0) (by omega) (by omega)
        rw [mh_at k j 0 (by omega), ← HM0.out] at h1
        exact h1
      refine region_grow (val := fun i => [.slice (some ⟨b, off, none⟩) n cap, .int .i64 (j : Int), .pointer (some ⟨b, off + j * 16, none⟩), .pointer (some ⟨b, off + j * 16, none⟩), .int .i64 (m0 : Int), .int .i64 (m0 : Int), .bool false].getD i undef) (sp := fun _ => none) false (by kernel_rfl) (by kernel_rfl) [some 12, some 13, some 14, some 15, some 16, some 17, some 18] (by kernel_rfl) (fun _ _ h => by cases h) ?_ (fun v w hb hG => ?_)
      · refine ⟨gVal rfl (.inl ⟨rfl, rfl⟩) rfl (fun Lb v act wy K => by
         have e1 : act.eval (.tmp 0) = .slice (some ⟨b, off, none⟩) n cap := (K.off (x := .tmp 0) (by kernel_rfl)).trans rfl
         exact run_move _ rfl e1), ?_⟩
        refine ⟨gVal rfl (.inl ⟨rfl, rfl⟩) rfl (fun Lb v act wy K => by
         have e1 : act.eval (.tmp 5) = .int .i64 (j : Int) := (K.off (x := .tmp 5) (by kernel_rfl)).trans rfl
         exact run_move _ rfl e1), ?_⟩
        refine ⟨gVal rfl (.inl ⟨rfl, rfl⟩) rfl (fun Lb v act wy K => by
         have e1 : act.eval (.tmp 12) = .slice (some ⟨b, off, none⟩) n cap := K.at_val 0 (by kernel_rfl) (by kernel_rfl) rfl
         have e2 : act.eval (.tmp 13) = .int .i64 (j : Int) := K.at_val 1 (by kernel_rfl) (by kernel_rfl) rfl
         show (execOp act.eval _).run Tryz.prog wy = .ok (.value (.pointer (some ⟨b, off + j * 16, none⟩))) wy
         generalize act.eval = ρ at e1 e2 ⊢
         unfold execOp
         simp [go_sem, e1, e2, hlt]), ?_⟩
        refine ⟨gVal rfl (.inl ⟨rfl, rfl⟩) rfl (fun Lb v act wy K => by
         have e1 : act.eval (.tmp 14) = .pointer (some ⟨b, off + j * 16, none⟩) := K.at_val 2 (by kernel_rfl) (by kernel_rfl) rfl
         show (execOp act.eval _).run Tryz.prog wy = .ok (.value (.pointer (some ⟨b, off + j * 16, none⟩))) wy
         generalize act.eval = ρ at e1 ⊢
         unfold execOp
         simp [go_sem, e1]), ?_⟩
        refine ⟨gVal rfl (.inl ⟨rfl, rfl⟩) rfl (fun Lb v act wy K => by
         have e1 : act.eval (.tmp 15) = .pointer (some ⟨b, off + j * 16, none⟩) := K.at_val 3 (by kernel_rfl) (by kernel_rfl) rfl
         have e2 := Rg.cell_later (hc.out) K.bel
         show (execOp act.eval _).run Tryz.prog wy = .ok (.value (.int .i64 (m0 : Int))) wy
         generalize act.eval = ρ at e1 ⊢
         unfold execOp
         simp [go_sem, e1, e2]), ?_⟩
        refine ⟨gVal rfl (.inl ⟨rfl, rfl⟩) rfl (fun Lb v act wy K => by
         have e1 : act.eval (.tmp 1) = .int .i64 (m0 : Int) := (K.off (x := .tmp 1) (by kernel_rfl)).trans rfl
         exact run_move _ rfl e1), ?_⟩
        refine ⟨gVal rfl (.inl ⟨rfl, rfl⟩) rfl (fun Lb v act wy K => by
         have e1 : act.eval (.tmp 16) = .int .i64 (m0 : Int) := K.at_val 4 (by kernel_rfl) (by kernel_rfl) rfl
         have e2 : act.eval (.tmp 17) = .int .i64 (m0 : Int) := K.at_val 5 (by kernel_rfl) (by kernel_rfl) rfl
         show (execOp act.eval _).run Tryz.prog wy = .ok (.value (.bool false)) wy
         generalize act.eval = ρ at e1 e2 ⊢
         unfold execOp
         simp [go_sem, e1, e2]), ?_⟩
        exact trivial
      have el : v 6 = .bool false := hG 6 (by show 6 < 7; decide)
      replace HB := hid (HB.out.trans (hb.mono HB.out.size))
      clear hG hb hc
      simp only [putsAll, Act.put, List.setIfInBounds_toArray, List.set_cons_zero, List.set_cons_succ, el]
      clear el
      go_upto_region 6 with fail
      obtain ⟨m1, hm1⟩ : ∃ q : Nat, q = m0 + 1 := ⟨_, rfl⟩
      have HM1 : Hid (m1 = m0 + 1) := hm1
      have hi : Hid (IntKind.i64.wrap ((m0 : Int) + 1) = (m1 : Int)) := by have := HM0.out; have := HM1.out; have := HKB.out; show IntKind.i64.wrap _ = _; rw [wrapI _ (by omega)]; omega
      clear hm1
      refine region_inc rfl rfl rfl rfl _ _ _ _ _ rfl rfl rfl (m0 : Int) (m1 : Int) (by kernel_rfl) (by kernel_rfl) (fun ρ h1 h2 => by unfold execOp; simp [go_sem, h1, h2, hi.out]) (by kernel_rfl) ?_
      simp only [Act.put, List.setIfInBounds_toArray, List.set_cons_zero, List.set_cons_succ]
      clear hi
      go_upto_region 7 with fail
      have hc : Hid (w.cell? ⟨b, off + j * 16 + 1, none⟩ = some (.int .i64 (m1 : Int))) := by
        have h1 := Sl.cellH (o := off + j * 16 + 1) (Sl.below HS.out HB.out) (j * 16 + 1) (by omega) (by omega)
        rw [mh_at k j 1 (by omega), ← HM0.out] at h1
        rw [HM1.out]
        exact h1
      refine region_grow (val := fun i => [.slice (some ⟨b, off, none⟩) n cap, .int .i64 (j : Int), .pointer (some ⟨b, off + j * 16, none⟩), .pointer (some ⟨b, off + j * 16 + 1, none⟩), .int .i64 (m1 : Int), .int .i64 (m1 : Int), .bool false].getD i undef) (sp := fun _ => none) false (by kernel_rfl) (by kernel_rfl) [some 21, some 22, some 23, some 24, some 25, some 26, some 27] (by kernel_rfl) (fun _ _ h => by cases h) ?_ (fun v w hb hG => ?_)
      · refine ⟨gVal rfl (.inl ⟨rfl, rfl⟩) rfl (fun Lb v act wy K => by
         have e1 : act.eval (.tmp 0) = .slice (some ⟨b, off, none⟩) n cap := (K.off (x := .tmp 0) (by kernel_rfl)).trans rfl
         exact run_move _ rfl e1), ?_⟩
        refine ⟨gVal rfl (.inl ⟨rfl, rfl⟩) rfl (fun Lb v act wy K => by
         have e1 : act.eval (.tmp 5) = .int .i64 (j : Int) := (K.off (x := .tmp 5) (by kernel_rfl)).trans rfl
         exact run_move _ rfl e1), ?_⟩
        refine ⟨gVal rfl (.inl ⟨rfl, rfl⟩) rfl (fun Lb v act wy K => by
         have e1 : act.eval (.tmp 21) = .slice (some ⟨b, off, none⟩) n cap := K.at_val 0 (by kernel_rfl) (by kernel_rfl) rfl
         have e2 : act.eval (.tmp 22) = .int .i64 (j : Int) := K.at_val 1 (by kernel_rfl) (by kernel_rfl) rfl
         show (execOp act.eval _).run Tryz.prog wy = .ok (.value (.pointer (some ⟨b, off + j * 16, none⟩))) wy
         generalize act.eval = ρ at e1 e2 ⊢
         unfold execOp
         simp [go_sem, e1, e2, hlt]), ?_⟩
        refine ⟨gVal rfl (.inl ⟨rfl, rfl⟩) rfl (fun Lb v act wy K => by
         have e1 : act.eval (.tmp 23) = .pointer (some ⟨b, off + j * 16, none⟩) := K.at_val 2 (by kernel_rfl) (by kernel_rfl) rfl
         show (execOp act.eval _).run Tryz.prog wy = .ok (.value (.pointer (some ⟨b, off + j * 16 + 1, none⟩))) wy
         generalize act.eval = ρ at e1 ⊢
         unfold execOp
         simp [go_sem, e1]), ?_⟩
        refine ⟨gVal rfl (.inl ⟨rfl, rfl⟩) rfl (fun Lb v act wy K => by
         have e1 : act.eval (.tmp 24) = .pointer (some ⟨b, off + j * 16 + 1, none⟩) := K.at_val 3 (by kernel_rfl) (by kernel_rfl) rfl
         have e2 := Rg.cell_later (hc.out) K.bel
         show (execOp act.eval _).run Tryz.prog wy = .ok (.value (.int .i64 (m1 : Int))) wy
         generalize act.eval = ρ at e1 ⊢
         unfold execOp
         simp [go_sem, e1, e2]), ?_⟩
        refine ⟨gVal rfl (.inl ⟨rfl, rfl⟩) rfl (fun Lb v act wy K => by
         have e1 : act.eval (.tmp 1) = .int .i64 (m1 : Int) := (K.off (x := .tmp 1) (by kernel_rfl)).trans rfl
         exact run_move _ rfl e1), ?_⟩
        refine ⟨gVal rfl (.inl ⟨rfl, rfl⟩) rfl (fun Lb v act wy K => by
         have e1 : act.eval (.tmp 25) = .int .i64 (m1 : Int) := K.at_val 4 (by kernel_rfl) (by kernel_rfl) rfl
         have e2 : act.eval (.tmp 26) = .int .i64 (m1 : Int) := K.at_val 5 (by kernel_rfl) (by kernel_rfl) rfl
         show (execOp act.eval _).run Tryz.prog wy = .ok (.value (.bool false)) wy
         generalize act.eval = ρ at e1 e2 ⊢
         unfold execOp
         simp [go_sem, e1, e2]), ?_⟩
        exact trivial
      have el : v 6 = .bool false := hG 6 (by show 6 < 7; decide)
      replace HB := hid (HB.out.trans (hb.mono HB.out.size))
      clear hG hb hc
      simp only [putsAll, Act.put, List.setIfInBounds_toArray, List.set_cons_zero, List.set_cons_succ, el]
      clear el
      go_upto_region 9 with fail
      obtain ⟨m2, hm2⟩ : ∃ q : Nat, q = m1 + 1 := ⟨_, rfl⟩
      have HM2 : Hid (m2 = m0 + 2) := by have := HM1.out; show m2 = m0 + 2; omega
      have hi : Hid (IntKind.i64.wrap ((m1 : Int) + 1) = (m2 : Int)) := by have := HM0.out; have := HM1.out; have := HKB.out; show IntKind.i64.wrap _ = _; rw [wrapI _ (by omega)]; omega
      clear hm2
      refine region_inc rfl rfl rfl rfl _ _ _ _ _ rfl rfl rfl (m1 : Int) (m2 : Int) (by kernel_rfl) (by kernel_rfl) (fun ρ h1 h2 => by unfold execOp; simp [go_sem, h1, h2, hi.out]) (by kernel_rfl) ?_
      simp only [Act.put, List.setIfInBounds_toArray, List.set_cons_zero, List.set_cons_succ]
      clear hi
      go_upto_region 10 with fail
      have hq : Hid (Int.tmod (m2 : Int) 3 = 1) := tmod3 m2 1 (by have := HM2.out; have := HM0.out; have := HR.out; omega)
      have hc : Hid (w.cell? ⟨b, off + j * 16 + 2, none⟩ = some (.bool false)) := by
        have h1 := Sl.cellH (o := off + j * 16 + 2) (Sl.below HS.out HB.out) (j * 16 + 2) (by omega) (by omega)
        rw [mh_at k j 2 (by omega), ← HM0.out] at h1
        exact h1
      refine region_grow (val := fun i => [.slice (some ⟨b, off, none⟩) n cap, .int .i64 (j : Int), .pointer (some ⟨b, off + j * 16, none⟩), .pointer (some ⟨b, off + j * 16 + 2, none⟩), .bool false, .int .i64 (m2 : Int), .int .i64 1, .bool false, .bool false].getD i undef) (sp := fun _ => none) false (by kernel_rfl) (by kernel_rfl) [some 30, some 31, some 32, some 33, some 34, some 35, some 36, some 37, some 38] (by kernel_rfl) (fun _ _ h => by cases h) ?_ (fun v w hb hG => ?_)
      · refine ⟨gVal rfl (.inl ⟨rfl, rfl⟩) rfl (fun Lb v act wy K => by
         have e1 : act.eval (.tmp 0) = .slice (some ⟨b, off, none⟩) n cap := (K.off (x := .tmp 0) (by kernel_rfl)).trans rfl
         exact run_move _ rfl e1), ?_⟩
        refine ⟨gVal rfl (.inl ⟨rfl, rfl⟩) rfl (fun Lb v act wy K => by
         have e1 : act.eval (.tmp 5) = .int .i64 (j : Int) := (K.off (x := .tmp 5) (by kernel_rfl)).trans rfl
         exact run_move _ rfl e1), ?_⟩
        refine ⟨gVal rfl (.inl ⟨rfl, rfl⟩) rfl (fun Lb v act wy K => by
         have e1 : act.eval (.tmp 30) = .slice (some ⟨b, off, none⟩) n cap := K.at_val 0 (by kernel_rfl) (by kernel_rfl) rfl
         have e2 : act.eval (.tmp 31) = .int .i64 (j : Int) := K.at_val 1 (by kernel_rfl) (by kernel_rfl) rfl
         show (execOp act.eval _).run Tryz.prog wy = .ok (.value (.pointer (some ⟨b, off + j * 16, none⟩))) wy
         generalize act.eval = ρ at e1 e2 ⊢
         unfold execOp
         simp [go_sem, e1, e2, hlt]), ?_⟩
        refine ⟨gVal rfl (.inl ⟨rfl, rfl⟩) rfl (fun Lb v act wy K => by
         have e1 : act.eval (.tmp 32) = .pointer (some ⟨b, off + j * 16, none⟩) := K.at_val 2 (by kernel_rfl) (by kernel_rfl) rfl
         show (execOp act.eval _).run Tryz.prog wy = .ok (.value (.pointer (some ⟨b, off + j * 16 + 2, none⟩))) wy
         generalize act.eval = ρ at e1 ⊢
         unfold execOp
         simp [go_sem, e1]), ?_⟩
        refine ⟨gVal rfl (.inl ⟨rfl, rfl⟩) rfl (fun Lb v act wy K => by
         have e1 : act.eval (.tmp 33) = .pointer (some ⟨b, off + j * 16 + 2, none⟩) := K.at_val 3 (by kernel_rfl) (by kernel_rfl) rfl
         have e2 := Rg.cell_later (hc.out) K.bel
         show (execOp act.eval _).run Tryz.prog wy = .ok (.value (.bool false)) wy
         generalize act.eval = ρ at e1 ⊢
         unfold execOp
         simp [go_sem, e1, e2]), ?_⟩
        refine ⟨gVal rfl (.inl ⟨rfl, rfl⟩) rfl (fun Lb v act wy K => by
         have e1 : act.eval (.tmp 1) = .int .i64 (m2 : Int) := (K.off (x := .tmp 1) (by kernel_rfl)).trans rfl
         exact run_move _ rfl e1), ?_⟩
        refine ⟨gVal rfl (.inl ⟨rfl, rfl⟩) rfl (fun Lb v act wy K => by
         have e1 : act.eval (.tmp 35) = .int .i64 (m2 : Int) := K.at_val 5 (by kernel_rfl) (by kernel_rfl) rfl
         have ec : act.eval (.const (.int .i64 3)) = .int .i64 3 := rfl
         show (execOp act.eval _).run Tryz.prog wy = .ok (.value (.int .i64 1)) wy
         generalize act.eval = ρ at e1 ec ⊢
         unfold execOp
         simp [go_sem, e1, ec, hq.out]), ?_⟩
        refine ⟨gVal rfl (.inl ⟨rfl, rfl⟩) rfl (fun Lb v act wy K => by
         have e1 : act.eval (.tmp 36) = .int .i64 1 := K.at_val 6 (by kernel_rfl) (by kernel_rfl) rfl
         have ec : act.eval (.const (.int .i64 0)) = .int .i64 0 := rfl
         show (execOp act.eval _).run Tryz.prog wy = .ok (.value (.bool false)) wy
         generalize act.eval = ρ at e1 ec ⊢
         unfold execOp
         simp [go_sem, e1, ec]), ?_⟩
        refine ⟨gVal rfl (.inl ⟨rfl, rfl⟩) rfl (fun Lb v act wy K => by
         have e1 : act.eval (.tmp 34) = .bool false := K.at_val 4 (by kernel_rfl) (by kernel_rfl) rfl
         have e2 : act.eval (.tmp 37) = .bool false := K.at_val 7 (by kernel_rfl) (by kernel_rfl) rfl
         show (execOp act.eval _).run Tryz.prog wy = .ok (.value (.bool false)) wy
         generalize act.eval = ρ at e1 e2 ⊢
         unfold execOp
         simp [go_sem, e1, e2]), ?_⟩
        exact trivial
      have el : v 8 = .bool false := hG 8 (by show 8 < 9; decide)
      replace HB := hid (HB.out.trans (hb.mono HB.out.size))
      clear hG hb hc
      simp only [putsAll, Act.put, List.setIfInBounds_toArray, List.set_cons_zero, List.set_cons_succ, el]
      clear el
      clear hq
      go_upto_region 12 with fail
      obtain ⟨m3, hm3⟩ : ∃ q : Nat, q = m2 + 1 := ⟨_, rfl⟩
      have HM3 : Hid (m3 = m0 + 3) := by have := HM2.out; show m3 = m0 + 3; omega
      have hi : Hid (IntKind.i64.wrap ((m2 : Int) + 1) = (m3 : Int)) := by have := HM0.out; have := HM2.out; have := HKB.out; show IntKind.i64.wrap _ = _; rw [wrapI _ (by omega)]; omega
      clear hm3
      refine region_inc rfl rfl rfl rfl _ _ _ _ _ rfl rfl rfl (m2 : Int) (m3 : Int) (by kernel_rfl) (by kernel_rfl) (fun ρ h1 h2 => by unfold execOp; simp [go_sem, h1, h2, hi.out]) (by kernel_rfl) ?_
      simp only [Act.put, List.setIfInBounds_toArray, List.set_cons_zero, List.set_cons_succ]
      clear hi
      go_upto_region 13 with fail
      have hq : Hid (Int.tmod (m3 : Int) 3 = 2) := tmod3 m3 2 (by have := HM3.out; have := HM0.out; have := HR.out; omega)
      have hc : Hid (w.cell? ⟨b, off + j * 16 + 3, none⟩ = some (.bool false)) := by
        have h1 := Sl.cellH (o := off + j * 16 + 3) (Sl.below HS.out HB.out) (j * 16 + 3) (by omega) (by omega)
        rw [mh_at k j 3 (by omega), ← HM0.out] at h1
        exact h1
      refine region_grow (val := fun i => [.slice (some ⟨b, off, none⟩) n cap, .int .i64 (j : Int), .pointer (some ⟨b, off + j * 16, none⟩), .pointer (some ⟨b, off + j * 16 + 3, none⟩), .bool false, .int .i64 (m3 : Int), .int .i64 2, .bool false, .bool false].getD i undef) (sp := fun _ => none) false (by kernel_rfl) (by kernel_rfl) [some 41, some 42, some 43, some 44, some 45, some 46, some 47, some 48, some 49] (by kernel_rfl) (fun _ _ h => by cases h) ?_ (fun v w hb hG => ?_)
      · refine ⟨gVal rfl (.inl ⟨rfl, rfl⟩) rfl (fun Lb v act wy K => by
         have e1 : act.eval (.tmp 0) = .slice (some ⟨b, off, none⟩) n cap := (K.off (x := .tmp 0) (by kernel_rfl)).trans rfl
         exact run_move _ rfl e1), ?_⟩
        refine ⟨gVal rfl (.inl ⟨rfl, rfl⟩) rfl (fun Lb v act wy K => by
         have e1 : act.eval (.tmp 5) = .int .i64 (j : Int) := (K.off (x := .tmp 5) (by kernel_rfl)).trans rfl
         exact run_move _ rfl e1), ?_⟩
        refine ⟨gVal rfl (.inl ⟨rfl, rfl⟩) rfl (fun Lb v act wy K => by
         have e1 : act.eval (.tmp 41) = .slice (some ⟨b, off, none⟩) n cap := K.at_val 0 (by kernel_rfl) (by kernel_rfl) rfl
         have e2 : act.eval (.tmp 42) = .int .i64 (j : Int) := K.at_val 1 (by kernel_rfl) (by kernel_rfl) rfl
         show (execOp act.eval _).run Tryz.prog wy = .ok (.value (.pointer (some ⟨b, off + j * 16, none⟩))) wy
         generalize act.eval = ρ at e1 e2 ⊢
         unfold execOp
         simp [go_sem, e1, e2, hlt]), ?_⟩
        refine ⟨gVal rfl (.inl ⟨rfl, rfl⟩) rfl (fun Lb v act wy K => by
         have e1 : act.eval (.tmp 43) = .pointer (some ⟨b, off + j * 16, none⟩) := K.at_val 2 (by kernel_rfl) (by kernel_rfl) rfl
         show (execOp act.eval _).run Tryz.prog wy = .ok (.value (.pointer (some ⟨b, off + j * 16 + 3, none⟩))) wy
         generalize act.eval = ρ at e1 ⊢
         unfold execOp
         simp [go_sem, e1]), ?_⟩
        refine ⟨gVal rfl (.inl ⟨rfl, rfl⟩) rfl (fun Lb v act wy K => by
         have e1 : act.eval (.tmp 44) = .pointer (some ⟨b, off + j * 16 + 3, none⟩) := K.at_val 3 (by kernel_rfl) (by kernel_rfl) rfl
         have e2 := Rg.cell_later (hc.out) K.bel
         show (execOp act.eval _).run Tryz.prog wy = .ok (.value (.bool false)) wy
         generalize act.eval = ρ at e1 ⊢
         unfold execOp
         simp [go_sem, e1, e2]), ?_⟩
        refine ⟨gVal rfl (.inl ⟨rfl, rfl⟩) rfl (fun Lb v act wy K => by
         have e1 : act.eval (.tmp 1) = .int .i64 (m3 : Int) := (K.off (x := .tmp 1) (by kernel_rfl)).trans rfl
         exact run_move _ rfl e1), ?_⟩
        refine ⟨gVal rfl (.inl ⟨rfl, rfl⟩) rfl (fun Lb v act wy K => by
         have e1 : act.eval (.tmp 46) = .int .i64 (m3 : Int) := K.at_val 5 (by kernel_rfl) (by kernel_rfl) rfl
         have ec : act.eval (.const (.int .i64 3)) = .int .i64 3 := rfl
         show (execOp act.eval _).run Tryz.prog wy = .ok (.value (.int .i64 2)) wy
         generalize act.eval = ρ at e1 ec ⊢
         unfold execOp
         simp [go_sem, e1, ec, hq.out]), ?_⟩
        refine ⟨gVal rfl (.inl ⟨rfl, rfl⟩) rfl (fun Lb v act wy K => by
         have e1 : act.eval (.tmp 47) = .int .i64 2 := K.at_val 6 (by kernel_rfl) (by kernel_rfl) rfl
         have ec : act.eval (.const (.int .i64 0)) = .int .i64 0 := rfl
         show (execOp act.eval _).run Tryz.prog wy = .ok (.value (.bool false)) wy
         generalize act.eval = ρ at e1 ec ⊢
         unfold execOp
         simp [go_sem, e1, ec]), ?_⟩
        refine ⟨gVal rfl (.inl ⟨rfl, rfl⟩) rfl (fun Lb v act wy K => by
         have e1 : act.eval (.tmp 45) = .bool false := K.at_val 4 (by kernel_rfl) (by kernel_rfl) rfl
         have e2 : act.eval (.tmp 48) = .bool false := K.at_val 7 (by kernel_rfl) (by kernel_rfl) rfl
         show (execOp act.eval _).run Tryz.prog wy = .ok (.value (.bool false)) wy
         generalize act.eval = ρ at e1 e2 ⊢
         unfold execOp
         simp [go_sem, e1, e2]), ?_⟩
        exact trivial
      have el : v 8 = .bool false := hG 8 (by show 8 < 9; decide)
      replace HB := hid (HB.out.trans (hb.mono HB.out.size))
      clear hG hb hc
      simp only [putsAll, Act.put, List.setIfInBounds_toArray, List.set_cons_zero, List.set_cons_succ, el]
      clear el
      clear hq
      go_upto_region 15 with fail
      obtain ⟨m4, hm4⟩ : ∃ q : Nat, q = m3 + 1 := ⟨_, rfl⟩
      have HM4 : Hid (m4 = m0 + 4) := by have := HM3.out; show m4 = m0 + 4; omega
      have hi : Hid (IntKind.i64.wrap ((m3 : Int) + 1) = (m4 : Int)) := by have := HM0.out; have := HM3.out; have := HKB.out; show IntKind.i64.wrap _ = _; rw [wrapI _ (by omega)]; omega
      clear hm4
      refine region_inc rfl rfl rfl rfl _ _ _ _ _ rfl rfl rfl (m3 : Int) (m4 : Int) (by kernel_rfl) (by kernel_rfl) (fun ρ h1 h2 => by unfold execOp; simp [go_sem, h1, h2, hi.out]) (by kernel_rfl) ?_
      simp only [Act.put, List.setIfInBounds_toArray, List.set_cons_zero, List.set_cons_succ]
      clear hi
      go_upto_region 16 with fail
      have hq : Hid (Int.tmod (m4 : Int) 3 = 0) := tmod3 m4 0 (by have := HM4.out; have := HM0.out; have := HR.out; omega)
      have hc : Hid (w.cell? ⟨b, off + j * 16 + 4, none⟩ = some (.bool true)) := by
        have h1 := Sl.cellH (o := off + j * 16 + 4) (Sl.below HS.out HB.out) (j * 16 + 4) (by omega) (by omega)
        rw [mh_at k j 4 (by omega), ← HM0.out] at h1
        exact h1
      refine region_grow (val := fun i => [.slice (some ⟨b, off, none⟩) n cap, .int .i64 (j : Int), .pointer (some ⟨b, off + j * 16, none⟩), .pointer (some ⟨b, off + j * 16 + 4, none⟩), .bool true, .int .i64 (m4 : Int), .int .i64 0, .bool true, .bool false].getD i undef) (sp := fun _ => none) false (by kernel_rfl) (by kernel_rfl) [some 52, some 53, some 54, some 55, some 56, some 57, some 58, some 59, some 60] (by kernel_rfl) (fun _ _ h => by cases h) ?_ (fun v w hb hG => ?_)
      · refine ⟨gVal rfl (.inl ⟨rfl, rfl⟩) rfl (fun Lb v act wy K => by
         have e1 : act.eval (.tmp 0) = .slice (some ⟨b, off, none⟩) n cap := (K.off (x := .tmp 0) (by kernel_rfl)).trans rfl
         exact run_move _ rfl e1), ?_⟩
        refine ⟨gVal rfl (.inl ⟨rfl, rfl⟩) rfl (fun Lb v act wy K => by
         have e1 : act.eval (.tmp 5) = .int .i64 (j : Int) := (K.off (x := .tmp 5) (by kernel_rfl)).trans rfl
         exact run_move _ rfl e1), ?_⟩
        refine ⟨gVal rfl (.inl ⟨rfl, rfl⟩) rfl (fun Lb v act wy K => by
         have e1 : act.eval (.tmp 52) = .slice (some ⟨b, off, none⟩) n cap := K.at_val 0 (by kernel_rfl) (by kernel_rfl) rfl
         have e2 : act.eval (.tmp 53) = .int .i64 (j : Int) := K.at_val 1 (by kernel_rfl) (by kernel_rfl) rfl
         show (execOp act.eval _).run Tryz.prog wy = .ok (.value (.pointer (some ⟨b, off + j * 16, none⟩))) wy
         generalize act.eval = ρ at e1 e2 ⊢
         unfold execOp
         simp [go_sem, e1, e2, hlt]), ?_⟩
        refine ⟨gVal rfl (.inl ⟨rfl, rfl⟩) rfl (fun Lb v act wy K => by
         have e1 : act.eval (.tmp 54) = .pointer (some ⟨b, off + j * 16, none⟩) := K.at_val 2 (by kernel_rfl) (by kernel_rfl) rfl
         show (execOp act.eval _).run Tryz.prog wy = .ok (.value (.pointer (some ⟨b, off + j * 16 + 4, none⟩))) wy
         generalize act.eval = ρ at e1 ⊢
         unfold execOp
         simp [go_sem, e1]), ?_⟩
        refine ⟨gVal rfl (.inl ⟨rfl, rfl⟩) rfl (fun Lb v act wy K => by
         have e1 : act.eval (.tmp 55) = .pointer (some ⟨b, off + j * 16 + 4, none⟩) := K.at_val 3 (by kernel_rfl) (by kernel_rfl) rfl
         have e2 := Rg.cell_later (hc.out) K.bel
         show (execOp act.eval _).run Tryz.prog wy = .ok (.value (.bool true)) wy
         generalize act.eval = ρ at e1 ⊢
         unfold execOp
         simp [go_sem, e1, e2]), ?_⟩
        refine ⟨gVal rfl (.inl ⟨rfl, rfl⟩) rfl (fun Lb v act wy K => by
         have e1 : act.eval (.tmp 1) = .int .i64 (m4 : Int) := (K.off (x := .tmp 1) (by kernel_rfl)).trans rfl
         exact run_move _ rfl e1), ?_⟩
        refine ⟨gVal rfl (.inl ⟨rfl, rfl⟩) rfl (fun Lb v act wy K => by
         have e1 : act.eval (.tmp 57) = .int .i64 (m4 : Int) := K.at_val 5 (by kernel_rfl) (by kernel_rfl) rfl
         have ec : act.eval (.const (.int .i64 3)) = .int .i64 3 := rfl
         show (execOp act.eval _).run Tryz.prog wy = .ok (.value (.int .i64 0)) wy
         generalize act.eval = ρ at e1 ec ⊢
         unfold execOp
         simp [go_sem, e1, ec, hq.out]), ?_⟩
        refine ⟨gVal rfl (.inl ⟨rfl, rfl⟩) rfl (fun Lb v act wy K => by
         have e1 : act.eval (.tmp 58) = .int .i64 0 := K.at_val 6 (by kernel_rfl) (by kernel_rfl) rfl
         have ec : act.eval (.const (.int .i64 0)) = .int .i64 0 := rfl
         show (execOp act.eval _).run Tryz.prog wy = .ok (.value (.bool true)) wy
         generalize act.eval = ρ at e1 ec ⊢
         unfold execOp
         simp [go_sem, e1, ec]), ?_⟩
        refine ⟨gVal rfl (.inl ⟨rfl, rfl⟩) rfl (fun Lb v act wy K => by
         have e1 : act.eval (.tmp 56) = .bool true := K.at_val 4 (by kernel_rfl) (by kernel_rfl) rfl
         have e2 : act.eval (.tmp 59) = .bool true := K.at_val 7 (by kernel_rfl) (by kernel_rfl) rfl
         show (execOp act.eval _).run Tryz.prog wy = .ok (.value (.bool false)) wy
         generalize act.eval = ρ at e1 e2 ⊢
         unfold execOp
         simp [go_sem, e1, e2]), ?_⟩
        exact trivial
      have el : v 8 = .bool false := hG 8 (by show 8 < 9; decide)
      replace HB := hid (HB.out.trans (hb.mono HB.out.size))
      clear hG hb hc
      simp only [putsAll, Act.put, List.setIfInBounds_toArray, List.set_cons_zero, List.set_cons_succ, el]
      clear el
      clear hq
      go_upto_region 18 with fail
      obtain ⟨m5, hm5⟩ : ∃ q : Nat, q = m4 + 1 := ⟨_, rfl⟩
      have HM5 : Hid (m5 = m0 + 5) := by have := HM4.out; show m5 = m0 + 5; omega
      have hi : Hid (IntKind.i64.wrap ((m4 : Int) + 1) = (m5 : Int)) := by have := HM0.out; have := HM4.out; have := HKB.out; show IntKind.i64.wrap _ = _; rw [wrapI _ (by omega)]; omega
      clear hm5
      refine region_inc rfl rfl rfl rfl _ _ _ _ _ rfl rfl rfl (m4 : Int) (m5 : Int) (by kernel_rfl) (by kernel_rfl) (fun ρ h1 h2 => by unfold execOp; simp [go_sem, h1, h2, hi.out]) (by kernel_rfl) ?_
      simp only [Act.put, List.setIfInBounds_toArray, List.set_cons_zero, List.set_cons_succ]
      clear hi
      go_upto_region 19 with fail
      have hc : Hid (w.cell? ⟨b, off + j * 16 + 5, none⟩ = some (.int .i64 (m5 : Int))) := by
        have h1 := Sl.cellH (o := off + j * 16 + 5) (Sl.below HS.out HB.out) (j * 16 + 5) (by omega) (by omega)
        rw [mh_at k j 5 (by omega), ← HM0.out] at h1
        rw [HM5.out]
        exact h1
      refine region_grow (val := fun i => [.slice (some ⟨b, off, none⟩) n cap, .int .i64 (j : Int), .pointer (some ⟨b, off + j * 16, none⟩), .pointer (some ⟨b, off + j * 16 + 5, none⟩), .pointer (some ⟨b, off + j * 16 + 5, none⟩), .int .i64 (m5 : Int), .int .i64 (m5 : Int), .bool false].getD i undef) (sp := fun _ => none) false (by kernel_rfl) (by kernel_rfl) [some 63, some 64, some 65, some 66, some 67, some 68, some 69, some 70] (by kernel_rfl) (fun _ _ h => by cases h) ?_ (fun v w hb hG => ?_)
      · refine ⟨gVal rfl (.inl ⟨rfl, rfl⟩) rfl (fun Lb v act wy K => by
         have e1 : act.eval (.tmp 0) = .slice (some ⟨b, off, none⟩) n cap := (K.off (x := .tmp 0) (by kernel_rfl)).trans rfl
         exact run_move _ rfl e1), ?_⟩
        refine ⟨gVal rfl (.inl ⟨rfl, rfl⟩) rfl (fun Lb v act wy K => by
         have e1 : act.eval (.tmp 5) = .int .i64 (j : Int) := (K.off (x := .tmp 5) (by kernel_rfl)).trans rfl
         exact run_move _ rfl e1), ?_⟩
        refine ⟨gVal rfl (.inl ⟨rfl, rfl⟩) rfl (fun Lb v act wy K => by
         have e1 : act.eval (.tmp 63) = .slice (some ⟨b, off, none⟩) n cap := K.at_val 0 (by kernel_rfl) (by kernel_rfl) rfl
         have e2 : act.eval (.tmp 64) = .int .i64 (j : Int) := K.at_val 1 (by kernel_rfl) (by kernel_rfl) rfl
         show (execOp act.eval _).run Tryz.prog wy = .ok (.value (.pointer (some ⟨b, off + j * 16, none⟩))) wy
         generalize act.eval = ρ at e1 e2 ⊢
         unfold execOp
         simp [go_sem, e1, e2, hlt]), ?_⟩
        refine ⟨gVal rfl (.inl ⟨rfl, rfl⟩) rfl (fun Lb v act wy K => by
         have e1 : act.eval (.tmp 65) = .pointer (some ⟨b, off + j * 16, none⟩) := K.at_val 2 (by kernel_rfl) (by kernel_rfl) rfl
         show (execOp act.eval _).run Tryz.prog wy = .ok (.value (.pointer (some ⟨b, off + j * 16 + 5, none⟩))) wy
         generalize act.eval = ρ at e1 ⊢
         unfold execOp
         simp [go_sem, e1]), ?_⟩
        refine ⟨gVal rfl (.inl ⟨rfl, rfl⟩) rfl (fun Lb v act wy K => by
         have e1 : act.eval (.tmp 66) = .pointer (some ⟨b, off + j * 16 + 5, none⟩) := K.at_val 3 (by kernel_rfl) (by kernel_rfl) rfl
         show (execOp act.eval _).run Tryz.prog wy = .ok (.value (.pointer (some ⟨b, off + j * 16 + 5, none⟩))) wy
         generalize act.eval = ρ at e1 ⊢
         unfold execOp
         simp [go_sem, e1]), ?_⟩
        refine ⟨gVal rfl (.inl ⟨rfl, rfl⟩) rfl (fun Lb v act wy K => by
         have e1 : act.eval (.tmp 67) = .pointer (some ⟨b, off + j * 16 + 5, none⟩) := K.at_val 4 (by kernel_rfl) (by kernel_rfl) rfl
         have e2 := Rg.cell_later (hc.out) K.bel
         show (execOp act.eval _).run Tryz.prog wy = .ok (.value (.int .i64 (m5 : Int))) wy
         generalize act.eval = ρ at e1 ⊢
         unfold execOp
         simp [go_sem, e1, e2]), ?_⟩
        refine ⟨gVal rfl (.inl ⟨rfl, rfl⟩) rfl (fun Lb v act wy K => by
         have e1 : act.eval (.tmp 1) = .int .i64 (m5 : Int) := (K.off (x := .tmp 1) (by kernel_rfl)).trans rfl
         exact run_move _ rfl e1), ?_⟩
        refine ⟨gVal rfl (.inl ⟨rfl, rfl⟩) rfl (fun Lb v act wy K => by
         have e1 : act.eval (.tmp 68) = .int .i64 (m5 : Int) := K.at_val 5 (by kernel_rfl) (by kernel_rfl) rfl
         have e2 : act.eval (.tmp 69) = .int .i64 (m5 : Int) := K.at_val 6 (by kernel_rfl) (by kernel_rfl) rfl
         show (execOp act.eval _).run Tryz.prog wy = .ok (.value (.bool false)) wy
         generalize act.eval = ρ at e1 e2 ⊢
         unfold execOp
         simp [go_sem, e1, e2]), ?_⟩
        exact trivial
      have el : v 7 = .bool false := hG 7 (by show 7 < 8; decide)
      replace HB := hid (HB.out.trans (hb.mono HB.out.size))
      clear hG hb hc
      simp only [putsAll, Act.put, List.setIfInBounds_toArray, List.set_cons_zero, List.set_cons_succ, el]
      clear el
      go_upto_region 21 with fail
      obtain ⟨m6, hm6⟩ : ∃ q : Nat, q = m5 + 1 := ⟨_, rfl⟩
      have HM6 : Hid (m6 = m0 + 6) := by have := HM5.out; show m6 = m0 + 6; omega
      have hi : Hid (IntKind.i64.wrap ((m5 : Int) + 1) = (m6 : Int)) := by have := HM0.out; have := HM5.out; have := HKB.out; show IntKind.i64.wrap _ = _; rw [wrapI _ (by omega)]; omega
      clear hm6
      refine region_inc rfl rfl rfl rfl _ _ _ _ _ rfl rfl rfl (m5 : Int) (m6 : Int) (by kernel_rfl) (by kernel_rfl) (fun ρ h1 h2 => by unfold execOp; simp [go_sem, h1, h2, hi.out]) (by kernel_rfl) ?_
      simp only [Act.put, List.setIfInBounds_toArray, List.set_cons_zero, List.set_cons_succ]
      clear hi
      go_upto_region 22 with fail
      have hc : Hid (w.cell? ⟨b, off + j * 16 + 5 + 1, none⟩ = some (.int .i64 (m6 : Int))) := by
        have h1 := Sl.cellH (o := off + j * 16 + 5 + 1) (Sl.below HS.out HB.out) (j * 16 + 6) (by omega) (by omega)
        rw [mh_at k j 6 (by omega), ← HM0.out] at h1
        rw [HM6.out]
        exact h1
      refine region_grow (val := fun i => [.slice (some ⟨b, off, none⟩) n cap, .int .i64 (j : Int), .pointer (some ⟨b, off + j * 16, none⟩), .pointer (some ⟨b, off + j * 16 + 5, none⟩), .pointer (some ⟨b, off + j * 16 + 5 + 1, none⟩), .int .i64 (m6 : Int), .int .i64 (m6 : Int), .bool false].getD i undef) (sp := fun _ => none) false (by kernel_rfl) (by kernel_rfl) [some 73, some 74, some 75, some 76, some 77, some 78, some 79, some 80] (by kernel_rfl) (fun _ _ h => by cases h) ?_ (fun v w hb hG => ?_)
      · refine ⟨gVal rfl (.inl ⟨rfl, rfl⟩) rfl (fun Lb v act wy K => by
         have e1 : act.eval (.tmp 0) = .slice (some ⟨b, off, none⟩) n cap := (K.off (x := .tmp 0) (by kernel_rfl)).trans rfl
         exact run_move _ rfl e1), ?_⟩
        refine ⟨gVal rfl (.inl ⟨rfl, rfl⟩) rfl (fun Lb v act wy K => by
         have e1 : act.eval (.tmp 5) = .int .i64 (j : Int) := (K.off (x := .tmp 5) (by kernel_rfl)).trans rfl
         exact run_move _ rfl e1), ?_⟩
        refine ⟨gVal rfl (.inl ⟨rfl, rfl⟩) rfl (fun Lb v act wy K => by
         have e1 : act.eval (.tmp 73) = .slice (some ⟨b, off, none⟩) n cap := K.at_val 0 (by kernel_rfl) (by kernel_rfl) rfl
         have e2 : act.eval (.tmp 74) = .int .i64 (j : Int) := K.at_val 1 (by kernel_rfl) (by kernel_rfl) rfl
         show (execOp act.eval _).run Tryz.prog wy = .ok (.value (.pointer (some ⟨b, off + j * 16, none⟩))) wy
         generalize act.eval = ρ at e1 e2 ⊢
         unfold execOp
         simp [go_sem, e1, e2, hlt]), ?_⟩
        refine ⟨gVal rfl (.inl ⟨rfl, rfl⟩) rfl (fun Lb v act wy K => by
         have e1 : act.eval (.tmp 75) = .pointer (some ⟨b, off + j * 16, none⟩) := K.at_val 2 (by kernel_rfl) (by kernel_rfl) rfl
         show (execOp act.eval _).run Tryz.prog wy = .ok (.value (.pointer (some ⟨b, off + j * 16 + 5, none⟩))) wy
         generalize act.eval = ρ at e1 ⊢
         unfold execOp
         simp [go_sem, e1]), ?_⟩
        refine ⟨gVal rfl (.inl ⟨rfl, rfl⟩) rfl (fun Lb v act wy K => by
         have e1 : act.eval (.tmp 76) = .pointer (some ⟨b, off + j * 16 + 5, none⟩) := K.at_val 3 (by kernel_rfl) (by kernel_rfl) rfl
         show (execOp act.eval _).run Tryz.prog wy = .ok (.value (.pointer (some ⟨b, off + j * 16 + 5 + 1, none⟩))) wy
         generalize act.eval = ρ at e1 ⊢
         unfold execOp
         simp [go_sem, e1]), ?_⟩
        refine ⟨gVal rfl (.inl ⟨rfl, rfl⟩) rfl (fun Lb v act wy K => by
         have e1 : act.eval (.tmp 77) = .pointer (some ⟨b, off + j * 16 + 5 + 1, none⟩) := K.at_val 4 (by kernel_rfl) (by kernel_rfl) rfl
         have e2 := Rg.cell_later (hc.out) K.bel
         show (execOp act.eval _).run Tryz.prog wy = .ok (.value (.int .i64 (m6 : Int))) wy
         generalize act.eval = ρ at e1 ⊢
         unfold execOp
         simp [go_sem, e1, e2]), ?_⟩
        refine ⟨gVal rfl (.inl ⟨rfl, rfl⟩) rfl (fun Lb v act wy K => by
         have e1 : act.eval (.tmp 1) = .int .i64 (m6 : Int) := (K.off (x := .tmp 1) (by kernel_rfl)).trans rfl
         exact run_move _ rfl e1), ?_⟩
        refine ⟨gVal rfl (.inl ⟨rfl, rfl⟩) rfl (fun Lb v act wy K => by
         have e1 : act.eval (.tmp 78) = .int .i64 (m6 : Int) := K.at_val 5 (by kernel_rfl) (by kernel_rfl) rfl
         have e2 : act.eval (.tmp 79) = .int .i64 (m6 : Int) := K.at_val 6 (by kernel_rfl) (by kernel_rfl) rfl
         show (execOp act.eval _).run Tryz.prog wy = .ok (.value (.bool false)) wy
         generalize act.eval = ρ at e1 e2 ⊢
         unfold execOp
         simp [go_sem, e1, e2]), ?_⟩
        exact trivial
      have el : v 7 = .bool false := hG 7 (by show 7 < 8; decide)
      replace HB := hid (HB.out.trans (hb.mono HB.out.size))
      clear hG hb hc
      simp only [putsAll, Act.put, List.setIfInBounds_toArray, List.set_cons_zero, List.set_cons_succ, el]
      clear el
      go_upto_region 24 with fail
      obtain ⟨m7, hm7⟩ : ∃ q : Nat, q = m6 + 1 := ⟨_, rfl⟩
      have HM7 : Hid (m7 = m0 + 7) := by have := HM6.out; show m7 = m0 + 7; omega
      have hi : Hid (IntKind.i64.wrap ((m6 : Int) + 1) = (m7 : Int)) := by have := HM0.out; have := HM6.out; have := HKB.out; show IntKind.i64.wrap _ = _; rw [wrapI _ (by omega)]; omega
      clear hm7
      refine region_inc rfl rfl rfl rfl _ _ _ _ _ rfl rfl rfl (m6 : Int) (m7 : Int) (by kernel_rfl) (by kernel_rfl) (fun ρ h1 h2 => by unfold execOp; simp [go_sem, h1, h2, hi.out]) (by kernel_rfl) ?_
      simp only [Act.put, List.setIfInBounds_toArray, List.set_cons_zero, List.set_cons_succ]
      clear hi
      go_upto_region 25 with fail
      have hc : Hid (w.cell? ⟨b, off + j * 16 + 5 + 2, none⟩ = some (.int .i64 (m7 : Int))) := by
        have h1 := Sl.cellH (o := off + j * 16 + 5 + 2) (Sl.below HS.out HB.out) (j * 16 + 7) (by omega) (by omega)
        rw [mh_at k j 7 (by omega), ← HM0.out] at h1
        rw [HM7.out]
        exact h1
      refine region_grow (val := fun i => [.slice (some ⟨b, off, none⟩) n cap, .int .i64 (j : Int), .pointer (some ⟨b, off + j * 16, none⟩), .pointer (some ⟨b, off + j * 16 + 5, none⟩), .pointer (some ⟨b, off + j * 16 + 5 + 2, none⟩), .int .i64 (m7 : Int), .int .i64 (m7 : Int), .bool false].getD i undef) (sp := fun _ => none) false (by kernel_rfl) (by kernel_rfl) [some 83, some 84, some 85, some 86, some 87, some 88, some 89, some 90] (by kernel_rfl) (fun _ _ h => by cases h) ?_ (fun v w hb hG => ?_)
      · refine ⟨gVal rfl (.inl ⟨rfl, rfl⟩) rfl (fun Lb v act wy K => by
         have e1 : act.eval (.tmp 0) = .slice (some ⟨b, off, none⟩) n cap := (K.off (x := .tmp 0) (by kernel_rfl)).trans rfl
         exact run_move _ rfl e1), ?_⟩
        refine ⟨gVal rfl (.inl ⟨rfl, rfl⟩) rfl (fun Lb v act wy K => by
         have e1 : act.eval (.tmp 5) = .int .i64 (j : Int) := (K.off (x := .tmp 5) (by kernel_rfl)).trans rfl
         exact run_move _ rfl e1), ?_⟩
        refine ⟨gVal rfl (.inl ⟨rfl, rfl⟩) rfl (fun Lb v act wy K => by
         have e1 : act.eval (.tmp 83) = .slice (some ⟨b, off, none⟩) n cap := K.at_val 0 (by kernel_rfl) (by kernel_rfl) rfl
         have e2 : act.eval (.tmp 84) = .int .i64 (j : Int) := K.at_val 1 (by kernel_rfl) (by kernel_rfl) rfl
         show (execOp act.eval _).run Tryz.prog wy = .ok (.value (.pointer (some ⟨b, off + j * 16, none⟩))) wy
         generalize act.eval = ρ at e1 e2 ⊢
         unfold execOp
         simp [go_sem, e1, e2, hlt]), ?_⟩
        refine ⟨gVal rfl (.inl ⟨rfl, rfl⟩) rfl (fun Lb v act wy K => by
         have e1 : act.eval (.tmp 85) = .pointer (some ⟨b, off + j * 16, none⟩) := K.at_val 2 (by kernel_rfl) (by kernel_rfl) rfl
         show (execOp act.eval _).run Tryz.prog wy = .ok (.value (.pointer (some ⟨b, off + j * 16 + 5, none⟩))) wy
         generalize act.eval = ρ at e1 ⊢
         unfold execOp
         simp [go_sem, e1]), ?_⟩
        refine ⟨gVal rfl (.inl ⟨rfl, rfl⟩) rfl (fun Lb v act wy K => by
         have e1 : act.eval (.tmp 86) = .pointer (some ⟨b, off + j * 16 + 5, none⟩) := K.at_val 3 (by kernel_rfl) (by kernel_rfl) rfl
         show (execOp act.eval _).run Tryz.prog wy = .ok (.value (.pointer (some ⟨b, off + j * 16 + 5 + 2, none⟩))) wy
         generalize act.eval = ρ at e1 ⊢
         unfold execOp
         simp [go_sem, e1]), ?_⟩
        refine ⟨gVal rfl (.inl ⟨rfl, rfl⟩) rfl (fun Lb v act wy K => by
         have e1 : act.eval (.tmp 87) = .pointer (some ⟨b, off + j * 16 + 5 + 2, none⟩) := K.at_val 4 (by kernel_rfl) (by kernel_rfl) rfl
         have e2 := Rg.cell_later (hc.out) K.bel
         show (execOp act.eval _).run Tryz.prog wy = .ok (.value (.int .i64 (m7 : Int))) wy
         generalize act.eval = ρ at e1 ⊢
         unfold execOp
         simp [go_sem, e1, e2]), ?_⟩
        refine ⟨gVal rfl (.inl ⟨rfl, rfl⟩) rfl (fun Lb v act wy K => by
         have e1 : act.eval (.tmp 1) = .int .i64 (m7 : Int) := (K.off (x := .tmp 1) (by kernel_rfl)).trans rfl
         exact run_move _ rfl e1), ?_⟩
        refine ⟨gVal rfl (.inl ⟨rfl, rfl⟩) rfl (fun Lb v act wy K => by
         have e1 : act.eval (.tmp 88) = .int .i64 (m7 : Int) := K.at_val 5 (by kernel_rfl) (by kernel_rfl) rfl
         have e2 : act.eval (.tmp 89) = .int .i64 (m7 : Int) := K.at_val 6 (by kernel_rfl) (by kernel_rfl) rfl
         show (execOp act.eval _).run Tryz.prog wy = .ok (.value (.bool false)) wy
         generalize act.eval = ρ at e1 e2 ⊢
         unfold execOp
         simp [go_sem, e1, e2]), ?_⟩
        exact trivial
      have el : v 7 = .bool false := hG 7 (by show 7 < 8; decide)
      replace HB := hid (HB.out.trans (hb.mono HB.out.size))
      clear hG hb hc
      simp only [putsAll, Act.put, List.setIfInBounds_toArray, List.set_cons_zero, List.set_cons_succ, el]
      clear el
      go_upto_region 27 with fail
      obtain ⟨m8, hm8⟩ : ∃ q : Nat, q = m7 + 1 := ⟨_, rfl⟩
      have HM8 : Hid (m8 = m0 + 8) := by have := HM7.out; show m8 = m0 + 8; omega
      have hi : Hid (IntKind.i64.wrap ((m7 : Int) + 1) = (m8 : Int)) := by have := HM0.out; have := HM7.out; have := HKB.out; show IntKind.i64.wrap _ = _; rw [wrapI _ (by omega)]; omega
      clear hm8
      refine region_inc rfl rfl rfl rfl _ _ _ _ _ rfl rfl rfl (m7 : Int) (m8 : Int) (by kernel_rfl) (by kernel_rfl) (fun ρ h1 h2 => by unfold execOp; simp [go_sem, h1, h2, hi.out]) (by kernel_rfl) ?_
      simp only [Act.put, List.setIfInBounds_toArray, List.set_cons_zero, List.set_cons_succ]
      clear hi
      go_upto_region 28 with fail
      have hc : Hid (w.cell? ⟨b, off + j * 16 + 5 + 3, none⟩ = some (.int .i64 (m8 : Int))) := by
        have h1 := Sl.cellH (o := off + j * 16 + 5 + 3) (Sl.below HS.out HB.out) (j * 16 + 8) (by omega) (by omega)
        rw [mh_at k j 8 (by omega), ← HM0.out] at h1
        rw [HM8.out]
        exact h1
      refine region_grow (val := fun i => [.slice (some ⟨b, off, none⟩) n cap, .int .i64 (j : Int), .pointer (some ⟨b, off + j * 16, none⟩), .pointer (some ⟨b, off + j * 16 + 5, none⟩), .pointer (some ⟨b, off + j * 16 + 5 + 3, none⟩), .int .i64 (m8 : Int), .int .i64 (m8 : Int), .bool false].getD i undef) (sp := fun _ => none) false (by kernel_rfl) (by kernel_rfl) [some 93, some 94, some 95, some 96, some 97, some 98, some 99, some 100] (by kernel_rfl) (fun _ _ h => by cases h) ?_ (fun v w hb hG => ?_)
      · refine ⟨gVal rfl (.inl ⟨rfl, rfl⟩) rfl (fun Lb v act wy K => by
         have e1 : act.eval (.tmp 0) = .slice (some ⟨b, off, none⟩) n cap := (K.off (x := .tmp 0) (by kernel_rfl)).trans rfl
         exact run_move _ rfl e1), ?_⟩
        refine ⟨gVal rfl (.inl ⟨rfl, rfl⟩) rfl (fun Lb v act wy K => by
         have e1 : act.eval (.tmp 5) = .int .i64 (j : Int) := (K.off (x := .tmp 5) (by kernel_rfl)).trans rfl
         exact run_move _ rfl e1), ?_⟩
        refine ⟨gVal rfl (.inl ⟨rfl, rfl⟩) rfl (fun Lb v act wy K => by
         have e1 : act.eval (.tmp 93) = .slice (some ⟨b, off, none⟩) n cap := K.at_val 0 (by kernel_rfl) (by kernel_rfl) rfl
         have e2 : act.eval (.tmp 94) = .int .i64 (j : Int) := K.at_val 1 (by kernel_rfl) (by kernel_rfl) rfl
         show (execOp act.eval _).run Tryz.prog wy = .ok (.value (.pointer (some ⟨b, off + j * 16, none⟩))) wy
         generalize act.eval = ρ at e1 e2 ⊢
         unfold execOp
         simp [go_sem, e1, e2, hlt]), ?_⟩
        refine ⟨gVal rfl (.inl ⟨rfl, rfl⟩) rfl (fun Lb v act wy K => by
         have e1 : act.eval (.tmp 95) = .pointer (some ⟨b, off + j * 16, none⟩) := K.at_val 2 (by kernel_rfl) (by kernel_rfl) rfl
         show (execOp act.eval _).run Tryz.prog wy = .ok (.value (.pointer (some ⟨b, off + j * 16 + 5, none⟩))) wy
         generalize act.eval = ρ at e1 ⊢
         unfold execOp
         simp [go_sem, e1]), ?_⟩
        refine ⟨gVal rfl (.inl ⟨rfl, rfl⟩) rfl (fun Lb v act wy K => by
         have e1 : act.eval (.tmp 96) = .pointer (some ⟨b, off + j * 16 + 5, none⟩) := K.at_val 3 (by kernel_rfl) (by kernel_rfl) rfl
         show (execOp act.eval _).run Tryz.prog wy = .ok (.value (.pointer (some ⟨b, off + j * 16 + 5 + 3, none⟩))) wy
         generalize act.eval = ρ at e1 ⊢
         unfold execOp
         simp [go_sem, e1]), ?_⟩
        refine ⟨gVal rfl (.inl ⟨rfl, rfl⟩) rfl (fun Lb v act wy K => by
         have e1 : act.eval (.tmp 97) = .pointer (some ⟨b, off + j * 16 + 5 + 3, none⟩) := K.at_val 4 (by kernel_rfl) (by kernel_rfl) rfl
         have e2 := Rg.cell_later (hc.out) K.bel
         show (execOp act.eval _).run Tryz.prog wy = .ok (.value (.int .i64 (m8 : Int))) wy
         generalize act.eval = ρ at e1 ⊢
         unfold execOp
         simp [go_sem, e1, e2]), ?_⟩
        refine ⟨gVal rfl (.inl ⟨rfl, rfl⟩) rfl (fun Lb v act wy K => by
         have e1 : act.eval (.tmp 1) = .int .i64 (m8 : Int) := (K.off (x := .tmp 1) (by kernel_rfl)).trans rfl
         exact run_move _ rfl e1), ?_⟩
        refine ⟨gVal rfl (.inl ⟨rfl, rfl⟩) rfl (fun Lb v act wy K => by
         have e1 : act.eval (.tmp 98) = .int .i64 (m8 : Int) := K.at_val 5 (by kernel_rfl) (by kernel_rfl) rfl
         have e2 : act.eval (.tmp 99) = .int .i64 (m8 : Int) := K.at_val 6 (by kernel_rfl) (by kernel_rfl) rfl
         show (execOp act.eval _).run Tryz.prog wy = .ok (.value (.bool false)) wy
         generalize act.eval = ρ at e1 e2 ⊢
         unfold execOp
         simp [go_sem, e1, e2]), ?_⟩
        exact trivial
      have el : v 7 = .bool false := hG 7 (by show 7 < 8; decide)
      replace HB := hid (HB.out.trans (hb.mono HB.out.size))
      clear hG hb hc
      simp only [putsAll, Act.put, List.setIfInBounds_toArray, List.set_cons_zero, List.set_cons_succ, el]
      clear el
      go_upto_region 30 with fail
      obtain ⟨m9, hm9⟩ : ∃ q : Nat, q = m8 + 1 := ⟨_, rfl⟩
      have HM9 : Hid (m9 = m0 + 9) := by have := HM8.out; show m9 = m0 + 9; omega
      have hi : Hid (IntKind.i64.wrap ((m8 : Int) + 1) = (m9 : Int)) := by have := HM0.out; have := HM8.out; have := HKB.out; show IntKind.i64.wrap _ = _; rw [wrapI _ (by omega)]; omega
      clear hm9
      refine region_inc rfl rfl rfl rfl _ _ _ _ _ rfl rfl rfl (m8 : Int) (m9 : Int) (by kernel_rfl) (by kernel_rfl) (fun ρ h1 h2 => by unfold execOp; simp [go_sem, h1, h2, hi.out]) (by kernel_rfl) ?_
      simp only [Act.put, List.setIfInBounds_toArray, List.set_cons_zero, List.set_cons_succ]
      clear hi
      go_upto_region 31 with fail
      have HT := hid (fun u => markText m9 u (by have := HM9.out; omega) (by have := HM0.out; have := HM9.out; have := HKB.out; omega))
      have hc : Hid (w.cell? ⟨b, off + j * 16 + 5 + 4, none⟩ = some (.string (markS m9))) := by
        have h1 := Sl.cellH (o := off + j * 16 + 5 + 4) (Sl.below HS.out HB.out) (j * 16 + 9) (by omega) (by omega)
        rw [mh_at k j 9 (by omega), ← HM0.out] at h1
        rw [HM9.out]
        exact h1
      refine region_grow (val := fun i => [.slice (some ⟨b, off, none⟩) n cap, .int .i64 (j : Int), .pointer (some ⟨b, off + j * 16, none⟩), .pointer (some ⟨b, off + j * 16 + 5, none⟩), .pointer (some ⟨b, off + j * 16 + 5 + 4, none⟩), .string (markS m9), .int .i64 (m9 : Int), .string (markS m9), .bool false].getD i undef) (sp := fun _ => none) true (by kernel_rfl) (by kernel_rfl) [some 103, some 104, some 105, some 106, some 107, some 108, some 109, some 110, some 111] (by kernel_rfl) (fun _ _ h => by cases h) ?_ (fun v w hb hG => ?_)
      · refine ⟨gVal rfl (.inl ⟨rfl, rfl⟩) rfl (fun Lb v act wy K => by
         have e1 : act.eval (.tmp 0) = .slice (some ⟨b, off, none⟩) n cap := (K.off (x := .tmp 0) (by kernel_rfl)).trans rfl
         exact run_move _ rfl e1), ?_⟩
        refine ⟨gVal rfl (.inl ⟨rfl, rfl⟩) rfl (fun Lb v act wy K => by
         have e1 : act.eval (.tmp 5) = .int .i64 (j : Int) := (K.off (x := .tmp 5) (by kernel_rfl)).trans rfl
         exact run_move _ rfl e1), ?_⟩
        refine ⟨gVal rfl (.inl ⟨rfl, rfl⟩) rfl (fun Lb v act wy K => by
         have e1 : act.eval (.tmp 103) = .slice (some ⟨b, off, none⟩) n cap := K.at_val 0 (by kernel_rfl) (by kernel_rfl) rfl
         have e2 : act.eval (.tmp 104) = .int .i64 (j : Int) := K.at_val 1 (by kernel_rfl) (by kernel_rfl) rfl
         show (execOp act.eval _).run Tryz.prog wy = .ok (.value (.pointer (some ⟨b, off + j * 16, none⟩))) wy
         generalize act.eval = ρ at e1 e2 ⊢
         unfold execOp
         simp [go_sem, e1, e2, hlt]), ?_⟩
        refine ⟨gVal rfl (.inl ⟨rfl, rfl⟩) rfl (fun Lb v act wy K => by
         have e1 : act.eval (.tmp 105) = .pointer (some ⟨b, off + j * 16, none⟩) := K.at_val 2 (by kernel_rfl) (by kernel_rfl) rfl
         show (execOp act.eval _).run Tryz.prog wy = .ok (.value (.pointer (some ⟨b, off + j * 16 + 5, none⟩))) wy
         generalize act.eval = ρ at e1 ⊢
         unfold execOp
         simp [go_sem, e1]), ?_⟩
        refine ⟨gVal rfl (.inl ⟨rfl, rfl⟩) rfl (fun Lb v act wy K => by
         have e1 : act.eval (.tmp 106) = .pointer (some ⟨b, off + j * 16 + 5, none⟩) := K.at_val 3 (by kernel_rfl) (by kernel_rfl) rfl
         show (execOp act.eval _).run Tryz.prog wy = .ok (.value (.pointer (some ⟨b, off + j * 16 + 5 + 4, none⟩))) wy
         generalize act.eval = ρ at e1 ⊢
         unfold execOp
         simp [go_sem, e1]), ?_⟩
        refine ⟨gVal rfl (.inl ⟨rfl, rfl⟩) rfl (fun Lb v act wy K => by
         have e1 : act.eval (.tmp 107) = .pointer (some ⟨b, off + j * 16 + 5 + 4, none⟩) := K.at_val 4 (by kernel_rfl) (by kernel_rfl) rfl
         have e2 := Rg.cell_later (hc.out) K.bel
         show (execOp act.eval _).run Tryz.prog wy = .ok (.value (.string (markS m9))) wy
         generalize act.eval = ρ at e1 ⊢
         unfold execOp
         simp [go_sem, e1, e2]), ?_⟩
        refine ⟨gVal rfl (.inl ⟨rfl, rfl⟩) rfl (fun Lb v act wy K => by
         have e1 : act.eval (.tmp 1) = .int .i64 (m9 : Int) := (K.off (x := .tmp 1) (by kernel_rfl)).trans rfl
         exact run_move _ rfl e1), ?_⟩
        refine ⟨gCall rfl (.inl ⟨rfl, rfl⟩) 122 #[.tmp 109] _ (fun _ => #[.int .i64 (m9 : Int)]) rfl call_markText (fun Lb v act wy K => by
         have e1 : act.eval (.tmp 109) = .int .i64 (m9 : Int) := K.at_val 6 (by kernel_rfl) (by kernel_rfl) rfl
         simp only [List.map_toArray, List.map_cons, List.map_nil, e1]) (fun v w hb hs => (HT.out w).mono (fun e w' ⟨h1, h2⟩ => ⟨_, h1, h2, rfl⟩)), ?_⟩
        refine ⟨gVal rfl (.inl ⟨rfl, rfl⟩) rfl (fun Lb v act wy K => by
         have e1 : act.eval (.tmp 108) = .string (markS m9) := K.at_val 5 (by kernel_rfl) (by kernel_rfl) rfl
         have e2 : act.eval (.tmp 110) = .string (markS m9) := K.at_val 7 (by kernel_rfl) (by kernel_rfl) rfl
         show (execOp act.eval _).run Tryz.prog wy = .ok (.value (.bool false)) wy
         generalize act.eval = ρ at e1 e2 ⊢
         unfold execOp
         simp [go_sem, e1, e2]), ?_⟩
        exact trivial
      have el : v 8 = .bool false := hG 8 (by show 8 < 9; decide)
      replace HB := hid (HB.out.trans (hb.mono HB.out.size))
      clear hG hb hc
      simp only [putsAll, Act.put, List.setIfInBounds_toArray, List.set_cons_zero, List.set_cons_succ, el]
      clear el
      clear HT
      go_upto_region 33 with fail
      obtain ⟨m10, hm10⟩ : ∃ q : Nat, q = m9 + 1 := ⟨_, rfl⟩
      have HM10 : Hid (m10 = m0 + 10) := by have := HM9.out; show m10 = m0 + 10; omega
      have hi : Hid (IntKind.i64.wrap ((m9 : Int) + 1) = (m10 : Int)) := by have := HM0.out; have := HM9.out; have := HKB.out; show IntKind.i64.wrap _ = _; rw [wrapI _ (by omega)]; omega
      clear hm10
      refine region_inc rfl rfl rfl rfl _ _ _ _ _ rfl rfl rfl (m9 : Int) (m10 : Int) (by kernel_rfl) (by kernel_rfl) (fun ρ h1 h2 => by unfold execOp; simp [go_sem, h1, h2, hi.out]) (by kernel_rfl) ?_
      simp only [Act.put, List.setIfInBounds_toArray, List.set_cons_zero, List.set_cons_succ]
      clear hi
      go_upto_region 34 with fail
      have hc : Hid (w.cell? ⟨b, off + j * 16 + 10, none⟩ = some (.int .i64 (m10 : Int))) := by
        have h1 := Sl.cellH (o := off + j * 16 + 10) (Sl.below HS.out HB.out) (j * 16 + 10) (by omega) (by omega)
        rw [mh_at k j 10 (by omega), ← HM0.out] at h1
        rw [HM10.out]
        exact h1
      refine region_grow (val := fun i => [.slice (some ⟨b, off, none⟩) n cap, .int .i64 (j : Int), .pointer (some ⟨b, off + j * 16, none⟩), .pointer (some ⟨b, off + j * 16 + 10, none⟩), .int .i64 (m10 : Int), .int .i64 (m10 : Int), .bool false].getD i undef) (sp := fun _ => none) false (by kernel_rfl) (by kernel_rfl) [some 114, some 115, some 116, some 117, some 118, some 119, some 120] (by kernel_rfl) (fun _ _ h => by cases h) ?_ (fun v w hb hG => ?_)
      · refine ⟨gVal rfl (.inl ⟨rfl, rfl⟩) rfl (fun Lb v act wy K => by
         have e1 : act.eval (.tmp 0) = .slice (some ⟨b, off, none⟩) n cap := (K.off (x := .tmp 0) (by kernel_rfl)).trans rfl
         exact run_move _ rfl e1), ?_⟩
        refine ⟨gVal rfl (.inl ⟨rfl, rfl⟩) rfl (fun Lb v act wy K => by
         have e1 : act.eval (.tmp 5) = .int .i64 (j : Int) := (K.off (x := .tmp 5) (by kernel_rfl)).trans rfl
         exact run_move _ rfl e1), ?_⟩
        refine ⟨gVal rfl (.inl ⟨rfl, rfl⟩) rfl (fun Lb v act wy K => by
         have e1 : act.eval (.tmp 114) = .slice (some ⟨b, off, none⟩) n cap := K.at_val 0 (by kernel_rfl) (by kernel_rfl) rfl
         have e2 : act.eval (.tmp 115) = .int .i64 (j : Int) := K.at_val 1 (by kernel_rfl) (by kernel_rfl) rfl
         show (execOp act.eval _).run Tryz.prog wy = .ok (.value (.pointer (some ⟨b, off + j * 16, none⟩))) wy
         generalize act.eval = ρ at e1 e2 ⊢
         unfold execOp
         simp [go_sem, e1, e2, hlt]), ?_⟩
        refine ⟨gVal rfl (.inl ⟨rfl, rfl⟩) rfl (fun Lb v act wy K => by
         have e1 : act.eval (.tmp 116) = .pointer (some ⟨b, off + j * 16, none⟩) := K.at_val 2 (by kernel_rfl) (by kernel_rfl) rfl
         show (execOp act.eval _).run Tryz.prog wy = .ok (.value (.pointer (some ⟨b, off + j * 16 + 10, none⟩))) wy
         generalize act.eval = ρ at e1 ⊢
         unfold execOp
         simp [go_sem, e1]), ?_⟩
        refine ⟨gVal rfl (.inl ⟨rfl, rfl⟩) rfl (fun Lb v act wy K => by
         have e1 : act.eval (.tmp 117) = .pointer (some ⟨b, off + j * 16 + 10, none⟩) := K.at_val 3 (by kernel_rfl) (by kernel_rfl) rfl
         have e2 := Rg.cell_later (hc.out) K.bel
         show (execOp act.eval _).run Tryz.prog wy = .ok (.value (.int .i64 (m10 : Int))) wy
         generalize act.eval = ρ at e1 ⊢
         unfold execOp
         simp [go_sem, e1, e2]), ?_⟩
        refine ⟨gVal rfl (.inl ⟨rfl, rfl⟩) rfl (fun Lb v act wy K => by
         have e1 : act.eval (.tmp 1) = .int .i64 (m10 : Int) := (K.off (x := .tmp 1) (by kernel_rfl)).trans rfl
         exact run_move _ rfl e1), ?_⟩
        refine ⟨gVal rfl (.inl ⟨rfl, rfl⟩) rfl (fun Lb v act wy K => by
         have e1 : act.eval (.tmp 118) = .int .i64 (m10 : Int) := K.at_val 4 (by kernel_rfl) (by kernel_rfl) rfl
         have e2 : act.eval (.tmp 119) = .int .i64 (m10 : Int) := K.at_val 5 (by kernel_rfl) (by kernel_rfl) rfl
         show (execOp act.eval _).run Tryz.prog wy = .ok (.value (.bool false)) wy
         generalize act.eval = ρ at e1 e2 ⊢
         unfold execOp
         simp [go_sem, e1, e2]), ?_⟩
        exact trivial
      have el : v 6 = .bool false := hG 6 (by show 6 < 7; decide)
      replace HB := hid (HB.out.trans (hb.mono HB.out.size))
      clear hG hb hc
      simp only [putsAll, Act.put, List.setIfInBounds_toArray, List.set_cons_zero, List.set_cons_succ, el]
      clear el
      go_upto_region 36 with fail
      obtain ⟨m11, hm11⟩ : ∃ q : Nat, q = m10 + 1 := ⟨_, rfl⟩
      have HM11 : Hid (m11 = m0 + 11) := by have := HM10.out; show m11 = m0 + 11; omega
      have hi : Hid (IntKind.i64.wrap ((m10 : Int) + 1) = (m11 : Int)) := by have := HM0.out; have := HM10.out; have := HKB.out; show IntKind.i64.wrap _ = _; rw [wrapI _ (by omega)]; omega
      clear hm11
      refine region_inc rfl rfl rfl rfl _ _ _ _ _ rfl rfl rfl (m10 : Int) (m11 : Int) (by kernel_rfl) (by kernel_rfl) (fun ρ h1 h2 => by unfold execOp; simp [go_sem, h1, h2, hi.out]) (by kernel_rfl) ?_
      simp only [Act.put, List.setIfInBounds_toArray, List.set_cons_zero, List.set_cons_succ]
      clear hi
      go_upto_region 37 with fail
      have hc : Hid (w.cell? ⟨b, off + j * 16 + 11, none⟩ = some (.int .i64 (m11 : Int))) := by
        have h1 := Sl.cellH (o := off + j * 16 + 11) (Sl.below HS.out HB.out) (j * 16 + 11) (by omega) (by omega)
        rw [mh_at k j 11 (by omega), ← HM0.out] at h1
        rw [HM11.out]
        exact h1
      refine region_grow (val := fun i => [.slice (some ⟨b, off, none⟩) n cap, .int .i64 (j : Int), .pointer (some ⟨b, off + j * 16, none⟩), .pointer (some ⟨b, off + j * 16 + 11, none⟩), .pointer (some ⟨b, off + j * 16 + 11, none⟩), .int .i64 (m11 : Int), .int .i64 (m11 : Int), .bool false].getD i undef) (sp := fun _ => none) false (by kernel_rfl) (by kernel_rfl) [some 123, some 124, some 125, some 126, some 127, some 128, some 129, some 130] (by kernel_rfl) (fun _ _ h => by cases h) ?_ (fun v w hb hG => ?_)
      · refine ⟨gVal rfl (.inl ⟨rfl, rfl⟩) rfl (fun Lb v act wy K => by
         have e1 : act.eval (.tmp 0) = .slice (some ⟨b, off, none⟩) n cap := (K.off (x := .tmp 0) (by kernel_rfl)).trans rfl
         exact run_move _ rfl e1), ?_⟩
        refine ⟨gVal rfl (.inl ⟨rfl, rfl⟩) rfl (fun Lb v act wy K => by
         have e1 : act.eval (.tmp 5) = .int .i64 (j : Int) := (K.off (x := .tmp 5) (by kernel_rfl)).trans rfl
         exact run_move _ rfl e1), ?_⟩
        refine ⟨gVal rfl (.inl ⟨rfl, rfl⟩) rfl (fun Lb v act wy K => by
         have e1 : act.eval (.tmp 123) = .slice (some ⟨b, off, none⟩) n cap := K.at_val 0 (by kernel_rfl) (by kernel_rfl) rfl
         have e2 : act.eval (.tmp 124) = .int .i64 (j : Int) := K.at_val 1 (by kernel_rfl) (by kernel_rfl) rfl
         show (execOp act.eval _).run Tryz.prog wy = .ok (.value (.pointer (some ⟨b, off + j * 16, none⟩))) wy
         generalize act.eval = ρ at e1 e2 ⊢
         unfold execOp
         simp [go_sem, e1, e2, hlt]), ?_⟩
        refine ⟨gVal rfl (.inl ⟨rfl, rfl⟩) rfl (fun Lb v act wy K => by
         have e1 : act.eval (.tmp 125) = .pointer (some ⟨b, off + j * 16, none⟩) := K.at_val 2 (by kernel_rfl) (by kernel_rfl) rfl
         show (execOp act.eval _).run Tryz.prog wy = .ok (.value (.pointer (some ⟨b, off + j * 16 + 11, none⟩))) wy
         generalize act.eval = ρ at e1 ⊢
         unfold execOp
         simp [go_sem, e1]), ?_⟩
        refine ⟨gVal rfl (.inl ⟨rfl, rfl⟩) rfl (fun Lb v act wy K => by
         have e1 : act.eval (.tmp 126) = .pointer (some ⟨b, off + j * 16 + 11, none⟩) := K.at_val 3 (by kernel_rfl) (by kernel_rfl) rfl
         show (execOp act.eval _).run Tryz.prog wy = .ok (.value (.pointer (some ⟨b, off + j * 16 + 11, none⟩))) wy
         generalize act.eval = ρ at e1 ⊢
         unfold execOp
         simp [go_sem, e1]), ?_⟩
        refine ⟨gVal rfl (.inl ⟨rfl, rfl⟩) rfl (fun Lb v act wy K => by
         have e1 : act.eval (.tmp 127) = .pointer (some ⟨b, off + j * 16 + 11, none⟩) := K.at_val 4 (by kernel_rfl) (by kernel_rfl) rfl
         have e2 := Rg.cell_later (hc.out) K.bel
         show (execOp act.eval _).run Tryz.prog wy = .ok (.value (.int .i64 (m11 : Int))) wy
         generalize act.eval = ρ at e1 ⊢
         unfold execOp
         simp [go_sem, e1, e2]), ?_⟩
        refine ⟨gVal rfl (.inl ⟨rfl, rfl⟩) rfl (fun Lb v act wy K => by
         have e1 : act.eval (.tmp 1) = .int .i64 (m11 : Int) := (K.off (x := .tmp 1) (by kernel_rfl)).trans rfl
         exact run_move _ rfl e1), ?_⟩
        refine ⟨gVal rfl (.inl ⟨rfl, rfl⟩) rfl (fun Lb v act wy K => by
         have e1 : act.eval (.tmp 128) = .int .i64 (m11 : Int) := K.at_val 5 (by kernel_rfl) (by kernel_rfl) rfl
         have e2 : act.eval (.tmp 129) = .int .i64 (m11 : Int) := K.at_val 6 (by kernel_rfl) (by kernel_rfl) rfl
         show (execOp act.eval _).run Tryz.prog wy = .ok (.value (.bool false)) wy
         generalize act.eval = ρ at e1 e2 ⊢
         unfold execOp
         simp [go_sem, e1, e2]), ?_⟩
        exact trivial
      have el : v 7 = .bool false := hG 7 (by show 7 < 8; decide)
      replace HB := hid (HB.out.trans (hb.mono HB.out.size))
      clear hG hb hc
      simp only [putsAll, Act.put, List.setIfInBounds_toArray, List.set_cons_zero, List.set_cons_succ, el]
      clear el
      go_upto_region 39 with fail
      obtain ⟨m12, hm12⟩ : ∃ q : Nat, q = m11 + 1 := ⟨_, rfl⟩
      have HM12 : Hid (m12 = m0 + 12) := by have := HM11.out; show m12 = m0 + 12; omega
      have hi : Hid (IntKind.i64.wrap ((m11 : Int) + 1) = (m12 : Int)) := by have := HM0.out; have := HM11.out; have := HKB.out; show IntKind.i64.wrap _ = _; rw [wrapI _ (by omega)]; omega
      clear hm12
      refine region_inc rfl rfl rfl rfl _ _ _ _ _ rfl rfl rfl (m11 : Int) (m12 : Int) (by kernel_rfl) (by kernel_rfl) (fun ρ h1 h2 => by unfold execOp; simp [go_sem, h1, h2, hi.out]) (by kernel_rfl) ?_
      simp only [Act.put, List.setIfInBounds_toArray, List.set_cons_zero, List.set_cons_succ]
      clear hi
      go_upto_region 40 with fail
      have hc : Hid (w.cell? ⟨b, off + j * 16 + 11 + 1, none⟩ = some (.int .i64 (m12 : Int))) := by
        have h1 := Sl.cellH (o := off + j * 16 + 11 + 1) (Sl.below HS.out HB.out) (j * 16 + 12) (by omega) (by omega)
        rw [mh_at k j 12 (by omega), ← HM0.out] at h1
        rw [HM12.out]
        exact h1
      refine region_grow (val := fun i => [.slice (some ⟨b, off, none⟩) n cap, .int .i64 (j : Int), .pointer (some ⟨b, off + j * 16, none⟩), .pointer (some ⟨b, off + j * 16 + 11, none⟩), .pointer (some ⟨b, off + j * 16 + 11 + 1, none⟩), .int .i64 (m12 : Int), .int .i64 (m12 : Int), .bool false].getD i undef) (sp := fun _ => none) false (by kernel_rfl) (by kernel_rfl) [some 133, some 134, some 135, some 136, some 137, some 138, some 139, some 140] (by kernel_rfl) (fun _ _ h => by cases h) ?_ (fun v w hb hG => ?_)
      · refine ⟨gVal rfl (.inl ⟨rfl, rfl⟩) rfl (fun Lb v act wy K => by
         have e1 : act.eval (.tmp 0) = .slice (some ⟨b, off, none⟩) n cap := (K.off (x := .tmp 0) (by kernel_rfl)).trans rfl
         exact run_move _ rfl e1), ?_⟩
        refine ⟨gVal rfl (.inl ⟨rfl, rfl⟩) rfl (fun Lb v act wy K => by
         have e1 : act.eval (.tmp 5) = .int .i64 (j : Int) := (K.off (x := .tmp 5) (by kernel_rfl)).trans rfl
         exact run_move _ rfl e1), ?_⟩
        refine ⟨gVal rfl (.inl ⟨rfl, rfl⟩) rfl (fun Lb v act wy K => by
         have e1 : act.eval (.tmp 133) = .slice (some ⟨b, off, none⟩) n cap := K.at_val 0 (by kernel_rfl) (by kernel_rfl) rfl
         have e2 : act.eval (.tmp 134) = .int .i64 (j : Int) := K.at_val 1 (by kernel_rfl) (by kernel_rfl) rfl
         show (execOp act.eval _).run Tryz.prog wy = .ok (.value (.pointer (some ⟨b, off + j * 16, none⟩))) wy
         generalize act.eval = ρ at e1 e2 ⊢
         unfold execOp
         simp [go_sem, e1, e2, hlt]), ?_⟩
        refine ⟨gVal rfl (.inl ⟨rfl, rfl⟩) rfl (fun Lb v act wy K => by
         have e1 : act.eval (.tmp 135) = .pointer (some ⟨b, off + j * 16, none⟩) := K.at_val 2 (by kernel_rfl) (by kernel_rfl) rfl
         show (execOp act.eval _).run Tryz.prog wy = .ok (.value (.pointer (some ⟨b, off + j * 16 + 11, none⟩))) wy
         generalize act.eval = ρ at e1 ⊢
         unfold execOp
         simp [go_sem, e1]), ?_⟩
        refine ⟨gVal rfl (.inl ⟨rfl, rfl⟩) rfl (fun Lb v act wy K => by
         have e1 : act.eval (.tmp 136) = .pointer (some ⟨b, off + j * 16 + 11, none⟩) := K.at_val 3 (by kernel_rfl) (by kernel_rfl) rfl
         show (execOp act.eval _).run Tryz.prog wy = .ok (.value (.pointer (some ⟨b, off + j * 16 + 11 + 1, none⟩))) wy
         generalize act.eval = ρ at e1 ⊢
         unfold execOp
         simp [go_sem, e1]), ?_⟩
        refine ⟨gVal rfl (.inl ⟨rfl, rfl⟩) rfl (fun Lb v act wy K => by
         have e1 : act.eval (.tmp 137) = .pointer (some ⟨b, off + j * 16 + 11 + 1, none⟩) := K.at_val 4 (by kernel_rfl) (by kernel_rfl) rfl
         have e2 := Rg.cell_later (hc.out) K.bel
         show (execOp act.eval _).run Tryz.prog wy = .ok (.value (.int .i64 (m12 : Int))) wy
         generalize act.eval = ρ at e1 ⊢
         unfold execOp
         simp [go_sem, e1, e2]), ?_⟩
        refine ⟨gVal rfl (.inl ⟨rfl, rfl⟩) rfl (fun Lb v act wy K => by
         have e1 : act.eval (.tmp 1) = .int .i64 (m12 : Int) := (K.off (x := .tmp 1) (by kernel_rfl)).trans rfl
         exact run_move _ rfl e1), ?_⟩
        refine ⟨gVal rfl (.inl ⟨rfl, rfl⟩) rfl (fun Lb v act wy K => by
         have e1 : act.eval (.tmp 138) = .int .i64 (m12 : Int) := K.at_val 5 (by kernel_rfl) (by kernel_rfl) rfl
         have e2 : act.eval (.tmp 139) = .int .i64 (m12 : Int) := K.at_val 6 (by kernel_rfl) (by kernel_rfl) rfl
         show (execOp act.eval _).run Tryz.prog wy = .ok (.value (.bool false)) wy
         generalize act.eval = ρ at e1 e2 ⊢
         unfold execOp
         simp [go_sem, e1, e2]), ?_⟩
        exact trivial
      have el : v 7 = .bool false := hG 7 (by show 7 < 8; decide)
      replace HB := hid (HB.out.trans (hb.mono HB.out.size))
      clear hG hb hc
      simp only [putsAll, Act.put, List.setIfInBounds_toArray, List.set_cons_zero, List.set_cons_succ, el]
      clear el
      go_upto_region 42 with fail
      obtain ⟨m13, hm13⟩ : ∃ q : Nat, q = m12 + 1 := ⟨_, rfl⟩
      have HM13 : Hid (m13 = m0 + 13) := by have := HM12.out; show m13 = m0 + 13; omega
      have hi : Hid (IntKind.i64.wrap ((m12 : Int) + 1) = (m13 : Int)) := by have := HM0.out; have := HM12.out; have := HKB.out; show IntKind.i64.wrap _ = _; rw [wrapI _ (by omega)]; omega
      clear hm13
      refine region_inc rfl rfl rfl rfl _ _ _ _ _ rfl rfl rfl (m12 : Int) (m13 : Int) (by kernel_rfl) (by kernel_rfl) (fun ρ h1 h2 => by unfold execOp; simp [go_sem, h1, h2, hi.out]) (by kernel_rfl) ?_
      simp only [Act.put, List.setIfInBounds_toArray, List.set_cons_zero, List.set_cons_succ]
      clear hi
      go_upto_region 43 with fail
      have HT := hid (fun u => markText m13 u (by have := HM13.out; omega) (by have := HM0.out; have := HM13.out; have := HKB.out; omega))
      have hc : Hid (w.cell? ⟨b, off + j * 16 + 11 + 2, none⟩ = some (.string (markS m13))) := by
        have h1 := Sl.cellH (o := off + j * 16 + 11 + 2) (Sl.below HS.out HB.out) (j * 16 + 13) (by omega) (by omega)
        rw [mh_at k j 13 (by omega), ← HM0.out] at h1
        rw [HM13.out]
        exact h1
      refine region_grow (val := fun i => [.slice (some ⟨b, off, none⟩) n cap, .int .i64 (j : Int), .pointer (some ⟨b, off + j * 16, none⟩), .pointer (some ⟨b, off + j * 16 + 11, none⟩), .pointer (some ⟨b, off + j * 16 + 11 + 2, none⟩), .string (markS m13), .int .i64 (m13 : Int), .string (markS m13), .bool false].getD i undef) (sp := fun _ => none) true (by kernel_rfl) (by kernel_rfl) [some 143, some 144, some 145, some 146, some 147, some 148, some 149, some 150, some 151] (by kernel_rfl) (fun _ _ h => by cases h) ?_ (fun v w hb hG => ?_)
      · refine ⟨gVal rfl (.inl ⟨rfl, rfl⟩) rfl (fun Lb v act wy K => by
         have e1 : act.eval (.tmp 0) = .slice (some ⟨b, off, none⟩) n cap := (K.off (x := .tmp 0) (by kernel_rfl)).trans rfl
         exact run_move _ rfl e1), ?_⟩
        refine ⟨gVal rfl (.inl ⟨rfl, rfl⟩) rfl (fun Lb v act wy K => by
         have e1 : act.eval (.tmp 5) = .int .i64 (j : Int) := (K.off (x := .tmp 5) (by kernel_rfl)).trans rfl
         exact run_move _ rfl e1), ?_⟩
        refine ⟨gVal rfl (.inl ⟨rfl, rfl⟩) rfl (fun Lb v act wy K => by
         have e1 : act.eval (.tmp 143) = .slice (some ⟨b, off, none⟩) n cap := K.at_val 0 (by kernel_rfl) (by kernel_rfl) rfl
         have e2 : act.eval (.tmp 144) = .int .i64 (j : Int) := K.at_val 1 (by kernel_rfl) (by kernel_rfl) rfl
         show (execOp act.eval _).run Tryz.prog wy = .ok (.value (.pointer (some ⟨b, off + j * 16, none⟩))) wy
         generalize act.eval = ρ at e1 e2 ⊢
         unfold execOp
         simp [go_sem, e1, e2, hlt]), ?_⟩
        refine ⟨gVal rfl (.inl ⟨rfl, rfl⟩) rfl (fun Lb v act wy K => by
         have e1 : act.eval (.tmp 145) = .pointer (some ⟨b, off + j * 16, none⟩) := K.at_val 2 (by kernel_rfl) (by kernel_rfl) rfl
         show (execOp act.eval _).run Tryz.prog wy = .ok (.value (.pointer (some ⟨b, off + j * 16 + 11, none⟩))) wy
         generalize act.eval = ρ at e1 ⊢
         unfold execOp
         simp [go_sem, e1]), ?_⟩
        refine ⟨gVal rfl (.inl ⟨rfl, rfl⟩) rfl (fun Lb v act wy K => by
         have e1 : act.eval (.tmp 146) = .pointer (some ⟨b, off + j * 16 + 11, none⟩) := K.at_val 3 (by kernel_rfl) (by kernel_rfl) rfl
         show (execOp act.eval _).run Tryz.prog wy = .ok (.value (.pointer (some ⟨b, off + j * 16 + 11 + 2, none⟩))) wy
         generalize act.eval = ρ at e1 ⊢
         unfold execOp
         simp [go_sem, e1]), ?_⟩
        refine ⟨gVal rfl (.inl ⟨rfl, rfl⟩) rfl (fun Lb v act wy K => by
         have e1 : act.eval (.tmp 147) = .pointer (some ⟨b, off + j * 16 + 11 + 2, none⟩) := K.at_val 4 (by kernel_rfl) (by kernel_rfl) rfl
         have e2 := Rg.cell_later (hc.out) K.bel
         show (execOp act.eval _).run Tryz.prog wy = .ok (.value (.string (markS m13))) wy
         generalize act.eval = ρ at e1 ⊢
         unfold execOp
         simp [go_sem, e1, e2]), ?_⟩
        refine ⟨gVal rfl (.inl ⟨rfl, rfl⟩) rfl (fun Lb v act wy K => by
         have e1 : act.eval (.tmp 1) = .int .i64 (m13 : Int) := (K.off (x := .tmp 1) (by kernel_rfl)).trans rfl
         exact run_move _ rfl e1), ?_⟩
        refine ⟨gCall rfl (.inl ⟨rfl, rfl⟩) 122 #[.tmp 149] _ (fun _ => #[.int .i64 (m13 : Int)]) rfl call_markText (fun Lb v act wy K => by
         have e1 : act.eval (.tmp 149) = .int .i64 (m13 : Int) := K.at_val 6 (by kernel_rfl) (by kernel_rfl) rfl
         simp only [List.map_toArray, List.map_cons, List.map_nil, e1]) (fun v w hb hs => (HT.out w).mono (fun e w' ⟨h1, h2⟩ => ⟨_, h1, h2, rfl⟩)), ?_⟩
        refine ⟨gVal rfl (.inl ⟨rfl, rfl⟩) rfl (fun Lb v act wy K => by
         have e1 : act.eval (.tmp 148) = .string (markS m13) := K.at_val 5 (by kernel_rfl) (by kernel_rfl) rfl
         have e2 : act.eval (.tmp 150) = .string (markS m13) := K.at_val 7 (by kernel_rfl) (by kernel_rfl) rfl
         show (execOp act.eval _).run Tryz.prog wy = .ok (.value (.bool false)) wy
         generalize act.eval = ρ at e1 e2 ⊢
         unfold execOp
         simp [go_sem, e1, e2]), ?_⟩
        exact trivial
      have el : v 8 = .bool false := hG 8 (by show 8 < 9; decide)
      replace HB := hid (HB.out.trans (hb.mono HB.out.size))
      clear hG hb hc
      simp only [putsAll, Act.put, List.setIfInBounds_toArray, List.set_cons_zero, List.set_cons_succ, el]
      clear el
      clear HT
      go_upto_region 45 with fail
      obtain ⟨m14, hm14⟩ : ∃ q : Nat, q = m13 + 1 := ⟨_, rfl⟩
      have HM14 : Hid (m14 = m0 + 14) := by have := HM13.out; show m14 = m0 + 14; omega
      have hi : Hid (IntKind.i64.wrap ((m13 : Int) + 1) = (m14 : Int)) := by have := HM0.out; have := HM13.out; have := HKB.out; show IntKind.i64.wrap _ = _; rw [wrapI _ (by omega)]; omega
      clear hm14
      refine region_inc rfl rfl rfl rfl _ _ _ _ _ rfl rfl rfl (m13 : Int) (m14 : Int) (by kernel_rfl) (by kernel_rfl) (fun ρ h1 h2 => by unfold execOp; simp [go_sem, h1, h2, hi.out]) (by kernel_rfl) ?_
      simp only [Act.put, List.setIfInBounds_toArray, List.set_cons_zero, List.set_cons_succ]
      clear hi
      have hco : w.cell? ⟨b, off + j * 16 + 14, none⟩ = some (.slice none 0 0) := by
        have h1 := Sl.cellH (o := off + j * 16 + 14) (Sl.below HS.out HB.out) (j * 16 + 14) (by omega) (by omega)
        rw [mh_at k j 14 (by omega)] at h1
        exact h1
      have hm14 : m14 ≤ 1048576 := by have := HM0.out; have := HM14.out; have := HKB.out; omega
      go_wp2_with fail
      refine (heldOut0 _ m14 (by have := HM14.out; omega) (by omega)).mono ?_
      rintro e wo ⟨rfl, bo⟩
      replace HB := hid (HB.out.trans (bo.mono HB.out.size))
      clear hco bo
      go_upto_region 49 with fail
      clear hm14
      have hc : Hid (wo.cell? ⟨b, off + j * 16 + 15, none⟩ = some (.int .i64 (m14 : Int))) := by
        have h1 := Sl.cellH (o := off + j * 16 + 15) (Sl.below HS.out HB.out) (j * 16 + 15) (by omega) (by omega)
        rw [mh_at k j 15 (by omega), ← HM0.out] at h1
        rw [HM14.out]
        exact h1
      refine region_grow (val := fun i => [.slice (some ⟨b, off, none⟩) n cap, .int .i64 (j : Int), .pointer (some ⟨b, off + j * 16, none⟩), .pointer (some ⟨b, off + j * 16 + 15, none⟩), .int .i64 (m14 : Int), .int .i64 (m14 : Int), .bool false].getD i undef) (sp := fun _ => none) false (by kernel_rfl) (by kernel_rfl) [some 164, some 165, some 166, some 167, some 168, some 169, some 170] (by kernel_rfl) (fun _ _ h => by cases h) ?_ (fun v w hb hG => ?_)
      · refine ⟨gVal rfl (.inl ⟨rfl, rfl⟩) rfl (fun Lb v act wy K => by
         have e1 : act.eval (.tmp 0) = .slice (some ⟨b, off, none⟩) n cap := (K.off (x := .tmp 0) (by kernel_rfl)).trans rfl
         exact run_move _ rfl e1), ?_⟩
        refine ⟨gVal rfl (.inl ⟨rfl, rfl⟩) rfl (fun Lb v act wy K => by
         have e1 : act.eval (.tmp 5) = .int .i64 (j : Int) := (K.off (x := .tmp 5) (by kernel_rfl)).trans rfl
         exact run_move _ rfl e1), ?_⟩
        refine ⟨gVal rfl (.inl ⟨rfl, rfl⟩) rfl (fun Lb v act wy K => by
         have e1 : act.eval (.tmp 164) = .slice (some ⟨b, off, none⟩) n cap := K.at_val 0 (by kernel_rfl) (by kernel_rfl) rfl
         have e2 : act.eval (.tmp 165) = .int .i64 (j : Int) := K.at_val 1 (by kernel_rfl) (by kernel_rfl) rfl
         show (execOp act.eval _).run Tryz.prog wy = .ok (.value (.pointer (some ⟨b, off + j * 16, none⟩))) wy
         generalize act.eval = ρ at e1 e2 ⊢
         unfold execOp
         simp [go_sem, e1, e2, hlt]), ?_⟩
        refine ⟨gVal rfl (.inl ⟨rfl, rfl⟩) rfl (fun Lb v act wy K => by
         have e1 : act.eval (.tmp 166) = .pointer (some ⟨b, off + j * 16, none⟩) := K.at_val 2 (by kernel_rfl) (by kernel_rfl) rfl
         show (execOp act.eval _).run Tryz.prog wy = .ok (.value (.pointer (some ⟨b, off + j * 16 + 15, none⟩))) wy
         generalize act.eval = ρ at e1 ⊢
         unfold execOp
         simp [go_sem, e1]), ?_⟩
        refine ⟨gVal rfl (.inl ⟨rfl, rfl⟩) rfl (fun Lb v act wy K => by
         have e1 : act.eval (.tmp 167) = .pointer (some ⟨b, off + j * 16 + 15, none⟩) := K.at_val 3 (by kernel_rfl) (by kernel_rfl) rfl
         have e2 := Rg.cell_later (hc.out) K.bel
         show (execOp act.eval _).run Tryz.prog wy = .ok (.value (.int .i64 (m14 : Int))) wy
         generalize act.eval = ρ at e1 ⊢
         unfold execOp
         simp [go_sem, e1, e2]), ?_⟩
        refine ⟨gVal rfl (.inl ⟨rfl, rfl⟩) rfl (fun Lb v act wy K => by
         have e1 : act.eval (.tmp 1) = .int .i64 (m14 : Int) := (K.off (x := .tmp 1) (by kernel_rfl)).trans rfl
         exact run_move _ rfl e1), ?_⟩
        refine ⟨gVal rfl (.inl ⟨rfl, rfl⟩) rfl (fun Lb v act wy K => by
         have e1 : act.eval (.tmp 168) = .int .i64 (m14 : Int) := K.at_val 4 (by kernel_rfl) (by kernel_rfl) rfl
         have e2 : act.eval (.tmp 169) = .int .i64 (m14 : Int) := K.at_val 5 (by kernel_rfl) (by kernel_rfl) rfl
         show (execOp act.eval _).run Tryz.prog wy = .ok (.value (.bool false)) wy
         generalize act.eval = ρ at e1 e2 ⊢
         unfold execOp
         simp [go_sem, e1, e2]), ?_⟩
        exact trivial
      have el : v 6 = .bool false := hG 6 (by show 6 < 7; decide)
      replace HB := hid (HB.out.trans (hb.mono HB.out.size))
      clear hG hb hc
      simp only [putsAll, Act.put, List.setIfInBounds_toArray, List.set_cons_zero, List.set_cons_succ, el]
      clear el
      go_upto_region 51 with fail
      obtain ⟨m15, hm15⟩ : ∃ q : Nat, q = m14 + 1 := ⟨_, rfl⟩
      have HM15 : Hid (m15 = m0 + 15) := by have := HM14.out; show m15 = m0 + 15; omega
      have hi : Hid (IntKind.i64.wrap ((m14 : Int) + 1) = (m15 : Int)) := by have := HM0.out; have := HM14.out; have := HKB.out; show IntKind.i64.wrap _ = _; rw [wrapI _ (by omega)]; omega
      clear hm15
      refine region_inc rfl rfl rfl rfl _ _ _ _ _ rfl rfl rfl (m14 : Int) (m15 : Int) (by kernel_rfl) (by kernel_rfl) (fun ρ h1 h2 => by unfold execOp; simp [go_sem, h1, h2, hi.out]) (by kernel_rfl) ?_
      simp only [Act.put, List.setIfInBounds_toArray, List.set_cons_zero, List.set_cons_succ]
      clear hi
      go_wp2
      exact ⟨⟨j + 1, by omega, by go_num, by have h1 := HM0.out; have h2 := HM15.out; rw [h2, h1]; go_num, HB⟩, by simp [intOf]; omega⟩

    · obtain rfl : j = n := by omega
      go_wp2
      go_ret
      exact ⟨rfl, HB.out⟩

set_option maxRecDepth 100000 in
set_option maxHeartbeats 1000000 in
theorem markEvent0 (w : World) (k : Nat) : Calls Tryz.prog 57 #[.slice none 0 0, .int .i64 (k : Int)] w fun e w' => e = .returned (.int .i64 (k : Int)) ∧ Below w.heap.size w w' := by
  go_enter Tryz.func57, Tryz.ntmps57
  go_wp2
  go_loopw [1, 5] (fun x i wr => x = .int .i64 (k : Int) ∧ i = .int .i64 0 ∧ Hid (Below w.heap.size w wr)) (fun _ i _ => 0)
  case atStart => exact ⟨rfl, rfl, Below.refl _ _⟩
  case round =>
    obtain ⟨rfl, rfl, HB⟩ := hrel
    go_wp2
    go_ret
    exact ⟨rfl, HB.out⟩

set_option maxRecDepth 100000 in
set_option maxHeartbeats 1000000 in
theorem heldEvent0 (w : World) (k : Nat) : Calls Tryz.prog 62 #[.slice none 0 0, .int .i64 (k : Int)] w fun e w' => e = .returned (.int .i64 (k : Int)) ∧ Below w.heap.size w w' := by
  go_enter Tryz.func62, Tryz.ntmps62
  go_wp2
  go_loopw [1, 5] (fun x i wr => x = .int .i64 (k : Int) ∧ i = .int .i64 0 ∧ Hid (Below w.heap.size w wr)) (fun _ i _ => 0)
  case atStart => exact ⟨rfl, rfl, Below.refl _ _⟩
  case round =>
    obtain ⟨rfl, rfl, HB⟩ := hrel
    go_wp2
    go_ret
    exact ⟨rfl, HB.out⟩

set_option maxRecDepth 100000 in
set_option maxHeartbeats 1000000 in
theorem markReply0 (w : World) (k : Nat) : Calls Tryz.prog 59 #[.slice none 0 0, .int .i64 (k : Int)] w fun e w' => e = .returned (.int .i64 (k : Int)) ∧ Below w.heap.size w w' := by
  go_enter Tryz.func59, Tryz.ntmps59
  go_wp2
  go_loopw [1, 5] (fun x i wr => x = .int .i64 (k : Int) ∧ i = .int .i64 0 ∧ Hid (Below w.heap.size w wr)) (fun _ i _ => 0)
  case atStart => exact ⟨rfl, rfl, Below.refl _ _⟩
  case round =>
    obtain ⟨rfl, rfl, HB⟩ := hrel
    go_wp2
    go_ret
    exact ⟨rfl, HB.out⟩

set_option maxRecDepth 100000 in
set_option maxHeartbeats 1000000 in
theorem heldReply0 (w : World) (k : Nat) : Calls Tryz.prog 64 #[.slice none 0 0, .int .i64 (k : Int)] w fun e w' => e = .returned (.int .i64 (k : Int)) ∧ Below w.heap.size w w' := by
  go_enter Tryz.func64, Tryz.ntmps64
  go_wp2
  go_loopw [1, 5] (fun x i wr => x = .int .i64 (k : Int) ∧ i = .int .i64 0 ∧ Hid (Below w.heap.size w wr)) (fun _ i _ => 0)
  case atStart => exact ⟨rfl, rfl, Below.refl _ _⟩
  case round =>
    obtain ⟨rfl, rfl, HB⟩ := hrel
    go_wp2
    go_ret
    exact ⟨rfl, HB.out⟩

end Go.Proofs.YtaopkchkhdbfnaaGreatDoor.Pl

namespace Go.Proofs.YtaopkchkhdbfnaaGreatDoor.Sec
open Go.RowKit Go.Proofs.YtaopkchkhdbfnaaGreatDoor.Mem
set_option linter.unusedVariables false

/-- A volume's value. -/
def vlV (h e : Int) (on : Bool) (a : Option Addr) (n cap : Nat) : Value := .agg #[.int .i64 h, .int .i64 e, .bool on, .slice a n cap]

/-- The highest number in a map. -/
def top (on : Bool) : Int := if on then 17 else -1

theorem volOk_no1 (h e : Int) (on : Bool) (l : List Int) (x : lsOk h e = false) : volOk h e on l = false := by unfold volOk; rw [x]; rfl
theorem volOk_no2 (h e : Int) (on : Bool) (l : List Int) (x : ¬ l.length = 4) : volOk h e on l = false := by unfold volOk; rw [decide_eq_false x]; cases lsOk h e <;> rfl
theorem volOk_more (h e : Int) (on : Bool) (l : List Int) (x : lsOk h e = true) (y : l.length = 4) : volOk h e on l = between (-1) (top on) l := by unfold volOk; rw [x, decide_eq_true y]; rfl
theorem vol_no {h e : Int} {on : Bool} {l : List Int} (x : volOk h e on l = false) : showVol h e on l = ⟨#[]⟩ := by unfold showVol; rw [x]; rfl
theorem vol_yes {h e : Int} {on : Bool} {l : List Int} (x : volOk h e on l = true) : summed (⟨#[118]⟩ ++ showLs h e ++ flag on ++ vrs (-1) l) = showVol h e on l := by unfold showVol; rw [x]; rfl
theorem vol_parts {h e : Int} {on : Bool} {l : List Int} (x : volOk h e on l = true) : lsOk h e = true ∧ l.length = 4 ∧ between (-1) (top on) l = true := by
  unfold volOk at x
  rw [Bool.and_eq_true, Bool.and_eq_true] at x
  exact ⟨x.1.1, of_decide_eq_true x.1.2, x.2⟩
theorem top_bd (on : Bool) : -1 ≤ top on ∧ top on ≤ 17 := by cases on <;> decide

theorem flag_size (on : Bool) : (flag on).size ≤ 7 := vr_size _

theorem vol_size (h e : Int) (on : Bool) (l : List Int) (x : l.length = 4) : ((⟨#[118]⟩ : ByteArray) ++ showLs h e ++ flag on ++ vrs (-1) l).size ≤ 1048576 := by
  have h1 := showLs_size h e
  have h2 := vrs_size (-1) l
  have h3 := flag_size on
  rw [ByteArray.size_append, ByteArray.size_append, ByteArray.size_append]
  have : (⟨#[118]⟩ : ByteArray).size = 1 := rfl
  omega

set_option maxRecDepth 100000 in
set_option maxHeartbeats 1000000 in
theorem l4VolOk (w : World) (h e : Int) (on : Bool) (a : Option Addr) (cap : Nat) (l : List Int) (S : Ints w a l) (hl : l.length ≤ 1048576) :
    Calls Tryz.prog 167 #[vlV h e on a l.length cap] w fun r w' => r = .returned (.bool (volOk h e on l)) ∧ Below w.heap.size w w' := by
  unfold vlV
  obtain ⟨wa, hwa, ez, A0, B0⟩ := one_new w [.int .i64 h, .int .i64 e, .bool on, .slice a l.length cap] 103
  have k0 := A0.c 0 rfl
  have k1 := A0.c 1 rfl
  have k2 := A0.c 2 rfl
  have k3 := A0.c 3 rfl
  have HA := hid A0
  have HB := hid B0
  have HS := hid S
  clear A0 B0 S
  go_enter Tryz.func167, Tryz.ntmps167
  go_wp2_with fail
  refine (l4Lease h e _).mono ?_
  rintro r w2 ⟨rfl, b2⟩
  replace k2 := (HA.out.below b2 HA.out.lt).c 2 rfl
  replace k3 := (HA.out.below b2 HA.out.lt).c 3 rfl
  have HB2 := hid (HB.out.trans (b2.mono HB.out.size))
  clear b2 hwa k0 k1 HA
  cases hz : lsOk h e with
  | false =>
    have HN := hid (volOk_no1 h e on l hz)
    clear hz
    go_wp2
    go_ret
    exact ⟨by rw [HN.out]; rfl, HB2.out⟩
  | true =>
    by_cases h6 : (l.length : Int) = 4
    · have HE := hid (volOk_more h e on l hz (by omega))
      have hd : ((l.length : Int) != 4) = false := by simpa using h6
      clear hz h6
      go_wp2
      go_loop [3] (fun i => ∃ k : Nat, k ≤ l.length ∧ i = .int .i64 (k : Int) ∧ Hid (between (-1) (top on) (l.take k) = true)) (fun i => l.length - (intOf i).toNat)
      case atStart => exact ⟨0, Nat.zero_le _, rfl, rfl⟩
      case round =>
        obtain ⟨k, hk, rfl, HK⟩ := hrel
        by_cases hlt : k < l.length
        · obtain ⟨b, off, rfl, hc⟩ := (HS.out.below HB2.out) k hlt
          replace hc : w2.cell? ⟨b, off + k, none⟩ = some (.int .i64 (l.getD k 0)) := hc
          have HT := hid (between_take (-1) (top on) l k hlt)
          have HN := hid (between_no (-1) (top on) l k hlt)
          generalize l.getD k 0 = x at *
          by_cases hx : x = -1
          · have HR : Hid (between (-1) (top on) (l.take (k + 1)) = true) := by
              have := top_bd on
              rw [Hid, HT.out, HK.out, decide_eq_true (show -1 ≤ x ∧ x ≤ top on by omega)]; rfl
            have hxb : (x != -1) = false := by simpa using hx
            clear hx
            go_wp2
            exact ⟨⟨k + 1, by omega, by go_num, HR⟩, by simp [intOf]; omega⟩
          have hxb : (x != -1) = true := by simpa using hx
          cases on with
          | false =>
            have HR := hid (HN.out (show ¬ (-1 ≤ x ∧ x ≤ -1) by omega))
            clear hx
            go_wp2
            go_ret
            exact ⟨by rw [HE.out, HR.out]; rfl, HB2.out⟩
          | true =>
            by_cases hy : 0 ≤ x ∧ x ≤ 17
            · have hy' := decide_eq_true hy
              have HR : Hid (between (-1) (top true) (l.take (k + 1)) = true) := by rw [Hid, HT.out, HK.out, decide_eq_true (show -1 ≤ x ∧ x ≤ top true from ⟨by omega, hy.2⟩)]; rfl
              clear hx hy
              go_wp2_with fail
              refine (hy' ▸ l4Block x _).mono ?_
              rintro r w3 ⟨rfl, hw⟩
              subst hw
              go_wp2
              exact ⟨⟨k + 1, by omega, by go_num, HR⟩, by simp [intOf]; omega⟩
            · have hy' := decide_eq_false hy
              have HR := hid (HN.out (show ¬ (-1 ≤ x ∧ x ≤ 17) by omega))
              clear hx hy
              go_wp2_with fail
              refine (hy' ▸ l4Block x _).mono ?_
              rintro r w3 ⟨rfl, hw⟩
              subst hw
              go_wp2
              go_ret
              exact ⟨by rw [HE.out, HR.out]; rfl, HB2.out⟩
        · obtain rfl : k = l.length := by omega
          have HR : Hid (between (-1) (top on) l = true) := by have := HK.out; rwa [List.take_length] at this
          go_wp2
          go_ret
          exact ⟨by rw [HE.out, HR.out]; rfl, HB2.out⟩
    · have HN := hid (volOk_no2 h e on l (by omega))
      clear hz
      go_wp2
      go_ret
      exact ⟨by rw [HN.out]; rfl, HB2.out⟩

set_option maxRecDepth 100000 in
set_option maxHeartbeats 1000000 in
theorem isVol_true (w : World) (h e : Int) (a : Option Addr) (cap : Nat) (l : List Int) (S : Ints w a l) (hl : l.length ≤ 1048576) :
    Calls Tryz.prog 228 #[vlV h e true a l.length cap] w fun r w' => r = .returned (.bool (volOk h e true l)) ∧ Below w.heap.size w w' := by
  unfold vlV
  obtain ⟨wa, hwa, ez, A0, B0⟩ := one_new w [.int .i64 h, .int .i64 e, .bool true, .slice a l.length cap] 103
  have k0 := A0.c 0 rfl
  have k1 := A0.c 1 rfl
  have k2 := A0.c 2 rfl
  have k3 := A0.c 3 rfl
  have HA := hid A0
  have HB := hid B0
  have HS := hid S
  clear A0 B0 S
  go_enter Tryz.func228, Tryz.ntmps228
  go_wp2_with fail
  refine (isLease h e _).mono ?_
  rintro r w2 ⟨rfl, b2⟩
  replace k3 := (HA.out.below b2 HA.out.lt).c 3 rfl
  have HB2 := hid (HB.out.trans (b2.mono HB.out.size))
  clear b2 hwa k0 k1 k2 HA
  cases hz : lsOk h e with
  | false =>
    have HN := hid (volOk_no1 h e true l hz)
    clear hz
    go_wp2
    go_ret
    exact ⟨by rw [HN.out]; rfl, HB2.out⟩
  | true =>
    by_cases h6 : (l.length : Int) = 4
    · have HE := hid (volOk_more h e true l hz (by omega))
      have hd : ((l.length : Int) == 4) = true := by simpa using h6
      clear hz h6
      go_wp2_with fail
      refine (areFrom w2 a cap l (-1) 17 (HS.out.below HB2.out) hl).mono ?_
      rintro r w3 ⟨rfl, hw⟩
      subst hw
      have HE' : Hid (volOk h e true l = between (-1) 17 l) := HE
      generalize between (-1) 17 l = z at *
      go_wp2
      go_ret
      exact ⟨by rw [HE'.out]; rfl, HB2.out⟩
    · have HN := hid (volOk_no2 h e true l (by omega))
      have hd : ((l.length : Int) == 4) = false := by simpa using h6
      clear hz
      go_wp2
      go_ret
      exact ⟨by rw [HN.out]; rfl, HB2.out⟩

set_option maxRecDepth 100000 in
set_option maxHeartbeats 1000000 in
theorem isVol_false (w : World) (h e : Int) (a : Option Addr) (cap : Nat) (l : List Int) (S : Ints w a l) (hl : l.length ≤ 1048576) :
    Calls Tryz.prog 228 #[vlV h e false a l.length cap] w fun r w' => r = .returned (.bool (volOk h e false l)) ∧ Below w.heap.size w w' := by
  unfold vlV
  obtain ⟨wa, hwa, ez, A0, B0⟩ := one_new w [.int .i64 h, .int .i64 e, .bool false, .slice a l.length cap] 103
  have k0 := A0.c 0 rfl
  have k1 := A0.c 1 rfl
  have k2 := A0.c 2 rfl
  have k3 := A0.c 3 rfl
  have HA := hid A0
  have HB := hid B0
  have HS := hid S
  clear A0 B0 S
  go_enter Tryz.func228, Tryz.ntmps228
  go_wp2_with fail
  refine (isLease h e _).mono ?_
  rintro r w2 ⟨rfl, b2⟩
  replace k3 := (HA.out.below b2 HA.out.lt).c 3 rfl
  have HB2 := hid (HB.out.trans (b2.mono HB.out.size))
  clear b2 hwa k0 k1 k2 HA
  cases hz : lsOk h e with
  | false =>
    have HN := hid (volOk_no1 h e false l hz)
    clear hz
    go_wp2
    go_ret
    exact ⟨by rw [HN.out]; rfl, HB2.out⟩
  | true =>
    by_cases h6 : (l.length : Int) = 4
    · have HE := hid (volOk_more h e false l hz (by omega))
      have hd : ((l.length : Int) == 4) = true := by simpa using h6
      clear hz h6
      go_wp2_with fail
      refine (areFrom w2 a cap l (-1) (-1) (HS.out.below HB2.out) hl).mono ?_
      rintro r w3 ⟨rfl, hw⟩
      subst hw
      have HE' : Hid (volOk h e false l = between (-1) (-1) l) := HE
      generalize between (-1) (-1) l = z at *
      go_wp2
      go_ret
      exact ⟨by rw [HE'.out]; rfl, HB2.out⟩
    · have HN := hid (volOk_no2 h e false l (by omega))
      have hd : ((l.length : Int) == 4) = false := by simpa using h6
      clear hz
      go_wp2
      go_ret
      exact ⟨by rw [HN.out]; rfl, HB2.out⟩

theorem isVol (w : World) (h e : Int) (on : Bool) (a : Option Addr) (cap : Nat) (l : List Int) (S : Ints w a l) (hl : l.length ≤ 1048576) :
    Calls Tryz.prog 228 #[vlV h e on a l.length cap] w fun r w' => r = .returned (.bool (volOk h e on l)) ∧ Below w.heap.size w w' := by
  cases on
  · exact isVol_false w h e a cap l S hl
  · exact isVol_true w h e a cap l S hl

set_option maxRecDepth 100000 in
set_option maxHeartbeats 1000000 in
theorem sShowVol (w : World) (h e : Int) (on : Bool) (a : Option Addr) (cap : Nat) (l : List Int) (S : Ints w a l) (hl : l.length ≤ 1048576) :
    Calls Tryz.prog 115 #[vlV h e on a l.length cap] w fun r w' => r = .returned (.string (showVol h e on l)) ∧ Below w.heap.size w w' := by
  unfold vlV
  obtain ⟨wa, hwa, ez, A0, B0⟩ := one_new w [.int .i64 h, .int .i64 e, .bool on, .slice a l.length cap] 103
  have k0 := A0.c 0 rfl
  have k1 := A0.c 1 rfl
  have k2 := A0.c 2 rfl
  have k3 := A0.c 3 rfl
  have HA := hid A0
  have HB := hid B0
  have HS := hid S
  clear A0 B0 S
  go_enter Tryz.func115, Tryz.ntmps115
  go_wp2_with fail
  refine (l4VolOk wa h e on a cap l (HS.out.below HB.out) hl).mono ?_
  rintro r w2 ⟨rfl, b2⟩
  have HA2 := hid (HA.out.below b2 HA.out.lt)
  replace k0 := HA2.out.c 0 rfl
  replace k1 := HA2.out.c 1 rfl
  replace k2 := HA2.out.c 2 rfl
  replace k3 := HA2.out.c 3 rfl
  have HB2 := hid (HB.out.trans (b2.mono HB.out.size))
  clear b2 hwa HA
  cases hf : volOk h e on l with
  | false =>
    have HN := hid (vol_no hf)
    clear hf
    go_wp2
    go_ret
    exact ⟨Own.ret_str HN.out.symm, HB2.out⟩
  | true =>
    have HY := hid (vol_yes hf)
    obtain ⟨p1, p2, p3⟩ := vol_parts hf
    have HZ := hid (vol_size h e on l p2)
    have HV := hid (fun k => vrs_size (-1) (l.take k))
    have hbd := ls_bd p1
    have HP : Hid (∀ k, k < l.length → -1 ≤ l.getD k 0 ∧ l.getD k 0 ≤ 17) := fun k hk => by have := between_getD p3 k hk; have := top_bd on; omega
    have z1 := showLs_size h e
    have z2 := flag_size on
    have h12 : l.length ≤ 12 := by omega
    clear hf p1 p2 p3
    go_wp2
    replace k0 := BW.cell k0
    replace k1 := BW.cell k1
    replace k2 := BW.cell k2
    have hne : Nonempty (BW w2) := ⟨⟨w2, Below.refl _ _⟩⟩
    refine wp_region_bw (by kernel_rfl) (by kernel_rfl) ?_
    repeat (go_big_quiet_step (first
      | (go_at_call 162; refine bw_below (l4ShowLease h e _ hbd.1 hbd.2))
      | (go_at_call 164; refine bw_below (l4Flag on _))))
    refine wpQuiet_nil ?_
    intro w3 hw'
    obtain ⟨u, hu⟩ := hw'
    have b3 := u.bel
    rw [← hu] at b3
    clear hu
    have HA3 := hid (HA2.out.below b3 HA2.out.lt)
    have HB3 := hid (HB2.out.trans (b3.mono HB2.out.size))
    clear b3 k0 k1 k2 k3 HA2 hne
    generalize hp : (⟨#[118]⟩ : ByteArray) ++ showLs h e ++ flag on = p at *
    have zp : p.size ≤ 22 := by rw [← hp, ByteArray.size_append, ByteArray.size_append]; have : (⟨#[118]⟩ : ByteArray).size = 1 := rfl; omega
    go_wp2
    clear hp
    go_loopw [3, 4] (fun s i wr => ∃ k : Nat, k ≤ l.length ∧ i = .int .i64 (k : Int) ∧ s = .string (p ++ vrs (-1) (l.take k)) ∧ Hid (Below w3.heap.size w3 wr)) (fun _ i _ => l.length - (intOf i).toNat)
    case atStart => exact ⟨0, Nat.zero_le _, rfl, by rw [show vrs (-1) (l.take 0) = ⟨#[]⟩ from rfl, append_empty], Below.refl _ _⟩
    case round =>
      obtain ⟨k, hk, rfl, rfl, HB'⟩ := hrel
      have k2 := (HA3.out.below HB'.out HA3.out.lt).c 3 rfl
      have HBr := hid (HB3.out.trans (HB'.out.mono HB3.out.size))
      by_cases hlt : k < l.length
      · obtain ⟨b, off, rfl, hc⟩ := (HS.out.below HBr.out) k hlt
        replace hc : wr.cell? ⟨b, off + k, none⟩ = some (.int .i64 (l.getD k 0)) := hc
        have HT := hid (vrs_take (-1) l k hlt)
        have hbk := HP.out k hlt
        have hz := HV.out k
        have hzl : (l.take k).length ≤ k := List.length_take_le _ _
        generalize l.getD k 0 = x at *
        generalize vrs (-1) (l.take k) = s at *
        have hps : (p ++ s).size ≤ 1000 := by rw [ByteArray.size_append]; omega
        have HAs := hid (append_assoc p s (vr (x - -1)))
        generalize p ++ s = q at *
        go_wp2_with fail
        refine (sVar (x + 1) _).mono ?_
        rintro r w4 ⟨rfl, b4⟩
        have zx := vr_size (x + 1)
        have HB4 := hid (HB'.out.trans (b4.mono HB'.out.size))
        clear b4 hc k2
        go_wp2
        exact ⟨⟨k + 1, by omega, by go_num, by rw [HT.out, ← HAs.out, Int.sub_neg], HB4⟩, by simp [intOf]; omega⟩
      · obtain rfl : k = l.length := by omega
        have HE : Hid (vrs (-1) (l.take l.length) = vrs (-1) l) := by rw [Hid, List.take_length]
        rw [HE.out]
        generalize p ++ vrs (-1) l = q at *
        go_wp2_with fail
        refine (l4Sum q _ HZ.out).mono ?_
        rintro r w4 ⟨rfl, b4⟩
        have HB4 := hid (HBr.out.trans (b4.mono HBr.out.size))
        clear b4 k2
        go_wp2
        go_ret
        exact ⟨Own.ret_str HY.out, HB4.out⟩

set_option maxRecDepth 100000 in
set_option maxHeartbeats 1000000 in
theorem iShowVol (w : World) (h e : Int) (on : Bool) (a : Option Addr) (cap : Nat) (l : List Int) (S : Ints w a l) (hl : l.length ≤ 1048576) (T : Sums w) :
    Calls Tryz.prog 173 #[vlV h e on a l.length cap] w fun r w' => r = .returned (.string (showVol h e on l)) ∧ Below w.heap.size w w' := by
  unfold vlV
  obtain ⟨wa, hwa, ez, A0, B0⟩ := one_new w [.int .i64 h, .int .i64 e, .bool on, .slice a l.length cap] 103
  have k0 := A0.c 0 rfl
  have k1 := A0.c 1 rfl
  have k2 := A0.c 2 rfl
  have k3 := A0.c 3 rfl
  have HA := hid A0
  have HB := hid B0
  have HS := hid S
  have HT := hid T
  clear A0 B0 S T
  go_enter Tryz.func173, Tryz.ntmps173
  go_wp2_with fail
  refine (isVol wa h e on a cap l (HS.out.below HB.out) hl).mono ?_
  rintro r w2 ⟨rfl, b2⟩
  have HA2 := hid (HA.out.below b2 HA.out.lt)
  replace k0 := HA2.out.c 0 rfl
  replace k1 := HA2.out.c 1 rfl
  replace k2 := HA2.out.c 2 rfl
  replace k3 := HA2.out.c 3 rfl
  have HB2 := hid (HB.out.trans (b2.mono HB.out.size))
  have HT2 := hid (HT.out.below HB2.out)
  clear b2 hwa HA
  cases hf : volOk h e on l with
  | false =>
    have HN := hid (vol_no hf)
    clear hf
    go_wp2
    go_ret
    exact ⟨Own.ret_str HN.out.symm, HB2.out⟩
  | true =>
    have HY := hid (vol_yes hf)
    obtain ⟨p1, p2, p3⟩ := vol_parts hf
    have HZ := hid (vol_size h e on l p2)
    have hbd := ls_bd p1
    have z1 := showLs_size h e
    have z2 := vrs_size (-1) l
    have h12 : l.length ≤ 12 := by omega
    have z3 := flag_size on
    have HP : Hid (∀ k, k < l.length → -1 ≤ l.getD k 0 ∧ l.getD k 0 ≤ 17) := fun k hk => by have := between_getD p3 k hk; have := top_bd on; omega
    clear hf p1 p2 p3
    go_wp2
    replace k0 := BW.cell k0
    replace k1 := BW.cell k1
    replace k2 := BW.cell k2
    replace k3 := BW.cell k3
    have hne : Nonempty (BW w2) := ⟨⟨w2, Below.refl _ _⟩⟩
    refine wp_region_bw (by kernel_rfl) (by kernel_rfl) ?_
    repeat (go_big_quiet_step (first
      | (go_at_call 227; refine bw_below (showNumbers _ a cap l (-1) (HS.out.below (HB2.out.trans ((BW.bel _).mono HB2.out.size))) (by omega) (by decide) (fun k hk => by have := HP.out k hk; omega)))
      | (go_at_call 186; refine bw_below (showFlag on _))
      | (go_at_call 225; refine bw_below (showLease h e _ hbd.1 hbd.2))
      | (go_at_call 184; refine bw_below (withSum' _ _ HZ.out (HT2.out.below (BW.bel _))))))
    refine wpQuiet_nil ?_
    intro _ hw'
    obtain ⟨u, rfl⟩ := hw'
    have HU := hid (HB2.out.trans (u.bel.mono HB2.out.size))
    clear k0 k1 k2 k3
    go_wp2
    go_ret
    exact ⟨Own.ret_str HY.out, HU.out⟩

end Go.Proofs.YtaopkchkhdbfnaaGreatDoor.Sec

namespace Go.Proofs.YtaopkchkhdbfnaaGreatDoor.Sec
open Go.RowKit Go.Proofs.YtaopkchkhdbfnaaGreatDoor.Mem
set_option linter.unusedVariables false

/-- A group's value. -/
def gpV (h e : Int) (a : Option Addr) (n cap : Nat) : Value := .agg #[.int .i64 h, .int .i64 e, .slice a n cap]

theorem groupOk_no1 (h e : Int) (l : List Int) (x : lsOk h e = false) : groupOk h e l = false := by unfold groupOk; rw [x]; rfl
theorem groupOk_no2 (h e : Int) (l : List Int) (x : ¬ l.length = 6) : groupOk h e l = false := by unfold groupOk; rw [decide_eq_false x]; cases lsOk h e <;> rfl
theorem groupOk_more (h e : Int) (l : List Int) (x : lsOk h e = true) (y : l.length = 6) : groupOk h e l = between 0 16 l := by unfold groupOk; rw [x, decide_eq_true y]; rfl
theorem group_no {h e : Int} {l : List Int} (x : groupOk h e l = false) : showGroup h e l = ⟨#[]⟩ := by unfold showGroup; rw [x]; rfl
theorem group_yes {h e : Int} {l : List Int} (x : groupOk h e l = true) : summed (⟨#[103]⟩ ++ showLs h e ++ vrs 0 l) = showGroup h e l := by unfold showGroup; rw [x]; rfl
theorem group_parts {h e : Int} {l : List Int} (x : groupOk h e l = true) : lsOk h e = true ∧ l.length = 6 ∧ between 0 16 l = true := by
  unfold groupOk at x
  rw [Bool.and_eq_true, Bool.and_eq_true] at x
  exact ⟨x.1.1, of_decide_eq_true x.1.2, x.2⟩

theorem group_size (h e : Int) (l : List Int) (x : l.length = 6) : ((⟨#[103]⟩ : ByteArray) ++ showLs h e ++ vrs 0 l).size ≤ 1048576 := by
  have h1 := showLs_size h e
  have h2 := vrs_size 0 l
  rw [ByteArray.size_append, ByteArray.size_append]
  have : (⟨#[103]⟩ : ByteArray).size = 1 := rfl
  omega

set_option maxRecDepth 100000 in
set_option maxHeartbeats 1000000 in
theorem l4GroupOk (w : World) (h e : Int) (a : Option Addr) (cap : Nat) (l : List Int) (S : Ints w a l) (hl : l.length ≤ 1048576) :
    Calls Tryz.prog 168 #[gpV h e a l.length cap] w fun r w' => r = .returned (.bool (groupOk h e l)) ∧ Below w.heap.size w w' := by
  unfold gpV
  obtain ⟨wa, hwa, ez, A0, B0⟩ := one_new w [.int .i64 h, .int .i64 e, .slice a l.length cap] 107
  have k0 := A0.c 0 rfl
  have k1 := A0.c 1 rfl
  have k2 := A0.c 2 rfl
  have HA := hid A0
  have HB := hid B0
  have HS := hid S
  clear A0 B0 S
  go_enter Tryz.func168, Tryz.ntmps168
  go_wp2_with fail
  refine (l4Lease h e _).mono ?_
  rintro r w2 ⟨rfl, b2⟩
  replace k2 := (HA.out.below b2 HA.out.lt).c 2 rfl
  have HB2 := hid (HB.out.trans (b2.mono HB.out.size))
  clear b2 hwa k0 k1 HA
  cases hz : lsOk h e with
  | false =>
    have HN := hid (groupOk_no1 h e l hz)
    clear hz
    go_wp2
    go_ret
    exact ⟨by rw [HN.out]; rfl, HB2.out⟩
  | true =>
    by_cases h6 : (l.length : Int) = 6
    · have HE := hid (groupOk_more h e l hz (by omega))
      have hd : ((l.length : Int) != 6) = false := by simpa using h6
      clear hz h6
      go_wp2
      go_loop [3] (fun i => ∃ k : Nat, k ≤ l.length ∧ i = .int .i64 (k : Int) ∧ Hid (between 0 16 (l.take k) = true)) (fun i => l.length - (intOf i).toNat)
      case atStart => exact ⟨0, Nat.zero_le _, rfl, rfl⟩
      case round =>
        obtain ⟨k, hk, rfl, HK⟩ := hrel
        by_cases hlt : k < l.length
        · obtain ⟨b, off, rfl, hc⟩ := (HS.out.below HB2.out) k hlt
          replace hc : w2.cell? ⟨b, off + k, none⟩ = some (.int .i64 (l.getD k 0)) := hc
          have HT := hid (between_take 0 16 l k hlt)
          have HN := hid (between_no 0 16 l k hlt)
          generalize l.getD k 0 = x at *
          by_cases hx : 0 ≤ x ∧ x ≤ 16
          · have hx' := decide_eq_true hx
            have HR : Hid (between 0 16 (l.take (k + 1)) = true) := by rw [Hid, HT.out, HK.out, hx']; rfl
            clear hx
            go_wp2_with fail
            refine (hx' ▸ l1In x 0 16 _).mono ?_
            rintro r w3 ⟨rfl, hw⟩
            subst hw
            go_wp2
            exact ⟨⟨k + 1, by omega, by go_num, HR⟩, by simp [intOf]; omega⟩
          · have hx' := decide_eq_false hx
            have HR := hid (HN.out hx)
            clear hx
            go_wp2_with fail
            refine (hx' ▸ l1In x 0 16 _).mono ?_
            rintro r w3 ⟨rfl, hw⟩
            subst hw
            go_wp2
            go_ret
            exact ⟨by rw [HE.out, HR.out]; rfl, HB2.out⟩
        · obtain rfl : k = l.length := by omega
          have HR : Hid (between 0 16 l = true) := by have := HK.out; rwa [List.take_length] at this
          go_wp2
          go_ret
          exact ⟨by rw [HE.out, HR.out]; rfl, HB2.out⟩
    · have HN := hid (groupOk_no2 h e l (by omega))
      clear hz
      go_wp2
      go_ret
      exact ⟨by rw [HN.out]; rfl, HB2.out⟩

set_option maxRecDepth 100000 in
set_option maxHeartbeats 1000000 in
theorem isGroup (w : World) (h e : Int) (a : Option Addr) (cap : Nat) (l : List Int) (S : Ints w a l) (hl : l.length ≤ 1048576) :
    Calls Tryz.prog 229 #[gpV h e a l.length cap] w fun r w' => r = .returned (.bool (groupOk h e l)) ∧ Below w.heap.size w w' := by
  unfold gpV
  obtain ⟨wa, hwa, ez, A0, B0⟩ := one_new w [.int .i64 h, .int .i64 e, .slice a l.length cap] 107
  have k0 := A0.c 0 rfl
  have k1 := A0.c 1 rfl
  have k2 := A0.c 2 rfl
  have HA := hid A0
  have HB := hid B0
  have HS := hid S
  clear A0 B0 S
  go_enter Tryz.func229, Tryz.ntmps229
  go_wp2_with fail
  refine (isLease h e _).mono ?_
  rintro r w2 ⟨rfl, b2⟩
  replace k2 := (HA.out.below b2 HA.out.lt).c 2 rfl
  have HB2 := hid (HB.out.trans (b2.mono HB.out.size))
  clear b2 hwa k0 k1 HA
  cases hz : lsOk h e with
  | false =>
    have HN := hid (groupOk_no1 h e l hz)
    clear hz
    go_wp2
    go_ret
    exact ⟨by rw [HN.out]; rfl, HB2.out⟩
  | true =>
    by_cases h6 : (l.length : Int) = 6
    · have HE := hid (groupOk_more h e l hz (by omega))
      have hd : ((l.length : Int) == 6) = true := by simpa using h6
      clear hz h6
      go_wp2_with fail
      refine (areFrom w2 a cap l 0 16 (HS.out.below HB2.out) hl).mono ?_
      rintro r w3 ⟨rfl, hw⟩
      subst hw
      generalize between 0 16 l = z at *
      go_wp2
      go_ret
      exact ⟨by rw [HE.out]; rfl, HB2.out⟩
    · have HN := hid (groupOk_no2 h e l (by omega))
      have hd : ((l.length : Int) == 6) = false := by simpa using h6
      clear hz
      go_wp2
      go_ret
      exact ⟨by rw [HN.out]; rfl, HB2.out⟩

set_option maxRecDepth 100000 in
set_option maxHeartbeats 1000000 in
theorem sShowGroup (w : World) (h e : Int) (a : Option Addr) (cap : Nat) (l : List Int) (S : Ints w a l) (hl : l.length ≤ 1048576) :
    Calls Tryz.prog 117 #[gpV h e a l.length cap] w fun r w' => r = .returned (.string (showGroup h e l)) ∧ Below w.heap.size w w' := by
  unfold gpV
  obtain ⟨wa, hwa, ez, A0, B0⟩ := one_new w [.int .i64 h, .int .i64 e, .slice a l.length cap] 107
  have k0 := A0.c 0 rfl
  have k1 := A0.c 1 rfl
  have k2 := A0.c 2 rfl
  have HA := hid A0
  have HB := hid B0
  have HS := hid S
  clear A0 B0 S
  go_enter Tryz.func117, Tryz.ntmps117
  go_wp2_with fail
  refine (l4GroupOk wa h e a cap l (HS.out.below HB.out) hl).mono ?_
  rintro r w2 ⟨rfl, b2⟩
  have HA2 := hid (HA.out.below b2 HA.out.lt)
  replace k0 := HA2.out.c 0 rfl
  replace k1 := HA2.out.c 1 rfl
  replace k2 := HA2.out.c 2 rfl
  have HB2 := hid (HB.out.trans (b2.mono HB.out.size))
  clear b2 hwa HA
  cases hf : groupOk h e l with
  | false =>
    have HN := hid (group_no hf)
    clear hf
    go_wp2
    go_ret
    exact ⟨Own.ret_str HN.out.symm, HB2.out⟩
  | true =>
    have HY := hid (group_yes hf)
    obtain ⟨p1, p2, p3⟩ := group_parts hf
    have HZ := hid (group_size h e l p2)
    have HV := hid (fun k => vrs_size 0 (l.take k))
    have hbd := ls_bd p1
    have z1 := showLs_size h e
    have h12 : l.length ≤ 12 := by omega
    clear hf p1 p2 p3
    go_wp2_with fail
    refine (l4ShowLease h e _ hbd.1 hbd.2).mono ?_
    rintro r w3 ⟨rfl, b3⟩
    have HA3 := hid (HA2.out.below b3 HA2.out.lt)
    have HB3 := hid (HB2.out.trans (b3.mono HB2.out.size))
    clear b3 k0 k1 k2 HA2
    generalize hp : (⟨#[103]⟩ : ByteArray) ++ showLs h e = p at *
    have zp : p.size ≤ 15 := by rw [← hp, ByteArray.size_append]; have : (⟨#[103]⟩ : ByteArray).size = 1 := rfl; omega
    go_wp2
    clear hp
    go_loopw [3, 4] (fun s i wr => ∃ k : Nat, k ≤ l.length ∧ i = .int .i64 (k : Int) ∧ s = .string (p ++ vrs 0 (l.take k)) ∧ Hid (Below w3.heap.size w3 wr)) (fun _ i _ => l.length - (intOf i).toNat)
    case atStart => exact ⟨0, Nat.zero_le _, rfl, by rw [show vrs 0 (l.take 0) = ⟨#[]⟩ from rfl, append_empty], Below.refl _ _⟩
    case round =>
      obtain ⟨k, hk, rfl, rfl, HB'⟩ := hrel
      have k2 := (HA3.out.below HB'.out HA3.out.lt).c 2 rfl
      have HBr := hid (HB3.out.trans (HB'.out.mono HB3.out.size))
      by_cases hlt : k < l.length
      · obtain ⟨b, off, rfl, hc⟩ := (HS.out.below HBr.out) k hlt
        replace hc : wr.cell? ⟨b, off + k, none⟩ = some (.int .i64 (l.getD k 0)) := hc
        have HT := hid (vrs_take 0 l k hlt)
        have hz := HV.out k
        have hzl : (l.take k).length ≤ k := List.length_take_le _ _
        generalize l.getD k 0 = x at *
        generalize vrs 0 (l.take k) = s at *
        have hps : (p ++ s).size ≤ 1000 := by rw [ByteArray.size_append]; omega
        have HAs := hid (append_assoc p s (vr (x - 0)))
        generalize p ++ s = q at *
        go_wp2_with fail
        refine (sVar x _).mono ?_
        rintro r w4 ⟨rfl, b4⟩
        have zx := vr_size x
        have HB4 := hid (HB'.out.trans (b4.mono HB'.out.size))
        clear b4 hc k2
        go_wp2
        exact ⟨⟨k + 1, by omega, by go_num, by rw [HT.out, ← HAs.out, Int.sub_zero], HB4⟩, by simp [intOf]; omega⟩
      · obtain rfl : k = l.length := by omega
        have HE : Hid (vrs 0 (l.take l.length) = vrs 0 l) := by rw [Hid, List.take_length]
        rw [HE.out]
        generalize p ++ vrs 0 l = q at *
        go_wp2_with fail
        refine (l4Sum q _ HZ.out).mono ?_
        rintro r w4 ⟨rfl, b4⟩
        have HB4 := hid (HBr.out.trans (b4.mono HBr.out.size))
        clear b4 k2
        go_wp2
        go_ret
        exact ⟨Own.ret_str HY.out, HB4.out⟩

set_option maxRecDepth 100000 in
set_option maxHeartbeats 1000000 in
theorem iShowGroup (w : World) (h e : Int) (a : Option Addr) (cap : Nat) (l : List Int) (S : Ints w a l) (hl : l.length ≤ 1048576) (T : Sums w) :
    Calls Tryz.prog 175 #[gpV h e a l.length cap] w fun r w' => r = .returned (.string (showGroup h e l)) ∧ Below w.heap.size w w' := by
  unfold gpV
  obtain ⟨wa, hwa, ez, A0, B0⟩ := one_new w [.int .i64 h, .int .i64 e, .slice a l.length cap] 107
  have k0 := A0.c 0 rfl
  have k1 := A0.c 1 rfl
  have k2 := A0.c 2 rfl
  have HA := hid A0
  have HB := hid B0
  have HS := hid S
  have HT := hid T
  clear A0 B0 S T
  go_enter Tryz.func175, Tryz.ntmps175
  go_wp2_with fail
  refine (isGroup wa h e a cap l (HS.out.below HB.out) hl).mono ?_
  rintro r w2 ⟨rfl, b2⟩
  have HA2 := hid (HA.out.below b2 HA.out.lt)
  replace k0 := HA2.out.c 0 rfl
  replace k1 := HA2.out.c 1 rfl
  replace k2 := HA2.out.c 2 rfl
  have HB2 := hid (HB.out.trans (b2.mono HB.out.size))
  have HT2 := hid (HT.out.below HB2.out)
  clear b2 hwa HA
  cases hf : groupOk h e l with
  | false =>
    have HN := hid (group_no hf)
    clear hf
    go_wp2
    go_ret
    exact ⟨Own.ret_str HN.out.symm, HB2.out⟩
  | true =>
    have HY := hid (group_yes hf)
    obtain ⟨p1, p2, p3⟩ := group_parts hf
    have HZ := hid (group_size h e l p2)
    have hbd := ls_bd p1
    have z1 := showLs_size h e
    have z2 := vrs_size 0 l
    have h12 : l.length ≤ 12 := by omega
    have HP := hid (between_getD p3)
    clear hf p1 p2 p3
    go_wp2
    replace k0 := BW.cell k0
    replace k1 := BW.cell k1
    replace k2 := BW.cell k2
    have hne : Nonempty (BW w2) := ⟨⟨w2, Below.refl _ _⟩⟩
    refine wp_region_bw (by kernel_rfl) (by kernel_rfl) ?_
    repeat (go_big_quiet_step (first
      | (go_at_call 227; refine bw_below (showNumbers _ a cap l 0 (HS.out.below (HB2.out.trans ((BW.bel _).mono HB2.out.size))) (by omega) (by decide) (fun k hk => by have := HP.out k hk; omega)))
      | (go_at_call 225; refine bw_below (showLease h e _ hbd.1 hbd.2))
      | (go_at_call 184; refine bw_below (withSum' _ _ HZ.out (HT2.out.below (BW.bel _))))))
    refine wpQuiet_nil ?_
    intro _ hw'
    obtain ⟨u, rfl⟩ := hw'
    have HU := hid (HB2.out.trans (u.bel.mono HB2.out.size))
    clear k0 k1 k2
    go_wp2
    go_ret
    exact ⟨Own.ret_str HY.out, HU.out⟩

end Go.Proofs.YtaopkchkhdbfnaaGreatDoor.Sec
