/-
  Plain: what a piece and outs are read as. The walks of impl's cursor's piece, and of impl.outsParts. Condition: the error of a part that lacks stands in its variable.
-/
import Derived.Test.YtfbnnhgaedficafDoorRdFrees
import Derived.Test.YtfbnnhgaedficafDoorSecJn7
import Derived.Test.YtfbnnhgaedficafDoorAppRow
namespace Go.Proofs.YtfbnnhgaedficafDoor.Rd
open Go.RowKit Go.Proofs.YtfbnnhgaedficafDoor.Mem Go.Proofs.YtfbnnhgaedficafDoor.Sec
set_option linter.unusedVariables false

/-- A piece at a place: its text, and where it ends. -/
def pieceAt (R : ByteArray → Int × Nat) (s : ByteArray) (i : Nat) : Option (ByteArray × Nat) :=
  if (R (rest s i)).2 = 0 then none
  else if ((rest s (i + (R (rest s i)).2)).size : Int) < (R (rest s i)).1 then none
  else some ((rest s (i + (R (rest s i)).2)).extract 0 (R (rest s i)).1.toNat, i + (R (rest s i)).2 + (R (rest s i)).1.toNat)

theorem pieceAt_size {R : ByteArray → Int × Nat} {s : ByteArray} {i : Nat} {t : ByteArray} {z : Nat} (h : pieceAt R s i = some (t, z)) : t.size ≤ s.size := by
  unfold pieceAt at h
  split at h
  · cases h
  · split at h
    · cases h
    · simp only [Option.some.injEq, Prod.mk.injEq] at h
      rw [← h.1, ByteArray.size_extract, rest_size]
      omega

/-- Outs at a place. -/
def outsAt (R : ByteArray → Int × Nat) (s : ByteArray) (i : Nat) : Nat → Option (List Ou × Nat)
  | 0 => some ([], i)
  | k + 1 => (outsAt R s i k).bind fun p => if (R (rest s p.2)).2 = 0 then none else (pieceAt R s (p.2 + (R (rest s p.2)).2)).map fun q => (p.1 ++ [⟨(R (rest s p.2)).1, q.1⟩], q.2)

theorem outsAt_len {R : ByteArray → Int × Nat} {s : ByteArray} {i : Nat} : ∀ {k : Nat} {l : List Ou} {e : Nat}, outsAt R s i k = some (l, e) → l.length = k ∧ ∀ x ∈ l, x.text.size ≤ s.size
  | 0, l, e, h => by simp [outsAt] at h; obtain ⟨rfl, _⟩ := h; simp
  | k + 1, l, e, h => by
    unfold outsAt at h
    cases hk : outsAt R s i k with
    | none => rw [hk] at h; cases h
    | some p =>
      obtain ⟨l0, e0⟩ := p
      rw [hk] at h
      simp only [Option.bind_some] at h
      split at h
      · cases h
      · cases hp : pieceAt R s (e0 + (R (rest s e0)).2) with
        | none => rw [hp] at h; cases h
        | some q =>
          obtain ⟨t, z⟩ := q
          rw [hp] at h
          simp only [Option.map_some, Option.some.injEq, Prod.mk.injEq] at h
          obtain ⟨rfl, rfl⟩ := h
          have ih := outsAt_len hk
          refine ⟨by simp [ih.1], fun x hx => ?_⟩
          rcases List.mem_append.1 hx with hx | hx
          · exact ih.2 x hx
          · obtain rfl := List.mem_singleton.1 hx
            exact pieceAt_size hp

theorem outsAt_none {R : ByteArray → Int × Nat} {s : ByteArray} {i k : Nat} (h : outsAt R s i k = none) : ∀ n, outsAt R s i (k + n) = none
  | 0 => h
  | n + 1 => by
    show outsAt R s i ((k + n) + 1) = none
    unfold outsAt
    rw [outsAt_none h n]
    rfl

theorem outsAt_step {R : ByteArray → Int × Nat} {s : ByteArray} {i k : Nat} {l : List Ou} {e : Nat} (h : outsAt R s i k = some (l, e)) :
    outsAt R s i (k + 1) = if (R (rest s e)).2 = 0 then none else (pieceAt R s (e + (R (rest s e)).2)).map fun q => (l ++ [⟨(R (rest s e)).1, q.1⟩], q.2) := by
  conv => lhs; unfold outsAt
  rw [h]
  rfl

set_option maxRecDepth 100000 in
set_option maxHeartbeats 1000000 in
/-- A piece: how many bytes, then they; or a part lacks. -/
theorem piece (R : ByteArray → Int × Nat) (hR : Reads R) (s : ByteArray) (hs : s.size ≤ 1048576) (i : Nat) (w : World) (c : Nat) (h : Cur w c (rest s i)) (u : TypeId) (pv : Value) (hL : Lacks w u pv) (hc : 1 < c) :
    Calls Tryd.prog 107 #[.pointer (some ⟨c, 0, none⟩)] w fun e w' => (∃ t z, pieceAt R s i = some (t, z) ∧ e = .returned (.string t) ∧ Moved w w' c (rest s z)) ∨ (pieceAt R s i = none ∧ e = lack u pv ∧ Kept (fun b => b = c) w w') := by
  have HR := hid hR
  have HH := hid h
  have HL := hid hL
  have hx0 : 0 ≤ (R (rest s i)).1 := (hR (rest s i) (by rw [rest_size]; unfold maxLen; omega)).x0
  clear hR h hL
  go_enter Tryd.func107, Tryd.ntmps107
  go_wp2_with fail
  refine (number R HR.out s hs i w c HH.out u pv HL.out).mono ?_
  rintro e w1 (⟨hq, rfl, M1⟩ | ⟨hq, rfl, hw⟩)
  · obtain ⟨n, hn⟩ : ∃ n : Nat, (R (rest s i)).1 = (n : Int) := Int.eq_ofNat_of_zero_le hx0
    have HP : Hid (pieceAt R s i = if ((rest s (i + (R (rest s i)).2)).size : Int) < (n : Int) then none else some ((rest s (i + (R (rest s i)).2)).extract 0 n, i + (R (rest s i)).2 + n)) := by
      unfold Hid pieceAt; rw [if_neg hq, hn, Int.toNat_natCast]
    have HM := hid M1
    have HL1 := hid (HL.out.kept M1.2 (by omega))
    rw [hn]
    clear hq M1 hx0 hn
    generalize i + (R (rest s i)).2 = i2 at *
    have hsz : (rest s i2).size ≤ 1048576 := by rw [rest_size]; omega
    by_cases hlt : ((rest s i2).size : Int) < (n : Int)
    · have HN : Hid (pieceAt R s i = none) := by rw [Hid, HP.out, if_pos hlt]
      go_wp2_with fail
      refine (take_no w1 c (rest s i2) (n : Int) HM.out.1 hlt u pv HL1.out).mono ?_
      rintro e w2 ⟨rfl, hw⟩
      obtain rfl := hw.symm
      unfold lack
      clear hlt
      go_wp2
      exact ⟨rfl, Or.inr ⟨HN.out, rfl, HM.out.2⟩⟩
    · have HN : Hid (pieceAt R s i = some ((rest s i2).extract 0 n, i2 + n)) := by rw [Hid, HP.out, if_neg hlt]
      have HRR := hid (rest_rest s i2 n)
      go_wp2_with fail
      refine (take_yes w1 c (rest s i2) n HM.out.1 (by omega) hsz).mono ?_
      rintro e w2 ⟨rfl, hw⟩
      have HM2 : Hid (Moved w w2 c (rest s (i2 + n))) := HM.out.trans (by rw [hw, HRR.out]; exact moved_set HM.out.1 _)
      clear hw hlt
      generalize (rest s i2).extract 0 n = t at *
      go_wp2
      go_ret
      exact Or.inl ⟨t, i2 + n, HN.out, rfl, HM2.out⟩
  · have HN : Hid (pieceAt R s i = none) := by unfold Hid pieceAt; rw [if_pos hq]
    obtain rfl := hw.symm
    clear hq hw
    unfold lack
    go_wp2
    exact ⟨rfl, Or.inr ⟨HN.out, rfl, Kept.refl _ _⟩⟩

/-- The cells of a list of outs, and a row of them of its own. -/
def oc (l : List Ou) : List Value := l.flatMap Ou.cells
theorem oc_len (l : List Ou) : (oc l).length = l.length * 2 := by
  induction l with
  | nil => rfl
  | cons x l ih => simp only [oc, List.flatMap_cons, List.length_append, List.length_cons] at *; rw [ih]; simp [Ou.cells]; omega
theorem oc_app (l : List Ou) (x : Ou) : oc l ++ x.cells = oc (l ++ [x]) := by simp [oc]
theorem oc_at (l : List Ou) (i : Nat) (h : i < l.length * 2) : (oc l).getD i undef = ocell l i := by
  induction l generalizing i with
  | nil => simp at h
  | cons x l ih =>
    have e : oc (x :: l) = Value.int .i64 x.sec :: .string x.text :: oc l := rfl
    rw [e]
    match i, h with
    | 0, _ => rfl
    | 1, _ => rfl
    | i + 2, h =>
      have := ih i (by simp only [List.length_cons] at h; omega)
      show (oc l).getD i undef = _
      rw [this]
      unfold ocell
      rw [show (i + 2) / 2 = i / 2 + 1 by omega, show (i + 2) % 2 = i % 2 by omega]
      rfl

def Or2 (w : World) (B : Nat) (v : Value) (l : List Ou) : Prop := RowO w B 65 2 v l.length (oc l)

theorem Or2.w {w : World} {B : Nat} {v : Value} {l : List Ou} (h : Or2 w B v l) : ∃ a cap, v = .slice a l.length cap ∧ OusW w B a l := by
  obtain ⟨a, cap, e, hw⟩ := RowO.wr h
  exact ⟨a, cap, e, hw.congr (fun i hi => oc_at l i hi)⟩

theorem infoOut : (Tryd.prog.info? 65).map (fun i => (i.zero, i.size, i.bytes)) = some (some (.agg #[.int .i64 0, .string ByteArray.empty]), 2, 24) := by kernel_rfl

theorem one_out (w : World) (x : Int) (t : ByteArray) : Sl (w.alloc (.cells #[.int .i64 x, .string t] 65)) (some ⟨w.heap.size, 0, none⟩) (1 * 2) (fun i => [Value.int .i64 x, .string t].getD i undef) :=
  (wr_new w _ 65 2 (fun i => [Value.int .i64 x, .string t].getD i undef) (fun i hi => by
    have : i = 0 ∨ i = 1 := by omega
    rcases this with rfl | rfl <;> rfl)).sl

/-- The outs of a journal's text: how many, then they. -/
def outsAll (R : ByteArray → Int × Nat) (s : ByteArray) (i : Nat) : Option (List Ou × Nat) :=
  if (R (rest s i)).2 = 0 ∨ 8 < (R (rest s i)).1 then none else outsAt R s (i + (R (rest s i)).2) (R (rest s i)).1.toNat

set_option maxRecDepth 100000 in
set_option maxHeartbeats 2000000 in
theorem outsParts (R : ByteArray → Int × Nat) (hR : Reads R) (s : ByteArray) (hs : s.size ≤ 1048576) (i : Nat) (w : World) (c : Nat) (h : Cur w c (rest s i)) (u : TypeId) (pv : Value) (hL : Lacks w u pv) (hc : 1 < c) :
    Calls Tryd.prog 92 #[.pointer (some ⟨c, 0, none⟩)] w fun e w' => ((∃ l z a cap, outsAll R s i = some (l, z) ∧ e = .returned (.slice a l.length cap) ∧ Or2 w' w.heap.size (.slice a l.length cap) l) ∨ (outsAll R s i = none ∧ e = lack u pv)) ∧ Kept (fun b => b = c) w w' := by
  have HR := hid hR
  have HH := hid h
  have HL := hid hL
  have hcl := h.lt
  have hx0 : 0 ≤ (R (rest s i)).1 := (hR (rest s i) (by rw [rest_size]; unfold maxLen; omega)).x0
  clear hR h hL
  go_enter Tryd.func92, Tryd.ntmps92
  go_wp2_with fail
  refine (count R HR.out s hs i 8 w c HH.out u pv HL.out hc).mono ?_
  rintro e w1 (⟨hq, hm, rfl, M1⟩ | ⟨hq, rfl, k1⟩)
  · have HF : Hid (outsAll R s i = outsAt R s (i + (R (rest s i)).2) (R (rest s i)).1.toNat) := by
      unfold Hid outsAll; rw [if_neg (by omega)]
    have HM := hid M1
    have hws1 := M1.2.size
    clear M1 hq
    generalize i + (R (rest s i)).2 = i2 at *
    obtain ⟨n, hn⟩ : ∃ n : Nat, (R (rest s i)).1 = (n : Int) := Int.eq_ofNat_of_zero_le hx0
    rw [hn] at HF hm
    rw [Int.toNat_natCast] at HF
    rw [hn]
    clear hn hx0
    go_wp2
    go_loopw [3, 7] (fun v j wr => ∃ (k : Nat) (l : List Ou) (z : Nat), k ≤ n ∧ j = .int .i64 (k : Int) ∧ Hid (outsAt R s i2 k = some (l, z)) ∧ Hid (Or2 wr w.heap.size v l) ∧ Hid (Cur wr c (rest s z)) ∧ Hid (Kept (fun b => b = c) w wr)) (fun _ j _ => n - (intOf j).toNat)
    case atStart => exact ⟨0, [], i2, Nat.zero_le _, rfl, rfl, Or.inl ⟨_, rfl, rfl, rfl⟩, HM.out.1, HM.out.2⟩
    case round =>
      obtain ⟨k, l, z, hk, rfl, HN, HI, HC, HK⟩ := hrel
      have hl : l.length ≤ 8 := by have := (outsAt_len HN.out).1; omega
      obtain ⟨a, cap, rfl, _⟩ := HI.out.w
      have hws := HK.out.size
      by_cases hlt : k < n
      · have HST := hid (outsAt_step HN.out)
        have HLr := hid (HL.out.kept HK.out (by omega))
        go_wp2_with fail
        refine (number R HR.out s hs z wr c HC.out u pv HLr.out).mono ?_
        rintro e w2 (⟨hq, rfl, M2⟩ | ⟨hq, rfl, hw⟩)
        · have HX : Hid (outsAt R s i2 (k + 1) = (pieceAt R s (z + (R (rest s z)).2)).map fun q => (l ++ [⟨(R (rest s z)).1, q.1⟩], q.2)) := by rw [Hid, HST.out, if_neg hq]
          have HM2 := hid M2
          have HL2 := hid (HLr.out.kept M2.2 (by omega))
          have HI2 : Hid (Or2 w2 w.heap.size (.slice a l.length cap) l) := RowO.kept HI.out M2.2 (fun b hb x => by have := (RowO.lt HI.out hb).1; omega)
          have HK2 : Hid (Kept (fun b => b = c) w w2) := (HK.out.trans M2.2).mono (fun b _ x => by rcases x with x | x <;> exact x)
          clear M2 hq HST HLr
          generalize (R (rest s z)).1 = x at *
          generalize z + (R (rest s z)).2 = z2 at *
          go_wp2_with fail
          refine (piece R HR.out s hs z2 w2 c HM2.out.1 u pv HL2.out hc).mono ?_
          rintro e w3 (⟨t, z3, hp, rfl, M3⟩ | ⟨hp, rfl, k3⟩)
          · have HX2 : Hid (outsAt R s i2 (k + 1) = some (l ++ [⟨x, t⟩], z3)) := by rw [Hid, HX.out, hp]; rfl
            have HM3 := hid M3
            have HI3 : Hid (Or2 w3 w.heap.size (.slice a l.length cap) l) := RowO.kept HI2.out M3.2 (fun b hb x => by have := (RowO.lt HI2.out hb).1; omega)
            have HK3 : Hid (Kept (fun b => b = c) w w3) := (HK2.out.trans M3.2).mono (fun b _ x => by rcases x with x | x <;> exact x)
            have hws3 := HK3.out.size
            clear M3 hp HX HI2 HM2 HL2
            have hwb : w.heap.size ≤ (w3.alloc (.cells #[.int .i64 x, .string t] 65)).heap.size := by have := lt_alloc w3 (.cells #[.int .i64 x, .string t] 65); omega
            go_wp2_with (at_builtin; refine wpList_app 39 65 (.agg #[.int .i64 0, .string ByteArray.empty]) 2 24 Tryd.underlying39 infoOut rfl (by decide) (by decide) _ rfl (.tmp 11) (.tmp 16) rfl w.heap.size _ l.length (oc l) rfl (RowO.below HI3.out ((Below.refl _ _).alloc (Nat.le_refl _) _)) ⟨w3.heap.size, 0, none⟩ 1 1 [.int .i64 x, .string t] rfl rfl (one_out w3 x t) (by intro u hu; simp at hu; rcases hu with rfl | rfl <;> rfl) (by omega) hwb ?_; intro v2 w4 r2 kk hi2; obtain ⟨p2, d2, e2, _⟩ := r2.wr; subst e2)
            have hrb : ∀ b, rb (.slice a l.length cap) = some b → w.heap.size ≤ b := fun b hb => (RowO.lt HI3.out hb).1
            have HC2 : Cur w4 c (rest s z3) := cur_kept ((HM3.out.1).below ((Below.refl _ _).alloc (Nat.le_refl _) _)) kk (fun x => by have := hrb c x; omega)
            have HK4 : Kept (fun b => b = c) w w4 := (HK3.out.trans ((Kept.of_below (S := fun _ => False) ((Below.refl _ w3).alloc (Nat.le_refl _) (.cells #[.int .i64 x, .string t] 65))).trans kk)).mono (fun b hb x => by rcases x with x | (x | x); exact x; cases x; (have := hrb b x; omega))
            exact ⟨⟨k + 1, l ++ [⟨x, t⟩], z3, by omega, by go_num, HX2, by unfold Or2; rw [← oc_app, List.length_append]; exact r2, HC2, HK4⟩, by simp [intOf]; omega⟩
          · have HX2 : Hid (outsAll R s i = none) := by
              have hz : outsAt R s i2 (k + 1) = none := by rw [HX.out, hp]; rfl
              have := outsAt_none hz (n - (k + 1))
              rw [Hid, HF.out]
              rwa [show k + 1 + (n - (k + 1)) = n by omega] at this
            have HK3 : Hid (Kept (fun b => b = c) w w3) := (HK2.out.trans k3).mono (fun b _ x => by rcases x with x | x <;> exact x)
            clear hp k3
            unfold lack
            go_wp2
            exact ⟨rfl, Or.inr ⟨HX2.out, rfl⟩, HK3.out⟩
        · have HX2 : Hid (outsAll R s i = none) := by
            have hz : outsAt R s i2 (k + 1) = none := by rw [HST.out, if_pos hq]
            have := outsAt_none hz (n - (k + 1))
            rw [Hid, HF.out]
            rwa [show k + 1 + (n - (k + 1)) = n by omega] at this
          obtain rfl := hw.symm
          clear hq hw
          unfold lack
          go_wp2
          exact ⟨rfl, Or.inr ⟨HX2.out, rfl⟩, HK.out⟩
      · obtain rfl : k = n := by omega
        go_wp2
        go_ret
        exact ⟨Or.inl ⟨l, z, a, cap, HF.out.trans HN.out, rfl, HI.out⟩, HK.out⟩
  · have HX2 : Hid (outsAll R s i = none) := by unfold Hid outsAll; rw [if_pos hq]
    have HK1 := hid k1
    clear hq k1
    unfold lack
    go_wp2
    exact ⟨rfl, Or.inr ⟨HX2.out, rfl⟩, HK1.out⟩

end Go.Proofs.YtfbnnhgaedficafDoor.Rd
