/-
  The walk of the cursor's numbers: a list of numbers, or a part lacks. Condition: the error of a part that lacks stands in its variable.
-/
import Derived.Test.YtogebppolkfldaaGreatDoorRdCur
namespace Go.Proofs.YtogebppolkfldaaGreatDoor.Rd
open Go.RowKit Go.Proofs.YtogebppolkfldaaGreatDoor.Mem
set_option linter.unusedVariables false

/-- What numbers gives. -/
def NumsGive (w w' : World) (c : Nat) (s : ByteArray) (lo : Int) (u : TypeId) (pv : Value) (e : Ending) : Option (List Int × Nat) → Prop
  | some (l, z) => ∃ v, e = .returned v ∧ Ir w' w.heap.size v (l.map (· + lo)) ∧ Cur w' c (rest s z)
  | none => e = lack u pv

theorem cur_kept {S : Nat → Prop} {w w' : World} {c : Nat} {r : ByteArray} (h : Cur w c r) (k : Kept S w w') (hn : ¬ S c) : Cur w' c r := by
  unfold Cur; rw [k.block c h.lt hn]; exact h

set_option maxRecDepth 100000 in
set_option maxHeartbeats 2000000 in
theorem numbers (R : ByteArray → Int × Nat) (hR : Reads R) (s : ByteArray) (hs : s.size ≤ 1048576) (i n : Nat) (hn : n ≤ 100) (lo : Int) (hlo : -1 ≤ lo ∧ lo ≤ 0) (w : World) (c : Nat) (h : Cur w c (rest s i)) (u : TypeId) (pv : Value) (hL : Lacks w u pv) (hc : 1 < c) :
    Calls Tryz.prog 128 #[.pointer (some ⟨c, 0, none⟩), .int .i64 (n : Int), .int .i64 lo] w fun e w' => NumsGive w w' c s lo u pv e (nums R s i n) ∧ Kept (fun b => b = c) w w' := by
  have HR := hid hR
  have HH := hid h
  have HL := hid hL
  have hcl := h.lt
  clear hR h hL
  go_enter Tryz.func128, Tryz.ntmps128
  go_wp2
  go_loopw [7, 9] (fun v j wr => ∃ (k : Nat) (l : List Int) (z : Nat), k ≤ n ∧ j = .int .i64 (k : Int) ∧ Hid (nums R s i k = some (l, z)) ∧ Hid (Ir wr w.heap.size v (l.map (· + lo))) ∧ Hid (Cur wr c (rest s z)) ∧ Hid (Kept (fun b => b = c) w wr)) (fun _ j _ => n - (intOf j).toNat)
  case atStart => exact ⟨0, [], i, Nat.zero_le _, rfl, rfl, Or.inl ⟨_, rfl, rfl, rfl⟩, HH, Kept.refl _ _⟩
  case round =>
    obtain ⟨k, l, z, hk, rfl, HN, HI, HC, HK⟩ := hrel
    have hl : (l.map (· + lo)).length ≤ 100 := by have := nums_len HN.out; simp; omega
    obtain ⟨a, cap, rfl, _⟩ := HI.out.w
    have hws := HK.out.size
    by_cases hlt : k < n
    · have HST := hid (nums_step HN.out)
      have HLr := hid (HL.out.kept HK.out (by omega))
      have HXb := hid (HR.out (rest s z) (by rw [rest_size]; unfold maxLen; omega))
      go_wp2_with fail
      refine (number R HR.out s hs z wr c HC.out u pv HLr.out).mono ?_
      rintro e w1 (⟨hq, rfl, M1⟩ | ⟨hq, rfl, hw⟩)
      · have HX : Hid (nums R s i (k + 1) = some (l ++ [(R (rest s z)).1], z + (R (rest s z)).2)) := by rw [Hid, HST.out, if_neg hq]
        have hx0 := HXb.out.x0
        have hx1 := HXb.out.x1
        have HM := hid M1
        have HI1 : Hid (Ir w1 w.heap.size (.slice a (l.map (· + lo)).length cap) (l.map (· + lo))) := RowO.kept HI.out M1.2 (fun b hb x => by have := (RowO.lt HI.out hb).1; omega)
        have hs1 := M1.2.size
        have HMp : Hid (l.map (· + lo) ++ [(R (rest s z)).1 + lo] = (l ++ [(R (rest s z)).1]).map (· + lo)) := by simp [Hid]
        clear M1 hq HST HXb
        generalize (R (rest s z)).1 = x at *
        generalize z + (R (rest s z)).2 = z2 at *
        generalize l.map (· + lo) = ll at *
        have hwb : w.heap.size ≤ (w1.alloc (.cells #[.int .i64 (x + lo)] 3)).heap.size := by have := lt_alloc w1 (.cells #[.int .i64 (x + lo)] 3); omega
        go_wp2_with (at_builtin; refine wpList_app 23 3 (.int .i64 0) 1 8 Tryz.underlying23 info3 rfl (by decide) (by decide) _ rfl (.tmp 11) (.tmp 16) rfl w.heap.size _ ll.length (ic ll) rfl (HI1.out.below ((Below.refl _ _).alloc (Nat.le_refl _) _)) ⟨w1.heap.size, 0, none⟩ 1 1 [.int .i64 (x + lo)] rfl rfl (one_row w1 (x + lo)) (by intro u hu; exact ic_one [x + lo] u (by simpa [ic] using hu)) (by omega) hwb ?_; intro v2 w2 r2 kk hi2; obtain ⟨p2, d2, e2, _⟩ := r2.wr; subst e2)
        have hrb : ∀ b, rb (.slice a ll.length cap) = some b → w.heap.size ≤ b := fun b hb => (RowO.lt HI1.out hb).1
        have HC2 : Cur w2 c (rest s z2) := cur_kept ((HM.out.1).below ((Below.refl _ _).alloc (Nat.le_refl _) _)) kk (fun x => by have := hrb c x; omega)
        have HK2 : Kept (fun b => b = c) w w2 := ((HK.out.trans HM.out.2).trans ((Kept.of_below (S := fun _ => False) ((Below.refl _ w1).alloc (Nat.le_refl _) (.cells #[.int .i64 (x + lo)] 3))).trans kk)).mono (fun b hb x => by rcases x with (x | x) | (x | x); exact x; exact x; cases x; (have := hrb b x; omega))
        exact ⟨⟨k + 1, l ++ [x], z2, by omega, by go_num, HX, by rw [← HMp.out]; unfold Ir; rw [← ic_app, List.length_append]; exact r2, HC2, HK2⟩, by simp [intOf]; omega⟩
      · have HX : Hid (nums R s i n = none) := by
          have hz : nums R s i (k + 1) = none := by rw [HST.out, if_pos hq]
          have := nums_none hz (n - (k + 1))
          rwa [show k + 1 + (n - (k + 1)) = n by omega] at this
        obtain rfl := hw.symm
        clear hq hw
        unfold lack
        go_wp2
        rw [HX.out]
        exact ⟨rfl, rfl, HK.out⟩
    · obtain rfl : k = n := by omega
      go_wp2
      go_ret
      rw [HN.out]
      exact ⟨⟨_, rfl, HI.out, HC.out⟩, HK.out⟩

end Go.Proofs.YtogebppolkfldaaGreatDoor.Rd
