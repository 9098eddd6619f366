/-
  The walk of spec.Format: a new disk's sectors. No condition.
-/
import Derived.Test.YtfbnnhgaedficafDoorFm
import Derived.Deep.RegionHeldLaw
namespace Go.Proofs.YtfbnnhgaedficafDoor.Fm
open Go.RowKit Go.Proofs.YtfbnnhgaedficafDoor.Mem Go.Proofs.YtfbnnhgaedficafDoor.Sec
set_option linter.unusedVariables false

/-- 'append' on an owned row, as one step of a region that draws its order. -/
theorem step_app_own {P : Program} (t e : TypeId) (z : Value) (k bytes : Nat) (ht : P.underlying t = some (.slice e)) (hinfo : (P.info? e).map (fun i => (i.zero, i.size, i.bytes)) = some (some z, k, bytes)) (hzs : z.cells.size = k) (hk : 0 < k) (hby : bytes ≤ 1048576)
    {ops : Array Oper} {o : Oper} {a : Act} {w : World} {K : Act → World → Prop} {Q : Exit → Act → World → Prop} {E : Prop} (hgd : o.guard = none) (s x : Operand)
    (ho : o.op = .call { callee := .builtin .append, args := #[s, x], argTypes := #[t, t] })
    (B : Nat) (v : Value) (n : Nat) (xs : List Value) (hs : a.eval s = v) (h : RowO w B e k v n xs) (ad : Addr) (m c : Nat) (news : List Value) (hx : a.eval x = .slice (some ad) m c) (hl : news.length = m * k) (hS : Sl w (some ad) (m * k) (fun i => news.getD i undef)) (h1 : ∀ u ∈ news, u.oneCell' = true)
    (hm : n + m ≤ 1048576) (hB : B ≤ w.heap.size)
    (hK : ∀ v' w', RowO w' B e k v' (n + m) (xs ++ news) → Kept (fun b => rb v = some b) w w' → K (a.put o.dst v') w') :
    if Region.wanted o (yielded ops a.tmps) = true then Oper.wp P o a w K Q else E := by
  have hw : Region.wanted o (yielded ops a.tmps) = true := by simp [Region.wanted, hgd]
  rw [if_pos hw]
  obtain ⟨v', w', hr, h2, h3, h4⟩ := run_app (P := P) w B t o.type e z k bytes ht hinfo hzs hk v n xs h ad m c news hl hS h1 hm hby hB
  unfold Oper.wp execOp
  simp only [ho, resolve, invoke, builtin, Sem.run_bind, Sem.run_pure, Result.andThen_ok, List.map_toArray, List.map_cons, List.map_nil, hs, hx, hr]
  exact hK v' w' h2 h3

theorem rep_step (p : List ByteArray) (k : Nat) (x : ByteArray) : (p ++ List.replicate k x).map Value.string ++ [.string x] = (p ++ List.replicate (k + 1) x).map .string := by
  rw [List.replicate_succ']; simp

theorem grow_next {w wr : World} {v : Value} {e : TypeId} {p : List ByteArray} {y : ByteArray} (h : Grow w wr v e (p.map .string)) : Grow w wr v e ((p ++ List.replicate 0 y).map .string) := by
  simpa using h

theorem lit3 : ((3 : Nat) : Int) = 3 := rfl
theorem lit4 : ((4 : Nat) : Int) = 4 := rfl

theorem small0 : J0.Small := ⟨by decide, by decide, by intro x hx; simp [J0] at hx⟩
theorem outs0 (w : World) : Ous w none J0.outs := fun i hi => by simp [J0] at hi

theorem ints6b (w w1 : World) (b : Below (w.alloc (.cells #[.int .i64 0, .int .i64 0, .int .i64 0, .int .i64 0, .int .i64 0, .int .i64 0] 3)).heap.size (w.alloc (.cells #[.int .i64 0, .int .i64 0, .int .i64 0, .int .i64 0, .int .i64 0, .int .i64 0] 3)) w1) : Ints w1 (some ⟨w.heap.size, 0, none⟩) [0, 0, 0, 0, 0, 0] := Sl.below (ints6 w) b

theorem sShow6 (w : World) (a : Option Addr) (S : Ints w a [0, 0, 0, 0, 0, 0]) : Calls Tryd.prog 62 #[.agg #[.int .i64 (-1), .int .i64 0, .slice a 6 6]] w fun r w' => r = .returned (.string (showGroup (-1) 0 [0, 0, 0, 0, 0, 0])) ∧ Below w.heap.size w w' :=
  sShowGroup w (-1) 0 a 6 [0, 0, 0, 0, 0, 0] S (by decide)

set_option maxRecDepth 100000 in
set_option maxHeartbeats 1000000 in
theorem sFormat (w : World) : Calls Tryd.prog 25 #[] w fun r w' => ∃ a cap, r = .returned (.slice a 34 cap) ∧ StrsW w' w.heap.size a fmt ∧ Below w.heap.size w w' := by
  have HF : Hid (([] : List ByteArray) ++ List.replicate 3 (fresh 0) ++ List.replicate 3 (fresh 1) ++ List.replicate 3 (fresh 2) ++ List.replicate 4 (fresh 3) ++ List.replicate 3 (fresh 4) ++ List.replicate 18 (fresh 5) = fmt) := rfl
  go_enter Tryd.func25, Tryd.ntmps25
  go_wp2
  go_loopw [1, 2] (fun v i wr => ∃ (k : Nat), k ≤ 3 ∧ i = .int .i64 (k : Int) ∧ Hid (Grow w wr v 9 ((([] : List ByteArray) ++ List.replicate k (fresh 0)).map .string))) (fun _ i _ => 3 - (intOf i).toNat)
  case atStart => exact ⟨0, Nat.zero_le _, rfl, grow_none w _ _ _ ((Below.refl _ _).alloc (Nat.le_refl _) _)⟩
  case round =>
    obtain ⟨k, hk, rfl, HG⟩ := hrel
    by_cases hlt : k < 3
    · have HX := hid (rep_step (([] : List ByteArray)) k (fresh 0))
      have hlen : ((([] : List ByteArray) ++ List.replicate k (fresh 0)).map Value.string).length + 1 ≤ 1048576 := by simp; omega
      generalize (([] : List ByteArray) ++ List.replicate k (fresh 0)).map Value.string = xs at *
      go_wp2_with fail
      refine (l4Nobody wr).mono ?_
      rintro e wa ⟨rfl, ba⟩
      have HGa := hid (HG.out.move ba)
      clear ba
      unfold lsV
      go_wp2_with fail
      refine (sShowHost 0 (-1) 0 wa).mono ?_
      rintro e wn ⟨rfl, bn⟩
      have HGn := hid (HGa.out.move bn)
      clear bn HGa
      go_wp2_with (at_builtin; refine wpList_app 48 9 (.string ByteArray.empty) 1 16 Tryd.underlying48 infoStr rfl (by decide) (by decide) _ rfl (.tmp 13) (.tmp 17) rfl w.heap.size _ xs.length xs rfl (HGn.out.alloc _) ⟨wn.heap.size, 0, none⟩ 1 1 [.string (showHost 0 (-1) 0)] rfl rfl (one_cell _ _ _) (by intro u hu; simp at hu; subst hu; rfl) hlen (HGn.out.szA _) ?_; intro v1 w1 r1 kk _; have HS := hid (HGn.out.step r1 kk))
      exact ⟨⟨k + 1, by omega, by go_num, HX.out ▸ HS⟩, by simp [intOf]; omega⟩
    · obtain rfl : k = 3 := by omega
      obtain ⟨wo0, hwo⟩ : ∃ wo, wo = wr := ⟨_, rfl⟩
      subst hwo
      have HG0 := hid (grow_next (y := fresh 1) HG.out)
      clear HG hlt hk
      simp only [lit3]
      go_wp2
      go_loopw [1, 3] (fun v i wr => ∃ (k : Nat), k ≤ 3 ∧ i = .int .i64 (k : Int) ∧ Hid (Grow w wr v 9 ((([] : List ByteArray) ++ List.replicate 3 (fresh 0) ++ List.replicate k (fresh 1)).map .string))) (fun _ i _ => 3 - (intOf i).toNat)
      case atStart => exact ⟨0, Nat.zero_le _, rfl, HG0⟩
      case round =>
        obtain ⟨k, hk, rfl, HG⟩ := hrel
        by_cases hlt : k < 3
        · have HX := hid (rep_step (([] : List ByteArray) ++ List.replicate 3 (fresh 0)) k (fresh 1))
          have hlen : ((([] : List ByteArray) ++ List.replicate 3 (fresh 0) ++ List.replicate k (fresh 1)).map Value.string).length + 1 ≤ 1048576 := by simp; omega
          generalize (([] : List ByteArray) ++ List.replicate 3 (fresh 0) ++ List.replicate k (fresh 1)).map Value.string = xs at *
          go_wp2_with fail
          refine (sShowJournal wr J0 none 0 (outs0 _) small0).mono ?_
          rintro e wn ⟨rfl, bn⟩
          have HGn := hid (HG.out.move bn)
          clear bn
          go_wp2_with (at_builtin; refine wpList_app 48 9 (.string ByteArray.empty) 1 16 Tryd.underlying48 infoStr rfl (by decide) (by decide) _ rfl (.tmp 23) (.tmp 26) rfl w.heap.size _ xs.length xs rfl (HGn.out.alloc _) ⟨wn.heap.size, 0, none⟩ 1 1 [.string (J0.show)] rfl rfl (one_cell _ _ _) (by intro u hu; simp at hu; subst hu; rfl) hlen (HGn.out.szA _) ?_; intro v1 w1 r1 kk _; have HS := hid (HGn.out.step r1 kk))
          go_roundw
          case rel => exact ⟨k + 1, by omega, by go_num, HX.out ▸ HS⟩
          case measure => simp [intOf]; omega
        · obtain rfl : k = 3 := by omega
          obtain ⟨wo1, hwo⟩ : ∃ wo, wo = wr := ⟨_, rfl⟩
          subst hwo
          have HG1 := hid (grow_next (y := fresh 2) HG.out)
          clear HG hlt hk
          simp only [lit3]
          go_wp2
          go_loopw [1, 4] (fun v i wr => ∃ (k : Nat), k ≤ 3 ∧ i = .int .i64 (k : Int) ∧ Hid (Grow w wr v 9 ((([] : List ByteArray) ++ List.replicate 3 (fresh 0) ++ List.replicate 3 (fresh 1) ++ List.replicate k (fresh 2)).map .string))) (fun _ i _ => 3 - (intOf i).toNat)
          case atStart => exact ⟨0, Nat.zero_le _, rfl, HG1⟩
          case round =>
            obtain ⟨k, hk, rfl, HG⟩ := hrel
            by_cases hlt : k < 3
            · have HX := hid (rep_step (([] : List ByteArray) ++ List.replicate 3 (fresh 0) ++ List.replicate 3 (fresh 1)) k (fresh 2))
              have hlen : ((([] : List ByteArray) ++ List.replicate 3 (fresh 0) ++ List.replicate 3 (fresh 1) ++ List.replicate k (fresh 2)).map Value.string).length + 1 ≤ 1048576 := by simp; omega
              generalize (([] : List ByteArray) ++ List.replicate 3 (fresh 0) ++ List.replicate 3 (fresh 1) ++ List.replicate k (fresh 2)).map Value.string = xs at *
              obtain ⟨we, hwe, ee, E0, BE⟩ := one_new wr [] 3
              have HGe := hid (HG.out.move BE)
              clear E0 BE
              go_wp2_with fail
              refine (sShowFrees we (some ⟨wr.heap.size, 0, none⟩) 0 [] (fun i hi => by simp at hi) (by decide)).mono ?_
              rintro e wn ⟨rfl, bn⟩
              have HGn := hid (HGe.out.move bn)
              clear bn HGe hwe ee
              go_wp2_with (at_builtin; refine wpList_app 48 9 (.string ByteArray.empty) 1 16 Tryd.underlying48 infoStr rfl (by decide) (by decide) _ rfl (.tmp 32) (.tmp 35) rfl w.heap.size _ xs.length xs rfl (HGn.out.alloc _) ⟨wn.heap.size, 0, none⟩ 1 1 [.string (showFrees [])] rfl rfl (one_cell _ _ _) (by intro u hu; simp at hu; subst hu; rfl) hlen (HGn.out.szA _) ?_; intro v1 w1 r1 kk _; have HS := hid (HGn.out.step r1 kk))
              go_roundw
              case rel => exact ⟨k + 1, by omega, by go_num, HX.out ▸ HS⟩
              case measure => simp [intOf]; omega
            · obtain rfl : k = 3 := by omega
              obtain ⟨wo2, hwo⟩ : ∃ wo, wo = wr := ⟨_, rfl⟩
              subst hwo
              have HG2 := hid (grow_next (y := fresh 3) HG.out)
              clear HG hlt hk
              simp only [lit3]
              go_wp2
              go_loopw [1, 5] (fun v i wr => ∃ (k : Nat), k ≤ 4 ∧ i = .int .i64 (k : Int) ∧ Hid (Grow w wr v 9 ((([] : List ByteArray) ++ List.replicate 3 (fresh 0) ++ List.replicate 3 (fresh 1) ++ List.replicate 3 (fresh 2) ++ List.replicate k (fresh 3)).map .string))) (fun _ i _ => 4 - (intOf i).toNat)
              case atStart => exact ⟨0, Nat.zero_le _, rfl, HG2⟩
              case round =>
                obtain ⟨k, hk, rfl, HG⟩ := hrel
                by_cases hlt : k < 4
                · have HX := hid (rep_step (([] : List ByteArray) ++ List.replicate 3 (fresh 0) ++ List.replicate 3 (fresh 1) ++ List.replicate 3 (fresh 2)) k (fresh 3))
                  have hlen : ((([] : List ByteArray) ++ List.replicate 3 (fresh 0) ++ List.replicate 3 (fresh 1) ++ List.replicate 3 (fresh 2) ++ List.replicate k (fresh 3)).map Value.string).length + 1 ≤ 1048576 := by simp; omega
                  generalize (([] : List ByteArray) ++ List.replicate 3 (fresh 0) ++ List.replicate 3 (fresh 1) ++ List.replicate 3 (fresh 2) ++ List.replicate k (fresh 3)).map Value.string = xs at *
                  go_wp2_with fail
                  refine (l4Nobody wr).mono ?_
                  rintro e wa ⟨rfl, ba⟩
                  have HGa := hid (HG.out.move ba)
                  clear ba
                  unfold lsV
                  go_wp2_with fail
                  refine (l4NoMap wa).mono ?_
                  rintro e wb ⟨pa, pc, rfl, hI, bb⟩
                  have HGb := hid (HGa.out.move bb)
                  have HI := hid (Wr.sl hI)
                  clear bb hI HGa
                  go_wp2_with fail
                  refine (sShowVol wb (-1) 0 false pa pc [-1, -1, -1, -1] HI.out (by decide)).mono ?_
                  rintro e wn ⟨rfl, bn⟩
                  have HGn := hid (HGb.out.move bn)
                  clear bn HGb HI
                  go_wp2_with (at_builtin; refine wpList_app 48 9 (.string ByteArray.empty) 1 16 Tryd.underlying48 infoStr rfl (by decide) (by decide) _ rfl (.tmp 41) (.tmp 46) rfl w.heap.size _ xs.length xs rfl (HGn.out.alloc _) ⟨wn.heap.size, 0, none⟩ 1 1 [.string (showVol (-1) 0 false [-1, -1, -1, -1])] rfl rfl (one_cell _ _ _) (by intro u hu; simp at hu; subst hu; rfl) hlen (HGn.out.szA _) ?_; intro v1 w1 r1 kk _; have HS := hid (HGn.out.step r1 kk))
                  go_roundw
                  case rel => exact ⟨k + 1, by omega, by go_num, HX.out ▸ HS⟩
                  case measure => simp [intOf]; omega
                · obtain rfl : k = 4 := by omega
                  obtain ⟨wo3, hwo⟩ : ∃ wo, wo = wr := ⟨_, rfl⟩
                  subst hwo
                  have HG3 := hid (grow_next (y := fresh 4) HG.out)
                  clear HG hlt hk
                  simp only [lit4]
                  go_wp2
                  go_loopw [1, 6] (fun v i wr => ∃ (k : Nat), k ≤ 3 ∧ i = .int .i64 (k : Int) ∧ Hid (Grow w wr v 9 ((([] : List ByteArray) ++ List.replicate 3 (fresh 0) ++ List.replicate 3 (fresh 1) ++ List.replicate 3 (fresh 2) ++ List.replicate 4 (fresh 3) ++ List.replicate k (fresh 4)).map .string))) (fun _ i _ => 3 - (intOf i).toNat)
                  case atStart => exact ⟨0, Nat.zero_le _, rfl, HG3⟩
                  case round =>
                    obtain ⟨k, hk, rfl, HG⟩ := hrel
                    by_cases hlt : k < 3
                    · have HX := hid (rep_step (([] : List ByteArray) ++ List.replicate 3 (fresh 0) ++ List.replicate 3 (fresh 1) ++ List.replicate 3 (fresh 2) ++ List.replicate 4 (fresh 3)) k (fresh 4))
                      have hlen : ((([] : List ByteArray) ++ List.replicate 3 (fresh 0) ++ List.replicate 3 (fresh 1) ++ List.replicate 3 (fresh 2) ++ List.replicate 4 (fresh 3) ++ List.replicate k (fresh 4)).map Value.string).length + 1 ≤ 1048576 := by simp; omega
                      generalize (([] : List ByteArray) ++ List.replicate 3 (fresh 0) ++ List.replicate 3 (fresh 1) ++ List.replicate 3 (fresh 2) ++ List.replicate 4 (fresh 3) ++ List.replicate k (fresh 4)).map Value.string = xs at *
                      have hmk := make6
                      have HG6 : Hid (∀ w1 : World, Below wr.heap.size wr w1 → Ints (w1.alloc (.cells #[.int .i64 0, .int .i64 0, .int .i64 0, .int .i64 0, .int .i64 0, .int .i64 0] 3)) (some ⟨w1.heap.size, 0, none⟩) [0, 0, 0, 0, 0, 0]) := fun w1 _ => ints6 w1
                      go_wp2
                      go_region_held_law (fun _ => True) (trivial)
                        (first
                          | (go_at_call 59; refine (l4Nobody _).mono ?_; rintro e wa ⟨rfl, ba⟩; unfold lsV)
                          | (go_at_call 62; first
                              | (have hI := ints6 wa; (with_reducible refine (sShow6 _ _ hI).mono ?_); rintro e wn ⟨rfl, bn⟩; have HGn := hid (((HG.out.move (undrew ba)).move ((Below.refl _ wa).alloc (Nat.le_refl _) _)).move bn))
                              | (have hI := ints6b wr wa (undrew ba); (with_reducible refine (sShow6 _ _ hI).mono ?_); rintro e wn ⟨rfl, bn⟩; have HGn := hid (((HG.out.move ((Below.refl _ wr).alloc (Nat.le_refl _) _)).move (undrew ba)).move bn)))
                          | (refine step_app_own 48 9 (.string ByteArray.empty) 1 16 Tryd.underlying48 infoStr rfl (by decide) (by decide) (by rfl) (.tmp 52) (.tmp 57) (by rfl) w.heap.size _ xs.length xs (by rfl) (HGn.out.alloc _) ⟨wn.heap.size, 0, none⟩ 1 1 [.string (showGroup (-1) 0 [0, 0, 0, 0, 0, 0])] (by rfl) rfl (one_cell _ _ _) (by intro u hu; simp at hu; subst hu; rfl) hlen (HGn.out.szA _) ?_; intro v1 w1 r1 kk; have HS := hid (HGn.out.step r1 kk)))
                      all_goals (go_wp2; go_roundw; (case rel => exact ⟨k + 1, by omega, by go_num, HX.out ▸ HS⟩); (case measure => simp [intOf]; omega))
                    · obtain rfl : k = 3 := by omega
                      obtain ⟨wo4, hwo⟩ : ∃ wo, wo = wr := ⟨_, rfl⟩
                      subst hwo
                      have HG4 := hid (grow_next (y := fresh 5) HG.out)
                      clear HG hlt hk
                      simp only [lit3]
                      go_wp2
                      go_loopw [1, 7] (fun v i wr => ∃ (k : Nat), k ≤ 18 ∧ i = .int .i64 (k : Int) ∧ Hid (Grow w wr v 9 ((([] : List ByteArray) ++ List.replicate 3 (fresh 0) ++ List.replicate 3 (fresh 1) ++ List.replicate 3 (fresh 2) ++ List.replicate 4 (fresh 3) ++ List.replicate 3 (fresh 4) ++ List.replicate k (fresh 5)).map .string))) (fun _ i _ => 18 - (intOf i).toNat)
                      case atStart => exact ⟨0, Nat.zero_le _, rfl, HG4⟩
                      case round =>
                        obtain ⟨k, hk, rfl, HG⟩ := hrel
                        by_cases hlt : k < 18
                        · have HX := hid (rep_step (([] : List ByteArray) ++ List.replicate 3 (fresh 0) ++ List.replicate 3 (fresh 1) ++ List.replicate 3 (fresh 2) ++ List.replicate 4 (fresh 3) ++ List.replicate 3 (fresh 4)) k (fresh 5))
                          have hlen : ((([] : List ByteArray) ++ List.replicate 3 (fresh 0) ++ List.replicate 3 (fresh 1) ++ List.replicate 3 (fresh 2) ++ List.replicate 4 (fresh 3) ++ List.replicate 3 (fresh 4) ++ List.replicate k (fresh 5)).map Value.string).length + 1 ≤ 1048576 := by simp; omega
                          generalize (([] : List ByteArray) ++ List.replicate 3 (fresh 0) ++ List.replicate 3 (fresh 1) ++ List.replicate 3 (fresh 2) ++ List.replicate 4 (fresh 3) ++ List.replicate 3 (fresh 4) ++ List.replicate k (fresh 5)).map Value.string = xs at *
                          obtain ⟨wn, hwn⟩ : ∃ wn, wn = wr := ⟨_, rfl⟩
                          have HGn := HG
                          subst hwn
                          go_wp2_with (at_builtin; refine wpList_app 48 9 (.string ByteArray.empty) 1 16 Tryd.underlying48 infoStr rfl (by decide) (by decide) _ rfl (.tmp 63) (.tmp 64) rfl w.heap.size _ xs.length xs rfl (HGn.out.alloc _) ⟨wn.heap.size, 0, none⟩ 1 1 [.string (⟨#[]⟩)] rfl rfl (one_cell _ _ _) (by intro u hu; simp at hu; subst hu; rfl) hlen (HGn.out.szA _) ?_; intro v1 w1 r1 kk _; have HS := hid (HGn.out.step r1 kk))
                          go_roundw
                          case rel => exact ⟨k + 1, by omega, by go_num, HX.out ▸ HS⟩
                          case measure => simp [intOf]; omega
                        · obtain rfl : k = 18 := by omega
                          go_wp2
                          go_ret
                          obtain ⟨a, cap, e, hW⟩ := grow_strs HG.out
                          rw [HF.out] at e hW
                          exact ⟨a, cap, by rw [e]; rfl, hW, HG.out.bel⟩

end Go.Proofs.YtfbnnhgaedficafDoor.Fm
