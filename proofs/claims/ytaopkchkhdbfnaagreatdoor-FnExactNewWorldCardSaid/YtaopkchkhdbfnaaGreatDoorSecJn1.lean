/-
  The walks of spec.l4Piece, impl.showPiece, spec.l4OpOk and impl.isJournalOp. No condition but texts of at most 2^20 bytes.
-/
import Derived.Test.YtaopkchkhdbfnaaGreatDoorSecJn
namespace Go.Proofs.YtaopkchkhdbfnaaGreatDoor.Sec
open Go.RowKit Go.Proofs.YtaopkchkhdbfnaaGreatDoor.Mem
set_option linter.unusedVariables false

set_option maxHeartbeats 400000 in
theorem l4Piece (s : ByteArray) (w : World) (hs : s.size ≤ 1048576) : Calls Tryz.prog 165 #[.string s] w fun e w' => e = .returned (.string (piece s)) ∧ Below w.heap.size w w' := by
  have HD : Hid (vr (s.size : Int) ++ s = piece s) := rfl
  have hv := vr_size (s.size : Int)
  go_enter Tryz.func165, Tryz.ntmps165
  go_wp2_with fail
  refine (sVar (s.size : Int) _).mono ?_
  rintro e w1 ⟨rfl, b1⟩
  have HB := hid b1
  clear b1
  go_wp2
  go_ret
  exact ⟨Own.ret_str HD.out, HB.out⟩

set_option maxHeartbeats 400000 in
theorem showPiece (s : ByteArray) (w : World) (hs : s.size ≤ 1048576) : Calls Tryz.prog 238 #[.string s] w fun e w' => e = .returned (.string (piece s)) ∧ Below w.heap.size w w' := by
  have HD : Hid (vr (s.size : Int) ++ s = piece s) := rfl
  have hv := vr_size (s.size : Int)
  go_enter Tryz.func238, Tryz.ntmps238
  go_wp2_with fail
  refine (iVar (s.size : Int) _).mono ?_
  rintro e w1 ⟨rfl, b1⟩
  have HB := hid b1
  clear b1
  go_wp2
  go_ret
  exact ⟨Own.ret_str HD.out, HB.out⟩

/-- A call's value. -/
def opV (kind vol to at_ : Int) (text : ByteArray) : Value := .agg #[.int .i64 kind, .int .i64 vol, .int .i64 to, .int .i64 at_, .string text]

theorem op_no0 {k v t a : Int} {s : ByteArray} (h : ¬ (1 ≤ k ∧ k ≤ 20)) : opOk k v t a s = false := by unfold opOk; rw [decide_eq_false h]; rfl
theorem three {v t a : Int} : between 0 99 [v, t, a] = (decide (0 ≤ v ∧ v ≤ 99) && (decide (0 ≤ t ∧ t ≤ 99) && (decide (0 ≤ a ∧ a ≤ 99) && true))) := rfl
theorem op_no1 {k v t a : Int} {s : ByteArray} (h : between 0 99 [v, t, a] = false) : opOk k v t a s = false := by unfold opOk; rw [h, Bool.and_false]; rfl
theorem op_yes {k v t a : Int} {s : ByteArray} (h : 1 ≤ k ∧ k ≤ 20) (h1 : between 0 99 [v, t, a] = true) : opOk k v t a s = decide ((s.size : Int) ≤ 16) := by unfold opOk; rw [decide_eq_true h, h1]; rfl

set_option maxRecDepth 100000 in
set_option maxHeartbeats 1000000 in
theorem l4OpOk (k v t a : Int) (s : ByteArray) (w : World) (hs : s.size ≤ 1048576) :
    Calls Tryz.prog 220 #[opV k v t a s] w fun e w' => e = .returned (.bool (opOk k v t a s)) ∧ Below w.heap.size w w' := by
  unfold opV
  obtain ⟨wa, hwa, ez, A0, B0⟩ := one_new w [.int .i64 k, .int .i64 v, .int .i64 t, .int .i64 a, .string s] 58
  have k0 := A0.c 0 rfl
  have k1 := A0.c 1 rfl
  have k2 := A0.c 2 rfl
  have k3 := A0.c 3 rfl
  have k4 := A0.c 4 rfl
  have HB := hid B0
  clear A0 B0
  go_enter Tryz.func220, Tryz.ntmps220
  go_wp2_with fail
  by_cases c0 : 1 ≤ k ∧ k ≤ 20
  · have c0' := decide_eq_true c0
    have HC0 := hid c0
    clear c0
    refine (c0' ▸ l1In k 1 20 _).mono ?_
    rintro e w1 ⟨rfl, hw⟩
    obtain rfl := hw.symm
    go_wp2_with fail
    by_cases c1 : 0 ≤ v ∧ v ≤ 99
    · have c1' := decide_eq_true c1
      refine (c1' ▸ l1In v 0 99 _).mono ?_
      rintro e w1 ⟨rfl, hw⟩
      obtain rfl := hw.symm
      go_wp2_with fail
      by_cases c2 : 0 ≤ t ∧ t ≤ 99
      · have c2' := decide_eq_true c2
        refine (c2' ▸ l1In t 0 99 _).mono ?_
        rintro e w1 ⟨rfl, hw⟩
        obtain rfl := hw.symm
        go_wp2_with fail
        by_cases c3 : 0 ≤ a ∧ a ≤ 99
        · have c3' := decide_eq_true c3
          have HY : Hid (opOk k v t a s = decide ((s.size : Int) ≤ 16)) := op_yes HC0.out (by rw [three, c1', c2', c3']; rfl)
          clear c1 c2 c3
          refine (c3' ▸ l1In a 0 99 _).mono ?_
          rintro e w1 ⟨rfl, hw⟩
          obtain rfl := hw.symm
          go_wp2
          go_ret
          exact ⟨by rw [HY.out]; rfl, HB.out⟩
        · have c3' := decide_eq_false c3
          have HN : Hid (opOk k v t a s = false) := op_no1 (by rw [three, c3', c2', c1']; rfl)
          clear c1 c2 c3
          refine (c3' ▸ l1In a 0 99 _).mono ?_
          rintro e w1 ⟨rfl, hw⟩
          obtain rfl := hw.symm
          go_wp2
          go_ret
          exact ⟨by rw [HN.out]; rfl, HB.out⟩
      · have c2' := decide_eq_false c2
        have HN : Hid (opOk k v t a s = false) := op_no1 (by rw [three, c2', c1']; rfl)
        clear c1 c2
        refine (c2' ▸ l1In t 0 99 _).mono ?_
        rintro e w1 ⟨rfl, hw⟩
        obtain rfl := hw.symm
        go_wp2
        go_ret
        exact ⟨by rw [HN.out]; rfl, HB.out⟩
    · have c1' := decide_eq_false c1
      have HN : Hid (opOk k v t a s = false) := op_no1 (by rw [three, c1']; rfl)
      clear c1
      refine (c1' ▸ l1In v 0 99 _).mono ?_
      rintro e w1 ⟨rfl, hw⟩
      obtain rfl := hw.symm
      go_wp2
      go_ret
      exact ⟨by rw [HN.out]; rfl, HB.out⟩
  · have c0' := decide_eq_false c0
    have HN : Hid (opOk k v t a s = false) := op_no0 c0
    clear c0
    refine (c0' ▸ l1In k 1 20 _).mono ?_
    rintro e w1 ⟨rfl, hw⟩
    obtain rfl := hw.symm
    go_wp2
    go_ret
    exact ⟨by rw [HN.out]; rfl, HB.out⟩

theorem ints_new (w : World) (l : List Int) : Ints (w.alloc (.cells (l.map (Value.int .i64)).toArray 3)) (some ⟨w.heap.size, 0, none⟩) l :=
  (wr_new w _ 3 l.length (fun i => .int .i64 (l.getD i 0)) (fun i hi => by simp [List.getD, hi])).sl

set_option maxRecDepth 100000 in
set_option maxHeartbeats 1000000 in
theorem isJournalOp (k v t a : Int) (s : ByteArray) (w : World) (hs : s.size ≤ 1048576) :
    Calls Tryz.prog 234 #[opV k v t a s] w fun e w' => e = .returned (.bool (opOk k v t a s)) ∧ Below w.heap.size w w' := by
  unfold opV
  obtain ⟨wa, hwa, ez, A0, B0⟩ := one_new w [.int .i64 k, .int .i64 v, .int .i64 t, .int .i64 a, .string s] 58
  have k0 := A0.c 0 rfl
  have k1 := A0.c 1 rfl
  have k2 := A0.c 2 rfl
  have k3 := A0.c 3 rfl
  have k4 := A0.c 4 rfl
  have HA := hid A0
  have HB := hid B0
  clear A0 B0
  go_enter Tryz.func234, Tryz.ntmps234
  go_wp2_with fail
  obtain ⟨wb, hwb⟩ : ∃ wb, wa.alloc (.cells ([v, t, a].map (Value.int .i64)).toArray 3) = wb := ⟨_, rfl⟩
  have HI := hid (ints_new wa [v, t, a])
  have b2 : Below wa.heap.size wa (wa.alloc (.cells ([v, t, a].map (Value.int .i64)).toArray 3)) := (Below.refl _ _).alloc (Nat.le_refl _) _
  rw [hwb] at b2 HI
  rw [ez] at HI
  simp only [List.map_cons, List.map_nil] at hwb
  simp only [hwb]
  have HB2 := hid (HB.out.trans (b2.mono HB.out.size))
  replace k4 := (HA.out.below b2 HA.out.lt).c 4 rfl
  clear b2 hwb hwa k0 k1 k2 k3 HA
  by_cases c0 : 1 ≤ k ∧ k ≤ 20
  · have c0' := decide_eq_true c0
    have HC0 := hid c0
    clear c0
    refine (c0' ▸ isFrom k 1 20 _).mono ?_
    rintro e w1 ⟨rfl, hw⟩
    obtain rfl := hw.symm
    go_wp2_with fail
    refine (areFrom wb _ 3 [v, t, a] 0 99 HI.out (show 3 ≤ 1048576 by decide)).mono ?_
    rintro e w1 ⟨rfl, hw⟩
    obtain rfl := hw.symm
    cases hz : between 0 99 [v, t, a] with
    | true =>
      have HY := hid (op_yes (s := s) HC0.out hz)
      clear hz
      go_wp2
      go_ret
      exact ⟨by rw [HY.out]; rfl, HB2.out⟩
    | false =>
      have HN := hid (op_no1 (k := k) (s := s) hz)
      clear hz
      go_wp2
      go_ret
      exact ⟨by rw [HN.out]; rfl, HB2.out⟩
  · have c0' := decide_eq_false c0
    have HN : Hid (opOk k v t a s = false) := op_no0 c0
    clear c0
    refine (c0' ▸ isFrom k 1 20 _).mono ?_
    rintro e w1 ⟨rfl, hw⟩
    obtain rfl := hw.symm
    go_wp2
    go_ret
    exact ⟨by rw [HN.out]; rfl, HB2.out⟩

end Go.Proofs.YtaopkchkhdbfnaaGreatDoor.Sec
