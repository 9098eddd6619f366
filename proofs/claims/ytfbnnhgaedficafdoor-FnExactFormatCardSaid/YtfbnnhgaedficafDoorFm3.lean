/-
  The walks of impl.freshSector and impl.Format: a new disk's sectors. Condition: the tables of sixteen sums and of the kinds' sizes stand in their variables.
-/
import Derived.Test.YtfbnnhgaedficafDoorFm
import Derived.Test.YtfbnnhgaedficafDoorSectorLaw
import Derived.Deep.RegionHeldLaw
namespace Go.Proofs.YtfbnnhgaedficafDoor.Fm
open Go.RowKit Go.Proofs.YtfbnnhgaedficafDoor.Mem Go.Proofs.YtfbnnhgaedficafDoor.Sec
set_option linter.unusedVariables false

theorem ismall0 : J0.Small := ⟨by decide, by decide, by intro x hx; simp [J0] at hx⟩
theorem iouts0 (w : World) : Ous w none J0.outs := fun i hi => by simp [J0] at hi

theorem iints6b (w w1 : World) (b : Below (w.alloc (.cells #[.int .i64 0, .int .i64 0, .int .i64 0, .int .i64 0, .int .i64 0, .int .i64 0] 3)).heap.size (w.alloc (.cells #[.int .i64 0, .int .i64 0, .int .i64 0, .int .i64 0, .int .i64 0, .int .i64 0] 3)) w1) : Ints w1 (some ⟨w.heap.size, 0, none⟩) [0, 0, 0, 0, 0, 0] := Sl.below (ints6 w) b

theorem iShow6 (w : World) (a : Option Addr) (S : Ints w a [0, 0, 0, 0, 0, 0]) (T : Sums w) : Calls Tryd.prog 101 #[.agg #[.int .i64 (-1), .int .i64 0, .slice a 6 6]] w fun r w' => r = .returned (.string (showGroup (-1) 0 [0, 0, 0, 0, 0, 0])) ∧ Below w.heap.size w w' :=
  iShowGroup w (-1) 0 a 6 [0, 0, 0, 0, 0, 0] S (by decide) T

theorem bel_a {w wa : World} (o : Obj) (ba : Below w.drew.heap.size w.drew wa) : Below w.heap.size w (wa.alloc o) := by
  have h : Below w.heap.size w wa := undrew ba
  exact h.alloc h.size o
theorem bel_b {w wa : World} {o : Obj} (ba : Below (w.alloc o).drew.heap.size (w.alloc o).drew wa) : Below w.heap.size w wa := by
  have hb : Below (w.alloc o).heap.size (w.alloc o) wa := undrew ba
  have h : Below w.heap.size w (w.alloc o) := (Below.refl _ w).alloc (Nat.le_refl _) o
  exact h.trans (hb.mono h.size)

theorem beq_no {a b : Int} (h : ¬ a = b) : (a == b) = false := by simpa using h

set_option maxRecDepth 100000 in
set_option maxHeartbeats 1000000 in
theorem freshSector (k : Nat) (hk : k < 6) (w : World) (T : Sums w) : Calls Tryd.prog 63 #[.int .i64 (k : Int)] w fun r w' => r = .returned (.string (fresh k)) ∧ Below w.heap.size w w' := by
  have HT := hid T
  clear T
  have hc : k = 0 ∨ k = 1 ∨ k = 2 ∨ k = 3 ∨ k = 4 ∨ k = 5 := by omega
  clear hk
  rcases hc with rfl | rfl | rfl | rfl | rfl | rfl
  · go_enter Tryd.func63, Tryd.ntmps63
    go_wp2_with fail
    refine (nobody w).mono ?_
    rintro e wa ⟨rfl, ba⟩
    have HB := hid ba
    clear ba
    unfold lsV
    go_wp2_with fail
    refine (iShowHost 0 (-1) 0 wa (HT.out.below HB.out)).mono ?_
    rintro e wn ⟨rfl, bn⟩
    have HBn := hid (HB.out.trans (bn.mono HB.out.size))
    clear bn
    go_wp2
    go_ret
    exact ⟨rfl, HBn.out⟩
  · go_enter Tryd.func63, Tryd.ntmps63
    go_wp2_with fail
    refine (iShowJournal w J0 none 0 (iouts0 _) ismall0 HT.out).mono ?_
    rintro e wn ⟨rfl, bn⟩
    have HBn := hid bn
    clear bn
    go_wp2
    go_ret
    exact ⟨rfl, HBn.out⟩
  · go_enter Tryd.func63, Tryd.ntmps63
    go_wp2_with fail
    refine (iShowFrees w none 0 [] (fun i hi => by simp at hi) (by decide) HT.out).mono ?_
    rintro e wn ⟨rfl, bn⟩
    have HBn := hid bn
    clear bn
    go_wp2
    go_ret
    exact ⟨rfl, HBn.out⟩
  · go_enter Tryd.func63, Tryd.ntmps63
    go_wp2_with fail
    refine (nobody w).mono ?_
    rintro e wa ⟨rfl, ba⟩
    have HB := hid ba
    clear ba
    unfold lsV
    go_wp2_with fail
    refine (noBlocks wa).mono ?_
    rintro e wb ⟨pa, pc, rfl, hI, bb⟩
    have HB2 := hid (HB.out.trans (bb.mono HB.out.size))
    have HI := hid (Wr.sl hI)
    clear bb hI
    go_wp2_with fail
    refine (iShowVol wb (-1) 0 false pa pc [-1, -1, -1, -1] HI.out (by decide) (HT.out.below HB2.out)).mono ?_
    rintro e wn ⟨rfl, bn⟩
    have HBn := hid (HB2.out.trans (bn.mono HB2.out.size))
    clear bn HI
    go_wp2
    go_ret
    exact ⟨rfl, HBn.out⟩
  · have hmk := make6
    go_enter Tryd.func63, Tryd.ntmps63
    go_wp2
    go_region_held_law (fun _ => True) (trivial)
      (first
        | (go_at_call 98; refine (nobody _).mono ?_; rintro e wa ⟨rfl, ba⟩; unfold lsV)
        | (go_at_call 101; first
            | (have hI := ints6 wa; have hB := bel_a (w := w) (.cells #[.int .i64 0, .int .i64 0, .int .i64 0, .int .i64 0, .int .i64 0, .int .i64 0] 3) ba; have hT := HT.out.below hB; (with_reducible refine (iShow6 _ _ hI hT).mono ?_); rintro e wn ⟨rfl, bn⟩; have HBn := hid (hB.trans (bn.mono hB.size)))
            | (have hI := iints6b w wa (undrew ba); have hB := bel_b (w := w) ba; have hT := HT.out.below hB; (with_reducible refine (iShow6 _ _ hI hT).mono ?_); rintro e wn ⟨rfl, bn⟩; have HBn := hid (hB.trans (bn.mono hB.size)))))
    all_goals (go_wp2; go_ret; exact ⟨rfl, HBn.out⟩)
  · go_enter Tryd.func63, Tryd.ntmps63
    go_wp2
    go_ret
    exact ⟨rfl, Below.refl _ _⟩

end Go.Proofs.YtfbnnhgaedficafDoor.Fm
