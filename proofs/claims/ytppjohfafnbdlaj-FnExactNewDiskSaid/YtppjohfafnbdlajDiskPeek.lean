/-
  The walks of spec.l3There, spec.l3Peek and spec.Peek: what a host sees. No condition but lengths that Go can hold.
-/
import Derived.Test.YtppjohfafnbdlajDiskOk
namespace Go.Proofs.Ytppjohfafnbdlaj.Mem
open Go.RowKit Classical
set_option linter.unusedVariables false

/-- There is such a host and such a sector. -/
def Dk.There (D : Dk) (h s : Int) : Prop := (0 ≤ h ∧ h < 3) ∧ 0 ≤ s ∧ s < (D.sec.length : Int)

set_option maxRecDepth 100000 in
set_option maxHeartbeats 1000000 in
theorem l3There (w : World) (v : Value) (D : Dk) (h : DkR w v D) (hd : D.Held) (x s : Int) :
    Calls Try.prog 44 #[v, .int .i64 x, .int .i64 s] w fun e w' => e = .returned (.bool (decide (D.There x s))) ∧ Below w.heap.size w w' := by
  obtain ⟨a1, c1, a2, c2, a3, c3, rfl, _, _, _⟩ := h
  have d1 : D.sec.length ≤ 9223372036854775807 := hd.h1
  clear hd
  have no : ¬ D.There x s → decide (D.There x s) = false := decide_eq_false
  have yes : D.There x s → decide (D.There x s) = true := decide_eq_true
  generalize decide (D.There x s) = q at *
  have HN := hid no
  have HY := hid yes
  clear no yes
  go_enter Try.func44, Try.ntmps44
  go_wp2_with fail
  obtain ⟨wb, hwb, ez, A0, B0⟩ := one_new w [.slice a1 D.sec.length c1, .slice a2 D.ep.length c2, .slice a3 D.pe.length c3] 31
  simp only [hwb]
  clear hwb
  refine (l3Host x wb).mono ?_
  rintro e w1 ⟨rfl, hw⟩
  subst hw
  have HB := hid B0
  have k0 := A0.c 0 rfl
  clear A0 B0
  by_cases g1 : 0 ≤ x ∧ x < 3
  · have g1' := decide_eq_true g1
    have HG := hid g1
    clear g1
    by_cases g2 : 0 ≤ s
    · by_cases g3 : s < (D.sec.length : Int)
      · have HY := hid (HY.out ⟨HG.out, g2, g3⟩)
        go_wp2
        go_ret
        exact ⟨by rw [HY.out]; rfl, HB.out⟩
      · have HN := hid (HN.out (fun q => g3 q.2.2))
        have g3' := decide_eq_false g3
        go_wp2
        go_ret
        exact ⟨by rw [HN.out]; rfl, HB.out⟩
    · have HN := hid (HN.out (fun q => g2 q.2.1))
      go_wp2
      go_ret
      exact ⟨by rw [HN.out]; rfl, HB.out⟩
  · have g1' := decide_eq_false g1
    have HN := hid (HN.out (fun q => g1 q.1))
    clear g1
    go_wp2
    go_ret
    exact ⟨by rw [HN.out]; rfl, HB.out⟩

/-- What a host sees of a sector behind the first k writes under way. -/
def Dk.see (D : Dk) (h s : Int) : Nat → ByteArray
  | 0 => D.sec.getD s.toNat ByteArray.empty
  | k + 1 => if (D.pe.getD k Wt.none).host = h ∧ (D.pe.getD k Wt.none).sector = s then (D.pe.getD k Wt.none).text else D.see h s k

set_option maxRecDepth 100000 in
set_option maxHeartbeats 1000000 in
theorem l3Peek (w : World) (v : Value) (D : Dk) (h : DkR w v D) (hd : D.Held) (x s : Int) (ht : D.There x s) :
    Calls Try.prog 45 #[v, .int .i64 x, .int .i64 s] w fun e w' => e = .returned (.string (D.see x s D.pe.length)) ∧ Below w.heap.size w w' := by
  obtain ⟨a1, c1, a2, c2, a3, c3, rfl, s1, s2, s3⟩ := h
  have d3 : D.pe.length ≤ 9223372036854775807 := hd.h3
  have HS1 := hid s1
  have HS3 := hid s3
  obtain ⟨_, t1, t2⟩ := ht
  obtain ⟨n, rfl⟩ : ∃ n : Nat, s = (n : Int) := Int.eq_ofNat_of_zero_le t1
  have hn : n < D.sec.length := by omega
  clear s1 s2 s3 hd t1 t2
  go_enter Try.func45, Try.ntmps45
  obtain ⟨wb, hwb, ez, A0, B0⟩ := one_new w [.slice a1 D.sec.length c1, .slice a2 D.ep.length c2, .slice a3 D.pe.length c3] 31
  obtain ⟨b1, o1, rfl, hc⟩ := (HS1.out.below B0) n hn
  replace hc : wb.cell? ⟨b1, o1 + n, none⟩ = some (.string (D.sec.getD n ByteArray.empty)) := hc
  generalize hy : D.sec.getD n ByteArray.empty = y at hc
  have HYE := hid hy
  clear hy
  have HB := hid B0
  have k0 := A0.c 0 rfl
  have k2 := A0.c 2 rfl
  clear A0 B0
  go_wp2
  clear hwb
  go_loop [7, 8] (fun t i => ∃ k : Nat, k ≤ D.pe.length ∧ i = .int .i64 (k : Int) ∧ t = .string (D.see x n k)) (fun _ i => D.pe.length - (intOf i).toNat)
  case atStart => exact ⟨0, Nat.zero_le _, rfl, by unfold Dk.see; rw [Int.toNat_natCast, HYE.out]⟩
  case round =>
    obtain ⟨k, hk, rfl, rfl⟩ := hrel
    by_cases hlt : k < D.pe.length
    · obtain ⟨b, off, rfl, x0, x1, x2, x3⟩ := Wts.at_ (HS3.out.below HB.out) k hlt
      have hz : D.see x n (k + 1) = if (D.pe.getD k Wt.none).host = x ∧ (D.pe.getD k Wt.none).sector = n then (D.pe.getD k Wt.none).text else D.see x n k := rfl
      generalize D.see x n k = z at *
      generalize D.pe.getD k Wt.none = u at x0 x1 x2 x3 hz
      have HZ := hid hz
      clear hz
      by_cases g1 : u.host = x
      · by_cases g2 : u.sector = (n : Int)
        · have HZ := hid (HZ.out.trans (if_pos ⟨g1, g2⟩))
          go_wp2
          go_round
          case rel => exact ⟨k + 1, by omega, by go_num, by rw [HZ.out]⟩
          case measure => simp [intOf]; omega
        · have HZ := hid (HZ.out.trans (if_neg (fun q => g2 q.2)))
          have g2' := decide_eq_false g2
          go_wp2
          go_round
          case rel => exact ⟨k + 1, by omega, by go_num, by rw [HZ.out]⟩
          case measure => simp [intOf]; omega
      · have HZ := hid (HZ.out.trans (if_neg (fun q => g1 q.1)))
        have g1' := decide_eq_false g1
        go_wp2
        go_round
        case rel => exact ⟨k + 1, by omega, by go_num, by rw [HZ.out]⟩
        case measure => simp [intOf]; omega
    · obtain rfl : k = D.pe.length := by omega
      go_wp2
      go_ret
      exact ⟨rfl, HB.out⟩

/-- What Peek answers. -/
def Dk.peek (D : Dk) (h s : Int) : ByteArray × Bool := if D.right = true ∧ (0 ≤ h ∧ h < 3) ∧ 0 ≤ s ∧ s < (D.sec.length : Int) then (D.see h s D.pe.length, true) else (ByteArray.empty, false)

set_option maxRecDepth 100000 in
set_option maxHeartbeats 1000000 in
theorem specPeek (w : World) (v : Value) (D : Dk) (h : DkR w v D) (hd : D.Held) (x s : Int) :
    Calls Try.prog 17 #[v, .int .i64 x, .int .i64 s] w fun e w' => e = .returned (.tuple #[.string (D.peek x s).1, .bool (D.peek x s).2]) ∧ Below w.heap.size w w' := by
  have HH := hid h
  have HD := hid hd
  obtain ⟨a1, c1, a2, c2, a3, c3, rfl, _, _, _⟩ := h
  clear hd
  have hp : D.peek x s = if D.right = true ∧ (0 ≤ x ∧ x < 3) ∧ 0 ≤ s ∧ s < (D.sec.length : Int) then (D.see x s D.pe.length, true) else (ByteArray.empty, false) := rfl
  generalize D.peek x s = p at *
  have HP := hid hp
  clear hp
  obtain ⟨p1, p2⟩ := p
  simp only []
  go_enter Try.func17, Try.ntmps17
  go_wp2_with fail
  obtain ⟨wb, hwb, ez, A0, B0⟩ := one_new w [.slice a1 D.sec.length c1, .slice a2 D.ep.length c2, .slice a3 D.pe.length c3] 31
  simp only [hwb]
  clear hwb
  refine (diskOk wb _ D (HH.out.below B0) HD.out).mono ?_
  rintro e w1 ⟨rfl, b1⟩
  replace A0 := A0.below b1 A0.lt
  replace B0 := B0.trans (b1.mono B0.size)
  have k0 := A0.c 0 rfl
  have k1 := A0.c 1 rfl
  have k2 := A0.c 2 rfl
  have HA := hid A0
  have HB := hid B0
  clear b1 A0 B0
  by_cases g1 : ¬ D.right = true
  · have HP := hid (HP.out.trans (if_neg (fun q => g1 q.1)))
    have g1' : D.right = false := by simpa using g1
    clear g1
    go_wp2
    go_ret2
    refine ⟨?_, HB.out⟩
    cases HP.out
    rfl
  replace g1 := Classical.not_not.mp g1
  go_wp2_with fail
  refine (l3There w1 _ D (HH.out.below HB.out) HD.out x s).mono ?_
  rintro e w2 ⟨rfl, b2⟩
  have A0 := HA.out.below b2 HA.out.lt
  have B0 := HB.out.trans (b2.mono HB.out.size)
  replace k0 := A0.c 0 rfl
  replace k1 := A0.c 1 rfl
  replace k2 := A0.c 2 rfl
  clear HA HB b2 A0
  have HB := hid B0
  clear B0
  by_cases g2 : D.There x s
  · have g2' := decide_eq_true g2
    have HP := hid (HP.out.trans (if_pos ⟨g1, g2⟩))
    have HG := hid g2
    clear g2
    go_wp2_with fail
    refine (l3Peek w2 _ D (HH.out.below HB.out) HD.out x s HG.out).mono ?_
    rintro e w3 ⟨rfl, b3⟩
    have HB3 := hid (HB.out.trans (b3.mono HB.out.size))
    clear b3 k0 k1 k2
    go_wp2
    go_ret2
    refine ⟨?_, HB3.out⟩
    cases HP.out
    rfl
  · have g2' := decide_eq_false g2
    have HP := hid (HP.out.trans (if_neg (fun q => g2 q.2)))
    clear g2
    go_wp2
    go_ret2
    refine ⟨?_, HB.out⟩
    cases HP.out
    rfl

end Go.Proofs.Ytppjohfafnbdlaj.Mem
