/-
  Which hosts are right; the walk of spec.HostOk and of what it calls. No condition but texts and lists of at most 2^20.
-/
import Derived.Test.YtllgjoflhjnnaaaHo
namespace Go.Proofs.Ytllgjoflhjnnaaa.Pl
open Go.RowKit Go.Proofs.Ytllgjoflhjnnaaa.Mem Go.Proofs.Ytllgjoflhjnnaaa.Sec
set_option linter.unusedVariables false

def Ho.opz (H : Ho) : Bool := decide (H.k = 0 ∧ H.v = 0 ∧ H.t = 0 ∧ H.a = 0 ∧ H.s = ⟨#[]⟩)
def zeroPlan (cd bk : Int) (tx : ByteArray) (l : List Ou) : Bool := decide (cd = 0) && (decide (bk = 0) && (decide (tx = ⟨#[]⟩) && decide ((l.length : Int) = 0)))
def keptPlan (cd bk : Int) (tx : ByteArray) (l : List Ou) : Bool := decide (cd = 0) && (decide (-1 ≤ bk ∧ bk ≤ 17) && (decide ((tx.size : Int) ≤ 16) && (decide (l.length ≤ 8) && outsOk l)))
def Ho.zp (H : Ho) : Bool := zeroPlan H.cd H.bk H.tx H.l
def Ho.kept (H : Ho) : Bool := keptPlan H.cd H.bk H.tx H.l
def Ho.idle (H : Ho) : Bool := H.opz && (decide (H.pc = 0) && H.zp)
def Ho.down (H : Ho) : Bool := decide (H.ep = 0) && (!H.rd && (!H.bz && (decide (H.txn = 0) && H.idle)))
def Ho.busy (H : Ho) : Bool := opRight H.k H.v H.t H.a H.s && (decide (0 ≤ H.pc ∧ H.pc ≤ 20) && (!(decide (1 ≤ H.pc ∧ H.pc ≤ 3) && decide (1000000 ≤ H.txn)) && (if H.pc = 0 then H.zp else H.kept)))
/-- Is a host right. -/
def Ho.ok (H : Ho) : Bool := decide (0 ≤ H.id ∧ H.id < 3) && (if H.up = true then decide (1 ≤ H.ep ∧ H.ep ≤ 100000) && (decide (0 ≤ H.txn ∧ H.txn ≤ 1000000) && (if H.bz = true then H.busy else H.idle)) else H.down)

theorem zero_kept {cd bk : Int} {tx : ByteArray} {l : List Ou} (h : zeroPlan cd bk tx l = true) : keptPlan cd bk tx l = true := by
  unfold zeroPlan at h
  simp only [Bool.and_eq_true, decide_eq_true_eq] at h
  obtain ⟨h1, h2, h3, h4⟩ := h
  have h5 : l = [] := List.eq_nil_of_length_eq_zero (by omega)
  subst h1; subst h2; subst h3; subst h5
  decide

theorem text_no {t : ByteArray} (h : ¬ t = ⟨#[]⟩) : (t.toList == []) = false ∧ ¬ t.toList = [] := by
  have h1 : ¬ t.toList = [] := fun e => h (by
    rw [ByteArray.toList_eq] at e
    exact ByteArray.ext (Array.toList_inj.1 (show t.data.toList = (#[] : Array UInt8).toList from e)))
  exact ⟨by simpa using h1, h1⟩

set_option maxHeartbeats 400000 in
theorem l1In (x lo hi : Int) (w : World) :
    Calls Try.prog 19 #[.int .i64 x, .int .i64 lo, .int .i64 hi] w fun e w' => e = .returned (.bool (decide (lo ≤ x ∧ x ≤ hi))) ∧ w' = w := by
  by_cases h1 : lo ≤ x
  · by_cases h2 : x ≤ hi
    · rw [decide_eq_true (And.intro h1 h2)]
      go_enter Try.func19, Try.ntmps19
      go_wp2
      go_ret
      exact ⟨rfl, rfl⟩
    · rw [decide_eq_false (fun h => h2 h.2)]
      go_enter Try.func19, Try.ntmps19
      go_wp2
      go_ret
      exact ⟨rfl, rfl⟩
  · rw [decide_eq_false (fun h => h1 h.1)]
    go_enter Try.func19, Try.ntmps19
    go_wp2
    go_ret
    exact ⟨rfl, rfl⟩

set_option maxRecDepth 100000 in
set_option maxHeartbeats 4000000 in
theorem sOuts (w : World) (a : Option Addr) (cap : Nat) (l : List Ou) (S : Ous w a l) (hl : l.length ≤ 1048576) (hs : ∀ x ∈ l, x.text.size ≤ 1048576) :
    Calls Try.prog 21 #[.slice a l.length cap] w fun e w' => e = .returned (.bool (decide (l.length ≤ 8) && outsOk l)) ∧ Below w.heap.size w w' := by
  have HS := hid S
  have Hs : Hid (∀ k, (l.getD k Ou.none).text.size ≤ 1048576) := fun k => by
    by_cases h : k < l.length
    · exact hs _ (by simp [List.getD, h])
    · simp [List.getD, h, Ou.none]
  clear S hs
  by_cases hg : 8 < (l.length : Int)
  · have hg' : decide (l.length ≤ 8) = false := decide_eq_false (by omega)
    rw [hg']
    clear hg'
    go_enter Try.func21, Try.ntmps21
    go_wp2
    go_ret
    exact ⟨rfl, Below.refl _ _⟩
  have hg' : decide (l.length ≤ 8) = true := decide_eq_true (by omega)
  rw [hg', Bool.true_and]
  clear hg'
  go_enter Try.func21, Try.ntmps21
  go_wp2
  go_loopw [3] (fun i wr => ∃ k : Nat, k ≤ l.length ∧ i = .int .i64 (k : Int) ∧ Hid (∀ i, i < k → outAt l i) ∧ Hid (Below w.heap.size w wr)) (fun i _ => l.length - (intOf i).toNat)
  case atStart => exact ⟨0, Nat.zero_le _, rfl, fun i hi => by omega, Below.refl _ _⟩
  case round =>
    obtain ⟨i, hi, rfl, HK, HB⟩ := hrel
    by_cases hlt : i < l.length
    · obtain ⟨b, off, rfl, e0, e1⟩ := Ous.at_ (HS.out.below HB.out) i hlt
      have hsz := Hs.out i
      have HN := hid (outsOk_no i hlt)
      have HST := hid (fun h => outs_step (k := i) HK.out h)
      have HAt : Hid (outAt l i ↔ ((0 ≤ (l.getD i Ou.none).sec ∧ (l.getD i Ou.none).sec ≤ 33) ∧ (0 < i → (l.getD (i - 1) Ou.none).sec < (l.getD i Ou.none).sec)) ∧ ((l.getD i Ou.none).text.size : Int) ≤ 60) := by
        unfold outAt
        exact ⟨fun x => ⟨⟨x.1, x.2.1⟩, x.2.2⟩, fun x => ⟨x.1.1, x.1.2, x.2⟩⟩
      generalize l.getD i Ou.none = x at e0 e1 hsz HAt
      obtain ⟨xs, xt⟩ := x
      simp only [] at e0 e1 hsz HAt
      have hne : Nonempty (BW wr) := ⟨⟨wr, Below.refl _ _⟩⟩
      replace e0 := BW.cell e0
      replace e1 := BW.cell e1
      by_cases d0 : 0 ≤ xs ∧ xs ≤ 33
      · have d0' := decide_eq_true d0
        cases i with
        | zero =>
          simp only [Nat.zero_mul, Nat.add_zero] at e0 e1
          by_cases h60 : 60 < (xt.size : Int)
          · have HR := hid (HN.out (fun x => by have := (HAt.out.1 x).2; omega))
            clear d0
            go_wp2
            refine wp_region_bw (by kernel_rfl) (by kernel_rfl) ?_
            repeat (go_big_quiet_step (first
              | (go_at_call 19; refine bw_same (v := .bool true) (d0' ▸ l1In xs 0 33 _))))
            refine wpQuiet_nil ?_
            intro _ hw'
            obtain ⟨u, rfl⟩ := hw'
            have HU := hid (HB.out.trans (u.bel.mono HB.out.size))
            clear e0 e1
            go_wp2
            go_ret
            exact ⟨by rw [HR.out]; rfl, HU.out⟩
          · have HR := hid (HST.out (HAt.out.2 ⟨⟨d0, fun h => by omega⟩, by omega⟩))
            clear d0
            go_wp2
            refine wp_region_bw (by kernel_rfl) (by kernel_rfl) ?_
            repeat (go_big_quiet_step (first
              | (go_at_call 19; refine bw_same (v := .bool true) (d0' ▸ l1In xs 0 33 _))))
            refine wpQuiet_nil ?_
            intro _ hw'
            obtain ⟨u, rfl⟩ := hw'
            have HU := hid (HB.out.trans (u.bel.mono HB.out.size))
            clear e0 e1
            go_wp2
            exact ⟨⟨1, by omega, by go_num, HR, HU⟩, by simp [intOf]; omega⟩
        | succ m =>
          obtain ⟨b', off', eb, p0, _⟩ := Ous.at_ (HS.out.below HB.out) m (by omega)
          cases eb
          rw [show m + 1 - 1 = m from rfl] at HAt
          generalize (l.getD m Ou.none).sec = ys at p0 HAt
          replace p0 := BW.cell p0
          have hm0 : (0 : Int) < ((m + 1 : Nat) : Int) := by omega
          have hm1 : ((m + 1 : Nat) : Int) - 1 = (m : Int) := by omega
          have hm2 : (m : Int) < (l.length : Int) := by omega
          by_cases d1 : xs ≤ ys
          · have HR := hid (HN.out (fun x => by have := (HAt.out.1 x).1.2 (by omega); omega))
            clear d0
            go_wp2
            refine wp_region_bw (by kernel_rfl) (by kernel_rfl) ?_
            repeat (go_big_quiet_step (first
              | (go_at_call 19; refine bw_same (v := .bool true) (d0' ▸ l1In xs 0 33 _))))
            refine wpQuiet_nil ?_
            intro _ hw'
            obtain ⟨u, rfl⟩ := hw'
            have HU := hid (HB.out.trans (u.bel.mono HB.out.size))
            clear e0 e1 p0
            go_wp2
            go_ret
            exact ⟨by rw [HR.out]; rfl, HU.out⟩
          have d1' : decide (xs ≤ ys) = false := decide_eq_false d1
          by_cases h60 : 60 < (xt.size : Int)
          · have HR := hid (HN.out (fun x => by have := (HAt.out.1 x).2; omega))
            clear d0
            go_wp2
            refine wp_region_bw (by kernel_rfl) (by kernel_rfl) ?_
            repeat (go_big_quiet_step (first
              | (go_at_call 19; refine bw_same (v := .bool true) (d0' ▸ l1In xs 0 33 _))))
            refine wpQuiet_nil ?_
            intro _ hw'
            obtain ⟨u, rfl⟩ := hw'
            have HU := hid (HB.out.trans (u.bel.mono HB.out.size))
            clear e0 e1 p0
            go_wp2
            go_ret
            exact ⟨by rw [HR.out]; rfl, HU.out⟩
          · have HR := hid (HST.out (HAt.out.2 ⟨⟨d0, fun h => by omega⟩, by omega⟩))
            clear d0
            go_wp2
            refine wp_region_bw (by kernel_rfl) (by kernel_rfl) ?_
            repeat (go_big_quiet_step (first
              | (go_at_call 19; refine bw_same (v := .bool true) (d0' ▸ l1In xs 0 33 _))))
            refine wpQuiet_nil ?_
            intro _ hw'
            obtain ⟨u, rfl⟩ := hw'
            have HU := hid (HB.out.trans (u.bel.mono HB.out.size))
            clear e0 e1 p0
            go_wp2
            exact ⟨⟨m + 1 + 1, by omega, by go_num, HR, HU⟩, by simp [intOf]; omega⟩
      · have d0' := decide_eq_false d0
        have HR := hid (HN.out (fun x => d0 (HAt.out.1 x).1.1))
        clear d0
        go_wp2
        refine wp_region_bw (by kernel_rfl) (by kernel_rfl) ?_
        repeat (go_big_quiet_step (first
          | (go_at_call 19; refine bw_same (v := .bool false) (d0' ▸ l1In xs 0 33 _))))
        refine wpQuiet_nil ?_
        intro _ hw'
        obtain ⟨u, rfl⟩ := hw'
        have HU := hid (HB.out.trans (u.bel.mono HB.out.size))
        clear e0 e1
        go_wp2
        go_ret
        exact ⟨by rw [HR.out]; rfl, HU.out⟩
    · obtain rfl : i = l.length := by omega
      have HR := hid ((outsOk_iff l).2 HK.out)
      go_wp2
      go_ret
      exact ⟨by rw [HR.out]; rfl, HB.out⟩

set_option maxRecDepth 100000 in
set_option maxHeartbeats 2000000 in
theorem sZeroPlan (w : World) (cd bk : Int) (tx : ByteArray) (p : Option Addr) (c : Nat) (l : List Ou) (hl : l.length ≤ 1048576) :
    Calls Try.prog 18 #[plnV cd bk tx p l.length c] w fun e w' => e = .returned (.bool (zeroPlan cd bk tx l)) ∧ Below w.heap.size w w' := by
  unfold plnV zeroPlan
  generalize l.length = n at *
  obtain ⟨wa, hwa, ez, A0, B0⟩ := one_new w [.int .i64 cd, .int .i64 bk, .string tx, .slice p n c] 34
  have k0 := A0.c 0 rfl
  have k1 := A0.c 1 rfl
  have k2 := A0.c 2 rfl
  have k3 := A0.c 3 rfl
  have HB := hid B0
  clear A0 B0 ez
  by_cases h0 : cd = 0
  · by_cases h1 : bk = 0
    · by_cases h2 : tx = ⟨#[]⟩
      · subst h0; subst h1; subst h2
        by_cases h3 : n = 0
        · subst h3
          go_enter Try.func18, Try.ntmps18
          go_wp2
          go_ret
          exact ⟨rfl, HB.out⟩
        · rw [decide_eq_false (show ¬ (n : Int) = 0 by omega)]
          have h3' : ((n : Int) == 0) = false := by simpa using h3
          have h3n : (n == 0) = false := by simpa using h3
          go_enter Try.func18, Try.ntmps18
          go_wp2
          go_ret
          exact ⟨rfl, HB.out⟩
      · rw [decide_eq_false h2]
        subst h0; subst h1
        have h2' := (text_no h2).1
        have h2n := (text_no h2).2
        go_enter Try.func18, Try.ntmps18
        go_wp2
        go_ret
        exact ⟨rfl, HB.out⟩
    · rw [decide_eq_false h1]
      subst h0
      have h1' := beq_no h1
      go_enter Try.func18, Try.ntmps18
      go_wp2
      go_ret
      exact ⟨rfl, HB.out⟩
  · rw [decide_eq_false h0]
    have h0' := beq_no h0
    go_enter Try.func18, Try.ntmps18
    go_wp2
    go_ret
    exact ⟨rfl, HB.out⟩

set_option maxRecDepth 100000 in
set_option maxHeartbeats 2000000 in
theorem iZeroPlan (w : World) (cd bk : Int) (tx : ByteArray) (p : Option Addr) (c : Nat) (l : List Ou) (hl : l.length ≤ 1048576) :
    Calls Try.prog 39 #[plnV cd bk tx p l.length c] w fun e w' => e = .returned (.bool (zeroPlan cd bk tx l)) ∧ Below w.heap.size w w' := by
  unfold plnV zeroPlan
  generalize l.length = n at *
  obtain ⟨wa, hwa, ez, A0, B0⟩ := one_new w [.int .i64 cd, .int .i64 bk, .string tx, .slice p n c] 34
  have k0 := A0.c 0 rfl
  have k1 := A0.c 1 rfl
  have k2 := A0.c 2 rfl
  have k3 := A0.c 3 rfl
  have HB := hid B0
  clear A0 B0 ez
  by_cases h0 : cd = 0
  · by_cases h1 : bk = 0
    · by_cases h2 : tx = ⟨#[]⟩
      · subst h0; subst h1; subst h2
        by_cases h3 : n = 0
        · subst h3
          go_enter Try.func39, Try.ntmps39
          go_wp2
          go_ret
          exact ⟨rfl, HB.out⟩
        · rw [decide_eq_false (show ¬ (n : Int) = 0 by omega)]
          have h3' : ((n : Int) == 0) = false := by simpa using h3
          have h3n : (n == 0) = false := by simpa using h3
          go_enter Try.func39, Try.ntmps39
          go_wp2
          go_ret
          exact ⟨rfl, HB.out⟩
      · rw [decide_eq_false h2]
        subst h0; subst h1
        have h2' := (text_no h2).1
        have h2n := (text_no h2).2
        go_enter Try.func39, Try.ntmps39
        go_wp2
        go_ret
        exact ⟨rfl, HB.out⟩
    · rw [decide_eq_false h1]
      subst h0
      have h1' := beq_no h1
      go_enter Try.func39, Try.ntmps39
      go_wp2
      go_ret
      exact ⟨rfl, HB.out⟩
  · rw [decide_eq_false h0]
    have h0' := beq_no h0
    go_enter Try.func39, Try.ntmps39
    go_wp2
    go_ret
    exact ⟨rfl, HB.out⟩

end Go.Proofs.Ytllgjoflhjnnaaa.Pl
