/-
  The walks of impl.freesParts, impl.readKind at a list of numbers, and impl.ReadFrees. Condition: the table of sixteen sums and the error of a part that lacks stand in their variables.
  The walks of laws.toWrite, laws.toWriteS and laws.toDisk: a disk laid anew. No condition but lengths of at most 2^20.
  The walks of laws.szStringS, laws.szIntS, laws.szWrite, laws.szWriteS and laws.szDisk: where they leave a number that isn't below 0, all lengths are at most what was left. No condition but texts that Go can hold.
  The walks of laws.eqStringS, laws.eqIntS, laws.eqWrite, laws.eqWriteS and laws.eqDisk: they tell whether two lists, writes or disks are the same. No condition.
  The walks of laws.markText, laws.markStringS, laws.markIntS, laws.heldStringS and laws.heldIntS: marks are laid into a slice, one after the other, and found there again. No condition but slices that may be written and numbers that are not too great.
  The walks of spec.ReadFrees and laws.FnExactReadFrees: the law answers true, and nothing that was there is changed. Condition: the table of sixteen sums and the error of a part that lacks stand in their variables.
  The walks of spec.ShowGroup and impl.ShowGroup: both give a group's text. Condition for impl's: the table of sixteen sums holds what the program's text lays.
  The walks of impl.groupParts, impl.readKind at a group's sector, and impl.ReadGroup. Condition: the table of sixteen sums and the error of a part that lacks stand in their variables.
  The walks of impl.readKind at a group's sector and impl.ReadGroup. Condition: the table of sixteen sums and the error of a part that lacks stand in their variables.
  What spec.ReadGroup's region leaves, in each of its three orders. No condition.
  The walk of spec.ReadGroup. No condition but texts of at most 2^20 bytes.
-/
import Derived.Test.YtjlkighikfgaeaaGreatDoorJoin2
import Derived.Tactics
import Derived.Tactics2
import Derived.Defers
import Derived.Recover
import Derived.Test.YtjlkighikfgaeaaGreatDoorJoin1
import Derived.Outline
import Derived.Deep.QuietTactic
import Derived.BigQuiet
import Derived.Laws.BytesArg
import Derived.RegionTactic
import Derived.BigRegion
import Derived.Deep.RegionWith
import Derived.RegionDies
import Derived.Laws.ResultCell
namespace Go.Proofs.YtjlkighikfgaeaaGreatDoor.Rd
open Go.RowKit Go.Proofs.YtjlkighikfgaeaaGreatDoor.Mem Go.Proofs.YtjlkighikfgaeaaGreatDoor.Sec
set_option linter.unusedVariables false

set_option maxRecDepth 100000 in
set_option maxHeartbeats 1000000 in
/-- A count: a number that is not above its limit, or a part lacks. -/
theorem count (R : ByteArray → Int × Nat) (hR : Reads R) (s : ByteArray) (hs : s.size ≤ 1048576) (i : Nat) (lim : Int) (w : World) (c : Nat) (h : Cur w c (rest s i)) (u : TypeId) (pv : Value) (hL : Lacks w u pv) (hc : 1 < c) :
    Calls Tryz.prog 187 #[.pointer (some ⟨c, 0, none⟩), .int .i64 lim] w fun e w' => ((R (rest s i)).2 ≠ 0 ∧ (R (rest s i)).1 ≤ lim ∧ e = .returned (.int .i64 (R (rest s i)).1) ∧ Moved w w' c (rest s (i + (R (rest s i)).2))) ∨ (((R (rest s i)).2 = 0 ∨ lim < (R (rest s i)).1) ∧ e = lack u pv ∧ Kept (fun b => b = c) w w') := by
  have HR := hid hR
  have HH := hid h
  have HL := hid hL
  clear hR h hL
  go_enter Tryz.func187, Tryz.ntmps187
  go_wp2_with fail
  refine (number R HR.out s hs i w c HH.out u pv HL.out).mono ?_
  rintro e w1 (⟨hq, rfl, M1⟩ | ⟨hq, rfl, hw⟩)
  · have HM := hid M1
    have g0 : w1.cell? ⟨1, 0, none⟩ = some (.iface u pv) := HL.out.kept M1.2 (by omega)
    have HQ := hid hq
    clear M1 hq
    by_cases hl : lim < (R (rest s i)).1
    · have HX := hid hl
      generalize (R (rest s i)).1 = x at hl
      go_wp2
      exact ⟨rfl, Or.inr ⟨Or.inr HX.out, rfl, HM.out.2⟩⟩
    · have HX := hid hl
      have hgo : ∀ x, (R (rest s i)).1 = x → ¬ lim < x → True := fun _ _ _ => trivial
      generalize hx : (R (rest s i)).1 = x at hl
      have HE := hid hx
      clear hx
      go_wp2
      go_ret
      exact Or.inl ⟨HQ.out, by have := HX.out; omega, by rw [HE.out]; rfl, HM.out⟩
  · obtain rfl := hw.symm
    have HQ := hid hq
    clear hq hw
    unfold lack
    go_wp2
    exact ⟨rfl, Or.inr ⟨Or.inl HQ.out, rfl, Kept.refl _ _⟩⟩

/-- The numbers of a frees' text: how many, then they. -/
def freesNums (R : ByteArray → Int × Nat) (s : ByteArray) : Option (List Int × Nat) :=
  if (R (rest s 5)).2 = 0 ∨ 12 < (R (rest s 5)).1 then none else nums R s (5 + (R (rest s 5)).2) (R (rest s 5)).1.toNat

theorem map_zero (l : List Int) : l.map (· + 0) = l := by simp

set_option maxRecDepth 100000 in
set_option maxHeartbeats 1000000 in
theorem freesParts (R : ByteArray → Int × Nat) (hR : Reads R) (s : ByteArray) (hs : s.size ≤ 1048576) (w : World) (c : Nat) (h : Cur w c (rest s 5)) (u : TypeId) (pv : Value) (hL : Lacks w u pv) (hc : 1 < c) :
    Calls Tryz.prog 181 #[.pointer (some ⟨c, 0, none⟩)] w fun e w' => ((∃ l z v, freesNums R s = some (l, z) ∧ e = .returned v ∧ Ir w' w.heap.size v l) ∨ (freesNums R s = none ∧ e = lack u pv)) ∧ Kept (fun b => b = c) w w' := by
  have HR := hid hR
  have HH := hid h
  have HL := hid hL
  have hcl := h.lt
  have hx0 : 0 ≤ (R (rest s 5)).1 := (hR (rest s 5) (by rw [rest_size]; unfold maxLen; omega)).x0
  clear hR h hL
  go_enter Tryz.func181, Tryz.ntmps181
  go_wp2_with fail
  refine (count R HR.out s hs 5 12 w c HH.out u pv HL.out hc).mono ?_
  rintro e w1 (⟨hq, hm, rfl, M1⟩ | ⟨hq, rfl, k1⟩)
  · have HF : Hid (freesNums R s = nums R s (5 + (R (rest s 5)).2) (R (rest s 5)).1.toNat) := by
      unfold Hid freesNums; rw [if_neg (by omega)]
    have HM := hid M1
    have HL1 := hid (HL.out.kept M1.2 (by omega))
    clear M1 hq
    generalize 5 + (R (rest s 5)).2 = i2 at *
    obtain ⟨n, hn⟩ : ∃ n : Nat, (R (rest s 5)).1 = (n : Int) := Int.eq_ofNat_of_zero_le hx0
    rw [hn] at HF hm
    rw [Int.toNat_natCast] at HF
    rw [hn]
    clear hn hx0
    go_wp2_with fail
    refine (numbers R HR.out s hs i2 n (by omega) 0 (by decide) w1 c HM.out.1 u pv HL1.out hc).mono ?_
    rintro e w2 ⟨hg, k2⟩
    have HK : Hid (Kept (fun b => b = c) w w2) := (HM.out.2.trans k2).mono (fun b _ x => by rcases x with x | x <;> exact x)
    have hs1 := HM.out.2.size
    clear k2
    cases hnu : nums R s i2 n with
    | none =>
      rw [hnu] at hg HF
      have hg' : e = lack u pv := hg
      subst hg'
      clear hnu hg
      unfold lack
      go_wp2
      exact ⟨rfl, Or.inr ⟨HF.out, rfl⟩, HK.out⟩
    | some p =>
      obtain ⟨l, z⟩ := p
      rw [hnu] at hg HF
      obtain ⟨v, rfl, hI, _⟩ := hg
      rw [map_zero] at hI
      have HI := hid (RowO.mono hI hs1)
      obtain ⟨a, cap, rfl, _⟩ := hI.w
      clear hnu hI
      go_wp2
      go_ret
      exact ⟨Or.inl ⟨l, z, _, HF.out, rfl, HI.out⟩, HK.out⟩
  · have HF : Hid (freesNums R s = none) := by unfold Hid freesNums; rw [if_pos hq]
    have HK := hid k1
    clear hq k1
    unfold lack
    go_wp2
    exact ⟨rfl, Or.inr ⟨HF.out, rfl⟩, HK.out⟩

/-- What frees are read as. -/
def readFrees (R : ByteArray → Int × Nat) (s : ByteArray) : Option (List Int) :=
  match freesNums R s with
  | some (l, _) => if showFrees l = s then some l else none
  | none => none

set_option maxRecDepth 100000 in
set_option maxHeartbeats 1000000 in
theorem fcatch_some (p q : Nat) (u : TypeId) (pv : Value) (older : List PanicEntry) (w : World) (a0 b0 : Value) (hp : Row w p [a0]) (hq : Row w q [b0]) (hpq : p ≠ q) :
    CallsD Tryz.prog 202 #[.pointer (some ⟨p, 0, none⟩), .pointer (some ⟨q, 0, none⟩)] (.panicking ({ v := .iface u pv, recovered := false } :: older)) w fun e u' w' =>
      e = .returned (.tuple #[]) ∧ u' = .panicking ({ v := .iface u pv, recovered := true } :: older) ∧ Row w' p [.slice none 0 0] ∧ Row w' q [.bool false] ∧ Kept (fun b => b = p ∨ b = q) w w' := by
  refine callsD_of_wpS Tryz.func202 rfl fun c₀ cs hu => ?_
  have hpl := hp.lt
  have hql := hq.lt
  have p0 := hp.c 0 rfl
  have q0 := hq.c 0 rfl
  have f0 := hp.f 0
  have g0 := hq.f 0
  have HP := hid ((hp.set 0 (.slice none 0 0)).other (p := ⟨q, 0, none⟩) (by show p ≠ q; exact hpq) (.bool false))
  have HQ := hid ((hq.other (p := ⟨p, 0, none⟩) (by show q ≠ p; exact fun e => hpq e.symm) (.slice none 0 0)).set 0 (.bool false))
  have HK : Hid (Kept (fun b => b = p ∨ b = q) w ((w.setCell ⟨p, 0, none⟩ (.slice none 0 0)).setCell ⟨q, 0, none⟩ (.bool false))) :=
    ((kept_set _ _ _ _).trans (kept_set _ _ _ _)).mono (fun b _ x => x)
  clear hp hq
  apply wpS_seq
  apply wpS_region
  simp [wpOpsS, go_sem, recoverD, hu, Tryz.ntmps202, Exit.thenS]
  refine wpS_cond (t := true) (by simp [Act.eval, Array.replicate]) ?_
  simp only [if_true]
  refine wpS_of_wp ?_
  go_wp2
  simp [bodyPostS, results, Tryz.results202]
  exact ⟨HP.out, HQ.out, HK.out⟩

set_option maxRecDepth 100000 in
set_option maxHeartbeats 1000000 in
theorem fcatch_none (p q : Addr) (w : World) :
    CallsD Tryz.prog 202 #[.pointer (some p), .pointer (some q)] .returning w fun e u' w' => e = .returned (.tuple #[]) ∧ u' = .returning ∧ w' = w := by
  refine callsD_of_wpS Tryz.func202 rfl fun c₀ cs hu => ?_
  apply wpS_seq
  apply wpS_region
  simp [wpOpsS, go_sem, recoverD, hu, Tryz.ntmps202, Exit.thenS]
  refine wpS_cond (t := false) (by simp [Act.eval, Array.replicate]) ?_
  simp only [Bool.false_eq_true, if_false]
  refine wpS_of_wp (wp_skip ?_)
  cases c₀
  simp_all [bodyPostS, results, Tryz.results202]

theorem load_flag {w : World} {k : Nat} {b : Bool} (hb : Row w k [.bool b]) : (loadVar 4 ⟨k, 0, none⟩).run Tryz.prog w = .ok (.bool b) w := by
  have hc := hb.c 0 rfl
  simp [go_sem, hc]

theorem load_list {w : World} {k : Nat} {v : Value} (hb : Row w k [v]) : (loadVar 36 ⟨k, 0, none⟩).run Tryz.prog w = .ok v w := by
  have hc := hb.c 0 rfl
  simp [go_sem, hc]

/-- Two results that are handed back out of their own blocks. -/
theorem results_cells {fn : Func} {p q : Tmp} {ty tb : TypeId} (h : fn.results = #[.cell p ty, .cell q tb]) (tmps : Array Value) (w : World) (g k : Nat) (v b : Value)
    (hp : tmps.getD p undef = .pointer (some ⟨g, 0, none⟩)) (hq : tmps.getD q undef = .pointer (some ⟨k, 0, none⟩)) (h1 : (loadVar ty ⟨g, 0, none⟩).run Tryz.prog w = .ok v w) (h2 : (loadVar tb ⟨k, 0, none⟩).run Tryz.prog w = .ok b w) :
    (results fn tmps).run Tryz.prog w = .ok (.tuple #[v, b]) w := by
  have hp' : tmps[p]?.getD undef = .pointer (some ⟨g, 0, none⟩) := by simpa using hp
  have hq' : tmps[q]?.getD undef = .pointer (some ⟨k, 0, none⟩) := by simpa using hq
  simp [results, h, hp', hq', asAddr, h1, h2]

theorem three_blocks (w : World) (xs ys zs : List Value) (t u v : TypeId) :
    ∃ wc, ((w.alloc (.cells xs.toArray t)).alloc (.cells ys.toArray u)).alloc (.cells zs.toArray v) = wc ∧ wc.heap.size = w.heap.size + 1 + 1 + 1 ∧
      Row wc w.heap.size xs ∧ Row wc (w.heap.size + 1) ys ∧ wc.heap[w.heap.size + 1 + 1]? = some (.cells zs.toArray v (0, 0)) ∧ Below w.heap.size w wc := by
  have e0 : (w.alloc (.cells xs.toArray t)).heap.size = w.heap.size + 1 := by simp
  have e1 : ((w.alloc (.cells xs.toArray t)).alloc (.cells ys.toArray u)).heap.size = w.heap.size + 1 + 1 := by simp
  have r1 := Row.new (w.alloc (.cells xs.toArray t)) ys u
  have r2 := heap_alloc_new ((w.alloc (.cells xs.toArray t)).alloc (.cells ys.toArray u)) (.cells zs.toArray v (0, 0))
  rw [e0] at r1
  rw [e1] at r2
  exact ⟨_, rfl, by simp, ((Row.new w xs t).alloc _).alloc _, r1.alloc _, r2, (((Below.refl _ _).alloc (Nat.le_refl _) _).alloc (by omega) _).alloc (by omega) _⟩

theorem first_none {R : ByteArray → Int × Nat} (hR : Reads R) {s : ByteArray} (h : s.size ≤ 5) : (R (rest s 5)).2 = 0 := by
  have := (hR (rest s 5) (by rw [rest_size]; unfold maxLen; omega)).le
  rw [rest_size] at this; omega

theorem readFrees_short (R : ByteArray → Int × Nat) (hR : Reads R) (s : ByteArray) (h : s.size ≤ 5) : readFrees R s = none := by
  unfold readFrees freesNums; rw [if_pos (Or.inl (first_none hR h))]

/-- What both sides answer: a list of its own, or none. -/
def FreesOut (R : ByteArray → Int × Nat) (s : ByteArray) (w w' : World) (e : Ending) : Prop :=
  ∃ v l ok, (readFrees R s = some l ∧ ok = true ∨ readFrees R s = none ∧ l = [] ∧ ok = false) ∧ e = .returned (.tuple #[v, .bool ok]) ∧ Ir w' w.heap.size v l ∧ Below w.heap.size w w'

theorem frees_short_len {R : ByteArray → Int × Nat} (hR : Reads R) {s : ByteArray} (hs : s.size ≤ 1048576) {l : List Int} {z : Nat} (h : freesNums R s = some (l, z)) : l.length ≤ 12 := by
  unfold freesNums at h
  split at h
  · cases h
  · have := nums_len h
    have hx := (hR (rest s 5) (by rw [rest_size]; unfold maxLen; omega)).x0
    omega

set_option maxRecDepth 100000 in
set_option maxHeartbeats 2000000 in
theorem readKindFrees (R : ByteArray → Int × Nat) (hR : Reads R) (s : ByteArray) (hs : s.size ≤ 1048576) (w : World) (u : TypeId) (pv : Value) (hL : Lacks w u pv) (T : Sums w) :
    Calls Tryz.prog 180 #[.string s, .func (.func 181) #[] #[], .func (.func 170) #[] #[]] w fun e w' => FreesOut R s w w' e := by
  have hmf : ∀ (fn : Fn) (first cap : Array Value) (w : World), (Instr.makeFunc fn first cap).run Tryz.prog w = .ok (.func fn first cap) w := fun _ _ _ _ => rfl
  have HR := hid hR
  have HL := hid hL
  have HT := hid T
  clear hR hL T
  go_enter_defers Tryz.func180, Tryz.ntmps180
  go_wp2_with fail
  obtain ⟨wc, hwc, ec, A0, B0, C0, K0⟩ := three_blocks w [.slice none 0 0] [.bool false] [.string s] 36 4 176
  simp only [hwc]
  clear hwc
  have HA := hid A0
  have HBq := hid B0
  have HKc := hid K0
  have HLc := hid (HL.out.kept (Kept.of_below (S := fun _ => False) K0) (fun x => x))
  have HCu : Hid (Cur wc (w.heap.size + 1 + 1) s) := C0
  have hgl := HL.out.lt
  clear A0 B0 C0 K0
  by_cases h5 : (s.size : Int) < 5
  · have HN := hid (readFrees_short R HR.out s (by omega))
    refine (take_no wc (w.heap.size + 1 + 1) s 5 HCu.out h5 u pv HLc.out).mono ?_
    rintro e w1 ⟨rfl, hw⟩
    obtain rfl := hw.symm
    unfold lack
    go_wp2
    refine leaves_cons (f := 202) (args := #[.pointer (some ⟨w.heap.size, 0, none⟩), .pointer (some ⟨w.heap.size + 1, 0, none⟩)]) (by simp) (by simp [go_sem]) ?_
    refine (fcatch_some w.heap.size (w.heap.size + 1) u pv [] _ _ _ HA.out HBq.out (by omega)).mono ?_
    rintro e u' w2 ⟨rfl, rfl, RA, RB, k2⟩
    refine ⟨_, results_cells rfl _ w2 w.heap.size (w.heap.size + 1) _ _ rfl rfl (load_list RA) (load_flag RB), ?_⟩
    exact ⟨_, [], false, Or.inr ⟨HN.out, rfl, rfl⟩, rfl, Or.inl ⟨none, rfl, rfl, rfl⟩, HKc.out.trans (k2.below HKc.out.size (fun b hb x => by rcases x with x | x <;> omega))⟩
  · have h5n : 5 ≤ s.size := by omega
    have HRR : Hid (s.extract 5 s.size = rest s 5) := rfl
    refine (take_yes wc (w.heap.size + 1 + 1) s 5 HCu.out h5n hs).mono ?_
    rintro e w1 ⟨rfl, hw⟩
    have M1 : Moved wc w1 (w.heap.size + 1 + 1) (rest s 5) := by rw [hw, ← HRR.out]; exact moved_set HCu.out _
    have HA1 := hid (HA.out.kept M1.2 (by omega))
    have HB1 := hid (HBq.out.kept M1.2 (by omega))
    have HL1 := hid (HLc.out.kept M1.2 (by omega))
    have HM1 := hid M1
    clear hw M1
    go_wp2_with fail
    refine (freesParts R HR.out s hs w1 (w.heap.size + 1 + 1) HM1.out.1 u pv HL1.out (by omega)).mono ?_
    rintro e w2 ⟨hg, k2⟩
    have HA2 := hid (HA1.out.kept k2 (by omega))
    have HB2 := hid (HB1.out.kept k2 (by omega))
    have k12 : Kept (fun b => b = w.heap.size + 1 + 1) wc w2 := (HM1.out.2.trans k2).mono (fun b _ x => by rcases x with x | x <;> exact x)
    have HBw : Hid (Below w.heap.size w w2) := HKc.out.trans (k12.below HKc.out.size (fun b hb x => by omega))
    have HT2 := hid (HT.out.below HBw.out)
    have hs2 : w.heap.size + 1 + 1 < w2.heap.size := by have := k12.size; omega
    have hs1 : w.heap.size + 1 + 1 < w1.heap.size := HM1.out.1.lt
    clear k2 k12 HM1 HL1 HA1 HB1
    rcases hg with ⟨l, z, v, hn, rfl, hI⟩ | ⟨hn, rfl⟩
    · have HN := hid hn
      have hlen : l.length ≤ 12 := frees_short_len HR.out hs hn
      have HI := hid hI
      obtain ⟨a, cap, rfl, hW⟩ := hI.w
      have HS2 := hid hW.sl
      have hrb : ∀ b, rb (.slice a l.length cap) = some b → w1.heap.size ≤ b := fun b hb => (RowO.lt HI.out hb).1
      clear hn hI hW
      go_wp2_with fail
      refine (iShowFrees w2 a cap l HS2.out (by omega) HT2.out).mono ?_
      rintro e w4 ⟨rfl, b4⟩
      have HA4 := hid (HA2.out.below b4 HA2.out.lt)
      have HB4 := hid (HB2.out.below b4 HB2.out.lt)
      have HI4 := hid (RowO.below HI.out b4)
      have HBw4 := hid (HBw.out.trans (b4.mono HBw.out.size))
      clear b4 HA2 HB2 HBw HI HS2
      have a0 := HA4.out.c 0 rfl
      have q0 := HB4.out.c 0 rfl
      have fa0 := HA4.out.f 0
      have fq := HB4.out.f 0
      by_cases hsh : showFrees l = s
      · have HN2 : Hid (readFrees R s = some l) := by unfold Hid readFrees; rw [HN.out]; simp only []; rw [if_pos hsh]
        have hne := Own.eqS_yes hsh
        generalize showFrees l = sh at *
        have HRA := hid ((HA4.out.set 0 (.slice a l.length cap)).other (p := ⟨w.heap.size + 1, 0, none⟩) (by show w.heap.size ≠ w.heap.size + 1; omega) (.bool true))
        have HRB := hid ((HB4.out.other (p := ⟨w.heap.size, 0, none⟩) (by show w.heap.size + 1 ≠ w.heap.size; omega) (.slice a l.length cap)).set 0 (.bool true))
        have HBf := hid (below_set (below_set HBw4.out w.heap.size 0 (.slice a l.length cap) (Nat.le_refl _)) (w.heap.size + 1) 0 (.bool true) (by omega))
        have HIf : Hid (Ir ((w4.setCell ⟨w.heap.size, 0, none⟩ (.slice a l.length cap)).setCell ⟨w.heap.size + 1, 0, none⟩ (.bool true)) w.heap.size (.slice a l.length cap) l) :=
          RowO.mono (RowO.kept HI4.out ((kept_set _ _ _ _).trans (kept_set _ _ _ _)) (fun b hb x => by have := hrb b hb; rcases x with x | x <;> omega)) (by omega)
        go_wp2
        refine leaves_cons (f := 202) (args := #[.pointer (some ⟨w.heap.size, 0, none⟩), .pointer (some ⟨w.heap.size + 1, 0, none⟩)]) (by simp) (by simp [go_sem]) ?_
        refine (fcatch_none ⟨w.heap.size, 0, none⟩ ⟨w.heap.size + 1, 0, none⟩ _).mono ?_
        rintro e u' w5 ⟨rfl, rfl, rfl⟩
        refine ⟨_, results_cells rfl _ _ w.heap.size (w.heap.size + 1) _ _ rfl rfl (load_list HRA.out) (load_flag HRB.out), ?_⟩
        exact ⟨_, l, true, Or.inl ⟨HN2.out, rfl⟩, rfl, HIf.out, HBf.out⟩
      · have HN2 : Hid (readFrees R s = none) := by unfold Hid readFrees; rw [HN.out]; simp only []; rw [if_neg hsh]
        have hne := Own.eqS_no hsh
        generalize showFrees l = sh at *
        have HRA := hid ((HA4.out.set 0 (.slice none 0 0)).other (p := ⟨w.heap.size + 1, 0, none⟩) (by show w.heap.size ≠ w.heap.size + 1; omega) (.bool false))
        have HRB := hid ((HB4.out.other (p := ⟨w.heap.size, 0, none⟩) (by show w.heap.size + 1 ≠ w.heap.size; omega) (.slice none 0 0)).set 0 (.bool false))
        have HBf := hid (below_set (below_set HBw4.out w.heap.size 0 (.slice none 0 0) (Nat.le_refl _)) (w.heap.size + 1) 0 (.bool false) (by omega))
        go_wp2
        refine leaves_cons (f := 202) (args := #[.pointer (some ⟨w.heap.size, 0, none⟩), .pointer (some ⟨w.heap.size + 1, 0, none⟩)]) (by simp) (by simp [go_sem]) ?_
        refine (fcatch_none ⟨w.heap.size, 0, none⟩ ⟨w.heap.size + 1, 0, none⟩ _).mono ?_
        rintro e u' w5 ⟨rfl, rfl, rfl⟩
        refine ⟨_, results_cells rfl _ _ w.heap.size (w.heap.size + 1) _ _ rfl rfl (load_list HRA.out) (load_flag HRB.out), ?_⟩
        exact ⟨_, [], false, Or.inr ⟨HN2.out, rfl, rfl⟩, rfl, Or.inl ⟨none, rfl, rfl, rfl⟩, HBf.out⟩
    · have HN : Hid (readFrees R s = none) := by unfold Hid readFrees; rw [hn]
      clear hn
      unfold lack
      go_wp2
      refine leaves_cons (f := 202) (args := #[.pointer (some ⟨w.heap.size, 0, none⟩), .pointer (some ⟨w.heap.size + 1, 0, none⟩)]) (by simp) (by simp [go_sem]) ?_
      refine (fcatch_some w.heap.size (w.heap.size + 1) u pv [] _ _ _ HA2.out HB2.out (by omega)).mono ?_
      rintro e u' w3 ⟨rfl, rfl, RA, RB, k3⟩
      refine ⟨_, results_cells rfl _ w3 w.heap.size (w.heap.size + 1) _ _ rfl rfl (load_list RA) (load_flag RB), ?_⟩
      exact ⟨_, [], false, Or.inr ⟨HN.out, rfl, rfl⟩, rfl, Or.inl ⟨none, rfl, rfl, rfl⟩, HBw.out.trans (k3.below HBw.out.size (fun b hb x => by rcases x with x | x <;> omega))⟩

set_option maxRecDepth 100000 in
set_option maxHeartbeats 1000000 in
theorem iReadFrees (R : ByteArray → Int × Nat) (hR : Reads R) (s : ByteArray) (hs : s.size ≤ 1048576) (w : World) (u : TypeId) (pv : Value) (hL : Lacks w u pv) (T : Sums w) :
    Calls Tryz.prog 143 #[.string s] w fun e w' => FreesOut R s w w' e := by
  have HR := hid hR
  have HL := hid hL
  have HT := hid T
  clear hR hL T
  go_enter Tryz.func143, Tryz.ntmps143
  go_wp2_with fail
  refine (readKindFrees R HR.out s hs w u pv HL.out HT.out).mono ?_
  rintro e w1 ⟨v, l, ok, ho, rfl, hI, b1⟩
  have HO := hid (show FreesOut R s w w1 (.returned (.tuple #[v, .bool ok])) from ⟨v, l, ok, ho, rfl, hI, b1⟩)
  obtain ⟨a, cap, rfl, _⟩ := hI.w
  clear ho hI b1
  go_wp2
  go_ret2
  exact HO.out

end Go.Proofs.YtjlkighikfgaeaaGreatDoor.Rd

namespace Go.Proofs.YtjlkighikfgaeaaGreatDoor.Mem
open Go.RowKit
set_option linter.unusedVariables false

/-- A write under way. -/
structure Wt where
  host : Int
  epoch : Int
  sector : Int
  text : ByteArray

def Wt.none : Wt := ⟨0, 0, 0, ByteArray.empty⟩
def Wt.cells (x : Wt) : List Value := [.int .i64 x.host, .int .i64 x.epoch, .int .i64 x.sector, .string x.text]
def Wt.val (x : Wt) : Value := .agg #[.int .i64 x.host, .int .i64 x.epoch, .int .i64 x.sector, .string x.text]

/-- Cell i of a list of writes, four cells each. -/
def wcell (l : List Wt) (i : Nat) : Value := (l.getD (i / 4) Wt.none).cells.getD (i % 4) undef
def Wts (w : World) (a : Option Addr) (l : List Wt) : Prop := Sl w a (l.length * 4) (wcell l)
def WtsW (w : World) (B : Nat) (a : Option Addr) (l : List Wt) : Prop := Wr w B a (l.length * 4) (wcell l)

theorem wcell_at (l : List Wt) (k j : Nat) (hj : j < 4) : wcell l (k * 4 + j) = (l.getD k Wt.none).cells.getD j undef := by
  unfold wcell
  rw [show (k * 4 + j) / 4 = k by omega, show (k * 4 + j) % 4 = j by omega]

/-- The four cells of write k. -/
theorem Wts.at_ {w : World} {a : Option Addr} {l : List Wt} (h : Wts w a l) (k : Nat) (hk : k < l.length) : ∃ b off, a = some ⟨b, off, none⟩ ∧
    w.cell? ⟨b, off + k * 4, none⟩ = some (.int .i64 (l.getD k Wt.none).host) ∧ w.cell? ⟨b, off + k * 4 + 1, none⟩ = some (.int .i64 (l.getD k Wt.none).epoch) ∧
    w.cell? ⟨b, off + k * 4 + 2, none⟩ = some (.int .i64 (l.getD k Wt.none).sector) ∧ w.cell? ⟨b, off + k * 4 + 3, none⟩ = some (.string (l.getD k Wt.none).text) := by
  obtain ⟨b, off, rfl, h0⟩ := h (k * 4 + 0) (by omega)
  obtain ⟨b1, off1, e1, h1⟩ := h (k * 4 + 1) (by omega)
  obtain ⟨b2, off2, e2, h2⟩ := h (k * 4 + 2) (by omega)
  obtain ⟨b3, off3, e3, h3⟩ := h (k * 4 + 3) (by omega)
  cases e1; cases e2; cases e3
  rw [wcell_at l k _ (by omega)] at h0 h1 h2 h3
  exact ⟨b, off, rfl, h0, by rw [Nat.add_assoc]; exact h1, by rw [Nat.add_assoc]; exact h2, by rw [Nat.add_assoc]; exact h3⟩

/-- What stands in the new row behind k rounds. -/
def partW (l : List Wt) (k : Nat) (i : Nat) : Value := if i < k * 4 then wcell l i else Wt.none.cells.getD (i % 4) undef

theorem partW_succ (l : List Wt) (k : Nat) (j : Nat) : (if j / 4 = k then [Value.int .i64 (l.getD k Wt.none).host, .int .i64 (l.getD k Wt.none).epoch, .int .i64 (l.getD k Wt.none).sector, .string (l.getD k Wt.none).text].getD (j % 4) undef else partW l k j) = partW l (k + 1) j := by
  unfold partW
  by_cases h : j / 4 = k
  · rw [if_pos h, if_pos (by omega)]
    unfold wcell
    rw [h]; rfl
  · by_cases h2 : j < k * 4
    · rw [if_neg h, if_pos h2, if_pos (by omega)]
    · rw [if_neg h, if_neg h2, if_neg (by omega)]

/-- The four cells of write k, which may be written. -/
theorem wr_at {w : World} {B b : Nat} {m : Nat} {f : Nat → Value} (h : Wr w B (some ⟨b, 0, none⟩) m f) (k : Nat) (hk : k * 4 + 4 ≤ m) :
    (∃ v, w.cell? ⟨b, k * 4, none⟩ = some v) ∧ (∃ v, w.cell? ⟨b, k * 4 + 1, none⟩ = some v) ∧ (∃ v, w.cell? ⟨b, k * 4 + 2, none⟩ = some v) ∧ (∃ v, w.cell? ⟨b, k * 4 + 3, none⟩ = some v) ∧
    w.frozen? ⟨b, k * 4, none⟩ = false ∧ w.frozen? ⟨b, k * 4 + 1, none⟩ = false ∧ w.frozen? ⟨b, k * 4 + 2, none⟩ = false ∧ w.frozen? ⟨b, k * 4 + 3, none⟩ = false := by
  obtain ⟨_, _, e0, _, h0, z0⟩ := h (k * 4) (by omega)
  obtain ⟨_, _, e1, _, h1, z1⟩ := h (k * 4 + 1) (by omega)
  obtain ⟨_, _, e2, _, h2, z2⟩ := h (k * 4 + 2) (by omega)
  obtain ⟨_, _, e3, _, h3, z3⟩ := h (k * 4 + 3) (by omega)
  cases e0; cases e1; cases e2; cases e3
  rw [Nat.zero_add] at h0 h1 h2 h3 z0 z1 z2 z3
  exact ⟨⟨_, h0⟩, ⟨_, h1⟩, ⟨_, h2⟩, ⟨_, h3⟩, z0, z1, z2, z3⟩

/-- A disk. -/
structure Dk where
  sec : List ByteArray
  ep : List Int
  pe : List Wt

/-- v is the disk D in world w. -/
def DkR (w : World) (v : Value) (D : Dk) : Prop := ∃ a1 c1 a2 c2 a3 c3, v = .agg #[.slice a1 D.sec.length c1, .slice a2 D.ep.length c2, .slice a3 D.pe.length c3] ∧ Strs w a1 D.sec ∧ Ints w a2 D.ep ∧ Wts w a3 D.pe

/-- The same, in blocks from B on, no two lists in one block; they may be written. -/
def DkW (w : World) (B : Nat) (v : Value) (D : Dk) : Prop := ∃ a1 c1 a2 c2 a3 c3, v = .agg #[.slice a1 D.sec.length c1, .slice a2 D.ep.length c2, .slice a3 D.pe.length c3] ∧ StrsW w B a1 D.sec ∧ IntsW w B a2 D.ep ∧ WtsW w B a3 D.pe ∧
  (∀ b, foot a1 D.sec.length b → ¬ foot a2 D.ep.length b ∧ ¬ foot a3 (D.pe.length * 4) b) ∧ (∀ b, foot a2 D.ep.length b → ¬ foot a3 (D.pe.length * 4) b)

theorem DkR.below {w w' : World} {v : Value} {D : Dk} (h : DkR w v D) (b : Below w.heap.size w w') : DkR w' v D := by
  obtain ⟨a1, c1, a2, c2, a3, c3, e, s1, s2, s3⟩ := h
  exact ⟨a1, c1, a2, c2, a3, c3, e, Sl.below s1 b, Sl.below s2 b, Sl.below s3 b⟩

theorem DkW.read {w : World} {B : Nat} {v : Value} {D : Dk} (h : DkW w B v D) : DkR w v D := by
  obtain ⟨a1, c1, a2, c2, a3, c3, e, s1, s2, s3, _⟩ := h
  exact ⟨a1, c1, a2, c2, a3, c3, e, Wr.sl s1, Wr.sl s2, Wr.sl s3⟩

theorem DkW.below {w w' : World} {B : Nat} {v : Value} {D : Dk} (h : DkW w B v D) (b : Below w.heap.size w w') : DkW w' B v D := by
  obtain ⟨a1, c1, a2, c2, a3, c3, e, s1, s2, s3, f1, f2⟩ := h
  exact ⟨a1, c1, a2, c2, a3, c3, e, Wr.below s1 b, Wr.below s2 b, Wr.below s3 b, f1, f2⟩

end Go.Proofs.YtjlkighikfgaeaaGreatDoor.Mem

namespace Go.Proofs.YtjlkighikfgaeaaGreatDoor.Mem
open Go.RowKit
set_option linter.unusedVariables false

/-- What is left: a number below 0, or one not above what was, and all fits. -/
def FitS (r left : Int) (l : List ByteArray) : Prop := r < 0 ∨ (0 ≤ r ∧ r ≤ left ∧ (l.length : Int) ≤ left ∧ ∀ s ∈ l, (s.size : Int) ≤ left)
def FitN (r left : Int) (n : Nat) : Prop := r < 0 ∨ (0 ≤ r ∧ r ≤ left ∧ (n : Int) ≤ left)
def FitW (r left : Int) (l : List Wt) : Prop := r < 0 ∨ (0 ≤ r ∧ r ≤ left ∧ (l.length : Int) ≤ left ∧ ∀ s ∈ l, (s.text.size : Int) ≤ left)

set_option maxRecDepth 100000 in
set_option maxHeartbeats 1000000 in
theorem szStringS (w : World) (a : Option Addr) (cap : Nat) (l : List ByteArray) (left : Int) (S : Strs w a l) (hl : l.length ≤ maxLen) (hs : ∀ s ∈ l, s.size ≤ maxLen) (h0 : 0 ≤ left) (h1 : left ≤ 1048576) :
    Calls Tryz.prog 25 #[.slice a l.length cap, .int .i64 left] w fun e w' => ∃ r, e = .returned (.int .i64 r) ∧ w' = w ∧ FitS r left l := by
  unfold maxLen at hl hs
  have HS := hid S
  have Hs := hid hs
  clear S hs
  by_cases hb : left < (l.length : Int)
  · go_enter Tryz.func25, Tryz.ntmps25
    go_wp2
    go_ret
    exact ⟨_, rfl, rfl, Or.inl (by decide)⟩
  · go_enter Tryz.func25, Tryz.ntmps25
    go_wp2
    go_loop [1, 5] (fun x i => ∃ (k : Nat) (m : Int), k ≤ l.length ∧ i = .int .i64 (k : Int) ∧ x = .int .i64 m ∧ 0 ≤ m ∧ m ≤ left ∧ Hid (∀ j, j < k → ((l.getD j ByteArray.empty).size : Int) ≤ left)) (fun _ i => l.length - (intOf i).toNat)
    case atStart => exact ⟨0, _, Nat.zero_le _, rfl, rfl, by omega, by omega, fun j hj => by omega⟩
    case round =>
      obtain ⟨k, m, hk, rfl, rfl, hm0, hm1, HJ⟩ := hrel
      by_cases hlt : k < l.length
      · obtain ⟨b, off, rfl, hc⟩ := HS.out k hlt
        replace hc : w.cell? ⟨b, off + k, none⟩ = some (.string (l.getD k ByteArray.empty)) := hc
        have hx2 : (l.getD k ByteArray.empty).size ≤ 9223372036854775807 := by
          rw [List.getD, List.getElem?_eq_getElem hlt]; exact Hs.out _ (List.getElem_mem hlt)
        generalize hx : l.getD k ByteArray.empty = x at hc hx2
        have HX := hid hx
        clear hx
        by_cases hneg : m < (x.size : Int)
        · go_wp2
          go_ret
          exact ⟨_, rfl, rfl, Or.inl (by decide)⟩
        · go_wp2
          go_round
          case rel => exact ⟨k + 1, m - x.size, by omega, by go_num, rfl, by omega, by omega, fun j hj => by
            by_cases h : j = k
            · subst h; rw [HX.out]; omega
            · exact HJ.out j (by omega)⟩
          case measure => simp [intOf]; omega
      · obtain rfl : k = l.length := by omega
        go_wp2
        go_ret
        refine ⟨_, rfl, rfl, Or.inr ⟨hm0, hm1, by omega, fun s hs => ?_⟩⟩
        obtain ⟨j, hj, rfl⟩ := List.getElem_of_mem hs
        have := HJ.out j hj
        rwa [List.getD, List.getElem?_eq_getElem hj] at this

set_option maxHeartbeats 1000000 in
theorem szIntS (w : World) (a : Option Addr) (cap n : Nat) (left : Int) (hl : n ≤ maxLen) (h0 : 0 ≤ left) (h1 : left ≤ 1048576) :
    Calls Tryz.prog 52 #[.slice a n cap, .int .i64 left] w fun e w' => ∃ r, e = .returned (.int .i64 r) ∧ w' = w ∧ FitN r left n := by
  unfold maxLen at hl
  by_cases hb : left < (n : Int)
  · go_enter Tryz.func52, Tryz.ntmps52
    go_wp2
    go_ret
    exact ⟨_, rfl, rfl, Or.inl (by decide)⟩
  · go_enter Tryz.func52, Tryz.ntmps52
    go_wp2
    go_ret
    exact ⟨_, rfl, rfl, Or.inr ⟨by omega, by omega, by omega⟩⟩

/-- The sizes that Go can hold. -/
structure Dk.Held (D : Dk) : Prop where
  h1 : D.sec.length ≤ maxLen
  h2 : D.ep.length ≤ maxLen
  h3 : D.pe.length ≤ maxLen
  t1 : ∀ s ∈ D.sec, s.size ≤ maxLen
  t3 : ∀ x ∈ D.pe, x.text.size ≤ maxLen

/-- The sizes that the laws look at. -/
structure Dk.Small (D : Dk) (m : Int) : Prop where
  h1 : (D.sec.length : Int) ≤ m
  h2 : (D.ep.length : Int) ≤ m
  h3 : (D.pe.length : Int) ≤ m
  t1 : ∀ s ∈ D.sec, (s.size : Int) ≤ m
  t3 : ∀ x ∈ D.pe, (x.text.size : Int) ≤ m

def FitD (r left : Int) (D : Dk) : Prop := r < 0 ∨ (0 ≤ r ∧ r ≤ left ∧ D.Small left)

end Go.Proofs.YtjlkighikfgaeaaGreatDoor.Mem

namespace Go.Proofs.YtjlkighikfgaeaaGreatDoor.Mem
open Go.RowKit Classical
set_option linter.unusedVariables false

theorem getD_ext {α : Type} {l m : List α} (d : α) (hl : l.length = m.length) (h : ∀ j, j < l.length → l.getD j d = m.getD j d) : l = m := by
  apply List.ext_getElem hl
  intro i h1 h2
  have := h i h1
  rwa [List.getD, List.getElem?_eq_getElem h1, List.getD, List.getElem?_eq_getElem h2] at this

set_option maxRecDepth 100000 in
set_option maxHeartbeats 1000000 in
theorem eqStringS (w : World) (a b : Option Addr) (ca cb : Nat) (l m : List ByteArray) (S : Strs w a l) (T : Strs w b m) (hl : l.length ≤ maxLen) (hm : m.length ≤ maxLen) :
    Calls Tryz.prog 27 #[.slice a l.length ca, .slice b m.length cb] w fun e w' => e = .returned (.bool (decide (l = m))) ∧ Below w.heap.size w w' := by
  unfold maxLen at hl hm
  have HS := hid S
  have HT := hid T
  clear S T
  by_cases hne : l.length = m.length
  · have Hne := hid hne
    rw [← hne]
    clear hne hm
    generalize hq : decide (l = m) = q
    have HQ := hid hq
    clear hq
    go_enter Tryz.func27, Tryz.ntmps27
    go_wp2
    go_loopw [5] (fun i wr => ∃ k : Nat, k ≤ l.length ∧ i = .int .i64 (k : Int) ∧ Hid (∀ j, j < k → l.getD j ByteArray.empty = m.getD j ByteArray.empty) ∧ Hid (Below w.heap.size w wr)) (fun i _ => l.length - (intOf i).toNat)
    case atStart => exact ⟨0, Nat.zero_le _, rfl, fun j hj => by omega, Below.refl _ _⟩
    case round =>
      obtain ⟨k, hk, rfl, HJ, HB⟩ := hrel
      by_cases hlt : k < l.length
      · obtain ⟨b1, o1, rfl, hc1⟩ := (HS.out.below HB.out) k hlt
        obtain ⟨b2, o2, rfl, hc2⟩ := (HT.out.below HB.out) k (Hne.out ▸ hlt)
        replace hc1 : wr.cell? ⟨b1, o1 + k, none⟩ = some (.string (l.getD k ByteArray.empty)) := hc1
        replace hc2 : wr.cell? ⟨b2, o2 + k, none⟩ = some (.string (m.getD k ByteArray.empty)) := hc2
        generalize hx : l.getD k ByteArray.empty = x at hc1
        generalize hy : m.getD k ByteArray.empty = y at hc2
        have HX := hid hx
        have HY := hid hy
        clear hx hy
        by_cases he : x = y
        · have he' := Own.eqS_yes he
          have HE := hid he
          clear he
          go_wp2
          go_quiet (fail)
          go_wp2
          exact ⟨⟨k + 1, by omega, by go_num, fun j hj => by
            by_cases h : j = k
            · subst h; rw [HX.out, HY.out]; exact HE.out
            · exact HJ.out j (by omega), below_drewN HB.out nq⟩, by simp [intOf]; omega⟩
        · have he' := Own.eqS_no he
          have HE := hid he
          clear he
          go_wp2
          go_quiet (fail)
          go_wp2
          go_ret
          refine ⟨?_, below_drewN HB.out nq⟩
          rw [← HQ.out, decide_eq_false (fun e => HE.out (by rw [← HX.out, ← HY.out, e]))]
          rfl
      · obtain rfl : k = l.length := by omega
        go_wp2
        go_ret
        refine ⟨?_, HB.out⟩
        rw [← HQ.out, decide_eq_true (getD_ext ByteArray.empty Hne.out HJ.out)]
        rfl
  · have hne' : ¬ (l.length : Int) = (m.length : Int) := by omega
    have HQ := hid (decide_eq_false (p := l = m) (fun e => hne (by rw [e])))
    rw [HQ.out]
    go_enter Tryz.func27, Tryz.ntmps27
    go_wp2
    go_ret
    exact ⟨rfl, Below.refl _ _⟩

set_option maxRecDepth 100000 in
set_option maxHeartbeats 1000000 in
theorem eqIntS (w : World) (a b : Option Addr) (ca cb : Nat) (l m : List Int) (S : Ints w a l) (T : Ints w b m) (hl : l.length ≤ maxLen) (hm : m.length ≤ maxLen) :
    Calls Tryz.prog 71 #[.slice a l.length ca, .slice b m.length cb] w fun e w' => e = .returned (.bool (decide (l = m))) ∧ Below w.heap.size w w' := by
  unfold maxLen at hl hm
  have HS := hid S
  have HT := hid T
  clear S T
  by_cases hne : l.length = m.length
  · have Hne := hid hne
    rw [← hne]
    clear hne hm
    generalize hq : decide (l = m) = q
    have HQ := hid hq
    clear hq
    go_enter Tryz.func71, Tryz.ntmps71
    go_wp2
    go_loopw [5] (fun i wr => ∃ k : Nat, k ≤ l.length ∧ i = .int .i64 (k : Int) ∧ Hid (∀ j, j < k → l.getD j 0 = m.getD j 0) ∧ Hid (Below w.heap.size w wr)) (fun i _ => l.length - (intOf i).toNat)
    case atStart => exact ⟨0, Nat.zero_le _, rfl, fun j hj => by omega, Below.refl _ _⟩
    case round =>
      obtain ⟨k, hk, rfl, HJ, HB⟩ := hrel
      by_cases hlt : k < l.length
      · obtain ⟨b1, o1, rfl, hc1⟩ := (HS.out.below HB.out) k hlt
        obtain ⟨b2, o2, rfl, hc2⟩ := (HT.out.below HB.out) k (Hne.out ▸ hlt)
        replace hc1 : wr.cell? ⟨b1, o1 + k, none⟩ = some (.int .i64 (l.getD k 0)) := hc1
        replace hc2 : wr.cell? ⟨b2, o2 + k, none⟩ = some (.int .i64 (m.getD k 0)) := hc2
        generalize hx : l.getD k 0 = x at hc1
        generalize hy : m.getD k 0 = y at hc2
        have HX := hid hx
        have HY := hid hy
        clear hx hy
        by_cases he : x = y
        · have HE := hid he
          go_wp2
          go_quiet (fail)
          go_wp2
          exact ⟨⟨k + 1, by omega, by go_num, fun j hj => by
            by_cases h : j = k
            · subst h; rw [HX.out, HY.out]; exact HE.out
            · exact HJ.out j (by omega), below_drewN HB.out nq⟩, by simp [intOf]; omega⟩
        · have HE := hid he
          go_wp2
          go_quiet (fail)
          go_wp2
          go_ret
          refine ⟨?_, below_drewN HB.out nq⟩
          rw [← HQ.out, decide_eq_false (fun e => HE.out (by rw [← HX.out, ← HY.out, e]))]
          rfl
      · obtain rfl : k = l.length := by omega
        go_wp2
        go_ret
        refine ⟨?_, HB.out⟩
        rw [← HQ.out, decide_eq_true (getD_ext 0 Hne.out HJ.out)]
        rfl
  · have hne' : ¬ (l.length : Int) = (m.length : Int) := by omega
    have HQ := hid (decide_eq_false (p := l = m) (fun e => hne (by rw [e])))
    rw [HQ.out]
    go_enter Tryz.func71, Tryz.ntmps71
    go_wp2
    go_ret
    exact ⟨rfl, Below.refl _ _⟩

end Go.Proofs.YtjlkighikfgaeaaGreatDoor.Mem

namespace Go.Proofs.YtjlkighikfgaeaaGreatDoor.Mem
open Go.RowKit
set_option linter.unusedVariables false

/-- The digits of q, none of 0; at most f. -/
def mkF : Nat → Nat → List Int
  | 0, _ => []
  | f + 1, q => if q = 0 then [] else mkF f (q / 10) ++ [48 + ((q % 10 : Nat) : Int)]
theorem mkF_zero (f : Nat) : mkF f 0 = [] := by cases f <;> simp [mkF]
theorem mkF_pos (f q : Nat) (h : q ≠ 0) : mkF (f + 1) q = mkF f (q / 10) ++ [48 + ((q % 10 : Nat) : Int)] := by rw [mkF, if_neg h]

/-- Mark k. -/
def markS (k : Nat) : ByteArray := strOfNums (109 :: mkF 20 k)

def MInv (M : Nat) (l : List Int) (q f : Nat) : Prop := q < 10 ^ f ∧ l.length + f = 20 ∧ mkF f q ++ l = mkF 20 M

theorem minv_start (M : Nat) (h : M < 100000000000000000000) : MInv M [] M 20 := ⟨by show M < 100000000000000000000; exact h, rfl, by simp⟩
theorem minv_more {M : Nat} {l : List Int} {q f : Nat} (h : MInv M l q f) (hq : q ≠ 0) : ∃ g, f = g + 1 ∧ MInv M ((48 + (q : Int) % 10) :: l) (q / 10) g := by
  obtain ⟨h1, h2, h3⟩ := h
  cases f with
  | zero => simp at h1; omega
  | succ g =>
    refine ⟨g, rfl, by rw [Nat.pow_succ] at h1; omega, by simp; omega, ?_⟩
    rw [mkF_pos g q hq] at h3
    rw [← h3]; simp
theorem minv_end {M : Nat} {l : List Int} {f : Nat} (h : MInv M l 0 f) : l = mkF 20 M := by
  have := h.2.2
  rw [mkF_zero] at this
  exact this
theorem minv_len {M : Nat} {l : List Int} {q f : Nat} (h : MInv M l q f) : l.length ≤ 20 := by have := h.2.1; omega
theorem mstr_cons (x : Int) (l : List Int) : strOfNums [x] ++ strOfNums l = strOfNums (x :: l) := by
  apply ByteArray.ext
  simp [strOfNums, ByteArray.data_append]
theorem mstr_m (l : List Int) : (⟨#[109]⟩ : ByteArray) ++ strOfNums l = strOfNums (109 :: l) := mstr_cons 109 l
theorem mstr_one (x : Int) : (strOfNums [x]).size = 1 := rfl

set_option maxRecDepth 100000 in
set_option maxHeartbeats 1000000 in
theorem markText (M : Nat) (w : World) (h0 : 0 < M) (h1 : (M : Int) ≤ 4611686018427387904) :
    Calls Tryz.prog 77 #[.int .i64 (M : Int)] w fun e w' => e = .returned (.string (markS M)) ∧ Below w.heap.size w w' := by
  have hneg : ¬ (M : Int) ≤ 0 := by omega
  go_enter Tryz.func77, Tryz.ntmps77
  go_wp2
  go_loopw [0, 3] (fun x s wr => ∃ (l : List Int) (q f : Nat), Hid (MInv M l q f) ∧ (q : Int) ≤ 4611686018427387904 ∧ x = .int .i64 (q : Int) ∧ s = .string (strOfNums l) ∧ Below w.heap.size w wr) (fun x _ _ => (intOf x).toNat)
  case atStart => exact ⟨[], M, 20, minv_start M (by omega), h1, rfl, rfl, Below.refl _ _⟩
  case round =>
    obtain ⟨l, q, f, hI, hq, rfl, rfl, hbel⟩ := hrel
    have hl := minv_len hI.out
    have hls := strOfNums_size l
    by_cases hlt : q = 0
    · subst hlt
      have Hf : Hid ((⟨#[109]⟩ : ByteArray) ++ strOfNums l = markS M) := by
        show _ = _
        rw [mstr_m, minv_end hI.out]; rfl
      have h9 : (⟨#[109]⟩ : ByteArray).size = 1 := rfl
      go_wp2
      go_ret
      exact ⟨Own.ret_str Hf.out, hbel⟩
    · obtain ⟨g, rfl, hI'⟩ := minv_more hI.out hlt
      have hne : (0 : Int) < (q : Int) := by omega
      have HS : Hid (strOfNums [48 + (q : Int) % 10] ++ strOfNums l = strOfNums ((48 + (q : Int) % 10) :: l)) := mstr_cons _ _
      have Hn : Hid (((q / 10 : Nat) : Int) = (q : Int) / 10) := by show _ = _; omega
      have hone := mstr_one (48 + (q : Int) % 10)
      have HI : Hid (MInv M ((48 + (q : Int) % 10) :: l) (q / 10) g) := hI'
      have hcv := fun (b len : Nat) (x : Int) (wx : World) (hc : wx.cell? ⟨b, 0, none⟩ = some (.int .u8 x)) => run_convert_bytes_arg (P := Tryz.prog) wx 22 5 Tryz.underlying22 Tryz.underlying5 b 0 1 len [x] rfl (fun i hi => by obtain rfl : i = 0 := (by omega); simpa using hc) 9 Tryz.underlying9
      clear hI'
      go_wp2
      go_roundw
      case rel => exact ⟨(48 + (q : Int) % 10) :: l, q / 10, g, HI, by rw [Hn.out]; omega, by rw [Hn.out], by rw [HS.out], hbel.alloc hbel.size _⟩
      case measure => simp [intOf]; omega

/-- What stands in the slice behind j rounds of marking from k on. -/
def msS (f : Nat → Value) (k j : Nat) (i : Nat) : Value := if i < j then .string (markS (k + i)) else f i
def msI (f : Nat → Value) (k j : Nat) (i : Nat) : Value := if i < j then .int .i64 ((k + i : Nat) : Int) else f i

theorem msS_succ (f : Nat → Value) (k j : Nat) (i : Nat) : (if i = j then Value.string (markS (k + j)) else msS f k j i) = msS f k (j + 1) i := by
  unfold msS
  by_cases h : i = j
  · subst h; simp
  · by_cases h2 : i < j
    · simp [h, h2, Nat.lt_succ_of_lt h2]
    · simp [h, h2, show ¬ i < j + 1 by omega]
theorem msI_succ (f : Nat → Value) (k j : Nat) (i : Nat) : (if i = j then Value.int .i64 ((k + j : Nat) : Int) else msI f k j i) = msI f k (j + 1) i := by
  unfold msI
  by_cases h : i = j
  · subst h; simp
  · by_cases h2 : i < j
    · simp [h, h2, Nat.lt_succ_of_lt h2]
    · simp [h, h2, show ¬ i < j + 1 by omega]

set_option maxRecDepth 100000 in
set_option maxHeartbeats 1000000 in
theorem markStringS (w : World) (B : Nat) (a : Option Addr) (n cap k : Nat) (f : Nat → Value) (S : Wr w B a n f) (hk : 0 < k) (hb : k + n ≤ 4611686018427387904) :
    Calls Tryz.prog 28 #[.slice a n cap, .int .i64 (k : Int)] w fun e w' => e = .returned (.int .i64 ((k + n : Nat) : Int)) ∧ Wr w' B a n (fun i => .string (markS (k + i))) ∧ Kept (foot a n) w w' := by
  have HS := hid S
  clear S
  go_enter Tryz.func28, Tryz.ntmps28
  go_wp2
  go_loopw [1, 5] (fun x i wr => ∃ j : Nat, j ≤ n ∧ i = .int .i64 (j : Int) ∧ x = .int .i64 ((k + j : Nat) : Int) ∧ Hid (Wr wr B a n (msS f k j)) ∧ Hid (Kept (foot a n) w wr)) (fun _ i _ => n - (intOf i).toNat)
  case atStart => exact ⟨0, Nat.zero_le _, rfl, rfl, HS.out.congr (fun i _ => by simp [msS]), Kept.refl _ _⟩
  case round =>
    obtain ⟨j, hj, rfl, rfl, HW, HK⟩ := hrel
    by_cases hlt : j < n
    · obtain ⟨b, off, rfl, hB, hc, hz⟩ := HW.out j hlt
      go_wp2_with fail
      refine (markText (k + j) _ (by omega) (by omega)).mono ?_
      rintro e w1 ⟨rfl, b1⟩
      have HW1 := hid (HW.out.below b1)
      have HK1 := hid (HK.out.trans (Kept.of_below (S := fun _ => False) b1))
      obtain ⟨b', off', e', hB', hc', hz'⟩ := HW1.out j hlt
      cases e'
      clear b1 hc hz
      go_wp2
      refine ⟨⟨j + 1, by omega, by go_num, by go_num, ?_, ?_⟩, by simp [intOf]; omega⟩
      · exact (HW1.out.set j hlt (.string (markS (k + j)))).congr (fun i _ => msS_succ f k j i)
      · exact (HK1.out.trans (kept_set w1 b (off + j) _)).mono (fun b2 _ h => by
          rcases h with (h | h) | h
          · exact h
          · exact h.elim
          · subst h; exact ⟨by omega, off, rfl⟩)
    · obtain rfl : j = n := by omega
      go_wp2
      go_ret
      exact ⟨rfl, HW.out.congr (fun i hi => by simp [msS, hi]), HK.out⟩

set_option maxRecDepth 100000 in
set_option maxHeartbeats 1000000 in
theorem markIntS (w : World) (B : Nat) (a : Option Addr) (n cap k : Nat) (f : Nat → Value) (S : Wr w B a n f) (hb : k + n ≤ 4611686018427387904) :
    Calls Tryz.prog 74 #[.slice a n cap, .int .i64 (k : Int)] w fun e w' => e = .returned (.int .i64 ((k + n : Nat) : Int)) ∧ Wr w' B a n (fun i => .int .i64 ((k + i : Nat) : Int)) ∧ Kept (foot a n) w w' := by
  have HS := hid S
  clear S
  go_enter Tryz.func74, Tryz.ntmps74
  go_wp2
  go_loopw [1, 5] (fun x i wr => ∃ j : Nat, j ≤ n ∧ i = .int .i64 (j : Int) ∧ x = .int .i64 ((k + j : Nat) : Int) ∧ Hid (Wr wr B a n (msI f k j)) ∧ Hid (Kept (foot a n) w wr)) (fun _ i _ => n - (intOf i).toNat)
  case atStart => exact ⟨0, Nat.zero_le _, rfl, rfl, HS.out.congr (fun i _ => by simp [msI]), Kept.refl _ _⟩
  case round =>
    obtain ⟨j, hj, rfl, rfl, HW, HK⟩ := hrel
    by_cases hlt : j < n
    · obtain ⟨b, off, rfl, hB, hc, hz⟩ := HW.out j hlt
      go_wp2
      refine ⟨⟨j + 1, by omega, by go_num, by go_num, ?_, ?_⟩, by simp [intOf]; omega⟩
      · exact (HW.out.set j hlt (.int .i64 ((k + j : Nat) : Int))).congr (fun i _ => msI_succ f k j i)
      · exact (HK.out.trans (kept_set wr b (off + j) _)).mono (fun b2 _ h => by
          rcases h with h | h
          · exact h
          · subst h; exact ⟨by omega, off, rfl⟩)
    · obtain rfl : j = n := by omega
      go_wp2
      go_ret
      exact ⟨rfl, HW.out.congr (fun i hi => by simp [msI, hi]), HK.out⟩

set_option maxRecDepth 100000 in
set_option maxHeartbeats 1000000 in
theorem heldStringS (w : World) (a : Option Addr) (n cap k : Nat) (S : Sl w a n (fun i => .string (markS (k + i)))) (hk : 0 < k) (hb : k + n ≤ 4611686018427387904) :
    Calls Tryz.prog 29 #[.slice a n cap, .int .i64 (k : Int)] w fun e w' => e = .returned (.int .i64 ((k + n : Nat) : Int)) ∧ Below w.heap.size w w' := by
  have HS := hid S
  clear S
  go_enter Tryz.func29, Tryz.ntmps29
  go_wp2
  go_loopw [1, 5] (fun x i wr => ∃ j : Nat, j ≤ n ∧ i = .int .i64 (j : Int) ∧ x = .int .i64 ((k + j : Nat) : Int) ∧ Hid (Below w.heap.size w wr)) (fun _ i _ => n - (intOf i).toNat)
  case atStart => exact ⟨0, Nat.zero_le _, rfl, rfl, Below.refl _ _⟩
  case round =>
    obtain ⟨j, hj, rfl, rfl, HB⟩ := hrel
    by_cases hlt : j < n
    · obtain ⟨b, off, rfl, hc⟩ := (HS.out.below HB.out) j hlt
      replace hc : wr.cell? ⟨b, off + j, none⟩ = some (.string (markS (k + j))) := hc
      have hlb := World.block_lt_of_cell? wr _ hc
      have he' : ((markS (k + j)).toList == (markS (k + j)).toList) = true := Own.eqS_yes rfl
      go_wp2
      go_region_with (go_at_call 77; refine (markText (k + j) _ (by omega) (by omega)).mono ?_; rintro e w1 ⟨rfl, b1'⟩; have b1 := undrew b1'; have hc1 := (b1.cell (p := ⟨b, off + j, none⟩) hlb).trans hc)
      all_goals (have HB1 := hid (HB.out.trans (b1.mono HB.out.size)); clear b1 b1' hc hc1; go_wp2)
      all_goals exact ⟨⟨j + 1, by omega, by go_num, by go_num, HB1⟩, by simp [intOf]; omega⟩
    · obtain rfl : j = n := by omega
      go_wp2
      go_ret
      exact ⟨rfl, HB.out⟩

end Go.Proofs.YtjlkighikfgaeaaGreatDoor.Mem

namespace Go.Proofs.YtjlkighikfgaeaaGreatDoor.Rd
open Go.RowKit Go.Proofs.YtjlkighikfgaeaaGreatDoor.Mem Go.Proofs.YtjlkighikfgaeaaGreatDoor.Sec Classical
set_option linter.unusedVariables false

theorem nums_one {R : ByteArray → Int × Nat} {s : ByteArray} {i : Nat} : nums R s i 1 = if (R (rest s i)).2 = 0 then none else some ([(R (rest s i)).1], i + (R (rest s i)).2) := nums_step (l := []) (e := i) rfl

theorem none_row (w : World) (B : Nat) (b : Option Addr) : Ir w B (.slice b 0 0) [] := Or.inl ⟨b, rfl, rfl, rfl⟩

set_option maxRecDepth 100000 in
set_option maxHeartbeats 2000000 in
theorem sReadFrees (R : ByteArray → Int × Nat) (hR : Reads R) (s : ByteArray) (hs : s.size ≤ 1048576) (w : World) :
    Calls Tryz.prog 47 #[.string s] w fun e w' => FreesOut R s w w' e := by
  have HR := hid hR
  have hRV := hR (rest s 5) (by rw [rest_size]; unfold maxLen; omega)
  have hx0 := hRV.x0
  have hle := hRV.le
  rw [rest_size] at hle
  clear hR hRV
  go_enter Tryz.func47, Tryz.ntmps47
  go_wp2_with fail
  refine (l4Vars R HR.out s hs 5 1 (by decide) (by decide) w).mono ?_
  rintro e w1 ⟨hg, b1⟩
  have HB1 := hid b1
  clear b1
  rw [nums_one] at hg
  by_cases hq : (R (rest s 5)).2 = 0
  · rw [if_pos hq] at hg
    obtain ⟨v, rfl⟩ := hg
    have HN : Hid (readFrees R s = none) := by unfold Hid readFrees freesNums; rw [if_pos (Or.inl hq)]
    have HBf := hid (HB1.out.alloc HB1.out.size (.cells #[] 3))
    clear hq hx0 hle
    go_wp2
    go_ret2
    exact ⟨_, [], false, Or.inr ⟨HN.out, rfl, rfl⟩, rfl, none_row _ _ _, HBf.out⟩
  · rw [if_neg hq] at hg
    obtain ⟨v, rfl, hI⟩ := hg
    have HF : Hid (∀ h : ¬ 12 < (R (rest s 5)).1, freesNums R s = nums R s (5 + (R (rest s 5)).2) (R (rest s 5)).1.toNat) := fun h => by
      unfold freesNums; rw [if_neg (by omega)]
    have HF2 : Hid (12 < (R (rest s 5)).1 → freesNums R s = none) := fun h => by unfold freesNums; rw [if_pos (Or.inr h)]
    generalize (R (rest s 5)).1 = x at *
    obtain ⟨a, cap, rfl, hW⟩ := hI.w
    obtain ⟨g, off, rfl, c0⟩ := hW.sl 0 (by simp)
    replace c0 : w1.cell? ⟨g, off + 0, none⟩ = some (.int .i64 x) := c0
    rw [Nat.add_zero] at c0
    have hi2 : 5 + (R (rest s 5)).2 ≤ 1048576 := by omega
    generalize 5 + (R (rest s 5)).2 = i2 at *
    have hi20 : (0 : Int) ≤ (i2 : Int) := by omega
    simp only [List.length_cons, List.length_nil]
    clear hI hW hq
    by_cases hm : 12 < x
    · have HN : Hid (readFrees R s = none) := by unfold Hid readFrees; rw [HF2.out hm]
      have HBf := hid (HB1.out.alloc HB1.out.size (.cells #[] 3))
      go_wp2
      go_ret2
      exact ⟨_, [], false, Or.inr ⟨HN.out, rfl, rfl⟩, rfl, none_row _ _ _, HBf.out⟩
    · have HFn := hid (HF.out hm)
      obtain ⟨n, rfl⟩ : ∃ n : Nat, x = (n : Int) := Int.eq_ofNat_of_zero_le hx0
      rw [Int.toNat_natCast] at HFn
      clear HF HF2 hx0
      go_wp2_with fail
      refine (l4Vars R HR.out s hs i2 n hi2 (by omega) w1).mono ?_
      rintro e w2 ⟨hg, b2⟩
      have HB2 := hid (HB1.out.trans (b2.mono HB1.out.size))
      have hs1 := HB1.out.size
      clear b2 c0
      cases hnu : nums R s i2 n with
      | none =>
        rw [hnu] at hg HFn
        obtain ⟨v2, rfl⟩ := hg
        have HN : Hid (readFrees R s = none) := by unfold Hid readFrees; rw [HFn.out]
        have HBf := hid (HB2.out.alloc HB2.out.size (.cells #[] 3))
        clear hnu
        go_wp2
        go_ret2
        exact ⟨_, [], false, Or.inr ⟨HN.out, rfl, rfl⟩, rfl, none_row _ _ _, HBf.out⟩
      | some p =>
        obtain ⟨l, z⟩ := p
        rw [hnu] at hg HFn
        obtain ⟨v2, rfl, hI⟩ := hg
        have hll : l.length ≤ 12 := by have := nums_len hnu; omega
        have hz0 : (0 : Int) ≤ (z : Int) := by omega
        have HI := hid (RowO.mono hI hs1)
        obtain ⟨a2, cap2, rfl, hW⟩ := hI.w
        have HS2 := hid hW.sl
        clear hnu hI hW
        go_wp2_with fail
        refine (sShowFrees w2 a2 cap2 l HS2.out (by omega)).mono ?_
        rintro e w3 ⟨rfl, b3⟩
        have HB3 := hid (HB2.out.trans (b3.mono HB2.out.size))
        have HI3 := hid (RowO.below HI.out b3)
        clear b3
        by_cases hsh : showFrees l = s
        · have HN2 : Hid (readFrees R s = some l) := by unfold Hid readFrees; rw [HFn.out]; simp only []; rw [if_pos hsh]
          have hne := Own.eqS_yes hsh
          generalize showFrees l = sh at *
          go_wp2
          go_ret2
          exact ⟨_, l, true, Or.inl ⟨HN2.out, rfl⟩, rfl, HI3.out, HB3.out⟩
        · have HN2 : Hid (readFrees R s = none) := by unfold Hid readFrees; rw [HFn.out]; simp only []; rw [if_neg hsh]
          have hne := Own.eqS_no hsh
          have HBf := hid (HB3.out.alloc HB3.out.size (.cells #[] 3))
          generalize showFrees l = sh at *
          go_wp2
          go_ret2
          exact ⟨_, [], false, Or.inr ⟨HN2.out, rfl, rfl⟩, rfl, none_row _ _ _, HBf.out⟩

/-- Two answers are alike. -/
theorem out_alike {R : ByteArray → Int × Nat} {s : ByteArray} {l l' : List Int} {ok ok' : Bool} (h : readFrees R s = some l ∧ ok = true ∨ readFrees R s = none ∧ l = [] ∧ ok = false) (h' : readFrees R s = some l' ∧ ok' = true ∨ readFrees R s = none ∧ l' = [] ∧ ok' = false) : l' = l ∧ ok' = ok := by
  rcases h with ⟨a, b⟩ | ⟨a, b, c⟩ <;> rcases h' with ⟨a', b'⟩ | ⟨a', b', c'⟩
  · rw [a] at a'; cases a'; exact ⟨rfl, by rw [b, b']⟩
  · rw [a] at a'; cases a'
  · rw [a] at a'; cases a'
  · exact ⟨by rw [b, b'], by rw [c, c']⟩

theorem out_len {R : ByteArray → Int × Nat} (hR : Reads R) {s : ByteArray} (hs : s.size ≤ 1048576) {l : List Int} {ok : Bool} (h : readFrees R s = some l ∧ ok = true ∨ readFrees R s = none ∧ l = [] ∧ ok = false) : l.length ≤ 12 := by
  rcases h with ⟨a, _⟩ | ⟨_, b, _⟩
  · unfold readFrees at a
    cases hf : freesNums R s with
    | none => rw [hf] at a; cases a
    | some p =>
      obtain ⟨m, z⟩ := p
      rw [hf] at a
      simp only [] at a
      split at a
      · cases a; exact frees_short_len hR hs hf
      · cases a
  · rw [b]; simp

end Go.Proofs.YtjlkighikfgaeaaGreatDoor.Rd

namespace Go.Proofs.YtjlkighikfgaeaaGreatDoor.Sec
open Go.RowKit Go.Proofs.YtjlkighikfgaeaaGreatDoor.Mem
set_option linter.unusedVariables false

/-- A group's value. -/
def gpV (h e : Int) (a : Option Addr) (n cap : Nat) : Value := .agg #[.int .i64 h, .int .i64 e, .slice a n cap]

theorem groupOk_no1 (h e : Int) (l : List Int) (x : lsOk h e = false) : groupOk h e l = false := by unfold groupOk; rw [x]; rfl
theorem groupOk_no2 (h e : Int) (l : List Int) (x : ¬ l.length = 6) : groupOk h e l = false := by unfold groupOk; rw [decide_eq_false x]; cases lsOk h e <;> rfl
theorem groupOk_more (h e : Int) (l : List Int) (x : lsOk h e = true) (y : l.length = 6) : groupOk h e l = between 0 16 l := by unfold groupOk; rw [x, decide_eq_true y]; rfl
theorem group_no {h e : Int} {l : List Int} (x : groupOk h e l = false) : showGroup h e l = ⟨#[]⟩ := by unfold showGroup; rw [x]; rfl
theorem group_yes {h e : Int} {l : List Int} (x : groupOk h e l = true) : summed (⟨#[103]⟩ ++ showLs h e ++ vrs 0 l) = showGroup h e l := by unfold showGroup; rw [x]; rfl
theorem group_parts {h e : Int} {l : List Int} (x : groupOk h e l = true) : lsOk h e = true ∧ l.length = 6 ∧ between 0 16 l = true := by
  unfold groupOk at x
  rw [Bool.and_eq_true, Bool.and_eq_true] at x
  exact ⟨x.1.1, of_decide_eq_true x.1.2, x.2⟩

theorem group_size (h e : Int) (l : List Int) (x : l.length = 6) : ((⟨#[103]⟩ : ByteArray) ++ showLs h e ++ vrs 0 l).size ≤ 1048576 := by
  have h1 := showLs_size h e
  have h2 := vrs_size 0 l
  rw [ByteArray.size_append, ByteArray.size_append]
  have : (⟨#[103]⟩ : ByteArray).size = 1 := rfl
  omega

set_option maxRecDepth 100000 in
set_option maxHeartbeats 1000000 in
theorem l4GroupOk (w : World) (h e : Int) (a : Option Addr) (cap : Nat) (l : List Int) (S : Ints w a l) (hl : l.length ≤ 1048576) :
    Calls Tryz.prog 101 #[gpV h e a l.length cap] w fun r w' => r = .returned (.bool (groupOk h e l)) ∧ Below w.heap.size w w' := by
  unfold gpV
  obtain ⟨wa, hwa, ez, A0, B0⟩ := one_new w [.int .i64 h, .int .i64 e, .slice a l.length cap] 88
  have k0 := A0.c 0 rfl
  have k1 := A0.c 1 rfl
  have k2 := A0.c 2 rfl
  have HA := hid A0
  have HB := hid B0
  have HS := hid S
  clear A0 B0 S
  go_enter Tryz.func101, Tryz.ntmps101
  go_wp2_with fail
  refine (l4Lease h e _).mono ?_
  rintro r w2 ⟨rfl, b2⟩
  replace k2 := (HA.out.below b2 HA.out.lt).c 2 rfl
  have HB2 := hid (HB.out.trans (b2.mono HB.out.size))
  clear b2 hwa k0 k1 HA
  cases hz : lsOk h e with
  | false =>
    have HN := hid (groupOk_no1 h e l hz)
    clear hz
    go_wp2
    go_ret
    exact ⟨by rw [HN.out]; rfl, HB2.out⟩
  | true =>
    by_cases h6 : (l.length : Int) = 6
    · have HE := hid (groupOk_more h e l hz (by omega))
      have hd : ((l.length : Int) != 6) = false := by simpa using h6
      clear hz h6
      go_wp2
      go_loop [3] (fun i => ∃ k : Nat, k ≤ l.length ∧ i = .int .i64 (k : Int) ∧ Hid (between 0 16 (l.take k) = true)) (fun i => l.length - (intOf i).toNat)
      case atStart => exact ⟨0, Nat.zero_le _, rfl, rfl⟩
      case round =>
        obtain ⟨k, hk, rfl, HK⟩ := hrel
        by_cases hlt : k < l.length
        · obtain ⟨b, off, rfl, hc⟩ := (HS.out.below HB2.out) k hlt
          replace hc : w2.cell? ⟨b, off + k, none⟩ = some (.int .i64 (l.getD k 0)) := hc
          have HT := hid (between_take 0 16 l k hlt)
          have HN := hid (between_no 0 16 l k hlt)
          generalize l.getD k 0 = x at *
          by_cases hx : 0 ≤ x ∧ x ≤ 16
          · have hx' := decide_eq_true hx
            have HR : Hid (between 0 16 (l.take (k + 1)) = true) := by rw [Hid, HT.out, HK.out, hx']; rfl
            clear hx
            go_wp2_with fail
            refine (hx' ▸ l1In x 0 16 _).mono ?_
            rintro r w3 ⟨rfl, hw⟩
            subst hw
            go_wp2
            exact ⟨⟨k + 1, by omega, by go_num, HR⟩, by simp [intOf]; omega⟩
          · have hx' := decide_eq_false hx
            have HR := hid (HN.out hx)
            clear hx
            go_wp2_with fail
            refine (hx' ▸ l1In x 0 16 _).mono ?_
            rintro r w3 ⟨rfl, hw⟩
            subst hw
            go_wp2
            go_ret
            exact ⟨by rw [HE.out, HR.out]; rfl, HB2.out⟩
        · obtain rfl : k = l.length := by omega
          have HR : Hid (between 0 16 l = true) := by have := HK.out; rwa [List.take_length] at this
          go_wp2
          go_ret
          exact ⟨by rw [HE.out, HR.out]; rfl, HB2.out⟩
    · have HN := hid (groupOk_no2 h e l (by omega))
      clear hz
      go_wp2
      go_ret
      exact ⟨by rw [HN.out]; rfl, HB2.out⟩

set_option maxRecDepth 100000 in
set_option maxHeartbeats 1000000 in
theorem isGroup (w : World) (h e : Int) (a : Option Addr) (cap : Nat) (l : List Int) (S : Ints w a l) (hl : l.length ≤ 1048576) :
    Calls Tryz.prog 115 #[gpV h e a l.length cap] w fun r w' => r = .returned (.bool (groupOk h e l)) ∧ Below w.heap.size w w' := by
  unfold gpV
  obtain ⟨wa, hwa, ez, A0, B0⟩ := one_new w [.int .i64 h, .int .i64 e, .slice a l.length cap] 88
  have k0 := A0.c 0 rfl
  have k1 := A0.c 1 rfl
  have k2 := A0.c 2 rfl
  have HA := hid A0
  have HB := hid B0
  have HS := hid S
  clear A0 B0 S
  go_enter Tryz.func115, Tryz.ntmps115
  go_wp2_with fail
  refine (isLease h e _).mono ?_
  rintro r w2 ⟨rfl, b2⟩
  replace k2 := (HA.out.below b2 HA.out.lt).c 2 rfl
  have HB2 := hid (HB.out.trans (b2.mono HB.out.size))
  clear b2 hwa k0 k1 HA
  cases hz : lsOk h e with
  | false =>
    have HN := hid (groupOk_no1 h e l hz)
    clear hz
    go_wp2
    go_ret
    exact ⟨by rw [HN.out]; rfl, HB2.out⟩
  | true =>
    by_cases h6 : (l.length : Int) = 6
    · have HE := hid (groupOk_more h e l hz (by omega))
      have hd : ((l.length : Int) == 6) = true := by simpa using h6
      clear hz h6
      go_wp2_with fail
      refine (areFrom w2 a cap l 0 16 (HS.out.below HB2.out) hl).mono ?_
      rintro r w3 ⟨rfl, hw⟩
      subst hw
      generalize between 0 16 l = z at *
      go_wp2
      go_ret
      exact ⟨by rw [HE.out]; rfl, HB2.out⟩
    · have HN := hid (groupOk_no2 h e l (by omega))
      have hd : ((l.length : Int) == 6) = false := by simpa using h6
      clear hz
      go_wp2
      go_ret
      exact ⟨by rw [HN.out]; rfl, HB2.out⟩

set_option maxRecDepth 100000 in
set_option maxHeartbeats 1000000 in
theorem sShowGroup (w : World) (h e : Int) (a : Option Addr) (cap : Nat) (l : List Int) (S : Ints w a l) (hl : l.length ≤ 1048576) :
    Calls Tryz.prog 95 #[gpV h e a l.length cap] w fun r w' => r = .returned (.string (showGroup h e l)) ∧ Below w.heap.size w w' := by
  unfold gpV
  obtain ⟨wa, hwa, ez, A0, B0⟩ := one_new w [.int .i64 h, .int .i64 e, .slice a l.length cap] 88
  have k0 := A0.c 0 rfl
  have k1 := A0.c 1 rfl
  have k2 := A0.c 2 rfl
  have HA := hid A0
  have HB := hid B0
  have HS := hid S
  clear A0 B0 S
  go_enter Tryz.func95, Tryz.ntmps95
  go_wp2_with fail
  refine (l4GroupOk wa h e a cap l (HS.out.below HB.out) hl).mono ?_
  rintro r w2 ⟨rfl, b2⟩
  have HA2 := hid (HA.out.below b2 HA.out.lt)
  replace k0 := HA2.out.c 0 rfl
  replace k1 := HA2.out.c 1 rfl
  replace k2 := HA2.out.c 2 rfl
  have HB2 := hid (HB.out.trans (b2.mono HB.out.size))
  clear b2 hwa HA
  cases hf : groupOk h e l with
  | false =>
    have HN := hid (group_no hf)
    clear hf
    go_wp2
    go_ret
    exact ⟨Own.ret_str HN.out.symm, HB2.out⟩
  | true =>
    have HY := hid (group_yes hf)
    obtain ⟨p1, p2, p3⟩ := group_parts hf
    have HZ := hid (group_size h e l p2)
    have HV := hid (fun k => vrs_size 0 (l.take k))
    have hbd := ls_bd p1
    have z1 := showLs_size h e
    have h12 : l.length ≤ 12 := by omega
    clear hf p1 p2 p3
    go_wp2_with fail
    refine (l4ShowLease h e _ hbd.1 hbd.2).mono ?_
    rintro r w3 ⟨rfl, b3⟩
    have HA3 := hid (HA2.out.below b3 HA2.out.lt)
    have HB3 := hid (HB2.out.trans (b3.mono HB2.out.size))
    clear b3 k0 k1 k2 HA2
    generalize hp : (⟨#[103]⟩ : ByteArray) ++ showLs h e = p at *
    have zp : p.size ≤ 15 := by rw [← hp, ByteArray.size_append]; have : (⟨#[103]⟩ : ByteArray).size = 1 := rfl; omega
    go_wp2
    clear hp
    go_loopw [3, 4] (fun s i wr => ∃ k : Nat, k ≤ l.length ∧ i = .int .i64 (k : Int) ∧ s = .string (p ++ vrs 0 (l.take k)) ∧ Hid (Below w3.heap.size w3 wr)) (fun _ i _ => l.length - (intOf i).toNat)
    case atStart => exact ⟨0, Nat.zero_le _, rfl, by rw [show vrs 0 (l.take 0) = ⟨#[]⟩ from rfl, append_empty], Below.refl _ _⟩
    case round =>
      obtain ⟨k, hk, rfl, rfl, HB'⟩ := hrel
      have k2 := (HA3.out.below HB'.out HA3.out.lt).c 2 rfl
      have HBr := hid (HB3.out.trans (HB'.out.mono HB3.out.size))
      by_cases hlt : k < l.length
      · obtain ⟨b, off, rfl, hc⟩ := (HS.out.below HBr.out) k hlt
        replace hc : wr.cell? ⟨b, off + k, none⟩ = some (.int .i64 (l.getD k 0)) := hc
        have HT := hid (vrs_take 0 l k hlt)
        have hz := HV.out k
        have hzl : (l.take k).length ≤ k := List.length_take_le _ _
        generalize l.getD k 0 = x at *
        generalize vrs 0 (l.take k) = s at *
        have hps : (p ++ s).size ≤ 1000 := by rw [ByteArray.size_append]; omega
        have HAs := hid (append_assoc p s (vr (x - 0)))
        generalize p ++ s = q at *
        go_wp2_with fail
        refine (sVar x _).mono ?_
        rintro r w4 ⟨rfl, b4⟩
        have zx := vr_size x
        have HB4 := hid (HB'.out.trans (b4.mono HB'.out.size))
        clear b4 hc k2
        go_wp2
        exact ⟨⟨k + 1, by omega, by go_num, by rw [HT.out, ← HAs.out, Int.sub_zero], HB4⟩, by simp [intOf]; omega⟩
      · obtain rfl : k = l.length := by omega
        have HE : Hid (vrs 0 (l.take l.length) = vrs 0 l) := by rw [Hid, List.take_length]
        rw [HE.out]
        generalize p ++ vrs 0 l = q at *
        go_wp2_with fail
        refine (l4Sum q _ HZ.out).mono ?_
        rintro r w4 ⟨rfl, b4⟩
        have HB4 := hid (HBr.out.trans (b4.mono HBr.out.size))
        clear b4 k2
        go_wp2
        go_ret
        exact ⟨Own.ret_str HY.out, HB4.out⟩

set_option maxRecDepth 100000 in
set_option maxHeartbeats 1000000 in
theorem iShowGroup (w : World) (h e : Int) (a : Option Addr) (cap : Nat) (l : List Int) (S : Ints w a l) (hl : l.length ≤ 1048576) (T : Sums w) :
    Calls Tryz.prog 172 #[gpV h e a l.length cap] w fun r w' => r = .returned (.string (showGroup h e l)) ∧ Below w.heap.size w w' := by
  unfold gpV
  obtain ⟨wa, hwa, ez, A0, B0⟩ := one_new w [.int .i64 h, .int .i64 e, .slice a l.length cap] 88
  have k0 := A0.c 0 rfl
  have k1 := A0.c 1 rfl
  have k2 := A0.c 2 rfl
  have HA := hid A0
  have HB := hid B0
  have HS := hid S
  have HT := hid T
  clear A0 B0 S T
  go_enter Tryz.func172, Tryz.ntmps172
  go_wp2_with fail
  refine (isGroup wa h e a cap l (HS.out.below HB.out) hl).mono ?_
  rintro r w2 ⟨rfl, b2⟩
  have HA2 := hid (HA.out.below b2 HA.out.lt)
  replace k0 := HA2.out.c 0 rfl
  replace k1 := HA2.out.c 1 rfl
  replace k2 := HA2.out.c 2 rfl
  have HB2 := hid (HB.out.trans (b2.mono HB.out.size))
  have HT2 := hid (HT.out.below HB2.out)
  clear b2 hwa HA
  cases hf : groupOk h e l with
  | false =>
    have HN := hid (group_no hf)
    clear hf
    go_wp2
    go_ret
    exact ⟨Own.ret_str HN.out.symm, HB2.out⟩
  | true =>
    have HY := hid (group_yes hf)
    obtain ⟨p1, p2, p3⟩ := group_parts hf
    have HZ := hid (group_size h e l p2)
    have hbd := ls_bd p1
    have z1 := showLs_size h e
    have z2 := vrs_size 0 l
    have h12 : l.length ≤ 12 := by omega
    have HP := hid (between_getD p3)
    clear hf p1 p2 p3
    go_wp2
    replace k0 := BW.cell k0
    replace k1 := BW.cell k1
    replace k2 := BW.cell k2
    have hne : Nonempty (BW w2) := ⟨⟨w2, Below.refl _ _⟩⟩
    refine wp_region_bw (by kernel_rfl) (by kernel_rfl) ?_
    repeat (go_big_quiet_step (first
      | (go_at_call 194; refine bw_below (showNumbers _ a cap l 0 (HS.out.below (HB2.out.trans ((BW.bel _).mono HB2.out.size))) (by omega) (by decide) (fun k hk => by have := HP.out k hk; omega)))
      | (go_at_call 198; refine bw_below (showLease h e _ hbd.1 hbd.2))
      | (go_at_call 153; refine bw_below (withSum' _ _ HZ.out (HT2.out.below (BW.bel _))))))
    refine wpQuiet_nil ?_
    intro _ hw'
    obtain ⟨u, rfl⟩ := hw'
    have HU := hid (HB2.out.trans (u.bel.mono HB2.out.size))
    clear k0 k1 k2
    go_wp2
    go_ret
    exact ⟨Own.ret_str HY.out, HU.out⟩

end Go.Proofs.YtjlkighikfgaeaaGreatDoor.Sec

namespace Go.Proofs.YtjlkighikfgaeaaGreatDoor.Rd
open Go.RowKit Go.Proofs.YtjlkighikfgaeaaGreatDoor.Mem Go.Proofs.YtjlkighikfgaeaaGreatDoor.Sec
set_option linter.unusedVariables false

theorem Cur.drew {w : World} {c : Nat} {r : ByteArray} (h : Cur w c r) : Cur w.drew c r := h
theorem Lacks.drew {w : World} {u : TypeId} {pv : Value} (h : Lacks w u pv) : Lacks w.drew u pv := h
theorem kundrew {S : Nat → Prop} {w w' : World} (h : Kept S w.drew w') : Kept S w w' := ⟨h.os, h.tape, h.output, h.size, h.block⟩

/-- The numbers behind a lease: n of them from place i on. -/
theorem nums_split {R : ByteArray → Int × Nat} {s : ByteArray} {i : Nat} : ∀ {n : Nat} {x y : Int} {z : Nat}, nums R s i 2 = some ([x, y], z) → nums R s i (n + 2) = (nums R s z n).map (fun p => (x :: y :: p.1, p.2))
  | 0, x, y, z, h => by rw [h]; rfl
  | n + 1, x, y, z, h => by
    show nums R s i ((n + 2) + 1) = _
    conv => lhs; unfold nums
    rw [nums_split (n := n) h]
    conv => rhs; unfold nums
    cases nums R s z n with
    | none => rfl
    | some p =>
      simp only [Option.map_some, Option.bind_some]
      split <;> simp

set_option maxRecDepth 100000 in
set_option maxHeartbeats 2000000 in
theorem groupParts (R : ByteArray → Int × Nat) (hR : Reads R) (s : ByteArray) (hs : s.size ≤ 1048576) (i : Nat) (w : World) (c : Nat) (h : Cur w c (rest s i)) (u : TypeId) (pv : Value) (hL : Lacks w u pv) (hc : 1 < c) :
    Calls Tryz.prog 185 #[.pointer (some ⟨c, 0, none⟩)] w fun e w' => ((∃ x y l z a cap, nums R s i 8 = some (x :: y :: l, z) ∧ e = .returned (gpV (x - 1) y a l.length cap) ∧ Ir w' w.heap.size (.slice a l.length cap) l ∧ l.length = 6) ∨ (nums R s i 8 = none ∧ e = lack u pv)) ∧ Kept (fun b => b = c) w w' := by
  have HR := hid hR
  have HH := hid h
  have HL := hid hL
  have hlt := h.lt
  clear hR h hL
  go_enter Tryz.func185, Tryz.ntmps185
  go_wp2_with fail
  obtain ⟨wl, hwl, ez, A0, B0⟩ := one_new w [.int .i64 0, .int .i64 0, .slice none 0 0] 88
  simp only [hwl]
  have HA := hid A0
  have HKl : Hid (Kept (fun b => b = c) w wl) := (Kept.of_below B0)
  have HLl := hid (HL.out.kept (Kept.of_below (S := fun _ => False) B0) (fun x => x))
  have HHl := hid (HH.out.below B0)
  clear hwl A0 B0
  refine (lease R HR.out s hs i wl c HHl.out u pv HLl.out hc).mono ?_
  rintro e w1 (⟨x, y, z, hn, rfl, M1⟩ | ⟨hn, rfl, k1⟩)
  · have HN := hid (nums_split (n := 6) hn)
    have HM1 := hid M1
    have HL1 := hid (HLl.out.kept M1.2 (by omega))
    have HA1 := hid (HA.out.kept M1.2 (by omega))
    have HK1 : Hid (Kept (fun b => b = c) w w1) := (HKl.out.trans M1.2).mono (fun b _ x => by rcases x with x | x <;> exact x)
    have hs1 := M1.2.size
    clear M1 hn
    go_wp2
    obtain ⟨w2, hw2, ez2, L0, B2⟩ := one_new w1 [.int .i64 (x - 1), .int .i64 y] 47
    simp only [hw2]
    have HA2 := hid (HA1.out.below B2 HA1.out.lt)
    have HLb := hid L0
    have HC2 := hid (HM1.out.1.below B2)
    have HL2 := hid (HL1.out.kept (Kept.of_below (S := fun _ => False) B2) (fun x => x))
    have HK2 : Hid (Kept (fun b => b = c) w w2) := (HK1.out.trans (Kept.of_below (S := fun _ => False) B2)).mono (fun b _ x => by rcases x with x | x; exact x; cases x)
    have l0 := L0.c 0 rfl
    have l1 := L0.c 1 rfl
    clear hw2 L0 B2 HA1 HL1
    have hNM := numbers R HR.out s hs z 6 (by decide) 0 (by decide) w2.drew c HC2.out.drew u pv HL2.out.drew hc
    cases hnu : nums R s z 6 with
    | none =>
      rw [hnu] at HN hNM
      have HN8 : Hid (nums R s i 8 = none) := HN
      have hNM' : Calls Tryz.prog 188 #[.pointer (some ⟨c, 0, none⟩), .int .i64 6, .int .i64 0] w2.drew fun e w' => e = .panicked [{ v := .iface u pv, recovered := false }] ∧ Kept (fun b => b = c) w2.drew w' := hNM
      have HQ := hid hNM'
      clear hNM hNM' hnu HN
      have HKx : Hid (∀ w3, Kept (fun b => b = c) w2.drew w3 → Kept (fun b => b = c) w w3) := fun w3 k => (HK2.out.trans (kundrew k)).mono (fun b _ x => by rcases x with x | x <;> exact x)
      go_region_dies
      all_goals (refine HQ.out.mono ?_; rintro e w3 ⟨rfl, k3'⟩; exact ⟨rfl, Or.inr ⟨HN8.out, rfl⟩, HKx.out w3 k3'⟩)
    | some p =>
      obtain ⟨l, z2⟩ := p
      rw [hnu] at HN hNM
      have HN8 : Hid (nums R s i 8 = some (x :: y :: l, z2)) := HN
      have hl6 : l.length = 6 := nums_len hnu
      have HL6 := hid hl6
      have hNM' : Calls Tryz.prog 188 #[.pointer (some ⟨c, 0, none⟩), .int .i64 6, .int .i64 0] w2.drew fun e w' => ∃ a cap, e = .returned (.slice a l.length cap) ∧ Ir w' w2.heap.size (.slice a l.length cap) l ∧ Kept (fun b => b = c) w2.drew w' := hNM.mono (fun e w' ⟨hg, k⟩ => by
        obtain ⟨v, rfl, hI, _⟩ := hg
        rw [show l.map (· + 0) = l by simp] at hI
        obtain ⟨a, cap, rfl, _⟩ := hI.w
        exact ⟨a, cap, rfl, hI, k⟩)
      have HQ := hid hNM'
      clear hNM hNM' hnu HN hl6
      go_region_with (first
        | (go_at_call 188; refine HQ.out.mono ?_; rintro e w3 ⟨a, cap, rfl, hI3, k3'⟩; have k3 := kundrew k3'; have hr0 := (HA2.out.kept k3 (by omega)).c 0 rfl; have hr1 := (HA2.out.kept k3 (by omega)).c 1 rfl; have hr2 := (HA2.out.kept k3 (by omega)).c 2 rfl; have fr0 := (HA2.out.kept k3 (by omega)).f 0; have fr1 := (HA2.out.kept k3 (by omega)).f 1; have fr2 := (HA2.out.kept k3 (by omega)).f 2; have q0 := (HLb.out.kept k3 (by omega)).c 0 rfl; have q1 := (HLb.out.kept k3 (by omega)).c 1 rfl))
      all_goals (have HKf : Kept (fun b => b = c) w (((w3.setCell ⟨w.heap.size, 0, none⟩ (.int .i64 (x - 1))).setCell ⟨w.heap.size, 1, none⟩ (.int .i64 y)).setCell ⟨w.heap.size, 2, none⟩ (.slice a l.length cap)) := ((((HK2.out.trans k3).trans (kept_set _ _ _ _)).trans (kept_set _ _ _ _)).trans (kept_set _ _ _ _)).mono (fun b hb x => by rcases x with (((x | x) | x) | x) | x; exact x; exact x; omega; omega; omega))
      all_goals (have HIf : Ir (((w3.setCell ⟨w.heap.size, 0, none⟩ (.int .i64 (x - 1))).setCell ⟨w.heap.size, 1, none⟩ (.int .i64 y)).setCell ⟨w.heap.size, 2, none⟩ (.slice a l.length cap)) w.heap.size (.slice a l.length cap) l := RowO.mono (RowO.kept hI3 (((kept_set _ _ _ _).trans (kept_set _ _ _ _)).trans (kept_set _ _ _ _)) (fun b hb x => by have := (RowO.lt hI3 hb).1; rcases x with (x | x) | x <;> omega)) (by omega))
      all_goals (have HRw := (((HA2.out.kept k3 (by omega)).set 0 (.int .i64 (x - 1))).set 1 (.int .i64 y)).set 2 (.slice a l.length cap))
      all_goals (have HKf' := hid HKf; have HIf' := hid HIf; have HRw' := hid HRw; clear HKf HIf HRw hr0 hr1 hr2 fr0 fr1 fr2 q0 q1 k3 k3' hI3)
      all_goals (go_wp2; refine bodyPost_ret (results_row rfl _ _ w.heap.size [.int .i64 (x - 1), .int .i64 y, .slice a l.length cap] _ rfl HRw'.out Tryz.underlying88 rfl (by kernel_rfl)) rfl ?_; exact ⟨Or.inl ⟨x, y, l, z2, a, cap, HN8.out, rfl, HIf'.out, HL6.out⟩, HKf'.out⟩)
  · have HN8 : Hid (nums R s i 8 = none) := nums_none (k := 2) hn 6
    have HK1 : Hid (Kept (fun b => b = c) w w1) := (HKl.out.trans k1).mono (fun b _ x => by rcases x with x | x <;> exact x)
    clear hn k1
    unfold lack
    go_wp2
    exact ⟨rfl, Or.inr ⟨HN8.out, rfl⟩, HK1.out⟩

end Go.Proofs.YtjlkighikfgaeaaGreatDoor.Rd

namespace Go.Proofs.YtjlkighikfgaeaaGreatDoor.Rd
open Go.RowKit Go.Proofs.YtjlkighikfgaeaaGreatDoor.Mem Go.Proofs.YtjlkighikfgaeaaGreatDoor.Sec
set_option linter.unusedVariables false

/-- What a group's sector is read as. -/
def readGroup (R : ByteArray → Int × Nat) (s : ByteArray) : Option (Int × Int × List Int) :=
  match nums R s 5 8 with
  | some (x :: y :: l, _) => if showGroup (x - 1) y l = s then some (x - 1, y, l) else none
  | _ => none

theorem readGroup_short (R : ByteArray → Int × Nat) (hR : Reads R) (s : ByteArray) (h : s.size ≤ 5) (hs : s.size ≤ 1048576) : readGroup R s = none := by
  unfold readGroup; rw [nums_short R hR s h hs 7]

set_option maxRecDepth 100000 in
set_option maxHeartbeats 1000000 in
theorem gcatch_some (p q : Nat) (u : TypeId) (pv : Value) (older : List PanicEntry) (w : World) (a0 a1 a2 b0 : Value) (hp : Row w p [a0, a1, a2]) (hq : Row w q [b0]) (hpq : p ≠ q) :
    CallsD Tryz.prog 204 #[.pointer (some ⟨p, 0, none⟩), .pointer (some ⟨q, 0, none⟩)] (.panicking ({ v := .iface u pv, recovered := false } :: older)) w fun e u' w' =>
      e = .returned (.tuple #[]) ∧ u' = .panicking ({ v := .iface u pv, recovered := true } :: older) ∧ Row w' p [.int .i64 0, .int .i64 0, .slice none 0 0] ∧ Row w' q [.bool false] ∧ Kept (fun b => b = p ∨ b = q) w w' := by
  refine callsD_of_wpS Tryz.func204 rfl fun c₀ cs hu => ?_
  obtain ⟨wl, hwl, ez, Z0, B0⟩ := one_new w [.int .i64 0, .int .i64 0, .slice none 0 0] 88
  have hpl := hp.lt
  have hql := hq.lt
  have P0 := hp.below B0 hp.lt
  have Q0 := hq.below B0 hq.lt
  have z0 := Z0.c 0 rfl
  have z1 := Z0.c 1 rfl
  have z2 := Z0.c 2 rfl
  have p0 := P0.c 0 rfl
  have p1 := P0.c 1 rfl
  have p2 := P0.c 2 rfl
  have q0 := Q0.c 0 rfl
  have f0 := P0.f 0
  have f1 := P0.f 1
  have f2 := P0.f 2
  have g0 := Q0.f 0
  have HP := hid ((((P0.set 0 (.int .i64 0)).set 1 (.int .i64 0)).set 2 (.slice none 0 0)).other (p := ⟨q, 0, none⟩) (by show p ≠ q; exact hpq) (.bool false))
  have HQ := hid ((((Q0.other (p := ⟨p, 0, none⟩) (by show q ≠ p; exact fun e => hpq e.symm) (.int .i64 0)).other (p := ⟨p, 1, none⟩) (by show q ≠ p; exact fun e => hpq e.symm) (.int .i64 0)).other (p := ⟨p, 2, none⟩) (by show q ≠ p; exact fun e => hpq e.symm) (.slice none 0 0)).set 0 (.bool false))
  have HK : Hid (Kept (fun b => b = p ∨ b = q) w ((((wl.setCell ⟨p, 0, none⟩ (.int .i64 0)).setCell ⟨p, 1, none⟩ (.int .i64 0)).setCell ⟨p, 2, none⟩ (.slice none 0 0)).setCell ⟨q, 0, none⟩ (.bool false))) :=
    (((((Kept.of_below (S := fun _ => False) B0).trans (kept_set _ _ _ _)).trans (kept_set _ _ _ _)).trans (kept_set _ _ _ _)).trans (kept_set _ _ _ _)).mono (fun b _ x => by rcases x with (((x | x) | x) | x) | x; cases x; exact Or.inl x; exact Or.inl x; exact Or.inl x; exact Or.inr x)
  clear hp hq P0 Q0 Z0 B0
  apply wpS_seq
  apply wpS_region
  simp [wpOpsS, go_sem, recoverD, hu, Tryz.ntmps204, Exit.thenS]
  refine wpS_cond (t := true) (by simp [Act.eval, Array.replicate]) ?_
  simp only [if_true]
  refine wpS_of_wp ?_
  go_wp2
  simp [bodyPostS, results, Tryz.results204]
  exact ⟨HP.out, HQ.out, HK.out⟩

set_option maxRecDepth 100000 in
set_option maxHeartbeats 1000000 in
theorem gcatch_none (p q : Addr) (w : World) :
    CallsD Tryz.prog 204 #[.pointer (some p), .pointer (some q)] .returning w fun e u' w' => e = .returned (.tuple #[]) ∧ u' = .returning ∧ w' = w := by
  refine callsD_of_wpS Tryz.func204 rfl fun c₀ cs hu => ?_
  apply wpS_seq
  apply wpS_region
  simp [wpOpsS, go_sem, recoverD, hu, Tryz.ntmps204, Exit.thenS]
  refine wpS_cond (t := false) (by simp [Act.eval, Array.replicate]) ?_
  simp only [Bool.false_eq_true, if_false]
  refine wpS_of_wp (wp_skip ?_)
  cases c₀
  simp_all [bodyPostS, results, Tryz.results204]

/-- What is read, and what is told of it. -/
def GroupIs (R : ByteArray → Int × Nat) (s : ByteArray) (h e : Int) (l : List Int) (ok : Bool) : Prop := readGroup R s = some (h, e, l) ∧ l.length ≤ 12 ∧ ok = true ∨ readGroup R s = none ∧ h = 0 ∧ e = 0 ∧ l = [] ∧ ok = false

/-- What both sides answer: a list of its own, or none. -/
def GroupOut (R : ByteArray → Int × Nat) (s : ByteArray) (w w' : World) (r : Ending) : Prop :=
  ∃ h e l a cap ok, GroupIs R s h e l ok ∧ r = .returned (.tuple #[gpV h e a l.length cap, .bool ok]) ∧ Ir w' w.heap.size (.slice a l.length cap) l ∧ Below w.heap.size w w'

theorem gnone_row (w : World) (B : Nat) (b : Option Addr) : Ir w B (.slice b ([] : List Int).length 0) [] := Or.inl ⟨b, rfl, rfl, rfl⟩

set_option maxRecDepth 100000 in
set_option maxHeartbeats 2000000 in
theorem readKindGroup (R : ByteArray → Int × Nat) (hR : Reads R) (s : ByteArray) (hs : s.size ≤ 1048576) (w : World) (u : TypeId) (pv : Value) (hL : Lacks w u pv) (T : Sums w) :
    Calls Tryz.prog 184 #[.string s, .func (.func 185) #[] #[], .func (.func 172) #[] #[]] w fun e w' => GroupOut R s w w' e := by
  have hmf : ∀ (fn : Fn) (first cap : Array Value) (w : World), (Instr.makeFunc fn first cap).run Tryz.prog w = .ok (.func fn first cap) w := fun _ _ _ _ => rfl
  have HR := hid hR
  have HL := hid hL
  have HT := hid T
  clear hR hL T
  go_enter_defers Tryz.func184, Tryz.ntmps184
  go_wp2_with fail
  obtain ⟨wc, hwc, ec, A0, B0, C0, K0⟩ := three_any w [.int .i64 0, .int .i64 0, .slice none 0 0] [.bool false] [.string s] 88 4 176
  simp only [hwc]
  clear hwc
  have HA := hid A0
  have HBq := hid B0
  have HKc := hid K0
  have HLc := hid (HL.out.kept (Kept.of_below (S := fun _ => False) K0) (fun x => x))
  have HCu : Hid (Cur wc (w.heap.size + 1 + 1) s) := C0
  have hgl := HL.out.lt
  clear A0 B0 C0 K0
  by_cases h5 : (s.size : Int) < 5
  · have HN := hid (readGroup_short R HR.out s (by omega) hs)
    refine (take_no wc (w.heap.size + 1 + 1) s 5 HCu.out h5 u pv HLc.out).mono ?_
    rintro e w1 ⟨rfl, hw⟩
    obtain rfl := hw.symm
    unfold lack
    go_wp2
    refine leaves_cons (f := 204) (args := #[.pointer (some ⟨w.heap.size, 0, none⟩), .pointer (some ⟨w.heap.size + 1, 0, none⟩)]) (by simp) (by simp [go_sem]) ?_
    refine (gcatch_some w.heap.size (w.heap.size + 1) u pv [] _ _ _ _ _ HA.out HBq.out (by omega)).mono ?_
    rintro e u' w2 ⟨rfl, rfl, RA, RB, k2⟩
    refine ⟨_, results_two rfl _ w2 w.heap.size (w.heap.size + 1) _ _ rfl rfl (load_row RA Tryz.underlying88 rfl (by kernel_rfl)) (load_bool RB), ?_⟩
    exact ⟨0, 0, [], none, 0, false, Or.inr ⟨HN.out, rfl, rfl, rfl, rfl⟩, rfl, gnone_row _ _ _, HKc.out.trans (k2.below HKc.out.size (fun b hb x => by rcases x with x | x <;> omega))⟩
  · have h5n : 5 ≤ s.size := by omega
    have HRR : Hid (s.extract 5 s.size = rest s 5) := rfl
    refine (take_yes wc (w.heap.size + 1 + 1) s 5 HCu.out h5n hs).mono ?_
    rintro e w1 ⟨rfl, hw⟩
    have M1 : Moved wc w1 (w.heap.size + 1 + 1) (rest s 5) := by rw [hw, ← HRR.out]; exact moved_set HCu.out _
    have HA1 := hid (HA.out.kept M1.2 (by omega))
    have HB1 := hid (HBq.out.kept M1.2 (by omega))
    have HL1 := hid (HLc.out.kept M1.2 (by omega))
    have HM1 := hid M1
    clear hw M1
    go_wp2_with fail
    refine (groupParts R HR.out s hs 5 w1 (w.heap.size + 1 + 1) HM1.out.1 u pv HL1.out (by omega)).mono ?_
    rintro e w2 ⟨hg, k2⟩
    have HA2 := hid (HA1.out.kept k2 (by omega))
    have HB2 := hid (HB1.out.kept k2 (by omega))
    have k12 : Kept (fun b => b = w.heap.size + 1 + 1) wc w2 := (HM1.out.2.trans k2).mono (fun b _ x => by rcases x with x | x <;> exact x)
    have HBw : Hid (Below w.heap.size w w2) := HKc.out.trans (k12.below HKc.out.size (fun b hb x => by omega))
    have HT2 := hid (HT.out.below HBw.out)
    have hs2 : w.heap.size + 1 + 1 < w2.heap.size := by have := k12.size; omega
    have hs1 : w.heap.size + 1 + 1 < w1.heap.size := HM1.out.1.lt
    clear k2 k12 HM1 HL1 HA1 HB1
    rcases hg with ⟨x, y, l, z, a, cap, hn, rfl, hI, hl6⟩ | ⟨hn, rfl⟩
    · have HN := hid hn
      have hlen : l.length ≤ 12 := by omega
      have HI := hid hI
      have hrb : ∀ b, rb (.slice a l.length cap) = some b → w1.heap.size ≤ b := fun b hb => (RowO.lt HI.out hb).1
      obtain ⟨a', cap', ea, hW⟩ := hI.w
      cases ea
      have HS2 := hid hW.sl
      clear hn hI hW hl6
      have HV : Hid (gpV (x - 1) y a l.length cap = .agg #[.int .i64 (x - 1), .int .i64 y, .slice a l.length cap]) := rfl
      rw [HV.out]
      go_wp2_with fail
      obtain ⟨w3, hw3, ez3, D3, B3⟩ := one_new w2 [.int .i64 (x - 1), .int .i64 y, .slice a l.length cap] 88
      simp only [hw3]
      have HA3 := hid (HA2.out.below B3 HA2.out.lt)
      have HB3 := hid (HB2.out.below B3 HB2.out.lt)
      have HD3 := hid D3
      have HI3 := hid (RowO.below HI.out B3)
      have HS3 := hid (HS2.out.below B3)
      have HBw3 := hid (HBw.out.trans (B3.mono HBw.out.size))
      have HT3 := hid (HT2.out.below B3)
      clear hw3 D3 B3 HA2 HB2 HBw HT2 HI HS2
      refine (iShowGroup w3 (x - 1) y a cap l HS3.out (by omega) HT3.out).mono ?_
      rintro e w4 ⟨rfl, b4⟩
      have HA4 := hid (HA3.out.below b4 HA3.out.lt)
      have HB4 := hid (HB3.out.below b4 HB3.out.lt)
      have HD4 := hid (HD3.out.below b4 HD3.out.lt)
      have HI4 := hid (RowO.below HI3.out b4)
      have HBw4 := hid (HBw3.out.trans (b4.mono HBw3.out.size))
      clear b4 HA3 HB3 HD3 HBw3 HT3 HI3 HS3
      have a0 := HA4.out.c 0 rfl
      have a1 := HA4.out.c 1 rfl
      have a2 := HA4.out.c 2 rfl
      have q0 := HB4.out.c 0 rfl
      have d0 := HD4.out.c 0 rfl
      have d1 := HD4.out.c 1 rfl
      have d2 := HD4.out.c 2 rfl
      have fa0 := HA4.out.f 0
      have fa1 := HA4.out.f 1
      have fa2 := HA4.out.f 2
      have fq := HB4.out.f 0
      by_cases hsh : showGroup (x - 1) y l = s
      · have HN2 : Hid (readGroup R s = some (x - 1, y, l)) := by unfold Hid readGroup; rw [HN.out]; simp only []; rw [if_pos hsh]
        have hne := Own.eqS_yes hsh
        generalize showGroup (x - 1) y l = sh at *
        have HRA := hid (((((HA4.out).set 0 (.int .i64 (x - 1))).set 1 (.int .i64 y)).set 2 (.slice a l.length cap)).other (p := ⟨w.heap.size + 1, 0, none⟩) (by show w.heap.size ≠ w.heap.size + 1; omega) (.bool true))
        have HRB := hid (((((HB4.out).other (p := ⟨w.heap.size, 0, none⟩) (by show w.heap.size + 1 ≠ w.heap.size; omega) (.int .i64 (x - 1))).other (p := ⟨w.heap.size, 1, none⟩) (by show w.heap.size + 1 ≠ w.heap.size; omega) (.int .i64 y)).other (p := ⟨w.heap.size, 2, none⟩) (by show w.heap.size + 1 ≠ w.heap.size; omega) (.slice a l.length cap)).set 0 (.bool true))
        have HBf := hid (below_set (below_set (below_set (below_set (HBw4.out) w.heap.size 0 (.int .i64 (x - 1)) (Nat.le_refl _)) w.heap.size 1 (.int .i64 y) (Nat.le_refl _)) w.heap.size 2 (.slice a l.length cap) (Nat.le_refl _)) (w.heap.size + 1) 0 (.bool true) (by omega))
        have HIf : Hid (Ir (((((w4).setCell ⟨w.heap.size, 0, none⟩ (.int .i64 (x - 1))).setCell ⟨w.heap.size, 1, none⟩ (.int .i64 y)).setCell ⟨w.heap.size, 2, none⟩ (.slice a l.length cap)).setCell ⟨w.heap.size + 1, 0, none⟩ (.bool true)) w.heap.size (.slice a l.length cap) l) := RowO.mono (RowO.kept HI4.out ((((kept_set _ _ _ _).trans (kept_set _ _ _ _)).trans (kept_set _ _ _ _)).trans (kept_set _ _ _ _)) (fun b hb x => by have := hrb b hb; rcases x with ((x | x) | x) | x <;> omega)) (by omega)
        go_wp2
        refine leaves_cons (f := 204) (args := #[.pointer (some ⟨w.heap.size, 0, none⟩), .pointer (some ⟨w.heap.size + 1, 0, none⟩)]) (by simp) (by simp [go_sem]) ?_
        refine (gcatch_none ⟨w.heap.size, 0, none⟩ ⟨w.heap.size + 1, 0, none⟩ _).mono ?_
        rintro e u' w5 ⟨rfl, rfl, rfl⟩
        refine ⟨_, results_two rfl _ _ w.heap.size (w.heap.size + 1) _ _ rfl rfl (load_row HRA.out Tryz.underlying88 rfl (by kernel_rfl)) (load_bool HRB.out), ?_⟩
        exact ⟨x - 1, y, l, a, cap, true, Or.inl ⟨HN2.out, hlen, rfl⟩, rfl, HIf.out, HBf.out⟩
      · have HN2 : Hid (readGroup R s = none) := by unfold Hid readGroup; rw [HN.out]; simp only []; rw [if_neg hsh]
        have hne := Own.eqS_no hsh
        generalize showGroup (x - 1) y l = sh at *
        have HRA := hid (((((HA4.out).set 0 (.int .i64 0)).set 1 (.int .i64 0)).set 2 (.slice none 0 0)).other (p := ⟨w.heap.size + 1, 0, none⟩) (by show w.heap.size ≠ w.heap.size + 1; omega) (.bool false))
        have HRB := hid (((((HB4.out).other (p := ⟨w.heap.size, 0, none⟩) (by show w.heap.size + 1 ≠ w.heap.size; omega) (.int .i64 0)).other (p := ⟨w.heap.size, 1, none⟩) (by show w.heap.size + 1 ≠ w.heap.size; omega) (.int .i64 0)).other (p := ⟨w.heap.size, 2, none⟩) (by show w.heap.size + 1 ≠ w.heap.size; omega) (.slice none 0 0)).set 0 (.bool false))
        have HBf := hid (below_set (below_set (below_set (below_set (HBw4.out) w.heap.size 0 (.int .i64 0) (Nat.le_refl _)) w.heap.size 1 (.int .i64 0) (Nat.le_refl _)) w.heap.size 2 (.slice none 0 0) (Nat.le_refl _)) (w.heap.size + 1) 0 (.bool false) (by omega))
        go_wp2
        refine leaves_cons (f := 204) (args := #[.pointer (some ⟨w.heap.size, 0, none⟩), .pointer (some ⟨w.heap.size + 1, 0, none⟩)]) (by simp) (by simp [go_sem]) ?_
        refine (gcatch_none ⟨w.heap.size, 0, none⟩ ⟨w.heap.size + 1, 0, none⟩ _).mono ?_
        rintro e u' w5 ⟨rfl, rfl, rfl⟩
        refine ⟨_, results_two rfl _ _ w.heap.size (w.heap.size + 1) _ _ rfl rfl (load_row HRA.out Tryz.underlying88 rfl (by kernel_rfl)) (load_bool HRB.out), ?_⟩
        exact ⟨0, 0, [], none, 0, false, Or.inr ⟨HN2.out, rfl, rfl, rfl, rfl⟩, rfl, gnone_row _ _ _, HBf.out⟩
    · have HN : Hid (readGroup R s = none) := by unfold Hid readGroup; rw [hn]
      clear hn
      unfold lack
      go_wp2
      refine leaves_cons (f := 204) (args := #[.pointer (some ⟨w.heap.size, 0, none⟩), .pointer (some ⟨w.heap.size + 1, 0, none⟩)]) (by simp) (by simp [go_sem]) ?_
      refine (gcatch_some w.heap.size (w.heap.size + 1) u pv [] _ _ _ _ _ HA2.out HB2.out (by omega)).mono ?_
      rintro e u' w3 ⟨rfl, rfl, RA, RB, k3⟩
      refine ⟨_, results_two rfl _ w3 w.heap.size (w.heap.size + 1) _ _ rfl rfl (load_row RA Tryz.underlying88 rfl (by kernel_rfl)) (load_bool RB), ?_⟩
      exact ⟨0, 0, [], none, 0, false, Or.inr ⟨HN.out, rfl, rfl, rfl, rfl⟩, rfl, gnone_row _ _ _, HBw.out.trans (k3.below HBw.out.size (fun b hb x => by rcases x with x | x <;> omega))⟩

/-- A struct out of its own block, and a slot. -/
theorem gresults_one {P : Program} {fn : Func} {p q : Tmp} {ty : TypeId} (h : fn.results = #[.cell p ty, .tmp q]) (tmps : Array Value) (w : World) (g : Nat) (v b : Value)
    (hp : tmps.getD p undef = .pointer (some ⟨g, 0, none⟩)) (hq : tmps.getD q undef = b) (h1 : (loadVar ty ⟨g, 0, none⟩).run P w = .ok v w) :
    (results fn tmps).run P w = .ok (.tuple #[v, b]) w := by
  rw [results_cell_tmp h, hp, hq]
  simp [asAddr, h1]

set_option maxRecDepth 100000 in
set_option maxHeartbeats 2000000 in
theorem iReadGroup (R : ByteArray → Int × Nat) (hR : Reads R) (s : ByteArray) (hs : s.size ≤ 1048576) (w : World) (u : TypeId) (pv : Value) (hL : Lacks w u pv) (T : Sums w) :
    Calls Tryz.prog 145 #[.string s] w fun e w' => GroupOut R s w w' e := by
  have HR := hid hR
  have HL := hid hL
  have HT := hid T
  clear hR hL T
  go_enter Tryz.func145, Tryz.ntmps145
  go_wp2_with fail
  obtain ⟨wc, hwc, ec, A0, K0⟩ := one_new w [.int .i64 0, .int .i64 0, .slice none 0 0] 88
  simp only [hwc]
  clear hwc
  have HA := hid A0
  have HK := hid K0
  clear A0 K0
  refine (readKindGroup R HR.out s hs wc u pv (HL.out.kept (Kept.of_below (S := fun _ => False) HK.out) (fun x => x)) (HT.out.below HK.out)).mono ?_
  rintro r w1 ⟨h, e, l, a, cap, ok, hi, rfl, hI, b1⟩
  have HIs := hid hi
  have HI := hid hI
  have HA1 := hid (HA.out.below b1 HA.out.lt)
  have HB1 := hid (HK.out.trans (b1.mono HK.out.size))
  clear hi hI b1 HA
  have a0 := HA1.out.c 0 rfl
  have a1 := HA1.out.c 1 rfl
  have a2 := HA1.out.c 2 rfl
  have f0 := HA1.out.f 0
  have f1 := HA1.out.f 1
  have f2 := HA1.out.f 2
  have HRA := hid (((HA1.out.set 0 (.int .i64 h)).set 1 (.int .i64 e)).set 2 (.slice a l.length cap))
  have HBf := hid (below_set (below_set (below_set HB1.out w.heap.size 0 (.int .i64 h) (Nat.le_refl _)) w.heap.size 1 (.int .i64 e) (Nat.le_refl _)) w.heap.size 2 (.slice a l.length cap) (Nat.le_refl _))
  have HIf : Hid (Ir (((w1.setCell ⟨w.heap.size, 0, none⟩ (.int .i64 h)).setCell ⟨w.heap.size, 1, none⟩ (.int .i64 e)).setCell ⟨w.heap.size, 2, none⟩ (.slice a l.length cap)) w.heap.size (.slice a l.length cap) l) :=
    RowO.mono (RowO.kept HI.out (((kept_set _ _ _ _).trans (kept_set _ _ _ _)).trans (kept_set _ _ _ _)) (fun b hb x => by have := (RowO.lt HI.out hb).1; rcases x with (x | x) | x <;> omega)) (by omega)
  unfold gpV
  go_wp2
  refine bodyPost_ret (gresults_one rfl _ _ w.heap.size _ _ rfl rfl (load_row HRA.out Tryz.underlying88 rfl (by kernel_rfl))) rfl ?_
  exact ⟨h, e, l, a, cap, ok, HIs.out, rfl, HIf.out, HBf.out⟩

end Go.Proofs.YtjlkighikfgaeaaGreatDoor.Rd

namespace Go.Proofs.YtjlkighikfgaeaaGreatDoor.Rd
open Go.RowKit Go.Proofs.YtjlkighikfgaeaaGreatDoor.Mem Go.Proofs.YtjlkighikfgaeaaGreatDoor.Sec
set_option linter.unusedVariables false

theorem ir_cap {w : World} {B : Nat} {a : Option Addr} {n cap : Nat} {l : List Int} (h : Ir w B (.slice a n cap) l) : l.length ≤ cap := by
  rcases h with ⟨b, e, n0, _⟩ | ⟨⟨_, h⟩, a, c, e⟩
  · omega
  · rcases h with h | ⟨g, cp, cs, e2, _, _, h6, _⟩
    · simp_all
    · cases e2
      exact h6

theorem up1 {w : World} {p : Addr} {v : Value} (o : Obj) (h : w.cell? p = some v) : (w.alloc o).cell? p = some v := (((Below.refl _ w).alloc (Nat.le_refl _) o).cell (World.block_lt_of_cell? w _ h)).trans h
theorem up3 {w : World} {p : Addr} {v : Value} (o1 o2 o3 : Obj) (h : w.cell? p = some v) : (((w.alloc o1).alloc o2).alloc o3).cell? p = some v := up1 o3 (up1 o2 (up1 o1 h))

theorem row6 (w : World) (B cc : Nat) (d0 d1 d2 d3 d4 d5 : Int) (hB : B ≤ w.heap.size) (h : 6 ≤ cc + 1 ∧ cc + 1 ≤ maxLen) (n : Nat) (hn : n = w.heap.size) : Ir (w.alloc (.cells ((#[.int .i64 d0, .int .i64 d1, .int .i64 d2, .int .i64 d3, .int .i64 d4, .int .i64 d5] : Array Value) ++ Builtin.zeroCells #[.int .i64 0] (cc - 5)) 3)) B (.slice (some ⟨n, 0, none⟩) 6 (cc + 1)) [d0, d1, d2, d3, d4, d5] := by
  subst hn
  refine Or.inr ⟨⟨rfl, Or.inr ⟨w.heap.size, _, _, rfl, hB, heap_alloc_new w _, h.1, h.2, ?_, ?_⟩⟩, _, cc, rfl⟩
  · simp [size_zeroCells]
    omega
  · simp only [Array.toList_append]
    rfl

theorem rnew (w : World) (xs : List Value) (t : TypeId) (n : Nat) (hn : n = w.heap.size) : Row (w.alloc (.cells xs.toArray t)) n xs := by
  subst hn
  exact Row.new w xs t

/-- Behind the region: the box, the row, and what was there. -/
def Grp (w W : World) (bx rw cc : Nat) (x y : Int) (l : List Int) : Prop :=
  Row W bx [.int .i64 x, .int .i64 y, .slice (some ⟨rw, 0, none⟩) 6 (cc + 1)] ∧ Ir W w.heap.size (.slice (some ⟨rw, 0, none⟩) 6 (cc + 1)) l ∧ Row W w.heap.size [.int .i64 0, .int .i64 0, .slice none 0 0] ∧ Below w.heap.size w W ∧ w.heap.size < rw

theorem below3 {w w1 : World} (h : Below w.heap.size w w1) (o1 o2 o3 : Obj) : Below w.heap.size w (((w1.alloc o1).alloc o2).alloc o3).drew.drew :=
  (((h.alloc h.size o1).alloc (by have := h.size; simp; omega) o2).alloc (by have := h.size; simp; omega) o3).drew.drew

theorem grp1 {w w1 : World} (hA : Row w1 w.heap.size [.int .i64 0, .int .i64 0, .slice none 0 0]) (hB : Below w.heap.size w w1) (cc : Nat) (hc : 6 ≤ cc + 1 ∧ cc + 1 ≤ maxLen) (x y d0 d1 d2 d3 d4 d5 : Int) :
    Grp w ((((w1.alloc (.cells #[] 3)).alloc (.cells ((#[.int .i64 d0, .int .i64 d1, .int .i64 d2, .int .i64 d3, .int .i64 d4, .int .i64 d5] : Array Value) ++ Builtin.zeroCells #[.int .i64 0] (cc - 5)) 3)).alloc (.cells #[.int .i64 x, .int .i64 y, .slice (some ⟨w1.heap.size + 1, 0, none⟩) 6 (cc + 1)] 88)).drew.drew) (w1.heap.size + 1 + 1) (w1.heap.size + 1) cc x y [d0, d1, d2, d3, d4, d5] :=
  ⟨rnew ((w1.alloc (.cells #[] 3)).alloc (.cells ((#[.int .i64 d0, .int .i64 d1, .int .i64 d2, .int .i64 d3, .int .i64 d4, .int .i64 d5] : Array Value) ++ Builtin.zeroCells #[.int .i64 0] (cc - 5)) 3)) [.int .i64 x, .int .i64 y, .slice (some ⟨w1.heap.size + 1, 0, none⟩) 6 (cc + 1)] 88 _ (by simp), RowO.below (row6 (w1.alloc (.cells #[] 3)) w.heap.size cc d0 d1 d2 d3 d4 d5 (by have := hB.size; simp; omega) hc _ (by simp)) ((Below.refl _ _).alloc (Nat.le_refl _) _).drew.drew, ((hA.alloc _).alloc _).alloc _, below3 hB _ _ _, by have := hA.lt; omega⟩

theorem grp2 {w w1 : World} (hA : Row w1 w.heap.size [.int .i64 0, .int .i64 0, .slice none 0 0]) (hB : Below w.heap.size w w1) (cc : Nat) (hc : 6 ≤ cc + 1 ∧ cc + 1 ≤ maxLen) (x y d0 d1 d2 d3 d4 d5 : Int) :
    Grp w ((((w1.alloc (.cells #[] 3)).alloc (.cells #[.int .i64 x, .int .i64 y, .slice (some ⟨w1.heap.size + 1 + 1, 0, none⟩) 6 (cc + 1)] 88)).alloc (.cells ((#[.int .i64 d0, .int .i64 d1, .int .i64 d2, .int .i64 d3, .int .i64 d4, .int .i64 d5] : Array Value) ++ Builtin.zeroCells #[.int .i64 0] (cc - 5)) 3)).drew.drew) (w1.heap.size + 1) (w1.heap.size + 1 + 1) cc x y [d0, d1, d2, d3, d4, d5] :=
  ⟨(rnew (w1.alloc (.cells #[] 3)) [.int .i64 x, .int .i64 y, .slice (some ⟨w1.heap.size + 1 + 1, 0, none⟩) 6 (cc + 1)] 88 _ (by simp)).alloc _, row6 ((w1.alloc (.cells #[] 3)).alloc (.cells #[.int .i64 x, .int .i64 y, .slice (some ⟨w1.heap.size + 1 + 1, 0, none⟩) 6 (cc + 1)] 88)) w.heap.size cc d0 d1 d2 d3 d4 d5 (by have := hB.size; simp; omega) hc _ (by simp), ((hA.alloc _).alloc _).alloc _, below3 hB _ _ _, by have := hA.lt; omega⟩

theorem grp3 {w w1 : World} (hA : Row w1 w.heap.size [.int .i64 0, .int .i64 0, .slice none 0 0]) (hB : Below w.heap.size w w1) (cc : Nat) (hc : 6 ≤ cc + 1 ∧ cc + 1 ≤ maxLen) (x y d0 d1 d2 d3 d4 d5 : Int) :
    Grp w ((((w1.alloc (.cells #[.int .i64 x, .int .i64 y, .slice (some ⟨w1.heap.size + 1 + 1, 0, none⟩) 6 (cc + 1)] 88)).alloc (.cells #[] 3)).alloc (.cells ((#[.int .i64 d0, .int .i64 d1, .int .i64 d2, .int .i64 d3, .int .i64 d4, .int .i64 d5] : Array Value) ++ Builtin.zeroCells #[.int .i64 0] (cc - 5)) 3)).drew.drew) (w1.heap.size) (w1.heap.size + 1 + 1) cc x y [d0, d1, d2, d3, d4, d5] :=
  ⟨((rnew w1 [.int .i64 x, .int .i64 y, .slice (some ⟨w1.heap.size + 1 + 1, 0, none⟩) 6 (cc + 1)] 88 _ (by simp)).alloc _).alloc _, row6 ((w1.alloc (.cells #[.int .i64 x, .int .i64 y, .slice (some ⟨w1.heap.size + 1 + 1, 0, none⟩) 6 (cc + 1)] 88)).alloc (.cells #[] 3)) w.heap.size cc d0 d1 d2 d3 d4 d5 (by have := hB.size; simp; omega) hc _ (by simp), ((hA.alloc _).alloc _).alloc _, below3 hB _ _ _, by have := hA.lt; omega⟩

end Go.Proofs.YtjlkighikfgaeaaGreatDoor.Rd

namespace Go.Proofs.YtjlkighikfgaeaaGreatDoor.Rd
open Go.RowKit Go.Proofs.YtjlkighikfgaeaaGreatDoor.Mem Go.Proofs.YtjlkighikfgaeaaGreatDoor.Sec
set_option linter.unusedVariables false

set_option maxRecDepth 100000 in
set_option maxHeartbeats 4000000 in
theorem sReadGroup (R : ByteArray → Int × Nat) (hR : Reads R) (s : ByteArray) (hs : s.size ≤ 1048576) (w : World) :
    Calls Tryz.prog 49 #[.string s] w fun e w' => GroupOut R s w w' e := by
  have HR := hid hR
  clear hR
  go_enter Tryz.func49, Tryz.ntmps49
  go_wp2_with fail
  obtain ⟨wc, hwc, ec, A0, K0⟩ := one_new w [.int .i64 0, .int .i64 0, .slice none 0 0] 88
  simp only [hwc]
  clear hwc
  have HA := hid A0
  have HK := hid K0
  clear A0 K0
  refine (l4Vars R HR.out s hs 5 8 (by decide) (by decide) wc).mono ?_
  rintro e w1 ⟨hg, b1⟩
  have HA1 := hid (HA.out.below b1 HA.out.lt)
  have HB1 := hid (HK.out.trans (b1.mono HK.out.size))
  clear b1 HA HK
  cases hn : nums R s 5 8 with
  | none =>
    rw [hn] at hg
    obtain ⟨v, rfl⟩ := hg
    have HN : Hid (readGroup R s = none) := by unfold Hid readGroup; rw [hn]
    clear hn
    have a0 := HA1.out.c 0 rfl
    have a1 := HA1.out.c 1 rfl
    have a2 := HA1.out.c 2 rfl
    have f0 := HA1.out.f 0
    have f1 := HA1.out.f 1
    have f2 := HA1.out.f 2
    have HRA := hid (((HA1.out.set 0 (.int .i64 0)).set 1 (.int .i64 0)).set 2 (.slice none 0 0))
    have HBf := hid (below_set (below_set (below_set HB1.out w.heap.size 0 (.int .i64 0) (Nat.le_refl _)) w.heap.size 1 (.int .i64 0) (Nat.le_refl _)) w.heap.size 2 (.slice none 0 0) (Nat.le_refl _))
    go_wp2
    refine bodyPost_ret (gresults_one rfl _ _ w.heap.size _ _ rfl rfl (load_row HRA.out Tryz.underlying88 rfl (by kernel_rfl))) rfl ?_
    exact ⟨0, 0, [], none, 0, false, Or.inr ⟨HN.out, rfl, rfl, rfl, rfl⟩, rfl, gnone_row _ _ _, HBf.out⟩
  | some p =>
    obtain ⟨l, z⟩ := p
    rw [hn] at hg
    obtain ⟨v, rfl, hI⟩ := hg
    have hl := nums_len hn
    have hbd := nums_bd HR.out (by unfold maxLen; omega) hn
    obtain ⟨a, cap, rfl, hW⟩ := hI.w
    have h8 := ir_cap hI
    match l, hl with
    | [x, y, d0, d1, d2, d3, d4, d5], hl =>
    have k0 := hW.sl 0 (by simp)
    obtain ⟨g, off, rfl, c0⟩ := k0
    have hcells : ∀ i v, [x, y, d0, d1, d2, d3, d4, d5][i]? = some v → w1.cell? ⟨g, off + i, none⟩ = some (.int .i64 v) := by
      intro i v hi
      obtain ⟨hi8, hv⟩ := List.getElem?_eq_some_iff.1 hi
      obtain ⟨g1, off1, e1, c1⟩ := hW.sl i hi8
      cases e1
      rw [c1, ← hv]
      simp [List.getD, List.getElem?_eq_getElem hi8]
    have c1 := hcells 1 y rfl
    have c2 := hcells 2 d0 rfl
    have c3 := hcells 3 d1 rfl
    have c4 := hcells 4 d2 rfl
    have c5 := hcells 5 d3 rfl
    have c6 := hcells 6 d4 rfl
    have c7 := hcells 7 d5 rfl
    replace c0 : w1.cell? ⟨g, off + 0, none⟩ = some (.int .i64 x) := c0
    rw [Nat.add_zero] at c0
    have hx := hbd x (by simp)
    have hcap2 : ¬ cap = 2 := by simp at h8; omega
    have HN := hid hn
    have hz : (0 : Int) ≤ (z : Int) := by omega
    have h48 : ¬ (281474976710656 < Builtin.nextslicecap 6 0 * Tryz.t3.bytes) := by decide
    have hgl : g < w1.heap.size := World.block_lt_of_cell? w1 _ c0
    obtain ⟨cc, hcc, HC⟩ : ∃ cc, (Question.appendCap 6 0 3).cut (w1.tape (w1.drawn + 1) (Question.appendCap 6 0 3)) = cc + 1 ∧ Hid (6 ≤ cc + 1 ∧ cc + 1 ≤ maxLen) := by
      have a := grownCap_ge w1.drew 6 0 3
      have b := grownCap_le_maxLen w1.drew 6 0 3 (by unfold maxLen; omega)
      refine ⟨grownCap w1.drew 6 0 3 - 1, ?_, ?_⟩
      · show grownCap w1.drew 6 0 3 = _
        omega
      · unfold Hid
        omega
    have q0 : ∀ o1 o2 o3, (((w1.alloc o1).alloc o2).alloc o3).cell? ⟨g, off, none⟩ = some (.int .i64 x) := fun o1 o2 o3 => up3 o1 o2 o3 c0
    have q1 : ∀ o1 o2 o3, (((w1.alloc o1).alloc o2).alloc o3).cell? ⟨g, off + 1, none⟩ = some (.int .i64 y) := fun o1 o2 o3 => up3 o1 o2 o3 c1
    clear hn hbd hI hW hl h8 hcells
    go_wp2
    go_region
    · obtain ⟨wq, hwq⟩ : ∃ wq, (((w1.alloc (.cells #[] 3)).alloc (.cells ((#[.int .i64 d0, .int .i64 d1, .int .i64 d2, .int .i64 d3, .int .i64 d4, .int .i64 d5] : Array Value) ++ Builtin.zeroCells #[.int .i64 0] (cc - 5)) 3)).alloc (.cells #[.int .i64 (x - 1), .int .i64 y, .slice (some ⟨w1.heap.size + 1, 0, none⟩) 6 (cc + 1)] 88)).drew.drew = wq := ⟨_, rfl⟩
      have HQ : Hid (Grp w wq (w1.heap.size + 1 + 1) (w1.heap.size + 1) cc (x - 1) y [d0, d1, d2, d3, d4, d5]) := by rw [← hwq]; exact grp1 HA1.out HB1.out cc HC.out (x - 1) y d0 d1 d2 d3 d4 d5
      simp only [hwq]
      clear hwq c0 c1 c2 c3 c4 c5 c6 c7 q0 q1 hcc HA1 HB1 HC
      have HZq := hid HQ.out.1
      have HIq := hid HQ.out.2.1
      have HAq := hid HQ.out.2.2.1
      have HBq := hid HQ.out.2.2.2.1
      have hlr := HQ.out.2.2.2.2
      clear HQ
      have p0 := HZq.out.c 0 rfl
      have p1 := HZq.out.c 1 rfl
      have p2 := HZq.out.c 2 rfl
      have HSq : Hid (Ints wq (some ⟨w1.heap.size + 1, 0, none⟩) [d0, d1, d2, d3, d4, d5]) := by
        obtain ⟨a', cap', ea, hW⟩ := Ir.w HIq.out
        cases ea
        exact hW.sl
      go_wp2_with fail
      refine (sShowGroup wq (x - 1) y (some ⟨w1.heap.size + 1, 0, none⟩) (cc + 1) [d0, d1, d2, d3, d4, d5] HSq.out (by simp)).mono ?_
      rintro e w5 ⟨rfl, b5⟩
      have HA5 := hid (HAq.out.below b5 HAq.out.lt)
      have HZ5 := hid (HZq.out.below b5 HZq.out.lt)
      have HI5 := hid (RowO.below HIq.out b5)
      have HB5 := hid (HBq.out.trans (b5.mono HBq.out.size))
      clear b5 HAq HZq HBq HIq HSq p0 p1 p2
      have a0 := HA5.out.c 0 rfl
      have a1 := HA5.out.c 1 rfl
      have a2 := HA5.out.c 2 rfl
      have f0 := HA5.out.f 0
      have f1 := HA5.out.f 1
      have f2 := HA5.out.f 2
      have p0 := HZ5.out.c 0 rfl
      have p1 := HZ5.out.c 1 rfl
      have p2 := HZ5.out.c 2 rfl
      by_cases hsh : showGroup (x - 1) y [d0, d1, d2, d3, d4, d5] = s
      · have HN2 : Hid (readGroup R s = some (x - 1, y, [d0, d1, d2, d3, d4, d5])) := by unfold Hid readGroup; rw [HN.out]; simp only []; rw [if_pos hsh]
        have hne := Own.eqS_yes hsh
        generalize showGroup (x - 1) y [d0, d1, d2, d3, d4, d5] = sh at *
        have HRA := hid ((((HA5.out).set 0 (.int .i64 (x - 1))).set 1 (.int .i64 y)).set 2 (.slice (some ⟨w1.heap.size + 1, 0, none⟩) 6 (cc + 1)))
        have HBf := hid (below_set (below_set (below_set (HB5.out) w.heap.size 0 (.int .i64 (x - 1)) (Nat.le_refl _)) w.heap.size 1 (.int .i64 y) (Nat.le_refl _)) w.heap.size 2 (.slice (some ⟨w1.heap.size + 1, 0, none⟩) 6 (cc + 1)) (Nat.le_refl _))
        have HIf : Hid (Ir (((w5.setCell ⟨w.heap.size, 0, none⟩ (.int .i64 (x - 1))).setCell ⟨w.heap.size, 1, none⟩ (.int .i64 y)).setCell ⟨w.heap.size, 2, none⟩ (.slice (some ⟨w1.heap.size + 1, 0, none⟩) 6 (cc + 1))) w.heap.size (.slice (some ⟨w1.heap.size + 1, 0, none⟩) 6 (cc + 1)) [d0, d1, d2, d3, d4, d5]) := RowO.kept HI5.out (((kept_set _ _ _ _).trans (kept_set _ _ _ _)).trans (kept_set _ _ _ _)) (fun b hb x => by have hb' : some (w1.heap.size + 1) = some b := hb; cases hb'; rcases x with (x | x) | x <;> omega)
        go_wp2
        refine bodyPost_ret (gresults_one rfl _ _ w.heap.size _ _ rfl rfl (load_row HRA.out Tryz.underlying88 rfl (by kernel_rfl))) rfl ?_
        exact ⟨x - 1, y, [d0, d1, d2, d3, d4, d5], some ⟨w1.heap.size + 1, 0, none⟩, cc + 1, true, Or.inl ⟨HN2.out, by simp, rfl⟩, rfl, HIf.out, HBf.out⟩
      · have HN2 : Hid (readGroup R s = none) := by unfold Hid readGroup; rw [HN.out]; simp only []; rw [if_neg hsh]
        have hne := Own.eqS_no hsh
        generalize showGroup (x - 1) y [d0, d1, d2, d3, d4, d5] = sh at *
        have HRA := hid ((((HA5.out).set 0 (.int .i64 0)).set 1 (.int .i64 0)).set 2 (.slice none 0 0))
        have HBf := hid (below_set (below_set (below_set (HB5.out) w.heap.size 0 (.int .i64 0) (Nat.le_refl _)) w.heap.size 1 (.int .i64 0) (Nat.le_refl _)) w.heap.size 2 (.slice none 0 0) (Nat.le_refl _))
        go_wp2
        refine bodyPost_ret (gresults_one rfl _ _ w.heap.size _ _ rfl rfl (load_row HRA.out Tryz.underlying88 rfl (by kernel_rfl))) rfl ?_
        exact ⟨0, 0, [], none, 0, false, Or.inr ⟨HN2.out, rfl, rfl, rfl, rfl⟩, rfl, gnone_row _ _ _, HBf.out⟩
    · obtain ⟨wq, hwq⟩ : ∃ wq, (((w1.alloc (.cells #[] 3)).alloc (.cells #[.int .i64 (x - 1), .int .i64 y, .slice (some ⟨w1.heap.size + 1 + 1, 0, none⟩) 6 (cc + 1)] 88)).alloc (.cells ((#[.int .i64 d0, .int .i64 d1, .int .i64 d2, .int .i64 d3, .int .i64 d4, .int .i64 d5] : Array Value) ++ Builtin.zeroCells #[.int .i64 0] (cc - 5)) 3)).drew.drew = wq := ⟨_, rfl⟩
      have HQ : Hid (Grp w wq (w1.heap.size + 1) (w1.heap.size + 1 + 1) cc (x - 1) y [d0, d1, d2, d3, d4, d5]) := by rw [← hwq]; exact grp2 HA1.out HB1.out cc HC.out (x - 1) y d0 d1 d2 d3 d4 d5
      simp only [hwq]
      clear hwq c0 c1 c2 c3 c4 c5 c6 c7 q0 q1 hcc HA1 HB1 HC
      have HZq := hid HQ.out.1
      have HIq := hid HQ.out.2.1
      have HAq := hid HQ.out.2.2.1
      have HBq := hid HQ.out.2.2.2.1
      have hlr := HQ.out.2.2.2.2
      clear HQ
      have p0 := HZq.out.c 0 rfl
      have p1 := HZq.out.c 1 rfl
      have p2 := HZq.out.c 2 rfl
      have HSq : Hid (Ints wq (some ⟨w1.heap.size + 1 + 1, 0, none⟩) [d0, d1, d2, d3, d4, d5]) := by
        obtain ⟨a', cap', ea, hW⟩ := Ir.w HIq.out
        cases ea
        exact hW.sl
      go_wp2_with fail
      refine (sShowGroup wq (x - 1) y (some ⟨w1.heap.size + 1 + 1, 0, none⟩) (cc + 1) [d0, d1, d2, d3, d4, d5] HSq.out (by simp)).mono ?_
      rintro e w5 ⟨rfl, b5⟩
      have HA5 := hid (HAq.out.below b5 HAq.out.lt)
      have HZ5 := hid (HZq.out.below b5 HZq.out.lt)
      have HI5 := hid (RowO.below HIq.out b5)
      have HB5 := hid (HBq.out.trans (b5.mono HBq.out.size))
      clear b5 HAq HZq HBq HIq HSq p0 p1 p2
      have a0 := HA5.out.c 0 rfl
      have a1 := HA5.out.c 1 rfl
      have a2 := HA5.out.c 2 rfl
      have f0 := HA5.out.f 0
      have f1 := HA5.out.f 1
      have f2 := HA5.out.f 2
      have p0 := HZ5.out.c 0 rfl
      have p1 := HZ5.out.c 1 rfl
      have p2 := HZ5.out.c 2 rfl
      by_cases hsh : showGroup (x - 1) y [d0, d1, d2, d3, d4, d5] = s
      · have HN2 : Hid (readGroup R s = some (x - 1, y, [d0, d1, d2, d3, d4, d5])) := by unfold Hid readGroup; rw [HN.out]; simp only []; rw [if_pos hsh]
        have hne := Own.eqS_yes hsh
        generalize showGroup (x - 1) y [d0, d1, d2, d3, d4, d5] = sh at *
        have HRA := hid ((((HA5.out).set 0 (.int .i64 (x - 1))).set 1 (.int .i64 y)).set 2 (.slice (some ⟨w1.heap.size + 1 + 1, 0, none⟩) 6 (cc + 1)))
        have HBf := hid (below_set (below_set (below_set (HB5.out) w.heap.size 0 (.int .i64 (x - 1)) (Nat.le_refl _)) w.heap.size 1 (.int .i64 y) (Nat.le_refl _)) w.heap.size 2 (.slice (some ⟨w1.heap.size + 1 + 1, 0, none⟩) 6 (cc + 1)) (Nat.le_refl _))
        have HIf : Hid (Ir (((w5.setCell ⟨w.heap.size, 0, none⟩ (.int .i64 (x - 1))).setCell ⟨w.heap.size, 1, none⟩ (.int .i64 y)).setCell ⟨w.heap.size, 2, none⟩ (.slice (some ⟨w1.heap.size + 1 + 1, 0, none⟩) 6 (cc + 1))) w.heap.size (.slice (some ⟨w1.heap.size + 1 + 1, 0, none⟩) 6 (cc + 1)) [d0, d1, d2, d3, d4, d5]) := RowO.kept HI5.out (((kept_set _ _ _ _).trans (kept_set _ _ _ _)).trans (kept_set _ _ _ _)) (fun b hb x => by have hb' : some (w1.heap.size + 1 + 1) = some b := hb; cases hb'; rcases x with (x | x) | x <;> omega)
        go_wp2
        refine bodyPost_ret (gresults_one rfl _ _ w.heap.size _ _ rfl rfl (load_row HRA.out Tryz.underlying88 rfl (by kernel_rfl))) rfl ?_
        exact ⟨x - 1, y, [d0, d1, d2, d3, d4, d5], some ⟨w1.heap.size + 1 + 1, 0, none⟩, cc + 1, true, Or.inl ⟨HN2.out, by simp, rfl⟩, rfl, HIf.out, HBf.out⟩
      · have HN2 : Hid (readGroup R s = none) := by unfold Hid readGroup; rw [HN.out]; simp only []; rw [if_neg hsh]
        have hne := Own.eqS_no hsh
        generalize showGroup (x - 1) y [d0, d1, d2, d3, d4, d5] = sh at *
        have HRA := hid ((((HA5.out).set 0 (.int .i64 0)).set 1 (.int .i64 0)).set 2 (.slice none 0 0))
        have HBf := hid (below_set (below_set (below_set (HB5.out) w.heap.size 0 (.int .i64 0) (Nat.le_refl _)) w.heap.size 1 (.int .i64 0) (Nat.le_refl _)) w.heap.size 2 (.slice none 0 0) (Nat.le_refl _))
        go_wp2
        refine bodyPost_ret (gresults_one rfl _ _ w.heap.size _ _ rfl rfl (load_row HRA.out Tryz.underlying88 rfl (by kernel_rfl))) rfl ?_
        exact ⟨0, 0, [], none, 0, false, Or.inr ⟨HN2.out, rfl, rfl, rfl, rfl⟩, rfl, gnone_row _ _ _, HBf.out⟩
    · obtain ⟨wq, hwq⟩ : ∃ wq, (((w1.alloc (.cells #[.int .i64 (x - 1), .int .i64 y, .slice (some ⟨w1.heap.size + 1 + 1, 0, none⟩) 6 (cc + 1)] 88)).alloc (.cells #[] 3)).alloc (.cells ((#[.int .i64 d0, .int .i64 d1, .int .i64 d2, .int .i64 d3, .int .i64 d4, .int .i64 d5] : Array Value) ++ Builtin.zeroCells #[.int .i64 0] (cc - 5)) 3)).drew.drew = wq := ⟨_, rfl⟩
      have HQ : Hid (Grp w wq (w1.heap.size) (w1.heap.size + 1 + 1) cc (x - 1) y [d0, d1, d2, d3, d4, d5]) := by rw [← hwq]; exact grp3 HA1.out HB1.out cc HC.out (x - 1) y d0 d1 d2 d3 d4 d5
      simp only [hwq]
      clear hwq c0 c1 c2 c3 c4 c5 c6 c7 q0 q1 hcc HA1 HB1 HC
      have HZq := hid HQ.out.1
      have HIq := hid HQ.out.2.1
      have HAq := hid HQ.out.2.2.1
      have HBq := hid HQ.out.2.2.2.1
      have hlr := HQ.out.2.2.2.2
      clear HQ
      have p0 := HZq.out.c 0 rfl
      have p1 := HZq.out.c 1 rfl
      have p2 := HZq.out.c 2 rfl
      have HSq : Hid (Ints wq (some ⟨w1.heap.size + 1 + 1, 0, none⟩) [d0, d1, d2, d3, d4, d5]) := by
        obtain ⟨a', cap', ea, hW⟩ := Ir.w HIq.out
        cases ea
        exact hW.sl
      go_wp2_with fail
      refine (sShowGroup wq (x - 1) y (some ⟨w1.heap.size + 1 + 1, 0, none⟩) (cc + 1) [d0, d1, d2, d3, d4, d5] HSq.out (by simp)).mono ?_
      rintro e w5 ⟨rfl, b5⟩
      have HA5 := hid (HAq.out.below b5 HAq.out.lt)
      have HZ5 := hid (HZq.out.below b5 HZq.out.lt)
      have HI5 := hid (RowO.below HIq.out b5)
      have HB5 := hid (HBq.out.trans (b5.mono HBq.out.size))
      clear b5 HAq HZq HBq HIq HSq p0 p1 p2
      have a0 := HA5.out.c 0 rfl
      have a1 := HA5.out.c 1 rfl
      have a2 := HA5.out.c 2 rfl
      have f0 := HA5.out.f 0
      have f1 := HA5.out.f 1
      have f2 := HA5.out.f 2
      have p0 := HZ5.out.c 0 rfl
      have p1 := HZ5.out.c 1 rfl
      have p2 := HZ5.out.c 2 rfl
      by_cases hsh : showGroup (x - 1) y [d0, d1, d2, d3, d4, d5] = s
      · have HN2 : Hid (readGroup R s = some (x - 1, y, [d0, d1, d2, d3, d4, d5])) := by unfold Hid readGroup; rw [HN.out]; simp only []; rw [if_pos hsh]
        have hne := Own.eqS_yes hsh
        generalize showGroup (x - 1) y [d0, d1, d2, d3, d4, d5] = sh at *
        have HRA := hid ((((HA5.out).set 0 (.int .i64 (x - 1))).set 1 (.int .i64 y)).set 2 (.slice (some ⟨w1.heap.size + 1 + 1, 0, none⟩) 6 (cc + 1)))
        have HBf := hid (below_set (below_set (below_set (HB5.out) w.heap.size 0 (.int .i64 (x - 1)) (Nat.le_refl _)) w.heap.size 1 (.int .i64 y) (Nat.le_refl _)) w.heap.size 2 (.slice (some ⟨w1.heap.size + 1 + 1, 0, none⟩) 6 (cc + 1)) (Nat.le_refl _))
        have HIf : Hid (Ir (((w5.setCell ⟨w.heap.size, 0, none⟩ (.int .i64 (x - 1))).setCell ⟨w.heap.size, 1, none⟩ (.int .i64 y)).setCell ⟨w.heap.size, 2, none⟩ (.slice (some ⟨w1.heap.size + 1 + 1, 0, none⟩) 6 (cc + 1))) w.heap.size (.slice (some ⟨w1.heap.size + 1 + 1, 0, none⟩) 6 (cc + 1)) [d0, d1, d2, d3, d4, d5]) := RowO.kept HI5.out (((kept_set _ _ _ _).trans (kept_set _ _ _ _)).trans (kept_set _ _ _ _)) (fun b hb x => by have hb' : some (w1.heap.size + 1 + 1) = some b := hb; cases hb'; rcases x with (x | x) | x <;> omega)
        go_wp2
        refine bodyPost_ret (gresults_one rfl _ _ w.heap.size _ _ rfl rfl (load_row HRA.out Tryz.underlying88 rfl (by kernel_rfl))) rfl ?_
        exact ⟨x - 1, y, [d0, d1, d2, d3, d4, d5], some ⟨w1.heap.size + 1 + 1, 0, none⟩, cc + 1, true, Or.inl ⟨HN2.out, by simp, rfl⟩, rfl, HIf.out, HBf.out⟩
      · have HN2 : Hid (readGroup R s = none) := by unfold Hid readGroup; rw [HN.out]; simp only []; rw [if_neg hsh]
        have hne := Own.eqS_no hsh
        generalize showGroup (x - 1) y [d0, d1, d2, d3, d4, d5] = sh at *
        have HRA := hid ((((HA5.out).set 0 (.int .i64 0)).set 1 (.int .i64 0)).set 2 (.slice none 0 0))
        have HBf := hid (below_set (below_set (below_set (HB5.out) w.heap.size 0 (.int .i64 0) (Nat.le_refl _)) w.heap.size 1 (.int .i64 0) (Nat.le_refl _)) w.heap.size 2 (.slice none 0 0) (Nat.le_refl _))
        go_wp2
        refine bodyPost_ret (gresults_one rfl _ _ w.heap.size _ _ rfl rfl (load_row HRA.out Tryz.underlying88 rfl (by kernel_rfl))) rfl ?_
        exact ⟨0, 0, [], none, 0, false, Or.inr ⟨HN2.out, rfl, rfl, rfl, rfl⟩, rfl, gnone_row _ _ _, HBf.out⟩

end Go.Proofs.YtjlkighikfgaeaaGreatDoor.Rd
