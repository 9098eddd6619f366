/-
  The walks of spec.ShowFrees and impl.ShowFrees: both give the text of freed blocks. Condition for impl's: the table of sixteen sums holds what the program's text lays.
  A row that a call owns, and what append makes of it. No condition.
  Plain: what a new disk's sectors are; a row that a call makes by append. The walks of spec.l4NoMap and impl.noBlocks. No condition.
  The walks of laws.eqWriteS and laws.eqDisk: they tell whether two lists of writes or disks are the same. No condition.
  The walk of spec.DiskOk: it tells whether a disk is right. No condition but lengths that Go can hold.
  The walks of spec.l3There, spec.l3Peek and spec.Peek: what a host sees. No condition but lengths that Go can hold.
  A disk that comes in as an argument: what it is in memory. No condition.
  A world in memory: its size, laid anew, compared, and as an argument. No condition but lists of at most 2^20.
  A new world in memory; the walks of laws.markWorld and laws.heldWorld there. No condition.
  The walk of spec.Format: a new disk's sectors. No condition.
  The walk of spec.l3Copy: a disk laid anew, with rows of its own. No condition but lengths of at most 2^20.
  The walk of spec.l3Put: one write more on a disk of the call's own, or a refusal. No condition but three epochs and lengths of at most 2^19.
  How a function that hands a disk back ends: the disk lies in the result's block. No condition.
  The walk of spec.NewDisk: a disk without texts and writes, every epoch 1, in rows of its own. No condition.
  The walk of spec.NewWorld: a new world. No condition.
  The walk of laws.FnExactSectorOf: at every kind and number the law answers true, and nothing that was there is changed. Condition: the table of the kinds' sizes holds what the program's text lays.
  The walks of impl.freshSector and impl.Format: a new disk's sectors. Condition: the tables of sixteen sums and of the kinds' sizes stand in their variables.
-/
import Derived.Test.YtaopkchkhdbfnaaGreatDoorSecRows
import Derived.Test.YtaopkchkhdbfnaaGreatDoorMem
import Derived.Deep.AppendSrc
import Derived.Maps.AppendAt
import Derived.Test.YtaopkchkhdbfnaaGreatDoorSecJn7
import Derived.Test.YtaopkchkhdbfnaaGreatDoorJoin2
import Derived.Test.YtaopkchkhdbfnaaGreatDoorEqDisk
import Derived.RegionTactic
import Derived.BigRegion
import Derived.Deep.RegionWith
import Derived.Deep.RegionHeldLaw
import Derived.ProofKit
import Derived.OpenShut
import Derived.ShutString
import Derived.Lib.SmallJoins
import Derived.Deep.Strs
import Derived.Deep.Slices
import Derived.Carry
import Derived.Test.YtaopkchkhdbfnaaGreatDoorJoin1
import Derived.Test.YtaopkchkhdbfnaaGreatDoorToDisk
import Derived.Deep.RegionLaw
import Derived.Laws.ResultCell
import Derived.Deep.DeepCutAuto
import Derived.Test.YtaopkchkhdbfnaaGreatDoorSectorWalks
namespace Go.Proofs.YtaopkchkhdbfnaaGreatDoor.Sec
open Go.RowKit Go.Proofs.YtaopkchkhdbfnaaGreatDoor.Mem
set_option linter.unusedVariables false

theorem freesOk_long (l : List Int) (h : ¬ l.length ≤ 12) : freesOk l = false := by unfold freesOk; rw [decide_eq_false h]; rfl
theorem freesOk_short (l : List Int) (h : l.length ≤ 12) : freesOk l = between 0 17 l := by unfold freesOk; rw [decide_eq_true h]; rfl
theorem frees_no {l : List Int} (h : freesOk l = false) : showFrees l = ⟨#[]⟩ := by unfold showFrees; rw [h]; rfl
theorem frees_yes {l : List Int} (h : freesOk l = true) : summed (⟨#[102]⟩ ++ vr (l.length : Int) ++ vrs 0 l) = showFrees l := by unfold showFrees; rw [h]; rfl
theorem frees_len {l : List Int} (h : freesOk l = true) : l.length ≤ 12 := by
  unfold freesOk at h; rw [Bool.and_eq_true] at h; exact of_decide_eq_true h.1
theorem frees_bd {l : List Int} (h : freesOk l = true) : ∀ k, k < l.length → 0 ≤ l.getD k 0 ∧ l.getD k 0 ≤ 17 := fun k hk => by
  unfold freesOk at h; rw [Bool.and_eq_true] at h; exact between_getD h.2 k hk

theorem frees_size (l : List Int) (h : l.length ≤ 12) : ((⟨#[102]⟩ : ByteArray) ++ vr (l.length : Int) ++ vrs 0 l).size ≤ 1048576 := by
  have h1 := vr_size (l.length : Int)
  have h2 := vrs_size 0 l
  rw [ByteArray.size_append, ByteArray.size_append]
  have : (⟨#[102]⟩ : ByteArray).size = 1 := rfl
  omega

set_option maxRecDepth 100000 in
set_option maxHeartbeats 1000000 in
theorem l4FreesOk (w : World) (a : Option Addr) (cap : Nat) (l : List Int) (S : Ints w a l) (hl : l.length ≤ 1048576) :
    Calls Tryz.prog 166 #[.slice a l.length cap] w fun e w' => e = .returned (.bool (freesOk l)) ∧ w' = w := by
  have HS := hid S
  clear S
  by_cases hg : 12 < (l.length : Int)
  · have HN := hid (freesOk_long l (by omega))
    go_enter Tryz.func166, Tryz.ntmps166
    go_wp2
    go_ret
    exact ⟨by rw [HN.out]; rfl, rfl⟩
  have HE := hid (freesOk_short l (by omega))
  go_enter Tryz.func166, Tryz.ntmps166
  go_wp2
  go_loop [3] (fun i => ∃ k : Nat, k ≤ l.length ∧ i = .int .i64 (k : Int) ∧ Hid (between 0 17 (l.take k) = true)) (fun i => l.length - (intOf i).toNat)
  case atStart => exact ⟨0, Nat.zero_le _, rfl, rfl⟩
  case round =>
    obtain ⟨k, hk, rfl, HK⟩ := hrel
    by_cases hlt : k < l.length
    · obtain ⟨b, off, rfl, hc⟩ := HS.out k hlt
      replace hc : w.cell? ⟨b, off + k, none⟩ = some (.int .i64 (l.getD k 0)) := hc
      have HT := hid (between_take 0 17 l k hlt)
      have HN := hid (between_no 0 17 l k hlt)
      generalize l.getD k 0 = x at *
      by_cases hx : 0 ≤ x ∧ x ≤ 17
      · have hx' := decide_eq_true hx
        have HR : Hid (between 0 17 (l.take (k + 1)) = true) := by rw [Hid, HT.out, HK.out, hx']; rfl
        clear hx
        go_wp2_with fail
        refine (hx' ▸ l4Block x _).mono ?_
        rintro e w1 ⟨rfl, hw⟩
        subst hw
        go_wp2
        exact ⟨⟨k + 1, by omega, by go_num, HR⟩, by simp [intOf]; omega⟩
      · have hx' := decide_eq_false hx
        have HR := hid (HN.out hx)
        clear hx
        go_wp2_with fail
        refine (hx' ▸ l4Block x _).mono ?_
        rintro e w1 ⟨rfl, hw⟩
        subst hw
        go_wp2
        go_ret
        exact ⟨by rw [HE.out, HR.out]; rfl, rfl⟩
    · obtain rfl : k = l.length := by omega
      have HR : Hid (between 0 17 l = true) := by have := HK.out; rwa [List.take_length] at this
      go_wp2
      go_ret
      exact ⟨by rw [HE.out, HR.out]; rfl, rfl⟩

set_option maxRecDepth 100000 in
set_option maxHeartbeats 1000000 in
theorem areFrees (w : World) (a : Option Addr) (cap : Nat) (l : List Int) (S : Ints w a l) (hl : l.length ≤ 1048576) :
    Calls Tryz.prog 226 #[.slice a l.length cap] w fun e w' => e = .returned (.bool (freesOk l)) ∧ w' = w := by
  have HS := hid S
  clear S
  by_cases hg : 12 < (l.length : Int)
  · have HN := hid (freesOk_long l (by omega))
    go_enter Tryz.func226, Tryz.ntmps226
    go_wp2
    go_ret
    exact ⟨by rw [HN.out]; rfl, rfl⟩
  have HE := hid (freesOk_short l (by omega))
  go_enter Tryz.func226, Tryz.ntmps226
  go_wp2_with fail
  refine (areFrom w a cap l 0 17 HS.out hl).mono ?_
  rintro e w1 ⟨rfl, hw⟩
  subst hw
  generalize between 0 17 l = z at *
  go_wp2
  go_ret
  exact ⟨by rw [HE.out]; rfl, rfl⟩

theorem step_str (p s v : ByteArray) : p ++ s ++ v = p ++ (s ++ v) := append_assoc p s v

set_option maxRecDepth 100000 in
set_option maxHeartbeats 1000000 in
theorem sShowFrees (w : World) (a : Option Addr) (cap : Nat) (l : List Int) (S : Ints w a l) (hl : l.length ≤ 1048576) :
    Calls Tryz.prog 114 #[.slice a l.length cap] w fun e w' => e = .returned (.string (showFrees l)) ∧ Below w.heap.size w w' := by
  have HS := hid S
  clear S
  go_enter Tryz.func114, Tryz.ntmps114
  go_wp2_with fail
  refine (l4FreesOk w a cap l HS.out hl).mono ?_
  rintro e w1 ⟨rfl, hw⟩
  subst hw
  cases hf : freesOk l with
  | false =>
    have HN := hid (frees_no hf)
    clear hf
    go_wp2
    go_ret
    exact ⟨Own.ret_str HN.out.symm, Below.refl _ _⟩
  | true =>
    have HY := hid (frees_yes hf)
    have h12 := frees_len hf
    have HZ := hid (frees_size l h12)
    have HV := hid (fun k => vrs_size 0 (l.take k))
    clear hf
    go_wp2_with fail
    refine (sVar (l.length : Int) _).mono ?_
    rintro e w2 ⟨rfl, b2⟩
    have z1 := vr_size (l.length : Int)
    have HB := hid b2
    clear b2
    generalize hp : (⟨#[102]⟩ : ByteArray) ++ vr (l.length : Int) = p at *
    have HP := hid hp
    have zp : p.size ≤ 8 := by rw [← hp, ByteArray.size_append]; have : (⟨#[102]⟩ : ByteArray).size = 1 := rfl; omega
    go_wp2
    clear hp
    go_loopw [3, 4] (fun s i wr => ∃ k : Nat, k ≤ l.length ∧ i = .int .i64 (k : Int) ∧ s = .string (p ++ vrs 0 (l.take k)) ∧ Hid (Below w1.heap.size w1 wr)) (fun _ i _ => l.length - (intOf i).toNat)
    case atStart => exact ⟨0, Nat.zero_le _, rfl, by rw [show vrs 0 (l.take 0) = ⟨#[]⟩ from rfl, append_empty], HB⟩
    case round =>
      obtain ⟨k, hk, rfl, rfl, HB'⟩ := hrel
      by_cases hlt : k < l.length
      · obtain ⟨b, off, rfl, hc⟩ := (HS.out.below HB'.out) k hlt
        replace hc : wr.cell? ⟨b, off + k, none⟩ = some (.int .i64 (l.getD k 0)) := hc
        have HT := hid (vrs_take 0 l k hlt)
        have hz := HV.out k
        have hzl : (l.take k).length ≤ k := List.length_take_le _ _
        generalize l.getD k 0 = x at *
        generalize vrs 0 (l.take k) = s at *
        have hps : (p ++ s).size ≤ 1000 := by rw [ByteArray.size_append]; omega
        have HA := hid (append_assoc p s (vr (x - 0)))
        generalize p ++ s = q at *
        go_wp2_with fail
        refine (sVar x _).mono ?_
        rintro e w3 ⟨rfl, b3⟩
        have zx := vr_size x
        have HB3 := hid (HB'.out.trans (b3.mono HB'.out.size))
        clear b3 hc
        go_wp2
        exact ⟨⟨k + 1, by omega, by go_num, by rw [HT.out, ← HA.out, Int.sub_zero], HB3⟩, by simp [intOf]; omega⟩
      · obtain rfl : k = l.length := by omega
        have HE : Hid (vrs 0 (l.take l.length) = vrs 0 l) := by rw [Hid, List.take_length]
        rw [HE.out]
        generalize p ++ vrs 0 l = q at *
        go_wp2_with fail
        refine (l4Sum q _ HZ.out).mono ?_
        rintro e w3 ⟨rfl, b3⟩
        have HB3 := hid (HB'.out.trans (b3.mono HB'.out.size))
        clear b3
        go_wp2
        go_ret
        exact ⟨Own.ret_str HY.out, HB3.out⟩

set_option maxRecDepth 100000 in
set_option maxHeartbeats 1000000 in
theorem iShowFrees (w : World) (a : Option Addr) (cap : Nat) (l : List Int) (S : Ints w a l) (hl : l.length ≤ 1048576) (T : Sums w) :
    Calls Tryz.prog 172 #[.slice a l.length cap] w fun e w' => e = .returned (.string (showFrees l)) ∧ Below w.heap.size w w' := by
  have HS := hid S
  have HT := hid T
  clear S T
  go_enter Tryz.func172, Tryz.ntmps172
  go_wp2_with fail
  refine (areFrees w a cap l HS.out hl).mono ?_
  rintro e w1 ⟨rfl, hw⟩
  subst hw
  cases hf : freesOk l with
  | false =>
    have HN := hid (frees_no hf)
    clear hf
    go_wp2
    go_ret
    exact ⟨Own.ret_str HN.out.symm, Below.refl _ _⟩
  | true =>
    have HY := hid (frees_yes hf)
    have h12 := frees_len hf
    have HZ := hid (frees_size l h12)
    have HB' := hid (frees_bd hf)
    clear hf
    go_wp2_with fail
    refine (iVar (l.length : Int) _).mono ?_
    rintro e w2 ⟨rfl, b2⟩
    have z1 := vr_size (l.length : Int)
    have HB := hid b2
    clear b2
    go_wp2_with fail
    refine (showNumbers w2 a cap l 0 (HS.out.below HB.out) (by omega) (by decide) (fun k hk => by have := HB'.out k hk; omega)).mono ?_
    rintro e w3 ⟨rfl, b3⟩
    have z2 := vrs_size 0 l
    have HB3 := hid (HB.out.trans (b3.mono HB.out.size))
    clear b3
    go_wp2_with fail
    refine (withSum' _ _ HZ.out (HT.out.below HB3.out)).mono ?_
    rintro e w4 ⟨rfl, b4⟩
    have HB4 := hid (HB3.out.trans (b4.mono HB3.out.size))
    clear b4
    go_wp2
    go_ret
    exact ⟨Own.ret_str HY.out, HB4.out⟩

end Go.Proofs.YtaopkchkhdbfnaaGreatDoor.Sec

namespace Go.Proofs.YtaopkchkhdbfnaaGreatDoor.Mem
open Go.RowKit
set_option linter.unusedVariables false

/-- v is a slice of n elements, k cells each, that hold xs: empty and without room, or a block of the call's own from B on. -/
def RowO (w : World) (B : Nat) (e : TypeId) (k : Nat) (v : Value) (n : Nat) (xs : List Value) : Prop :=
  (∃ b, v = .slice b 0 0 ∧ n = 0 ∧ xs = []) ∨ (w.ownsRow B e k v n xs ∧ ∃ a c, v = .slice (some a) n (c + 1))

/-- The block of a slice that has room. -/
def rb : Value → Option Nat
  | .slice (some a) _ (_ + 1) => some a.block
  | _ => none

theorem rb_bare (b : Option Addr) (n : Nat) : rb (.slice b n 0) = none := by cases b <;> rfl

theorem rowO_of {w : World} {B : Nat} {e : TypeId} {k : Nat} {v : Value} {n : Nat} {xs : List Value} (h : w.ownsRow B e k v n xs) : RowO w B e k v n xs := by
  rcases h.2 with ⟨rfl, rfl⟩ | ⟨g, cap, cur, rfl, r⟩
  · exact Or.inl ⟨none, rfl, rfl, List.eq_nil_of_length_eq_zero (by simpa using h.1)⟩
  · cases cap with
    | zero =>
      have hn : n = 0 := by have := r.2.2.1; omega
      subst hn
      exact Or.inl ⟨_, rfl, rfl, List.eq_nil_of_length_eq_zero (by simpa using h.1)⟩
    | succ c => exact Or.inr ⟨h, _, c, rfl⟩

theorem rb_own {v : Value} {b : Nat} (h : rb v = some b) : v.ownBlock = some b := by
  unfold rb at h
  split at h
  · exact h
  · cases h

theorem RowO.len {w : World} {B : Nat} {e : TypeId} {k : Nat} {v : Value} {n : Nat} {xs : List Value} (h : RowO w B e k v n xs) : xs.length = n * k := by
  rcases h with ⟨_, _, rfl, rfl⟩ | ⟨h, _⟩
  · simp
  · exact h.1

theorem RowO.wr {w : World} {B : Nat} {e : TypeId} {k : Nat} {v : Value} {n : Nat} {xs : List Value} (h : RowO w B e k v n xs) :
    ∃ a cap, v = .slice a n cap ∧ Wr w B a (n * k) (fun i => xs.getD i undef) := by
  rcases h with ⟨b, rfl, rfl, rfl⟩ | ⟨h, hne⟩
  · exact ⟨b, 0, rfl, fun i hi => by omega⟩
  · obtain ⟨hl, h⟩ := h
    rcases h with ⟨rfl, _⟩ | ⟨g, cap, cur, rfl, hB, hg, hn, hm, hs, ht⟩
    · obtain ⟨_, _, e⟩ := hne; cases e
    · refine ⟨_, cap, rfl, fun i hi => ⟨g, 0, rfl, hB, ?_, frozen_of_row w g _ _ _ hg⟩⟩
      rw [cell_of_row w g (0 + i) _ _ (0, 0) hg, Nat.zero_add]
      have e1 : xs[i]? = cur.toList[i]? := by rw [← ht, List.getElem?_take, if_pos hi]
      have hi' : i < xs.length := by omega
      rw [List.getElem?_eq_getElem hi'] at e1
      show cur[i]? = some (xs.getD i undef)
      rw [List.getD_eq_getElem?_getD, List.getElem?_eq_getElem hi', ← Array.getElem?_toList, ← e1]
      rfl

theorem RowO.kept {S : Nat → Prop} {w w' : World} {B : Nat} {e : TypeId} {k : Nat} {v : Value} {n : Nat} {xs : List Value} (h : RowO w B e k v n xs) (hk : Kept S w w') (hn : ∀ b, rb v = some b → ¬ S b) : RowO w' B e k v n xs := by
  rcases h with h | ⟨h, hne⟩
  · exact Or.inl h
  · refine Or.inr ⟨⟨h.1, ?_⟩, hne⟩
    rcases h.2 with h2 | ⟨g, cap, cur, rfl, hB, hg, r⟩
    · exact Or.inl h2
    · refine Or.inr ⟨g, cap, cur, rfl, hB, ?_, r⟩
      have hlt : g < w.heap.size := by
        rcases Nat.lt_or_ge g w.heap.size with x | x
        · exact x
        · rw [Array.getElem?_eq_none x] at hg; cases hg
      obtain ⟨_, c, e⟩ := hne
      cases e
      rw [hk.block g hlt (hn g rfl)]
      exact hg

theorem RowO.below {w w' : World} {B : Nat} {e : TypeId} {k : Nat} {v : Value} {n : Nat} {xs : List Value} (h : RowO w B e k v n xs) (hb : Below w.heap.size w w') : RowO w' B e k v n xs :=
  h.kept (Kept.of_below (S := fun _ => False) hb) (fun _ _ x => x)

theorem RowO.mono {w : World} {B B' : Nat} {e : TypeId} {k : Nat} {v : Value} {n : Nat} {xs : List Value} (h : RowO w B e k v n xs) (hb : B' ≤ B) : RowO w B' e k v n xs := by
  rcases h with h | ⟨⟨h1, h2⟩, hne⟩
  · exact Or.inl h
  · refine Or.inr ⟨⟨h1, ?_⟩, hne⟩
    rcases h2 with h2 | ⟨g, cap, cur, rfl, hB, r⟩
    · exact Or.inl h2
    · exact Or.inr ⟨g, cap, cur, rfl, Nat.le_trans hb hB, r⟩

/-- The block of an owned row that isn't empty. -/
theorem RowO.foot {w : World} {B : Nat} {e : TypeId} {k : Nat} {v : Value} {n : Nat} {xs : List Value} (h : RowO w B e k v n xs) {a : Option Addr} {cap : Nat} (hv : v = .slice a n cap) {b : Nat} (hb : foot a (n * k) b) : rb v = some b := by
  obtain ⟨h0, off, rfl⟩ := hb
  subst hv
  rcases h with ⟨_, e, rfl, _⟩ | ⟨_, _, c, e⟩
  · omega
  · cases e; rfl

theorem RowO.lt {w : World} {B : Nat} {e : TypeId} {k : Nat} {v : Value} {n : Nat} {xs : List Value} (h : RowO w B e k v n xs) {b : Nat} (hb : rb v = some b) : B ≤ b ∧ b < w.heap.size := by
  rcases h with ⟨_, rfl, rfl, _⟩ | ⟨h, _⟩
  · rw [rb_bare] at hb; cases hb
  · exact h.lt b (rb_own hb)

theorem src_of {P : Program} {w : World} {k : Nat} {t e : TypeId} (ht : P.underlying t = some (.slice e)) {a : Option Addr} {m c : Nat} {news : List Value} (hl : news.length = m * k) (hk : 0 < k) (hS : Sl w a (m * k) (fun i => news.getD i undef)) (h1 : ∀ u ∈ news, u.oneCell' = true) :
    Src P k t (.slice a m c) m news w := by
  cases a with
  | none =>
    have hm : m = 0 := by
      rcases Nat.eq_zero_or_pos m with h | h
      · exact h
      · obtain ⟨_, _, e, _⟩ := hS 0 (Nat.mul_pos h hk)
        cases e
    subst hm
    have : news = [] := List.eq_nil_of_length_eq_zero (by simpa using hl)
    subst this
    exact Src.ofNil w ht c
  | some ad =>
    refine Src.ofSlice w ht ad m c news hl (fun j u hj => ?_) h1
    have hjl : j < news.length := (List.getElem?_eq_some_iff.1 hj).1
    obtain ⟨b, off, e, hc⟩ := hS j (by omega)
    cases e
    rw [Addr.add_mid, hc]
    show some (news.getD j undef) = some u
    rw [List.getD_eq_getElem?_getD, hj]
    rfl

/-- 'append' on an empty slice without room: nothing, or a new block. -/
theorem run_app_empty {P : Program} (w : World) (t ty e : TypeId) (z : Value) (k bytes : Nat) (ht : P.underlying t = some (.slice e)) (hinfo : (P.info? e).map (fun i => (i.zero, i.size, i.bytes)) = some (some z, k, bytes)) (hzs : z.cells.size = k) (hk : 0 < k)
    (b a : Option Addr) (m c : Nat) (news : List Value) (hl : news.length = m * k) (hS : Sl w a (m * k) (fun i => news.getD i undef)) (h1 : ∀ u ∈ news, u.oneCell' = true) (hm : m ≤ 1048576) (hby : bytes ≤ 1048576) :
    ∃ v' w', (Builtin.append_ #[t, t] ty #[.slice b 0 0, .slice a m c]).run P w = .ok v' w' ∧ RowO w' w.heap.size e k v' m news ∧ Below w.heap.size w w' ∧ (0 < m → rb v' = some w.heap.size ∧ w.heap.size < w'.heap.size) ∧ (m = 0 → v' = .slice b 0 0) := by
  obtain ⟨i, hi, hzz⟩ := Option.map_eq_some_iff.1 hinfo
  simp only [Prod.mk.injEq] at hzz
  obtain ⟨hz, rfl, rfl⟩ := hzz
  have hs := src_of (P := P) (c := c) ht hl hk hS h1
  rcases Nat.eq_zero_or_pos m with rfl | hpos
  · have hn : news = [] := List.eq_nil_of_length_eq_zero (by simpa using hl)
    subst hn
    refine ⟨.slice b 0 0, w, ?_, Or.inl ⟨b, rfl, rfl, rfl⟩, Below.refl _ _, fun h => absurd h (by omega), fun _ => rfl⟩
    cases b with
    | none => simp [Builtin.append_, run_underlying ht, sizeOf, typeInfo, hi, hs.cells, Builtin.lenOf]
    | some ad => simp [Builtin.append_, run_underlying ht, sizeOf, typeInfo, hi, hs.cells, Builtin.lenOf, storeCells]
  · have hb2 : (0 + m) * i.bytes ≤ 140737488355328 := by
      have := Nat.mul_le_mul hm hby
      simp only [Nat.zero_add]
      omega
    have hold : (Builtin.firstCells i.size 0 (.slice b 0 0)).run P w.drew = .ok ([] : List Value).toArray w.drew := by
      cases b with
      | none => exact run_firstCells_none w.drew i.size 0 0 0
      | some ad => exact run_firstCells_some w.drew i.size 0 ad 0 0 [] (by simp) (fun j u hj => by simp at hj)
    have hr := run_append_grow_src (P := P) w t t ty e i z ht hi hz b 0 0 [] hold (.slice a m c) m news hs (by omega) (by omega) (growslice_fits (by omega) hb2)
    have hge := grownCap_ge w (0 + m) 0 e
    have hcm : grownCap w (0 + m) 0 e ≤ maxLen := grownCap_le_maxLen w (0 + m) 0 e (by unfold maxLen; omega)
    simp only [Nat.zero_add, List.nil_append] at hr hge hcm
    obtain ⟨c', hc'⟩ : ∃ c', grownCap w m 0 e = c' + 1 := ⟨grownCap w m 0 e - 1, by omega⟩
    rw [hc'] at hr hge hcm
    refine ⟨_, _, hr, Or.inr ⟨⟨hl, Or.inr ⟨w.heap.size, _, _, rfl, Nat.le_refl _, heap_alloc_new w.drew _, hge, hcm, ?_, ?_⟩⟩, _, c', rfl⟩, ⟨rfl, rfl, rfl, by simp, fun k hk => heap_alloc_old w.drew _ hk⟩, fun _ => ⟨rfl, by simp⟩, fun h => absurd h (by omega)⟩
    · simp only [Array.size_append, List.size_toArray, size_zeroCells, hzs, hl, ← Nat.add_mul]
      congr 1
      omega
    · simp only [Array.toList_append]
      rw [← hl]
      exact List.take_left

/-- 'append' on an owned row. -/
theorem run_app {P : Program} (w : World) (B : Nat) (t ty e : TypeId) (z : Value) (k bytes : Nat) (ht : P.underlying t = some (.slice e)) (hinfo : (P.info? e).map (fun i => (i.zero, i.size, i.bytes)) = some (some z, k, bytes)) (hzs : z.cells.size = k) (hk : 0 < k)
    (v : Value) (n : Nat) (xs : List Value) (h : RowO w B e k v n xs) (ad : Addr) (m c : Nat) (news : List Value) (hl : news.length = m * k) (hS : Sl w (some ad) (m * k) (fun i => news.getD i undef)) (h1 : ∀ u ∈ news, u.oneCell' = true) (hm : n + m ≤ 1048576) (hby : bytes ≤ 1048576) (hB : B ≤ w.heap.size) :
    ∃ v' w', (Builtin.append_ #[t, t] ty #[v, .slice (some ad) m c]).run P w = .ok v' w' ∧ RowO w' B e k v' (n + m) (xs ++ news) ∧ Kept (fun b => rb v = some b) w w' ∧ (rb v' = none ∨ rb v' = rb v ∨ (rb v' = some w.heap.size ∧ w.heap.size < w'.heap.size)) := by
  rcases h with ⟨b, rfl, rfl, rfl⟩ | ⟨h, hne⟩
  · obtain ⟨v', w', hr, h2, h3, h4, h5⟩ := run_app_empty (P := P) w t ty e z k bytes ht hinfo hzs hk b (some ad) m c news hl hS h1 (by omega) hby
    refine ⟨v', w', hr, ?_, Kept.of_below h3, ?_⟩
    · simp only [Nat.zero_add, List.nil_append]
      exact h2.mono hB
    · rcases Nat.eq_zero_or_pos m with rfl | hpos
      · rw [h5 rfl]; exact Or.inl (rb_bare b 0)
      · exact Or.inr (Or.inr (h4 hpos))
  · obtain ⟨i, hi, hzz⟩ := Option.map_eq_some_iff.1 hinfo
    simp only [Prod.mk.injEq] at hzz
    obtain ⟨hz, hsz, hb⟩ := hzz
    have hnews : ∀ j u, news[j]? = some u → w.cell? (ad.add j) = some u := fun j u hj => by
      have hjl : j < news.length := (List.getElem?_eq_some_iff.1 hj).1
      obtain ⟨b, off, e, hc⟩ := hS j (by omega)
      cases e
      rw [Addr.add_mid, hc]
      show some (news.getD j undef) = some u
      rw [List.getD_eq_getElem?_getD, hj]
      rfl
    have hb2 : (n + m) * bytes ≤ 140737488355328 := by
      have := Nat.mul_le_mul hm hby
      omega
    obtain ⟨v', w', hr, h2, h3, h4, h5⟩ := run_append_own_at (P := P) w B t ty e i z k bytes ht hi hz hsz hb hzs hk v n xs h ad m c news hl hnews h1 (by unfold maxLen; omega) hb2 hB
    obtain ⟨a0, c0, hv⟩ := hne
    have hrb : rb v = v.ownBlock := by rw [hv]; rfl
    refine ⟨v', w', hr, rowO_of h2, ⟨h3.os, h3.tape, h3.output, h3.size, fun k hk hn => h3.block k hk (fun e => hn (by rw [hrb]; exact e.symm))⟩, ?_⟩
    cases hq : rb v' with
    | none => exact Or.inl rfl
    | some b =>
      have hb' := rb_own hq
      rcases h5 with h5 | h5
      · exact Or.inr (Or.inl (by rw [hrb, ← h5, hb']))
      · rw [hb'] at h5
        cases h5
        exact Or.inr (Or.inr ⟨rfl, (h2.lt _ hb').2⟩)

/-- 'append' on an empty slice without room, as one step of a region that draws its order. -/
theorem step_app_empty {P : Program} (t e : TypeId) (z : Value) (k bytes : Nat) (ht : P.underlying t = some (.slice e)) (hinfo : (P.info? e).map (fun i => (i.zero, i.size, i.bytes)) = some (some z, k, bytes)) (hzs : z.cells.size = k) (hk : 0 < k) (hby : bytes ≤ 1048576)
    {ops : Array Oper} {o : Oper} {a : Act} {w : World} {K : Act → World → Prop} {Q : Exit → Act → World → Prop} {E : Prop} (hgd : o.guard = none) (s x : Operand)
    (ho : o.op = .call { callee := .builtin .append, args := #[s, x], argTypes := #[t, t] })
    (b : Option Addr) (hs : a.eval s = .slice b 0 0) (ad : Option Addr) (m c : Nat) (news : List Value) (hx : a.eval x = .slice ad m c) (hl : news.length = m * k) (hS : Sl w ad (m * k) (fun i => news.getD i undef)) (h1 : ∀ u ∈ news, u.oneCell' = true) (hm : m ≤ 1048576)
    (hK : ∀ v' w', RowO w' w.heap.size e k v' m news → Below w.heap.size w w' → (m = 0 → rb v' = none) → (0 < m → rb v' = some w.heap.size ∧ w.heap.size < w'.heap.size) → K (a.put o.dst v') w') :
    if Region.wanted o (yielded ops a.tmps) = true then Oper.wp P o a w K Q else E := by
  have hw : Region.wanted o (yielded ops a.tmps) = true := by simp [Region.wanted, hgd]
  rw [if_pos hw]
  obtain ⟨v', w', hr, h2, h3, h4, h5⟩ := run_app_empty (P := P) w t o.type e z k bytes ht hinfo hzs hk b ad m c news hl hS h1 hm hby
  unfold Oper.wp execOp
  simp only [ho, resolve, invoke, builtin, Sem.run_bind, Sem.run_pure, Result.andThen_ok, List.map_toArray, List.map_cons, List.map_nil, hs, hx, hr]
  exact hK v' w' h2 h3 (fun h => by rw [h5 h]; exact rb_bare b 0) h4

/-- 'append' on an owned row, at the list of a plain region's operations. -/
theorem wpList_app {P : Program} (t e : TypeId) (z : Value) (k bytes : Nat) (ht : P.underlying t = some (.slice e)) (hinfo : (P.info? e).map (fun i => (i.zero, i.size, i.bytes)) = some (some z, k, bytes)) (hzs : z.cells.size = k) (hk : 0 < k) (hby : bytes ≤ 1048576)
    {ops : Array Oper} {rest : List Oper} {o : Oper} {a : Act} {Q : Exit → Act → World → Prop} (w : World) (hgd : o.guard = none) (s x : Operand)
    (ho : o.op = .call { callee := .builtin .append, args := #[s, x], argTypes := #[t, t] })
    (B : Nat) (v : Value) (n : Nat) (xs : List Value) (hs : a.eval s = v) (h : RowO w B e k v n xs) (ad : Addr) (m c : Nat) (news : List Value) (hx : a.eval x = .slice (some ad) m c) (hl : news.length = m * k) (hS : Sl w (some ad) (m * k) (fun i => news.getD i undef)) (h1 : ∀ u ∈ news, u.oneCell' = true)
    (hm : n + m ≤ 1048576) (hB : B ≤ w.heap.size)
    (hK : ∀ v' w', RowO w' B e k v' (n + m) (xs ++ news) → Kept (fun b => rb v = some b) w w' → (rb v' = none ∨ rb v' = rb v ∨ (rb v' = some w.heap.size ∧ w.heap.size < w'.heap.size)) → wpList P ops Q rest (a.put o.dst v') w') :
    wpList P ops Q (o :: rest) a w := by
  refine wpList_plain hgd fun K hK' => ?_
  obtain ⟨v', w', hr, h2, h3, h4⟩ := run_app (P := P) w B t o.type e z k bytes ht hinfo hzs hk v n xs h ad m c news hl hS h1 hm hby hB
  unfold Oper.wp execOp
  simp only [ho, resolve, invoke, builtin, Sem.run_bind, Sem.run_pure, Result.andThen_ok, List.map_toArray, List.map_cons, List.map_nil, hs, hx, hr]
  exact hK' _ _ (hK v' w' h2 h3 h4)

end Go.Proofs.YtaopkchkhdbfnaaGreatDoor.Mem

namespace Go.Proofs.YtaopkchkhdbfnaaGreatDoor.Fm
open Go.RowKit Go.Proofs.YtaopkchkhdbfnaaGreatDoor.Mem Go.Proofs.YtaopkchkhdbfnaaGreatDoor.Sec
set_option linter.unusedVariables false

/-- A journal that is done. -/
def J0 : Jn := ⟨0, true, 0, 0, 0, 0, ⟨#[]⟩, []⟩

/-- A new sector of each kind. -/
def fresh : Nat → ByteArray
  | 0 => showHost 0 (-1) 0
  | 1 => J0.show
  | 2 => showFrees []
  | 3 => showVol (-1) 0 false [-1, -1, -1, -1]
  | 4 => showGroup (-1) 0 [0, 0, 0, 0, 0, 0]
  | _ => ⟨#[]⟩

def fmt : List ByteArray := List.replicate 3 (fresh 0) ++ List.replicate 3 (fresh 1) ++ List.replicate 3 (fresh 2) ++ List.replicate 4 (fresh 3) ++ List.replicate 3 (fresh 4) ++ List.replicate 18 (fresh 5)

theorem fmt_length : fmt.length = 34 := by simp [fmt]

/-- A row that a call makes by append, in blocks of its own. -/
structure Grow (w wr : World) (v : Value) (e : TypeId) (xs : List Value) : Prop where
  row : RowO wr w.heap.size e 1 v xs.length xs
  bel : Below w.heap.size w wr

theorem Grow.move {w wr w1 : World} {v : Value} {e : TypeId} {xs : List Value} (h : Grow w wr v e xs) (b : Below wr.heap.size wr w1) : Grow w w1 v e xs :=
  ⟨RowO.below h.row b, h.bel.trans (b.mono h.bel.size)⟩

theorem Grow.alloc {w wr : World} {v : Value} {e : TypeId} {xs : List Value} (h : Grow w wr v e xs) (o : Obj) : RowO (wr.alloc o) w.heap.size e 1 v xs.length xs :=
  RowO.below h.row ((Below.refl _ _).alloc (Nat.le_refl _) _)

theorem Grow.szA {w wr : World} {v : Value} {e : TypeId} {xs : List Value} (h : Grow w wr v e xs) (o : Obj) : w.heap.size ≤ (wr.alloc o).heap.size := by
  have := h.bel.size
  simp
  omega

theorem Grow.step {w wr w1 : World} {v v1 : Value} {e : TypeId} {xs : List Value} {u : Value} {o : Obj} (h : Grow w wr v e xs) (r : RowO w1 w.heap.size e 1 v1 (xs.length + 1) (xs ++ [u])) (k : Kept (fun b => rb v = some b) (wr.alloc o) w1) : Grow w w1 v1 e (xs ++ [u]) := by
  refine ⟨by simpa using r, ?_⟩
  have h1 : Below w.heap.size w (wr.alloc o) := h.bel.alloc h.bel.size _
  exact h1.trans (k.below h1.size (fun b hb e => by have := (RowO.lt h.row e).1; omega))

theorem one_cell (w : World) (v : Value) (t : TypeId) : Sl (w.alloc (.cells #[v] t)) (some ⟨w.heap.size, 0, none⟩) (1 * 1) (fun i => [v].getD i undef) := fun i hi => by
  obtain rfl : i = 0 := by omega
  exact ⟨w.heap.size, 0, rfl, by rw [cell_of_row _ w.heap.size (0 + 0) _ _ (0, 0) (heap_alloc_new w _)]; rfl⟩

theorem infoInt : (Tryz.prog.info? 3).map (fun i => (i.zero, i.size, i.bytes)) = some (some (.int .i64 0), 1, 8) := by kernel_rfl
theorem infoStr : (Tryz.prog.info? 9).map (fun i => (i.zero, i.size, i.bytes)) = some (some (.string ByteArray.empty), 1, 16) := by kernel_rfl

theorem grow_none (w w1 : World) (b : Option Addr) (e : TypeId) (h : Below w.heap.size w w1) : Grow w w1 (.slice b 0 0) e [] := ⟨Or.inl ⟨b, rfl, rfl, rfl⟩, h⟩

theorem grow_ints {w wr : World} {v : Value} {l : List Int} (h : Grow w wr v 3 (l.map (.int .i64))) : ∃ a cap, v = .slice a l.length cap ∧ IntsW wr w.heap.size a l := by
  obtain ⟨a, cap, e, hW⟩ := h.row.wr
  refine ⟨a, cap, by simpa using e, ?_⟩
  unfold IntsW
  simp only [List.length_map, Nat.mul_one] at hW
  exact hW.congr (fun i hi => by simp [List.getD, hi])

theorem grow_strs {w wr : World} {v : Value} {l : List ByteArray} (h : Grow w wr v 9 (l.map .string)) : ∃ a cap, v = .slice a l.length cap ∧ StrsW wr w.heap.size a l := by
  obtain ⟨a, cap, e, hW⟩ := h.row.wr
  refine ⟨a, cap, by simpa using e, ?_⟩
  unfold StrsW
  simp only [List.length_map, Nat.mul_one] at hW
  exact hW.congr (fun i hi => by simp [List.getD, hi])

set_option maxRecDepth 100000 in
set_option maxHeartbeats 1000000 in
theorem l4NoMap (w : World) : Calls Tryz.prog 116 #[] w fun r w' => ∃ a cap, r = .returned (.slice a 4 cap) ∧ IntsW w' w.heap.size a [-1, -1, -1, -1] ∧ Below w.heap.size w w' := by
  go_enter Tryz.func116, Tryz.ntmps116
  go_wp2
  go_loopw [1, 2] (fun v i wr => ∃ (k : Nat), k ≤ 4 ∧ i = .int .i64 (k : Int) ∧ Hid (Grow w wr v 3 ((List.replicate k (-1)).map (.int .i64)))) (fun _ i _ => 4 - (intOf i).toNat)
  case atStart => exact ⟨0, Nat.zero_le _, rfl, grow_none w _ _ _ ((Below.refl _ _).alloc (Nat.le_refl _) _)⟩
  case round =>
    obtain ⟨k, hk, rfl, HG⟩ := hrel
    by_cases hlt : k < 4
    · have HX : Hid ((List.replicate k (-1)).map (Value.int .i64) ++ [.int .i64 (-1)] = (List.replicate (k + 1) (-1)).map (.int .i64)) := by rw [Hid, List.replicate_succ']; simp
      have hlen : ((List.replicate k (-1)).map (Value.int .i64)).length + 1 ≤ 1048576 := by simp; omega
      generalize (List.replicate k (-1)).map (Value.int .i64) = xs at *
      go_wp2_with (at_builtin; refine wpList_app 23 3 (.int .i64 0) 1 8 Tryz.underlying23 infoInt rfl (by decide) (by decide) _ rfl (.tmp 8) (.tmp 9) rfl w.heap.size _ xs.length xs rfl (HG.out.alloc _) ⟨wr.heap.size, 0, none⟩ 1 1 [.int .i64 (-1)] rfl rfl (one_cell _ _ _) (by intro u hu; simp at hu; subst hu; rfl) hlen (HG.out.szA _) ?_; intro v1 w1 r1 kk _; have HS := hid (HG.out.step r1 kk))
      exact ⟨⟨k + 1, by omega, by go_num, HX.out ▸ HS⟩, by simp [intOf]; omega⟩
    · obtain rfl : k = 4 := by omega
      go_wp2
      go_ret
      obtain ⟨a, cap, e, hW⟩ := grow_ints HG.out
      exact ⟨a, cap, by rw [e]; rfl, hW, HG.out.bel⟩

theorem make4 (w : World) : (Instr.makeSlice 23 (.int .i64 4) (.int .i64 4)).run Tryz.prog w = .ok (.slice (some ⟨w.heap.size, 0, none⟩) 4 4) (w.alloc (.cells #[.int .i64 0, .int .i64 0, .int .i64 0, .int .i64 0] 3)) := by
  have h := make_rows (P := Tryz.prog) 23 3 (.int .i64 0) 1 8 Tryz.underlying23 infoInt .i64 .i64 4 (by decide) (by decide) w
  have e : madeCells (Value.int .i64 0).cells (4 * 1) = #[.int .i64 0, .int .i64 0, .int .i64 0, .int .i64 0] := by kernel_rfl
  rw [e] at h
  exact h
theorem make6 (w : World) : (Instr.makeSlice 23 (.int .i64 6) (.int .i64 6)).run Tryz.prog w = .ok (.slice (some ⟨w.heap.size, 0, none⟩) 6 6) (w.alloc (.cells #[.int .i64 0, .int .i64 0, .int .i64 0, .int .i64 0, .int .i64 0, .int .i64 0] 3)) := by
  have h := make_rows (P := Tryz.prog) 23 3 (.int .i64 0) 1 8 Tryz.underlying23 infoInt .i64 .i64 6 (by decide) (by decide) w
  have e : madeCells (Value.int .i64 0).cells (6 * 1) = #[.int .i64 0, .int .i64 0, .int .i64 0, .int .i64 0, .int .i64 0, .int .i64 0] := by kernel_rfl
  rw [e] at h
  exact h
theorem ints6 (w : World) : Ints (w.alloc (.cells #[.int .i64 0, .int .i64 0, .int .i64 0, .int .i64 0, .int .i64 0, .int .i64 0] 3)) (some ⟨w.heap.size, 0, none⟩) [0, 0, 0, 0, 0, 0] :=
  (wr_new w _ 3 6 _ (fun i hi => by
    have : i = 0 ∨ i = 1 ∨ i = 2 ∨ i = 3 ∨ i = 4 ∨ i = 5 := by omega
    rcases this with rfl | rfl | rfl | rfl | rfl | rfl <;> rfl)).sl

set_option maxRecDepth 100000 in
set_option maxHeartbeats 1000000 in
theorem noBlocks (w : World) : Calls Tryz.prog 174 #[] w fun r w' => ∃ a cap, r = .returned (.slice a 4 cap) ∧ IntsW w' w.heap.size a [-1, -1, -1, -1] ∧ Below w.heap.size w w' := by
  go_enter Tryz.func174, Tryz.ntmps174
  have hmk := make4
  have HW : Hid (Wr (w.alloc (.cells #[.int .i64 0, .int .i64 0, .int .i64 0, .int .i64 0] 3)) w.heap.size (some ⟨w.heap.size, 0, none⟩) 4 (fun j => if j < 0 then .int .i64 (-1) else .int .i64 0)) :=
    wr_new w _ 3 4 _ (fun i hi => by
      have : i = 0 ∨ i = 1 ∨ i = 2 ∨ i = 3 := by omega
      rcases this with rfl | rfl | rfl | rfl <;> rfl)
  go_wp2
  clear hmk
  go_loopw [6] (fun i wr => ∃ k : Nat, k ≤ 4 ∧ i = .int .i64 (k : Int) ∧ Hid (Wr wr w.heap.size (some ⟨w.heap.size, 0, none⟩) 4 (fun j => if j < k then .int .i64 (-1) else .int .i64 0)) ∧ Hid (Below w.heap.size w wr)) (fun i _ => 4 - (intOf i).toNat)
  case atStart => exact ⟨0, Nat.zero_le _, rfl, HW, (Below.refl _ _).alloc (Nat.le_refl _) _⟩
  case round =>
    obtain ⟨k, hk, rfl, HW', HB⟩ := hrel
    clear HW
    by_cases hlt : k < 4
    · obtain ⟨b, off, e, _, hc, hf⟩ := HW'.out k hlt
      cases e
      rw [Nat.zero_add] at hc hf
      have HN := hid (HW'.out.set k hlt (.int .i64 (-1)))
      go_wp2
      refine ⟨⟨k + 1, by omega, by go_num, ?_, below_set HB.out w.heap.size k _ (Nat.le_refl _)⟩, by simp [intOf]; omega⟩
      have := HN.out
      rw [Nat.zero_add] at this
      exact this.congr (fun j _ => by
        by_cases h1 : j = k
        · subst h1; rw [if_pos rfl, if_pos (by omega)]
        · by_cases h2 : j < k
          · rw [if_neg h1, if_pos h2, if_pos (by omega)]
          · rw [if_neg h1, if_neg h2, if_neg (by omega)])
    · obtain rfl : k = 4 := by omega
      go_wp2
      go_ret
      refine ⟨_, _, rfl, ?_, HB.out⟩
      unfold IntsW
      exact HW'.out.congr (fun i hi => by
        rw [if_pos hi]
        have : i = 0 ∨ i = 1 ∨ i = 2 ∨ i = 3 := by have h4 : i < 4 := hi; omega
        rcases this with rfl | rfl | rfl | rfl <;> rfl)

end Go.Proofs.YtaopkchkhdbfnaaGreatDoor.Fm

namespace Go.Proofs.YtaopkchkhdbfnaaGreatDoor.Mem
open Go.RowKit Classical
set_option linter.unusedVariables false

set_option maxRecDepth 100000 in
set_option maxHeartbeats 1000000 in
theorem eqWriteS (w : World) (a b : Option Addr) (ca cb : Nat) (l m : List Wt) (S : Wts w a l) (T : Wts w b m) (hl : l.length ≤ maxLen) (hm : m.length ≤ maxLen) :
    Calls Tryz.prog 107 #[.slice a l.length ca, .slice b m.length cb] w fun e w' => e = .returned (.bool (decide (l = m))) ∧ Below w.heap.size w w' := by
  unfold maxLen at hl hm
  have HS := hid S
  have HT := hid T
  clear S T
  by_cases hne : l.length = m.length
  · have Hne := hid hne
    rw [← hne]
    clear hne hm
    generalize hq : decide (l = m) = q
    have HQ := hid hq
    clear hq
    go_enter Tryz.func107, Tryz.ntmps107
    go_wp2
    go_loopw [5] (fun i wr => ∃ k : Nat, k ≤ l.length ∧ i = .int .i64 (k : Int) ∧ Hid (∀ j, j < k → l.getD j Wt.none = m.getD j Wt.none) ∧ Hid (Below w.heap.size w wr)) (fun i _ => l.length - (intOf i).toNat)
    case atStart => exact ⟨0, Nat.zero_le _, rfl, fun j hj => by omega, Below.refl _ _⟩
    case round =>
      obtain ⟨k, hk, rfl, HJ, HB⟩ := hrel
      by_cases hlt : k < l.length
      · obtain ⟨b1, o1, rfl, c0, c1, c2, c3⟩ := Wts.at_ (HS.out.below HB.out) k hlt
        obtain ⟨b2, o2, rfl, d0, d1, d2, d3⟩ := Wts.at_ (HT.out.below HB.out) k (Hne.out ▸ hlt)
        generalize hx : l.getD k Wt.none = x at c0 c1 c2 c3
        generalize hy : m.getD k Wt.none = y at d0 d1 d2 d3
        have HX := hid hx
        have HY := hid hy
        clear hx hy
        by_cases he : x = y
        · have he' := decide_eq_true he
          have HE := hid he
          clear he
          go_wp2
          go_region_with (go_at_call 156; refine (eqWrite _ x y).mono ?_; rintro e w1 ⟨rfl, hb1⟩)
          all_goals (have HB1 := hid (HB.out.drew.trans (hb1.mono HB.out.size)); clear hb1 c0 c1 c2 c3 d0 d1 d2 d3; go_wp2)
          all_goals exact ⟨⟨k + 1, by omega, by go_num, fun j hj => by
            by_cases h : j = k
            · subst h; rw [HX.out, HY.out]; exact HE.out
            · exact HJ.out j (by omega), HB1⟩, by simp [intOf]; omega⟩
        · have he' := decide_eq_false he
          have HE := hid he
          clear he
          go_wp2
          go_region_with (go_at_call 156; refine (eqWrite _ x y).mono ?_; rintro e w1 ⟨rfl, hb1⟩)
          all_goals (have HB1 := hid (HB.out.drew.trans (hb1.mono HB.out.size)); clear hb1 c0 c1 c2 c3 d0 d1 d2 d3; go_wp2)
          all_goals go_ret
          all_goals (refine ⟨?_, HB1.out⟩; rw [← HQ.out, decide_eq_false (fun e => HE.out (by rw [← HX.out, ← HY.out, e]))]; rfl)
      · obtain rfl : k = l.length := by omega
        go_wp2
        go_ret
        refine ⟨?_, HB.out⟩
        rw [← HQ.out, decide_eq_true (getD_ext Wt.none Hne.out HJ.out)]
        rfl
  · have hne' : ¬ (l.length : Int) = (m.length : Int) := by omega
    have HQ := hid (decide_eq_false (p := l = m) (fun e => hne (by rw [e])))
    rw [HQ.out]
    go_enter Tryz.func107, Tryz.ntmps107
    go_wp2
    go_ret
    exact ⟨rfl, Below.refl _ _⟩

set_option maxRecDepth 100000 in
set_option maxHeartbeats 1000000 in
theorem eqDisk (w : World) (v u : Value) (D E : Dk) (h : DkR w v D) (k : DkR w u E) (hd : D.Held) (he : E.Held) :
    Calls Tryz.prog 45 #[v, u] w fun e w' => e = .returned (.bool (decide (D = E))) ∧ Below w.heap.size w w' := by
  obtain ⟨a1, c1, a2, c2, a3, c3, rfl, s1, s2, s3⟩ := h
  obtain ⟨b1, d1, b2, d2, b3, d3, rfl, t1, t2, t3⟩ := k
  obtain ⟨l1, l2, l3⟩ := D
  obtain ⟨m1, m2, m3⟩ := E
  generalize hq : decide (Dk.mk l1 l2 l3 = Dk.mk m1 m2 m3) = q
  have HQ := hid hq
  have HS1 := hid s1
  have HS2 := hid s2
  have HS3 := hid s3
  have HT1 := hid t1
  have HT2 := hid t2
  have HT3 := hid t3
  have HD := hid hd
  have HE := hid he
  clear s1 s2 s3 t1 t2 t3 hd he hq
  simp only []
  go_enter Tryz.func45, Tryz.ntmps45
  go_wp2_with fail
  obtain ⟨wc, hwc, _, A0, R0, B0⟩ := two_new w [.slice a1 l1.length c1, .slice a2 l2.length c2, .slice a3 l3.length c3] [.slice b1 m1.length d1, .slice b2 m2.length d2, .slice b3 m3.length d3] 36 36
  simp only [hwc]
  clear hwc
  refine (eqStringS wc a1 b1 c1 d1 l1 m1 (HS1.out.below B0) (HT1.out.below B0) HD.out.h1 HE.out.h1).mono ?_
  rintro e w1 ⟨rfl, hb1⟩
  replace A0 := A0.below hb1 A0.lt
  replace R0 := R0.below hb1 R0.lt
  replace B0 := B0.trans (hb1.mono B0.size)
  by_cases h1 : ¬ l1 = m1
  · have h1' := decide_eq_false h1
    have HX := hid (HQ.out.symm.trans (decide_eq_false (fun e => h1 (by injection e))))
    have HB := hid B0
    clear h1 A0 R0 B0 hb1 HQ
    go_wp2
    go_ret
    exact ⟨by rw [HX.out]; rfl, HB.out⟩
  replace h1 := Classical.not_not.mp h1
  have h1' := decide_eq_true h1
  have H1 := hid h1
  have ca := A0.c 1 rfl
  have cb := R0.c 1 rfl
  have HA := hid A0
  have HR := hid R0
  have HB := hid B0
  clear h1 A0 R0 B0 hb1
  go_wp2_with fail
  refine (eqIntS w1 a2 b2 c2 d2 l2 m2 (HS2.out.below HB.out) (HT2.out.below HB.out) HD.out.h2 HE.out.h2).mono ?_
  rintro e w2 ⟨rfl, hb2⟩
  have A0 := HA.out.below hb2 HA.out.lt
  have R0 := HR.out.below hb2 HR.out.lt
  have B0 := HB.out.trans (hb2.mono HB.out.size)
  clear HA HR HB ca cb
  by_cases h2 : ¬ l2 = m2
  · have h2' := decide_eq_false h2
    have HX := hid (HQ.out.symm.trans (decide_eq_false (fun e => h2 (by injection e))))
    have HB := hid B0
    clear h2 A0 R0 B0 hb2 HQ
    go_wp2
    go_ret
    exact ⟨by rw [HX.out]; rfl, HB.out⟩
  replace h2 := Classical.not_not.mp h2
  have h2' := decide_eq_true h2
  have H2 := hid h2
  have ca := A0.c 2 rfl
  have cb := R0.c 2 rfl
  have HB := hid B0
  clear h2 A0 R0 B0 hb2
  go_wp2_with fail
  refine (eqWriteS w2 a3 b3 c3 d3 l3 m3 (HS3.out.below HB.out) (HT3.out.below HB.out) HD.out.h3 HE.out.h3).mono ?_
  rintro e w3 ⟨rfl, hb3⟩
  have HB3 := hid (HB.out.trans (hb3.mono HB.out.size))
  clear HB ca cb hb3
  by_cases h3 : l3 = m3
  · have h3' := decide_eq_true h3
    have HX := hid (HQ.out.symm.trans (decide_eq_true (by rw [H1.out, H2.out, h3])))
    clear h3 HQ
    go_wp2
    go_ret
    exact ⟨by rw [HX.out]; rfl, HB3.out⟩
  · have h3' := decide_eq_false h3
    have HX := hid (HQ.out.symm.trans (decide_eq_false (fun e => h3 (by injection e))))
    clear h3 HQ
    go_wp2
    go_ret
    exact ⟨by rw [HX.out]; rfl, HB3.out⟩

end Go.Proofs.YtaopkchkhdbfnaaGreatDoor.Mem

namespace Go.Proofs.YtaopkchkhdbfnaaGreatDoor.Mem
open Go.RowKit
set_option linter.unusedVariables false

/-- A write is one of the disk's. -/
def Wt.okIn (D : Dk) (x : Wt) : Prop := (0 ≤ x.host ∧ x.host < 3) ∧ x.epoch = D.ep.getD x.host.toNat 0 ∧ 0 ≤ x.sector ∧ x.sector < (D.sec.length : Int) ∧ (x.text.size : Int) ≤ 700

/-- A disk is right. -/
structure Dk.Right (D : Dk) : Prop where
  n1 : 1 ≤ D.sec.length
  n2 : D.sec.length ≤ 40
  e3 : D.ep.length = 3
  p40 : D.pe.length ≤ 40
  s : ∀ j, j < D.sec.length → ((D.sec.getD j ByteArray.empty).size : Int) ≤ 700
  e : ∀ j, j < D.ep.length → 1 ≤ D.ep.getD j 0 ∧ D.ep.getD j 0 ≤ 100000
  p : ∀ j, j < D.pe.length → (D.pe.getD j Wt.none).okIn D

def Dk.right (D : Dk) : Bool := decide (1 ≤ D.sec.length ∧ D.sec.length ≤ 40 ∧ D.ep.length = 3 ∧ D.pe.length ≤ 40 ∧ (∀ j, j < D.sec.length → ((D.sec.getD j ByteArray.empty).size : Int) ≤ 700) ∧ (∀ j, j < D.ep.length → 1 ≤ D.ep.getD j 0 ∧ D.ep.getD j 0 ≤ 100000) ∧
  ∀ j, j < D.pe.length → (0 ≤ (D.pe.getD j Wt.none).host ∧ (D.pe.getD j Wt.none).host < 3) ∧ (D.pe.getD j Wt.none).epoch = D.ep.getD (D.pe.getD j Wt.none).host.toNat 0 ∧ 0 ≤ (D.pe.getD j Wt.none).sector ∧ (D.pe.getD j Wt.none).sector < (D.sec.length : Int) ∧ ((D.pe.getD j Wt.none).text.size : Int) ≤ 700)
theorem Dk.right_yes {D : Dk} (h : D.Right) : D.right = true := decide_eq_true ⟨h.n1, h.n2, h.e3, h.p40, h.s, h.e, h.p⟩
theorem Dk.right_no {D : Dk} (h : ¬ D.Right) : D.right = false := decide_eq_false (fun ⟨a, b, c, d, e, f, g⟩ => h ⟨a, b, c, d, e, f, g⟩)

set_option maxHeartbeats 400000 in
theorem l1In (x lo hi : Int) (w : World) :
    Calls Tryz.prog 31 #[.int .i64 x, .int .i64 lo, .int .i64 hi] w fun e w' => e = .returned (.bool (decide (lo ≤ x ∧ x ≤ hi))) ∧ w' = w := by
  by_cases h1 : lo ≤ x
  · by_cases h2 : x ≤ hi
    · rw [decide_eq_true (And.intro h1 h2)]
      go_enter Tryz.func31, Tryz.ntmps31
      go_wp2
      go_ret
      exact ⟨rfl, rfl⟩
    · rw [decide_eq_false (fun h => h2 h.2)]
      go_enter Tryz.func31, Tryz.ntmps31
      go_wp2
      go_ret
      exact ⟨rfl, rfl⟩
  · rw [decide_eq_false (fun h => h1 h.1)]
    go_enter Tryz.func31, Tryz.ntmps31
    go_wp2
    go_ret
    exact ⟨rfl, rfl⟩

set_option maxHeartbeats 400000 in
theorem l3Host (x : Int) (w : World) :
    Calls Tryz.prog 32 #[.int .i64 x] w fun e w' => e = .returned (.bool (decide (0 ≤ x ∧ x < 3))) ∧ w' = w := by
  by_cases h1 : 0 ≤ x
  · by_cases h2 : x < 3
    · rw [decide_eq_true (And.intro h1 h2)]
      go_enter Tryz.func32, Tryz.ntmps32
      go_wp2
      go_ret
      exact ⟨rfl, rfl⟩
    · rw [decide_eq_false (fun h => h2 h.2)]
      go_enter Tryz.func32, Tryz.ntmps32
      go_wp2
      go_ret
      exact ⟨rfl, rfl⟩
  · rw [decide_eq_false (fun h => h1 h.1)]
    go_enter Tryz.func32, Tryz.ntmps32
    go_wp2
    go_ret
    exact ⟨rfl, rfl⟩

set_option maxRecDepth 100000 in
set_option maxHeartbeats 2000000 in
theorem diskOk (w : World) (v : Value) (D : Dk) (h : DkR w v D) (hd : D.Held) :
    Calls Tryz.prog 28 #[v] w fun e w' => e = .returned (.bool D.right) ∧ Below w.heap.size w w' := by
  obtain ⟨a1, c1, a2, c2, a3, c3, rfl, s1, s2, s3⟩ := h
  obtain ⟨l1, l2, l3⟩ := D
  have HS1 := hid s1
  have HS2 := hid s2
  have HS3 := hid s3
  have d1 : l1.length ≤ 9223372036854775807 := hd.h1
  have d2 : l2.length ≤ 9223372036854775807 := hd.h2
  have d3 : l3.length ≤ 9223372036854775807 := hd.h3
  have HD := hid hd
  clear s1 s2 s3 hd
  simp only []
  have no : ¬ (Dk.mk l1 l2 l3).Right → (Dk.mk l1 l2 l3).right = false := Dk.right_no
  have yes : (Dk.mk l1 l2 l3).Right → (Dk.mk l1 l2 l3).right = true := Dk.right_yes
  generalize (Dk.mk l1 l2 l3).right = q at *
  have HN := hid no
  have HY := hid yes
  clear no yes
  go_enter Tryz.func28, Tryz.ntmps28
  go_wp2_with fail
  obtain ⟨wb, hwb, ez, A0, B0⟩ := one_new w [.slice a1 l1.length c1, .slice a2 l2.length c2, .slice a3 l3.length c3] 36
  simp only [hwb]
  clear hwb
  refine (l1In l1.length 1 40 wb).mono ?_
  rintro e w1 ⟨rfl, hw⟩
  subst hw
  have HB := hid B0
  have HA := hid A0
  have k1 := A0.c 1 rfl
  have k2 := A0.c 2 rfl
  have k0 := A0.c 0 rfl
  clear A0 B0
  by_cases g1 : ¬ (1 ≤ (l1.length : Int) ∧ (l1.length : Int) ≤ 40)
  · have g1' := decide_eq_false g1
    have HN := hid (HN.out (by intro x; have := x.n1; have := x.n2; simp only [] at *; omega))
    clear g1
    go_wp2
    go_ret
    exact ⟨by rw [HN.out]; rfl, HB.out⟩
  replace g1 := Classical.not_not.mp g1
  have g1' := decide_eq_true g1
  obtain ⟨g1a, g1b⟩ := g1
  by_cases g2 : ¬ (l2.length : Int) = 3
  · have HN := hid (HN.out (by intro x; have := x.e3; simp only [] at *; omega))
    go_wp2
    go_ret
    exact ⟨by rw [HN.out]; rfl, HB.out⟩
  replace g2 := Classical.not_not.mp g2
  by_cases g3 : 40 < (l3.length : Int)
  · have HN := hid (HN.out (by intro x; have := x.p40; simp only [] at *; omega))
    go_wp2
    go_ret
    exact ⟨by rw [HN.out]; rfl, HB.out⟩
  go_wp2
  go_loop [3] (fun i => ∃ k : Nat, k ≤ l1.length ∧ i = .int .i64 (k : Int) ∧ Hid (∀ j, j < k → ((l1.getD j ByteArray.empty).size : Int) ≤ 700)) (fun i => l1.length - (intOf i).toNat)
  case atStart => exact ⟨0, Nat.zero_le _, rfl, fun j hj => by omega⟩
  case round =>
    obtain ⟨k, hk, rfl, HJ⟩ := hrel
    by_cases hlt : k < l1.length
    · obtain ⟨b, off, rfl, hc⟩ := (HS1.out.below HB.out) k hlt
      replace hc : w1.cell? ⟨b, off + k, none⟩ = some (.string (l1.getD k ByteArray.empty)) := hc
      generalize hx : l1.getD k ByteArray.empty = x at hc
      have HX := hid hx
      clear hx
      by_cases hn : 700 < (x.size : Int)
      · have HN := hid (HN.out (by intro q; have := q.s k hlt; simp only [HX.out] at this; omega))
        go_wp2
        go_ret
        exact ⟨by rw [HN.out]; rfl, HB.out⟩
      · go_wp2
        go_round
        case rel => exact ⟨k + 1, by omega, by go_num, fun j hj => by
          by_cases h : j = k
          · subst h; rw [HX.out]; omega
          · exact HJ.out j (by omega)⟩
        case measure => simp [intOf]; omega
    obtain rfl : k = l1.length := by omega
    go_wp2
    go_loop [4] (fun i => ∃ k : Nat, k ≤ l2.length ∧ i = .int .i64 (k : Int) ∧ Hid (∀ j, j < k → 1 ≤ l2.getD j 0 ∧ l2.getD j 0 ≤ 100000)) (fun i => l2.length - (intOf i).toNat)
    case atStart => exact ⟨0, Nat.zero_le _, rfl, fun j hj => by omega⟩
    case round =>
      obtain ⟨k, hk, rfl, HE⟩ := hrel
      by_cases hlt : k < l2.length
      · obtain ⟨b, off, rfl, hc⟩ := (HS2.out.below HB.out) k hlt
        replace hc : w1.cell? ⟨b, off + k, none⟩ = some (.int .i64 (l2.getD k 0)) := hc
        generalize hx : l2.getD k 0 = x at hc
        have HX := hid hx
        clear hx
        go_wp2_with fail
        refine (l1In x 1 100000 w1).mono ?_
        rintro e w1' ⟨rfl, hw⟩
        subst hw
        by_cases hn : 1 ≤ x ∧ x ≤ 100000
        · have hn' := decide_eq_true hn
          have HX2 := hid hn
          clear hn
          go_wp2
          exact ⟨⟨k + 1, by omega, by go_num, fun j hj => by
            by_cases h : j = k
            · subst h; rw [HX.out]; exact HX2.out
            · exact HE.out j (by omega)⟩, by simp [intOf]; omega⟩
        · have hn' := decide_eq_false hn
          have HN := hid (HN.out (by intro q; have := q.e k hlt; simp only [HX.out] at this; exact hn this))
          clear hn
          go_wp2
          go_ret
          exact ⟨by rw [HN.out]; rfl, HB.out⟩
      obtain rfl : k = l2.length := by omega
      go_wp2
      go_loopw [5] (fun i wr => ∃ k : Nat, k ≤ l3.length ∧ i = .int .i64 (k : Int) ∧ Hid (∀ j, j < k → (l3.getD j Wt.none).okIn (Dk.mk l1 l2 l3)) ∧ Hid (Below w1.heap.size w1 wr)) (fun i _ => l3.length - (intOf i).toNat)
      case atStart => exact ⟨0, Nat.zero_le _, rfl, fun j hj => by omega, Below.refl _ _⟩
      case round =>
        obtain ⟨k, hk, rfl, HP, HB'⟩ := hrel
        have A0 := HA.out.below HB'.out HA.out.lt
        have HBw := hid (HB.out.trans (HB'.out.mono HB.out.size))
        have m0 := A0.c 0 rfl
        have m1 := A0.c 1 rfl
        have m2 := A0.c 2 rfl
        by_cases hlt : k < l3.length
        · obtain ⟨b, off, rfl, x0, x1, x2, x3⟩ := Wts.at_ (HS3.out.below HBw.out) k hlt
          generalize hx : l3.getD k Wt.none = x at x0 x1 x2 x3
          have HX := hid hx
          clear hx
          have HA' := hid A0
          clear A0
          obtain ⟨xh, xe, xs, xt⟩ := x
          simp only [] at x0 x1 x2 x3
          go_wp2
          obtain ⟨wa, hwa, ea, R0, B0⟩ := one_new wr [.int .i64 xh, .int .i64 xe, .int .i64 xs, .string xt] 148
          simp only [hwa]
          clear hwa
          have HB1 := hid (HB'.out.trans (B0.mono HB'.out.size))
          have HBw1 := hid (HB.out.trans (HB1.out.mono HB.out.size))
          replace m0 := (HA'.out.below B0 HA'.out.lt).c 0 rfl
          replace m1 := (HA'.out.below B0 HA'.out.lt).c 1 rfl
          have y0 := R0.c 0 rfl
          have y1 := R0.c 1 rfl
          have y2 := R0.c 2 rfl
          have y3 := R0.c 3 rfl
          clear m2 x0 x1 x2 x3 k0 k1 k2 B0 R0 ea
          by_cases q1 : ¬ (0 ≤ xh ∧ xh < 3)
          · have q1' := decide_eq_false q1
            have HN := hid (HN.out (by intro q; have := (q.p k hlt).1; simp only [HX.out] at this; exact q1 this))
            clear q1
            go_quiet ((go_at_call 32; refine Calls.quiet_of_same (l3Host _ _)))
            go_wp2
            go_ret
            exact ⟨by rw [HN.out]; rfl, below_drewN HBw1.out _⟩
          replace q1 := Classical.not_not.mp q1
          have q1' := decide_eq_true q1
          have HQ1 := hid q1
          obtain ⟨n, rfl⟩ : ∃ n : Nat, xh = (n : Int) := Int.eq_ofNat_of_zero_le q1.1
          have hn3 : (n : Int) < 3 := q1.2
          clear q1
          obtain ⟨b2, o2, rfl, hc⟩ := (HS2.out.below HBw1.out) n (by omega)
          replace hc : wa.cell? ⟨b2, o2 + n, none⟩ = some (.int .i64 (l2.getD n 0)) := hc
          generalize hy : l2.getD n 0 = y at hc
          have HYE := hid hy
          clear hy
          by_cases q2 : ¬ xe = y
          · have q2' := decide_eq_false q2
            have HN := hid (HN.out (by intro q; have := (q.p k hlt).2.1; simp only [HX.out, Int.toNat_natCast, HYE.out] at this; exact q2 this))
            go_quiet ((go_at_call 32; refine Calls.quiet_of_same (l3Host _ _)))
            go_wp2
            go_ret
            exact ⟨by rw [HN.out]; rfl, below_drewN HBw1.out _⟩
          obtain rfl := Classical.not_not.mp q2
          clear q2
          by_cases q3 : xs < 0
          · have q3' := decide_eq_true q3
            have HN := hid (HN.out (by intro q; have := (q.p k hlt).2.2.1; simp only [HX.out] at this; omega))
            go_quiet ((go_at_call 32; refine Calls.quiet_of_same (l3Host _ _)))
            go_wp2
            go_ret
            exact ⟨by rw [HN.out]; rfl, below_drewN HBw1.out _⟩
          have q3' := decide_eq_false q3
          by_cases q4 : (l1.length : Int) ≤ xs
          · have q4' := decide_eq_true q4
            have HN := hid (HN.out (by intro q; have := (q.p k hlt).2.2.2.1; simp only [HX.out] at this; omega))
            go_quiet ((go_at_call 32; refine Calls.quiet_of_same (l3Host _ _)))
            go_wp2
            go_ret
            exact ⟨by rw [HN.out]; rfl, below_drewN HBw1.out _⟩
          have q4' := decide_eq_false q4
          by_cases q5 : 700 < (xt.size : Int)
          · have q5' := decide_eq_true q5
            have HN := hid (HN.out (by intro q; have := (q.p k hlt).2.2.2.2; simp only [HX.out] at this; omega))
            go_quiet ((go_at_call 32; refine Calls.quiet_of_same (l3Host _ _)))
            go_wp2
            go_ret
            exact ⟨by rw [HN.out]; rfl, below_drewN HBw1.out _⟩
          have q5' := decide_eq_false q5
          go_quiet ((go_at_call 32; refine Calls.quiet_of_same (l3Host _ _)))
          go_wp2
          exact ⟨⟨k + 1, by omega, by go_num, fun j hj => by
            by_cases h : j = k
            · subst h
              rw [HX.out]
              exact ⟨HQ1.out, by simpa using HYE.out.symm, by show 0 ≤ xs; omega, by show xs < (l1.length : Int); omega, by show (xt.size : Int) ≤ 700; omega⟩
            · exact HP.out j (by omega), below_drewN HB1.out _⟩, by simp [intOf]; omega⟩
        obtain rfl : k = l3.length := by omega
        have HY := hid (HY.out ⟨by show 1 ≤ l1.length; omega, by show l1.length ≤ 40; omega, by show l2.length = 3; omega, by show l3.length ≤ 40; omega, HJ.out, HE.out, HP.out⟩)
        go_wp2
        go_ret
        exact ⟨by rw [HY.out]; rfl, HBw.out⟩

end Go.Proofs.YtaopkchkhdbfnaaGreatDoor.Mem

namespace Go.Proofs.YtaopkchkhdbfnaaGreatDoor.Mem
open Go.RowKit Classical
set_option linter.unusedVariables false

/-- There is such a host and such a sector. -/
def Dk.There (D : Dk) (h s : Int) : Prop := (0 ≤ h ∧ h < 3) ∧ 0 ≤ s ∧ s < (D.sec.length : Int)

/-- What a host sees of a sector behind the first k writes under way. -/
def Dk.see (D : Dk) (h s : Int) : Nat → ByteArray
  | 0 => D.sec.getD s.toNat ByteArray.empty
  | k + 1 => if (D.pe.getD k Wt.none).host = h ∧ (D.pe.getD k Wt.none).sector = s then (D.pe.getD k Wt.none).text else D.see h s k

/-- What Peek answers. -/
def Dk.peek (D : Dk) (h s : Int) : ByteArray × Bool := if D.right = true ∧ (0 ≤ h ∧ h < 3) ∧ 0 ≤ s ∧ s < (D.sec.length : Int) then (D.see h s D.pe.length, true) else (ByteArray.empty, false)

end Go.Proofs.YtaopkchkhdbfnaaGreatDoor.Mem

namespace Go.Proofs.YtaopkchkhdbfnaaGreatDoor.Mem
open Go.RowKit Go.ChangeShapes Go.WideShapes Go.ChangeAt Go.Joins Go.Deep
set_option linter.unusedVariables false

variable {H : Type} {enc : TypeId × Value → H} {W : World} {base : Nat} {spare : Nat → Bool} {held : Bool}

theorem sl_of_add {w : World} {a : Addr} {m : Nat} {f : Nat → Value} (h : ∀ i, i < m → w.cell? (a.add i) = some (f i)) : Sl w (some a) m f := by
  intro i hi
  have hc := h i hi
  obtain ⟨b, off, sp⟩ := a
  have hs : sp = none := by simpa [Addr.add] using World.cell?_spot (h 0 (by omega))
  subst hs
  rw [Addr.add_mid] at hc
  exact ⟨b, off, rfl, hc⟩

theorem strs_in {fuel : Nat} {v : Value} {x : DataW H × List MemPlace} (h : DataW.trod enc Tryz.prog W base spare held fuel 22 [v] = some x) :
    ∃ a cap l, v = .slice a (l : List ByteArray).length cap ∧ Strs W a l ∧ l.length ≤ maxLen ∧ ∀ s ∈ l, s.size ≤ maxLen := by
  rcases open_strs Tryz.underlying22 Tryz.underlying9 (by kernel_rfl) h with ⟨hcs, _⟩ | ⟨a, len, cap, m, Sx, hcs, _, hl, hm, hmm, _, hx⟩
  · simp only [List.cons.injEq, and_true] at hcs
    exact ⟨none, 0, [], hcs, fun i hi => by simp at hi, by simp, by simp⟩
  · simp only [List.cons.injEq, and_true] at hcs
    have hlm : len ≤ m := by rw [hmm]; split <;> omega
    refine ⟨some a, cap, (List.range len).map Sx, by rw [hcs]; simp, ?_, by simp; omega, ?_⟩
    · unfold Strs
      rw [List.length_map, List.length_range]
      refine sl_of_add (fun i hi => ?_)
      rw [(hx i (by omega)).1]
      simp [List.getD, hi]
    · intro s hs
      obtain ⟨i, hi, rfl⟩ := List.mem_map.1 hs
      exact (hx i (by have := List.mem_range.1 hi; omega)).2

theorem ints_in {fuel : Nat} {v : Value} {x : DataW H × List MemPlace} (h : DataW.trod enc Tryz.prog W base spare held fuel 23 [v] = some x) :
    ∃ a cap l, v = .slice a (l : List Int).length cap ∧ Ints W a l ∧ l.length ≤ maxLen ∧ ∀ z ∈ l, -9223372036854775808 ≤ z ∧ z ≤ 9223372036854775807 := by
  rcases open_ints Tryz.underlying23 Tryz.underlying3 (by kernel_rfl) h with ⟨hcs, _⟩ | ⟨a, len, cap, zs, hcs, _, hl, hm, hz, _, hcell, hwz⟩
  · simp only [List.cons.injEq, and_true] at hcs
    exact ⟨none, 0, [], hcs, fun i hi => by simp at hi, by simp, by simp⟩
  · simp only [List.cons.injEq, and_true] at hcs
    have hlm : len ≤ zs.length := by rw [hz]; split <;> omega
    have e : (zs.take len).length = len := by simp; omega
    refine ⟨some a, cap, zs.take len, by rw [hcs, e], ?_, by omega, fun z hz' => bounds_i64 (hwz z (List.mem_of_mem_take hz'))⟩
    unfold Ints
    rw [e]
    refine sl_of_add (fun i hi => ?_)
    rw [hcell i (by omega)]
    simp [List.getD, hi]

set_option maxRecDepth 100000 in
/-- The four fields of a write. -/
theorem write_in {fuel : Nat} {cs : List Value} {x : DataW H × List MemPlace} (h : DataW.trod enc Tryz.prog W base spare held fuel 197 cs = some x) :
    ∃ y : Wt, cs = y.cells ∧ y.text.size ≤ maxLen := by
  obtain ⟨xs, n, _, rfl, hl, hlen, hf⟩ := DataW.trod_struct Tryz.underlying197 h
  have c4 : Tryz.prog.cellsOf 197 = 4 := by kernel_rfl
  have cs3 : Tryz.prog.cellsOf 3 = 1 := by kernel_rfl
  have cs9 : Tryz.prog.cellsOf 9 = 1 := by kernel_rfl
  rw [c4] at hl
  match xs, hlen, cs, hl with
  | [y0, y1, y2, y3], _, [v0, v1, v2, v3], _ =>
    have f0 : DataW.trod enc Tryz.prog W base spare held n 3 [v0] = some y0 := by simpa [cs3] using hf 0 _ rfl
    have f1 : DataW.trod enc Tryz.prog W base spare held n 3 [v1] = some y1 := by simpa [cs3] using hf 1 _ rfl
    have f2 : DataW.trod enc Tryz.prog W base spare held n 3 [v2] = some y2 := by simpa [cs3] using hf 2 _ rfl
    have f3 : DataW.trod enc Tryz.prog W base spare held n 9 [v3] = some y3 := by simpa [cs9] using hf 3 _ rfl
    obtain ⟨n0, e0, _, _⟩ := DataW.trod_int Tryz.underlying3 f0
    obtain ⟨n1, e1, _, _⟩ := DataW.trod_int Tryz.underlying3 f1
    obtain ⟨n2, e2, _, _⟩ := DataW.trod_int Tryz.underlying3 f2
    obtain ⟨s3, e3, _, hs⟩ := DataW.trod_string Tryz.underlying9 f3
    simp only [List.cons.injEq, and_true] at e0 e1 e2 e3
    subst e0; subst e1; subst e2; subst e3
    exact ⟨⟨n0, n1, n2, s3⟩, rfl, hs⟩

set_option maxRecDepth 100000 in
theorem writes_in {fuel : Nat} {v : Value} {x : DataW H × List MemPlace} (h : DataW.trod enc Tryz.prog W base spare held fuel 24 [v] = some x) :
    ∃ a cap l, v = .slice a (l : List Wt).length cap ∧ Wts W a l ∧ l.length ≤ maxLen ∧ ∀ y ∈ l, y.text.size ≤ maxLen := by
  have c4 : Tryz.prog.cellsOf 197 = 4 := by kernel_rfl
  rcases open_slice Tryz.underlying24 h with ⟨hcs, _⟩ | ⟨a, len, cap, m, n, D, Pl, hcs, _, hl, hm, hmm, _, hx⟩
  · simp only [List.cons.injEq, and_true] at hcs
    exact ⟨none, 0, [], hcs, fun i hi => by simp at hi, by simp, by simp⟩
  · simp only [List.cons.injEq, and_true] at hcs
    have hlm : len ≤ m := by rw [hmm]; split <;> omega
    have each : ∀ i, ∃ y : Wt, i < len → W.cells? base (a.add (i * 4)) 4 = some y.cells ∧ y.text.size ≤ maxLen := fun i => by
      by_cases hi : i < len
      · obtain ⟨cs', hc, ht⟩ := hx i (by omega)
        rw [c4] at hc
        obtain ⟨y, rfl, hy⟩ := write_in ht
        exact ⟨y, fun _ => ⟨hc, hy⟩⟩
      · exact ⟨Wt.none, fun h => absurd h hi⟩
    obtain ⟨Y, hY⟩ := Classical.axiomOfChoice each
    refine ⟨some a, cap, (List.range len).map Y, by rw [hcs]; simp, ?_, by simp; omega, ?_⟩
    · unfold Wts
      rw [List.length_map, List.length_range]
      refine sl_of_add (fun i hi => ?_)
      have hq : i / 4 < len := by omega
      have hc := (World.cells?_some (hY (i / 4) hq).1).2.2 (i % 4) (by omega)
      rw [Addr.add_add, show i / 4 * 4 + i % 4 = i by omega] at hc
      rw [hc]
      unfold wcell
      have e : ((List.range len).map Y).getD (i / 4) Wt.none = Y (i / 4) := by simp [List.getD, hq]
      rw [e]
      have : i % 4 = 0 ∨ i % 4 = 1 ∨ i % 4 = 2 ∨ i % 4 = 3 := by omega
      rcases this with h | h | h | h <;> rw [h] <;> rfl
    · intro s hs
      obtain ⟨i, hi, rfl⟩ := List.mem_map.1 hs
      exact (hY i (List.mem_range.1 hi)).2

set_option maxRecDepth 100000 in
/-- A disk that came in. -/
theorem disk_in {v : Value} {d : DataW H} {p : List MemPlace} {r : Reach} {b0 : Nat} (hv : Value.okWide Tryz.prog W r b0 26 v) (h : DataW.Trod enc Tryz.prog W base spare held 26 v d p) :
    ∃ D : Dk, DkR W v D ∧ D.Held := by
  obtain ⟨v0, v1, v2, y0, y1, y2, n, rfl, _, _, h0, h1, h2⟩ := open_agg3 Tryz.underlying26 (by kernel_rfl) (by kernel_rfl) hv h
  obtain ⟨a1, c1, l1, rfl, s1, n1, t1⟩ := strs_in h0
  obtain ⟨a2, c2, l2, rfl, s2, n2, _⟩ := ints_in h1
  obtain ⟨a3, c3, l3, rfl, s3, n3, t3⟩ := writes_in h2
  exact ⟨⟨l1, l2, l3⟩, ⟨a1, c1, a2, c2, a3, c3, rfl, s1, s2, s3⟩, ⟨n1, n2, n3, t1, t3⟩⟩

end Go.Proofs.YtaopkchkhdbfnaaGreatDoor.Mem

namespace Go.Proofs.YtaopkchkhdbfnaaGreatDoor.Pl
open Go.RowKit Go.ChangeShapes Go.WideShapes Go.ChangeAt Go.Joins Go.Deep
open Go.Proofs.YtaopkchkhdbfnaaGreatDoor.Mem Go.Proofs.YtaopkchkhdbfnaaGreatDoor.Sec
set_option linter.unusedVariables false

/-- A world: its disk, its hosts, what landed, what was seen and what was replied. -/
structure Wd where
  D : Dk
  hs : List Ho
  log : List Ev
  seen : List Int
  rep : List Rp

def wdL (a1 a2 a3 a4 a5 a6 a7 : Option Addr) (c1 c2 c3 c4 c5 c6 c7 : Nat) (n1 n2 n3 n4 n5 n6 n7 : Nat) : List Value := [.slice a1 n1 c1, .slice a2 n2 c2, .slice a3 n3 c3, .slice a4 n4 c4, .slice a5 n5 c5, .slice a6 n6 c6, .slice a7 n7 c7]

/-- v is the world X in w. -/
def WdR (w : World) (v : Value) (X : Wd) : Prop := ∃ a1 c1 a2 c2 a3 c3 a4 c4 a5 c5 a6 c6 a7 c7, ∃ L : List Hx, v = .agg #[.slice a1 X.D.sec.length c1, .slice a2 X.D.ep.length c2, .slice a3 X.D.pe.length c3, .slice a4 L.length c4, .slice a5 X.log.length c5, .slice a6 X.seen.length c6, .slice a7 X.rep.length c7] ∧ L.map (·.H) = X.hs ∧
  Strs w a1 X.D.sec ∧ Ints w a2 X.D.ep ∧ Wts w a3 X.D.pe ∧ Hos w a4 L ∧ Evs w a5 X.log ∧ Ints w a6 X.seen ∧ Rps w a7 X.rep

theorem WdR.below {w w' : World} {v : Value} {X : Wd} (h : WdR w v X) (b : Below w.heap.size w w') : WdR w' v X := by
  obtain ⟨a1, c1, a2, c2, a3, c3, a4, c4, a5, c5, a6, c6, a7, c7, L, e, m, s1, s2, s3, s4, s5, s6, s7⟩ := h
  exact ⟨a1, c1, a2, c2, a3, c3, a4, c4, a5, c5, a6, c6, a7, c7, L, e, m, Sl.below s1 b, Sl.below s2 b, Sl.below s3 b, Hos.below s4 b, Sl.below s5 b, Sl.below s6 b, Sl.below s7 b⟩

/-- All lists and texts are of at most 2^20. -/
structure Wd.Small (X : Wd) : Prop where
  d1 : X.D.sec.length ≤ 1048576
  d2 : X.D.ep.length ≤ 1048576
  d3 : X.D.pe.length ≤ 1048576
  h : X.hs.length ≤ 1048576
  hh : ∀ x ∈ X.hs, x.Upto 1048576
  e : X.log.length ≤ 1048576
  s : X.seen.length ≤ 1048576
  r : X.rep.length ≤ 1048576
  dt : ∀ x ∈ X.D.sec, x.size ≤ 1048576
  dw : ∀ x ∈ X.D.pe, x.text.size ≤ 1048576
  et : ∀ x ∈ X.log, x.s.size ≤ 1048576
  rt : ∀ x ∈ X.rep, x.s.size ≤ 1048576 ∧ x.d.size ≤ 1048576

/-- All that Go can hold. -/
structure Wd.Held (X : Wd) : Prop where
  d : X.D.Held
  h : X.hs.length ≤ maxLen
  hh : ∀ x ∈ X.hs, x.Upto maxLen
  e : X.log.length ≤ maxLen
  et : ∀ x ∈ X.log, x.s.size ≤ maxLen
  s : X.seen.length ≤ maxLen
  r : X.rep.length ≤ maxLen
  rt : ∀ x ∈ X.rep, x.s.size ≤ maxLen ∧ x.d.size ≤ maxLen

set_option maxRecDepth 100000 in
set_option maxHeartbeats 4000000 in
theorem szWorld (w : World) (v : Value) (X : Wd) (left : Int) (h : WdR w v X) (hh : X.Held) (h0 : 0 ≤ left) (h1 : left ≤ 1048576) :
    Calls Tryz.prog 8 #[v, .int .i64 left] w fun e w' => ∃ r, e = .returned (.int .i64 r) ∧ Below w.heap.size w w' ∧ (r < 0 ∨ X.Small) := by
  obtain ⟨a1, c1, a2, c2, a3, c3, a4, c4, a5, c5, a6, c6, a7, c7, L, rfl, hm, s1, s2, s3, s4, s5, s6, s7⟩ := h
  have HS1 := hid (show DkR w (.agg #[.slice a1 X.D.sec.length c1, .slice a2 X.D.ep.length c2, .slice a3 X.D.pe.length c3]) X.D from ⟨a1, c1, a2, c2, a3, c3, rfl, s1, s2, s3⟩)
  have HS4 := hid s4
  have HS5 := hid s5
  have HS6 := hid s6
  have HS7 := hid s7
  have HH := hid hh
  have HM := hid hm
  have HLl : Hid (L.length ≤ maxLen) := by have := hh.h; rw [← hm, List.length_map] at this; exact this
  have HLx : Hid (∀ x ∈ L, x.H.Upto maxLen) := fun x hx => hh.hh _ (by rw [← hm]; exact List.mem_map_of_mem hx)
  have hln : L.length = X.hs.length := by rw [← hm, List.length_map]
  have HLN := hid hln
  clear s1 s2 s3 s4 s5 s6 s7 hh hm hln
  obtain ⟨wa, hwa, ez, A0, B0⟩ := one_new w [.slice a1 X.D.sec.length c1, .slice a2 X.D.ep.length c2, .slice a3 X.D.pe.length c3, .slice a4 L.length c4, .slice a5 X.log.length c5, .slice a6 X.seen.length c6, .slice a7 X.rep.length c7] 31
  have k0 := A0.c 0 rfl
  have k1 := A0.c 1 rfl
  have k2 := A0.c 2 rfl
  have HA := hid A0
  have HB := hid B0
  clear A0 B0 ez
  go_enter Tryz.func8, Tryz.ntmps8
  go_wp2_with fail
  try simp only [hwa]
  clear hwa
  refine (szDisk wa _ X.D left (HS1.out.below HB.out) HH.out.d h0 h1).mono ?_
  rintro e w1 ⟨r1, rfl, b1, f1⟩
  have HA1 := hid (HA.out.below b1 HA.out.lt)
  have HB1 := hid (HB.out.trans (b1.mono HB.out.size))
  have HF1 := hid f1
  clear b1 f1 k0 k1 k2 HA HB
  by_cases hr1 : r1 < 0
  · go_wp2
    go_ret
    exact ⟨_, rfl, HB1.out, Or.inl (by decide)⟩
  have hq1 : 0 ≤ r1 := by omega
  have hq1' : r1 ≤ 1048576 := by
    have := HF1.out
    rcases this with h | h
    · omega
    · have := h.2.1; omega
  have k3 := HA1.out.c 3 rfl
  go_wp2_with fail
  refine (szHostS w1 a4 c4 L r1 (HS4.out.below HB1.out) HLl.out HLx.out hq1 hq1').mono ?_
  rintro e w2 ⟨r2, rfl, b2, f2⟩
  have HA2 := hid (HA1.out.below b2 HA1.out.lt)
  have HB2 := hid (HB1.out.trans (b2.mono HB1.out.size))
  have HF2 := hid f2
  clear b2 f2 k3 HA1 HB1
  by_cases hr2 : r2 < 0
  · go_wp2
    go_ret
    exact ⟨_, rfl, HB2.out, Or.inl (by decide)⟩
  have hq2 : 0 ≤ r2 := by omega
  have hq2' : r2 ≤ 1048576 := by
    rcases HF2.out with h | h
    · omega
    · have := h.2.1; omega
  have k4 := HA2.out.c 4 rfl
  go_wp2_with fail
  refine (szEventS w2 a5 c5 X.log r2 (Sl.below HS5.out HB2.out) HH.out.e HH.out.et hq2 hq2').mono ?_
  rintro e w3 ⟨r3, rfl, b3, f3⟩
  have HA3 := hid (HA2.out.below b3 HA2.out.lt)
  have HB3 := hid (HB2.out.trans (b3.mono HB2.out.size))
  have HF3 := hid f3
  clear b3 f3 k4 HA2 HB2
  by_cases hr3 : r3 < 0
  · go_wp2
    go_ret
    exact ⟨_, rfl, HB3.out, Or.inl (by decide)⟩
  have hq3 : 0 ≤ r3 := by omega
  have hq3' : r3 ≤ 1048576 := by
    rcases HF3.out with h | h
    · omega
    · have := h.2.1; omega
  have k5 := HA3.out.c 5 rfl
  have hsl : X.seen.length ≤ maxLen := HH.out.s
  go_wp2_with fail
  refine (szIntS w3 a6 c6 X.seen.length r3 hsl hq3 hq3').mono ?_
  rintro e w4 ⟨r4, rfl, b4, f4⟩
  subst b4
  have HA4 := HA3
  have HB4 := HB3
  have HF4 := hid f4
  clear f4 k5 HA3 HB3 hsl
  by_cases hr4 : r4 < 0
  · go_wp2
    go_ret
    exact ⟨_, rfl, HB4.out, Or.inl (by decide)⟩
  have hq4 : 0 ≤ r4 := by omega
  have hq4' : r4 ≤ 1048576 := by
    have := HF4.out
    rcases this with h | h
    · omega
    · have := h.2.1; omega
  have k6 := HA4.out.c 6 rfl
  go_wp2_with fail
  refine (szReplyS w4 a7 c7 X.rep r4 (Sl.below HS7.out HB4.out) HH.out.r HH.out.rt hq4 hq4').mono ?_
  rintro e w5 ⟨r5, rfl, b5, f5⟩
  have HB5 := hid (HB4.out.trans (b5.mono HB4.out.size))
  have HF5 := hid f5
  clear b5 f5 k6 HB4
  by_cases hr5 : r5 < 0
  · go_wp2
    go_ret
    exact ⟨_, rfl, HB5.out, Or.inl (by decide)⟩
  · have HX : Hid X.Small := by
      have g1 : X.D.Small left := by
        rcases HF1.out with h | h
        · omega
        · exact h.2.2
      have g1r : r1 ≤ left := by
        rcases HF1.out with h | h
        · omega
        · exact h.2.1
      have g2 : r2 ≤ r1 ∧ (L.length : Int) ≤ r1 ∧ ∀ x ∈ L, x.H.Upto 1048576 := by
        rcases HF2.out with h | h
        · omega
        · exact h.2
      have g3 : r3 ≤ r2 ∧ (X.log.length : Int) ≤ r2 ∧ ∀ x ∈ X.log, (x.s.size : Int) ≤ r2 := by
        rcases HF3.out with h | h
        · omega
        · exact h.2
      have g4 : r4 ≤ r3 ∧ (X.seen.length : Int) ≤ r3 := by
        rcases HF4.out with h | h
        · omega
        · exact h.2
      have g5 : r5 ≤ r4 ∧ (X.rep.length : Int) ≤ r4 ∧ ∀ x ∈ X.rep, (x.s.size : Int) ≤ r4 ∧ (x.d.size : Int) ≤ r4 := by
        rcases HF5.out with h | h
        · omega
        · exact h.2
      obtain ⟨q1, q2, q3, q4, q5⟩ := g1
      have hln := HLN.out
      have gm : ∀ x ∈ X.hs, x.Upto 1048576 := fun x hx => by
        rw [← HM.out] at hx
        obtain ⟨y, hy, rfl⟩ := List.mem_map.1 hx
        exact g2.2.2 y hy
      refine ⟨by omega, by omega, by omega, by omega, gm, by omega, by omega, by omega, fun x hx => ?_, fun x hx => ?_, fun x hx => ?_, fun x hx => ?_⟩
      · have := q4 x hx; omega
      · have := q5 x hx; omega
      · have := g3.2.2 x hx; omega
      · have := g5.2.2 x hx; omega
    go_wp2
    go_ret
    exact ⟨_, rfl, HB5.out, Or.inr HX.out⟩

set_option maxRecDepth 100000 in
set_option maxHeartbeats 4000000 in
theorem toWorld (w : World) (v : Value) (X : Wd) (h : WdR w v X) (hs : X.Small) :
    Calls Tryz.prog 10 #[v] w fun e w' => ∃ v', e = .returned v' ∧ WdR w' v' X ∧ Below w.heap.size w w' := by
  obtain ⟨a1, c1, a2, c2, a3, c3, a4, c4, a5, c5, a6, c6, a7, c7, L, rfl, hm, s1, s2, s3, s4, s5, s6, s7⟩ := h
  have HS1 := hid (show DkR w (.agg #[.slice a1 X.D.sec.length c1, .slice a2 X.D.ep.length c2, .slice a3 X.D.pe.length c3]) X.D from ⟨a1, c1, a2, c2, a3, c3, rfl, s1, s2, s3⟩)
  have HS4 := hid s4
  have HS5 := hid s5
  have HS6 := hid s6
  have HS7 := hid s7
  have HM := hid hm
  have hl1 := hs.d1
  have hl2 := hs.d2
  have hl3 := hs.d3
  have hl4 : L.length ≤ 1048576 := by have := hs.h; rw [← hm, List.length_map] at this; exact this
  have HL4 : Hid (∀ x ∈ L, x.H.l.length ≤ 1048576) := fun x hx => (hs.hh _ (by rw [← hm]; exact List.mem_map_of_mem hx)).l
  have hl5 := hs.e
  have hl6 := hs.s
  have hl7 := hs.r
  clear s1 s2 s3 s4 s5 s6 s7 hm hs
  go_enter Tryz.func10, Tryz.ntmps10
  go_wp2_with fail
  obtain ⟨wc, hwc, e2, A0, R0, O0, B0⟩ := three_new w [.slice a1 X.D.sec.length c1, .slice a2 X.D.ep.length c2, .slice a3 X.D.pe.length c3, .slice a4 L.length c4, .slice a5 X.log.length c5, .slice a6 X.seen.length c6, .slice a7 X.rep.length c7] [.slice none 0 0, .slice none 0 0, .slice none 0 0, .slice none 0 0, .slice none 0 0, .slice none 0 0, .slice none 0 0] 31 41
  simp only [hwc]
  clear hwc
  refine (toDisk wc _ X.D (HS1.out.below B0) hl1 hl2 hl3).mono ?_
  rintro e w1 ⟨v1, rfl, S1, b1⟩
  have HA := hid (A0.below b1 A0.lt)
  have HR := hid (R0.below b1 R0.lt)
  have HO := hid (O0.below b1 O0.lt)
  have HB := hid (B0.trans (b1.mono (by omega)))
  have hsz := b1.size
  obtain ⟨p1, d1, p2, d2, p3, d3, rfl, t1, t2, t3, _, _⟩ := S1
  have T1 := hid (Wr.mono t1 (show w.heap.size + 1 + 1 + 1 ≤ wc.heap.size by omega))
  have T2 := hid (Wr.mono t2 (show w.heap.size + 1 + 1 + 1 ≤ wc.heap.size by omega))
  have T3 := hid (Wr.mono t3 (show w.heap.size + 1 + 1 + 1 ≤ wc.heap.size by omega))
  clear t1 t2 t3 A0 R0 O0 B0 b1
  have k3 := HA.out.c 3 rfl
  have o0 := HO.out.c 0 rfl
  have o1 := HO.out.c 1 rfl
  have o2 := HO.out.c 2 rfl
  have f0 := HO.out.f 0
  have f1 := HO.out.f 1
  have f2 := HO.out.f 2
  go_wp2_with fail
  clear k3 o0 o1 o2 f0 f1 f2
  obtain ⟨w1', hw1', A0, R0, O0, B0, T1, T2, T3⟩ : ∃ w', (((w1.setCell ⟨w.heap.size + 1 + 1, 0, none⟩ (.slice p1 X.D.sec.length d1)).setCell ⟨w.heap.size + 1 + 1, 1, none⟩ (.slice p2 X.D.ep.length d2)).setCell ⟨w.heap.size + 1 + 1, 2, none⟩ (.slice p3 X.D.pe.length d3)) = w' ∧ Row w' w.heap.size _ ∧ Row w' (w.heap.size + 1) _ ∧ Row w' (w.heap.size + 1 + 1) _ ∧ Hid (Below w.heap.size w w') ∧ Hid (StrsW w' (w.heap.size + 1 + 1 + 1) p1 X.D.sec) ∧ Hid (IntsW w' (w.heap.size + 1 + 1 + 1) p2 X.D.ep) ∧ Hid (WtsW w' (w.heap.size + 1 + 1 + 1) p3 X.D.pe) :=
    ⟨_, rfl, puts_other HA.out (by omega) 0 [.slice p1 X.D.sec.length d1, .slice p2 X.D.ep.length d2, .slice p3 X.D.pe.length d3], puts_other HR.out (by omega) 0 [.slice p1 X.D.sec.length d1, .slice p2 X.D.ep.length d2, .slice p3 X.D.pe.length d3], puts_row HO.out 0 [.slice p1 X.D.sec.length d1, .slice p2 X.D.ep.length d2, .slice p3 X.D.pe.length d3], puts_below HB.out (by omega) 0 [.slice p1 X.D.sec.length d1, .slice p2 X.D.ep.length d2, .slice p3 X.D.pe.length d3], Wr.over T1.out ((puts_kept _ (w.heap.size + 1 + 1) 0 [.slice p1 X.D.sec.length d1, .slice p2 X.D.ep.length d2, .slice p3 X.D.pe.length d3]).mono (fun b _ h => by omega)), Wr.over T2.out ((puts_kept _ (w.heap.size + 1 + 1) 0 [.slice p1 X.D.sec.length d1, .slice p2 X.D.ep.length d2, .slice p3 X.D.pe.length d3]).mono (fun b _ h => by omega)), Wr.over T3.out ((puts_kept _ (w.heap.size + 1 + 1) 0 [.slice p1 X.D.sec.length d1, .slice p2 X.D.ep.length d2, .slice p3 X.D.pe.length d3]).mono (fun b _ h => by omega))⟩
  try simp only [hw1']
  clear hw1' HA HR HO HB
  refine (toHostS w1' a4 c4 L (HS4.out.below B0.out) hl4 HL4.out).mono ?_
  rintro e w4 ⟨g4, L', rfl, hm', hg4, hg4', t4, b4⟩
  have HA := hid (A0.below b4 A0.lt)
  have HR := hid (R0.below b4 R0.lt)
  have HO := hid (O0.below b4 O0.lt)
  have hle := B0.out.size
  have hl8 := O0.lt
  have HB := hid (B0.out.trans (b4.mono B0.out.size))
  replace T1 := hid (Wr.over T1.out (Kept.of_below b4))
  replace T2 := hid (Wr.over T2.out (Kept.of_below b4))
  replace T3 := hid (Wr.over T3.out (Kept.of_below b4))
  have T4 := hid (HosW.mono t4 (show w.heap.size + 1 + 1 + 1 ≤ w1'.heap.size by omega))
  clear A0 R0 O0 B0 b4 t4 hle hl8
  have k := HA.out.c 4 rfl
  have o := HO.out.c 3 rfl
  have f := HO.out.f 3
  go_wp2_with fail
  clear k o f
  obtain ⟨w4', hw4', A0, R0, O0, B0, T1, T2, T3, T4⟩ : ∃ w', (w4.setCell ⟨w.heap.size + 1 + 1, 3, none⟩ (.slice (some ⟨g4, 0, none⟩) L'.length L'.length)) = w' ∧ Row w' w.heap.size _ ∧ Row w' (w.heap.size + 1) _ ∧ Row w' (w.heap.size + 1 + 1) _ ∧ Hid (Below w.heap.size w w') ∧ Hid (StrsW w' (w.heap.size + 1 + 1 + 1) p1 X.D.sec) ∧ Hid (IntsW w' (w.heap.size + 1 + 1 + 1) p2 X.D.ep) ∧ Hid (WtsW w' (w.heap.size + 1 + 1 + 1) p3 X.D.pe) ∧ Hid (HosW w' (w.heap.size + 1 + 1 + 1) (some ⟨g4, 0, none⟩) L') :=
    ⟨_, rfl, puts_other HA.out (by omega) 3 [.slice (some ⟨g4, 0, none⟩) L'.length L'.length], puts_other HR.out (by omega) 3 [.slice (some ⟨g4, 0, none⟩) L'.length L'.length], puts_row HO.out 3 [.slice (some ⟨g4, 0, none⟩) L'.length L'.length], puts_below HB.out (by omega) 3 [.slice (some ⟨g4, 0, none⟩) L'.length L'.length], Wr.over T1.out ((puts_kept _ (w.heap.size + 1 + 1) 3 [.slice (some ⟨g4, 0, none⟩) L'.length L'.length]).mono (fun b _ h => by omega)), Wr.over T2.out ((puts_kept _ (w.heap.size + 1 + 1) 3 [.slice (some ⟨g4, 0, none⟩) L'.length L'.length]).mono (fun b _ h => by omega)), Wr.over T3.out ((puts_kept _ (w.heap.size + 1 + 1) 3 [.slice (some ⟨g4, 0, none⟩) L'.length L'.length]).mono (fun b _ h => by omega)), HosW.over T4.out ((puts_kept _ (w.heap.size + 1 + 1) 3 [.slice (some ⟨g4, 0, none⟩) L'.length L'.length]).mono (fun b _ h => by omega))⟩
  try simp only [hw4']
  clear hw4' HA HR HO HB
  refine (toEventS w4' a5 c5 X.log (Sl.below HS5.out B0.out) hl5).mono ?_
  rintro e w5 ⟨g5, rfl, hg5, hg5', t5, b5⟩
  have HA := hid (A0.below b5 A0.lt)
  have HR := hid (R0.below b5 R0.lt)
  have HO := hid (O0.below b5 O0.lt)
  have hle := B0.out.size
  have hl8 := O0.lt
  have HB := hid (B0.out.trans (b5.mono B0.out.size))
  replace T1 := hid (Wr.over T1.out (Kept.of_below b5))
  replace T2 := hid (Wr.over T2.out (Kept.of_below b5))
  replace T3 := hid (Wr.over T3.out (Kept.of_below b5))
  replace T4 := hid (HosW.over T4.out (Kept.of_below b5))
  have T5 := hid (Wr.mono t5 (show w.heap.size + 1 + 1 + 1 ≤ w4'.heap.size by omega))
  clear A0 R0 O0 B0 b5 t5 hle hl8
  have k := HA.out.c 5 rfl
  have o := HO.out.c 4 rfl
  have f := HO.out.f 4
  go_wp2_with fail
  clear k o f
  obtain ⟨w5', hw5', A0, R0, O0, B0, T1, T2, T3, T4, T5⟩ : ∃ w', (w5.setCell ⟨w.heap.size + 1 + 1, 4, none⟩ (.slice (some ⟨g5, 0, none⟩) X.log.length X.log.length)) = w' ∧ Row w' w.heap.size _ ∧ Row w' (w.heap.size + 1) _ ∧ Row w' (w.heap.size + 1 + 1) _ ∧ Hid (Below w.heap.size w w') ∧ Hid (StrsW w' (w.heap.size + 1 + 1 + 1) p1 X.D.sec) ∧ Hid (IntsW w' (w.heap.size + 1 + 1 + 1) p2 X.D.ep) ∧ Hid (WtsW w' (w.heap.size + 1 + 1 + 1) p3 X.D.pe) ∧ Hid (HosW w' (w.heap.size + 1 + 1 + 1) (some ⟨g4, 0, none⟩) L') ∧ Hid (EvsW w' (w.heap.size + 1 + 1 + 1) (some ⟨g5, 0, none⟩) X.log) :=
    ⟨_, rfl, puts_other HA.out (by omega) 4 [.slice (some ⟨g5, 0, none⟩) X.log.length X.log.length], puts_other HR.out (by omega) 4 [.slice (some ⟨g5, 0, none⟩) X.log.length X.log.length], puts_row HO.out 4 [.slice (some ⟨g5, 0, none⟩) X.log.length X.log.length], puts_below HB.out (by omega) 4 [.slice (some ⟨g5, 0, none⟩) X.log.length X.log.length], Wr.over T1.out ((puts_kept _ (w.heap.size + 1 + 1) 4 [.slice (some ⟨g5, 0, none⟩) X.log.length X.log.length]).mono (fun b _ h => by omega)), Wr.over T2.out ((puts_kept _ (w.heap.size + 1 + 1) 4 [.slice (some ⟨g5, 0, none⟩) X.log.length X.log.length]).mono (fun b _ h => by omega)), Wr.over T3.out ((puts_kept _ (w.heap.size + 1 + 1) 4 [.slice (some ⟨g5, 0, none⟩) X.log.length X.log.length]).mono (fun b _ h => by omega)), HosW.over T4.out ((puts_kept _ (w.heap.size + 1 + 1) 4 [.slice (some ⟨g5, 0, none⟩) X.log.length X.log.length]).mono (fun b _ h => by omega)), Wr.over T5.out ((puts_kept _ (w.heap.size + 1 + 1) 4 [.slice (some ⟨g5, 0, none⟩) X.log.length X.log.length]).mono (fun b _ h => by omega))⟩
  try simp only [hw5']
  clear hw5' HA HR HO HB
  refine (toIntS w5' a6 c6 X.seen (Sl.below HS6.out B0.out) hl6).mono ?_
  rintro e w6 ⟨g6, rfl, hg6, hg6', t6, b6⟩
  have HA := hid (A0.below b6 A0.lt)
  have HR := hid (R0.below b6 R0.lt)
  have HO := hid (O0.below b6 O0.lt)
  have hle := B0.out.size
  have hl8 := O0.lt
  have HB := hid (B0.out.trans (b6.mono B0.out.size))
  replace T1 := hid (Wr.over T1.out (Kept.of_below b6))
  replace T2 := hid (Wr.over T2.out (Kept.of_below b6))
  replace T3 := hid (Wr.over T3.out (Kept.of_below b6))
  replace T4 := hid (HosW.over T4.out (Kept.of_below b6))
  replace T5 := hid (Wr.over T5.out (Kept.of_below b6))
  have T6 := hid (Wr.mono t6 (show w.heap.size + 1 + 1 + 1 ≤ w5'.heap.size by omega))
  clear A0 R0 O0 B0 b6 t6 hle hl8
  have k := HA.out.c 6 rfl
  have o := HO.out.c 5 rfl
  have f := HO.out.f 5
  go_wp2_with fail
  clear k o f
  obtain ⟨w6', hw6', A0, R0, O0, B0, T1, T2, T3, T4, T5, T6⟩ : ∃ w', (w6.setCell ⟨w.heap.size + 1 + 1, 5, none⟩ (.slice (some ⟨g6, 0, none⟩) X.seen.length X.seen.length)) = w' ∧ Row w' w.heap.size _ ∧ Row w' (w.heap.size + 1) _ ∧ Row w' (w.heap.size + 1 + 1) _ ∧ Hid (Below w.heap.size w w') ∧ Hid (StrsW w' (w.heap.size + 1 + 1 + 1) p1 X.D.sec) ∧ Hid (IntsW w' (w.heap.size + 1 + 1 + 1) p2 X.D.ep) ∧ Hid (WtsW w' (w.heap.size + 1 + 1 + 1) p3 X.D.pe) ∧ Hid (HosW w' (w.heap.size + 1 + 1 + 1) (some ⟨g4, 0, none⟩) L') ∧ Hid (EvsW w' (w.heap.size + 1 + 1 + 1) (some ⟨g5, 0, none⟩) X.log) ∧ Hid (IntsW w' (w.heap.size + 1 + 1 + 1) (some ⟨g6, 0, none⟩) X.seen) :=
    ⟨_, rfl, puts_other HA.out (by omega) 5 [.slice (some ⟨g6, 0, none⟩) X.seen.length X.seen.length], puts_other HR.out (by omega) 5 [.slice (some ⟨g6, 0, none⟩) X.seen.length X.seen.length], puts_row HO.out 5 [.slice (some ⟨g6, 0, none⟩) X.seen.length X.seen.length], puts_below HB.out (by omega) 5 [.slice (some ⟨g6, 0, none⟩) X.seen.length X.seen.length], Wr.over T1.out ((puts_kept _ (w.heap.size + 1 + 1) 5 [.slice (some ⟨g6, 0, none⟩) X.seen.length X.seen.length]).mono (fun b _ h => by omega)), Wr.over T2.out ((puts_kept _ (w.heap.size + 1 + 1) 5 [.slice (some ⟨g6, 0, none⟩) X.seen.length X.seen.length]).mono (fun b _ h => by omega)), Wr.over T3.out ((puts_kept _ (w.heap.size + 1 + 1) 5 [.slice (some ⟨g6, 0, none⟩) X.seen.length X.seen.length]).mono (fun b _ h => by omega)), HosW.over T4.out ((puts_kept _ (w.heap.size + 1 + 1) 5 [.slice (some ⟨g6, 0, none⟩) X.seen.length X.seen.length]).mono (fun b _ h => by omega)), Wr.over T5.out ((puts_kept _ (w.heap.size + 1 + 1) 5 [.slice (some ⟨g6, 0, none⟩) X.seen.length X.seen.length]).mono (fun b _ h => by omega)), Wr.over T6.out ((puts_kept _ (w.heap.size + 1 + 1) 5 [.slice (some ⟨g6, 0, none⟩) X.seen.length X.seen.length]).mono (fun b _ h => by omega))⟩
  try simp only [hw6']
  clear hw6' HA HR HO HB
  refine (toReplyS w6' a7 c7 X.rep (Sl.below HS7.out B0.out) hl7).mono ?_
  rintro e w7 ⟨g7, rfl, hg7, hg7', t7, b7⟩
  have HA := hid (A0.below b7 A0.lt)
  have HR := hid (R0.below b7 R0.lt)
  have HO := hid (O0.below b7 O0.lt)
  have hle := B0.out.size
  have hl8 := O0.lt
  have HB := hid (B0.out.trans (b7.mono B0.out.size))
  replace T1 := hid (Wr.over T1.out (Kept.of_below b7))
  replace T2 := hid (Wr.over T2.out (Kept.of_below b7))
  replace T3 := hid (Wr.over T3.out (Kept.of_below b7))
  replace T4 := hid (HosW.over T4.out (Kept.of_below b7))
  replace T5 := hid (Wr.over T5.out (Kept.of_below b7))
  replace T6 := hid (Wr.over T6.out (Kept.of_below b7))
  have T7 := hid (Wr.mono t7 (show w.heap.size + 1 + 1 + 1 ≤ w6'.heap.size by omega))
  clear A0 R0 O0 B0 b7 t7 hle hl8
  have o := HO.out.c 6 rfl
  have f := HO.out.f 6
  go_upto_region 7 with fail
  clear o f
  obtain ⟨w7', hw7', A0, R0, O0, B0, T1, T2, T3, T4, T5, T6, T7⟩ : ∃ w', (w7.setCell ⟨w.heap.size + 1 + 1, 6, none⟩ (.slice (some ⟨g7, 0, none⟩) X.rep.length X.rep.length)) = w' ∧ Row w' w.heap.size _ ∧ Row w' (w.heap.size + 1) _ ∧ Row w' (w.heap.size + 1 + 1) _ ∧ Hid (Below w.heap.size w w') ∧ Hid (StrsW w' (w.heap.size + 1 + 1 + 1) p1 X.D.sec) ∧ Hid (IntsW w' (w.heap.size + 1 + 1 + 1) p2 X.D.ep) ∧ Hid (WtsW w' (w.heap.size + 1 + 1 + 1) p3 X.D.pe) ∧ Hid (HosW w' (w.heap.size + 1 + 1 + 1) (some ⟨g4, 0, none⟩) L') ∧ Hid (EvsW w' (w.heap.size + 1 + 1 + 1) (some ⟨g5, 0, none⟩) X.log) ∧ Hid (IntsW w' (w.heap.size + 1 + 1 + 1) (some ⟨g6, 0, none⟩) X.seen) ∧ Hid (RpsW w' (w.heap.size + 1 + 1 + 1) (some ⟨g7, 0, none⟩) X.rep) :=
    ⟨_, rfl, puts_other HA.out (by omega) 6 [.slice (some ⟨g7, 0, none⟩) X.rep.length X.rep.length], puts_other HR.out (by omega) 6 [.slice (some ⟨g7, 0, none⟩) X.rep.length X.rep.length], puts_row HO.out 6 [.slice (some ⟨g7, 0, none⟩) X.rep.length X.rep.length], puts_below HB.out (by omega) 6 [.slice (some ⟨g7, 0, none⟩) X.rep.length X.rep.length], Wr.over T1.out ((puts_kept _ (w.heap.size + 1 + 1) 6 [.slice (some ⟨g7, 0, none⟩) X.rep.length X.rep.length]).mono (fun b _ h => by omega)), Wr.over T2.out ((puts_kept _ (w.heap.size + 1 + 1) 6 [.slice (some ⟨g7, 0, none⟩) X.rep.length X.rep.length]).mono (fun b _ h => by omega)), Wr.over T3.out ((puts_kept _ (w.heap.size + 1 + 1) 6 [.slice (some ⟨g7, 0, none⟩) X.rep.length X.rep.length]).mono (fun b _ h => by omega)), HosW.over T4.out ((puts_kept _ (w.heap.size + 1 + 1) 6 [.slice (some ⟨g7, 0, none⟩) X.rep.length X.rep.length]).mono (fun b _ h => by omega)), Wr.over T5.out ((puts_kept _ (w.heap.size + 1 + 1) 6 [.slice (some ⟨g7, 0, none⟩) X.rep.length X.rep.length]).mono (fun b _ h => by omega)), Wr.over T6.out ((puts_kept _ (w.heap.size + 1 + 1) 6 [.slice (some ⟨g7, 0, none⟩) X.rep.length X.rep.length]).mono (fun b _ h => by omega)), Wr.over T7.out ((puts_kept _ (w.heap.size + 1 + 1) 6 [.slice (some ⟨g7, 0, none⟩) X.rep.length X.rep.length]).mono (fun b _ h => by omega))⟩
  try simp only [hw7']
  clear hw7' HA HR HO HB
  refine wp_region_list ?_
  refine wpList_load_row rfl 41 _ rfl (w.heap.size + 1 + 1) rfl [.slice p1 X.D.sec.length d1, .slice p2 X.D.ep.length d2, .slice p3 X.D.pe.length d3, .slice (some ⟨g4, 0, none⟩) L'.length L'.length, .slice (some ⟨g5, 0, none⟩) X.log.length X.log.length, .slice (some ⟨g6, 0, none⟩) X.seen.length X.seen.length, .slice (some ⟨g7, 0, none⟩) X.rep.length X.rep.length] _ O0 Tryz.underlying41 rfl (by kernel_rfl) ?_
  refine wpList_store_row rfl 41 _ _ rfl (w.heap.size + 1) rfl _ [.slice p1 X.D.sec.length d1, .slice p2 X.D.ep.length d2, .slice p3 X.D.pe.length d3, .slice (some ⟨g4, 0, none⟩) L'.length L'.length, .slice (some ⟨g5, 0, none⟩) X.log.length X.log.length, .slice (some ⟨g6, 0, none⟩) X.seen.length X.seen.length, .slice (some ⟨g7, 0, none⟩) X.rep.length X.rep.length] rfl R0 rfl (by kernel_rfl) rfl ?_
  have HR3 := hid (puts_row R0 0 [.slice p1 X.D.sec.length d1, .slice p2 X.D.ep.length d2, .slice p3 X.D.pe.length d3, .slice (some ⟨g4, 0, none⟩) L'.length L'.length, .slice (some ⟨g5, 0, none⟩) X.log.length X.log.length, .slice (some ⟨g6, 0, none⟩) X.seen.length X.seen.length, .slice (some ⟨g7, 0, none⟩) X.rep.length X.rep.length])
  have HB3 := hid (puts_below B0.out (show w.heap.size ≤ w.heap.size + 1 by omega) 0 [.slice p1 X.D.sec.length d1, .slice p2 X.D.ep.length d2, .slice p3 X.D.pe.length d3, .slice (some ⟨g4, 0, none⟩) L'.length L'.length, .slice (some ⟨g5, 0, none⟩) X.log.length X.log.length, .slice (some ⟨g6, 0, none⟩) X.seen.length X.seen.length, .slice (some ⟨g7, 0, none⟩) X.rep.length X.rep.length])
  have KK := (puts_kept w7' (w.heap.size + 1) 0 [.slice p1 X.D.sec.length d1, .slice p2 X.D.ep.length d2, .slice p3 X.D.pe.length d3, .slice (some ⟨g4, 0, none⟩) L'.length L'.length, .slice (some ⟨g5, 0, none⟩) X.log.length X.log.length, .slice (some ⟨g6, 0, none⟩) X.seen.length X.seen.length, .slice (some ⟨g7, 0, none⟩) X.rep.length X.rep.length]).mono (T := fun b => b < w.heap.size + 1 + 1 + 1) (fun b _ h => by omega)
  have HX : Hid (WdR (puts w7' (w.heap.size + 1) 0 [.slice p1 X.D.sec.length d1, .slice p2 X.D.ep.length d2, .slice p3 X.D.pe.length d3, .slice (some ⟨g4, 0, none⟩) L'.length L'.length, .slice (some ⟨g5, 0, none⟩) X.log.length X.log.length, .slice (some ⟨g6, 0, none⟩) X.seen.length X.seen.length, .slice (some ⟨g7, 0, none⟩) X.rep.length X.rep.length]) (.agg #[.slice p1 X.D.sec.length d1, .slice p2 X.D.ep.length d2, .slice p3 X.D.pe.length d3, .slice (some ⟨g4, 0, none⟩) L'.length L'.length, .slice (some ⟨g5, 0, none⟩) X.log.length X.log.length, .slice (some ⟨g6, 0, none⟩) X.seen.length X.seen.length, .slice (some ⟨g7, 0, none⟩) X.rep.length X.rep.length]) X) :=
    ⟨_, _, _, _, _, _, _, _, _, _, _, _, _, _, L', rfl, hm'.trans HM.out, (Wr.over T1.out KK).sl, (Wr.over T2.out KK).sl, (Wr.over T3.out KK).sl, (HosW.over T4.out KK).read, (Wr.over T5.out KK).sl, (Wr.over T6.out KK).sl, (Wr.over T7.out KK).sl⟩
  clear KK T1 T2 T3 T4 T5 T6 T7
  generalize puts w7' (w.heap.size + 1) 0 [.slice p1 X.D.sec.length d1, .slice p2 X.D.ep.length d2, .slice p3 X.D.pe.length d3, .slice (some ⟨g4, 0, none⟩) L'.length L'.length, .slice (some ⟨g5, 0, none⟩) X.log.length X.log.length, .slice (some ⟨g6, 0, none⟩) X.seen.length X.seen.length, .slice (some ⟨g7, 0, none⟩) X.rep.length X.rep.length] = w8 at *
  clear R0 O0 A0 B0
  go_wp2
  refine bodyPost_ret (results_row rfl _ _ (w.heap.size + 1) [.slice p1 X.D.sec.length d1, .slice p2 X.D.ep.length d2, .slice p3 X.D.pe.length d3, .slice (some ⟨g4, 0, none⟩) L'.length L'.length, .slice (some ⟨g5, 0, none⟩) X.log.length X.log.length, .slice (some ⟨g6, 0, none⟩) X.seen.length X.seen.length, .slice (some ⟨g7, 0, none⟩) X.rep.length X.rep.length] _ rfl HR3.out Tryz.underlying41 rfl (by kernel_rfl)) rfl ?_
  exact ⟨_, rfl, HX.out, HB3.out⟩

set_option maxRecDepth 100000 in
set_option maxHeartbeats 4000000 in
theorem eqWorld (w : World) (v u : Value) (X : Wd) (h : WdR w v X) (k : WdR w u X) (hs : X.Held) :
    Calls Tryz.prog 12 #[v, u] w fun e w' => e = .returned (.bool true) ∧ Below w.heap.size w w' := by
  obtain ⟨a1, c1, a2, c2, a3, c3, a4, c4, a5, c5, a6, c6, a7, c7, L, rfl, hm, s1, s2, s3, s4, s5, s6, s7⟩ := h
  obtain ⟨b1, d1, b2, d2, b3, d3, b4, d4, b5, d5, b6, d6, b7, d7, M, rfl, hn, t1, t2, t3, t4, t5, t6, t7⟩ := k
  have HS1 := hid (show DkR w (.agg #[.slice a1 X.D.sec.length c1, .slice a2 X.D.ep.length c2, .slice a3 X.D.pe.length c3]) X.D from ⟨a1, c1, a2, c2, a3, c3, rfl, s1, s2, s3⟩)
  have HT1 := hid (show DkR w (.agg #[.slice b1 X.D.sec.length d1, .slice b2 X.D.ep.length d2, .slice b3 X.D.pe.length d3]) X.D from ⟨b1, d1, b2, d2, b3, d3, rfl, t1, t2, t3⟩)
  have HS4 := hid s4
  have HS5 := hid s5
  have HS6 := hid s6
  have HS7 := hid s7
  have HT4 := hid t4
  have HT5 := hid t5
  have HT6 := hid t6
  have HT7 := hid t7
  have HH := hid hs
  have HML := hid (hm.trans hn.symm)
  have HLl : Hid (L.length ≤ maxLen) := by have := hs.h; rw [← hm, List.length_map] at this; exact this
  have HLx : Hid (∀ x ∈ L, x.H.l.length ≤ maxLen) := fun x hx => (hs.hh _ (by rw [← hm]; exact List.mem_map_of_mem hx)).l
  clear s1 s2 s3 s4 s5 s6 s7 t1 t2 t3 t4 t5 t6 t7 hm hn hs
  obtain ⟨wa, hwa, ez, A0, C0, B0⟩ := two_new w [.slice a1 X.D.sec.length c1, .slice a2 X.D.ep.length c2, .slice a3 X.D.pe.length c3, .slice a4 L.length c4, .slice a5 X.log.length c5, .slice a6 X.seen.length c6, .slice a7 X.rep.length c7] [.slice b1 X.D.sec.length d1, .slice b2 X.D.ep.length d2, .slice b3 X.D.pe.length d3, .slice b4 M.length d4, .slice b5 X.log.length d5, .slice b6 X.seen.length d6, .slice b7 X.rep.length d7] 41 41
  have k0 := A0.c 0 rfl
  have k1 := A0.c 1 rfl
  have k2 := A0.c 2 rfl
  have m0 := C0.c 0 rfl
  have m1 := C0.c 1 rfl
  have m2 := C0.c 2 rfl
  have HA := hid A0
  have HC := hid C0
  have HB := hid B0
  clear A0 C0 B0 ez
  go_enter Tryz.func12, Tryz.ntmps12
  go_wp2_with fail
  try simp only [hwa]
  clear hwa k0 k1 k2 m0 m1 m2
  refine (eqDisk wa _ _ X.D X.D (HS1.out.below HB.out) (HT1.out.below HB.out) HH.out.d HH.out.d).mono ?_
  rintro e w1 ⟨he, q1⟩
  obtain rfl : e = .returned (.bool true) := by rw [he]; simp
  have HA1 := hid (HA.out.below q1 HA.out.lt)
  have HC1 := hid (HC.out.below q1 HC.out.lt)
  have HB1 := hid (HB.out.trans (q1.mono HB.out.size))
  clear q1 HA HC HB
  have k := HA1.out.c 3 rfl
  have m := HC1.out.c 3 rfl
  go_wp2_with fail
  clear k m
  refine (eqHostS w1 a4 b4 c4 d4 L M (HS4.out.below HB1.out) (HT4.out.below HB1.out) HML.out HLl.out HLx.out).mono ?_
  rintro e w2 ⟨rfl, q2⟩
  have HA2 := hid (HA1.out.below q2 HA1.out.lt)
  have HC2 := hid (HC1.out.below q2 HC1.out.lt)
  have HB2 := hid (HB1.out.trans (q2.mono HB1.out.size))
  clear q2 HA1 HC1 HB1
  have k := HA2.out.c 4 rfl
  have m := HC2.out.c 4 rfl
  go_wp2_with fail
  clear k m
  refine (eqEventS w2 a5 b5 c5 d5 X.log (Sl.below HS5.out HB2.out) (Sl.below HT5.out HB2.out) HH.out.e).mono ?_
  rintro e w3 ⟨rfl, q3⟩
  have HA3 := hid (HA2.out.below q3 HA2.out.lt)
  have HC3 := hid (HC2.out.below q3 HC2.out.lt)
  have HB3 := hid (HB2.out.trans (q3.mono HB2.out.size))
  clear q3 HA2 HC2 HB2
  have k := HA3.out.c 5 rfl
  have m := HC3.out.c 5 rfl
  go_wp2_with fail
  clear k m
  refine (eqIntS w3 a6 b6 c6 d6 X.seen X.seen (Sl.below HS6.out HB3.out) (Sl.below HT6.out HB3.out) HH.out.s HH.out.s).mono ?_
  rintro e w4 ⟨rfl, q4⟩
  rw [decide_eq_true (rfl : X.seen = X.seen)]
  have HA4 := hid (HA3.out.below q4 HA3.out.lt)
  have HC4 := hid (HC3.out.below q4 HC3.out.lt)
  have HB4 := hid (HB3.out.trans (q4.mono HB3.out.size))
  clear q4 HA3 HC3 HB3
  have k := HA4.out.c 6 rfl
  have m := HC4.out.c 6 rfl
  go_wp2_with fail
  clear k m
  refine (eqReplyS w4 a7 b7 c7 d7 X.rep (Sl.below HS7.out HB4.out) (Sl.below HT7.out HB4.out) HH.out.r).mono ?_
  rintro e w5 ⟨rfl, q5⟩
  have HB5 := hid (HB4.out.trans (q5.mono HB4.out.size))
  clear q5
  go_wp2
  go_ret
  exact ⟨rfl, HB5.out⟩

section
variable {H : Type} {enc : TypeId × Value → H} {W : World} {base : Nat} {spare : Nat → Bool} {held : Bool}

set_option maxRecDepth 100000 in
theorem dk_cells_in {fuel : Nat} {cs : List Value} {x : DataW H × List MemPlace} (h : DataW.trod enc Tryz.prog W base spare held fuel 26 cs = some x) :
    ∃ (D : Dk) (a1 : Option Addr) (c1 : Nat) (a2 : Option Addr) (c2 : Nat) (a3 : Option Addr) (c3 : Nat), cs = [.slice a1 D.sec.length c1, .slice a2 D.ep.length c2, .slice a3 D.pe.length c3] ∧ Strs W a1 D.sec ∧ Ints W a2 D.ep ∧ Wts W a3 D.pe ∧ D.Held := by
  have c3 : Tryz.prog.cellsOf 26 = 3 := by kernel_rfl
  have cA : Tryz.prog.cellsOf 22 = 1 := by kernel_rfl
  have cI : Tryz.prog.cellsOf 23 = 1 := by kernel_rfl
  have cW : Tryz.prog.cellsOf 24 = 1 := by kernel_rfl
  obtain ⟨xs, n, _, rfl, hl, hlen, hf⟩ := DataW.trod_struct Tryz.underlying26 h
  rw [c3] at hl
  match xs, hlen, cs, hl with
  | [y0, y1, y2], _, [v0, v1, v2], _ =>
    have f0 : DataW.trod enc Tryz.prog W base spare held n 22 [v0] = some y0 := by simpa [cA] using hf 0 _ rfl
    have f1 : DataW.trod enc Tryz.prog W base spare held n 23 [v1] = some y1 := by simpa [cA, cI] using hf 1 _ rfl
    have f2 : DataW.trod enc Tryz.prog W base spare held n 24 [v2] = some y2 := by simpa [cA, cI, cW] using hf 2 _ rfl
    obtain ⟨a1, c1, l1, rfl, s1, n1, t1⟩ := Mem.strs_in f0
    obtain ⟨a2, c2, l2, rfl, s2, n2, _⟩ := Mem.ints_in f1
    obtain ⟨a3, c3, l3, rfl, s3, n3, t3⟩ := Mem.writes_in f2
    exact ⟨⟨l1, l2, l3⟩, a1, c1, a2, c2, a3, c3, rfl, s1, s2, s3, ⟨n1, n2, n3, t1, t3⟩⟩

set_option maxRecDepth 100000 in
/-- A world that came in. -/
theorem world_in {v : Value} {d : DataW H} {p : List MemPlace} {r : Reach} {b0 : Nat} (hv : Value.okWide Tryz.prog W r b0 31 v) (h : DataW.Trod enc Tryz.prog W base spare held 31 v d p) :
    ∃ X : Wd, WdR W v X ∧ X.Held := by
  have c7 : Tryz.prog.cellsOf 31 = 7 := by kernel_rfl
  have cD : Tryz.prog.cellsOf 26 = 3 := by kernel_rfl
  have cH : Tryz.prog.cellsOf 27 = 1 := by kernel_rfl
  have cE : Tryz.prog.cellsOf 28 = 1 := by kernel_rfl
  have cI : Tryz.prog.cellsOf 23 = 1 := by kernel_rfl
  have cR : Tryz.prog.cellsOf 29 = 1 := by kernel_rfl
  obtain ⟨cs, rfl, hsz⟩ := okWide_struct Tryz.underlying31 hv
  rw [c7] at hsz
  obtain ⟨v0, v1, v2, v3, v4, v5, v6, rfl⟩ : ∃ v0 v1 v2 v3 v4 v5 v6, cs = #[v0, v1, v2, v3, v4, v5, v6] := by
    obtain ⟨l⟩ := cs
    match l, hsz with
    | [v0, v1, v2, v3, v4, v5, v6], _ => exact ⟨v0, v1, v2, v3, v4, v5, v6, rfl⟩
  obtain ⟨fuel, hf⟩ := h
  obtain ⟨xs, n, _, _, _, hlen, hf⟩ := DataW.trod_struct Tryz.underlying31 hf
  match xs, hlen with
  | [y0, y1, y2, y3, y4], _ =>
    have f0 : DataW.trod enc Tryz.prog W base spare held n 26 [v0, v1, v2] = some y0 := by simpa [cD, Value.cells] using hf 0 _ rfl
    have f1 : DataW.trod enc Tryz.prog W base spare held n 27 [v3] = some y1 := by simpa [cD, cH, Value.cells] using hf 1 _ rfl
    have f2 : DataW.trod enc Tryz.prog W base spare held n 28 [v4] = some y2 := by simpa [cD, cH, cE, Value.cells] using hf 2 _ rfl
    have f3 : DataW.trod enc Tryz.prog W base spare held n 23 [v5] = some y3 := by simpa [cD, cH, cE, cI, Value.cells] using hf 3 _ rfl
    have f4 : DataW.trod enc Tryz.prog W base spare held n 29 [v6] = some y4 := by simpa [cD, cH, cE, cI, cR, Value.cells] using hf 4 _ rfl
    obtain ⟨D, a1, c1, a2, c2, a3, c3, e0, s1, s2, s3, hd⟩ := dk_cells_in f0
    obtain ⟨a4, c4, L, rfl, s4, n4, u4⟩ := hos_in f1
    obtain ⟨a5, c5, lg, rfl, s5, n5, u5⟩ := evs_in f2
    obtain ⟨a6, c6, sn, rfl, s6, n6, _⟩ := Mem.ints_in f3
    obtain ⟨a7, c7, rp, rfl, s7, n7, u7⟩ := rps_in f4
    simp only [List.cons.injEq, and_true] at e0
    obtain ⟨rfl, rfl, rfl⟩ := e0
    exact ⟨⟨D, L.map (·.H), lg, sn, rp⟩, ⟨a1, c1, a2, c2, a3, c3, a4, c4, a5, c5, a6, c6, a7, c7, L, rfl, rfl, s1, s2, s3, s4, s5, s6, s7⟩, ⟨hd, by simpa using n4, fun x hx => by
      obtain ⟨y, hy, rfl⟩ := List.mem_map.1 hx
      exact u4 y hy, n5, u5, n6, n7, u7⟩⟩

end

end Go.Proofs.YtaopkchkhdbfnaaGreatDoor.Pl

namespace Go.Proofs.YtaopkchkhdbfnaaGreatDoor.Pl
open Go.RowKit Go.Proofs.YtaopkchkhdbfnaaGreatDoor.Mem Go.Proofs.YtaopkchkhdbfnaaGreatDoor.Sec Go.Proofs.YtaopkchkhdbfnaaGreatDoor.Rd Go.Proofs.YtaopkchkhdbfnaaGreatDoor.Fm
set_option linter.unusedVariables false

def fh (i : Int) : Ho := { Ho.none with id := i }
/-- The hosts of a new world, none of them up. -/
def NH : List Hx := [⟨fh 0, none, 0⟩, ⟨fh 1, none, 0⟩, ⟨fh 2, none, 0⟩]
def ND : Dk := ⟨fmt, [1, 1, 1], []⟩
def NW : Wd := ⟨ND, [fh 0, fh 1, fh 2], [], [0, 0, 0], []⟩
def nwV (g1 o1 c1 g2 o2 c2 : Nat) (p3 : Option Addr) (c3 g4 o4 c4 g6 o6 c6 : Nat) : Value := .agg #[.slice (some ⟨g1, o1, none⟩) 34 c1, .slice (some ⟨g2, o2, none⟩) 3 c2, .slice p3 0 c3, .slice (some ⟨g4, o4, none⟩) 3 c4, .slice none 0 0, .slice (some ⟨g6, o6, none⟩) 3 c6, .slice none 0 0]

/-- A new world of one's own, in blocks from B on, each list in its own. -/
structure Nw (w : World) (B g1 o1 g2 o2 g4 o4 g6 o6 : Nat) : Prop where
  s1 : StrsW w B (some ⟨g1, o1, none⟩) fmt
  s2 : IntsW w B (some ⟨g2, o2, none⟩) [1, 1, 1]
  s4 : Wr w B (some ⟨g4, o4, none⟩) (3 * 16) (hcell NH)
  s6 : IntsW w B (some ⟨g6, o6, none⟩) [0, 0, 0]
  n12 : g1 ≠ g2
  n14 : g1 ≠ g4
  n16 : g1 ≠ g6
  n24 : g2 ≠ g4
  n26 : g2 ≠ g6
  n46 : g4 ≠ g6

/-- The same, marked. -/
structure NwM (w : World) (g1 o1 g2 o2 g4 o4 g6 o6 : Nat) : Prop where
  s1 : Sl w (some ⟨g1, o1, none⟩) 34 (fun i => .string (markS (1 + i)))
  s2 : Sl w (some ⟨g2, o2, none⟩) 3 (fun i => .int .i64 ((1 + 34 + i : Nat) : Int))
  s4 : Sl w (some ⟨g4, o4, none⟩) (3 * 16) (mh 38)
  s6 : Sl w (some ⟨g6, o6, none⟩) 3 (fun i => .int .i64 ((83 + i : Nat) : Int))

theorem NwM.below {w w' : World} {g1 o1 g2 o2 g4 o4 g6 o6 : Nat} (h : NwM w g1 o1 g2 o2 g4 o4 g6 o6) (b : Below w.heap.size w w') : NwM w' g1 o1 g2 o2 g4 o4 g6 o6 := ⟨h.s1.below b, h.s2.below b, h.s4.below b, h.s6.below b⟩
theorem Nw.below {w w' : World} {B g1 o1 g2 o2 g4 o4 g6 o6 : Nat} (h : Nw w B g1 o1 g2 o2 g4 o4 g6 o6) (b : Below w.heap.size w w') : Nw w' B g1 o1 g2 o2 g4 o4 g6 o6 := ⟨Wr.below h.s1 b, Wr.below h.s2 b, h.s4.below b, Wr.below h.s6 b, h.n12, h.n14, h.n16, h.n24, h.n26, h.n46⟩

theorem nh_outs (j : Nat) (hj : j < 3) : hcell NH (j * 16 + 14) = .slice none 0 0 := by
  have : j = 0 ∨ j = 1 ∨ j = 2 := by omega
  rcases this with rfl | rfl | rfl <;> rfl

theorem Nw.read {w : World} {B g1 o1 g2 o2 g4 o4 g6 o6 : Nat} (h : Nw w B g1 o1 g2 o2 g4 o4 g6 o6) (c1 c2 : Nat) (p3 : Option Addr) (c3 c4 c6 : Nat) : WdR w (nwV g1 o1 c1 g2 o2 c2 p3 c3 g4 o4 c4 g6 o6 c6) NW :=
  ⟨some ⟨g1, o1, none⟩, c1, some ⟨g2, o2, none⟩, c2, p3, c3, some ⟨g4, o4, none⟩, c4, none, 0, some ⟨g6, o6, none⟩, c6, none, 0, NH, by rfl, rfl, h.s1.sl, h.s2.sl, fun i hi => by simp [NW, ND] at hi, ⟨h.s4.sl, fun x hx => by
    simp only [NH, List.mem_cons, List.not_mem_nil, or_false] at hx
    rcases hx with rfl | rfl | rfl <;> exact fun i hi => by simp [fh, Ho.none] at hi⟩, fun i hi => by simp [NW] at hi, h.s6.sl, fun i hi => by simp [NW] at hi⟩

set_option maxRecDepth 100000 in
set_option maxHeartbeats 4000000 in
theorem markNew (w : World) (B : Nat) (g1 o1 c1 g2 o2 c2 : Nat) (p3 : Option Addr) (c3 g4 o4 c4 g6 o6 c6 : Nat) (h : Nw w B g1 o1 g2 o2 g4 o4 g6 o6) :
    Calls Tryz.prog 15 #[nwV g1 o1 c1 g2 o2 c2 p3 c3 g4 o4 c4 g6 o6 c6, .int .i64 1] w fun e w' => e = .returned (.int .i64 86) ∧ NwM w' g1 o1 g2 o2 g4 o4 g6 o6 ∧ Kept (fun b => b = g1 ∨ b = g2 ∨ b = g4 ∨ b = g6) w w' := by
  have HN := hid h
  clear h
  unfold nwV
  obtain ⟨wa, hwa, ez, A0, B0⟩ := one_new w [.slice (some ⟨g1, o1, none⟩) 34 c1, .slice (some ⟨g2, o2, none⟩) 3 c2, .slice p3 0 c3, .slice (some ⟨g4, o4, none⟩) 3 c4, .slice none 0 0, .slice (some ⟨g6, o6, none⟩) 3 c6, .slice none 0 0] 41
  have k0 := A0.c 0 rfl
  have k1 := A0.c 1 rfl
  have k2 := A0.c 2 rfl
  have HA := hid A0
  have HB := hid B0
  have HNa := hid (HN.out.below B0)
  have hg1 := HN.out.s1.sl.lt (b := g1) ⟨by decide, o1, rfl⟩
  have hg2 := HN.out.s2.sl.lt (b := g2) ⟨by decide, o2, rfl⟩
  have hg4 := HN.out.s4.sl.lt (b := g4) ⟨by decide, o4, rfl⟩
  have hg6 := HN.out.s6.sl.lt (b := g6) ⟨by decide, o6, rfl⟩
  have HL := hid (show g1 < w.heap.size ∧ g2 < w.heap.size ∧ g4 < w.heap.size ∧ g6 < w.heap.size from ⟨hg1, hg2, hg4, hg6⟩)
  clear A0 B0 ez hg1 hg2 hg4 hg6
  go_enter Tryz.func15, Tryz.ntmps15
  go_wp2_with fail
  try simp only [hwa]
  clear hwa k0 k1 k2
  refine (markDisk wa B _ ND 1 ⟨some ⟨g1, o1, none⟩, c1, some ⟨g2, o2, none⟩, c2, p3, c3, rfl, HNa.out.s1, HNa.out.s2, fun i hi => by simp [ND] at hi, fun b h1 => ⟨fun h2 => by obtain ⟨_, x, e1⟩ := h1; obtain ⟨_, y, e2⟩ := h2; cases e1; cases e2; exact HN.out.n12 rfl, fun h2 => by have := h2.1; simp [ND] at this⟩, fun b h1 h2 => by have := h2.1; simp [ND] at this⟩ (by decide) (by decide)).mono ?_
  rintro e w1 ⟨he, hM, hK⟩
  obtain rfl : e = .returned (.int .i64 38) := by rw [he]; rfl
  obtain ⟨a1, d1, a2, d2, a3, d3, ev, m1, m2, _⟩ := hM
  simp only [Value.agg.injEq, Array.mk.injEq, List.cons.injEq, Value.slice.injEq] at ev
  obtain ⟨⟨rfl, _, _⟩, ⟨rfl, _, _⟩, _⟩ := ev
  have hK1 : Kept (fun b => b = g1 ∨ b = g2) wa w1 := hK.mono (fun b _ hb => by
    obtain ⟨x1, n1, y1, x2, n2, y2, x3, n3, y3, ev, hf⟩ := hb
    simp only [Value.agg.injEq, Array.mk.injEq, List.cons.injEq, Value.slice.injEq] at ev
    obtain ⟨⟨rfl, rfl, rfl⟩, ⟨rfl, rfl, rfl⟩, ⟨rfl, rfl, rfl⟩, _⟩ := ev
    rcases hf with ⟨_, x, e1⟩ | ⟨_, x, e1⟩ | ⟨h0, _⟩
    · cases e1; exact Or.inl rfl
    · cases e1; exact Or.inr rfl
    · exact absurd h0 (by simp [ND]))
  have HA1 := hid (HA.out.kept hK1 (fun h => by have := HL.out; omega))
  have HK1 := hid hK1
  have HM1 := hid m1
  have HM2 := hid m2
  have H4 : Hid (Wr w1 B (some ⟨g4, o4, none⟩) (3 * 16) (hcell NH)) := HNa.out.s4.move hK1 (fun b hb h => by obtain ⟨_, x, e1⟩ := hb; cases e1; have h1 := HN.out.n14; have h2 := HN.out.n24; omega)
  have H6 : Hid (IntsW w1 B (some ⟨g6, o6, none⟩) [0, 0, 0]) := Wr.move HNa.out.s6 hK1 (fun b hb h => by obtain ⟨_, x, e1⟩ := hb; cases e1; have h1 := HN.out.n16; have h2 := HN.out.n26; omega)
  clear he hK hK1 m1 m2 HA
  have k := HA1.out.c 3 rfl
  go_wp2_with fail
  clear k
  refine (markHostS w1 B (some ⟨g4, o4, none⟩) 3 c4 38 (hcell NH) H4.out nh_outs (by decide) (by decide) (by decide) (by decide)).mono ?_
  rintro e w2 ⟨he, m4, hK⟩
  obtain rfl : e = .returned (.int .i64 83) := by rw [he]; rfl
  have hK2 : Kept (fun b => b = g4) w1 w2 := hK.mono (fun b _ hb => by obtain ⟨_, x, e1⟩ := hb; cases e1; rfl)
  have HK2 := hid hK2
  have HA2 := hid (HA1.out.kept hK2 (fun h => by have := HL.out; omega))
  have HM4 := hid m4.sl
  replace HM1 := hid (HM1.out.move hK2 (fun b hb h => by obtain ⟨_, x, e1⟩ := hb; cases e1; exact HN.out.n14 h))
  replace HM2 := hid (HM2.out.move hK2 (fun b hb h => by obtain ⟨_, x, e1⟩ := hb; cases e1; exact HN.out.n24 h))
  replace H6 := hid (Wr.move H6.out hK2 (fun b hb h => by obtain ⟨_, x, e1⟩ := hb; cases e1; exact HN.out.n46 h.symm))
  clear he hK hK2 m4 HA1 H4
  have k := HA2.out.c 4 rfl
  go_wp2_with fail
  clear k
  refine (markEvent0 w2 83).mono ?_
  rintro e w3 ⟨he, b3⟩
  obtain rfl : e = .returned (.int .i64 83) := by rw [he]; rfl
  have HA3 := hid (HA2.out.below b3 HA2.out.lt)
  have HK3 := hid b3
  replace HM1 := hid (HM1.out.below b3)
  replace HM2 := hid (HM2.out.below b3)
  replace HM4 := hid (HM4.out.below b3)
  replace H6 := hid (Wr.below H6.out b3)
  clear he b3 HA2
  have k := HA3.out.c 5 rfl
  go_wp2_with fail
  clear k
  refine (markIntS w3 B (some ⟨g6, o6, none⟩) 3 c6 83 _ H6.out (by decide)).mono ?_
  rintro e w4 ⟨he, m6, hK⟩
  obtain rfl : e = .returned (.int .i64 86) := by rw [he]; rfl
  have hK4 : Kept (fun b => b = g6) w3 w4 := hK.mono (fun b _ hb => by obtain ⟨_, x, e1⟩ := hb; cases e1; rfl)
  have HK4 := hid hK4
  have HA4 := hid (HA3.out.kept hK4 (fun h => by have := HL.out; omega))
  have HM6 := hid m6.sl
  replace HM1 := hid (HM1.out.move hK4 (fun b hb h => by obtain ⟨_, x, e1⟩ := hb; cases e1; exact HN.out.n16 h))
  replace HM2 := hid (HM2.out.move hK4 (fun b hb h => by obtain ⟨_, x, e1⟩ := hb; cases e1; exact HN.out.n26 h))
  replace HM4 := hid (HM4.out.move hK4 (fun b hb h => by obtain ⟨_, x, e1⟩ := hb; cases e1; exact HN.out.n46 h))
  clear he hK hK4 m6 HA3 H6
  have k := HA4.out.c 6 rfl
  go_wp2_with fail
  clear k
  refine (markReply0 w4 86).mono ?_
  rintro e w5 ⟨he, b5⟩
  obtain rfl : e = .returned (.int .i64 86) := by rw [he]; rfl
  have HM : Hid (NwM w5 g1 o1 g2 o2 g4 o4 g6 o6) := ⟨HM1.out.below b5, HM2.out.below b5, HM4.out.below b5, HM6.out.below b5⟩
  have HK := hid ((((((Kept.of_below (S := fun _ => False) HB.out).trans HK1.out).trans HK2.out).trans (Kept.of_below (S := fun _ => False) HK3.out)).trans HK4.out).trans (Kept.of_below (S := fun _ => False) b5))
  clear b5 he HM1 HM2 HM4 HM6 HA4
  go_wp2
  go_ret
  refine ⟨rfl, HM.out, HK.out.mono (fun b _ h => ?_)⟩
  rcases h with (((((h | h) | h) | h) | h) | h)
  · exact h.elim
  · rcases h with h | h
    · exact Or.inl h
    · exact Or.inr (Or.inl h)
  · exact Or.inr (Or.inr (Or.inl h))
  · exact h.elim
  · exact Or.inr (Or.inr (Or.inr h))
  · exact h.elim

set_option maxRecDepth 100000 in
set_option maxHeartbeats 4000000 in
theorem heldNew (w : World) (g1 o1 c1 g2 o2 c2 : Nat) (p3 : Option Addr) (c3 g4 o4 c4 g6 o6 c6 : Nat) (h : NwM w g1 o1 g2 o2 g4 o4 g6 o6) :
    Calls Tryz.prog 16 #[nwV g1 o1 c1 g2 o2 c2 p3 c3 g4 o4 c4 g6 o6 c6, .int .i64 1] w fun e w' => e = .returned (.int .i64 86) ∧ Below w.heap.size w w' := by
  have HN := hid h
  clear h
  unfold nwV
  obtain ⟨wa, hwa, ez, A0, B0⟩ := one_new w [.slice (some ⟨g1, o1, none⟩) 34 c1, .slice (some ⟨g2, o2, none⟩) 3 c2, .slice p3 0 c3, .slice (some ⟨g4, o4, none⟩) 3 c4, .slice none 0 0, .slice (some ⟨g6, o6, none⟩) 3 c6, .slice none 0 0] 41
  have k0 := A0.c 0 rfl
  have k1 := A0.c 1 rfl
  have k2 := A0.c 2 rfl
  have HA := hid A0
  have HB := hid B0
  clear A0 B0 ez
  go_enter Tryz.func16, Tryz.ntmps16
  go_wp2_with fail
  try simp only [hwa]
  clear hwa k0 k1 k2
  refine (heldDisk wa _ 34 3 0 1 ⟨some ⟨g1, o1, none⟩, c1, some ⟨g2, o2, none⟩, c2, p3, c3, rfl, HN.out.s1.below HB.out, HN.out.s2.below HB.out, fun i hi => by omega⟩ (by decide) (by decide)).mono ?_
  rintro e w1 ⟨he, b1⟩
  obtain rfl : e = .returned (.int .i64 38) := by rw [he]; rfl
  have HA1 := hid (HA.out.below b1 HA.out.lt)
  have HB1 := hid (HB.out.trans (b1.mono HB.out.size))
  clear he b1 HA HB
  have k := HA1.out.c 3 rfl
  go_wp2_with fail
  clear k
  refine (heldHostS w1 (some ⟨g4, o4, none⟩) 3 c4 38 (HN.out.s4.below HB1.out) (by decide) (by decide) (by decide) (by decide)).mono ?_
  rintro e w2 ⟨he, b2⟩
  obtain rfl : e = .returned (.int .i64 83) := by rw [he]; rfl
  have HA2 := hid (HA1.out.below b2 HA1.out.lt)
  have HB2 := hid (HB1.out.trans (b2.mono HB1.out.size))
  clear he b2 HA1 HB1
  have k := HA2.out.c 4 rfl
  go_wp2_with fail
  clear k
  refine (heldEvent0 w2 83).mono ?_
  rintro e w3 ⟨he, b3⟩
  obtain rfl : e = .returned (.int .i64 83) := by rw [he]; rfl
  have HA3 := hid (HA2.out.below b3 HA2.out.lt)
  have HB3 := hid (HB2.out.trans (b3.mono HB2.out.size))
  clear he b3 HA2 HB2
  have k := HA3.out.c 5 rfl
  go_wp2_with fail
  clear k
  refine (heldIntS w3 (some ⟨g6, o6, none⟩) 3 c6 83 (HN.out.s6.below HB3.out) (by decide)).mono ?_
  rintro e w4 ⟨he, b4⟩
  obtain rfl : e = .returned (.int .i64 86) := by rw [he]; rfl
  have HA4 := hid (HA3.out.below b4 HA3.out.lt)
  have HB4 := hid (HB3.out.trans (b4.mono HB3.out.size))
  clear he b4 HA3 HB3
  have k := HA4.out.c 6 rfl
  go_wp2_with fail
  clear k
  refine (heldReply0 w4 86).mono ?_
  rintro e w5 ⟨he, b5⟩
  obtain rfl : e = .returned (.int .i64 86) := by rw [he]; rfl
  have HB5 := hid (HB4.out.trans (b5.mono HB4.out.size))
  clear he b5 HA4
  go_wp2
  go_ret
  exact ⟨rfl, HB5.out⟩

end Go.Proofs.YtaopkchkhdbfnaaGreatDoor.Pl

namespace Go.Proofs.YtaopkchkhdbfnaaGreatDoor.Fm
open Go.RowKit Go.Proofs.YtaopkchkhdbfnaaGreatDoor.Mem Go.Proofs.YtaopkchkhdbfnaaGreatDoor.Sec
set_option linter.unusedVariables false

/-- 'append' on an owned row, as one step of a region that draws its order. -/
theorem step_app_own {P : Program} (t e : TypeId) (z : Value) (k bytes : Nat) (ht : P.underlying t = some (.slice e)) (hinfo : (P.info? e).map (fun i => (i.zero, i.size, i.bytes)) = some (some z, k, bytes)) (hzs : z.cells.size = k) (hk : 0 < k) (hby : bytes ≤ 1048576)
    {ops : Array Oper} {o : Oper} {a : Act} {w : World} {K : Act → World → Prop} {Q : Exit → Act → World → Prop} {E : Prop} (hgd : o.guard = none) (s x : Operand)
    (ho : o.op = .call { callee := .builtin .append, args := #[s, x], argTypes := #[t, t] })
    (B : Nat) (v : Value) (n : Nat) (xs : List Value) (hs : a.eval s = v) (h : RowO w B e k v n xs) (ad : Addr) (m c : Nat) (news : List Value) (hx : a.eval x = .slice (some ad) m c) (hl : news.length = m * k) (hS : Sl w (some ad) (m * k) (fun i => news.getD i undef)) (h1 : ∀ u ∈ news, u.oneCell' = true)
    (hm : n + m ≤ 1048576) (hB : B ≤ w.heap.size)
    (hK : ∀ v' w', RowO w' B e k v' (n + m) (xs ++ news) → Kept (fun b => rb v = some b) w w' → K (a.put o.dst v') w') :
    if Region.wanted o (yielded ops a.tmps) = true then Oper.wp P o a w K Q else E := by
  have hw : Region.wanted o (yielded ops a.tmps) = true := by simp [Region.wanted, hgd]
  rw [if_pos hw]
  obtain ⟨v', w', hr, h2, h3, h4⟩ := run_app (P := P) w B t o.type e z k bytes ht hinfo hzs hk v n xs h ad m c news hl hS h1 hm hby hB
  unfold Oper.wp execOp
  simp only [ho, resolve, invoke, builtin, Sem.run_bind, Sem.run_pure, Result.andThen_ok, List.map_toArray, List.map_cons, List.map_nil, hs, hx, hr]
  exact hK v' w' h2 h3

theorem rep_step (p : List ByteArray) (k : Nat) (x : ByteArray) : (p ++ List.replicate k x).map Value.string ++ [.string x] = (p ++ List.replicate (k + 1) x).map .string := by
  rw [List.replicate_succ']; simp

theorem grow_next {w wr : World} {v : Value} {e : TypeId} {p : List ByteArray} {y : ByteArray} (h : Grow w wr v e (p.map .string)) : Grow w wr v e ((p ++ List.replicate 0 y).map .string) := by
  simpa using h

theorem lit3 : ((3 : Nat) : Int) = 3 := rfl
theorem lit4 : ((4 : Nat) : Int) = 4 := rfl

theorem small0 : J0.Small := ⟨by decide, by decide, by intro x hx; simp [J0] at hx⟩
theorem outs0 (w : World) : Ous w none J0.outs := fun i hi => by simp [J0] at hi

theorem ints6b (w w1 : World) (b : Below (w.alloc (.cells #[.int .i64 0, .int .i64 0, .int .i64 0, .int .i64 0, .int .i64 0, .int .i64 0] 3)).heap.size (w.alloc (.cells #[.int .i64 0, .int .i64 0, .int .i64 0, .int .i64 0, .int .i64 0, .int .i64 0] 3)) w1) : Ints w1 (some ⟨w.heap.size, 0, none⟩) [0, 0, 0, 0, 0, 0] := Sl.below (ints6 w) b

theorem sShow6 (w : World) (a : Option Addr) (S : Ints w a [0, 0, 0, 0, 0, 0]) : Calls Tryz.prog 117 #[.agg #[.int .i64 (-1), .int .i64 0, .slice a 6 6]] w fun r w' => r = .returned (.string (showGroup (-1) 0 [0, 0, 0, 0, 0, 0])) ∧ Below w.heap.size w w' :=
  sShowGroup w (-1) 0 a 6 [0, 0, 0, 0, 0, 0] S (by decide)

set_option maxRecDepth 100000 in
set_option maxHeartbeats 1000000 in
theorem sFormat (w : World) : Calls Tryz.prog 51 #[] w fun r w' => ∃ a cap, r = .returned (.slice a 34 cap) ∧ StrsW w' w.heap.size a fmt ∧ Below w.heap.size w w' := by
  have HF : Hid (([] : List ByteArray) ++ List.replicate 3 (fresh 0) ++ List.replicate 3 (fresh 1) ++ List.replicate 3 (fresh 2) ++ List.replicate 4 (fresh 3) ++ List.replicate 3 (fresh 4) ++ List.replicate 18 (fresh 5) = fmt) := rfl
  go_enter Tryz.func51, Tryz.ntmps51
  go_wp2
  go_loopw [1, 2] (fun v i wr => ∃ (k : Nat), k ≤ 3 ∧ i = .int .i64 (k : Int) ∧ Hid (Grow w wr v 9 ((([] : List ByteArray) ++ List.replicate k (fresh 0)).map .string))) (fun _ i _ => 3 - (intOf i).toNat)
  case atStart => exact ⟨0, Nat.zero_le _, rfl, grow_none w _ _ _ ((Below.refl _ _).alloc (Nat.le_refl _) _)⟩
  case round =>
    obtain ⟨k, hk, rfl, HG⟩ := hrel
    by_cases hlt : k < 3
    · have HX := hid (rep_step (([] : List ByteArray)) k (fresh 0))
      have hlen : ((([] : List ByteArray) ++ List.replicate k (fresh 0)).map Value.string).length + 1 ≤ 1048576 := by simp; omega
      generalize (([] : List ByteArray) ++ List.replicate k (fresh 0)).map Value.string = xs at *
      go_wp2_with fail
      refine (l4Nobody wr).mono ?_
      rintro e wa ⟨rfl, ba⟩
      have HGa := hid (HG.out.move ba)
      clear ba
      unfold lsV
      go_wp2_with fail
      refine (sShowHost 0 (-1) 0 wa).mono ?_
      rintro e wn ⟨rfl, bn⟩
      have HGn := hid (HGa.out.move bn)
      clear bn HGa
      go_wp2_with (at_builtin; refine wpList_app 22 9 (.string ByteArray.empty) 1 16 Tryz.underlying22 infoStr rfl (by decide) (by decide) _ rfl (.tmp 13) (.tmp 17) rfl w.heap.size _ xs.length xs rfl (HGn.out.alloc _) ⟨wn.heap.size, 0, none⟩ 1 1 [.string (showHost 0 (-1) 0)] rfl rfl (one_cell _ _ _) (by intro u hu; simp at hu; subst hu; rfl) hlen (HGn.out.szA _) ?_; intro v1 w1 r1 kk _; have HS := hid (HGn.out.step r1 kk))
      exact ⟨⟨k + 1, by omega, by go_num, HX.out ▸ HS⟩, by simp [intOf]; omega⟩
    · obtain rfl : k = 3 := by omega
      obtain ⟨wo0, hwo⟩ : ∃ wo, wo = wr := ⟨_, rfl⟩
      subst hwo
      have HG0 := hid (grow_next (y := fresh 1) HG.out)
      clear HG hlt hk
      simp only [lit3]
      go_wp2
      go_loopw [1, 3] (fun v i wr => ∃ (k : Nat), k ≤ 3 ∧ i = .int .i64 (k : Int) ∧ Hid (Grow w wr v 9 ((([] : List ByteArray) ++ List.replicate 3 (fresh 0) ++ List.replicate k (fresh 1)).map .string))) (fun _ i _ => 3 - (intOf i).toNat)
      case atStart => exact ⟨0, Nat.zero_le _, rfl, HG0⟩
      case round =>
        obtain ⟨k, hk, rfl, HG⟩ := hrel
        by_cases hlt : k < 3
        · have HX := hid (rep_step (([] : List ByteArray) ++ List.replicate 3 (fresh 0)) k (fresh 1))
          have hlen : ((([] : List ByteArray) ++ List.replicate 3 (fresh 0) ++ List.replicate k (fresh 1)).map Value.string).length + 1 ≤ 1048576 := by simp; omega
          generalize (([] : List ByteArray) ++ List.replicate 3 (fresh 0) ++ List.replicate k (fresh 1)).map Value.string = xs at *
          go_wp2_with fail
          refine (sShowJournal wr J0 none 0 (outs0 _) small0).mono ?_
          rintro e wn ⟨rfl, bn⟩
          have HGn := hid (HG.out.move bn)
          clear bn
          go_wp2_with (at_builtin; refine wpList_app 22 9 (.string ByteArray.empty) 1 16 Tryz.underlying22 infoStr rfl (by decide) (by decide) _ rfl (.tmp 23) (.tmp 26) rfl w.heap.size _ xs.length xs rfl (HGn.out.alloc _) ⟨wn.heap.size, 0, none⟩ 1 1 [.string (J0.show)] rfl rfl (one_cell _ _ _) (by intro u hu; simp at hu; subst hu; rfl) hlen (HGn.out.szA _) ?_; intro v1 w1 r1 kk _; have HS := hid (HGn.out.step r1 kk))
          go_roundw
          case rel => exact ⟨k + 1, by omega, by go_num, HX.out ▸ HS⟩
          case measure => simp [intOf]; omega
        · obtain rfl : k = 3 := by omega
          obtain ⟨wo1, hwo⟩ : ∃ wo, wo = wr := ⟨_, rfl⟩
          subst hwo
          have HG1 := hid (grow_next (y := fresh 2) HG.out)
          clear HG hlt hk
          simp only [lit3]
          go_wp2
          go_loopw [1, 4] (fun v i wr => ∃ (k : Nat), k ≤ 3 ∧ i = .int .i64 (k : Int) ∧ Hid (Grow w wr v 9 ((([] : List ByteArray) ++ List.replicate 3 (fresh 0) ++ List.replicate 3 (fresh 1) ++ List.replicate k (fresh 2)).map .string))) (fun _ i _ => 3 - (intOf i).toNat)
          case atStart => exact ⟨0, Nat.zero_le _, rfl, HG1⟩
          case round =>
            obtain ⟨k, hk, rfl, HG⟩ := hrel
            by_cases hlt : k < 3
            · have HX := hid (rep_step (([] : List ByteArray) ++ List.replicate 3 (fresh 0) ++ List.replicate 3 (fresh 1)) k (fresh 2))
              have hlen : ((([] : List ByteArray) ++ List.replicate 3 (fresh 0) ++ List.replicate 3 (fresh 1) ++ List.replicate k (fresh 2)).map Value.string).length + 1 ≤ 1048576 := by simp; omega
              generalize (([] : List ByteArray) ++ List.replicate 3 (fresh 0) ++ List.replicate 3 (fresh 1) ++ List.replicate k (fresh 2)).map Value.string = xs at *
              obtain ⟨we, hwe, ee, E0, BE⟩ := one_new wr [] 3
              have HGe := hid (HG.out.move BE)
              clear E0 BE
              go_wp2_with fail
              refine (sShowFrees we (some ⟨wr.heap.size, 0, none⟩) 0 [] (fun i hi => by simp at hi) (by decide)).mono ?_
              rintro e wn ⟨rfl, bn⟩
              have HGn := hid (HGe.out.move bn)
              clear bn HGe hwe ee
              go_wp2_with (at_builtin; refine wpList_app 22 9 (.string ByteArray.empty) 1 16 Tryz.underlying22 infoStr rfl (by decide) (by decide) _ rfl (.tmp 32) (.tmp 35) rfl w.heap.size _ xs.length xs rfl (HGn.out.alloc _) ⟨wn.heap.size, 0, none⟩ 1 1 [.string (showFrees [])] rfl rfl (one_cell _ _ _) (by intro u hu; simp at hu; subst hu; rfl) hlen (HGn.out.szA _) ?_; intro v1 w1 r1 kk _; have HS := hid (HGn.out.step r1 kk))
              go_roundw
              case rel => exact ⟨k + 1, by omega, by go_num, HX.out ▸ HS⟩
              case measure => simp [intOf]; omega
            · obtain rfl : k = 3 := by omega
              obtain ⟨wo2, hwo⟩ : ∃ wo, wo = wr := ⟨_, rfl⟩
              subst hwo
              have HG2 := hid (grow_next (y := fresh 3) HG.out)
              clear HG hlt hk
              simp only [lit3]
              go_wp2
              go_loopw [1, 5] (fun v i wr => ∃ (k : Nat), k ≤ 4 ∧ i = .int .i64 (k : Int) ∧ Hid (Grow w wr v 9 ((([] : List ByteArray) ++ List.replicate 3 (fresh 0) ++ List.replicate 3 (fresh 1) ++ List.replicate 3 (fresh 2) ++ List.replicate k (fresh 3)).map .string))) (fun _ i _ => 4 - (intOf i).toNat)
              case atStart => exact ⟨0, Nat.zero_le _, rfl, HG2⟩
              case round =>
                obtain ⟨k, hk, rfl, HG⟩ := hrel
                by_cases hlt : k < 4
                · have HX := hid (rep_step (([] : List ByteArray) ++ List.replicate 3 (fresh 0) ++ List.replicate 3 (fresh 1) ++ List.replicate 3 (fresh 2)) k (fresh 3))
                  have hlen : ((([] : List ByteArray) ++ List.replicate 3 (fresh 0) ++ List.replicate 3 (fresh 1) ++ List.replicate 3 (fresh 2) ++ List.replicate k (fresh 3)).map Value.string).length + 1 ≤ 1048576 := by simp; omega
                  generalize (([] : List ByteArray) ++ List.replicate 3 (fresh 0) ++ List.replicate 3 (fresh 1) ++ List.replicate 3 (fresh 2) ++ List.replicate k (fresh 3)).map Value.string = xs at *
                  go_wp2_with fail
                  refine (l4Nobody wr).mono ?_
                  rintro e wa ⟨rfl, ba⟩
                  have HGa := hid (HG.out.move ba)
                  clear ba
                  unfold lsV
                  go_wp2_with fail
                  refine (l4NoMap wa).mono ?_
                  rintro e wb ⟨pa, pc, rfl, hI, bb⟩
                  have HGb := hid (HGa.out.move bb)
                  have HI := hid (Wr.sl hI)
                  clear bb hI HGa
                  go_wp2_with fail
                  refine (sShowVol wb (-1) 0 false pa pc [-1, -1, -1, -1] HI.out (by decide)).mono ?_
                  rintro e wn ⟨rfl, bn⟩
                  have HGn := hid (HGb.out.move bn)
                  clear bn HGb HI
                  go_wp2_with (at_builtin; refine wpList_app 22 9 (.string ByteArray.empty) 1 16 Tryz.underlying22 infoStr rfl (by decide) (by decide) _ rfl (.tmp 41) (.tmp 46) rfl w.heap.size _ xs.length xs rfl (HGn.out.alloc _) ⟨wn.heap.size, 0, none⟩ 1 1 [.string (showVol (-1) 0 false [-1, -1, -1, -1])] rfl rfl (one_cell _ _ _) (by intro u hu; simp at hu; subst hu; rfl) hlen (HGn.out.szA _) ?_; intro v1 w1 r1 kk _; have HS := hid (HGn.out.step r1 kk))
                  go_roundw
                  case rel => exact ⟨k + 1, by omega, by go_num, HX.out ▸ HS⟩
                  case measure => simp [intOf]; omega
                · obtain rfl : k = 4 := by omega
                  obtain ⟨wo3, hwo⟩ : ∃ wo, wo = wr := ⟨_, rfl⟩
                  subst hwo
                  have HG3 := hid (grow_next (y := fresh 4) HG.out)
                  clear HG hlt hk
                  simp only [lit4]
                  go_wp2
                  go_loopw [1, 6] (fun v i wr => ∃ (k : Nat), k ≤ 3 ∧ i = .int .i64 (k : Int) ∧ Hid (Grow w wr v 9 ((([] : List ByteArray) ++ List.replicate 3 (fresh 0) ++ List.replicate 3 (fresh 1) ++ List.replicate 3 (fresh 2) ++ List.replicate 4 (fresh 3) ++ List.replicate k (fresh 4)).map .string))) (fun _ i _ => 3 - (intOf i).toNat)
                  case atStart => exact ⟨0, Nat.zero_le _, rfl, HG3⟩
                  case round =>
                    obtain ⟨k, hk, rfl, HG⟩ := hrel
                    by_cases hlt : k < 3
                    · have HX := hid (rep_step (([] : List ByteArray) ++ List.replicate 3 (fresh 0) ++ List.replicate 3 (fresh 1) ++ List.replicate 3 (fresh 2) ++ List.replicate 4 (fresh 3)) k (fresh 4))
                      have hlen : ((([] : List ByteArray) ++ List.replicate 3 (fresh 0) ++ List.replicate 3 (fresh 1) ++ List.replicate 3 (fresh 2) ++ List.replicate 4 (fresh 3) ++ List.replicate k (fresh 4)).map Value.string).length + 1 ≤ 1048576 := by simp; omega
                      generalize (([] : List ByteArray) ++ List.replicate 3 (fresh 0) ++ List.replicate 3 (fresh 1) ++ List.replicate 3 (fresh 2) ++ List.replicate 4 (fresh 3) ++ List.replicate k (fresh 4)).map Value.string = xs at *
                      have hmk := make6
                      have HG6 : Hid (∀ w1 : World, Below wr.heap.size wr w1 → Ints (w1.alloc (.cells #[.int .i64 0, .int .i64 0, .int .i64 0, .int .i64 0, .int .i64 0, .int .i64 0] 3)) (some ⟨w1.heap.size, 0, none⟩) [0, 0, 0, 0, 0, 0]) := fun w1 _ => ints6 w1
                      go_wp2
                      go_region_held_law (fun _ => True) (trivial)
                        (first
                          | (go_at_call 112; refine (l4Nobody _).mono ?_; rintro e wa ⟨rfl, ba⟩; unfold lsV)
                          | (go_at_call 117; first
                              | (have hI := ints6 wa; (with_reducible refine (sShow6 _ _ hI).mono ?_); rintro e wn ⟨rfl, bn⟩; have HGn := hid (((HG.out.move (undrew ba)).move ((Below.refl _ wa).alloc (Nat.le_refl _) _)).move bn))
                              | (have hI := ints6b wr wa (undrew ba); (with_reducible refine (sShow6 _ _ hI).mono ?_); rintro e wn ⟨rfl, bn⟩; have HGn := hid (((HG.out.move ((Below.refl _ wr).alloc (Nat.le_refl _) _)).move (undrew ba)).move bn)))
                          | (refine step_app_own 22 9 (.string ByteArray.empty) 1 16 Tryz.underlying22 infoStr rfl (by decide) (by decide) (by rfl) (.tmp 52) (.tmp 57) (by rfl) w.heap.size _ xs.length xs (by rfl) (HGn.out.alloc _) ⟨wn.heap.size, 0, none⟩ 1 1 [.string (showGroup (-1) 0 [0, 0, 0, 0, 0, 0])] (by rfl) rfl (one_cell _ _ _) (by intro u hu; simp at hu; subst hu; rfl) hlen (HGn.out.szA _) ?_; intro v1 w1 r1 kk; have HS := hid (HGn.out.step r1 kk)))
                      all_goals (go_wp2; go_roundw; (case rel => exact ⟨k + 1, by omega, by go_num, HX.out ▸ HS⟩); (case measure => simp [intOf]; omega))
                    · obtain rfl : k = 3 := by omega
                      obtain ⟨wo4, hwo⟩ : ∃ wo, wo = wr := ⟨_, rfl⟩
                      subst hwo
                      have HG4 := hid (grow_next (y := fresh 5) HG.out)
                      clear HG hlt hk
                      simp only [lit3]
                      go_wp2
                      go_loopw [1, 7] (fun v i wr => ∃ (k : Nat), k ≤ 18 ∧ i = .int .i64 (k : Int) ∧ Hid (Grow w wr v 9 ((([] : List ByteArray) ++ List.replicate 3 (fresh 0) ++ List.replicate 3 (fresh 1) ++ List.replicate 3 (fresh 2) ++ List.replicate 4 (fresh 3) ++ List.replicate 3 (fresh 4) ++ List.replicate k (fresh 5)).map .string))) (fun _ i _ => 18 - (intOf i).toNat)
                      case atStart => exact ⟨0, Nat.zero_le _, rfl, HG4⟩
                      case round =>
                        obtain ⟨k, hk, rfl, HG⟩ := hrel
                        by_cases hlt : k < 18
                        · have HX := hid (rep_step (([] : List ByteArray) ++ List.replicate 3 (fresh 0) ++ List.replicate 3 (fresh 1) ++ List.replicate 3 (fresh 2) ++ List.replicate 4 (fresh 3) ++ List.replicate 3 (fresh 4)) k (fresh 5))
                          have hlen : ((([] : List ByteArray) ++ List.replicate 3 (fresh 0) ++ List.replicate 3 (fresh 1) ++ List.replicate 3 (fresh 2) ++ List.replicate 4 (fresh 3) ++ List.replicate 3 (fresh 4) ++ List.replicate k (fresh 5)).map Value.string).length + 1 ≤ 1048576 := by simp; omega
                          generalize (([] : List ByteArray) ++ List.replicate 3 (fresh 0) ++ List.replicate 3 (fresh 1) ++ List.replicate 3 (fresh 2) ++ List.replicate 4 (fresh 3) ++ List.replicate 3 (fresh 4) ++ List.replicate k (fresh 5)).map Value.string = xs at *
                          obtain ⟨wn, hwn⟩ : ∃ wn, wn = wr := ⟨_, rfl⟩
                          have HGn := HG
                          subst hwn
                          go_wp2_with (at_builtin; refine wpList_app 22 9 (.string ByteArray.empty) 1 16 Tryz.underlying22 infoStr rfl (by decide) (by decide) _ rfl (.tmp 63) (.tmp 64) rfl w.heap.size _ xs.length xs rfl (HGn.out.alloc _) ⟨wn.heap.size, 0, none⟩ 1 1 [.string (⟨#[]⟩)] rfl rfl (one_cell _ _ _) (by intro u hu; simp at hu; subst hu; rfl) hlen (HGn.out.szA _) ?_; intro v1 w1 r1 kk _; have HS := hid (HGn.out.step r1 kk))
                          go_roundw
                          case rel => exact ⟨k + 1, by omega, by go_num, HX.out ▸ HS⟩
                          case measure => simp [intOf]; omega
                        · obtain rfl : k = 18 := by omega
                          go_wp2
                          go_ret
                          obtain ⟨a, cap, e, hW⟩ := grow_strs HG.out
                          rw [HF.out] at e hW
                          exact ⟨a, cap, by rw [e]; rfl, hW, HG.out.bel⟩

end Go.Proofs.YtaopkchkhdbfnaaGreatDoor.Fm

namespace Go.Proofs.YtaopkchkhdbfnaaGreatDoor.Mem
open Go.RowKit
set_option linter.unusedVariables false

/-- The cells of a disk's three lists. -/
def sCells (l : List ByteArray) : List Value := l.map .string
def iCells (l : List Int) : List Value := l.map (.int .i64)
def wCells (l : List Wt) : List Value := l.flatMap Wt.cells

theorem wCells_length (l : List Wt) : (wCells l).length = l.length * 4 := by
  induction l with
  | nil => rfl
  | cons x l ih =>
    show (x.cells ++ wCells l).length = _
    rw [List.length_append, ih]
    simp [Wt.cells]; omega

theorem wCells_at (l : List Wt) (i : Nat) (h : i < l.length * 4) : (wCells l).getD i undef = wcell l i := by
  induction l generalizing i with
  | nil => simp at h
  | cons x l ih =>
    show (x.cells ++ wCells l).getD i undef = _
    have hx : x.cells.length = 4 := rfl
    rw [List.getD_eq_getElem?_getD]
    by_cases h4 : i < 4
    · rw [List.getElem?_append_left (by omega)]
      unfold wcell
      rw [show i / 4 = 0 by omega, show i % 4 = i by omega]
      rw [List.getD_eq_getElem?_getD]
      rfl
    · rw [List.getElem?_append_right (by omega), hx, ← List.getD_eq_getElem?_getD, ih (i - 4) (by simp at h; omega)]
      unfold wcell
      rw [show (i - 4) % 4 = i % 4 by omega]
      obtain ⟨q, hq⟩ : ∃ q, i / 4 = q + 1 := ⟨i / 4 - 1, by omega⟩
      rw [hq, show (i - 4) / 4 = q by omega]
      rfl

theorem sCells_at (l : List ByteArray) (i : Nat) (h : i < l.length) : (sCells l).getD i undef = .string (l.getD i ByteArray.empty) := by
  unfold sCells
  simp [List.getD_eq_getElem?_getD, h]
theorem iCells_at (l : List Int) (i : Nat) (h : i < l.length) : (iCells l).getD i undef = .int .i64 (l.getD i 0) := by
  unfold iCells
  simp [List.getD_eq_getElem?_getD, h]

theorem strs_sl {w : World} {a : Option Addr} {l : List ByteArray} (h : Strs w a l) : Sl w a (l.length * 1) (fun i => (sCells l).getD i undef) := by
  rw [Nat.mul_one]; exact Sl.congr h (fun i hi => (sCells_at l i hi).symm)
theorem ints_sl {w : World} {a : Option Addr} {l : List Int} (h : Ints w a l) : Sl w a (l.length * 1) (fun i => (iCells l).getD i undef) := by
  rw [Nat.mul_one]; exact Sl.congr h (fun i hi => (iCells_at l i hi).symm)
theorem wts_sl {w : World} {a : Option Addr} {l : List Wt} (h : Wts w a l) : Sl w a (l.length * 4) (fun i => (wCells l).getD i undef) :=
  Sl.congr h (fun i hi => (wCells_at l i hi).symm)
theorem sCells_one (l : List ByteArray) : ∀ u ∈ sCells l, u.oneCell' = true := fun u hu => by
  obtain ⟨x, _, rfl⟩ := List.mem_map.1 hu; rfl
theorem iCells_one (l : List Int) : ∀ u ∈ iCells l, u.oneCell' = true := fun u hu => by
  obtain ⟨x, _, rfl⟩ := List.mem_map.1 hu; rfl
theorem wCells_one (l : List Wt) : ∀ u ∈ wCells l, u.oneCell' = true := fun u hu => by
  obtain ⟨x, _, hx⟩ := List.mem_flatMap.1 hu
  unfold Wt.cells at hx
  simp only [List.mem_cons, List.not_mem_nil, or_false] at hx
  rcases hx with rfl | rfl | rfl | rfl <;> rfl

/-- A disk of the call's own: three rows, no two in one block. -/
def DkO (w : World) (B : Nat) (v : Value) (D : Dk) : Prop := ∃ v1 v2 v3, v = .agg #[v1, v2, v3] ∧ RowO w B 9 1 v1 D.sec.length (sCells D.sec) ∧ RowO w B 3 1 v2 D.ep.length (iCells D.ep) ∧ RowO w B 148 4 v3 D.pe.length (wCells D.pe) ∧
  (∀ b, rb v1 = some b → rb v2 ≠ some b ∧ rb v3 ≠ some b) ∧ (∀ b, rb v2 = some b → rb v3 ≠ some b)

theorem DkO.w {w : World} {B : Nat} {v : Value} {D : Dk} (h : DkO w B v D) : DkW w B v D := by
  obtain ⟨v1, v2, v3, rfl, r1, r2, r3, f1, f2⟩ := h
  obtain ⟨a1, c1, e1, w1⟩ := r1.wr
  obtain ⟨a2, c2, e2, w2⟩ := r2.wr
  obtain ⟨a3, c3, e3, w3⟩ := r3.wr
  refine ⟨a1, c1, a2, c2, a3, c3, by rw [e1, e2, e3], ?_, ?_, ?_, ?_, ?_⟩
  · rw [Nat.mul_one] at w1; exact w1.congr (fun i hi => sCells_at _ i hi)
  · rw [Nat.mul_one] at w2; exact w2.congr (fun i hi => iCells_at _ i hi)
  · exact w3.congr (fun i hi => wCells_at _ i hi)
  · intro b hb
    have hb1 := r1.foot e1 (b := b) (by rw [Nat.mul_one]; exact hb)
    exact ⟨fun h2 => (f1 b hb1).1 (r2.foot e2 (by rw [Nat.mul_one]; exact h2)), fun h3 => (f1 b hb1).2 (r3.foot e3 h3)⟩
  · intro b hb h3
    exact f2 b (r2.foot e2 (by rw [Nat.mul_one]; exact hb)) (r3.foot e3 h3)

theorem DkO.below {w w' : World} {B : Nat} {v : Value} {D : Dk} (h : DkO w B v D) (b : Below w.heap.size w w') : DkO w' B v D := by
  obtain ⟨v1, v2, v3, e, r1, r2, r3, f1, f2⟩ := h
  exact ⟨v1, v2, v3, e, r1.below b, r2.below b, r3.below b, f1, f2⟩

theorem info9' : (Tryz.prog.info? 9).map (fun i => (i.zero, i.size, i.bytes)) = some (some (.string ByteArray.empty), 1, 16) := by kernel_rfl
theorem info3' : (Tryz.prog.info? 3).map (fun i => (i.zero, i.size, i.bytes)) = some (some (.int .i64 0), 1, 8) := by kernel_rfl

/-- What stays while a disk is copied, beside the argument's three cells: all up to block n, and that the result's three cells may be written. -/
structure CpRest (wc : World) (n : Nat) (w : World) : Prop where
  bel : Below (n + 1) wc w
  s : ∀ j, j < 3 → ∃ u, w.cell? ⟨n + 1, j, none⟩ = some u
  f : ∀ j, j < 3 → w.frozen? ⟨n + 1, j, none⟩ = false

theorem CpRest.below {wc w w' : World} {n : Nat} (h : CpRest wc n w) (b : Below w.heap.size w w') (hn : n + 1 ≤ wc.heap.size) : CpRest wc n w' :=
  ⟨h.bel.trans (b.mono (Nat.le_trans hn h.bel.size)), fun j hj => by
    obtain ⟨u, hu⟩ := h.s j hj
    exact ⟨u, (b.cell (p := ⟨n + 1, j, none⟩) (World.block_lt_of_cell? w _ hu)).trans hu⟩, fun j hj => by
    obtain ⟨u, hu⟩ := h.s j hj
    exact (b.frozen (p := ⟨n + 1, j, none⟩) (World.block_lt_of_cell? w _ hu)).trans (h.f j hj)⟩

theorem CpRest.set {wc w : World} {n : Nat} (h : CpRest wc n w) (i : Nat) (v : Value) : CpRest wc n (w.setCell ⟨n + 1, i, none⟩ v) :=
  ⟨h.bel.setCell (Nat.le_refl _) v, fun j hj => by
    obtain ⟨u, hu⟩ := h.s j hj
    exact cell?_setCell_some hu, fun j hj => by rw [World.frozen?_setCell]; exact h.f j hj⟩

theorem cp_below {wc w w' : World} {n : Nat} {x0 x1 x2 : Value} (hn : n + 1 ≤ wc.heap.size) (b : Below w.heap.size w w') (h : w.cell? ⟨n, 0, none⟩ = some x0 ∧ w.cell? ⟨n, 1, none⟩ = some x1 ∧ w.cell? ⟨n, 2, none⟩ = some x2 ∧ CpRest wc n w) : w'.cell? ⟨n, 0, none⟩ = some x0 ∧ w'.cell? ⟨n, 1, none⟩ = some x1 ∧ w'.cell? ⟨n, 2, none⟩ = some x2 ∧ CpRest wc n w' := by
  obtain ⟨h0, h1, h2, hb⟩ := h
  exact ⟨(b.cell (p := ⟨n, 0, none⟩) (World.block_lt_of_cell? w _ h0)).trans h0, (b.cell (p := ⟨n, 1, none⟩) (World.block_lt_of_cell? w _ h1)).trans h1, (b.cell (p := ⟨n, 2, none⟩) (World.block_lt_of_cell? w _ h2)).trans h2, hb.below b hn⟩

theorem cp_alloc {wc w : World} {n : Nat} {x0 x1 x2 : Value} (hn : n + 1 ≤ wc.heap.size) (h : w.cell? ⟨n, 0, none⟩ = some x0 ∧ w.cell? ⟨n, 1, none⟩ = some x1 ∧ w.cell? ⟨n, 2, none⟩ = some x2 ∧ CpRest wc n w) (o : Obj) : (w.alloc o).cell? ⟨n, 0, none⟩ = some x0 ∧ (w.alloc o).cell? ⟨n, 1, none⟩ = some x1 ∧ (w.alloc o).cell? ⟨n, 2, none⟩ = some x2 ∧ CpRest wc n (w.alloc o) :=
  cp_below hn ((Below.refl _ _).alloc (Nat.le_refl _) o) h

theorem cp_alloc_drew {wc w : World} {n : Nat} {x0 x1 x2 : Value} (hn : n + 1 ≤ wc.heap.size) (h : w.drew.cell? ⟨n, 0, none⟩ = some x0 ∧ w.drew.cell? ⟨n, 1, none⟩ = some x1 ∧ w.drew.cell? ⟨n, 2, none⟩ = some x2 ∧ CpRest wc n (w.drew)) (o : Obj) : (w.alloc o).drew.cell? ⟨n, 0, none⟩ = some x0 ∧ (w.alloc o).drew.cell? ⟨n, 1, none⟩ = some x1 ∧ (w.alloc o).drew.cell? ⟨n, 2, none⟩ = some x2 ∧ CpRest wc n ((w.alloc o).drew) := cp_alloc (w := w.drew) hn h o

theorem cp_set {wc w : World} {n : Nat} {x0 x1 x2 : Value} (h : w.cell? ⟨n, 0, none⟩ = some x0 ∧ w.cell? ⟨n, 1, none⟩ = some x1 ∧ w.cell? ⟨n, 2, none⟩ = some x2 ∧ CpRest wc n w) (i : Nat) (v : Value) : (w.setCell ⟨n + 1, i, none⟩ v).cell? ⟨n, 0, none⟩ = some x0 ∧ (w.setCell ⟨n + 1, i, none⟩ v).cell? ⟨n, 1, none⟩ = some x1 ∧ (w.setCell ⟨n + 1, i, none⟩ v).cell? ⟨n, 2, none⟩ = some x2 ∧ CpRest wc n (w.setCell ⟨n + 1, i, none⟩ v) := by
  obtain ⟨h0, h1, h2, hb⟩ := h
  have ne : ∀ j, (⟨n + 1, i, none⟩ : Addr) ≠ ⟨n, j, none⟩ := fun j e => by injection e; omega
  exact ⟨by rw [World.cell?_setCell_other _ _ _ _ (ne 0)]; exact h0, by rw [World.cell?_setCell_other _ _ _ _ (ne 1)]; exact h1, by rw [World.cell?_setCell_other _ _ _ _ (ne 2)]; exact h2, hb.set i v⟩

theorem cp_sl {w0 wc w : World} {n : Nat} {x0 x1 x2 : Value} {a : Option Addr} {m : Nat} {f : Nat → Value} (hS : Sl w0 a m f) (hB : Below w0.heap.size w0 wc) (hn : w0.heap.size = n) (h : w.cell? ⟨n, 0, none⟩ = some x0 ∧ w.cell? ⟨n, 1, none⟩ = some x1 ∧ w.cell? ⟨n, 2, none⟩ = some x2 ∧ CpRest wc n w) : Sl w a m f :=
  hS.below (hB.trans (h.2.2.2.bel.mono (by omega)))

theorem below_a1 {w w' : World} {o : Obj} (b : Below (w.alloc o).heap.size (w.alloc o) w') : Below w.heap.size w w' :=
  ((Below.refl _ _).alloc (Nat.le_refl _) o).trans (b.mono (Nat.le_of_lt (lt_alloc w o)))
theorem below_a2 {w w' : World} {o p : Obj} (b : Below ((w.alloc o).alloc p).heap.size ((w.alloc o).alloc p) w') : Below w.heap.size w w' := below_a1 (below_a1 b)

/-- Rows that were laid one after the other lie in blocks of their own. -/
theorem apart_fresh {v1 v2 : Value} {n1 n2 s1 s2 z : Nat} {p2 : Prop} (z1 : n1 = 0 → rb v1 = none) (y1 : 0 < n1 → rb v1 = some s1 ∧ s1 < z) (z2 : n2 = 0 → rb v2 = none) (y2 : 0 < n2 → rb v2 = some s2 ∧ p2) (h : z ≤ s2) : ∀ b, rb v1 = some b → rb v2 ≠ some b := by
  intro b h1 h2
  rcases Nat.eq_zero_or_pos n1 with e | e
  · rw [z1 e] at h1; cases h1
  rcases Nat.eq_zero_or_pos n2 with e' | e'
  · rw [z2 e'] at h2; cases h2
  have q1 := (y1 e).1.symm.trans h1
  have q2 := (y2 e').1.symm.trans h2
  have := (y1 e).2
  cases q1
  cases q2
  omega

/-- A struct that is handed back out of cells that are known. -/
theorem results_mid {P : Program} {fn : Func} {p : Tmp} {ty : TypeId} (h : fn.results = #[.cell p ty]) (tmps : Array Value) (w : World) (g : Nat) (xs : List Value) (d : TypeDesc)
    (hp : tmps.getD p undef = .pointer (some ⟨g, 0, none⟩)) (hr : w.rangeAt g 0 xs)
    (hu : P.underlying ty = some d) (hd : d.isRow = true) (hi : (P.info? ty).map (·.size) = some xs.length) :
    (results fn tmps).run P w = .ok (.agg xs.toArray) w := by
  have hp' : tmps[p]?.getD undef = .pointer (some ⟨g, 0, none⟩) := by simpa using hp
  simp [results, h, hp', asAddr, run_loadVar_mid w g 0 ty xs d hr hu hd hi]

theorem range3 {w : World} {g : Nat} {x0 x1 x2 u0 u1 u2 : Value} (h0 : w.cell? ⟨g, 0, none⟩ = some u0) (h1 : w.cell? ⟨g, 1, none⟩ = some u1) (h2 : w.cell? ⟨g, 2, none⟩ = some u2) :
    (((w.setCell ⟨g, 0, none⟩ x0).setCell ⟨g, 1, none⟩ x1).setCell ⟨g, 2, none⟩ x2).rangeAt g 0 [x0, x1, x2] := by
  have ne : ∀ i j, i ≠ j → (⟨g, i, none⟩ : Addr) ≠ ⟨g, j, none⟩ := fun i j h e => h (by injection e)
  intro j v hv
  match j, hv with
  | 0, hv =>
    cases hv
    rw [World.cell?_setCell_other _ _ _ _ (ne 2 (0 + 0) (by omega)), World.cell?_setCell_other _ _ _ _ (ne 1 (0 + 0) (by omega))]
    exact World.cell?_setCell_same _ _ _ h0
  | 1, hv =>
    cases hv
    rw [World.cell?_setCell_other _ _ _ _ (ne 2 (0 + 1) (by omega))]
    exact World.cell?_setCell_same _ _ _ (u := u1) (by rw [World.cell?_setCell_other _ _ _ _ (ne 0 1 (by omega))]; exact h1)
  | 2, hv =>
    cases hv
    exact World.cell?_setCell_same _ _ _ (u := u2) (by rw [World.cell?_setCell_other _ _ _ _ (ne 1 2 (by omega)), World.cell?_setCell_other _ _ _ _ (ne 0 2 (by omega))]; exact h2)

theorem kept3 (w : World) (g : Nat) (x0 x1 x2 : Value) : Kept (fun b => b = g) w (((w.setCell ⟨g, 0, none⟩ x0).setCell ⟨g, 1, none⟩ x1).setCell ⟨g, 2, none⟩ x2) :=
  (((kept_set _ _ _ _).trans (kept_set _ _ _ _)).trans (kept_set _ _ _ _)).mono (fun b _ h => by rcases h with (h | h) | h <;> exact h)

theorem cp_size {wc w : World} {n : Nat} {x0 x1 x2 : Value} (h : w.cell? ⟨n, 0, none⟩ = some x0 ∧ w.cell? ⟨n, 1, none⟩ = some x1 ∧ w.cell? ⟨n, 2, none⟩ = some x2 ∧ CpRest wc n w) : wc.heap.size ≤ w.heap.size := h.2.2.2.bel.size

theorem copy_end {w wc w3 : World} {v1 v2 v3 : Value} {D : Dk} (ec : wc.heap.size = w.heap.size + 1 + 1) (hB : Below w.heap.size w wc) (hb : Below (w.heap.size + 1) wc w3)
    (r1 : RowO w3 wc.heap.size 9 1 v1 D.sec.length (sCells D.sec)) (r2 : RowO w3 wc.heap.size 3 1 v2 D.ep.length (iCells D.ep)) (r3 : RowO w3 wc.heap.size 148 4 v3 D.pe.length (wCells D.pe))
    (s12 : ∀ b, rb v1 = some b → rb v2 ≠ some b) (s13 : ∀ b, rb v1 = some b → rb v3 ≠ some b) (s23 : ∀ b, rb v2 = some b → rb v3 ≠ some b) :
    DkO (((w3.setCell ⟨w.heap.size + 1, 0, none⟩ v1).setCell ⟨w.heap.size + 1, 1, none⟩ v2).setCell ⟨w.heap.size + 1, 2, none⟩ v3) w.heap.size (.agg [v1, v2, v3].toArray) D ∧
    Below w.heap.size w (((w3.setCell ⟨w.heap.size + 1, 0, none⟩ v1).setCell ⟨w.heap.size + 1, 1, none⟩ v2).setCell ⟨w.heap.size + 1, 2, none⟩ v3) := by
  have k := kept3 w3 (w.heap.size + 1) v1 v2 v3
  refine ⟨⟨v1, v2, v3, rfl, ?_, ?_, ?_, fun b h => ⟨s12 b h, s13 b h⟩, s23⟩, ?_⟩
  · exact (r1.kept k (fun b h e => by have := (r1.lt h).1; omega)).mono (by omega)
  · exact (r2.kept k (fun b h e => by have := (r2.lt h).1; omega)).mono (by omega)
  · exact (r3.kept k (fun b h e => by have := (r3.lt h).1; omega)).mono (by omega)
  · exact below_set (below_set (below_set (hB.trans (hb.mono (by omega))) _ _ _ (by omega)) _ _ _ (by omega)) _ _ _ (by omega)

end Go.Proofs.YtaopkchkhdbfnaaGreatDoor.Mem

namespace Go.Proofs.YtaopkchkhdbfnaaGreatDoor.Mem
open Go.RowKit Classical
set_option linter.unusedVariables false

/-- The blocks of a disk's rows that have room. -/
def DkB (v : Value) (b : Nat) : Prop := ∃ v1 v2 v3, v = .agg #[v1, v2, v3] ∧ (rb v1 = some b ∨ rb v2 = some b ∨ rb v3 = some b)

theorem DkO.lt {w : World} {B : Nat} {v : Value} {D : Dk} (h : DkO w B v D) {b : Nat} (hb : DkB v b) : B ≤ b ∧ b < w.heap.size := by
  obtain ⟨v1, v2, v3, rfl, r1, r2, r3, _, _⟩ := h
  obtain ⟨_, _, _, e, hb⟩ := hb
  cases e
  rcases hb with hb | hb | hb
  · exact r1.lt hb
  · exact r2.lt hb
  · exact r3.lt hb

theorem DkO.kept {S : Nat → Prop} {w w' : World} {B : Nat} {v : Value} {D : Dk} (h : DkO w B v D) (k : Kept S w w') (hn : ∀ b, DkB v b → ¬ S b) : DkO w' B v D := by
  obtain ⟨v1, v2, v3, rfl, r1, r2, r3, f1, f2⟩ := h
  exact ⟨v1, v2, v3, rfl, r1.kept k (fun b hb => hn b ⟨_, _, _, rfl, Or.inl hb⟩), r2.kept k (fun b hb => hn b ⟨_, _, _, rfl, Or.inr (Or.inl hb)⟩), r3.kept k (fun b hb => hn b ⟨_, _, _, rfl, Or.inr (Or.inr hb)⟩), f1, f2⟩

theorem DkO.read {w : World} {B : Nat} {v : Value} {D : Dk} (h : DkO w B v D) : DkR w v D := h.w.read

/-- A struct out of its own block, and one temporary, handed back. -/
theorem results_row2 {P : Program} {fn : Func} {p u : Tmp} {ty : TypeId} (h : fn.results = #[.cell p ty, .tmp u]) (tmps : Array Value) (w : World) (g : Nat) (xs : List Value) (d : TypeDesc)
    (hp : tmps.getD p undef = .pointer (some ⟨g, 0, none⟩)) (hr : Row w g xs)
    (hu : P.underlying ty = some d) (hd : (match d with | .struct _ | .array _ _ => true | _ => false) = true) (hi : (P.info? ty).map (·.size) = some xs.length) :
    (results fn tmps).run P w = .ok (.tuple #[.agg xs.toArray, tmps.getD u undef]) w := by
  obtain ⟨t, hb⟩ := hr
  rw [results_cell_tmp h, hp]
  have hl := run_loadVar_row (P := P) w g t ty xs.toArray (0, 0) d hb hu hd (by simpa using hi)
  simp [asAddr, Result.andThen, hl]

/-- What Put makes of a right disk. -/
def Dk.put (D : Dk) (h e s : Int) (t : ByteArray) : Dk × Int :=
  if ((0 ≤ h ∧ h < 3) ∧ 0 ≤ s ∧ s < (D.sec.length : Int)) ∧ (t.size : Int) ≤ 700 then (if D.ep.getD h.toNat 0 = e then (if (D.pe.length : Int) < 40 then (⟨D.sec, D.ep, D.pe ++ [⟨h, e, s, t⟩]⟩, 0) else (D, 3)) else (D, 2)) else (D, 1)

/-- The sizes of a disk on which spec's own functions work. -/
structure Dk.Fit (D : Dk) : Prop where
  h1 : D.sec.length ≤ 524288
  h2 : D.ep.length = 3
  h3 : D.pe.length ≤ 524288

/-- The end of a function that hands its own disk back: the disk is laid into the result's block. -/
theorem put_end {w w2 : World} {B : Nat} {v1 v2 v3 : Value} {D : Dk} (hw : w.heap.size + 1 < w2.heap.size) (hb : Below B w w2) (hB : B ≤ w.heap.size) (O : DkO w2 B (.agg #[v1, v2, v3]) D) (hl : ∀ b, DkB (.agg #[v1, v2, v3]) b → b ≠ w.heap.size + 1) (R : Row w2 (w.heap.size + 1) [.slice none 0 0, .slice none 0 0, .slice none 0 0]) :
    DkO (((w2.setCell ⟨w.heap.size + 1, 0, none⟩ v1).setCell ⟨w.heap.size + 1, 1, none⟩ v2).setCell ⟨w.heap.size + 1, 2, none⟩ v3) B (.agg #[v1, v2, v3]) D ∧
    Below B w (((w2.setCell ⟨w.heap.size + 1, 0, none⟩ v1).setCell ⟨w.heap.size + 1, 1, none⟩ v2).setCell ⟨w.heap.size + 1, 2, none⟩ v3) ∧
    Row (((w2.setCell ⟨w.heap.size + 1, 0, none⟩ v1).setCell ⟨w.heap.size + 1, 1, none⟩ v2).setCell ⟨w.heap.size + 1, 2, none⟩ v3) (w.heap.size + 1) [v1, v2, v3] :=
  ⟨O.kept (kept3 w2 (w.heap.size + 1) v1 v2 v3) hl, below_set (below_set (below_set hb _ _ _ (by omega)) _ _ _ (by omega)) _ _ _ (by omega), ((R.set 0 v1).set 1 v2).set 2 v3⟩

theorem wCells_snoc (l : List Wt) (x : Wt) : wCells (l ++ [x]) = wCells l ++ x.cells := by
  unfold wCells
  rw [List.flatMap_append]
  simp

/-- A disk whose third list was appended to. -/
theorem DkO.more {w1 wa w2 : World} {B : Nat} {v1 v2 v3 v3' : Value} {D : Dk} {l : List Wt} (O : DkO w1 B (.agg #[v1, v2, v3]) D) (b' : Below w1.heap.size w1 wa) (k : Kept (fun b => rb v3 = some b) wa w2)
    (r : RowO w2 B 148 4 v3' l.length (wCells l)) (hi : rb v3' = none ∨ rb v3' = rb v3 ∨ (rb v3' = some wa.heap.size ∧ wa.heap.size < w2.heap.size)) : DkO w2 B (.agg #[v1, v2, v3']) ⟨D.sec, D.ep, l⟩ := by
  have hlt := fun b hb => O.lt (b := b) hb
  obtain ⟨_, _, _, e, r1, r2, r3, f1, f2⟩ := O
  cases e
  have far : ∀ b, (rb v1 = some b ∨ rb v2 = some b) → rb v3' ≠ some b := fun b hb hx => by
    have hb' : b < w1.heap.size := (hlt b ⟨_, _, _, rfl, by rcases hb with h | h; exact Or.inl h; exact Or.inr (Or.inl h)⟩).2
    rcases hi with h | h | h
    · rw [h] at hx; cases hx
    · rw [h] at hx
      rcases hb with hb | hb
      · exact (f1 b hb).2 hx
      · exact f2 b hb hx
    · rw [h.1] at hx
      cases hx
      have := b'.size
      omega
  refine ⟨v1, v2, v3', rfl, (r1.below b').kept k (fun b h1 h3 => (f1 b h1).2 h3), (r2.below b').kept k (fun b h2 h3 => f2 b h2 h3), r, fun b hb => ⟨(f1 b hb).1, far b (Or.inl hb)⟩, fun b hb => far b (Or.inr hb)⟩

theorem DkO.more1 {w1 wa w2 : World} {B : Nat} {v1 v2 v3 v3' : Value} {D : Dk} {x : Wt} (O : DkO w1 B (.agg #[v1, v2, v3]) D) (b : Below w1.heap.size w1 wa) (k : Kept (fun b => rb v3 = some b) wa w2)
    (r : RowO w2 B 148 4 v3' (D.pe.length + 1) (wCells D.pe ++ x.cells)) (hi : rb v3' = none ∨ rb v3' = rb v3 ∨ (rb v3' = some wa.heap.size ∧ wa.heap.size < w2.heap.size)) : DkO w2 B (.agg #[v1, v2, v3']) ⟨D.sec, D.ep, D.pe ++ [x]⟩ := by
  rw [← wCells_snoc] at r
  exact O.more b k (by rw [List.length_append]; exact r) hi

/-- Where the blocks of a disk lie whose third list was appended to. -/
theorem more_far {w wa w2 : World} {B n : Nat} {v1 v2 v3 v3' : Value} {D : Dk} (O : DkO w B (.agg #[v1, v2, v3]) D) (hn : w.heap.size ≤ n) (hw : n < wa.heap.size) (hi : rb v3' = none ∨ rb v3' = rb v3 ∨ (rb v3' = some wa.heap.size ∧ wa.heap.size < w2.heap.size)) :
    ∀ b, DkB (.agg #[v1, v2, v3']) b → b ≠ n := by
  rintro b ⟨_, _, _, e, hb⟩ rfl
  cases e
  rcases hb with hb | hb | hb
  · have := (O.lt ⟨_, _, _, rfl, Or.inl hb⟩).2; omega
  · have := (O.lt ⟨_, _, _, rfl, Or.inr (Or.inl hb)⟩).2; omega
  · rcases hi with h | h | h
    · rw [h] at hb; cases hb
    · rw [h] at hb
      have := (O.lt ⟨_, _, _, rfl, Or.inr (Or.inr hb)⟩).2; omega
    · rw [h.1] at hb; cases hb; omega

theorem sl_lit (w : World) (cs : List Value) (t : TypeId) (m : Nat) (h : cs.length = m) : Sl (w.alloc (.cells cs.toArray t)) (some ⟨w.heap.size, 0, none⟩) m (fun i => cs.getD i undef) :=
  (wr_new w cs.toArray t m _ (fun i hi => by
    have hi' : i < cs.length := by omega
    rw [List.getElem?_toArray, List.getElem?_eq_getElem hi', List.getD_eq_getElem?_getD, List.getElem?_eq_getElem hi']
    rfl)).sl

end Go.Proofs.YtaopkchkhdbfnaaGreatDoor.Mem

namespace Go.Proofs.YtaopkchkhdbfnaaGreatDoor.Mem
open Go.RowKit
set_option linter.unusedVariables false

def Dk.nil : Dk := ⟨[], [], []⟩

theorem Dk.of_right {D : Dk} (h : D.right = true) : D.Right := by
  obtain ⟨a, b, c, d, e, f, g⟩ := of_decide_eq_true h
  exact ⟨a, b, c, d, e, f, g⟩

theorem Dk.Right.fit {D : Dk} (h : D.Right) : D.Fit := ⟨by have := h.n2; omega, h.e3, by have := h.p40; omega⟩

theorem DkO.mono {w : World} {B B' : Nat} {v : Value} {D : Dk} (h : DkO w B v D) (hb : B' ≤ B) : DkO w B' v D := by
  obtain ⟨v1, v2, v3, e, r1, r2, r3, f1, f2⟩ := h
  exact ⟨v1, v2, v3, e, r1.mono hb, r2.mono hb, r3.mono hb, f1, f2⟩

theorem dkW_nil (w : World) (B : Nat) : DkW w B (.agg #[.slice none 0 0, .slice none 0 0, .slice none 0 0]) Dk.nil :=
  ⟨none, 0, none, 0, none, 0, rfl, fun i hi => by simp [Dk.nil] at hi, fun i hi => by simp [Dk.nil] at hi, fun i hi => by simp [Dk.nil] at hi, fun b hb => by have := hb.1; simp [Dk.nil] at this, fun b hb => by have := hb.1; simp [Dk.nil] at this⟩

/-- A disk without anything is handed back. -/
theorem wrap_bad {w w1 : World} (hB : Below w.heap.size w w1) (R : Row w1 (w.heap.size + 1) [.slice none 0 0, .slice none 0 0, .slice none 0 0]) :
    DkW (((w1.setCell ⟨w.heap.size + 1, 0, none⟩ (.slice none 0 0)).setCell ⟨w.heap.size + 1, 1, none⟩ (.slice none 0 0)).setCell ⟨w.heap.size + 1, 2, none⟩ (.slice none 0 0)) w.heap.size (.agg #[.slice none 0 0, .slice none 0 0, .slice none 0 0]) Dk.nil ∧
    Below w.heap.size w (((w1.setCell ⟨w.heap.size + 1, 0, none⟩ (.slice none 0 0)).setCell ⟨w.heap.size + 1, 1, none⟩ (.slice none 0 0)).setCell ⟨w.heap.size + 1, 2, none⟩ (.slice none 0 0)) ∧
    Row (((w1.setCell ⟨w.heap.size + 1, 0, none⟩ (.slice none 0 0)).setCell ⟨w.heap.size + 1, 1, none⟩ (.slice none 0 0)).setCell ⟨w.heap.size + 1, 2, none⟩ (.slice none 0 0)) (w.heap.size + 1) [.slice none 0 0, .slice none 0 0, .slice none 0 0] :=
  ⟨dkW_nil _ _, below_set (below_set (below_set hB _ _ _ (by omega)) _ _ _ (by omega)) _ _ _ (by omega), ((R.set 0 (.slice none 0 0)).set 1 (.slice none 0 0)).set 2 (.slice none 0 0)⟩

/-- A disk of the call's own is handed back. -/
theorem wrap_end {w w3 wx : World} {B : Nat} {u1 u2 u3 : Value} {E : Dk} (hl : w.heap.size + 1 < B) (hb : Below w.heap.size w w3) (O : DkO w3 B (.agg #[u1, u2, u3]) E) (hx : Below w3.heap.size w3 wx) (R : Row wx (w.heap.size + 1) [.slice none 0 0, .slice none 0 0, .slice none 0 0]) :
    DkW (((wx.setCell ⟨w.heap.size + 1, 0, none⟩ u1).setCell ⟨w.heap.size + 1, 1, none⟩ u2).setCell ⟨w.heap.size + 1, 2, none⟩ u3) w.heap.size (.agg #[u1, u2, u3]) E ∧
    Below w.heap.size w (((wx.setCell ⟨w.heap.size + 1, 0, none⟩ u1).setCell ⟨w.heap.size + 1, 1, none⟩ u2).setCell ⟨w.heap.size + 1, 2, none⟩ u3) ∧
    Row (((wx.setCell ⟨w.heap.size + 1, 0, none⟩ u1).setCell ⟨w.heap.size + 1, 1, none⟩ u2).setCell ⟨w.heap.size + 1, 2, none⟩ u3) (w.heap.size + 1) [u1, u2, u3] := by
  have P := put_end (w := w) (w2 := wx) (B := w.heap.size) R.lt (hb.trans (hx.mono hb.size)) (Nat.le_refl _) ((O.below hx).mono (by omega)) (fun b hB => by have := (O.lt hB).1; omega) R
  exact ⟨P.1.w, P.2.1, P.2.2⟩

end Go.Proofs.YtaopkchkhdbfnaaGreatDoor.Mem

namespace Go.Proofs.YtaopkchkhdbfnaaGreatDoor.Mem
open Go.RowKit
set_option linter.unusedVariables false

/-- A new disk. -/
def Dk.fresh (n : Nat) : Dk := ⟨List.replicate n ByteArray.empty, [1, 1, 1], []⟩
/-- What NewDisk answers. -/
def Dk.newA (n : Int) : Dk × Bool := if 1 ≤ n ∧ n ≤ 40 then (Dk.fresh n.toNat, true) else (Dk.nil, false)

/-- A row of empty texts that was just made. -/
theorem row_made (w : World) (n : Nat) (hn : n ≤ 40) : RowO (w.alloc (.cells (madeCells #[.string ByteArray.empty] n) 9)) w.heap.size 9 1 (.slice (some ⟨w.heap.size, 0, none⟩) n n) (Dk.fresh n).sec.length (sCells (Dk.fresh n).sec) := by
  have hl : (Dk.fresh n).sec.length = n := by simp [Dk.fresh]
  rw [hl]
  refine rowO_of ⟨by simp [sCells, Dk.fresh], Or.inr ⟨w.heap.size, n, _, rfl, Nat.le_refl _, heap_alloc_new w _, Nat.le_refl _, by unfold maxLen; omega, by rw [size_madeCells]; omega, ?_⟩⟩
  rw [Nat.mul_one]
  apply List.ext_getElem
  · simp [madeCells, sCells, Dk.fresh]
  · intro i h1 h2
    simp [madeCells, sCells, Dk.fresh, Nat.mod_one]

/-- Epochs that were appended one by one. -/
def ones (k : Nat) : List Int := List.replicate k 1

theorem iCells_ones (k : Nat) : iCells (ones (k + 1)) = iCells (ones k) ++ [.int .i64 1] := by
  unfold iCells ones
  rw [List.replicate_succ', List.map_append]
  rfl

set_option maxRecDepth 100000 in
set_option maxHeartbeats 2000000 in
theorem specNew (w : World) (n : Int) :
    Calls Tryz.prog 50 #[.int .i64 n] w fun e w' => ∃ v', e = .returned (.tuple #[v', .bool (Dk.newA n).2]) ∧ DkO w' w.heap.size v' (Dk.newA n).1 ∧ Below w.heap.size w w' := by
  have hp : Dk.newA n = if 1 ≤ n ∧ n ≤ 40 then (Dk.fresh n.toNat, true) else (Dk.nil, false) := rfl
  generalize Dk.newA n = P at *
  obtain ⟨P1, P2⟩ := P
  have HP := hid hp
  clear hp
  simp only []
  obtain ⟨wb, hwb, ez, R0, B0⟩ := one_new w [.slice none 0 0, .slice none 0 0, .slice none 0 0] 36
  have HR := hid R0
  have HB := hid B0
  have m0 := R0.c 0 rfl
  have m1 := R0.c 1 rfl
  have m2 := R0.c 2 rfl
  have f0 := R0.f 0
  have f1 := R0.f 1
  have f2 := R0.f 2
  clear R0 B0
  go_enter Tryz.func50, Tryz.ntmps50
  go_wp2_with fail
  refine (l1In n 1 40 wb).mono ?_
  rintro e w1 ⟨rfl, hw⟩
  rw [hw]
  clear hw
  by_cases g1 : ¬ (1 ≤ n ∧ n ≤ 40)
  · have g1' := decide_eq_false g1
    have HP1 := hid (HP.out.trans (if_neg g1))
    have E := hid (((HR.out.set 0 (.slice none 0 0)).set 1 (.slice none 0 0)).set 2 (.slice none 0 0))
    have EB := hid (below_set (below_set (below_set HB.out w.heap.size 0 (.slice none 0 0) (Nat.le_refl _)) w.heap.size 1 (.slice none 0 0) (Nat.le_refl _)) w.heap.size 2 (.slice none 0 0) (Nat.le_refl _))
    clear g1
    go_wp2
    refine bodyPost_ret (results_row2 rfl _ _ w.heap.size [.slice none 0 0, .slice none 0 0, .slice none 0 0] _ rfl E.out Tryz.underlying36 rfl (by kernel_rfl)) rfl ?_
    cases HP1.out
    exact ⟨_, rfl, ⟨_, _, _, rfl, Or.inl ⟨none, rfl, rfl, rfl⟩, Or.inl ⟨none, rfl, rfl, rfl⟩, Or.inl ⟨none, rfl, rfl, rfl⟩, fun b hb => by simp [rb] at hb, fun b hb => by simp [rb] at hb⟩, EB.out⟩
  replace g1 := Classical.not_not.mp g1
  have g1' := decide_eq_true g1
  have HP1 := hid (HP.out.trans (if_pos g1))
  obtain ⟨m, rfl⟩ : ∃ m : Nat, n = (m : Int) := Int.eq_ofNat_of_zero_le (by omega)
  rw [Int.toNat_natCast] at HP1
  have hm40 : m ≤ 40 := by omega
  have hmk := make_rows (P := Tryz.prog) 22 9 (.string ByteArray.empty) 1 16 Tryz.underlying22 info9' .i64 .i64 m (by omega) (by omega) wb
  obtain ⟨w2, hw2⟩ : ∃ w2, wb.alloc (.cells (madeCells (Value.string ByteArray.empty).cells (m * 1)) 9) = w2 := ⟨_, rfl⟩
  have r2 := row_made wb m hm40
  rw [show wb.alloc (.cells (madeCells #[.string ByteArray.empty] m) 9) = w2 from by rw [← hw2, Nat.mul_one]; rfl] at r2
  have B2 : Below wb.heap.size wb w2 := by rw [← hw2]; exact (Below.refl _ _).alloc (Nat.le_refl _) _
  have e2 : w2.heap.size = wb.heap.size + 1 := by rw [← hw2]; simp
  rw [hw2] at hmk
  have EZ := hid ez
  have E2 := hid e2
  clear ez e2 hw2
  go_wp2
  obtain ⟨w3, hw3, e3, N3, B3⟩ := one_new w2 [.slice (some ⟨wb.heap.size, 0, none⟩) m m, .slice none 0 0, .slice none 0 0] 36
  have HR3 := hid ((HR.out.below B2 HR.out.lt).below B3 (HR.out.below B2 HR.out.lt).lt)
  have HN3 := hid N3
  have HS3 := hid (r2.below B3)
  have HB3 := hid ((HB.out.trans (B2.mono HB.out.size)).trans (B3.mono (Nat.le_trans HB.out.size B2.size)))
  have HZ := hid (show w.heap.size < wb.heap.size ∧ wb.heap.size < w2.heap.size ∧ w2.heap.size < w3.heap.size from ⟨by have := EZ.out; omega, by have := E2.out; omega, by omega⟩)
  simp only [hw3]
  clear r2 B2 N3 B3 e3 g1
  clear hmk hw3 hwb m0 m1 m2 f0 f1 f2
  go_loopw [5] (fun i wr => ∃ (k : Nat) (v2 : Value), k ≤ 3 ∧ i = .int .i64 (k : Int) ∧ Hid (RowO wr w3.heap.size 3 1 v2 k (iCells (ones k))) ∧ Hid (Row wr w2.heap.size [.slice (some ⟨wb.heap.size, 0, none⟩) m m, v2, .slice none 0 0]) ∧ Hid (Below w2.heap.size w3 wr) ∧ Hid (w3.heap.size ≤ wr.heap.size)) (fun i _ => 3 - (intOf i).toNat)
  case atStart => exact ⟨0, _, Nat.zero_le _, rfl, Or.inl ⟨none, rfl, rfl, rfl⟩, HN3.out, Below.refl _ _, hid (Nat.le_refl _)⟩
  case round =>
    obtain ⟨k, v2, hk, rfl, HRo, HN, HBr, HZr⟩ := hrel
    obtain ⟨a, c, ev, _⟩ := HRo.out.wr
    subst ev
    by_cases hlt : k < 3
    · have n1 := HN.out.c 1 rfl
      have n1f := HN.out.f 1
      have HRa : Hid (∀ o, RowO (wr.alloc o) w3.heap.size 3 1 (.slice a k c) k (iCells (ones k))) := fun o => HRo.out.below ((Below.refl _ _).alloc (Nat.le_refl _) o)
      have HBa : Hid (∀ o, w3.heap.size ≤ (wr.alloc o).heap.size) := fun o => by have := lt_alloc wr o; have := HZr.out; omega
      have hz := HZ.out
      go_wp2_with (at_builtin; refine wpList_app 23 3 (.int .i64 0) 1 8 Tryz.underlying23 info3' rfl (by decide) (by decide) _ rfl (.tmp 18) (.tmp 19) rfl w3.heap.size _ k (iCells (ones k)) rfl (HRa.out _) ⟨wr.heap.size, 0, none⟩ 1 1 [.int .i64 1] rfl rfl (sl_lit wr [.int .i64 1] 3 1 rfl) (by intro u hu; simp at hu; subst hu; rfl) (by omega) (HBa.out _) ?_; intro v' w4 r' kk hi; obtain ⟨y, c', e', _⟩ := r'.wr; subst e'; have HNk := (HN.out.alloc _).kept kk (fun e => by have := (HRo.out.lt e).1; omega); have n1' := HNk.c 1 rfl; have n1f' := HNk.f 1; have k5 := kept_set w4 w2.heap.size 1 (.slice y (k + 1) c'); have HR5 := hid (r'.kept k5 (fun g hg e => by have := (r'.lt hg).1; omega)); have HN5 := hid (HNk.set 1 (.slice y (k + 1) c')); have HB5 := hid (below_set ((HBr.out.alloc (by have := HZr.out; omega) _).trans (kk.below (by have := HBa.out (.cells #[.int .i64 1] 3); omega) (fun g hg e => by have := (HRo.out.lt e).1; omega))) w2.heap.size 1 (.slice y (k + 1) c') (Nat.le_refl _)); have HS5 := hid (show w3.heap.size ≤ (w4.setCell ⟨w2.heap.size, 1, none⟩ (.slice y (k + 1) c')).heap.size from Nat.le_trans (Nat.le_trans (HBa.out _) kk.size) k5.size); clear r' kk hi HNk k5 n1 n1f)
      exact ⟨⟨k + 1, _, by omega, by go_num, by rw [iCells_ones]; exact HR5.out, HN5.out, HB5.out, HS5⟩, by simp [intOf]; omega⟩
    obtain rfl : k = 3 := by omega
    have hz := HZ.out
    have HSr : Hid (RowO wr wb.heap.size 9 1 (.slice (some ⟨wb.heap.size, 0, none⟩) m m) (Dk.fresh m).sec.length (sCells (Dk.fresh m).sec)) := HS3.out.kept (S := fun g => w2.heap.size ≤ g) ⟨HBr.out.os, HBr.out.tape, HBr.out.output, HBr.out.size, fun g _ hg => HBr.out.block g (by omega)⟩ (fun g hg e => by
      have h : g = wb.heap.size := by
        unfold rb at hg
        split at hg
        · rename_i heq
          cases heq
          cases hg
          rfl
        · cases hg
      omega)
    have HRr := hid (HR3.out.below HBr.out (by omega))
    have HBB := hid (HB3.out.trans (HBr.out.mono (by omega)))
    have n0 := HN.out.c 0 rfl
    have n1 := HN.out.c 1 rfl
    have n2 := HN.out.c 2 rfl
    have m0 := HRr.out.c 0 rfl
    have m1 := HRr.out.c 1 rfl
    have m2 := HRr.out.c 2 rfl
    have f0 := HRr.out.f 0
    have f1 := HRr.out.f 1
    have f2 := HRr.out.f 2
    have K3 := kept3 wr w.heap.size (.slice (some ⟨wb.heap.size, 0, none⟩) m m) (.slice a 3 c) (.slice none 0 0)
    have E := hid (((HRr.out.set 0 (.slice (some ⟨wb.heap.size, 0, none⟩) m m)).set 1 (.slice a 3 c)).set 2 (.slice none 0 0))
    have EB := hid (below_set (below_set (below_set HBB.out w.heap.size 0 (.slice (some ⟨wb.heap.size, 0, none⟩) m m) (Nat.le_refl _)) w.heap.size 1 (.slice a 3 c) (Nat.le_refl _)) w.heap.size 2 (.slice none 0 0) (Nat.le_refl _))
    have s1 := HSr.out.kept K3 (fun g hg e => by have := (HSr.out.lt hg).1; omega)
    have s2 := HRo.out.kept K3 (fun g hg e => by have := (HRo.out.lt hg).1; omega)
    have O := hid (show DkO (((wr.setCell ⟨w.heap.size, 0, none⟩ (.slice (some ⟨wb.heap.size, 0, none⟩) m m)).setCell ⟨w.heap.size, 1, none⟩ (.slice a 3 c)).setCell ⟨w.heap.size, 2, none⟩ (.slice none 0 0)) w.heap.size (.agg #[.slice (some ⟨wb.heap.size, 0, none⟩) m m, .slice a 3 c, .slice none 0 0]) (Dk.fresh m) from ⟨_, _, _, rfl, s1.mono (by omega), s2.mono (by omega), Or.inl ⟨none, rfl, rfl, rfl⟩, fun b hb => ⟨fun h2 => by
      have := (s2.lt h2).1
      have h : b = wb.heap.size := by
        unfold rb at hb
        split at hb
        · rename_i heq
          cases heq
          cases hb
          rfl
        · cases hb
      omega, fun h3 => by simp [rb] at h3⟩, fun b hb h3 => by simp [rb] at h3⟩)
    clear s1 s2 K3 hz
    go_wp2
    refine bodyPost_ret (results_row2 rfl _ _ w.heap.size [.slice (some ⟨wb.heap.size, 0, none⟩) m m, .slice a 3 c, .slice none 0 0] _ rfl E.out Tryz.underlying36 rfl (by kernel_rfl)) rfl ?_
    cases HP1.out
    exact ⟨_, rfl, O.out, EB.out⟩

end Go.Proofs.YtaopkchkhdbfnaaGreatDoor.Mem

namespace Go.Proofs.YtaopkchkhdbfnaaGreatDoor.Pl
open Go.RowKit Go.Proofs.YtaopkchkhdbfnaaGreatDoor.Mem Go.Proofs.YtaopkchkhdbfnaaGreatDoor.Sec Go.Proofs.YtaopkchkhdbfnaaGreatDoor.Rd Go.Proofs.YtaopkchkhdbfnaaGreatDoor.Fm
set_option linter.unusedVariables false

/-- The cells of a new world's first hosts. -/
def nhs (k : Nat) : List Value := (NH.take k).flatMap (fun x => x.cells)
theorem nhs_next (k : Nat) (h : k < 3) : nhs k ++ [.int .i64 (k : Int), .int .i64 0, .bool false, .bool false, .bool false, .int .i64 0, .int .i64 0, .int .i64 0, .int .i64 0, .string ⟨#[]⟩, .int .i64 0, .int .i64 0, .int .i64 0, .string ⟨#[]⟩, .slice none 0 0, .int .i64 0] = nhs (k + 1) := by
  have : k = 0 ∨ k = 1 ∨ k = 2 := by omega
  rcases this with rfl | rfl | rfl <;> rfl
theorem host_one (k : Nat) : ∀ u ∈ ([.int .i64 (k : Int), .int .i64 0, .bool false, .bool false, .bool false, .int .i64 0, .int .i64 0, .int .i64 0, .int .i64 0, .string ⟨#[]⟩, .int .i64 0, .int .i64 0, .int .i64 0, .string ⟨#[]⟩, .slice none 0 0, .int .i64 0] : List Value), u.oneCell' = true := fun u hu => by
  simp only [List.mem_cons, List.not_mem_nil, or_false] at hu
  rcases hu with rfl | rfl | rfl | rfl | rfl | rfl | rfl | rfl | rfl | rfl | rfl | rfl | rfl | rfl | rfl | rfl <;> rfl
theorem hx_flat (L : List Hx) (i : Nat) (h : i < L.length * 16) : (L.flatMap (fun x => x.cells)).getD i undef = hcell L i := by
  induction L generalizing i with
  | nil => simp at h
  | cons x L ih =>
    show (x.cells ++ L.flatMap (fun x => x.cells)).getD i undef = _
    rw [List.getD_eq_getElem?_getD]
    by_cases h4 : i < 16
    · rw [List.getElem?_append_left (by rw [hx_len]; omega)]
      unfold hcell
      rw [show i / 16 = 0 by omega, show i % 16 = i by omega]
      rw [List.getD_eq_getElem?_getD]
      rfl
    · rw [List.getElem?_append_right (by rw [hx_len]; omega), hx_len, ← List.getD_eq_getElem?_getD, ih (i - 16) (by simp at h; omega)]
      unfold hcell
      rw [show (i - 16) % 16 = i % 16 by omega]
      obtain ⟨q, hq⟩ : ∃ q, i / 16 = q + 1 := ⟨i / 16 - 1, by omega⟩
      rw [hq, show (i - 16) / 16 = q by omega]
      rfl
theorem nhs_all (i : Nat) (h : i < 3 * 16) : (nhs 3).getD i undef = hcell NH i := hx_flat NH i h

theorem new34 : Dk.newA 34 = (Dk.fresh 34, true) := rfl
theorem ints3 : (Dk.fresh 34).ep = [1, 1, 1] := rfl
theorem f34s : (Dk.fresh 34).sec.length = 34 := by simp [Dk.fresh]
theorem f34e : (Dk.fresh 34).ep.length = 3 := rfl
theorem f34p : (Dk.fresh 34).pe.length = 0 := rfl

theorem make3 (w : World) : (Instr.makeSlice 23 (.int .i64 3) (.int .i64 3)).run Tryz.prog w = .ok (.slice (some ⟨w.heap.size, 0, none⟩) 3 3) (w.alloc (.cells #[.int .i64 0, .int .i64 0, .int .i64 0] 3)) := by
  have h := make_rows (P := Tryz.prog) 23 3 (.int .i64 0) 1 8 Tryz.underlying23 infoInt .i64 .i64 3 (by decide) (by decide) w
  have e : madeCells (Value.int .i64 0).cells (3 * 1) = #[.int .i64 0, .int .i64 0, .int .i64 0] := by kernel_rfl
  rw [e] at h
  exact h
theorem intsW3 (w : World) : IntsW (w.alloc (.cells #[.int .i64 0, .int .i64 0, .int .i64 0] 3)) w.heap.size (some ⟨w.heap.size, 0, none⟩) [0, 0, 0] :=
  wr_new w _ 3 3 _ (fun i hi => by
    have : i = 0 ∨ i = 1 ∨ i = 2 := by omega
    rcases this with rfl | rfl | rfl <;> rfl)

/-- A new world's box made behind its last list, or ahead of it. -/
theorem nw_boxA (w : World) (s1 s2 s3 : Value) : Row ((w.alloc (.cells #[.int .i64 0, .int .i64 0, .int .i64 0] 3)).alloc (.cells #[s1, s2, s3, .slice none 0 0, .slice none 0 0, .slice (some ⟨w.heap.size, 0, none⟩) 3 3, .slice none 0 0] 41)).drew (w.heap.size + 1) [s1, s2, s3, .slice none 0 0, .slice none 0 0, .slice (some ⟨w.heap.size, 0, none⟩) 3 3, .slice none 0 0]
    ∧ IntsW ((w.alloc (.cells #[.int .i64 0, .int .i64 0, .int .i64 0] 3)).alloc (.cells #[s1, s2, s3, .slice none 0 0, .slice none 0 0, .slice (some ⟨w.heap.size, 0, none⟩) 3 3, .slice none 0 0] 41)).drew w.heap.size (some ⟨w.heap.size, 0, none⟩) [0, 0, 0]
    ∧ Below w.heap.size w ((w.alloc (.cells #[.int .i64 0, .int .i64 0, .int .i64 0] 3)).alloc (.cells #[s1, s2, s3, .slice none 0 0, .slice none 0 0, .slice (some ⟨w.heap.size, 0, none⟩) 3 3, .slice none 0 0] 41)).drew := by
  have r := Row.new (w.alloc (.cells #[.int .i64 0, .int .i64 0, .int .i64 0] 3)) [s1, s2, s3, .slice none 0 0, .slice none 0 0, .slice (some ⟨w.heap.size, 0, none⟩) 3 3, .slice none 0 0] 41
  have e0 : (w.alloc (.cells #[.int .i64 0, .int .i64 0, .int .i64 0] 3)).heap.size = w.heap.size + 1 := by simp
  rw [e0] at r
  refine ⟨r, Wr.below (Wr.below (intsW3 w) ((Below.refl _ _).alloc (Nat.le_refl _) _)) (Below.refl _ _).drew, Below.drew ((((Below.refl _ _).alloc (Nat.le_refl _) _).alloc (by omega) _))⟩
theorem nw_boxB (w : World) (s1 s2 s3 : Value) : Row ((w.alloc (.cells #[s1, s2, s3, .slice none 0 0, .slice none 0 0, .slice (some ⟨w.heap.size + 1, 0, none⟩) 3 3, .slice none 0 0] 41)).alloc (.cells #[.int .i64 0, .int .i64 0, .int .i64 0] 3)).drew w.heap.size [s1, s2, s3, .slice none 0 0, .slice none 0 0, .slice (some ⟨w.heap.size + 1, 0, none⟩) 3 3, .slice none 0 0]
    ∧ IntsW ((w.alloc (.cells #[s1, s2, s3, .slice none 0 0, .slice none 0 0, .slice (some ⟨w.heap.size + 1, 0, none⟩) 3 3, .slice none 0 0] 41)).alloc (.cells #[.int .i64 0, .int .i64 0, .int .i64 0] 3)).drew w.heap.size (some ⟨w.heap.size + 1, 0, none⟩) [0, 0, 0]
    ∧ Below w.heap.size w ((w.alloc (.cells #[s1, s2, s3, .slice none 0 0, .slice none 0 0, .slice (some ⟨w.heap.size + 1, 0, none⟩) 3 3, .slice none 0 0] 41)).alloc (.cells #[.int .i64 0, .int .i64 0, .int .i64 0] 3)).drew := by
  have r := Row.new w [s1, s2, s3, .slice none 0 0, .slice none 0 0, .slice (some ⟨w.heap.size + 1, 0, none⟩) 3 3, .slice none 0 0] 41
  have e0 : (w.alloc (.cells #[s1, s2, s3, .slice none 0 0, .slice none 0 0, .slice (some ⟨w.heap.size + 1, 0, none⟩) 3 3, .slice none 0 0] 41)).heap.size = w.heap.size + 1 := by simp
  have i := intsW3 (w.alloc (.cells #[s1, s2, s3, .slice none 0 0, .slice none 0 0, .slice (some ⟨w.heap.size + 1, 0, none⟩) 3 3, .slice none 0 0] 41))
  rw [e0] at i
  refine ⟨r.alloc _, Wr.mono (Wr.below i (Below.refl _ _).drew) (by omega), Below.drew ((((Below.refl _ _).alloc (Nat.le_refl _) _).alloc (by omega) _))⟩

theorem row_sl {w : World} {g : Nat} {xs : List Value} (h : Row w g xs) : Sl w (some ⟨g, 0, none⟩) xs.length (fun i => xs.getD i undef) := fun i hi => by
  refine ⟨g, 0, rfl, ?_⟩
  rw [Nat.zero_add]
  exact h.c i (by rw [List.getElem?_eq_getElem hi]; simp [List.getD, List.getElem?_eq_getElem hi])

set_option maxRecDepth 100000 in
set_option maxHeartbeats 4000000 in
theorem sNewWorld (w : World) : Calls Tryz.prog 13 #[] w fun e w' => ∃ g1 o1 c1 g2 o2 c2 p3 c3 g4 o4 c4 g6 o6 c6, e = .returned (nwV g1 o1 c1 g2 o2 c2 p3 c3 g4 o4 c4 g6 o6 c6) ∧ Nw w' w.heap.size g1 o1 g2 o2 g4 o4 g6 o6 ∧ Below w.heap.size w w' := by
  obtain ⟨wb, hwb, ez, R0, B0⟩ := one_new w [.slice none 0 0, .slice none 0 0, .slice none 0 0, .slice none 0 0, .slice none 0 0, .slice none 0 0, .slice none 0 0] 41
  have HR := hid R0
  have HB := hid B0
  clear R0 B0
  go_enter Tryz.func13, Tryz.ntmps13
  go_wp2_with fail
  try simp only [hwb]
  clear hwb
  refine (specNew wb 34).mono ?_
  rintro e w1 ⟨v', rfl, hD, b1⟩
  rw [new34]
  rw [new34] at hD
  obtain ⟨p1, c1, p2, c2, p3, c3, rfl, hs, he, hp, n1, n2⟩ := hD.w
  obtain ⟨g2, o2, rfl⟩ : ∃ g2 o2, p2 = some ⟨g2, o2, none⟩ := by
    obtain ⟨b, o, e, _⟩ := he 0 (by decide)
    exact ⟨b, o, e⟩
  rw [f34s, f34e, f34p]
  have HE : Hid (IntsW w1 w.heap.size (some ⟨g2, o2, none⟩) [1, 1, 1]) := Wr.mono he (by omega)
  have h2 := Wr.foot_ge he (b := g2) ⟨by decide, o2, rfl⟩
  have h2s := HE.out.sl.lt (b := g2) ⟨by decide, o2, rfl⟩
  have HB1 := hid (HB.out.trans (b1.mono HB.out.size))
  have HR1 := hid (HR.out.below b1 (by omega))
  have hs1 := b1.size
  have hez := hid (show wb.heap.size = w.heap.size + 1 ∧ wb.heap.size ≤ g2 ∧ g2 < w1.heap.size ∧ wb.heap.size ≤ w1.heap.size from ⟨ez, h2, h2s, hs1⟩)
  clear hD hs he hp n1 n2 b1 HB HR ez h2 h2s hs1
  obtain ⟨wc, hwc, ec, RC, BC⟩ := one_new w1 [.slice p1 34 c1, .slice (some ⟨g2, o2, none⟩) 3 c2, .slice p3 0 c3] 36
  have HC := hid RC
  have HBC := hid BC
  have hec := hid ec
  clear RC BC ec
  go_wp2_with fail
  clear hwc
  refine (sFormat wc).mono ?_
  rintro e w2 ⟨a1, cq, rfl, hF, bF⟩
  obtain ⟨g1, o1, rfl⟩ : ∃ g o, a1 = some ⟨g, o, none⟩ := by
    obtain ⟨b, o, e, _⟩ := hF 0 (by decide)
    exact ⟨b, o, e⟩
  have h1 := Wr.foot_ge hF (b := g1) ⟨by decide, o1, rfl⟩
  have h1s := hF.sl.lt (b := g1) ⟨by decide, o1, rfl⟩
  have HF := hid hF
  have HC2 := hid (HC.out.below bF (by have := hec.out; omega))
  have HB2 := hid (HB1.out.trans ((HBC.out.trans (bF.mono HBC.out.size)).mono HB1.out.size))
  have HBF := hid (HBC.out.trans (bF.mono HBC.out.size))
  have hs2 := bF.size
  have H1 := hid (show wc.heap.size ≤ g1 ∧ g1 < w2.heap.size ∧ wc.heap.size ≤ w2.heap.size from ⟨h1, h1s, hs2⟩)
  clear hF bF h1 h1s hs2
  have m0 := HC2.out.c 0 rfl
  have f0 := HC2.out.f 0
  obtain ⟨w3, hw3, C3, K3⟩ : ∃ w3, w2.setCell ⟨w1.heap.size, 0, none⟩ (.slice (some ⟨g1, o1, none⟩) 34 cq) = w3 ∧ Row w3 w1.heap.size [.slice (some ⟨g1, o1, none⟩) 34 cq, .slice (some ⟨g2, o2, none⟩) 3 c2, .slice p3 0 c3] ∧ Kept (fun b => b = w1.heap.size) w2 w3 := ⟨_, rfl, HC2.out.set 0 _, kept_set _ _ _ _⟩
  have hz3 : w3.heap.size = w2.heap.size := by rw [← hw3]; simp
  have HK3 := hid K3
  have HC3 := hid C3
  have HZ3 := hid hz3
  clear K3 hz3
  go_upto_region 3 with fail
  try simp only [hw3]
  clear hw3 m0 f0 HC2
  have n0 := C3.c 0 rfl
  have n1 := C3.c 1 rfl
  have n2 := C3.c 2 rfl
  have hmk := make3
  have hgt : w1.heap.size < w3.heap.size := World.block_lt_of_cell? w3 _ n0
  have HF3 : Hid (StrsW w3 w.heap.size (some ⟨g1, o1, none⟩) fmt) := (Wr.move HF.out HK3.out (fun b hb h => by obtain ⟨_, x, e⟩ := hb; cases e; have := H1.out; have := hec.out; omega)).mono (by have := hec.out; have := hez.out; omega)
  have HE3 : Hid (IntsW w3 w.heap.size (some ⟨g2, o2, none⟩) [1, 1, 1]) := Wr.move (Wr.below HE.out HBF.out) HK3.out (fun b hb h => by obtain ⟨_, x, e⟩ := hb; cases e; have := hez.out; omega)
  have HR3 := hid ((HR1.out.below HBF.out (by have := hez.out; omega)).kept HK3.out (show ¬ w.heap.size = w1.heap.size by have := hez.out; omega))
  have HB33 : Hid (Below w.heap.size w w3) := HB2.out.trans (HK3.out.below (by have := HB2.out.size; omega) (fun b hb h => by have := hez.out; omega))
  have HN := hid (show g1 ≠ g2 ∧ g1 < w3.heap.size ∧ g2 < w3.heap.size ∧ w.heap.size < w3.heap.size ∧ w.heap.size < g1 ∧ w.heap.size < g2 by have := H1.out; have := hec.out; have := hez.out; have := HZ3.out; omega)
  clear C3 HF HE HR1 HB1 HB2 HBF HK3 HBC HC HZ3 H1 hec hez
  go_cut [3] (fun pz wr => ∃ (gx g6 : Nat), pz = .pointer (some ⟨gx, 0, none⟩) ∧ gx ≠ g6 ∧ w3.heap.size ≤ gx ∧ w3.heap.size ≤ g6 ∧ Hid (Row wr gx [.slice (some ⟨g1, o1, none⟩) 34 cq, .slice (some ⟨g2, o2, none⟩) 3 c2, .slice p3 0 c3, .slice none 0 0, .slice none 0 0, .slice (some ⟨g6, 0, none⟩) 3 3, .slice none 0 0]) ∧ Hid (IntsW wr w3.heap.size (some ⟨g6, 0, none⟩) [0, 0, 0]) ∧ Hid (Below w3.heap.size w3 wr))
  case first =>
    have hA := nw_boxA w3 (.slice (some ⟨g1, o1, none⟩) 34 cq) (.slice (some ⟨g2, o2, none⟩) 3 c2) (.slice p3 0 c3)
    have hB := nw_boxB w3 (.slice (some ⟨g1, o1, none⟩) 34 cq) (.slice (some ⟨g2, o2, none⟩) 3 c2) (.slice p3 0 c3)
    have HA := hid hA
    have HB := hid hB
    clear hA hB
    go_region
    all_goals (go_wp2_with fail; go_meet)
    all_goals (first | exact ⟨_, _, rfl, by omega, by omega, by omega, HA.out.1, HA.out.2.1, HA.out.2.2⟩ | exact ⟨_, _, rfl, by omega, by omega, by omega, HB.out.1, HB.out.2.1, HB.out.2.2⟩)
  case rest =>
    obtain ⟨gx, g6, rfl, hx6, hx3, h63, HX, H6, HB3⟩ := hcut
    obtain ⟨wx, hwx⟩ : ∃ wx, wx = wc := ⟨_, rfl⟩
    subst hwx
    have HG := hid (show gx < wx.heap.size ∧ w3.heap.size ≤ wx.heap.size ∧ g6 < wx.heap.size from ⟨HX.out.lt, HB3.out.size, H6.out.sl.lt (b := g6) ⟨by decide, 0, rfl⟩⟩)
    have HRx := hid (HR3.out.below HB3.out HN.out.2.2.2.1)
    have HFx : Hid (StrsW wx w.heap.size (some ⟨g1, o1, none⟩) fmt) := Wr.below HF3.out HB3.out
    have HEx : Hid (IntsW wx w.heap.size (some ⟨g2, o2, none⟩) [1, 1, 1]) := Wr.below HE3.out HB3.out
    have HBx := hid (HB33.out.trans (HB3.out.mono HB33.out.size))
    have HMM := hid (show gx ≠ g6 ∧ w3.heap.size ≤ gx ∧ w3.heap.size ≤ g6 from ⟨hx6, hx3, h63⟩)
    clear hmk HF3 HE3 HR3 HB33 HB3 HC3 n0 n1 n2 hgt hx6 hx3 h63
    go_wp2
    go_loopw [4] (fun i wr => ∃ (k : Nat) (v : Value), k ≤ 3 ∧ i = .int .i64 (k : Int) ∧ Hid (Row wr gx [.slice (some ⟨g1, o1, none⟩) 34 cq, .slice (some ⟨g2, o2, none⟩) 3 c2, .slice p3 0 c3, v, .slice none 0 0, .slice (some ⟨g6, 0, none⟩) 3 3, .slice none 0 0]) ∧ Hid (RowO wr wx.heap.size 63 16 v k (nhs k)) ∧ Hid (Kept (fun b => b = gx) wx wr)) (fun i _ => 3 - (intOf i).toNat)
    case atStart => exact ⟨0, _, Nat.zero_le _, rfl, HX, Or.inl ⟨none, rfl, rfl, rfl⟩, Kept.refl _ _⟩
    case round =>
      obtain ⟨k, v, hk, rfl, HXk, HV, HK⟩ := hrel
      by_cases hlt : k < 3
      · have hv := HXk.out.c 3 rfl
        have HX2 := hid (nhs_next k hlt)
        have HS := hid (row_sl (Row.new wr [.int .i64 (k : Int), .int .i64 0, .bool false, .bool false, .bool false, .int .i64 0, .int .i64 0, .int .i64 0, .int .i64 0, .string ⟨#[]⟩, .int .i64 0, .int .i64 0, .int .i64 0, .string ⟨#[]⟩, .slice none 0 0, .int .i64 0] 63))
        have HVa := hid (RowO.below HV.out ((Below.refl _ wr).alloc (Nat.le_refl _) (.cells #[.int .i64 (k : Int), .int .i64 0, .bool false, .bool false, .bool false, .int .i64 0, .int .i64 0, .int .i64 0, .int .i64 0, .string ⟨#[]⟩, .int .i64 0, .int .i64 0, .int .i64 0, .string ⟨#[]⟩, .slice none 0 0, .int .i64 0] 63)))
        have HXa := hid (HXk.out.alloc (.cells #[.int .i64 (k : Int), .int .i64 0, .bool false, .bool false, .bool false, .int .i64 0, .int .i64 0, .int .i64 0, .int .i64 0, .string ⟨#[]⟩, .int .i64 0, .int .i64 0, .int .i64 0, .string ⟨#[]⟩, .slice none 0 0, .int .i64 0] 63))
        have HKa := hid (HK.out.trans (Kept.of_below (S := fun _ => False) ((Below.refl _ wr).alloc (Nat.le_refl _) (.cells #[.int .i64 (k : Int), .int .i64 0, .bool false, .bool false, .bool false, .int .i64 0, .int .i64 0, .int .i64 0, .int .i64 0, .string ⟨#[]⟩, .int .i64 0, .int .i64 0, .int .i64 0, .string ⟨#[]⟩, .slice none 0 0, .int .i64 0] 63))))
        have hsz : wx.heap.size ≤ (wr.alloc (.cells #[.int .i64 (k : Int), .int .i64 0, .bool false, .bool false, .bool false, .int .i64 0, .int .i64 0, .int .i64 0, .int .i64 0, .string ⟨#[]⟩, .int .i64 0, .int .i64 0, .int .i64 0, .string ⟨#[]⟩, .slice none 0 0, .int .i64 0] 63)).heap.size := HKa.out.size
        clear HXk HK
        go_wp2_with (go_loud (at_builtin; refine wpList_app 37 63 (.agg Hx.none.cells.toArray) 16 144 Tryz.underlying37 infoHo rfl (by decide) (by decide) _ rfl (.tmp 19) (.tmp 22) rfl wx.heap.size _ k (nhs k) rfl HVa.out ⟨wr.heap.size, 0, none⟩ 1 1 [.int .i64 (k : Int), .int .i64 0, .bool false, .bool false, .bool false, .int .i64 0, .int .i64 0, .int .i64 0, .int .i64 0, .string ⟨#[]⟩, .int .i64 0, .int .i64 0, .int .i64 0, .string ⟨#[]⟩, .slice none 0 0, .int .i64 0] rfl rfl HS.out (host_one k) (by omega) hsz ?_; intro v1 w5 r5 k5 _; obtain ⟨a5, c5, rfl, _⟩ := r5.wr; have HV5 := hid r5; have HK5 := hid (HKa.out.trans k5); have HX5 := hid (HXa.out.kept k5 (fun h => by have := (RowO.lt HVa.out h).1; have := HG.out; omega)); have n3 := HX5.out.c 3 rfl; have f3 := HX5.out.f 3; clear r5 k5 hv hsz))
        have HX6 := hid (HX5.out.set 3 (.slice a5 (k + 1) c5))
        have HV6 := hid (RowO.kept HV5.out (kept_set w5 gx 3 (.slice a5 (k + 1) c5)) (fun b h e => by have := (RowO.lt HV5.out h).1; have := HG.out; omega))
        have HK6 := hid ((HK5.out.trans (kept_set w5 gx 3 (.slice a5 (k + 1) c5))).mono (T := fun b => b = gx) (fun b hb h => by
          rcases h with ((h | h) | h) | h
          · exact h
          · exact h.elim
          · have := (RowO.lt HVa.out h).1; omega
          · exact h))
        refine ⟨⟨k + 1, _, by omega, by go_num, HX6.out, ?_, HK6.out⟩, by simp [intOf]; omega⟩
        rw [← HX2.out]
        exact HV6.out
      · obtain rfl : k = 3 := by omega
        go_upto_region 8 with fail
        obtain ⟨a4, c4, rfl, hW⟩ := HV.out.wr
        obtain ⟨g4, o4, rfl⟩ : ∃ g o, a4 = some ⟨g, o, none⟩ := by
          obtain ⟨b, o, e, _⟩ := hW 0 (by decide)
          exact ⟨b, o, e⟩
        have hR := HRx.out.kept HK.out (show ¬ w.heap.size = gx by have := HMM.out; have := HN.out; omega)
        have HW4 := hid (hW.congr (g := hcell NH) (fun i hi => nhs_all i hi))
        have h4 := Wr.foot_ge hW (b := g4) ⟨by decide, o4, rfl⟩
        have h4s := hW.sl.lt (b := g4) ⟨by decide, o4, rfl⟩
        refine wp_region_list ?_
        refine wpList_load_row rfl 41 _ rfl gx rfl [.slice (some ⟨g1, o1, none⟩) 34 cq, .slice (some ⟨g2, o2, none⟩) 3 c2, .slice p3 0 c3, .slice (some ⟨g4, o4, none⟩) 3 c4, .slice none 0 0, .slice (some ⟨g6, 0, none⟩) 3 3, .slice none 0 0] _ HXk.out Tryz.underlying41 rfl (by kernel_rfl) ?_
        refine wpList_store_row rfl 41 _ _ rfl w.heap.size rfl [.slice none 0 0, .slice none 0 0, .slice none 0 0, .slice none 0 0, .slice none 0 0, .slice none 0 0, .slice none 0 0] [.slice (some ⟨g1, o1, none⟩) 34 cq, .slice (some ⟨g2, o2, none⟩) 3 c2, .slice p3 0 c3, .slice (some ⟨g4, o4, none⟩) 3 c4, .slice none 0 0, .slice (some ⟨g6, 0, none⟩) 3 3, .slice none 0 0] rfl hR rfl (by kernel_rfl) rfl ?_
        have HR8 := hid (puts_row hR 0 [.slice (some ⟨g1, o1, none⟩) 34 cq, .slice (some ⟨g2, o2, none⟩) 3 c2, .slice p3 0 c3, .slice (some ⟨g4, o4, none⟩) 3 c4, .slice none 0 0, .slice (some ⟨g6, 0, none⟩) 3 3, .slice none 0 0])
        have HK8 := hid (puts_kept wr w.heap.size 0 [.slice (some ⟨g1, o1, none⟩) 34 cq, .slice (some ⟨g2, o2, none⟩) 3 c2, .slice p3 0 c3, .slice (some ⟨g4, o4, none⟩) 3 c4, .slice none 0 0, .slice (some ⟨g6, 0, none⟩) 3 3, .slice none 0 0])
        generalize puts wr w.heap.size 0 [.slice (some ⟨g1, o1, none⟩) 34 cq, .slice (some ⟨g2, o2, none⟩) 3 c2, .slice p3 0 c3, .slice (some ⟨g4, o4, none⟩) 3 c4, .slice none 0 0, .slice (some ⟨g6, 0, none⟩) 3 3, .slice none 0 0] = w8 at *
        have HF8 : Hid (StrsW w8 w.heap.size (some ⟨g1, o1, none⟩) fmt) := Wr.move (Wr.move HFx.out HK.out (fun b hb h => by obtain ⟨_, x, e⟩ := hb; cases e; have := HMM.out; have := HN.out; omega)) HK8.out (fun b hb h => by obtain ⟨_, x, e⟩ := hb; cases e; have := HN.out; omega)
        have HE8 : Hid (IntsW w8 w.heap.size (some ⟨g2, o2, none⟩) [1, 1, 1]) := Wr.move (Wr.move HEx.out HK.out (fun b hb h => by obtain ⟨_, x, e⟩ := hb; cases e; have := HMM.out; have := HN.out; omega)) HK8.out (fun b hb h => by obtain ⟨_, x, e⟩ := hb; cases e; have := HN.out; omega)
        have H48 : Hid (Wr w8 w.heap.size (some ⟨g4, o4, none⟩) (3 * 16) (hcell NH)) := (Wr.move HW4.out HK8.out (fun b hb h => by obtain ⟨_, x, e⟩ := hb; cases e; have := HN.out; have := HG.out; omega)).mono (by have := HN.out; have := HG.out; omega)
        have H68 : Hid (IntsW w8 w.heap.size (some ⟨g6, 0, none⟩) [0, 0, 0]) := (Wr.move (Wr.move H6.out HK.out (fun b hb h => by obtain ⟨_, x, e⟩ := hb; cases e; have := HMM.out; omega)) HK8.out (fun b hb h => by obtain ⟨_, x, e⟩ := hb; cases e; have := HN.out; have := HMM.out; omega)).mono (by have := HN.out; omega)
        have HB8 : Hid (Below w.heap.size w w8) := HBx.out.trans (((HK.out.trans HK8.out).below (by have := HBx.out.size; omega) (fun b hb h => by have := HMM.out; have := HN.out; omega)))
        have HD := hid (show g1 ≠ g2 ∧ g1 ≠ g4 ∧ g1 ≠ g6 ∧ g2 ≠ g4 ∧ g2 ≠ g6 ∧ g4 ≠ g6 by have := HN.out; have := HMM.out; have := HG.out; omega)
        clear hR hW h4 h4s HXk HV HK HW4 HK8 HRx HFx HEx HBx H6 HX
        refine wpList_nil ?_
        go_wp2
        refine bodyPost_ret (results_row rfl _ _ w.heap.size [.slice (some ⟨g1, o1, none⟩) 34 cq, .slice (some ⟨g2, o2, none⟩) 3 c2, .slice p3 0 c3, .slice (some ⟨g4, o4, none⟩) 3 c4, .slice none 0 0, .slice (some ⟨g6, 0, none⟩) 3 3, .slice none 0 0] _ rfl HR8.out Tryz.underlying41 rfl (by kernel_rfl)) rfl ?_
        exact ⟨g1, o1, cq, g2, o2, c2, p3, c3, g4, o4, c4, g6, 0, 3, rfl, ⟨HF8.out, HE8.out, H48.out, H68.out, HD.out.1, HD.out.2.1, HD.out.2.2.1, HD.out.2.2.2.1, HD.out.2.2.2.2.1, HD.out.2.2.2.2.2⟩, HB8.out⟩
end Go.Proofs.YtaopkchkhdbfnaaGreatDoor.Pl

namespace Go.Proofs.YtaopkchkhdbfnaaGreatDoor.Sector
open Go.RowKit Go.Proofs.YtaopkchkhdbfnaaGreatDoor.Mem
set_option linter.unusedVariables false

theorem Kinds.below {w w' : World} (T : Kinds w) (hg : 0 < w.heap.size) (b : Below w.heap.size w w') : Kinds w' := fun k hk => by
  rw [b.cell (p := ⟨0, k, none⟩) hg]; exact T k hk

end Go.Proofs.YtaopkchkhdbfnaaGreatDoor.Sector

namespace Go.Proofs.YtaopkchkhdbfnaaGreatDoor.Fm
open Go.RowKit Go.Proofs.YtaopkchkhdbfnaaGreatDoor.Mem Go.Proofs.YtaopkchkhdbfnaaGreatDoor.Sec
set_option linter.unusedVariables false

theorem ismall0 : J0.Small := ⟨by decide, by decide, by intro x hx; simp [J0] at hx⟩
theorem iouts0 (w : World) : Ous w none J0.outs := fun i hi => by simp [J0] at hi

theorem iints6b (w w1 : World) (b : Below (w.alloc (.cells #[.int .i64 0, .int .i64 0, .int .i64 0, .int .i64 0, .int .i64 0, .int .i64 0] 3)).heap.size (w.alloc (.cells #[.int .i64 0, .int .i64 0, .int .i64 0, .int .i64 0, .int .i64 0, .int .i64 0] 3)) w1) : Ints w1 (some ⟨w.heap.size, 0, none⟩) [0, 0, 0, 0, 0, 0] := Sl.below (ints6 w) b

theorem iShow6 (w : World) (a : Option Addr) (S : Ints w a [0, 0, 0, 0, 0, 0]) (T : Sums w) : Calls Tryz.prog 175 #[.agg #[.int .i64 (-1), .int .i64 0, .slice a 6 6]] w fun r w' => r = .returned (.string (showGroup (-1) 0 [0, 0, 0, 0, 0, 0])) ∧ Below w.heap.size w w' :=
  iShowGroup w (-1) 0 a 6 [0, 0, 0, 0, 0, 0] S (by decide) T

theorem bel_a {w wa : World} (o : Obj) (ba : Below w.drew.heap.size w.drew wa) : Below w.heap.size w (wa.alloc o) := by
  have h : Below w.heap.size w wa := undrew ba
  exact h.alloc h.size o
theorem bel_b {w wa : World} {o : Obj} (ba : Below (w.alloc o).drew.heap.size (w.alloc o).drew wa) : Below w.heap.size w wa := by
  have hb : Below (w.alloc o).heap.size (w.alloc o) wa := undrew ba
  have h : Below w.heap.size w (w.alloc o) := (Below.refl _ w).alloc (Nat.le_refl _) o
  exact h.trans (hb.mono h.size)

theorem beq_no {a b : Int} (h : ¬ a = b) : (a == b) = false := by simpa using h

set_option maxRecDepth 100000 in
set_option maxHeartbeats 1000000 in
theorem freshSector (k : Nat) (hk : k < 6) (w : World) (T : Sums w) : Calls Tryz.prog 119 #[.int .i64 (k : Int)] w fun r w' => r = .returned (.string (fresh k)) ∧ Below w.heap.size w w' := by
  have HT := hid T
  clear T
  have hc : k = 0 ∨ k = 1 ∨ k = 2 ∨ k = 3 ∨ k = 4 ∨ k = 5 := by omega
  clear hk
  rcases hc with rfl | rfl | rfl | rfl | rfl | rfl
  · go_enter Tryz.func119, Tryz.ntmps119
    go_wp2_with fail
    refine (nobody w).mono ?_
    rintro e wa ⟨rfl, ba⟩
    have HB := hid ba
    clear ba
    unfold lsV
    go_wp2_with fail
    refine (iShowHost 0 (-1) 0 wa (HT.out.below HB.out)).mono ?_
    rintro e wn ⟨rfl, bn⟩
    have HBn := hid (HB.out.trans (bn.mono HB.out.size))
    clear bn
    go_wp2
    go_ret
    exact ⟨rfl, HBn.out⟩
  · go_enter Tryz.func119, Tryz.ntmps119
    go_wp2_with fail
    refine (iShowJournal w J0 none 0 (iouts0 _) ismall0 HT.out).mono ?_
    rintro e wn ⟨rfl, bn⟩
    have HBn := hid bn
    clear bn
    go_wp2
    go_ret
    exact ⟨rfl, HBn.out⟩
  · go_enter Tryz.func119, Tryz.ntmps119
    go_wp2_with fail
    refine (iShowFrees w none 0 [] (fun i hi => by simp at hi) (by decide) HT.out).mono ?_
    rintro e wn ⟨rfl, bn⟩
    have HBn := hid bn
    clear bn
    go_wp2
    go_ret
    exact ⟨rfl, HBn.out⟩
  · go_enter Tryz.func119, Tryz.ntmps119
    go_wp2_with fail
    refine (nobody w).mono ?_
    rintro e wa ⟨rfl, ba⟩
    have HB := hid ba
    clear ba
    unfold lsV
    go_wp2_with fail
    refine (noBlocks wa).mono ?_
    rintro e wb ⟨pa, pc, rfl, hI, bb⟩
    have HB2 := hid (HB.out.trans (bb.mono HB.out.size))
    have HI := hid (Wr.sl hI)
    clear bb hI
    go_wp2_with fail
    refine (iShowVol wb (-1) 0 false pa pc [-1, -1, -1, -1] HI.out (by decide) (HT.out.below HB2.out)).mono ?_
    rintro e wn ⟨rfl, bn⟩
    have HBn := hid (HB2.out.trans (bn.mono HB2.out.size))
    clear bn HI
    go_wp2
    go_ret
    exact ⟨rfl, HBn.out⟩
  · have hmk := make6
    go_enter Tryz.func119, Tryz.ntmps119
    go_wp2
    go_region_held_law (fun _ => True) (trivial)
      (first
        | (go_at_call 171; refine (nobody _).mono ?_; rintro e wa ⟨rfl, ba⟩; unfold lsV)
        | (go_at_call 175; first
            | (have hI := ints6 wa; have hB := bel_a (w := w) (.cells #[.int .i64 0, .int .i64 0, .int .i64 0, .int .i64 0, .int .i64 0, .int .i64 0] 3) ba; have hT := HT.out.below hB; (with_reducible refine (iShow6 _ _ hI hT).mono ?_); rintro e wn ⟨rfl, bn⟩; have HBn := hid (hB.trans (bn.mono hB.size)))
            | (have hI := iints6b w wa (undrew ba); have hB := bel_b (w := w) ba; have hT := HT.out.below hB; (with_reducible refine (iShow6 _ _ hI hT).mono ?_); rintro e wn ⟨rfl, bn⟩; have HBn := hid (hB.trans (bn.mono hB.size)))))
    all_goals (go_wp2; go_ret; exact ⟨rfl, HBn.out⟩)
  · go_enter Tryz.func119, Tryz.ntmps119
    go_wp2
    go_ret
    exact ⟨rfl, Below.refl _ _⟩

end Go.Proofs.YtaopkchkhdbfnaaGreatDoor.Fm
