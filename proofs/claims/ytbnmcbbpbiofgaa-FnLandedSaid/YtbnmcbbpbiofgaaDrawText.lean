/-
  The walk of spec.l1Text: the text that it draws is settled by the code's bytes and the cursor alone. No condition but a bound that is small.
-/
import Derived.Test.YtbnmcbbpbiofgaaDrawBelow
import Derived.Test.YtbnmcbbpbiofgaaOwn
namespace Go.Proofs.Ytbnmcbbpbiofgaa.Draw
open Go.RowKit
set_option linter.unusedVariables false

theorem info5 : (Try.prog.info? 5).map (fun i => (i.zero, i.size, i.bytes)) = some (some (.int .u8 0), 1, 1) := by kernel_rfl

theorem Env.lt {w : World} {cb : Nat} {a : Option Addr} {len cap : Nat} {zs : List Int} {i : Nat} {h : Int} (E : Env w cb a len cap zs i h) : cb < w.heap.size := by
  rcases Nat.lt_or_ge cb w.heap.size with hh | hh
  · exact hh
  · have := E.blk
    rw [Array.getElem?_eq_none hh] at this; cases this

/-- Nothing below B has turned, and the cursor and the code lie there. -/
theorem Env.below {w0 w w' : World} {cb : Nat} {a : Option Addr} {len cap : Nat} {zs : List Int} {i0 i : Nat} {h0 h : Int} (E0 : Env w0 cb a len cap zs i0 h0) (E : Env w cb a len cap zs i h) (hb : Below w0.heap.size w w') : Env w' cb a len cap zs i h := by
  refine ⟨?_, E.hi, E.hl, E.hb, E.z, fun j hj => ?_⟩
  · rw [hb.block cb E0.lt]; exact E.blk
  · obtain ⟨b, off, e, hne, hc⟩ := E.code j hj
    obtain ⟨b', off', e', _, hc'⟩ := E0.code j hj
    rw [e] at e'
    cases e'
    have hlt : b < w0.heap.size := World.block_lt_of_cell? w0 ⟨b, off + j, none⟩ hc'
    exact ⟨b, off, e, hne, by rw [hb.cell (p := ⟨b, off + j, none⟩) hlt]; exact hc⟩

theorem grown_below {w wr w' : World} {r : Option Nat} (h : w.grownBy wr r) (hb : Below w.heap.size wr w') : w.grownBy w' r :=
  ⟨hb.os.trans h.os, hb.tape.trans h.tape, hb.output.trans h.output, Nat.le_trans h.size hb.size, fun k hk hr => (hb.block k hk).trans (h.block k hk hr)⟩

/-- A byte in the style that was drawn. -/
def adj (st b : Int) : Int := if st = 1 then b % 2 else if st = 2 then 97 + b % 4 else b
theorem adj_bd (st b : Int) (h : 0 ≤ b ∧ b ≤ 255) : 0 ≤ adj st b ∧ adj st b ≤ 255 := by unfold adj; split; · omega
                                                                                        · split <;> omega

/-- The bytes of k rounds, and the cursor behind them. -/
def txL (zs : List Int) (st : Int) : Nat → Nat → Int → List Int
  | 0, _, _ => []
  | k + 1, i, h => adj st (nbx zs i h) :: txL zs st k (nbi zs i) (hB h)
def finI (zs : List Int) : Nat → Nat → Nat
  | 0, i => i
  | k + 1, i => finI zs k (nbi zs i)
def finH : Nat → Int → Int
  | 0, h => h
  | k + 1, h => finH k (hB h)

theorem txL_length (zs : List Int) (st : Int) : ∀ k i h, (txL zs st k i h).length = k
  | 0, _, _ => rfl
  | k + 1, i, h => by simp [txL, txL_length zs st k]

/-- Behind some rounds: l is made, m rounds are left. -/
def TInv (zs : List Int) (st : Int) (n i0 : Nat) (h0 : Int) (l : List Int) (m i : Nat) (h : Int) : Prop :=
  l.length + m = n ∧ l ++ txL zs st m i h = txL zs st n i0 h0 ∧ finI zs m i = finI zs n i0 ∧ finH m h = finH n h0

theorem TInv.start (zs : List Int) (st : Int) (n i0 : Nat) (h0 : Int) : TInv zs st n i0 h0 [] n i0 h0 := ⟨by simp, by simp, rfl, rfl⟩
theorem TInv.more {zs : List Int} {st : Int} {n i0 : Nat} {h0 : Int} {l : List Int} {m i : Nat} {h : Int} (T : TInv zs st n i0 h0 l (m + 1) i h) : TInv zs st n i0 h0 (l ++ [adj st (nbx zs i h)]) m (nbi zs i) (hB h) := by
  obtain ⟨t1, t2, t3, t4⟩ := T
  refine ⟨by simp; omega, ?_, t3, t4⟩
  rw [List.append_assoc]; exact t2
theorem TInv.done {zs : List Int} {st : Int} {n i0 : Nat} {h0 : Int} {l : List Int} {i : Nat} {h : Int} (T : TInv zs st n i0 h0 l 0 i h) : l = txL zs st n i0 h0 ∧ i = finI zs n i0 ∧ h = finH n h0 := by
  obtain ⟨_, t2, t3, t4⟩ := T
  simp only [txL, List.append_nil] at t2
  exact ⟨t2, t3, t4⟩

set_option maxRecDepth 100000 in
set_option maxHeartbeats 2000000 in
theorem text_draws (zs : List Int) (most : Int) (h0 : 0 ≤ most) (h1 : most ≤ 40) (i : Nat) (h : Int) :
    ∃ (s : ByteArray) (i' : Nat) (h' : Int), s.size ≤ 40 ∧ Draws 39 [.int .i64 most] zs i h (.string s) i' h' := by
  obtain ⟨st, i1, h1', hst0, hst1, d1⟩ := below_draws zs 4 (by omega) (by omega) i h
  obtain ⟨nn, i2, h2, hn0, hn1, d2⟩ := below_draws zs (most + 1) (by omega) (by omega) i1 h1'
  obtain ⟨n, rfl⟩ := Int.eq_ofNat_of_zero_le hn0
  refine ⟨strOfNums (txL zs st n i2 h2), finI zs n i2, finH n h2, by rw [strOfNums_size, txL_length]; omega, ?_⟩
  intro w cb a len cap E
  show Calls Try.prog 39 #[.pointer (some ⟨cb, 0, none⟩), .int .i64 most] w _
  have HE : Hid (Env w cb a len cap zs i h) := E
  have HD1 : Hid (Draws 28 [.int .i64 4] zs i h (.int .i64 st) i1 h1') := d1
  have HD2 : Hid (Draws 28 [.int .i64 (most + 1)] zs i1 h1' (.int .i64 (n : Int)) i2 h2) := d2
  clear E d1 d2
  go_enter Try.func39, Try.ntmps39
  have hown0 : (w.alloc (.cells #[] 5)).ownsRow w.heap.size 5 1 (.slice (some ⟨w.heap.size, 0, none⟩) 0 0) 0 [] := World.ownsRow_made w #[] 0 (Nat.le_refl _) (by decide) rfl
  have HO := Own.hid hown0
  clear hown0
  have hcb := HE.out.lt
  go_wp2_with fail
  refine Calls.mono (HD1.out _ cb a len cap (HE.out.below HE.out ((Below.refl _ _).alloc (Nat.le_refl _) _))) ?_
  rintro e w1 ⟨rfl, hE1, hg1⟩
  have HO1 : Hid (w1.ownsRow w.heap.size 5 1 (.slice (some ⟨w.heap.size, 0, none⟩) 0 0) 0 []) := HO.out.kept hg1 (Own.own_ne HO.out hcb)
  have HG1 : Hid (w.grownBy w1 (some cb)) := grown_trans (World.grownBy_alloc w _ _) hg1
  have HE1 : Hid (Env w1 cb a len cap zs i1 h1') := hE1
  clear hE1 hg1 HO
  go_wp2_with fail
  refine Calls.mono (HD2.out _ cb a len cap HE1.out) ?_
  rintro e w2 ⟨rfl, hE2, hg2⟩
  have hown2 : w2.ownsRow w.heap.size 5 1 (.slice (some ⟨w.heap.size, 0, none⟩) 0 0) 0 [] := HO1.out.kept hg2 (Own.own_ne HO1.out hcb)
  have HO2 := Own.hid hown2
  have HG2 : Hid (w.grownBy w2 (some cb)) := grown_trans HG1.out hg2
  have HE2 : Hid (Env w2 cb a len cap zs i2 h2) := hE2
  clear hE2 hg2 HO1 hown2
  go_wp2
  go_loopw [5, 7] (fun v c wr => ∃ (l : List Int) (m ic : Nat) (hc : Int), Hid (TInv zs st n i2 h2 l m ic hc) ∧ m ≤ n ∧ l.length ≤ 40 ∧ c = .int .i64 (m : Int) ∧ Hid (wr.ownsRow w.heap.size 5 1 v l.length (l.map (.int .u8))) ∧ Hid (Env wr cb a len cap zs ic hc) ∧ Hid (w.grownBy wr (some cb))) (fun _ c _ => (intOf c).toNat)
  case atStart => exact ⟨[], n, i2, h2, TInv.start zs st n i2 h2, Nat.le_refl _, by simp, rfl, HO2, HE2, HG2⟩
  case round =>
    clear HO2 HE2 HG2 HG1 HE1 HD1 HD2
    obtain ⟨l, m, ic, hc, hT, hm, hl, rfl, hO, hE, hG⟩ := hrel
    cases m with
    | zero =>
      obtain ⟨t1, t2, t3⟩ := hT.out.done
      have hcv := Own.conv_any 22 Try.underlying22 Try.underlying5 Try.underlying9 hO.out rfl
      have Hs : Hid (strOfNums l = strOfNums (txL zs st n i2 h2)) := by show _ = _; rw [t1]
      have HE' : Hid (Env wr cb a len cap zs (finI zs n i2) (finH n h2)) := by rw [← t2, ← t3]; exact hE.out
      clear t1 t2 t3
      go_wp2
      go_ret
      exact ⟨Own.ret_str Hs.out, HE'.out, hG.out⟩
    | succ m =>
      have hx := nbx_bd zs ic hc
      have hT' := Own.hid hT.out.more
      have ha : Hid (adj st (nbx zs ic hc) = if st = 1 then nbx zs ic hc % 2 else if st = 2 then 97 + nbx zs ic hc % 4 else nbx zs ic hc) := rfl
      have HB := Own.hid (byte_any wr cb a len cap zs ic hc hE.out)
      have hsz : w.heap.size ≤ wr.heap.size := hG.out.size
      generalize nbx zs ic hc = x at *
      have HLm : Hid (l.length + (m + 1) = n) := hT.out.1
      clear hT
      have hl' : l.length + (m + 1) ≤ 40 := by have := HLm.out; omega
      go_wp2_with fail
      refine Calls.mono HB.out ?_
      rintro e w3 ⟨rfl, hE3, hg3⟩
      have HO3 : Hid (w3.ownsRow w.heap.size 5 1 _ l.length (l.map (.int .u8))) := hO.out.kept hg3 (Own.own_ne hO.out hcb)
      have HG3 : Hid (w.grownBy w3 (some cb)) := grown_trans hG.out hg3
      have HE3 : Hid (Env w3 cb a len cap zs (nbi zs ic) (hB hc)) := hE3
      have hsz3 : w.heap.size ≤ w3.heap.size := HG3.out.size
      clear hE3 hg3 hO hG hE HB
      by_cases hs1 : st = 1
      · have t1 : (st == 1) = true := by simpa using hs1
        have t2 : (st == 2) = false := by simp; omega
        have Ha : Hid (adj st x = x % 2) := by show _ = _; rw [ha.out, if_pos hs1]
        clear hs1 ha
        go_wp2_with (at_builtin; refine Own.wpList_app1 22 Try.underlying22 info5 _ _ rfl _ _ rfl w.heap.size _ l.length l rfl HO3.out rfl (by omega) hsz3 ?_; intro v1 w4 hown4 hbel4)
        rw [← Ha.out] at hown4
        have HE4 : Hid (Env w4 cb a len cap zs (nbi zs ic) (hB hc)) := HE.out.below HE3.out hbel4
        have HG4 : Hid (w.grownBy w4 (some cb)) := grown_below HG3.out hbel4
        have HO4 : Hid (w4.ownsRow w.heap.size 5 1 v1 (l ++ [adj st x]).length ((l ++ [adj st x]).map (.int .u8))) := Own.hid (by simpa using hown4)
        clear hown4 hbel4
        go_roundw
        case rel => exact ⟨l ++ [adj st x], m, nbi zs ic, hB hc, hT', by omega, by simp; omega, by go_num, HO4, HE4, HG4⟩
        case measure => simp [intOf]
      · have t1 : (st == 1) = false := by simpa using hs1
        by_cases hs2 : st = 2
        · have t2 : (st == 2) = true := by simpa using hs2
          have Ha : Hid (adj st x = 97 + x % 4) := by show _ = _; rw [ha.out, if_neg hs1, if_pos hs2]
          clear hs1 hs2 ha
          go_wp2_with (at_builtin; refine Own.wpList_app1 22 Try.underlying22 info5 _ _ rfl _ _ rfl w.heap.size _ l.length l rfl HO3.out rfl (by omega) hsz3 ?_; intro v1 w4 hown4 hbel4)
          rw [← Ha.out] at hown4
          have HE4 : Hid (Env w4 cb a len cap zs (nbi zs ic) (hB hc)) := HE.out.below HE3.out hbel4
          have HG4 : Hid (w.grownBy w4 (some cb)) := grown_below HG3.out hbel4
          have HO4 : Hid (w4.ownsRow w.heap.size 5 1 v1 (l ++ [adj st x]).length ((l ++ [adj st x]).map (.int .u8))) := Own.hid (by simpa using hown4)
          clear hown4 hbel4
          go_roundw
          case rel => exact ⟨l ++ [adj st x], m, nbi zs ic, hB hc, hT', by omega, by simp; omega, by go_num, HO4, HE4, HG4⟩
          case measure => simp [intOf]
        · have t2 : (st == 2) = false := by simpa using hs2
          have Ha : Hid (adj st x = x) := by show _ = _; rw [ha.out, if_neg hs1, if_neg hs2]
          clear hs1 hs2 ha
          go_wp2_with (at_builtin; refine Own.wpList_app1 22 Try.underlying22 info5 _ _ rfl _ _ rfl w.heap.size _ l.length l rfl HO3.out rfl (by omega) hsz3 ?_; intro v1 w4 hown4 hbel4)
          rw [← Ha.out] at hown4
          have HE4 : Hid (Env w4 cb a len cap zs (nbi zs ic) (hB hc)) := HE.out.below HE3.out hbel4
          have HG4 : Hid (w.grownBy w4 (some cb)) := grown_below HG3.out hbel4
          have HO4 : Hid (w4.ownsRow w.heap.size 5 1 v1 (l ++ [adj st x]).length ((l ++ [adj st x]).map (.int .u8))) := Own.hid (by simpa using hown4)
          clear hown4 hbel4
          go_roundw
          case rel => exact ⟨l ++ [adj st x], m, nbi zs ic, hB hc, hT', by omega, by simp; omega, by go_num, HO4, HE4, HG4⟩
          case measure => simp [intOf]

end Go.Proofs.Ytbnmcbbpbiofgaa.Draw
