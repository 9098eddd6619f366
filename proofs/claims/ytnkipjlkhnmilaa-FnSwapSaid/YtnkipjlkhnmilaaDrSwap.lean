/-
  The walk of spec.DrawSwap: some small disk, a host's number, an epoch, a sector's number and two small texts. No condition but what the walk of spec.l3Any gives.
-/
import Derived.Deep.DeepCutAuto
import Derived.Test.YtnkipjlkhnmilaaDrParts
import Derived.Test.YtnkipjlkhnmilaaSomeSize
import Derived.Test.YtnkipjlkhnmilaaDrawNew
namespace Go.Proofs.Ytnkipjlkhnmilaa.Mem
open Go.RowKit
set_option linter.unusedVariables false

/-- A struct out of its own block, and five temporaries, handed back. -/
theorem results_row6 {P : Program} {fn : Func} {p t1 t2 t3 t4 t5 : Tmp} {ty : TypeId} (h : fn.results = #[.cell p ty, .tmp t1, .tmp t2, .tmp t3, .tmp t4, .tmp t5]) (tmps : Array Value) (w : World) (g : Nat) (xs : List Value) (d : TypeDesc)
    (hp : tmps.getD p undef = .pointer (some ⟨g, 0, none⟩)) (hr : Row w g xs)
    (hu : P.underlying ty = some d) (hd : (match d with | .struct _ | .array _ _ => true | _ => false) = true) (hi : (P.info? ty).map (·.size) = some xs.length) :
    (results fn tmps).run P w = .ok (.tuple #[.agg xs.toArray, tmps.getD t1 undef, tmps.getD t2 undef, tmps.getD t3 undef, tmps.getD t4 undef, tmps.getD t5 undef]) w := by
  obtain ⟨t, hb⟩ := hr
  have hl := run_loadVar_row (P := P) w g t ty xs.toArray (0, 0) d hb hu hd (by simpa using hi)
  have hp' : tmps[p]?.getD undef = .pointer (some ⟨g, 0, none⟩) := by simpa using hp
  simp [results, h, hp', asAddr, Result.andThen, hl]

theorem dk3 {w : World} {a1 a2 a3 : Option Addr} {c1 c2 c3 : Nat} {D : Dk} (h : DkR w (.agg #[.slice a1 D.sec.length c1, .slice a2 D.ep.length c2, .slice a3 D.pe.length c3]) D) : Strs w a1 D.sec ∧ Ints w a2 D.ep ∧ Wts w a3 D.pe := by
  obtain ⟨_, _, _, _, _, _, e, s1, s2, s3⟩ := h
  cases e
  exact ⟨s1, s2, s3⟩

theorem hosts8 (j : Nat) (h : j < 8) : -1 ≤ ([0, 1, 2, 0, 1, 2, -1, 3] : List Int).getD j 0 ∧ ([0, 1, 2, 0, 1, 2, -1, 3] : List Int).getD j 0 ≤ 3 := by
  rcases (by omega : j = 0 ∨ j = 1 ∨ j = 2 ∨ j = 3 ∨ j = 4 ∨ j = 5 ∨ j = 6 ∨ j = 7) with rfl | rfl | rfl | rfl | rfl | rfl | rfl | rfl <;> decide

set_option maxRecDepth 100000 in
set_option maxHeartbeats 4000000 in
theorem drawSwap (hA : AnyDoes) (w : World) (a : Option Addr) (len cap : Nat) (zs : List Int) (C : Draw.Code w a len cap zs) :
    Calls Try.prog 24 #[.slice a len cap] w fun e w' => ∃ v D h z s old t, e = .returned (.tuple #[v, .int .i64 h, .int .i64 z, .int .i64 s, .string old, .string t]) ∧ D.Any ∧ DkR w' v D ∧ (-1 ≤ h ∧ h ≤ 3) ∧ (old.size ≤ 700 ∧ t.size ≤ 40) ∧ Below w.heap.size w w' := by
  obtain ⟨wb, hwb, ez, R0, B0⟩ := one_new w [.slice none 0 0, .slice none 0 0, .slice none 0 0] 28
  have HC := hid (C.below B0)
  have hlen := C.hb
  have HR := hid R0
  have HB := hid B0
  have EZ := hid ez
  clear R0 B0 C ez
  go_enter Try.func24, Try.ntmps24
  go_wp2_with fail
  refine (Draw.new_any wb a len cap zs HC.out).mono ?_
  rintro e w1 ⟨rfl, E1, b1⟩
  have HE1 : Hid (EnvX w1 wb.heap.size a len cap zs) := ⟨_, _, E1⟩
  have HB1 := hid b1
  clear E1 b1
  go_wp2_with fail
  refine (sizeX w1 a len cap 25 hlen (by decide) (by decide)).mono ?_
  rintro e w1' ⟨n, hn0, hn1, rfl, hw⟩
  obtain rfl := hw.symm
  go_wp2_with fail
  refine (hA w1 wb.heap.size a len cap zs HE1.out n hn0 (by omega)).mono ?_
  rintro e w2 ⟨v, D, rfl, hD, O, E2, g2⟩
  obtain ⟨p1, c1, p2, c2, p3, c3, rfl⟩ := O.three
  obtain ⟨w3, hw3, ez3, A3, B3⟩ := one_new w2 [.slice p1 D.sec.length c1, .slice p2 D.ep.length c2, .slice p3 D.pe.length c3] 28
  have HS3 := hid (DrSt.start EZ.out HR.out HB.out HB1.out HE1.out E2 g2 O A3 B3)
  have HD := hid hD
  clear A3 B3 O E2 g2 hD ez3 HE1 HB1 HR HB EZ
  go_wp2_with fail
  generalize w2.heap.size = nb at *
  generalize w1.heap.size = Bb at *
  generalize wb.heap.size = cb at *
  have hcb3 : cb < w3.heap.size := HS3.out.env.lt
  refine (pickX _ cb a len cap zs w3.heap.size 8 [0, 1, 2, 0, 1, 2, -1, 3] (by decide) (by decide) (HS3.out.alloc _).env (Nat.ne_of_gt hcb3) (fun j hj => lit_ints w3 [0, 1, 2, 0, 1, 2, -1, 3] 3 j hj)).mono ?_
  rintro e w4 ⟨j, hj, rfl, E4, g4⟩
  have HS4 := hid ((HS3.out.alloc _).draw E4 g4)
  have hhb := hosts8 j hj
  obtain ⟨h, hh⟩ : ∃ h, ([0, 1, 2, 0, 1, 2, -1, 3] : List Int).getD j 0 = h := ⟨_, rfl⟩
  rw [hh] at hhb ⊢
  have HHb := hid hhb
  clear E4 g4 HS3 hh hj hhb
  have hsl := HD.out.s
  have b0 := HS4.out.c0
  have hw2' : IntKind.i64.wrap ((D.sec.length : Int) + 2) = (D.sec.length : Int) + 2 := by rw [IntKind.wrap_i64]; omega
  go_wp2_with fail
  refine (belowX w4 cb a len cap zs ((D.sec.length : Int) + 2) (by omega) (by omega) HS4.out.env).mono ?_
  rintro e w5 ⟨x, hx, rfl, E5, g5⟩
  have HS5 := hid (HS4.out.draw E5 g5)
  have hwx : IntKind.i64.wrap ((x : Int) - 1) = (x : Int) - 1 := by rw [IntKind.wrap_i64]; omega
  clear E5 g5 HS4 b0 hw2'
  go_wp2_with fail
  refine (textX w5 cb a len cap zs 4 (by decide) (by decide) HS5.out.env).mono ?_
  rintro e w6 ⟨old0, hold0, rfl, E6, g6⟩
  have HS6 := hid (HS5.out.draw E6 g6)
  clear E6 g6 HS5
  have b0 := HS6.out.c0
  have hel := HD.out.e
  have HEr : Hid (∀ j, j < D.ep.length → 0 ≤ D.ep.getD j 0 ∧ D.ep.getD j 0 ≤ 9223372036854775807) := fun j hj => by
    have := HD.out.ev (D.ep.getD j 0) (by simp [List.getD, hj])
    omega
  clear hwb hw3 HC hwx
  generalize hxs : (x : Int) - 1 = sx at *
  clear hxs hx
  go_upto_region 6 with fail
  go_cut [44] (fun c wr => ∃ b : Bool, c = .bool b ∧ (b = true → (0 : Int) ≤ sx ∧ sx < (D.sec.length : Int)) ∧ Hid (DrSt w w.heap.size cb a len cap zs Bb nb (.slice p1 D.sec.length c1) (.slice p2 D.ep.length c2) (.slice p3 D.pe.length c3) D wr))
  case first =>
    by_cases hs1 : (0 : Int) ≤ sx
    · by_cases hs2 : sx < (D.sec.length : Int)
      · go_wp2_with fail
        refine (onceX w6 cb a len cap zs 4 (by decide) (by decide) HS6.out.env).mono ?_
        rintro e w7 ⟨b, rfl, E7, g7⟩
        have HS7 := hid (HS6.out.draw E7 g7)
        clear E7 g7 HS6 b0
        cases b with
        | true =>
          go_wp2_with fail
          go_meet
          exact ⟨false, rfl, fun h => (by cases h), HS7⟩
        | false =>
          go_wp2_with fail
          go_meet
          exact ⟨true, rfl, fun _ => ⟨hs1, hs2⟩, HS7⟩
      · go_wp2_with fail
        go_meet
        exact ⟨false, rfl, fun h => (by cases h), HS6⟩
    · go_wp2_with fail
      go_meet
      exact ⟨false, rfl, fun h => (by cases h), HS6⟩
  case rest =>
  obtain ⟨b, rfl, hb, HS7⟩ := hcut
  clear HS6 b0
  cases b with
  | false =>
    clear hb
    have HSd := hid HS7.out.drew
    obtain ⟨q0, q1, q2, k0, k1, k2, l0, l1, l2⟩ := HSd.out.six
    clear HS7
    go_wp2
    go_region_with (first
      | (go_at_call 35; refine (epochX _ cb a len cap zs Bb _ D h HSd.out.env HSd.out.dk HSd.out.hB HEr.out (by unfold maxLen; omega)).mono ?_; rintro e w8 ⟨z, rfl, _, E8, g8⟩; have HS8 := hid (HSd.out.draw E8 g8); clear HSd E8 g8; obtain ⟨r0, r1, r2, m0, m1, m2, n0, n1, n2⟩ := HS8.out.six)
      | (go_at_call 33; refine (textX _ cb a len cap zs 6 (by decide) (by decide) HS8.out.env).mono ?_; rintro e w9 ⟨tx, htx, rfl, E9, g9⟩; have HS9 := hid (HS8.out.draw E9 g9); clear HS8 E9 g9; obtain ⟨u0, u1, u2, v0, v1, v2, x0, x1, x2⟩ := HS9.out.six; have FN := hid HS9.out.fin))
    all_goals (try go_wp2)
    all_goals (refine bodyPost_ret (results_row6 rfl _ _ w.heap.size [.slice p1 D.sec.length c1, .slice p2 D.ep.length c2, .slice p3 D.pe.length c3] _ rfl FN.out.1 Try.underlying28 rfl (by kernel_rfl)) rfl ?_)
    all_goals exact ⟨_, D, h, z, sx, old0, tx, rfl, HD.out, FN.out.2.1, HHb.out, ⟨by omega, htx⟩, FN.out.2.2⟩
  | true =>
    have hb2 := hb rfl
    clear hb
    obtain ⟨y, rfl⟩ : ∃ y : Nat, sx = (y : Int) := ⟨sx.toNat, by omega⟩
    have hy2 : (y : Int) < (D.sec.length : Int) := hb2.2
    clear hb2
    have b0 := HS7.out.c0
    obtain ⟨bs, os, es, hcs⟩ := (dk3 HS7.out.dk.read).1 y (by omega)
    subst es
    replace hcs : wc.cell? ⟨bs, os + y, none⟩ = some (.string (D.sec.getD y ByteArray.empty)) := hcs
    have hyz : (D.sec.getD y ByteArray.empty).size ≤ 700 := HD.out.st _ (by simp [List.getD, show y < D.sec.length by omega])
    generalize D.sec.getD y ByteArray.empty = sy at hcs hyz
    go_upto_region 8 with fail
    have HSd := hid HS7.out.drew
    obtain ⟨q0, q1, q2, k0, k1, k2, l0, l1, l2⟩ := HSd.out.six
    clear HS7
    go_wp2
    go_region_with (first
      | (go_at_call 35; refine (epochX _ cb a len cap zs Bb _ D h HSd.out.env HSd.out.dk HSd.out.hB HEr.out (by unfold maxLen; omega)).mono ?_; rintro e w8 ⟨z, rfl, _, E8, g8⟩; have HS8 := hid (HSd.out.draw E8 g8); clear HSd E8 g8; obtain ⟨r0, r1, r2, m0, m1, m2, n0, n1, n2⟩ := HS8.out.six)
      | (go_at_call 33; refine (textX _ cb a len cap zs 6 (by decide) (by decide) HS8.out.env).mono ?_; rintro e w9 ⟨tx, htx, rfl, E9, g9⟩; have HS9 := hid (HS8.out.draw E9 g9); clear HS8 E9 g9; obtain ⟨u0, u1, u2, v0, v1, v2, x0, x1, x2⟩ := HS9.out.six; have FN := hid HS9.out.fin))
    all_goals (try go_wp2)
    all_goals (refine bodyPost_ret (results_row6 rfl _ _ w.heap.size [.slice (some ⟨bs, os, none⟩) D.sec.length c1, .slice p2 D.ep.length c2, .slice p3 D.pe.length c3] _ rfl FN.out.1 Try.underlying28 rfl (by kernel_rfl)) rfl ?_)
    all_goals exact ⟨_, D, h, z, (y : Int), sy, tx, rfl, HD.out, FN.out.2.1, HHb.out, ⟨hyz, htx⟩, FN.out.2.2⟩

end Go.Proofs.Ytnkipjlkhnmilaa.Mem
