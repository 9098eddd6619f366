/-
  The walk of impl's take once more, with a sharper word on what it leaves alone. No condition but that the number is there.
-/
import Derived.Test.YtppjohfafnbdlajImplTake
namespace Go.Proofs.Ytppjohfafnbdlaj.Mem
open Go.RowKit Go.Sort
set_option linter.unusedVariables false

set_option maxRecDepth 100000 in
set_option maxHeartbeats 2000000 in
theorem takeS (w : World) (B b n : Nat) (Q : Int → Int → List Nat) (D : DataW Value) (V : Int → Int → Value) (q : QM w B b n Q D V) (h s : Int) (hk : OkK h s) (i : Nat) (hi : i < (Q h s).length) (hn : n < 1048576) (hi40 : i < 1048576) :
    Calls Try.prog 52 #[.map (some b), .agg #[.int .i64 h, .int .i64 s], .int .i64 (i : Int)] w fun e w' => e = .returned (.tuple #[]) ∧ (∃ D' V', QM w' B b (n + 1) (upd Q h s ((Q h s).eraseIdx i)) D' V' ∧ ∀ h' s' y, rb (V' h' s') = some y → rb (V h' s') = some y) ∧ Kept (fun g => g = b ∨ rb (V h s) = some g) w w' := by
  obtain ⟨wb, hwb, ez, A0, B0⟩ := one_new w [.int .i64 h, .int .i64 s] 69
  have qb := q.below B0
  have hlk : (Instr.lookup 66 (.map (some b)) (.agg #[.int .i64 h, .int .i64 s]) false).run Try.prog wb = .ok (V h s) wb := qb.look hk
  have hrow := qb.row h s hk
  obtain ⟨g, c, hv⟩ := hrow.form (by omega)
  have HV := hid hv
  have hgl : g < w.heap.size := ((q.row h s hk).lt (b := g) (by rw [hv]; rfl)).2
  rw [hv] at hlk hrow
  have HQ := hid qb
  have HR := hid hrow
  have HA := hid A0
  have HB0 := hid B0
  have hcap := hid hrow.cap
  have k0 := A0.c 0 rfl
  have k1 := A0.c 1 rfl
  have Hlt := hid (show (zOf (Q h s)).length = (Q h s).length from zOf_length _)
  have hq40 : (Q h s).length ≤ 9223372036854775807 := by have := hcap.out.1; have := hcap.out.2; unfold maxLen at this; omega
  clear q qb hv hrow A0 B0 ez
  generalize hZ : Q h s = Z at *
  have HZ := hid hZ
  clear hZ
  go_enter Try.func52, Try.ntmps52
  go_wp2_with fail
  have hc := Any.slices_Delete_int Try.lays223 g 0 (c + 1) i (i + 1) (zOf Z) wb (holds_row HR.out) (by rw [zOf_length]; exact hcap.out.1) (by have := hcap.out.2; unfold maxLen at this; exact this) (by omega) (by rw [zOf_length]; omega)
  rw [zOf_length, show (i + 1 - i) = 1 from by omega] at hc
  obtain ⟨m, hm⟩ : ∃ m, Z.length - 1 = m := ⟨_, rfl⟩
  rw [hm] at hc
  refine hc.mono ?_
  rintro e w2 ⟨rfl, p, hw2⟩
  have r2 := row_deleted (q := p) HR.out hi
  rw [show (i + 1 - i) = 1 from by omega, ← hw2, hm] at r2
  have k2 : Kept (fun y => y = g) wb w2 := by rw [hw2]; exact kept_putRow wb g p _
  have hlE : (Z.eraseIdx i).length = m := by rw [List.length_eraseIdx_of_lt hi]; exact hm
  have kv : Kept (fun y => rb (V h s) = some y) wb w2 := k2.mono (fun y _ e => by rw [HV.out, e]; rfl)
  have R2 := HA.out.kept k2 (by omega)
  have hgB := (HR.out.lt (b := g) rfl).1
  have HK2 := hid ((Kept.of_below (S := fun _ => False) HB0.out).trans k2)
  clear hc hw2 k0 k1 hlk hwb
  have k0 := R2.c 0 rfl
  have k1 := R2.c 1 rfl
  have HKV := hid kv
  have HR2 := hid r2
  clear kv k2 r2 R2
  by_cases hm0 : m = 0
  · subst hm0
    have hnil : Z.eraseIdx i = [] := List.eq_nil_of_length_eq_zero hlE
    obtain ⟨w3, hr3, q3, k3⟩ := HQ.out.drop hk HKV.out 0
    have hd : ∀ ty, (Builtin.delete_ #[66, 69] ty #[.map (some b), .agg #[.int .i64 h, .int .i64 s]]).run Try.prog w2 = .ok (.tuple #[]) w3 := fun ty => hr3
    have HQ3 := hid q3
    have HK3 := hid k3
    clear q3 k3 hr3
    go_wp2
    refine bodyPost_ret (results_none rfl _ _ _) rfl ?_
    rw [hnil]
    exact ⟨rfl, ⟨_, _, HQ3.out.more, fun h' s' y hy => by
      by_cases e : h' = h ∧ s' = s
      · obtain ⟨rfl, rfl⟩ := e; rw [upd_same] at hy; simp [rb, nilv] at hy
      · rw [upd_other _ _ e] at hy; exact hy⟩, (HK2.out.trans HK3.out).mono (fun y _ e => by rcases e with (e | e) | e; exact e.elim; exact Or.inr (by rw [HV.out, e]; rfl); exact Or.inl e)⟩
  · have hne : Z.eraseIdx i ≠ [] := fun e => hm0 (by rw [← hlE, e]; rfl)
    obtain ⟨w3, hr3, q3, k3⟩ := HQ.out.store hk (by unfold maxLen; omega) HKV.out (.slice (some ⟨g, 0, none⟩) m (c + 1)) (Z.eraseIdx i) hne HR2.out (Or.inr (Or.inl (by rw [HV.out]; rfl)))
    replace hr3 : (Instr.mapUpdate 66 (.map (some b)) (.agg #[.int .i64 h, .int .i64 s]) (.slice (some ⟨g, 0, none⟩) m (c + 1))).run Try.prog w2 = .ok () w3 := hr3
    have HQ3 := hid q3
    have HK3 := hid k3
    clear q3 k3
    go_wp2
    go_end0
    exact ⟨rfl, ⟨_, _, HQ3.out, fun h' s' y hy => by
      by_cases e : h' = h ∧ s' = s
      · obtain ⟨rfl, rfl⟩ := e; rw [upd_same] at hy; rw [HV.out]; exact hy
      · rw [upd_other _ _ e] at hy; exact hy⟩, (HK2.out.trans HK3.out).mono (fun y _ e => by rcases e with (e | e) | e; exact e.elim; exact Or.inr (by rw [HV.out, e]; rfl); exact Or.inl e)⟩

end Go.Proofs.Ytppjohfafnbdlaj.Mem
