/-
  What the laws of chapter 3 keep in memory while they go on: the argument's box, the model's answer, the copy, the program's answer. No condition.
-/
import Derived.Test.YtppjohfafnbdlajMarkDisk
import Derived.Test.YtppjohfafnbdlajPeekLaw
namespace Go.Proofs.Ytppjohfafnbdlaj.Mem
open Go.RowKit
set_option linter.unusedVariables false

theorem DkW.kept {S : Nat → Prop} {w w' : World} {B : Nat} {v : Value} {D : Dk} (h : DkW w B v D) (k : Kept S w w') (hn : ∀ b, DkFoot v b → ¬ S b) : DkW w' B v D := by
  obtain ⟨a1, c1, a2, c2, a3, c3, e, s1, s2, s3, f1, f2⟩ := h
  exact ⟨a1, c1, a2, c2, a3, c3, e, Wr.move s1 k (fun b hb => hn b ⟨_, _, _, _, _, _, _, _, _, e, Or.inl hb⟩), Wr.move s2 k (fun b hb => hn b ⟨_, _, _, _, _, _, _, _, _, e, Or.inr (Or.inl hb)⟩),
    Wr.move s3 k (fun b hb => hn b ⟨_, _, _, _, _, _, _, _, _, e, Or.inr (Or.inr hb)⟩), f1, f2⟩

/-- The argument's box and the model's answer with its box. -/
structure LSt (w : World) (a0 a1 a2 : Value) (nu : Nat) (u0 u1 u2 : Value) (E : Dk) (wk : World) : Prop where
  bel : Below w.heap.size w wk
  ra : Row wk w.heap.size [a0, a1, a2]
  nuu : Row wk nu [u0, u1, u2]
  ru : DkR wk (.agg #[u0, u1, u2]) E
  fu : ∀ b, DkFoot (.agg #[u0, u1, u2]) b → b < nu
  lu : w.heap.size < nu

theorem LSt.start {w w3 wd : World} {a0 a1 a2 u0 u1 u2 : Value} {E : Dk} (HA : Row w3 w.heap.size [a0, a1, a2]) (HU : DkR w3 (.agg #[u0, u1, u2]) E) (HB : Below w.heap.size w w3) (W0 : Row wd w3.heap.size [u0, u1, u2]) (B0 : Below w3.heap.size w3 wd) :
    LSt w a0 a1 a2 w3.heap.size u0 u1 u2 E wd :=
  ⟨HB.trans (B0.mono HB.size), HA.below B0 HA.lt, W0, HU.below B0, fun b hb => HU.foot_lt hb, HA.lt⟩

theorem LSt.below {w : World} {a0 a1 a2 : Value} {nu : Nat} {u0 u1 u2 : Value} {E : Dk} {wk w' : World} (h : LSt w a0 a1 a2 nu u0 u1 u2 E wk) (b : Below wk.heap.size wk w') : LSt w a0 a1 a2 nu u0 u1 u2 E w' :=
  ⟨h.bel.trans (b.mono h.bel.size), h.ra.below b h.ra.lt, h.nuu.below b h.nuu.lt, h.ru.below b, h.fu, h.lu⟩

theorem LSt.kept {S : Nat → Prop} {w : World} {a0 a1 a2 : Value} {nu : Nat} {u0 u1 u2 : Value} {E : Dk} {wk w' : World} (h : LSt w a0 a1 a2 nu u0 u1 u2 E wk) (k : Kept S wk w') (hS : ∀ b, S b → nu < b) : LSt w a0 a1 a2 nu u0 u1 u2 E w' :=
  ⟨h.bel.trans (k.below h.bel.size (fun b hb x => by have := hS b x; have := h.lu; omega)), h.ra.kept k (fun x => by have := hS _ x; have := h.lu; omega), h.nuu.kept k (fun x => by have := hS _ x; omega),
    h.ru.kept k (fun b hb x => by have := hS _ x; have := h.fu b hb; omega), h.fu, h.lu⟩

theorem Row.cells3 {w : World} {g : Nat} {x y z : Value} (h : Row w g [x, y, z]) : w.cell? ⟨g, 0, none⟩ = some x ∧ w.cell? ⟨g, 1, none⟩ = some y ∧ w.cell? ⟨g, 2, none⟩ = some z := ⟨h.c 0 rfl, h.c 1 rfl, h.c 2 rfl⟩

theorem LSt.cells {w : World} {a0 a1 a2 : Value} {nu : Nat} {u0 u1 u2 : Value} {E : Dk} {wk : World} (h : LSt w a0 a1 a2 nu u0 u1 u2 E wk) :
    wk.cell? ⟨w.heap.size, 0, none⟩ = some a0 ∧ wk.cell? ⟨w.heap.size, 1, none⟩ = some a1 ∧ wk.cell? ⟨w.heap.size, 2, none⟩ = some a2 ∧ wk.cell? ⟨nu, 0, none⟩ = some u0 ∧ wk.cell? ⟨nu, 1, none⟩ = some u1 ∧ wk.cell? ⟨nu, 2, none⟩ = some u2 :=
  ⟨h.ra.c 0 rfl, h.ra.c 1 rfl, h.ra.c 2 rfl, h.nuu.c 0 rfl, h.nuu.c 1 rfl, h.nuu.c 2 rfl⟩

/-- .. and the copy that the program is given, with its box. -/
structure LSx (w : World) (a0 a1 a2 : Value) (nu : Nat) (u0 u1 u2 : Value) (E D : Dk) (nx Bx : Nat) (x0 x1 x2 : Value) (wk : World) : Prop where
  core : LSt w a0 a1 a2 nu u0 u1 u2 E wk
  rx : Row wk nx [x0, x1, x2]
  dx : DkW wk Bx (.agg #[x0, x1, x2]) D
  fx : ∀ b, DkFoot (.agg #[x0, x1, x2]) b → b < nx
  lx : nu < Bx
  lnx : nu < nx

theorem LSx.below {w : World} {a0 a1 a2 : Value} {nu : Nat} {u0 u1 u2 : Value} {E D : Dk} {nx Bx : Nat} {x0 x1 x2 : Value} {wk w' : World} (h : LSx w a0 a1 a2 nu u0 u1 u2 E D nx Bx x0 x1 x2 wk) (b : Below wk.heap.size wk w') : LSx w a0 a1 a2 nu u0 u1 u2 E D nx Bx x0 x1 x2 w' :=
  ⟨h.core.below b, h.rx.below b h.rx.lt, h.dx.below b, h.fx, h.lx, h.lnx⟩

theorem LSx.cells {w : World} {a0 a1 a2 : Value} {nu : Nat} {u0 u1 u2 : Value} {E D : Dk} {nx Bx : Nat} {x0 x1 x2 : Value} {wk : World} (h : LSx w a0 a1 a2 nu u0 u1 u2 E D nx Bx x0 x1 x2 wk) :
    wk.cell? ⟨w.heap.size, 0, none⟩ = some a0 ∧ wk.cell? ⟨w.heap.size, 1, none⟩ = some a1 ∧ wk.cell? ⟨w.heap.size, 2, none⟩ = some a2 ∧ wk.cell? ⟨nu, 0, none⟩ = some u0 ∧ wk.cell? ⟨nu, 1, none⟩ = some u1 ∧ wk.cell? ⟨nu, 2, none⟩ = some u2 ∧
    wk.cell? ⟨nx, 0, none⟩ = some x0 ∧ wk.cell? ⟨nx, 1, none⟩ = some x1 ∧ wk.cell? ⟨nx, 2, none⟩ = some x2 :=
  ⟨h.core.ra.c 0 rfl, h.core.ra.c 1 rfl, h.core.ra.c 2 rfl, h.core.nuu.c 0 rfl, h.core.nuu.c 1 rfl, h.core.nuu.c 2 rfl, h.rx.c 0 rfl, h.rx.c 1 rfl, h.rx.c 2 rfl⟩

/-- .. and the program's answer, with its box; without the copy. -/
structure LSm (w : World) (a0 a1 a2 : Value) (nu : Nat) (u0 u1 u2 : Value) (E : Dk) (ng Bg : Nat) (g0 g1 g2 : Value) (wk : World) : Prop where
  core : LSt w a0 a1 a2 nu u0 u1 u2 E wk
  rg : Row wk ng [g0, g1, g2]
  dg : DkW wk Bg (.agg #[g0, g1, g2]) E
  fg : ∀ b, DkFoot (.agg #[g0, g1, g2]) b → b < ng
  lg : nu < Bg
  lng : nu < ng

theorem LSm.below {w : World} {a0 a1 a2 : Value} {nu : Nat} {u0 u1 u2 : Value} {E : Dk} {ng Bg : Nat} {g0 g1 g2 : Value} {wk w' : World} (h : LSm w a0 a1 a2 nu u0 u1 u2 E ng Bg g0 g1 g2 wk) (b : Below wk.heap.size wk w') : LSm w a0 a1 a2 nu u0 u1 u2 E ng Bg g0 g1 g2 w' :=
  ⟨h.core.below b, h.rg.below b h.rg.lt, h.dg.below b, h.fg, h.lg, h.lng⟩

theorem LSm.cells {w : World} {a0 a1 a2 : Value} {nu : Nat} {u0 u1 u2 : Value} {E : Dk} {ng Bg : Nat} {g0 g1 g2 : Value} {wk : World} (h : LSm w a0 a1 a2 nu u0 u1 u2 E ng Bg g0 g1 g2 wk) :
    wk.cell? ⟨w.heap.size, 0, none⟩ = some a0 ∧ wk.cell? ⟨w.heap.size, 1, none⟩ = some a1 ∧ wk.cell? ⟨w.heap.size, 2, none⟩ = some a2 ∧ wk.cell? ⟨nu, 0, none⟩ = some u0 ∧ wk.cell? ⟨nu, 1, none⟩ = some u1 ∧ wk.cell? ⟨nu, 2, none⟩ = some u2 ∧
    wk.cell? ⟨ng, 0, none⟩ = some g0 ∧ wk.cell? ⟨ng, 1, none⟩ = some g1 ∧ wk.cell? ⟨ng, 2, none⟩ = some g2 :=
  ⟨h.core.ra.c 0 rfl, h.core.ra.c 1 rfl, h.core.ra.c 2 rfl, h.core.nuu.c 0 rfl, h.core.nuu.c 1 rfl, h.core.nuu.c 2 rfl, h.rg.c 0 rfl, h.rg.c 1 rfl, h.rg.c 2 rfl⟩

/-- .. and all of them. -/
structure LSg (w : World) (a0 a1 a2 : Value) (nu : Nat) (u0 u1 u2 : Value) (E D : Dk) (nx Bx : Nat) (x0 x1 x2 : Value) (ng Bg : Nat) (g0 g1 g2 : Value) (wk : World) : Prop where
  x : LSx w a0 a1 a2 nu u0 u1 u2 E D nx Bx x0 x1 x2 wk
  m : LSm w a0 a1 a2 nu u0 u1 u2 E ng Bg g0 g1 g2 wk
  lxg : nx < Bg
  lxn : nx < ng

theorem LSg.below {w : World} {a0 a1 a2 : Value} {nu : Nat} {u0 u1 u2 : Value} {E D : Dk} {nx Bx : Nat} {x0 x1 x2 : Value} {ng Bg : Nat} {g0 g1 g2 : Value} {wk w' : World} (h : LSg w a0 a1 a2 nu u0 u1 u2 E D nx Bx x0 x1 x2 ng Bg g0 g1 g2 wk) (b : Below wk.heap.size wk w') : LSg w a0 a1 a2 nu u0 u1 u2 E D nx Bx x0 x1 x2 ng Bg g0 g1 g2 w' :=
  ⟨h.x.below b, h.m.below b, h.lxg, h.lxn⟩

theorem LSg.cells {w : World} {a0 a1 a2 : Value} {nu : Nat} {u0 u1 u2 : Value} {E D : Dk} {nx Bx : Nat} {x0 x1 x2 : Value} {ng Bg : Nat} {g0 g1 g2 : Value} {wk : World} (h : LSg w a0 a1 a2 nu u0 u1 u2 E D nx Bx x0 x1 x2 ng Bg g0 g1 g2 wk) :
    wk.cell? ⟨w.heap.size, 0, none⟩ = some a0 ∧ wk.cell? ⟨w.heap.size, 1, none⟩ = some a1 ∧ wk.cell? ⟨w.heap.size, 2, none⟩ = some a2 ∧ wk.cell? ⟨nu, 0, none⟩ = some u0 ∧ wk.cell? ⟨nu, 1, none⟩ = some u1 ∧ wk.cell? ⟨nu, 2, none⟩ = some u2 ∧
    wk.cell? ⟨nx, 0, none⟩ = some x0 ∧ wk.cell? ⟨nx, 1, none⟩ = some x1 ∧ wk.cell? ⟨nx, 2, none⟩ = some x2 ∧ wk.cell? ⟨ng, 0, none⟩ = some g0 ∧ wk.cell? ⟨ng, 1, none⟩ = some g1 ∧ wk.cell? ⟨ng, 2, none⟩ = some g2 :=
  ⟨h.x.core.ra.c 0 rfl, h.x.core.ra.c 1 rfl, h.x.core.ra.c 2 rfl, h.x.core.nuu.c 0 rfl, h.x.core.nuu.c 1 rfl, h.x.core.nuu.c 2 rfl, h.x.rx.c 0 rfl, h.x.rx.c 1 rfl, h.x.rx.c 2 rfl, h.m.rg.c 0 rfl, h.m.rg.c 1 rfl, h.m.rg.c 2 rfl⟩

/-- The copy is marked: the program's answer, which lies behind it, stays. -/
theorem LSg.marked {w : World} {a0 a1 a2 : Value} {nu : Nat} {u0 u1 u2 : Value} {E D : Dk} {nx Bx : Nat} {x0 x1 x2 : Value} {ng Bg : Nat} {g0 g1 g2 : Value} {wk w' : World} (h : LSg w a0 a1 a2 nu u0 u1 u2 E D nx Bx x0 x1 x2 ng Bg g0 g1 g2 wk) (k : Kept (DkFoot (.agg #[x0, x1, x2])) wk w') : LSm w a0 a1 a2 nu u0 u1 u2 E ng Bg g0 g1 g2 w' :=
  ⟨h.m.core.kept k (fun b hb => by have := h.x.dx.foot_ge hb; have := h.x.lx; omega), h.m.rg.kept k (fun hb => by have := h.x.fx _ hb; have := h.lxn; omega),
    h.m.dg.kept k (fun b hb hx => by have := h.x.fx _ hx; have := h.m.dg.foot_ge hb; have := h.lxg; omega), h.m.fg, h.m.lg, h.m.lng⟩

/-- The program's answer was marked. -/
structure LSh (w : World) (a0 a1 a2 : Value) (nu : Nat) (u0 u1 u2 : Value) (E : Dk) (ng : Nat) (g0 g1 g2 : Value) (wk : World) : Prop where
  core : LSt w a0 a1 a2 nu u0 u1 u2 E wk
  rg : Row wk ng [g0, g1, g2]
  mkd : Marked wk (.agg #[g0, g1, g2]) E.sec.length E.ep.length E.pe.length 1

theorem LSm.marked {w : World} {a0 a1 a2 : Value} {nu : Nat} {u0 u1 u2 : Value} {E : Dk} {ng Bg : Nat} {g0 g1 g2 : Value} {wk w' : World} (h : LSm w a0 a1 a2 nu u0 u1 u2 E ng Bg g0 g1 g2 wk) (k : Kept (DkFoot (.agg #[g0, g1, g2])) wk w') (m : Marked w' (.agg #[g0, g1, g2]) E.sec.length E.ep.length E.pe.length 1) : LSh w a0 a1 a2 nu u0 u1 u2 E ng g0 g1 g2 w' :=
  ⟨h.core.kept k (fun b hb => by have := h.dg.foot_ge hb; have := h.lg; omega), h.rg.kept k (fun hb => by have := h.fg _ hb; omega), m⟩

theorem LSh.below {w : World} {a0 a1 a2 : Value} {nu : Nat} {u0 u1 u2 : Value} {E : Dk} {ng : Nat} {g0 g1 g2 : Value} {wk w' : World} (h : LSh w a0 a1 a2 nu u0 u1 u2 E ng g0 g1 g2 wk) (b : Below wk.heap.size wk w') : LSh w a0 a1 a2 nu u0 u1 u2 E ng g0 g1 g2 w' :=
  ⟨h.core.below b, h.rg.below b h.rg.lt, h.mkd.below b⟩

theorem LSh.cells {w : World} {a0 a1 a2 : Value} {nu : Nat} {u0 u1 u2 : Value} {E : Dk} {ng : Nat} {g0 g1 g2 : Value} {wk : World} (h : LSh w a0 a1 a2 nu u0 u1 u2 E ng g0 g1 g2 wk) :
    wk.cell? ⟨w.heap.size, 0, none⟩ = some a0 ∧ wk.cell? ⟨w.heap.size, 1, none⟩ = some a1 ∧ wk.cell? ⟨w.heap.size, 2, none⟩ = some a2 ∧ wk.cell? ⟨nu, 0, none⟩ = some u0 ∧ wk.cell? ⟨nu, 1, none⟩ = some u1 ∧ wk.cell? ⟨nu, 2, none⟩ = some u2 ∧
    wk.cell? ⟨ng, 0, none⟩ = some g0 ∧ wk.cell? ⟨ng, 1, none⟩ = some g1 ∧ wk.cell? ⟨ng, 2, none⟩ = some g2 :=
  ⟨h.core.ra.c 0 rfl, h.core.ra.c 1 rfl, h.core.ra.c 2 rfl, h.core.nuu.c 0 rfl, h.core.nuu.c 1 rfl, h.core.nuu.c 2 rfl, h.rg.c 0 rfl, h.rg.c 1 rfl, h.rg.c 2 rfl⟩

/-- What the loads of 'is the copy as it was' read, in a world that is a letter. -/
theorem eqS_below {wa w w' : World} {g gx : Nat} {x0 x1 x2 y0 y1 y2 : Value} (b : Below w.heap.size w w')
    (h : w.cell? ⟨g, 0, none⟩ = some x0 ∧ w.cell? ⟨g, 1, none⟩ = some x1 ∧ w.cell? ⟨g, 2, none⟩ = some x2 ∧ w.cell? ⟨gx, 0, none⟩ = some y0 ∧ w.cell? ⟨gx, 1, none⟩ = some y1 ∧ w.cell? ⟨gx, 2, none⟩ = some y2 ∧ Below wa.heap.size wa w) :
    w'.cell? ⟨g, 0, none⟩ = some x0 ∧ w'.cell? ⟨g, 1, none⟩ = some x1 ∧ w'.cell? ⟨g, 2, none⟩ = some x2 ∧ w'.cell? ⟨gx, 0, none⟩ = some y0 ∧ w'.cell? ⟨gx, 1, none⟩ = some y1 ∧ w'.cell? ⟨gx, 2, none⟩ = some y2 ∧ Below wa.heap.size wa w' := by
  obtain ⟨h0, h1, h2, h3, h4, h5, hb⟩ := h
  have m : ∀ {p : Addr} {u : Value}, w.cell? p = some u → w'.cell? p = some u := fun {p u} hp => (b.cell (p := p) (World.block_lt_of_cell? w _ hp)).trans hp
  exact ⟨m h0, m h1, m h2, m h3, m h4, m h5, hb.trans (b.mono hb.size)⟩

end Go.Proofs.Ytppjohfafnbdlaj.Mem
