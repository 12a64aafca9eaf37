/-
  ModMdR: A module in memory: twelve slices and what they lead to. No condition; nothing of the program.
-/
import Derived.Test.YtlbbnnljclndkaaQModKind
namespace Go.Proofs.Ytlbbnnljclndkaa.Mod
open Go.RowKit Leb

def mdR : Rep GMd := mapR (fun m : GMd => (m.types, m.imps, m.funcs, m.tabs, m.mems, m.globs, m.expos, m.starts, m.els, m.counts, m.dats, m.cuss)) (seqR (lstR ftR) (seqR (lstR impR) (seqR (lstR fnR) (seqR (lstR limR) (seqR (lstR limR) (seqR (lstR globR) (seqR (lstR expoR) (seqR (lstR intR) (seqR (lstR elR) (seqR (lstR intR) (seqR (lstR datR) (lstR cusR))))))))))))
/-- Where the slices lie, and their room. -/
structure Pls where
  A0 : Option Addr
  A1 : Option Addr
  A2 : Option Addr
  A3 : Option Addr
  A4 : Option Addr
  A5 : Option Addr
  A6 : Option Addr
  A7 : Option Addr
  A8 : Option Addr
  A9 : Option Addr
  A10 : Option Addr
  A11 : Option Addr
  c0 : Nat
  c1 : Nat
  c2 : Nat
  c3 : Nat
  c4 : Nat
  c5 : Nat
  c6 : Nat
  c7 : Nat
  c8 : Nat
  c9 : Nat
  c10 : Nat
  c11 : Nat
def noPls : Pls := ⟨none, none, none, none, none, none, none, none, none, none, none, none, 0, 0, 0, 0, 0, 0, 0, 0, 0, 0, 0, 0⟩
def Pls.vals (p : Pls) (g : GMd) : List Value := [.slice p.A0 g.types.length p.c0, .slice p.A1 g.imps.length p.c1, .slice p.A2 g.funcs.length p.c2, .slice p.A3 g.tabs.length p.c3, .slice p.A4 g.mems.length p.c4, .slice p.A5 g.globs.length p.c5, .slice p.A6 g.expos.length p.c6, .slice p.A7 g.starts.length p.c7, .slice p.A8 g.els.length p.c8, .slice p.A9 g.counts.length p.c9, .slice p.A10 g.dats.length p.c10, .slice p.A11 g.cuss.length p.c11]
/-- What they lead to; okF: where the functions may lie, ok: the others. -/
structure MdL (w : World) (ok okF : Nat → Prop) (p : Pls) (g : GMd) : Prop where
  l0 : Lst ftR w ok p.A0 p.c0 g.types
  l1 : Lst impR w ok p.A1 p.c1 g.imps
  l2 : Lst fnR w okF p.A2 p.c2 g.funcs
  l3 : Lst limR w ok p.A3 p.c3 g.tabs
  l4 : Lst limR w ok p.A4 p.c4 g.mems
  l5 : Lst globR w ok p.A5 p.c5 g.globs
  l6 : Lst expoR w ok p.A6 p.c6 g.expos
  l7 : Lst intR w ok p.A7 p.c7 g.starts
  l8 : Lst elR w ok p.A8 p.c8 g.els
  l9 : Lst intR w ok p.A9 p.c9 g.counts
  l10 : Lst datR w ok p.A10 p.c10 g.dats
  l11 : Lst cusR w ok p.A11 p.c11 g.cuss
theorem MdL.keep {w w' : World} {ok ok' okF okF' : Nat → Prop} {p : Pls} {g : GMd} (h : MdL w ok okF p g) (hh : ∀ b, ok b → b < w.heap.size → w'.heap[b]? = w.heap[b]? ∧ ok' b) (hf : ∀ b, okF b → b < w.heap.size → w'.heap[b]? = w.heap[b]? ∧ okF' b) : MdL w' ok' okF' p g :=
  ⟨h.l0.keep hh, h.l1.keep hh, h.l2.keep hf, h.l3.keep hh, h.l4.keep hh, h.l5.keep hh, h.l6.keep hh, h.l7.keep hh, h.l8.keep hh, h.l9.keep hh, h.l10.keep hh, h.l11.keep hh⟩
theorem mdl_none (w : World) (ok okF : Nat → Prop) : MdL w ok okF noPls noG := ⟨lst_none _ _ _, lst_none _ _ _, lst_none _ _ _, lst_none _ _ _, lst_none _ _ _, lst_none _ _ _, lst_none _ _ _, lst_none _ _ _, lst_none _ _ _, lst_none _ _ _, lst_none _ _ _, lst_none _ _ _⟩
theorem mdR_at {w : World} {ok : Nat → Prop} {vs : List Value} {g : GMd} : mdR.at_ w ok vs g ↔ ∃ p : Pls, vs = p.vals g ∧ MdL w ok ok p g := by
  constructor
  · rintro ⟨u0, v0, rfl, ⟨A0, c0, rfl, h0⟩, u1, v1, rfl, ⟨A1, c1, rfl, h1⟩, u2, v2, rfl, ⟨A2, c2, rfl, h2⟩, u3, v3, rfl, ⟨A3, c3, rfl, h3⟩, u4, v4, rfl, ⟨A4, c4, rfl, h4⟩, u5, v5, rfl, ⟨A5, c5, rfl, h5⟩, u6, v6, rfl, ⟨A6, c6, rfl, h6⟩, u7, v7, rfl, ⟨A7, c7, rfl, h7⟩, u8, v8, rfl, ⟨A8, c8, rfl, h8⟩, u9, v9, rfl, ⟨A9, c9, rfl, h9⟩, u10, v10, rfl, ⟨A10, c10, rfl, h10⟩, A11, c11, rfl, h11⟩
    exact ⟨⟨A0, A1, A2, A3, A4, A5, A6, A7, A8, A9, A10, A11, c0, c1, c2, c3, c4, c5, c6, c7, c8, c9, c10, c11⟩, rfl, h0, h1, h2, h3, h4, h5, h6, h7, h8, h9, h10, h11⟩
  · rintro ⟨p, rfl, h⟩
    exact ⟨_, _, rfl, ⟨p.A0, p.c0, rfl, h.l0⟩, _, _, rfl, ⟨p.A1, p.c1, rfl, h.l1⟩, _, _, rfl, ⟨p.A2, p.c2, rfl, h.l2⟩, _, _, rfl, ⟨p.A3, p.c3, rfl, h.l3⟩, _, _, rfl, ⟨p.A4, p.c4, rfl, h.l4⟩, _, _, rfl, ⟨p.A5, p.c5, rfl, h.l5⟩, _, _, rfl, ⟨p.A6, p.c6, rfl, h.l6⟩, _, _, rfl, ⟨p.A7, p.c7, rfl, h.l7⟩, _, _, rfl, ⟨p.A8, p.c8, rfl, h.l8⟩, _, _, rfl, ⟨p.A9, p.c9, rfl, h.l9⟩, _, _, rfl, ⟨p.A10, p.c10, rfl, h.l10⟩, p.A11, p.c11, rfl, h.l11⟩
/-- A module as a value. -/
def mdV (ok : Nat → Prop) (w : World) (v : Value) (g : GMd) : Prop := ∃ p : Pls, v = .agg (p.vals g).toArray ∧ MdL w ok ok p g
end Go.Proofs.Ytlbbnnljclndkaa.Mod
