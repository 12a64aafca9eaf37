/-
  ModMdR: A module in memory: twelve slices and what they lead to. No condition; nothing of the program.
-/
import Derived.Test.YtdcolpmmojiffaaQModKind
namespace Go.Proofs.Ytdcolpmmojiffaa.Mod
open Go.RowKit Leb

structure Pls where
  A0 : Option Addr
  A1 : Option Addr
  A2 : Option Addr
  A3 : Option Addr
  A4 : Option Addr
  A5 : Option Addr
  A6 : Option Addr
  A7 : Option Addr
  A8 : Option Addr
  A9 : Option Addr
  A10 : Option Addr
  A11 : Option Addr
  c0 : Nat
  c1 : Nat
  c2 : Nat
  c3 : Nat
  c4 : Nat
  c5 : Nat
  c6 : Nat
  c7 : Nat
  c8 : Nat
  c9 : Nat
  c10 : Nat
  c11 : Nat
def noPls : Pls := ⟨none, none, none, none, none, none, none, none, none, none, none, none, 0, 0, 0, 0, 0, 0, 0, 0, 0, 0, 0, 0⟩
def Pls.vals (p : Pls) (g : GMd) : List Value := [.slice p.A0 g.types.length p.c0, .slice p.A1 g.imps.length p.c1, .slice p.A2 g.funcs.length p.c2, .slice p.A3 g.tabs.length p.c3, .slice p.A4 g.mems.length p.c4, .slice p.A5 g.globs.length p.c5, .slice p.A6 g.expos.length p.c6, .slice p.A7 g.starts.length p.c7, .slice p.A8 g.els.length p.c8, .slice p.A9 g.counts.length p.c9, .slice p.A10 g.dats.length p.c10, .slice p.A11 g.cuss.length p.c11]
structure MdL (w : World) (ok okF : Nat → Prop) (p : Pls) (g : GMd) : Prop where
  l0 : Lst ftR w ok p.A0 p.c0 g.types
  l1 : Lst impR w ok p.A1 p.c1 g.imps
  l2 : Lst fnR w okF p.A2 p.c2 g.funcs
  l3 : Lst limR w ok p.A3 p.c3 g.tabs
  l4 : Lst limR w ok p.A4 p.c4 g.mems
  l5 : Lst globR w ok p.A5 p.c5 g.globs
  l6 : Lst expoR w ok p.A6 p.c6 g.expos
  l7 : Lst intR w ok p.A7 p.c7 g.starts
  l8 : Lst elR w ok p.A8 p.c8 g.els
  l9 : Lst intR w ok p.A9 p.c9 g.counts
  l10 : Lst datR w ok p.A10 p.c10 g.dats
  l11 : Lst cusR w ok p.A11 p.c11 g.cuss
theorem MdL.keep {w w' : World} {ok ok' okF okF' : Nat → Prop} {p : Pls} {g : GMd} (h : MdL w ok okF p g) (hh : ∀ b, ok b → b < w.heap.size → w'.heap[b]? = w.heap[b]? ∧ ok' b) (hf : ∀ b, okF b → b < w.heap.size → w'.heap[b]? = w.heap[b]? ∧ okF' b) : MdL w' ok' okF' p g :=
  ⟨h.l0.keep hh, h.l1.keep hh, h.l2.keep hf, h.l3.keep hh, h.l4.keep hh, h.l5.keep hh, h.l6.keep hh, h.l7.keep hh, h.l8.keep hh, h.l9.keep hh, h.l10.keep hh, h.l11.keep hh⟩
end Go.Proofs.Ytdcolpmmojiffaa.Mod
