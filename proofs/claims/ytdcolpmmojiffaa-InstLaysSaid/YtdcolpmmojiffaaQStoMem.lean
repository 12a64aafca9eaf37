/-
  StoMem: A store (api.Store) in memory: plain lists, where its five slices lie, what they lead to; a variable that holds one. Conditions as each lemma says.
-/
import Derived.Test.YtdcolpmmojiffaaQStoVals
import Derived.Test.YtdcolpmmojiffaaQUtf
import Derived.Deep.QuietTactic
import Derived.BigQuiet
import Derived.Deep.Draws
import Derived.Deep.RegionHeld
import Derived.Deep.DeepCutAuto
namespace Go.Proofs.Ytdcolpmmojiffaa.Sto
open Go.RowKit Leb Typ

structure GSt where
  mem : List Nat
  cap : Int
  tab : List Int
  glo : List Nat
  els : List Bool
  dat : List Bool
structure PSt where
  A0 : Option Addr
  c0 : Nat
  A2 : Option Addr
  c2 : Nat
  A3 : Option Addr
  c3 : Nat
  A4 : Option Addr
  c4 : Nat
  A5 : Option Addr
  c5 : Nat
def vSt (p : PSt) (g : GSt) : Value := .agg #[.slice p.A0 g.mem.length p.c0, .int .i64 g.cap, .slice p.A2 g.tab.length p.c2, .slice p.A3 g.glo.length p.c3, .slice p.A4 g.els.length p.c4, .slice p.A5 g.dat.length p.c5]
structure StL (w : World) (B : Nat) (p : PSt) (g : GSt) : Prop where
  mem : Bytes w B p.A0 g.mem
  tab : Ints w B p.A2 g.tab
  glo : Nums w B p.A3 g.glo
  els : Bools w B p.A4 g.els
  dat : Bools w B p.A5 g.dat
theorem StL.below {w w' : World} {B : Nat} {p : PSt} {g : GSt} (h : StL w B p g) (hb : Below B w w') : StL w' B p g := ⟨h.mem.below hb, h.tab.below hb, h.glo.below hb, h.els.below hb, h.dat.below hb⟩
def GSt.fits (g : GSt) : Prop := g.mem.length ≤ 140737488355328 ∧ g.tab.length ≤ 140737488355328 ∧ g.glo.length ≤ 140737488355328 ∧ g.els.length ≤ 140737488355328 ∧ g.dat.length ≤ 140737488355328
def BoxS (V : World) (b : Nat) (p : PSt) (g : GSt) : Prop := V.heap[b]? = some (.cells #[.slice p.A0 g.mem.length p.c0, .int .i64 g.cap, .slice p.A2 g.tab.length p.c2, .slice p.A3 g.glo.length p.c3, .slice p.A4 g.els.length p.c4, .slice p.A5 g.dat.length p.c5] 27 (0, 0))
theorem BoxS.keep {w V : World} {b C : Nat} {p : PSt} {g : GSt} (h : BoxS w b p g) (hb : Below C w V) (hlt : b < C) : BoxS V b p g := (hb.block b hlt).trans h
theorem BoxS.lt {V : World} {b : Nat} {p : PSt} {g : GSt} (h : BoxS V b p g) : b < V.heap.size := by
  rcases Nat.lt_or_ge b V.heap.size with h1 | h1
  · exact h1
  · have : V.heap[b]? = none := by simp [h1]
    rw [show V.heap[b]? = _ from h] at this
    cases this
theorem BoxS.cells {V : World} {b : Nat} {p : PSt} {g : GSt} (h : BoxS V b p g) : V.cell? ⟨b, 0, none⟩ = some (.slice p.A0 g.mem.length p.c0) ∧ V.cell? ⟨b, 1, none⟩ = some (.int .i64 g.cap) ∧ V.cell? ⟨b, 2, none⟩ = some (.slice p.A2 g.tab.length p.c2) ∧ V.cell? ⟨b, 3, none⟩ = some (.slice p.A3 g.glo.length p.c3) ∧ V.cell? ⟨b, 4, none⟩ = some (.slice p.A4 g.els.length p.c4) ∧ V.cell? ⟨b, 5, none⟩ = some (.slice p.A5 g.dat.length p.c5) := by
  refine ⟨?_, ?_, ?_, ?_, ?_, ?_⟩ <;> (unfold World.cell?; simp [show V.heap[b]? = _ from h])
theorem boxs_new (V : World) (p : PSt) (g : GSt) : BoxS (V.alloc (.cells #[.slice p.A0 g.mem.length p.c0, .int .i64 g.cap, .slice p.A2 g.tab.length p.c2, .slice p.A3 g.glo.length p.c3, .slice p.A4 g.els.length p.c4, .slice p.A5 g.dat.length p.c5] 27)) V.heap.size p g := heap_alloc_new V _
theorem boxs_past {V : World} {n : Nat} {p : PSt} {g : GSt} (h : BoxS V n p g) (o : Obj) : BoxS (V.alloc o) n p g := h.keep ((Below.refl V.heap.size V).alloc (Nat.le_refl _) o) h.lt
theorem BoxS.free {V : World} {b : Nat} {p : PSt} {g : GSt} (h : BoxS V b p g) (i : Nat) : V.frozen? ⟨b, i, none⟩ = false := by
  unfold World.frozen?
  simp [show V.heap[b]? = _ from h]
theorem BoxS.set0 {V : World} {b : Nat} {p : PSt} {g : GSt} (h : BoxS V b p g) (m : List Nat) (A : Option Addr) (c : Nat) : BoxS (V.setCell ⟨b, 0, none⟩ (.slice A m.length c)) b { p with A0 := A, c0 := c } { g with mem := m } := by
  unfold BoxS at *
  unfold World.setCell
  simp [Array.getElem?_modify, h]
def At (w W V : World) : Prop := Below w.heap.size w V ∧ Below W.heap.size W V
theorem At.next {w W V V' : World} (h : At w W V) (hb : Below V.heap.size V V') : At w W V' := ⟨h.1.trans (hb.mono h.1.size), h.2.trans (hb.mono h.2.size)⟩
theorem At.drew {w W V : World} (h : At w W V) : At w W V.drew := ⟨h.1.drew, h.2.drew⟩
theorem At.refl {w W : World} (h : Below w.heap.size w W) : At w W W := ⟨h, Below.refl _ _⟩
def Fs : List (Addr × Value) → World → Prop
  | [], _ => True
  | x :: l, V => V.cell? x.1 = some x.2 ∧ Fs l V
theorem below_one {w V : World} (h : Below w.heap.size w V) (o : Obj) : Below w.heap.size w (V.alloc o) := h.alloc h.size o
end Go.Proofs.Ytdcolpmmojiffaa.Sto
