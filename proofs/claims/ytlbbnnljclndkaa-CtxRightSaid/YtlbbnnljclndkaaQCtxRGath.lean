/-
  CtxRGath: The given Gather of layer 9. Conditions: the module lies in memory; its lists are not too long. (Written by wip/tools/genctxrgath.py.)
-/
import Derived.Test.YtlbbnnljclndkaaQCtxGath
import Derived.Deep.RegionHeld
import Derived.Deep.DeepCutAuto
namespace Go.Proofs.Ytlbbnnljclndkaa.Cx
open Go.RowKit Leb
open _root_.Go.Proofs.Ytlbbnnljclndkaa.Mod

section
variable {W : World} {L M : Nat} {okT : Nat → Prop} {p : Plc} {c : GCtx}
theorem CS.host1 (h : CS W L M okT p c) (a : Int) : CS (W.setCell ⟨M, 5, none⟩ (.int .i64 a)) L M okT p { c with hosts := a } ∧ Below M W (W.setCell ⟨M, 5, none⟩ (.int .i64 a)) := by
  have far : ∀ q, q ≠ M → (W.setCell ⟨M, 5, none⟩ (.int .i64 a)).heap[q]? = W.heap[q]? := fun q hq => far_set (fun e => hq e.symm) _
  have ne : ∀ g, L ≤ g → g ≠ M := fun g hg => by have := h.lt; omega
  refine ⟨⟨?_, h.ty.keep fun b hb _ => ⟨far b (h.oT b hb).2, hb⟩, h.oT, h.lt, by simpa using h.hL, rowSame h.o1 fun g hg => far g (ne g (rowLt h.o1 g hg).1), rowSame h.o2 fun g hg => far g (ne g (rowLt h.o2 g hg).1), rowSame h.o3 fun g hg => far g (ne g (rowLt h.o3 g hg).1), rowSame h.o4 fun g hg => far g (ne g (rowLt h.o4 g hg).1), h.apart⟩, rfl, rfl, rfl, by simp, fun q hq => far q (by omega)⟩
  rw [blk_set h.box 5]
  simp [Plc.vals]
theorem CS.var1 (h : CS W L M okT p c) (a : Int) : CS (W.setCell ⟨M, 6, none⟩ (.int .i64 a)) L M okT p { c with vars := a } ∧ Below M W (W.setCell ⟨M, 6, none⟩ (.int .i64 a)) := by
  have far : ∀ q, q ≠ M → (W.setCell ⟨M, 6, none⟩ (.int .i64 a)).heap[q]? = W.heap[q]? := fun q hq => far_set (fun e => hq e.symm) _
  have ne : ∀ g, L ≤ g → g ≠ M := fun g hg => by have := h.lt; omega
  refine ⟨⟨?_, h.ty.keep fun b hb _ => ⟨far b (h.oT b hb).2, hb⟩, h.oT, h.lt, by simpa using h.hL, rowSame h.o1 fun g hg => far g (ne g (rowLt h.o1 g hg).1), rowSame h.o2 fun g hg => far g (ne g (rowLt h.o2 g hg).1), rowSame h.o3 fun g hg => far g (ne g (rowLt h.o3 g hg).1), rowSame h.o4 fun g hg => far g (ne g (rowLt h.o4 g hg).1), h.apart⟩, rfl, rfl, rfl, by simp, fun q hq => far q (by omega)⟩
  rw [blk_set h.box 6]
  simp [Plc.vals]
end
/-- What the given Gather answers. -/
def gathR (g : GMd) (imp : Bool) : GCtx := if imp then gathM g (gathT g (gathF g (gathH (gathI g)))) else gather g
def RGathIs (w : World) (c : GCtx) (en : Ending) (w' : World) : Prop := ∃ p', en = .returned (.agg (p'.vals c).toArray) ∧ CtxL w' (fun b => b < w.heap.size ∨ w.heap.size ≤ b) p' c ∧ Below w.heap.size w w'
/-- What the lines of the loops read. -/
def SF (bm i : Nat) (A : Option Addr) (n cx b o : Nat) (ty : Int) (V : World) : Prop := V.cell? ⟨bm, i, none⟩ = some (.slice A n cx) ∧ V.cell? ⟨b, o, none⟩ = some (.int .i64 ty)
def SG (bm i : Nat) (A : Option Addr) (n cx b o : Nat) (ty : Int) (mu : Bool) (V : World) : Prop := V.cell? ⟨bm, i, none⟩ = some (.slice A n cx) ∧ V.cell? ⟨b, o, none⟩ = some (.int .i64 ty) ∧ V.cell? ⟨b, o + 1, none⟩ = some (.bool mu)
set_option maxRecDepth 100000 in
set_option maxHeartbeats 16000000 in
theorem rgather_any (g : GMd) (p : Pls) (w : World) (ok : Nat → Prop) (imp : Bool) (hl : MdL w ok ok p g) (hs : Sm g) : Calls Try.prog 10 #[.agg #[.slice p.A0 g.types.length p.c0, .slice p.A1 g.imps.length p.c1, .slice p.A2 g.funcs.length p.c2, .slice p.A3 g.tabs.length p.c3, .slice p.A4 g.mems.length p.c4, .slice p.A5 g.globs.length p.c5, .slice p.A6 g.expos.length p.c6, .slice p.A7 g.starts.length p.c7, .slice p.A8 g.els.length p.c8, .slice p.A9 g.counts.length p.c9, .slice p.A10 g.dats.length p.c10, .slice p.A11 g.cuss.length p.c11], .bool imp] w (RGathIs w (gathR g imp)) := by
  have hM0 : (((w.alloc (.cells #[.slice p.A0 g.types.length p.c0, .slice p.A1 g.imps.length p.c1, .slice p.A2 g.funcs.length p.c2, .slice p.A3 g.tabs.length p.c3, .slice p.A4 g.mems.length p.c4, .slice p.A5 g.globs.length p.c5, .slice p.A6 g.expos.length p.c6, .slice p.A7 g.starts.length p.c7, .slice p.A8 g.els.length p.c8, .slice p.A9 g.counts.length p.c9, .slice p.A10 g.dats.length p.c10, .slice p.A11 g.cuss.length p.c11] 33)).alloc (.cells #[.slice none 0 0, .slice none 0 0, .slice none 0 0, .slice none 0 0, .slice none 0 0, .int .i64 0, .int .i64 0, .int .i64 0, .int .i64 0, .bool false] 38)).alloc (.cells #[.slice p.A0 g.types.length p.c0, .slice none 0 0, .slice none 0 0, .slice none 0 0, .slice none 0 0, .int .i64 0, .int .i64 0, .int .i64 (g.els.length : Int), .int .i64 (g.dats.length : Int), .bool (decide (0 < g.counts.length))] 38)).heap[w.heap.size + 1 + 1]? = some (.cells #[.slice p.A0 g.types.length p.c0, .slice none 0 0, .slice none 0 0, .slice none 0 0, .slice none 0 0, .int .i64 0, .int .i64 0, .int .i64 (g.els.length : Int), .int .i64 (g.dats.length : Int), .bool (decide (0 < g.counts.length))] 38 (0, 0)) := by
    have h := heap_alloc_new ((w.alloc (.cells #[.slice p.A0 g.types.length p.c0, .slice p.A1 g.imps.length p.c1, .slice p.A2 g.funcs.length p.c2, .slice p.A3 g.tabs.length p.c3, .slice p.A4 g.mems.length p.c4, .slice p.A5 g.globs.length p.c5, .slice p.A6 g.expos.length p.c6, .slice p.A7 g.starts.length p.c7, .slice p.A8 g.els.length p.c8, .slice p.A9 g.counts.length p.c9, .slice p.A10 g.dats.length p.c10, .slice p.A11 g.cuss.length p.c11] 33)).alloc (.cells #[.slice none 0 0, .slice none 0 0, .slice none 0 0, .slice none 0 0, .slice none 0 0, .int .i64 0, .int .i64 0, .int .i64 0, .int .i64 0, .bool false] 38)) (.cells #[.slice p.A0 g.types.length p.c0, .slice none 0 0, .slice none 0 0, .slice none 0 0, .slice none 0 0, .int .i64 0, .int .i64 0, .int .i64 (g.els.length : Int), .int .i64 (g.dats.length : Int), .bool (decide (0 < g.counts.length))] 38)
    have e : ((w.alloc (.cells #[.slice p.A0 g.types.length p.c0, .slice p.A1 g.imps.length p.c1, .slice p.A2 g.funcs.length p.c2, .slice p.A3 g.tabs.length p.c3, .slice p.A4 g.mems.length p.c4, .slice p.A5 g.globs.length p.c5, .slice p.A6 g.expos.length p.c6, .slice p.A7 g.starts.length p.c7, .slice p.A8 g.els.length p.c8, .slice p.A9 g.counts.length p.c9, .slice p.A10 g.dats.length p.c10, .slice p.A11 g.cuss.length p.c11] 33)).alloc (.cells #[.slice none 0 0, .slice none 0 0, .slice none 0 0, .slice none 0 0, .slice none 0 0, .int .i64 0, .int .i64 0, .int .i64 0, .int .i64 0, .bool false] 38)).heap.size = w.heap.size + 1 + 1 := by simp
    rw [e] at h
    exact h
  have hR0 : (((w.alloc (.cells #[.slice p.A0 g.types.length p.c0, .slice p.A1 g.imps.length p.c1, .slice p.A2 g.funcs.length p.c2, .slice p.A3 g.tabs.length p.c3, .slice p.A4 g.mems.length p.c4, .slice p.A5 g.globs.length p.c5, .slice p.A6 g.expos.length p.c6, .slice p.A7 g.starts.length p.c7, .slice p.A8 g.els.length p.c8, .slice p.A9 g.counts.length p.c9, .slice p.A10 g.dats.length p.c10, .slice p.A11 g.cuss.length p.c11] 33)).alloc (.cells #[.slice none 0 0, .slice none 0 0, .slice none 0 0, .slice none 0 0, .slice none 0 0, .int .i64 0, .int .i64 0, .int .i64 0, .int .i64 0, .bool false] 38)).alloc (.cells #[.slice p.A0 g.types.length p.c0, .slice none 0 0, .slice none 0 0, .slice none 0 0, .slice none 0 0, .int .i64 0, .int .i64 0, .int .i64 (g.els.length : Int), .int .i64 (g.dats.length : Int), .bool (decide (0 < g.counts.length))] 38)).heap[w.heap.size + 1]? = some (.cells #[.slice none 0 0, .slice none 0 0, .slice none 0 0, .slice none 0 0, .slice none 0 0, .int .i64 0, .int .i64 0, .int .i64 0, .int .i64 0, .bool false] 38 (0, 0)) := by
    have h := heap_alloc_new (w.alloc (.cells #[.slice p.A0 g.types.length p.c0, .slice p.A1 g.imps.length p.c1, .slice p.A2 g.funcs.length p.c2, .slice p.A3 g.tabs.length p.c3, .slice p.A4 g.mems.length p.c4, .slice p.A5 g.globs.length p.c5, .slice p.A6 g.expos.length p.c6, .slice p.A7 g.starts.length p.c7, .slice p.A8 g.els.length p.c8, .slice p.A9 g.counts.length p.c9, .slice p.A10 g.dats.length p.c10, .slice p.A11 g.cuss.length p.c11] 33)) (.cells #[.slice none 0 0, .slice none 0 0, .slice none 0 0, .slice none 0 0, .slice none 0 0, .int .i64 0, .int .i64 0, .int .i64 0, .int .i64 0, .bool false] 38)
    have e : (w.alloc (.cells #[.slice p.A0 g.types.length p.c0, .slice p.A1 g.imps.length p.c1, .slice p.A2 g.funcs.length p.c2, .slice p.A3 g.tabs.length p.c3, .slice p.A4 g.mems.length p.c4, .slice p.A5 g.globs.length p.c5, .slice p.A6 g.expos.length p.c6, .slice p.A7 g.starts.length p.c7, .slice p.A8 g.els.length p.c8, .slice p.A9 g.counts.length p.c9, .slice p.A10 g.dats.length p.c10, .slice p.A11 g.cuss.length p.c11] 33)).heap.size = w.heap.size + 1 := by simp
    rw [e] at h
    exact (((Below.refl _ _).alloc (Nat.le_refl _) _).block _ (by simp)).trans h
  have hK0 : (((w.alloc (.cells #[.slice p.A0 g.types.length p.c0, .slice p.A1 g.imps.length p.c1, .slice p.A2 g.funcs.length p.c2, .slice p.A3 g.tabs.length p.c3, .slice p.A4 g.mems.length p.c4, .slice p.A5 g.globs.length p.c5, .slice p.A6 g.expos.length p.c6, .slice p.A7 g.starts.length p.c7, .slice p.A8 g.els.length p.c8, .slice p.A9 g.counts.length p.c9, .slice p.A10 g.dats.length p.c10, .slice p.A11 g.cuss.length p.c11] 33)).alloc (.cells #[.slice none 0 0, .slice none 0 0, .slice none 0 0, .slice none 0 0, .slice none 0 0, .int .i64 0, .int .i64 0, .int .i64 0, .int .i64 0, .bool false] 38)).alloc (.cells #[.slice p.A0 g.types.length p.c0, .slice none 0 0, .slice none 0 0, .slice none 0 0, .slice none 0 0, .int .i64 0, .int .i64 0, .int .i64 (g.els.length : Int), .int .i64 (g.dats.length : Int), .bool (decide (0 < g.counts.length))] 38)).heap[w.heap.size]? = some (.cells #[.slice p.A0 g.types.length p.c0, .slice p.A1 g.imps.length p.c1, .slice p.A2 g.funcs.length p.c2, .slice p.A3 g.tabs.length p.c3, .slice p.A4 g.mems.length p.c4, .slice p.A5 g.globs.length p.c5, .slice p.A6 g.expos.length p.c6, .slice p.A7 g.starts.length p.c7, .slice p.A8 g.els.length p.c8, .slice p.A9 g.counts.length p.c9, .slice p.A10 g.dats.length p.c10, .slice p.A11 g.cuss.length p.c11] 33 (0, 0)) :=
    (((Below.refl _ _).alloc (Nat.le_refl _) _).block _ (by simp; omega)).trans ((((Below.refl _ _).alloc (Nat.le_refl _) _).block _ (by simp)).trans (heap_alloc_new w _))
  have hb0 : Below w.heap.size w (((w.alloc (.cells #[.slice p.A0 g.types.length p.c0, .slice p.A1 g.imps.length p.c1, .slice p.A2 g.funcs.length p.c2, .slice p.A3 g.tabs.length p.c3, .slice p.A4 g.mems.length p.c4, .slice p.A5 g.globs.length p.c5, .slice p.A6 g.expos.length p.c6, .slice p.A7 g.starts.length p.c7, .slice p.A8 g.els.length p.c8, .slice p.A9 g.counts.length p.c9, .slice p.A10 g.dats.length p.c10, .slice p.A11 g.cuss.length p.c11] 33)).alloc (.cells #[.slice none 0 0, .slice none 0 0, .slice none 0 0, .slice none 0 0, .slice none 0 0, .int .i64 0, .int .i64 0, .int .i64 0, .int .i64 0, .bool false] 38)).alloc (.cells #[.slice p.A0 g.types.length p.c0, .slice none 0 0, .slice none 0 0, .slice none 0 0, .slice none 0 0, .int .i64 0, .int .i64 0, .int .i64 (g.els.length : Int), .int .i64 (g.dats.length : Int), .bool (decide (0 < g.counts.length))] 38)) := (((Below.refl _ _).alloc (Nat.le_refl _) _).alloc (by simp) _).alloc (by simp; omega) _
  have hG0 : ∀ v, Below (w.heap.size + 1 + 1) (((w.alloc (.cells #[.slice p.A0 g.types.length p.c0, .slice p.A1 g.imps.length p.c1, .slice p.A2 g.funcs.length p.c2, .slice p.A3 g.tabs.length p.c3, .slice p.A4 g.mems.length p.c4, .slice p.A5 g.globs.length p.c5, .slice p.A6 g.expos.length p.c6, .slice p.A7 g.starts.length p.c7, .slice p.A8 g.els.length p.c8, .slice p.A9 g.counts.length p.c9, .slice p.A10 g.dats.length p.c10, .slice p.A11 g.cuss.length p.c11] 33)).alloc (.cells #[.slice none 0 0, .slice none 0 0, .slice none 0 0, .slice none 0 0, .slice none 0 0, .int .i64 0, .int .i64 0, .int .i64 0, .int .i64 0, .bool false] 38)).alloc (.cells #[.slice p.A0 g.types.length p.c0, .slice none 0 0, .slice none 0 0, .slice none 0 0, .slice none 0 0, .int .i64 0, .int .i64 0, .int .i64 (g.els.length : Int), .int .i64 (g.dats.length : Int), .bool (decide (0 < g.counts.length))] 38)) v → BoxG w.heap.size v g p := fun v hv => by
    have h := (hv.block w.heap.size (by omega)).trans hK0
    refine ⟨?_, ?_, ?_, ?_, ?_, ?_, ?_, ?_, ?_, ?_, ?_, ?_⟩ <;> rw [blk_cell h] <;> rfl
  have HRES : Hid (∀ v, Below (w.heap.size + 1 + 1) (((w.alloc (.cells #[.slice p.A0 g.types.length p.c0, .slice p.A1 g.imps.length p.c1, .slice p.A2 g.funcs.length p.c2, .slice p.A3 g.tabs.length p.c3, .slice p.A4 g.mems.length p.c4, .slice p.A5 g.globs.length p.c5, .slice p.A6 g.expos.length p.c6, .slice p.A7 g.starts.length p.c7, .slice p.A8 g.els.length p.c8, .slice p.A9 g.counts.length p.c9, .slice p.A10 g.dats.length p.c10, .slice p.A11 g.cuss.length p.c11] 33)).alloc (.cells #[.slice none 0 0, .slice none 0 0, .slice none 0 0, .slice none 0 0, .slice none 0 0, .int .i64 0, .int .i64 0, .int .i64 0, .int .i64 0, .bool false] 38)).alloc (.cells #[.slice p.A0 g.types.length p.c0, .slice none 0 0, .slice none 0 0, .slice none 0 0, .slice none 0 0, .int .i64 0, .int .i64 0, .int .i64 (g.els.length : Int), .int .i64 (g.dats.length : Int), .bool (decide (0 < g.counts.length))] 38)) v → v.heap[w.heap.size + 1]? = some (.cells #[.slice none 0 0, .slice none 0 0, .slice none 0 0, .slice none 0 0, .slice none 0 0, .int .i64 0, .int .i64 0, .int .i64 0, .int .i64 0, .bool false] 38 (0, 0))) := Lib.hid fun v hv => (hv.block _ (by omega)).trans hR0
  obtain ⟨L, okT, HF⟩ : ∃ (L : Nat) (okT : Nat → Prop), Hid (CS (((w.alloc (.cells #[.slice p.A0 g.types.length p.c0, .slice p.A1 g.imps.length p.c1, .slice p.A2 g.funcs.length p.c2, .slice p.A3 g.tabs.length p.c3, .slice p.A4 g.mems.length p.c4, .slice p.A5 g.globs.length p.c5, .slice p.A6 g.expos.length p.c6, .slice p.A7 g.starts.length p.c7, .slice p.A8 g.els.length p.c8, .slice p.A9 g.counts.length p.c9, .slice p.A10 g.dats.length p.c10, .slice p.A11 g.cuss.length p.c11] 33)).alloc (.cells #[.slice none 0 0, .slice none 0 0, .slice none 0 0, .slice none 0 0, .slice none 0 0, .int .i64 0, .int .i64 0, .int .i64 0, .int .i64 0, .bool false] 38)).alloc (.cells #[.slice p.A0 g.types.length p.c0, .slice none 0 0, .slice none 0 0, .slice none 0 0, .slice none 0 0, .int .i64 0, .int .i64 0, .int .i64 (g.els.length : Int), .int .i64 (g.dats.length : Int), .bool (decide (0 < g.counts.length))] 38)) L (w.heap.size + 1 + 1) okT ⟨p.A0, none, none, none, none, p.c0, 0, 0, 0, 0⟩ (gathH (gath0 g)) ∧ (∀ b, okT b → b < w.heap.size) ∧ w.heap.size + 1 + 1 < L) := by
    refine ⟨w.heap.size + 1 + 1 + 1, fun b => b < w.heap.size, Lib.hid ⟨⟨hM0, hl.l0.keep fun b hb hlt => ⟨hb0.block b hlt, hlt⟩, fun b hb => ⟨by omega, by omega⟩, by omega, by simp, own_nil _ _ _ _, own_nil _ _ _ _, own_nil _ _ _ _, own_nil _ _ _ _, fun b hb => by cases hb⟩, fun b hb => hb, by omega⟩⟩
  have HB := Lib.hid hb0
  have HG := Lib.hid hG0
  have HL := Lib.hid hl
  have HSM := Lib.hid hs
  have HSZ : Hid (w.heap.size + 1 + 1 < (((w.alloc (.cells #[.slice p.A0 g.types.length p.c0, .slice p.A1 g.imps.length p.c1, .slice p.A2 g.funcs.length p.c2, .slice p.A3 g.tabs.length p.c3, .slice p.A4 g.mems.length p.c4, .slice p.A5 g.globs.length p.c5, .slice p.A6 g.expos.length p.c6, .slice p.A7 g.starts.length p.c7, .slice p.A8 g.els.length p.c8, .slice p.A9 g.counts.length p.c9, .slice p.A10 g.dats.length p.c10, .slice p.A11 g.cuss.length p.c11] 33)).alloc (.cells #[.slice none 0 0, .slice none 0 0, .slice none 0 0, .slice none 0 0, .slice none 0 0, .int .i64 0, .int .i64 0, .int .i64 0, .int .i64 0, .bool false] 38)).alloc (.cells #[.slice p.A0 g.types.length p.c0, .slice none 0 0, .slice none 0 0, .slice none 0 0, .slice none 0 0, .int .i64 0, .int .i64 0, .int .i64 (g.els.length : Int), .int .i64 (g.dats.length : Int), .bool (decide (0 < g.counts.length))] 38)).heap.size) := Lib.hid (by simp)
  clear hM0 hR0 hb0 hG0 hl hs hK0
  go_enter Try.func10, Try.ntmps10
  go_wp2_with fail
  generalize (((w.alloc (.cells #[.slice p.A0 g.types.length p.c0, .slice p.A1 g.imps.length p.c1, .slice p.A2 g.funcs.length p.c2, .slice p.A3 g.tabs.length p.c3, .slice p.A4 g.mems.length p.c4, .slice p.A5 g.globs.length p.c5, .slice p.A6 g.expos.length p.c6, .slice p.A7 g.starts.length p.c7, .slice p.A8 g.els.length p.c8, .slice p.A9 g.counts.length p.c9, .slice p.A10 g.dats.length p.c10, .slice p.A11 g.cuss.length p.c11] 33)).alloc (.cells #[.slice none 0 0, .slice none 0 0, .slice none 0 0, .slice none 0 0, .slice none 0 0, .int .i64 0, .int .i64 0, .int .i64 0, .int .i64 0, .bool false] 38)).alloc (.cells #[.slice p.A0 g.types.length p.c0, .slice none 0 0, .slice none 0 0, .slice none 0 0, .slice none 0 0, .int .i64 0, .int .i64 0, .int .i64 (g.els.length : Int), .int .i64 (g.dats.length : Int), .bool (decide (0 < g.counts.length))] 38)) = W0 at *
  generalize hp0 : (⟨p.A0, none, none, none, none, p.c0, 0, 0, 0, 0⟩ : Plc) = p0 at *
  clear hp0
  have HOK := Lib.hid HF.out.2
  go_loopw [6] (fun i wr => ∃ (j : Nat) (p1 : Plc), i = .int .i64 (j : Int) ∧ j ≤ g.imps.length ∧ Hid (CS wr L (w.heap.size + 1 + 1) okT p1 (gathH ((g.imps.take j).foldl addI (gath0 g))) ∧ Below (w.heap.size + 1 + 1) W0 wr)) (fun i _ => g.imps.length - (intOf i).toNat)
  case atStart => exact ⟨0, p0, rfl, Nat.zero_le _, Lib.hid ⟨HF.out.1, Below.refl _ _⟩⟩
  case round =>
    clear HF
    obtain ⟨j, p1, rfl, hj, HI⟩ := hrel
    have y1 := (HG.out _ HI.out.2).2.1
    have hn1 : (g.imps.length : Int) ≤ 100 := by have := HSM.out.imps; omega
    by_cases hlt : j < g.imps.length
    · have hlti : (j : Int) < (g.imps.length : Int) := by omega
      have hw : Below w.heap.size w wr := HB.out.trans (HI.out.2.mono (by omega))
      obtain ⟨b, off, hA, h1⟩ := sm_imp HL.out.l1 j hlt
      obtain ⟨q0, q1, q2, q3, q4, q5, q6, q7⟩ := h1 wr hw
      have HE := Lib.hid (fold_take g j hlt (gath0 g))
      rw [hA] at y1
      clear h1 hA hw
      have HFW : Hid (Few ((g.imps.take j).foldl addI (gath0 g)) 1000) := Lib.hid (few_mono (fold_few (g.imps.take j) (gath0 g) 0 ⟨Nat.le_refl _, Nat.le_refl _, Nat.le_refl _, Nat.le_refl _⟩) (by have := HSM.out.imps; rw [List.length_take]; omega))
      have HLM : Hid (w.heap.size + 1 + 1 < wr.heap.size) := Lib.hid (by have := HI.out.1.lt; have := HI.out.1.hL; omega)
      generalize g.imps[j] = x at *
      obtain ⟨md, nm, kind, ty, ⟨mn, cp, mx⟩, mu⟩ := x
      generalize (g.imps.take j).foldl addI (gath0 g) = c at HI HE HFW
      by_cases h0 : kind = 0
      · subst h0
        have HBA : Hid (Below wr.heap.size wr ((wr.alloc (.cells #[.string md, .string nm, .int .i64 0, .int .i64 ty, .int .i64 mn, .bool cp, .int .i64 mx, .bool mu] 62)).alloc (.cells #[.int .i64 ty] 3)) ∧ Below wr.heap.size wr (wr.alloc (.cells #[.string md, .string nm, .int .i64 0, .int .i64 ty, .int .i64 mn, .bool cp, .int .i64 mx, .bool mu] 62))) := Lib.hid ⟨((Below.refl _ _).alloc (Nat.le_refl _) _).alloc (by simp) _, (Below.refl _ _).alloc (Nat.le_refl _) _⟩
        have HXB : Hid (((wr.alloc (.cells #[.string md, .string nm, .int .i64 0, .int .i64 ty, .int .i64 mn, .bool cp, .int .i64 mx, .bool mu] 62)).alloc (.cells #[.int .i64 ty] 3)).heap[wr.heap.size]? = some (.cells #[.string md, .string nm, .int .i64 0, .int .i64 ty, .int .i64 mn, .bool cp, .int .i64 mx, .bool mu] 62 (0, 0))) := Lib.hid ((((Below.refl _ _).alloc (Nat.le_refl _) _).block _ (by simp)).trans (heap_alloc_new wr _))
        have HCA : Hid (CS ((wr.alloc (.cells #[.string md, .string nm, .int .i64 0, .int .i64 ty, .int .i64 mn, .bool cp, .int .i64 mx, .bool mu] 62)).alloc (.cells #[.int .i64 ty] 3)) L (w.heap.size + 1 + 1) okT p1 (gathH c)) := Lib.hid (HI.out.1.below HBA.out.1)
        have HCX : Hid (CS (wr.alloc (.cells #[.string md, .string nm, .int .i64 0, .int .i64 ty, .int .i64 mn, .bool cp, .int .i64 mx, .bool mu] 62)) L (w.heap.size + 1 + 1) okT p1 (gathH c)) := Lib.hid (HI.out.1.below HBA.out.2)
        have HLN : Hid (c.funcs.length ≤ 1000) := Lib.hid HFW.out.1
        have hnn : (c.funcs.length : Int) ≤ 1000 := by have := HLN.out; omega
        have x1 : (wr.alloc (.cells #[.string md, .string nm, .int .i64 0, .int .i64 ty, .int .i64 mn, .bool cp, .int .i64 mx, .bool mu] 62)).cell? ⟨w.heap.size + 1 + 1, 1, none⟩ = some (.slice p1.A1 c.funcs.length p1.d1) := (HCX.out.cell 1).trans rfl
        have HGN : Hid (gathH (addI c ⟨md, nm, 0, ty, (mn, cp, mx), mu⟩) = { gathH c with funcs := c.funcs ++ [ty], hosts := (c.funcs.length : Int) + 1 }) := Lib.hid (by simp [gathH, addI])
        have HOW : Hid (∀ b, (Value.slice p1.A1 c.funcs.length p1.d1).ownBlock = some b → b < wr.heap.size) := Lib.hid fun b hb => (rowLt HI.out.1.o1 b hb).2
        go_upto_region 9 with (at_builtin; refine app_list tyI rfl (.tmp 39) (.tmp 42) rfl (A := p1.A1) (n := c.funcs.length) (c := p1.d1) rfl HCA.out.o1 (X := some ⟨wr.heap.size + 1, 0, none⟩) (m := 1) (cx := 1) rfl (src_at _ #[.int .i64 ty] 3 _ rfl (by simp)) (by simp [Value.oneCell']) (by have := HLN.out; omega) HCA.out.hL ?_; intro A3 d3 W2 ho2 hg2 hob2; have HP := Lib.hid (HCA.out.push1 (ys := [ty]) rfl (by simpa [iv, gathH] using ho2) hg2 hob2); have HX2 : Hid (W2.heap[wr.heap.size]? = some (.cells #[.string md, .string nm, .int .i64 0, .int .i64 ty, .int .i64 mn, .bool cp, .int .i64 mx, .bool mu] 62 (0, 0))) := Lib.hid ((hg2.block _ (by simp; omega) (fun e => by have := HOW.out _ e.symm; omega)).trans HXB.out); clear ho2 hg2 hob2 x1; have x1 : W2.cell? ⟨w.heap.size + 1 + 1, 1, none⟩ = some (.slice p1.A1 c.funcs.length p1.d1) := (HP.out.cell).trans rfl; have z1 := HP.out.free; obtain ⟨p3, hp3, _, _⟩ := HP.out.st; have HP3 := Lib.hid hp3; clear hp3; have x5 : (W2.setCell ⟨w.heap.size + 1 + 1, 1, none⟩ (.slice A3 (c.funcs.length + 1) d3)).cell? ⟨w.heap.size + 1 + 1, 5, none⟩ = some (.int .i64 (c.funcs.length : Int)) := (HP3.out.cell 5).trans rfl; have z5 : W2.frozen? ⟨w.heap.size + 1 + 1, 5, none⟩ = false := (by have hz := HP3.out.free 5; simpa using hz))
        have HN : Hid (CS ((W2.setCell ⟨w.heap.size + 1 + 1, 1, none⟩ (.slice A3 (c.funcs.length + 1) d3)).setCell ⟨w.heap.size + 1 + 1, 5, none⟩ (.int .i64 ((c.funcs.length : Int) + 1))) L (w.heap.size + 1 + 1) okT p3 (gathH ((g.imps.take (j + 1)).foldl addI (gath0 g))) ∧ Below (w.heap.size + 1 + 1) W0 ((W2.setCell ⟨w.heap.size + 1 + 1, 1, none⟩ (.slice A3 (c.funcs.length + 1) d3)).setCell ⟨w.heap.size + 1 + 1, 5, none⟩ (.int .i64 ((c.funcs.length : Int) + 1)))) := Lib.hid (by
          rw [HE.out, HGN.out]
          have hb : Below (w.heap.size + 1 + 1) W0 (W2.setCell ⟨w.heap.size + 1 + 1, 1, none⟩ (.slice A3 (c.funcs.length + 1) d3)) := HI.out.2.trans ((HBA.out.1.mono (Nat.le_of_lt HLM.out)).trans HP.out.below)
          exact ⟨(HP3.out.host1 _).1, hb.trans (HP3.out.host1 _).2⟩)
        have HXF : Hid (((W2.setCell ⟨w.heap.size + 1 + 1, 1, none⟩ (.slice A3 (c.funcs.length + 1) d3)).setCell ⟨w.heap.size + 1 + 1, 5, none⟩ (.int .i64 ((c.funcs.length : Int) + 1))).heap[wr.heap.size]? = some (.cells #[.string md, .string nm, .int .i64 0, .int .i64 ty, .int .i64 mn, .bool cp, .int .i64 mx, .bool mu] 62 (0, 0))) := Lib.hid (by
          rw [far_set (show w.heap.size + 1 + 1 ≠ wr.heap.size by have := HLM.out; omega)]
          rw [far_set (show w.heap.size + 1 + 1 ≠ wr.heap.size by have := HLM.out; omega)]
          exact HX2.out)
        have k2 : ((W2.setCell ⟨w.heap.size + 1 + 1, 1, none⟩ (.slice A3 (c.funcs.length + 1) d3)).setCell ⟨w.heap.size + 1 + 1, 5, none⟩ (.int .i64 ((c.funcs.length : Int) + 1))).cell? ⟨wr.heap.size, 2, none⟩ = some (.int .i64 0) := (blk_cell HXF.out 2).trans rfl
        clear HP HP3 HX2 HXB HCA HCX HBA HOW HGN x1 z1 x5 z5 y1 q0 q1 q2 q3 q4 q5 q6 q7 HI
        generalize ((W2.setCell ⟨w.heap.size + 1 + 1, 1, none⟩ (.slice A3 (c.funcs.length + 1) d3)).setCell ⟨w.heap.size + 1 + 1, 5, none⟩ (.int .i64 ((c.funcs.length : Int) + 1))) = w5 at *
        go_wp2
        go_roundw
        case rel => exact ⟨j + 1, p3, by go_num, by omega, HN⟩
        case measure => simp [intOf]; omega
      by_cases h1 : kind = 1
      · subst h1
        have HBA : Hid (Below wr.heap.size wr ((wr.alloc (.cells #[.string md, .string nm, .int .i64 1, .int .i64 ty, .int .i64 mn, .bool cp, .int .i64 mx, .bool mu] 62)).alloc (.cells #[.int .i64 mn, .bool cp, .int .i64 mx] 60)) ∧ Below wr.heap.size wr (wr.alloc (.cells #[.string md, .string nm, .int .i64 1, .int .i64 ty, .int .i64 mn, .bool cp, .int .i64 mx, .bool mu] 62))) := Lib.hid ⟨((Below.refl _ _).alloc (Nat.le_refl _) _).alloc (by simp) _, (Below.refl _ _).alloc (Nat.le_refl _) _⟩
        have HXB : Hid (((wr.alloc (.cells #[.string md, .string nm, .int .i64 1, .int .i64 ty, .int .i64 mn, .bool cp, .int .i64 mx, .bool mu] 62)).alloc (.cells #[.int .i64 mn, .bool cp, .int .i64 mx] 60)).heap[wr.heap.size]? = some (.cells #[.string md, .string nm, .int .i64 1, .int .i64 ty, .int .i64 mn, .bool cp, .int .i64 mx, .bool mu] 62 (0, 0))) := Lib.hid ((((Below.refl _ _).alloc (Nat.le_refl _) _).block _ (by simp)).trans (heap_alloc_new wr _))
        have HCA : Hid (CS ((wr.alloc (.cells #[.string md, .string nm, .int .i64 1, .int .i64 ty, .int .i64 mn, .bool cp, .int .i64 mx, .bool mu] 62)).alloc (.cells #[.int .i64 mn, .bool cp, .int .i64 mx] 60)) L (w.heap.size + 1 + 1) okT p1 (gathH c)) := Lib.hid (HI.out.1.below HBA.out.1)
        have HCX : Hid (CS (wr.alloc (.cells #[.string md, .string nm, .int .i64 1, .int .i64 ty, .int .i64 mn, .bool cp, .int .i64 mx, .bool mu] 62)) L (w.heap.size + 1 + 1) okT p1 (gathH c)) := Lib.hid (HI.out.1.below HBA.out.2)
        have HLN : Hid (c.tabs.length ≤ 1000) := Lib.hid HFW.out.2.2.1
        have hnn : (c.tabs.length : Int) ≤ 1000 := by have := HLN.out; omega
        have x1 : (wr.alloc (.cells #[.string md, .string nm, .int .i64 1, .int .i64 ty, .int .i64 mn, .bool cp, .int .i64 mx, .bool mu] 62)).cell? ⟨w.heap.size + 1 + 1, 3, none⟩ = some (.slice p1.A3 c.tabs.length p1.d3) := (HCX.out.cell 3).trans rfl
        have HGN : Hid (gathH (addI c ⟨md, nm, 1, ty, (mn, cp, mx), mu⟩) = { gathH c with tabs := c.tabs ++ [(mn, cp, mx)] }) := Lib.hid (by simp [gathH, addI])
        have HOW : Hid (∀ b, (Value.slice p1.A3 c.tabs.length p1.d3).ownBlock = some b → b < wr.heap.size) := Lib.hid fun b hb => (rowLt HI.out.1.o3 b hb).2
        go_upto_region 11 with (at_builtin; refine app_list tyL rfl (.tmp 53) (.tmp 56) rfl (A := p1.A3) (n := c.tabs.length) (c := p1.d3) rfl HCA.out.o3 (X := some ⟨wr.heap.size + 1, 0, none⟩) (m := 1) (cx := 1) rfl (src_at _ #[.int .i64 mn, .bool cp, .int .i64 mx] 60 _ rfl (by simp)) (by simp [Value.oneCell']) (by have := HLN.out; omega) HCA.out.hL ?_; intro A3 d3 W2 ho2 hg2 hob2; have HP := Lib.hid (HCA.out.push3 (ys := [(mn, cp, mx)]) rfl (by simpa [lv, gathH] using ho2) hg2 hob2); have HX2 : Hid (W2.heap[wr.heap.size]? = some (.cells #[.string md, .string nm, .int .i64 1, .int .i64 ty, .int .i64 mn, .bool cp, .int .i64 mx, .bool mu] 62 (0, 0))) := Lib.hid ((hg2.block _ (by simp; omega) (fun e => by have := HOW.out _ e.symm; omega)).trans HXB.out); clear ho2 hg2 hob2 x1; have x1 : W2.cell? ⟨w.heap.size + 1 + 1, 3, none⟩ = some (.slice p1.A3 c.tabs.length p1.d3) := (HP.out.cell).trans rfl; have z1 := HP.out.free; obtain ⟨p3, hp3, _, _⟩ := HP.out.st; have HP3 := Lib.hid hp3; clear hp3)
        have HN : Hid (CS (W2.setCell ⟨w.heap.size + 1 + 1, 3, none⟩ (.slice A3 (c.tabs.length + 1) d3)) L (w.heap.size + 1 + 1) okT p3 (gathH ((g.imps.take (j + 1)).foldl addI (gath0 g))) ∧ Below (w.heap.size + 1 + 1) W0 (W2.setCell ⟨w.heap.size + 1 + 1, 3, none⟩ (.slice A3 (c.tabs.length + 1) d3))) := Lib.hid (by
          rw [HE.out, HGN.out]
          have hb : Below (w.heap.size + 1 + 1) W0 (W2.setCell ⟨w.heap.size + 1 + 1, 3, none⟩ (.slice A3 (c.tabs.length + 1) d3)) := HI.out.2.trans ((HBA.out.1.mono (Nat.le_of_lt HLM.out)).trans HP.out.below)
          exact ⟨HP3.out, hb⟩)
        have HXF : Hid ((W2.setCell ⟨w.heap.size + 1 + 1, 3, none⟩ (.slice A3 (c.tabs.length + 1) d3)).heap[wr.heap.size]? = some (.cells #[.string md, .string nm, .int .i64 1, .int .i64 ty, .int .i64 mn, .bool cp, .int .i64 mx, .bool mu] 62 (0, 0))) := Lib.hid (by
          skip
          rw [far_set (show w.heap.size + 1 + 1 ≠ wr.heap.size by have := HLM.out; omega)]
          exact HX2.out)
        have k2 : (W2.setCell ⟨w.heap.size + 1 + 1, 3, none⟩ (.slice A3 (c.tabs.length + 1) d3)).cell? ⟨wr.heap.size, 2, none⟩ = some (.int .i64 1) := (blk_cell HXF.out 2).trans rfl
        clear HP HP3 HX2 HXB HCA HCX HBA HOW HGN x1 z1 y1 q0 q1 q2 q3 q4 q5 q6 q7 HI
        generalize (W2.setCell ⟨w.heap.size + 1 + 1, 3, none⟩ (.slice A3 (c.tabs.length + 1) d3)) = w5 at *
        go_wp2
        go_roundw
        case rel => exact ⟨j + 1, p3, by go_num, by omega, HN⟩
        case measure => simp [intOf]; omega
      by_cases h2 : kind = 2
      · subst h2
        have HBA : Hid (Below wr.heap.size wr ((wr.alloc (.cells #[.string md, .string nm, .int .i64 2, .int .i64 ty, .int .i64 mn, .bool cp, .int .i64 mx, .bool mu] 62)).alloc (.cells #[.int .i64 mn, .bool cp, .int .i64 mx] 60)) ∧ Below wr.heap.size wr (wr.alloc (.cells #[.string md, .string nm, .int .i64 2, .int .i64 ty, .int .i64 mn, .bool cp, .int .i64 mx, .bool mu] 62))) := Lib.hid ⟨((Below.refl _ _).alloc (Nat.le_refl _) _).alloc (by simp) _, (Below.refl _ _).alloc (Nat.le_refl _) _⟩
        have HXB : Hid (((wr.alloc (.cells #[.string md, .string nm, .int .i64 2, .int .i64 ty, .int .i64 mn, .bool cp, .int .i64 mx, .bool mu] 62)).alloc (.cells #[.int .i64 mn, .bool cp, .int .i64 mx] 60)).heap[wr.heap.size]? = some (.cells #[.string md, .string nm, .int .i64 2, .int .i64 ty, .int .i64 mn, .bool cp, .int .i64 mx, .bool mu] 62 (0, 0))) := Lib.hid ((((Below.refl _ _).alloc (Nat.le_refl _) _).block _ (by simp)).trans (heap_alloc_new wr _))
        have HCA : Hid (CS ((wr.alloc (.cells #[.string md, .string nm, .int .i64 2, .int .i64 ty, .int .i64 mn, .bool cp, .int .i64 mx, .bool mu] 62)).alloc (.cells #[.int .i64 mn, .bool cp, .int .i64 mx] 60)) L (w.heap.size + 1 + 1) okT p1 (gathH c)) := Lib.hid (HI.out.1.below HBA.out.1)
        have HCX : Hid (CS (wr.alloc (.cells #[.string md, .string nm, .int .i64 2, .int .i64 ty, .int .i64 mn, .bool cp, .int .i64 mx, .bool mu] 62)) L (w.heap.size + 1 + 1) okT p1 (gathH c)) := Lib.hid (HI.out.1.below HBA.out.2)
        have HLN : Hid (c.mems.length ≤ 1000) := Lib.hid HFW.out.2.2.2
        have hnn : (c.mems.length : Int) ≤ 1000 := by have := HLN.out; omega
        have x1 : (wr.alloc (.cells #[.string md, .string nm, .int .i64 2, .int .i64 ty, .int .i64 mn, .bool cp, .int .i64 mx, .bool mu] 62)).cell? ⟨w.heap.size + 1 + 1, 4, none⟩ = some (.slice p1.A4 c.mems.length p1.d4) := (HCX.out.cell 4).trans rfl
        have HGN : Hid (gathH (addI c ⟨md, nm, 2, ty, (mn, cp, mx), mu⟩) = { gathH c with mems := c.mems ++ [(mn, cp, mx)] }) := Lib.hid (by simp [gathH, addI])
        have HOW : Hid (∀ b, (Value.slice p1.A4 c.mems.length p1.d4).ownBlock = some b → b < wr.heap.size) := Lib.hid fun b hb => (rowLt HI.out.1.o4 b hb).2
        go_upto_region 13 with (at_builtin; refine app_list tyL rfl (.tmp 63) (.tmp 66) rfl (A := p1.A4) (n := c.mems.length) (c := p1.d4) rfl HCA.out.o4 (X := some ⟨wr.heap.size + 1, 0, none⟩) (m := 1) (cx := 1) rfl (src_at _ #[.int .i64 mn, .bool cp, .int .i64 mx] 60 _ rfl (by simp)) (by simp [Value.oneCell']) (by have := HLN.out; omega) HCA.out.hL ?_; intro A3 d3 W2 ho2 hg2 hob2; have HP := Lib.hid (HCA.out.push4 (ys := [(mn, cp, mx)]) rfl (by simpa [lv, gathH] using ho2) hg2 hob2); have HX2 : Hid (W2.heap[wr.heap.size]? = some (.cells #[.string md, .string nm, .int .i64 2, .int .i64 ty, .int .i64 mn, .bool cp, .int .i64 mx, .bool mu] 62 (0, 0))) := Lib.hid ((hg2.block _ (by simp; omega) (fun e => by have := HOW.out _ e.symm; omega)).trans HXB.out); clear ho2 hg2 hob2 x1; have x1 : W2.cell? ⟨w.heap.size + 1 + 1, 4, none⟩ = some (.slice p1.A4 c.mems.length p1.d4) := (HP.out.cell).trans rfl; have z1 := HP.out.free; obtain ⟨p3, hp3, _, _⟩ := HP.out.st; have HP3 := Lib.hid hp3; clear hp3)
        have HN : Hid (CS (W2.setCell ⟨w.heap.size + 1 + 1, 4, none⟩ (.slice A3 (c.mems.length + 1) d3)) L (w.heap.size + 1 + 1) okT p3 (gathH ((g.imps.take (j + 1)).foldl addI (gath0 g))) ∧ Below (w.heap.size + 1 + 1) W0 (W2.setCell ⟨w.heap.size + 1 + 1, 4, none⟩ (.slice A3 (c.mems.length + 1) d3))) := Lib.hid (by
          rw [HE.out, HGN.out]
          have hb : Below (w.heap.size + 1 + 1) W0 (W2.setCell ⟨w.heap.size + 1 + 1, 4, none⟩ (.slice A3 (c.mems.length + 1) d3)) := HI.out.2.trans ((HBA.out.1.mono (Nat.le_of_lt HLM.out)).trans HP.out.below)
          exact ⟨HP3.out, hb⟩)
        have HXF : Hid ((W2.setCell ⟨w.heap.size + 1 + 1, 4, none⟩ (.slice A3 (c.mems.length + 1) d3)).heap[wr.heap.size]? = some (.cells #[.string md, .string nm, .int .i64 2, .int .i64 ty, .int .i64 mn, .bool cp, .int .i64 mx, .bool mu] 62 (0, 0))) := Lib.hid (by
          skip
          rw [far_set (show w.heap.size + 1 + 1 ≠ wr.heap.size by have := HLM.out; omega)]
          exact HX2.out)
        have k2 : (W2.setCell ⟨w.heap.size + 1 + 1, 4, none⟩ (.slice A3 (c.mems.length + 1) d3)).cell? ⟨wr.heap.size, 2, none⟩ = some (.int .i64 2) := (blk_cell HXF.out 2).trans rfl
        clear HP HP3 HX2 HXB HCA HCX HBA HOW HGN x1 z1 y1 q0 q1 q2 q3 q4 q5 q6 q7 HI
        generalize (W2.setCell ⟨w.heap.size + 1 + 1, 4, none⟩ (.slice A3 (c.mems.length + 1) d3)) = w5 at *
        go_wp2
        go_roundw
        case rel => exact ⟨j + 1, p3, by go_num, by omega, HN⟩
        case measure => simp [intOf]; omega
      by_cases h3 : kind = 3
      · subst h3
        have HBA : Hid (Below wr.heap.size wr ((wr.alloc (.cells #[.string md, .string nm, .int .i64 3, .int .i64 ty, .int .i64 mn, .bool cp, .int .i64 mx, .bool mu] 62)).alloc (.cells #[.int .i64 ty, .bool mu] 79)) ∧ Below wr.heap.size wr (wr.alloc (.cells #[.string md, .string nm, .int .i64 3, .int .i64 ty, .int .i64 mn, .bool cp, .int .i64 mx, .bool mu] 62))) := Lib.hid ⟨((Below.refl _ _).alloc (Nat.le_refl _) _).alloc (by simp) _, (Below.refl _ _).alloc (Nat.le_refl _) _⟩
        have HXB : Hid (((wr.alloc (.cells #[.string md, .string nm, .int .i64 3, .int .i64 ty, .int .i64 mn, .bool cp, .int .i64 mx, .bool mu] 62)).alloc (.cells #[.int .i64 ty, .bool mu] 79)).heap[wr.heap.size]? = some (.cells #[.string md, .string nm, .int .i64 3, .int .i64 ty, .int .i64 mn, .bool cp, .int .i64 mx, .bool mu] 62 (0, 0))) := Lib.hid ((((Below.refl _ _).alloc (Nat.le_refl _) _).block _ (by simp)).trans (heap_alloc_new wr _))
        have HCA : Hid (CS ((wr.alloc (.cells #[.string md, .string nm, .int .i64 3, .int .i64 ty, .int .i64 mn, .bool cp, .int .i64 mx, .bool mu] 62)).alloc (.cells #[.int .i64 ty, .bool mu] 79)) L (w.heap.size + 1 + 1) okT p1 (gathH c)) := Lib.hid (HI.out.1.below HBA.out.1)
        have HCX : Hid (CS (wr.alloc (.cells #[.string md, .string nm, .int .i64 3, .int .i64 ty, .int .i64 mn, .bool cp, .int .i64 mx, .bool mu] 62)) L (w.heap.size + 1 + 1) okT p1 (gathH c)) := Lib.hid (HI.out.1.below HBA.out.2)
        have HLN : Hid (c.globs.length ≤ 1000) := Lib.hid HFW.out.2.1
        have hnn : (c.globs.length : Int) ≤ 1000 := by have := HLN.out; omega
        have x1 : (wr.alloc (.cells #[.string md, .string nm, .int .i64 3, .int .i64 ty, .int .i64 mn, .bool cp, .int .i64 mx, .bool mu] 62)).cell? ⟨w.heap.size + 1 + 1, 2, none⟩ = some (.slice p1.A2 c.globs.length p1.d2) := (HCX.out.cell 2).trans rfl
        have HGN : Hid (gathH (addI c ⟨md, nm, 3, ty, (mn, cp, mx), mu⟩) = { gathH c with globs := c.globs ++ [(ty, mu)], vars := (c.globs.length : Int) + 1 }) := Lib.hid (by simp [gathH, addI])
        have HOW : Hid (∀ b, (Value.slice p1.A2 c.globs.length p1.d2).ownBlock = some b → b < wr.heap.size) := Lib.hid fun b hb => (rowLt HI.out.1.o2 b hb).2
        go_upto_region 4 with (at_builtin; refine app_list tyV rfl (.tmp 73) (.tmp 79) rfl (A := p1.A2) (n := c.globs.length) (c := p1.d2) rfl HCA.out.o2 (X := some ⟨wr.heap.size + 1, 0, none⟩) (m := 1) (cx := 1) rfl (src_at _ #[.int .i64 ty, .bool mu] 79 _ rfl (by simp)) (by simp [Value.oneCell']) (by have := HLN.out; omega) HCA.out.hL ?_; intro A3 d3 W2 ho2 hg2 hob2; have HP := Lib.hid (HCA.out.push2 (ys := [(ty, mu)]) rfl (by simpa [vv, gathH] using ho2) hg2 hob2); have HX2 : Hid (W2.heap[wr.heap.size]? = some (.cells #[.string md, .string nm, .int .i64 3, .int .i64 ty, .int .i64 mn, .bool cp, .int .i64 mx, .bool mu] 62 (0, 0))) := Lib.hid ((hg2.block _ (by simp; omega) (fun e => by have := HOW.out _ e.symm; omega)).trans HXB.out); clear ho2 hg2 hob2 x1; have x1 : W2.cell? ⟨w.heap.size + 1 + 1, 2, none⟩ = some (.slice p1.A2 c.globs.length p1.d2) := (HP.out.cell).trans rfl; have z1 := HP.out.free; obtain ⟨p3, hp3, _, _⟩ := HP.out.st; have HP3 := Lib.hid hp3; clear hp3; have x5 : (W2.setCell ⟨w.heap.size + 1 + 1, 2, none⟩ (.slice A3 (c.globs.length + 1) d3)).cell? ⟨w.heap.size + 1 + 1, 6, none⟩ = some (.int .i64 (c.globs.length : Int)) := (HP3.out.cell 6).trans rfl; have z5 : W2.frozen? ⟨w.heap.size + 1 + 1, 6, none⟩ = false := (by have hz := HP3.out.free 6; simpa using hz))
        have HN : Hid (CS ((W2.setCell ⟨w.heap.size + 1 + 1, 2, none⟩ (.slice A3 (c.globs.length + 1) d3)).setCell ⟨w.heap.size + 1 + 1, 6, none⟩ (.int .i64 ((c.globs.length : Int) + 1))) L (w.heap.size + 1 + 1) okT p3 (gathH ((g.imps.take (j + 1)).foldl addI (gath0 g))) ∧ Below (w.heap.size + 1 + 1) W0 ((W2.setCell ⟨w.heap.size + 1 + 1, 2, none⟩ (.slice A3 (c.globs.length + 1) d3)).setCell ⟨w.heap.size + 1 + 1, 6, none⟩ (.int .i64 ((c.globs.length : Int) + 1)))) := Lib.hid (by
          rw [HE.out, HGN.out]
          have hb : Below (w.heap.size + 1 + 1) W0 (W2.setCell ⟨w.heap.size + 1 + 1, 2, none⟩ (.slice A3 (c.globs.length + 1) d3)) := HI.out.2.trans ((HBA.out.1.mono (Nat.le_of_lt HLM.out)).trans HP.out.below)
          exact ⟨(HP3.out.var1 _).1, hb.trans (HP3.out.var1 _).2⟩)
        have HXF : Hid (((W2.setCell ⟨w.heap.size + 1 + 1, 2, none⟩ (.slice A3 (c.globs.length + 1) d3)).setCell ⟨w.heap.size + 1 + 1, 6, none⟩ (.int .i64 ((c.globs.length : Int) + 1))).heap[wr.heap.size]? = some (.cells #[.string md, .string nm, .int .i64 3, .int .i64 ty, .int .i64 mn, .bool cp, .int .i64 mx, .bool mu] 62 (0, 0))) := Lib.hid (by
          rw [far_set (show w.heap.size + 1 + 1 ≠ wr.heap.size by have := HLM.out; omega)]
          rw [far_set (show w.heap.size + 1 + 1 ≠ wr.heap.size by have := HLM.out; omega)]
          exact HX2.out)
        have k2 : ((W2.setCell ⟨w.heap.size + 1 + 1, 2, none⟩ (.slice A3 (c.globs.length + 1) d3)).setCell ⟨w.heap.size + 1 + 1, 6, none⟩ (.int .i64 ((c.globs.length : Int) + 1))).cell? ⟨wr.heap.size, 2, none⟩ = some (.int .i64 3) := (blk_cell HXF.out 2).trans rfl
        clear HP HP3 HX2 HXB HCA HCX HBA HOW HGN x1 z1 x5 z5 y1 q0 q1 q2 q3 q4 q5 q6 q7 HI
        generalize ((W2.setCell ⟨w.heap.size + 1 + 1, 2, none⟩ (.slice A3 (c.globs.length + 1) d3)).setCell ⟨w.heap.size + 1 + 1, 6, none⟩ (.int .i64 ((c.globs.length : Int) + 1))) = w5 at *
        go_wp2
        go_roundw
        case rel => exact ⟨j + 1, p3, by go_num, by omega, HN⟩
        case measure => simp [intOf]; omega
      have HN : Hid (CS (wr.alloc (.cells #[.string md, .string nm, .int .i64 kind, .int .i64 ty, .int .i64 mn, .bool cp, .int .i64 mx, .bool mu] 62)) L (w.heap.size + 1 + 1) okT p1 (gathH ((g.imps.take (j + 1)).foldl addI (gath0 g))) ∧ Below (w.heap.size + 1 + 1) W0 (wr.alloc (.cells #[.string md, .string nm, .int .i64 kind, .int .i64 ty, .int .i64 mn, .bool cp, .int .i64 mx, .bool mu] 62))) := Lib.hid (by
        have ha : addI c ⟨md, nm, kind, ty, (mn, cp, mx), mu⟩ = c := by simp [addI, h0, h1, h2, h3]
        have hb : Below wr.heap.size wr (wr.alloc (.cells #[.string md, .string nm, .int .i64 kind, .int .i64 ty, .int .i64 mn, .bool cp, .int .i64 mx, .bool mu] 62)) := (Below.refl _ _).alloc (Nat.le_refl _) _
        rw [HE.out, ha]
        exact ⟨HI.out.1.below hb, HI.out.2.trans (hb.mono (Nat.le_of_lt HLM.out))⟩)
      clear HI
      go_wp2
      go_roundw
      case rel => exact ⟨j + 1, p1, by go_num, by omega, HN⟩
      case measure => simp [intOf]; omega
    · have hlti : ¬ (j : Int) < (g.imps.length : Int) := by omega
      rename World => w3
      have HC : Hid (CS w3 L (w.heap.size + 1 + 1) okT p1 (gathH (gathI g))) := Lib.hid (by have := HI.out.1; rwa [List.take_of_length_le (by omega)] at this)
      have HW := Lib.hid HI.out.2
      have HFH : Hid (Few (gathH (gathI g)) 100) := Lib.hid (few_mono (fold_few g.imps (gath0 g) 0 ⟨Nat.le_refl _, Nat.le_refl _, Nat.le_refl _, Nat.le_refl _⟩) (by have := HSM.out.imps; omega))
      have HEQ : Hid (gathR g imp = if imp then gathM g (gathT g (gathF g (gathH (gathI g)))) else gathG g (gathM g (gathT g (gathF g (gathH (gathI g)))))) := Lib.hid rfl
      go_wp2_with fail
      clear HI hj hlt y1 hn1 hlti
      generalize gathH (gathI g) = c3 at *
      go_loopw [8] (fun i wr => ∃ (j : Nat) (p2 : Plc), i = .int .i64 (j : Int) ∧ j ≤ g.funcs.length ∧ Hid (CS wr L (w.heap.size + 1 + 1) okT p2 { c3 with funcs := c3.funcs ++ (g.funcs.take j).map (fun x : GFn => x.ty) } ∧ Below (w.heap.size + 1 + 1) W0 wr)) (fun i _ => g.funcs.length - (intOf i).toNat)
      case atStart => exact ⟨0, p1, rfl, Nat.zero_le _, Lib.hid ⟨by simpa using HC.out, HW.out⟩⟩
      case round =>
        clear HC HW
        obtain ⟨j, p2, rfl, hj, HI⟩ := hrel
        have y2 := (HG.out _ HI.out.2).2.2.1
        have hn1 : (g.funcs.length : Int) ≤ 100 := by have := HSM.out.funcs; omega
        by_cases hlt : j < g.funcs.length
        · have hlti : (j : Int) < (g.funcs.length : Int) := by omega
          have hw : Below w.heap.size w wr := HB.out.trans (HI.out.2.mono (by omega))
          obtain ⟨b, off, A1, c1, A2, c2, hA, h1⟩ := sm_fn HL.out.l2 j hlt
          have HH := Lib.hid h1
          have HE : Hid ({ c3 with funcs := c3.funcs ++ (g.funcs.take (j + 1)).map (fun x : GFn => x.ty) } = { ({ c3 with funcs := c3.funcs ++ (g.funcs.take j).map (fun x : GFn => x.ty) } : GCtx) with funcs := ({ c3 with funcs := c3.funcs ++ (g.funcs.take j).map (fun x : GFn => x.ty) } : GCtx).funcs ++ [g.funcs[j].ty] }) := Lib.hid (by simp only; rw [List.take_succ_eq_append_getElem hlt, List.map_append, List.append_assoc]; rfl)
          have HLN : Hid (({ c3 with funcs := c3.funcs ++ (g.funcs.take j).map (fun x : GFn => x.ty) } : GCtx).funcs.length ≤ 1000) := Lib.hid (by have := HFH.out.1; simp only [List.length_append, List.length_map, List.length_take]; omega)
          rw [hA] at y2
          have HSB : Hid (∀ u, Below (w.heap.size + 1 + 1) W0 u → SF w.heap.size 2 (some ⟨b, off, none⟩) g.funcs.length p.c2 b (off + j * 3) g.funcs[j].ty u) := Lib.hid fun u hu => by
            have e0 := (HG.out _ hu).2.2.1
            have e1 := h1 u (HB.out.trans (hu.mono (by omega)))
            rw [hA] at e0
            exact ⟨e0, e1.1⟩
          clear h1 hA hw HH
          generalize g.funcs[j] = x at *
          generalize ({ c3 with funcs := c3.funcs ++ (g.funcs.take j).map (fun x : GFn => x.ty) } : GCtx) = c4x at HI HE HLN
          have HD : Hid (CS wr.drew L (w.heap.size + 1 + 1) okT p2 c4x ∧ Below (w.heap.size + 1 + 1) W0 wr.drew) := Lib.hid ⟨HI.out.1.below (Below.refl _ _).drew, HI.out.2.drew⟩
          have hS0 := HSB.out _ HD.out.2
          go_wp2_with fail
          refine wp_region_held_drew (S := SF w.heap.size 2 (some ⟨b, off, none⟩) g.funcs.length p.c2 b (off + j * 3) x.ty) (by kernel_rfl) hS0 (fun hS => ?_)
          clear y2 hS0 HI
          generalize wr.drew = V at *
          have HLM : Hid (w.heap.size + 1 + 1 < V.heap.size) := Lib.hid (by have := HD.out.1.lt; have := HD.out.1.hL; omega)
          have HBA : Hid (Below V.heap.size V (V.alloc (.cells #[.int .i64 x.ty] 3))) := Lib.hid ((Below.refl _ _).alloc (Nat.le_refl _) _)
          have HCA : Hid (CS (V.alloc (.cells #[.int .i64 x.ty] 3)) L (w.heap.size + 1 + 1) okT p2 c4x) := Lib.hid (HD.out.1.below HBA.out)
          have HWA : Hid (Below (w.heap.size + 1 + 1) W0 (V.alloc (.cells #[.int .i64 x.ty] 3))) := Lib.hid (HD.out.2.trans (HBA.out.mono (Nat.le_of_lt HLM.out)))
          have x1 : V.cell? ⟨w.heap.size + 1 + 1, 1, none⟩ = some (.slice p2.A1 c4x.funcs.length p2.d1) := (HD.out.1.cell 1).trans rfl
          have x1b : (V.alloc (.cells #[.int .i64 x.ty] 3)).cell? ⟨w.heap.size + 1 + 1, 1, none⟩ = some (.slice p2.A1 c4x.funcs.length p2.d1) := (HCA.out.cell 1).trans rfl
          refine wpAnyH_take (i := 0) (oi := { dst := some 93, op := .fieldAddr 38 (.tmp 5) 1, type := 0, pos := "ref.go:30", after := #[], guard := none }) (v := ?_) rfl (by kernel_rfl) (by kernel_rfl) (by kernel_rfl) (fun _ _ _ h => h) (Or.inl ⟨by rfl, ?_⟩) hS ?_
          rotate_left
          · (intro w' hS'; obtain ⟨s0, s1⟩ := hS'; go_simp) <;> with_reducible rfl
          try simp only [Act.put, List.setIfInBounds_toArray, List.set_cons_zero, List.set_cons_succ]
          refine wpAnyH_take (i := 2) (oi := { dst := some 95, op := .fieldAddr 33 (.tmp 2) 2, type := 0, pos := "ref.go:30", after := #[], guard := none }) (v := ?_) rfl (by kernel_rfl) (by kernel_rfl) (by kernel_rfl) (fun _ _ _ h => h) (Or.inl ⟨by rfl, ?_⟩) hS ?_
          rotate_left
          · (intro w' hS'; obtain ⟨s0, s1⟩ := hS'; go_simp) <;> with_reducible rfl
          try simp only [Act.put, List.setIfInBounds_toArray, List.set_cons_zero, List.set_cons_succ]
          refine wpAnyH_take (i := 3) (oi := { dst := some 96, op := .load 24 (.tmp 95), type := 24, pos := "ref.go:30", after := #[{ on := 2, ground := .data }], guard := none }) (v := ?_) rfl (by kernel_rfl) (by kernel_rfl) (by kernel_rfl) (fun _ _ _ h => h) (Or.inl ⟨by rfl, ?_⟩) hS ?_
          rotate_left
          · (intro w' hS'; obtain ⟨s0, s1⟩ := hS'; go_simp) <;> with_reducible rfl
          try simp only [Act.put, List.setIfInBounds_toArray, List.set_cons_zero, List.set_cons_succ]
          refine wpAnyH_take (i := 4) (oi := { dst := some 97, op := .move (.tmp 8), type := 3, pos := "ref.go:30", after := #[], guard := none }) (v := ?_) rfl (by kernel_rfl) (by kernel_rfl) (by kernel_rfl) (fun _ _ _ h => h) (Or.inl ⟨by rfl, ?_⟩) hS ?_
          rotate_left
          · (intro w' hS'; obtain ⟨s0, s1⟩ := hS'; go_simp) <;> with_reducible rfl
          try simp only [Act.put, List.setIfInBounds_toArray, List.set_cons_zero, List.set_cons_succ]
          refine wpAnyH_take (i := 5) (oi := { dst := some 98, op := .indexAddr 24 (.tmp 96) (.tmp 97), type := 0, pos := "ref.go:30", after := #[{ on := 3, ground := .data }, { on := 4, ground := .data }], guard := none }) (v := ?_) rfl (by kernel_rfl) (by kernel_rfl) (by kernel_rfl) (fun _ _ _ h => h) (Or.inl ⟨by rfl, ?_⟩) hS ?_
          rotate_left
          · (intro w' hS'; obtain ⟨s0, s1⟩ := hS'; go_simp) <;> with_reducible rfl
          try simp only [Act.put, List.setIfInBounds_toArray, List.set_cons_zero, List.set_cons_succ]
          refine wpAnyH_take (i := 6) (oi := { dst := some 99, op := .fieldAddr 55 (.tmp 98) 0, type := 0, pos := "ref.go:30", after := #[{ on := 5, ground := .data }], guard := none }) (v := ?_) rfl (by kernel_rfl) (by kernel_rfl) (by kernel_rfl) (fun _ _ _ h => h) (Or.inl ⟨by rfl, ?_⟩) hS ?_
          rotate_left
          · (intro w' hS'; obtain ⟨s0, s1⟩ := hS'; go_simp) <;> with_reducible rfl
          try simp only [Act.put, List.setIfInBounds_toArray, List.set_cons_zero, List.set_cons_succ]
          refine wpAnyH_take (i := 7) (oi := { dst := some 100, op := .load 3 (.tmp 99), type := 3, pos := "ref.go:30", after := #[{ on := 6, ground := .data }], guard := none }) (v := ?_) rfl (by kernel_rfl) (by kernel_rfl) (by kernel_rfl) (fun _ _ _ h => h) (Or.inl ⟨by rfl, ?_⟩) hS ?_
          rotate_left
          · (intro w' hS'; obtain ⟨s0, s1⟩ := hS'; go_simp) <;> with_reducible rfl
          try simp only [Act.put, List.setIfInBounds_toArray, List.set_cons_zero, List.set_cons_succ]
          refine wpAnyH_ready (rs := [1, 8]) (by kernel_rfl) (by simp) ?_
          refine AllReadyH.cons (o := { dst := some 94, op := .load 28 (.tmp 93), type := 28, pos := "ref.go:30", after := #[{ on := 0, ground := .data }], guard := none }) rfl (fun K' hK => ?_) (AllReadyH.cons (o := { dst := some 101, op := .buildSlice 28 1 #[(0, .tmp 100)], type := 28, pos := "ref.go:30", after := #[{ on := 7, ground := .data }], guard := none }) rfl (fun K' hK => ?_) (AllReadyH.nil))
          · go_simp
            refine hK.out _ _ hS (fun hS => ?_)
            clear hK K'
            try simp only [Act.put, List.setIfInBounds_toArray, List.set_cons_zero, List.set_cons_succ]
            refine wpAnyH_ready (rs := [8]) (by kernel_rfl) (by simp) ?_
            refine AllReadyH.cons (o := { dst := some 101, op := .buildSlice 28 1 #[(0, .tmp 100)], type := 28, pos := "ref.go:30", after := #[{ on := 7, ground := .data }], guard := none }) rfl (fun K' hK => ?_) (AllReadyH.nil)
            go_simp
            refine hK.out _ _ (HSB.out _ HWA.out) (fun hS => ?_)
            clear hK K'
            try simp only [Act.put, List.setIfInBounds_toArray, List.set_cons_zero, List.set_cons_succ]
            refine wpAnyH_ready (rs := [9]) (by kernel_rfl) (by simp) ?_
            refine AllReadyH.cons (o := { dst := some 102, op := .call { callee := .builtin .append, args := #[.tmp 94, .tmp 101], argTypes := #[28, 28] }, type := 28, pos := "ref.go:30", after := #[{ on := 1, ground := .data }, { on := 8, ground := .data }], guard := none }) rfl (fun K' hK => ?_) (AllReadyH.nil)
            refine app_step tyI rfl (.tmp 94) (.tmp 101) rfl (A := p2.A1) (n := c4x.funcs.length) (c := p2.d1) rfl HCA.out.o1 (X := some ⟨V.heap.size, 0, none⟩) (m := 1) (cx := 1) rfl (src_new V #[.int .i64 x.ty] 3 _ rfl) (by simp [Value.oneCell']) (by have := HLN.out; omega) HCA.out.hL ?_
            intro A3 d3 W2 ho2 hg2 hob2
            have HS2 := Lib.hid (HSB.out W2 (HWA.out.grown hg2 (by have := HCA.out.lt; have := HCA.out.hL; omega) (fun k hk => by have := (rowLt HCA.out.o1 k hk).1; have := HCA.out.lt; omega)))
            have HP := Lib.hid (HCA.out.push1 (ys := [x.ty]) rfl (by simpa [iv] using ho2) hg2 hob2)
            have HS3 := Lib.hid (HSB.out _ (HWA.out.trans HP.out.below))
            clear ho2 hg2 hob2 x1 x1b
            have x1 : W2.cell? ⟨w.heap.size + 1 + 1, 1, none⟩ = some (.slice p2.A1 c4x.funcs.length p2.d1) := (HP.out.cell).trans rfl
            have z1 := HP.out.free
            obtain ⟨p3, hp3, _, _⟩ := HP.out.st
            have HN : Hid (CS (W2.setCell ⟨w.heap.size + 1 + 1, 1, none⟩ (.slice A3 (c4x.funcs.length + 1) d3)) L (w.heap.size + 1 + 1) okT p3 { c3 with funcs := c3.funcs ++ (g.funcs.take (j + 1)).map (fun x : GFn => x.ty) } ∧ Below (w.heap.size + 1 + 1) W0 (W2.setCell ⟨w.heap.size + 1 + 1, 1, none⟩ (.slice A3 (c4x.funcs.length + 1) d3))) := Lib.hid ⟨by rw [HE.out]; exact hp3, HWA.out.trans HP.out.below⟩
            clear hp3
            refine hK.out _ _ HS2.out (fun hS => ?_)
            clear hK K'
            try simp only [Act.put, List.setIfInBounds_toArray, List.set_cons_zero, List.set_cons_succ]
            refine wpAnyH_take (i := 10) (oi := { dst := some 103, op := .fieldAddr 38 (.tmp 5) 1, type := 0, pos := "ref.go:30", after := #[{ on := 0, ground := .phase }, { on := 1, ground := .phase }, { on := 2, ground := .phase }, { on := 3, ground := .phase }, { on := 4, ground := .phase }, { on := 5, ground := .phase }, { on := 6, ground := .phase }, { on := 7, ground := .phase }, { on := 8, ground := .phase }, { on := 9, ground := .phase }], guard := none }) (v := ?_) rfl (by kernel_rfl) (by kernel_rfl) (by kernel_rfl) (fun _ _ _ h => h) (Or.inl ⟨by rfl, ?_⟩) hS ?_
            rotate_left
            · (intro w' hS'; obtain ⟨s0, s1⟩ := hS'; go_simp) <;> with_reducible rfl
            try simp only [Act.put, List.setIfInBounds_toArray, List.set_cons_zero, List.set_cons_succ]
            refine wpAnyH_ready (rs := [11]) (by kernel_rfl) (by simp) ?_
            refine AllReadyH.cons (o := { dst := none, op := .store 28 (.tmp 103) (.tmp 102), type := 0, pos := "ref.go:30", after := #[{ on := 10, ground := .data }, { on := 9, ground := .data }, { on := 9, ground := .chain }, { on := 0, ground := .phase }, { on := 1, ground := .phase }, { on := 2, ground := .phase }, { on := 3, ground := .phase }, { on := 4, ground := .phase }, { on := 5, ground := .phase }, { on := 6, ground := .phase }, { on := 7, ground := .phase }, { on := 8, ground := .phase }, { on := 9, ground := .phase }], guard := none }) rfl (fun K' hK => ?_) (AllReadyH.nil)
            go_simp
            refine hK.out _ _ HS3.out (fun hS => ?_)
            clear hK K'
            try simp only [Act.put, List.setIfInBounds_toArray, List.set_cons_zero, List.set_cons_succ]
            refine wpAnyH_done (by kernel_rfl) ?_ _
            go_wp2
            go_roundw
            case rel => exact ⟨j + 1, p3, by go_num, by omega, HN⟩
            case measure => simp [intOf]; omega
          · go_simp
            refine hK.out _ _ (HSB.out _ HWA.out) (fun hS => ?_)
            clear hK K'
            try simp only [Act.put, List.setIfInBounds_toArray, List.set_cons_zero, List.set_cons_succ]
            refine wpAnyH_ready (rs := [1]) (by kernel_rfl) (by simp) ?_
            refine AllReadyH.cons (o := { dst := some 94, op := .load 28 (.tmp 93), type := 28, pos := "ref.go:30", after := #[{ on := 0, ground := .data }], guard := none }) rfl (fun K' hK => ?_) (AllReadyH.nil)
            go_simp
            refine hK.out _ _ hS (fun hS => ?_)
            clear hK K'
            try simp only [Act.put, List.setIfInBounds_toArray, List.set_cons_zero, List.set_cons_succ]
            refine wpAnyH_ready (rs := [9]) (by kernel_rfl) (by simp) ?_
            refine AllReadyH.cons (o := { dst := some 102, op := .call { callee := .builtin .append, args := #[.tmp 94, .tmp 101], argTypes := #[28, 28] }, type := 28, pos := "ref.go:30", after := #[{ on := 1, ground := .data }, { on := 8, ground := .data }], guard := none }) rfl (fun K' hK => ?_) (AllReadyH.nil)
            refine app_step tyI rfl (.tmp 94) (.tmp 101) rfl (A := p2.A1) (n := c4x.funcs.length) (c := p2.d1) rfl HCA.out.o1 (X := some ⟨V.heap.size, 0, none⟩) (m := 1) (cx := 1) rfl (src_new V #[.int .i64 x.ty] 3 _ rfl) (by simp [Value.oneCell']) (by have := HLN.out; omega) HCA.out.hL ?_
            intro A3 d3 W2 ho2 hg2 hob2
            have HS2 := Lib.hid (HSB.out W2 (HWA.out.grown hg2 (by have := HCA.out.lt; have := HCA.out.hL; omega) (fun k hk => by have := (rowLt HCA.out.o1 k hk).1; have := HCA.out.lt; omega)))
            have HP := Lib.hid (HCA.out.push1 (ys := [x.ty]) rfl (by simpa [iv] using ho2) hg2 hob2)
            have HS3 := Lib.hid (HSB.out _ (HWA.out.trans HP.out.below))
            clear ho2 hg2 hob2 x1 x1b
            have x1 : W2.cell? ⟨w.heap.size + 1 + 1, 1, none⟩ = some (.slice p2.A1 c4x.funcs.length p2.d1) := (HP.out.cell).trans rfl
            have z1 := HP.out.free
            obtain ⟨p3, hp3, _, _⟩ := HP.out.st
            have HN : Hid (CS (W2.setCell ⟨w.heap.size + 1 + 1, 1, none⟩ (.slice A3 (c4x.funcs.length + 1) d3)) L (w.heap.size + 1 + 1) okT p3 { c3 with funcs := c3.funcs ++ (g.funcs.take (j + 1)).map (fun x : GFn => x.ty) } ∧ Below (w.heap.size + 1 + 1) W0 (W2.setCell ⟨w.heap.size + 1 + 1, 1, none⟩ (.slice A3 (c4x.funcs.length + 1) d3))) := Lib.hid ⟨by rw [HE.out]; exact hp3, HWA.out.trans HP.out.below⟩
            clear hp3
            refine hK.out _ _ HS2.out (fun hS => ?_)
            clear hK K'
            try simp only [Act.put, List.setIfInBounds_toArray, List.set_cons_zero, List.set_cons_succ]
            refine wpAnyH_take (i := 10) (oi := { dst := some 103, op := .fieldAddr 38 (.tmp 5) 1, type := 0, pos := "ref.go:30", after := #[{ on := 0, ground := .phase }, { on := 1, ground := .phase }, { on := 2, ground := .phase }, { on := 3, ground := .phase }, { on := 4, ground := .phase }, { on := 5, ground := .phase }, { on := 6, ground := .phase }, { on := 7, ground := .phase }, { on := 8, ground := .phase }, { on := 9, ground := .phase }], guard := none }) (v := ?_) rfl (by kernel_rfl) (by kernel_rfl) (by kernel_rfl) (fun _ _ _ h => h) (Or.inl ⟨by rfl, ?_⟩) hS ?_
            rotate_left
            · (intro w' hS'; obtain ⟨s0, s1⟩ := hS'; go_simp) <;> with_reducible rfl
            try simp only [Act.put, List.setIfInBounds_toArray, List.set_cons_zero, List.set_cons_succ]
            refine wpAnyH_ready (rs := [11]) (by kernel_rfl) (by simp) ?_
            refine AllReadyH.cons (o := { dst := none, op := .store 28 (.tmp 103) (.tmp 102), type := 0, pos := "ref.go:30", after := #[{ on := 10, ground := .data }, { on := 9, ground := .data }, { on := 9, ground := .chain }, { on := 0, ground := .phase }, { on := 1, ground := .phase }, { on := 2, ground := .phase }, { on := 3, ground := .phase }, { on := 4, ground := .phase }, { on := 5, ground := .phase }, { on := 6, ground := .phase }, { on := 7, ground := .phase }, { on := 8, ground := .phase }, { on := 9, ground := .phase }], guard := none }) rfl (fun K' hK => ?_) (AllReadyH.nil)
            go_simp
            refine hK.out _ _ HS3.out (fun hS => ?_)
            clear hK K'
            try simp only [Act.put, List.setIfInBounds_toArray, List.set_cons_zero, List.set_cons_succ]
            refine wpAnyH_done (by kernel_rfl) ?_ _
            go_wp2
            go_roundw
            case rel => exact ⟨j + 1, p3, by go_num, by omega, HN⟩
            case measure => simp [intOf]; omega
        · have hlti : ¬ (j : Int) < (g.funcs.length : Int) := by omega
          rename World => w4
          have HC : Hid (CS w4 L (w.heap.size + 1 + 1) okT p2 (gathF g c3)) := Lib.hid (by have := HI.out.1; rwa [List.take_of_length_le (l := g.funcs) (i := j) (by omega)] at this)
          have HW := Lib.hid HI.out.2
          have HFF : Hid ((gathF g c3).tabs.length ≤ 100 ∧ (gathF g c3).mems.length ≤ 100 ∧ (gathF g c3).globs.length ≤ 100) := Lib.hid ⟨HFH.out.2.2.1, HFH.out.2.2.2, HFH.out.2.1⟩
          clear HI hj hlt HFH
          generalize gathF g c3 = c4 at *
          have x3 : w4.cell? ⟨w.heap.size + 1 + 1, 3, none⟩ = some (.slice p2.A3 c4.tabs.length p2.d3) := by rw [HC.out.cell]; rfl
          have y3 := (HG.out _ HW.out).2.2.2.1
          have HLT := Lib.hid (HL.out.l3.keep (w' := w4) (ok' := fun _ => True) fun b hb hlt => ⟨((HB.out.trans (HW.out.mono (by omega))).block b hlt), trivial⟩)
          go_wp2_with (at_builtin; first | (refine app_list tyL rfl (.tmp 105) (.tmp 107) rfl (A := p2.A3) (n := c4.tabs.length) (c := p2.d3) rfl HC.out.o3 (X := p.A3) (m := g.tabs.length) (cx := p.c3) rfl (src_lims HLT.out) (ones_l _) (by have := HFF.out.1; have := HSM.out.tabs; omega) HC.out.hL ?_; intro A3 d3 W2 ho2 hg2 hob2; have HP := Lib.hid (HC.out.push3 (ys := g.tabs) rfl ho2 hg2 hob2); clear ho2 hg2 hob2 x3 y3 HLT; have x3 : W2.cell? ⟨w.heap.size + 1 + 1, 3, none⟩ = some (.slice p2.A3 c4.tabs.length p2.d3) := (HP.out.cell).trans rfl; have z3 := HP.out.free; obtain ⟨p3, hp3, _, _⟩ := HP.out.st; have HC5 : Hid (CS (W2.setCell ⟨w.heap.size + 1 + 1, 3, none⟩ (.slice A3 (c4.tabs.length + g.tabs.length) d3)) L (w.heap.size + 1 + 1) okT p3 (gathT g c4)) := Lib.hid hp3; have HW5 := Lib.hid (HW.out.trans HP.out.below); clear hp3 HP HC HW; have HFG : Hid ((gathT g c4).mems.length ≤ 100 ∧ (gathT g c4).globs.length ≤ 100) := Lib.hid HFF.out.2; clear HFF; generalize hc5 : gathT g c4 = c5 at HC5 HFG; have HLM := Lib.hid (HL.out.l4.keep (w' := W2.setCell ⟨w.heap.size + 1 + 1, 3, none⟩ (.slice A3 (c4.tabs.length + g.tabs.length) d3)) (ok' := fun _ => True) fun b hb hlt => ⟨((HB.out.trans (HW5.out.mono (by omega))).block b hlt), trivial⟩); have HC5E := Lib.hid hc5; clear hc5; have x4 : (W2.setCell ⟨w.heap.size + 1 + 1, 3, none⟩ (.slice A3 (c4.tabs.length + g.tabs.length) d3)).cell? ⟨w.heap.size + 1 + 1, 4, none⟩ = some (.slice p3.A4 c5.mems.length p3.d4) := (HC5.out.cell 4).trans rfl; have y4 := (HG.out _ HW5.out).2.2.2.2.1) | (refine app_list tyL rfl (.tmp 111) (.tmp 113) rfl (A := p3.A4) (n := c5.mems.length) (c := p3.d4) rfl HC5.out.o4 (X := p.A4) (m := g.mems.length) (cx := p.c4) rfl (src_lims HLM.out) (ones_l _) (by have := HFG.out.1; have := HSM.out.mems; omega) HC5.out.hL ?_; intro A4 d4 W3 ho3 hg3 hob3; have HP := Lib.hid (HC5.out.push4 (ys := g.mems) rfl ho3 hg3 hob3); clear ho3 hg3 hob3 x4 y4 HLM x3 z3; have x4 : W3.cell? ⟨w.heap.size + 1 + 1, 4, none⟩ = some (.slice p3.A4 c5.mems.length p3.d4) := (HP.out.cell).trans rfl; have z4 := HP.out.free; obtain ⟨p4, hp4, _, _⟩ := HP.out.st; have HC6 : Hid (CS (W3.setCell ⟨w.heap.size + 1 + 1, 4, none⟩ (.slice A4 (c5.mems.length + g.mems.length) d4)) L (w.heap.size + 1 + 1) okT p4 (gathM g c5)) := Lib.hid hp4; have HW6 := Lib.hid (HW5.out.trans HP.out.below); clear hp4 HP HC5 HW5; have y5 := (HG.out _ HW6.out).2.2.2.2.2.1))
          have HC : Hid (CS (W3.setCell ⟨w.heap.size + 1 + 1, 4, none⟩ (.slice A4 (c5.mems.length + g.mems.length) d4)) L (w.heap.size + 1 + 1) okT p4 (gathM g c5)) := HC6
          have HQ : Hid ((gathR g imp = if imp then gathM g c5 else gathG g (gathM g c5)) ∧ (gathM g c5).globs.length ≤ 100) := Lib.hid ⟨by rw [← HC5E.out]; exact HEQ.out, HFG.out.2⟩
          have HW := HW6
          clear HC6 HW6 y5 x4 z4 HFG HC5E HEQ y2 hlti hn1
          generalize W3.setCell ⟨w.heap.size + 1 + 1, 4, none⟩ (.slice A4 (c5.mems.length + g.mems.length) d4) = w6 at *
          generalize gathM g c5 = c6 at *
          cases imp with
          | true =>
            have HC : Hid (CS w6 L (w.heap.size + 1 + 1) okT p4 (gathR g true)) := Lib.hid (by rw [HQ.out.1]; exact HC.out)
            clear HQ
            have y2 := (HG.out _ HW.out).2.2.2.2.2.1
            have hn1 : (g.globs.length : Int) ≤ 100 := by have := HSM.out.globs; omega
            go_loopw [9] (fun i wr => ∃ (j : Nat) (p2 : Plc), i = .int .i64 (j : Int) ∧ j ≤ g.globs.length ∧ Hid (CS wr L (w.heap.size + 1 + 1) okT p2 (gathR g true) ∧ Below (w.heap.size + 1 + 1) W0 wr)) (fun i _ => g.globs.length - (intOf i).toNat)
            case atStart => exact ⟨0, p4, rfl, Nat.zero_le _, Lib.hid ⟨HC.out, HW.out⟩⟩
            case round =>
              clear HC HW y2
              obtain ⟨j, p2, rfl, hj, HI⟩ := hrel
              have HC := Lib.hid HI.out.1
              have HW := Lib.hid HI.out.2
              have y2 := (HG.out _ HW.out).2.2.2.2.2.1
              rename World => w7
              rename Plc => p6
              clear HI hj
              by_cases hlti : (j : Int) < (g.globs.length : Int)
              · have HRB := Lib.hid (HRES.out _ HW.out)
                generalize hc7 : gathR g _ = c7 at *
                have HC7 := Lib.hid hc7
                clear hc7
                have x0 : w7.cell? ⟨w.heap.size + 1 + 1, 0, none⟩ = some (.slice p6.A0 c7.types.length p6.d0) := (HC.out.cell 0).trans rfl
                have x1 : w7.cell? ⟨w.heap.size + 1 + 1, 1, none⟩ = some (.slice p6.A1 c7.funcs.length p6.d1) := (HC.out.cell 1).trans rfl
                have x2 : w7.cell? ⟨w.heap.size + 1 + 1, 2, none⟩ = some (.slice p6.A2 c7.globs.length p6.d2) := (HC.out.cell 2).trans rfl
                have x3 : w7.cell? ⟨w.heap.size + 1 + 1, 3, none⟩ = some (.slice p6.A3 c7.tabs.length p6.d3) := (HC.out.cell 3).trans rfl
                have x4 : w7.cell? ⟨w.heap.size + 1 + 1, 4, none⟩ = some (.slice p6.A4 c7.mems.length p6.d4) := (HC.out.cell 4).trans rfl
                have x5 : w7.cell? ⟨w.heap.size + 1 + 1, 5, none⟩ = some (.int .i64 c7.hosts) := (HC.out.cell 5).trans rfl
                have x6 : w7.cell? ⟨w.heap.size + 1 + 1, 6, none⟩ = some (.int .i64 c7.vars) := (HC.out.cell 6).trans rfl
                have x7 : w7.cell? ⟨w.heap.size + 1 + 1, 7, none⟩ = some (.int .i64 c7.els) := (HC.out.cell 7).trans rfl
                have x8 : w7.cell? ⟨w.heap.size + 1 + 1, 8, none⟩ = some (.int .i64 c7.dats) := (HC.out.cell 8).trans rfl
                have x9 : w7.cell? ⟨w.heap.size + 1 + 1, 9, none⟩ = some (.bool c7.counted) := (HC.out.cell 9).trans rfl
                have q0 : w7.cell? ⟨w.heap.size + 1, 0, none⟩ = some (.slice none 0 0) := (blk_cell HRB.out 0).trans rfl
                have q1 : w7.cell? ⟨w.heap.size + 1, 1, none⟩ = some (.slice none 0 0) := (blk_cell HRB.out 1).trans rfl
                have q2 : w7.cell? ⟨w.heap.size + 1, 2, none⟩ = some (.slice none 0 0) := (blk_cell HRB.out 2).trans rfl
                have q3 : w7.cell? ⟨w.heap.size + 1, 3, none⟩ = some (.slice none 0 0) := (blk_cell HRB.out 3).trans rfl
                have q4 : w7.cell? ⟨w.heap.size + 1, 4, none⟩ = some (.slice none 0 0) := (blk_cell HRB.out 4).trans rfl
                have q5 : w7.cell? ⟨w.heap.size + 1, 5, none⟩ = some (.int .i64 0) := (blk_cell HRB.out 5).trans rfl
                have q6 : w7.cell? ⟨w.heap.size + 1, 6, none⟩ = some (.int .i64 0) := (blk_cell HRB.out 6).trans rfl
                have q7 : w7.cell? ⟨w.heap.size + 1, 7, none⟩ = some (.int .i64 0) := (blk_cell HRB.out 7).trans rfl
                have q8 : w7.cell? ⟨w.heap.size + 1, 8, none⟩ = some (.int .i64 0) := (blk_cell HRB.out 8).trans rfl
                have q9 : w7.cell? ⟨w.heap.size + 1, 9, none⟩ = some (.bool false) := (blk_cell HRB.out 9).trans rfl
                have z0 := blk_free HRB.out 0
                have z1 := blk_free HRB.out 1
                have z2 := blk_free HRB.out 2
                have z3 := blk_free HRB.out 3
                have z4 := blk_free HRB.out 4
                have z5 := blk_free HRB.out 5
                have z6 := blk_free HRB.out 6
                have z7 := blk_free HRB.out 7
                have z8 := blk_free HRB.out 8
                have z9 := blk_free HRB.out 9
                have HX := Lib.hid (setsL_ctx HRB.out p6 c7)
                have r := fun i => (blk_cell HX.out i)
                have r0 := (r 0).trans rfl
                have r1 := (r 1).trans rfl
                have r2 := (r 2).trans rfl
                have r3 := (r 3).trans rfl
                have r4 := (r 4).trans rfl
                have r5 := (r 5).trans rfl
                have r6 := (r 6).trans rfl
                have r7 := (r 7).trans rfl
                have r8 := (r 8).trans rfl
                have r9 := (r 9).trans rfl
                have HFR := Lib.hid (fun q (hq : q ≠ w.heap.size + 1) => setsL_far w7 (w.heap.size + 1) q hq (p6.vals c7) 0)
                have HBF := Lib.hid (setsL_below w7 (w.heap.size + 1) (p6.vals c7) 0 (B := w.heap.size) (by omega))
                clear r
                go_wp2_with fail
                show bodyPost _ _ _ _ _ (setsL w7 (w.heap.size + 1) 0 (p6.vals c7))
                generalize setsL w7 (w.heap.size + 1) 0 (p6.vals c7) = w8 at *
                refine bodyPost_ret (v := .agg (p6.vals c7).toArray) (by simp [results, Try.results10, go_sem, r0, r1, r2, r3, r4, r5, r6, r7, r8, r9, Plc.vals]) rfl ?_
                refine ⟨p6, rfl, ?_, ?_⟩
                · exact (HC.out.fin (ok := fun b => (b < w.heap.size ∨ w.heap.size ≤ b) ∧ b ≠ w.heap.size + 1) (fun b hb => by have := HOK.out.1 b hb; exact ⟨by omega, by omega⟩) (fun b hb => by have := HOK.out.2; exact ⟨by omega, by omega⟩)).keep fun b hb _ => ⟨HFR.out b hb.2, hb.1⟩
                · exact HB.out.trans ((HW.out.mono (by omega)).trans HBF.out)
              · have HRB := Lib.hid (HRES.out _ HW.out)
                generalize hc7 : gathR g _ = c7 at *
                have HC7 := Lib.hid hc7
                clear hc7
                have x0 : w7.cell? ⟨w.heap.size + 1 + 1, 0, none⟩ = some (.slice p6.A0 c7.types.length p6.d0) := (HC.out.cell 0).trans rfl
                have x1 : w7.cell? ⟨w.heap.size + 1 + 1, 1, none⟩ = some (.slice p6.A1 c7.funcs.length p6.d1) := (HC.out.cell 1).trans rfl
                have x2 : w7.cell? ⟨w.heap.size + 1 + 1, 2, none⟩ = some (.slice p6.A2 c7.globs.length p6.d2) := (HC.out.cell 2).trans rfl
                have x3 : w7.cell? ⟨w.heap.size + 1 + 1, 3, none⟩ = some (.slice p6.A3 c7.tabs.length p6.d3) := (HC.out.cell 3).trans rfl
                have x4 : w7.cell? ⟨w.heap.size + 1 + 1, 4, none⟩ = some (.slice p6.A4 c7.mems.length p6.d4) := (HC.out.cell 4).trans rfl
                have x5 : w7.cell? ⟨w.heap.size + 1 + 1, 5, none⟩ = some (.int .i64 c7.hosts) := (HC.out.cell 5).trans rfl
                have x6 : w7.cell? ⟨w.heap.size + 1 + 1, 6, none⟩ = some (.int .i64 c7.vars) := (HC.out.cell 6).trans rfl
                have x7 : w7.cell? ⟨w.heap.size + 1 + 1, 7, none⟩ = some (.int .i64 c7.els) := (HC.out.cell 7).trans rfl
                have x8 : w7.cell? ⟨w.heap.size + 1 + 1, 8, none⟩ = some (.int .i64 c7.dats) := (HC.out.cell 8).trans rfl
                have x9 : w7.cell? ⟨w.heap.size + 1 + 1, 9, none⟩ = some (.bool c7.counted) := (HC.out.cell 9).trans rfl
                have q0 : w7.cell? ⟨w.heap.size + 1, 0, none⟩ = some (.slice none 0 0) := (blk_cell HRB.out 0).trans rfl
                have q1 : w7.cell? ⟨w.heap.size + 1, 1, none⟩ = some (.slice none 0 0) := (blk_cell HRB.out 1).trans rfl
                have q2 : w7.cell? ⟨w.heap.size + 1, 2, none⟩ = some (.slice none 0 0) := (blk_cell HRB.out 2).trans rfl
                have q3 : w7.cell? ⟨w.heap.size + 1, 3, none⟩ = some (.slice none 0 0) := (blk_cell HRB.out 3).trans rfl
                have q4 : w7.cell? ⟨w.heap.size + 1, 4, none⟩ = some (.slice none 0 0) := (blk_cell HRB.out 4).trans rfl
                have q5 : w7.cell? ⟨w.heap.size + 1, 5, none⟩ = some (.int .i64 0) := (blk_cell HRB.out 5).trans rfl
                have q6 : w7.cell? ⟨w.heap.size + 1, 6, none⟩ = some (.int .i64 0) := (blk_cell HRB.out 6).trans rfl
                have q7 : w7.cell? ⟨w.heap.size + 1, 7, none⟩ = some (.int .i64 0) := (blk_cell HRB.out 7).trans rfl
                have q8 : w7.cell? ⟨w.heap.size + 1, 8, none⟩ = some (.int .i64 0) := (blk_cell HRB.out 8).trans rfl
                have q9 : w7.cell? ⟨w.heap.size + 1, 9, none⟩ = some (.bool false) := (blk_cell HRB.out 9).trans rfl
                have z0 := blk_free HRB.out 0
                have z1 := blk_free HRB.out 1
                have z2 := blk_free HRB.out 2
                have z3 := blk_free HRB.out 3
                have z4 := blk_free HRB.out 4
                have z5 := blk_free HRB.out 5
                have z6 := blk_free HRB.out 6
                have z7 := blk_free HRB.out 7
                have z8 := blk_free HRB.out 8
                have z9 := blk_free HRB.out 9
                have HX := Lib.hid (setsL_ctx HRB.out p6 c7)
                have r := fun i => (blk_cell HX.out i)
                have r0 := (r 0).trans rfl
                have r1 := (r 1).trans rfl
                have r2 := (r 2).trans rfl
                have r3 := (r 3).trans rfl
                have r4 := (r 4).trans rfl
                have r5 := (r 5).trans rfl
                have r6 := (r 6).trans rfl
                have r7 := (r 7).trans rfl
                have r8 := (r 8).trans rfl
                have r9 := (r 9).trans rfl
                have HFR := Lib.hid (fun q (hq : q ≠ w.heap.size + 1) => setsL_far w7 (w.heap.size + 1) q hq (p6.vals c7) 0)
                have HBF := Lib.hid (setsL_below w7 (w.heap.size + 1) (p6.vals c7) 0 (B := w.heap.size) (by omega))
                clear r
                go_wp2_with fail
                show bodyPost _ _ _ _ _ (setsL w7 (w.heap.size + 1) 0 (p6.vals c7))
                generalize setsL w7 (w.heap.size + 1) 0 (p6.vals c7) = w8 at *
                refine bodyPost_ret (v := .agg (p6.vals c7).toArray) (by simp [results, Try.results10, go_sem, r0, r1, r2, r3, r4, r5, r6, r7, r8, r9, Plc.vals]) rfl ?_
                refine ⟨p6, rfl, ?_, ?_⟩
                · exact (HC.out.fin (ok := fun b => (b < w.heap.size ∨ w.heap.size ≤ b) ∧ b ≠ w.heap.size + 1) (fun b hb => by have := HOK.out.1 b hb; exact ⟨by omega, by omega⟩) (fun b hb => by have := HOK.out.2; exact ⟨by omega, by omega⟩)).keep fun b hb _ => ⟨HFR.out b hb.2, hb.1⟩
                · exact HB.out.trans ((HW.out.mono (by omega)).trans HBF.out)
          | false =>
            go_loopw [9] (fun i wr => ∃ (j : Nat) (p2 : Plc), i = .int .i64 (j : Int) ∧ j ≤ g.globs.length ∧ Hid (CS wr L (w.heap.size + 1 + 1) okT p2 { c6 with globs := c6.globs ++ (g.globs.take j).map (fun x : GGlob => (x.ty, x.mu)) } ∧ Below (w.heap.size + 1 + 1) W0 wr)) (fun i _ => g.globs.length - (intOf i).toNat)
            case atStart => exact ⟨0, p4, rfl, Nat.zero_le _, Lib.hid ⟨by simpa using HC.out, HW.out⟩⟩
            case round =>
              clear HC HW
              obtain ⟨j, p2, rfl, hj, HI⟩ := hrel
              have y2 := (HG.out _ HI.out.2).2.2.2.2.2.1
              have hn1 : (g.globs.length : Int) ≤ 100 := by have := HSM.out.globs; omega
              by_cases hlt : j < g.globs.length
              · have hlti : (j : Int) < (g.globs.length : Int) := by omega
                have hw : Below w.heap.size w wr := HB.out.trans (HI.out.2.mono (by omega))
                obtain ⟨b, off, A1, c1, hA, h1⟩ := sm_glob HL.out.l5 j hlt
                have HH := Lib.hid h1
                have HE : Hid ({ c6 with globs := c6.globs ++ (g.globs.take (j + 1)).map (fun x : GGlob => (x.ty, x.mu)) } = { ({ c6 with globs := c6.globs ++ (g.globs.take j).map (fun x : GGlob => (x.ty, x.mu)) } : GCtx) with globs := ({ c6 with globs := c6.globs ++ (g.globs.take j).map (fun x : GGlob => (x.ty, x.mu)) } : GCtx).globs ++ [(g.globs[j].ty, g.globs[j].mu)] }) := Lib.hid (by simp only; rw [List.take_succ_eq_append_getElem hlt, List.map_append, List.append_assoc]; rfl)
                have HLN : Hid (({ c6 with globs := c6.globs ++ (g.globs.take j).map (fun x : GGlob => (x.ty, x.mu)) } : GCtx).globs.length ≤ 1000) := Lib.hid (by have := HQ.out.2; simp only [List.length_append, List.length_map, List.length_take]; omega)
                rw [hA] at y2
                have HSB : Hid (∀ u, Below (w.heap.size + 1 + 1) W0 u → SG w.heap.size 5 (some ⟨b, off, none⟩) g.globs.length p.c5 b (off + j * 3) g.globs[j].ty g.globs[j].mu u) := Lib.hid fun u hu => by
                  have e0 := (HG.out _ hu).2.2.2.2.2.1
                  have e1 := h1 u (HB.out.trans (hu.mono (by omega)))
                  rw [hA] at e0
                  exact ⟨e0, e1.1, e1.2.1⟩
                clear h1 hA hw HH
                generalize g.globs[j] = x at *
                generalize ({ c6 with globs := c6.globs ++ (g.globs.take j).map (fun x : GGlob => (x.ty, x.mu)) } : GCtx) = c4x at HI HE HLN
                have HD : Hid (CS wr.drew L (w.heap.size + 1 + 1) okT p2 c4x ∧ Below (w.heap.size + 1 + 1) W0 wr.drew) := Lib.hid ⟨HI.out.1.below (Below.refl _ _).drew, HI.out.2.drew⟩
                have hS0 := HSB.out _ HD.out.2
                go_wp2_with fail
                refine wp_region_held_drew (S := SG w.heap.size 5 (some ⟨b, off, none⟩) g.globs.length p.c5 b (off + j * 3) x.ty x.mu) (by kernel_rfl) hS0 (fun hS => ?_)
                clear y2 hS0 HI
                generalize wr.drew = V at *
                have HLM : Hid (w.heap.size + 1 + 1 < V.heap.size) := Lib.hid (by have := HD.out.1.lt; have := HD.out.1.hL; omega)
                have HBA : Hid (Below V.heap.size V (V.alloc (.cells #[.int .i64 x.ty, .bool x.mu] 79))) := Lib.hid ((Below.refl _ _).alloc (Nat.le_refl _) _)
                have HCA : Hid (CS (V.alloc (.cells #[.int .i64 x.ty, .bool x.mu] 79)) L (w.heap.size + 1 + 1) okT p2 c4x) := Lib.hid (HD.out.1.below HBA.out)
                have HWA : Hid (Below (w.heap.size + 1 + 1) W0 (V.alloc (.cells #[.int .i64 x.ty, .bool x.mu] 79))) := Lib.hid (HD.out.2.trans (HBA.out.mono (Nat.le_of_lt HLM.out)))
                have x1 : V.cell? ⟨w.heap.size + 1 + 1, 2, none⟩ = some (.slice p2.A2 c4x.globs.length p2.d2) := (HD.out.1.cell 2).trans rfl
                have x1b : (V.alloc (.cells #[.int .i64 x.ty, .bool x.mu] 79)).cell? ⟨w.heap.size + 1 + 1, 2, none⟩ = some (.slice p2.A2 c4x.globs.length p2.d2) := (HCA.out.cell 2).trans rfl
                refine wpAnyH_take (i := 0) (oi := { dst := some 127, op := .fieldAddr 38 (.tmp 5) 2, type := 0, pos := "ref.go:35", after := #[], guard := none }) (v := ?_) rfl (by kernel_rfl) (by kernel_rfl) (by kernel_rfl) (fun _ _ _ h => h) (Or.inl ⟨by rfl, ?_⟩) hS ?_
                rotate_left
                · (intro w' hS'; obtain ⟨s0, s1, s2⟩ := hS'; go_simp) <;> with_reducible rfl
                try simp only [Act.put, List.setIfInBounds_toArray, List.set_cons_zero, List.set_cons_succ]
                refine wpAnyH_take (i := 2) (oi := { dst := some 129, op := .fieldAddr 33 (.tmp 2) 5, type := 0, pos := "ref.go:35", after := #[], guard := none }) (v := ?_) rfl (by kernel_rfl) (by kernel_rfl) (by kernel_rfl) (fun _ _ _ h => h) (Or.inl ⟨by rfl, ?_⟩) hS ?_
                rotate_left
                · (intro w' hS'; obtain ⟨s0, s1, s2⟩ := hS'; go_simp) <;> with_reducible rfl
                try simp only [Act.put, List.setIfInBounds_toArray, List.set_cons_zero, List.set_cons_succ]
                refine wpAnyH_take (i := 3) (oi := { dst := some 130, op := .load 26 (.tmp 129), type := 26, pos := "ref.go:35", after := #[{ on := 2, ground := .data }], guard := none }) (v := ?_) rfl (by kernel_rfl) (by kernel_rfl) (by kernel_rfl) (fun _ _ _ h => h) (Or.inl ⟨by rfl, ?_⟩) hS ?_
                rotate_left
                · (intro w' hS'; obtain ⟨s0, s1, s2⟩ := hS'; go_simp) <;> with_reducible rfl
                try simp only [Act.put, List.setIfInBounds_toArray, List.set_cons_zero, List.set_cons_succ]
                refine wpAnyH_take (i := 4) (oi := { dst := some 131, op := .move (.tmp 9), type := 3, pos := "ref.go:35", after := #[], guard := none }) (v := ?_) rfl (by kernel_rfl) (by kernel_rfl) (by kernel_rfl) (fun _ _ _ h => h) (Or.inl ⟨by rfl, ?_⟩) hS ?_
                rotate_left
                · (intro w' hS'; obtain ⟨s0, s1, s2⟩ := hS'; go_simp) <;> with_reducible rfl
                try simp only [Act.put, List.setIfInBounds_toArray, List.set_cons_zero, List.set_cons_succ]
                refine wpAnyH_take (i := 5) (oi := { dst := some 132, op := .indexAddr 26 (.tmp 130) (.tmp 131), type := 0, pos := "ref.go:35", after := #[{ on := 3, ground := .data }, { on := 4, ground := .data }], guard := none }) (v := ?_) rfl (by kernel_rfl) (by kernel_rfl) (by kernel_rfl) (fun _ _ _ h => h) (Or.inl ⟨by rfl, ?_⟩) hS ?_
                rotate_left
                · (intro w' hS'; obtain ⟨s0, s1, s2⟩ := hS'; go_simp) <;> with_reducible rfl
                try simp only [Act.put, List.setIfInBounds_toArray, List.set_cons_zero, List.set_cons_succ]
                refine wpAnyH_take (i := 6) (oi := { dst := some 133, op := .fieldAddr 65 (.tmp 132) 0, type := 0, pos := "ref.go:35", after := #[{ on := 5, ground := .data }], guard := none }) (v := ?_) rfl (by kernel_rfl) (by kernel_rfl) (by kernel_rfl) (fun _ _ _ h => h) (Or.inl ⟨by rfl, ?_⟩) hS ?_
                rotate_left
                · (intro w' hS'; obtain ⟨s0, s1, s2⟩ := hS'; go_simp) <;> with_reducible rfl
                try simp only [Act.put, List.setIfInBounds_toArray, List.set_cons_zero, List.set_cons_succ]
                refine wpAnyH_take (i := 7) (oi := { dst := some 134, op := .load 3 (.tmp 133), type := 3, pos := "ref.go:35", after := #[{ on := 6, ground := .data }], guard := none }) (v := ?_) rfl (by kernel_rfl) (by kernel_rfl) (by kernel_rfl) (fun _ _ _ h => h) (Or.inl ⟨by rfl, ?_⟩) hS ?_
                rotate_left
                · (intro w' hS'; obtain ⟨s0, s1, s2⟩ := hS'; go_simp) <;> with_reducible rfl
                try simp only [Act.put, List.setIfInBounds_toArray, List.set_cons_zero, List.set_cons_succ]
                refine wpAnyH_take (i := 8) (oi := { dst := some 135, op := .fieldAddr 33 (.tmp 2) 5, type := 0, pos := "ref.go:35", after := #[], guard := none }) (v := ?_) rfl (by kernel_rfl) (by kernel_rfl) (by kernel_rfl) (fun _ _ _ h => h) (Or.inl ⟨by rfl, ?_⟩) hS ?_
                rotate_left
                · (intro w' hS'; obtain ⟨s0, s1, s2⟩ := hS'; go_simp) <;> with_reducible rfl
                try simp only [Act.put, List.setIfInBounds_toArray, List.set_cons_zero, List.set_cons_succ]
                refine wpAnyH_take (i := 9) (oi := { dst := some 136, op := .load 26 (.tmp 135), type := 26, pos := "ref.go:35", after := #[{ on := 8, ground := .data }], guard := none }) (v := ?_) rfl (by kernel_rfl) (by kernel_rfl) (by kernel_rfl) (fun _ _ _ h => h) (Or.inl ⟨by rfl, ?_⟩) hS ?_
                rotate_left
                · (intro w' hS'; obtain ⟨s0, s1, s2⟩ := hS'; go_simp) <;> with_reducible rfl
                try simp only [Act.put, List.setIfInBounds_toArray, List.set_cons_zero, List.set_cons_succ]
                refine wpAnyH_take (i := 10) (oi := { dst := some 137, op := .move (.tmp 9), type := 3, pos := "ref.go:35", after := #[], guard := none }) (v := ?_) rfl (by kernel_rfl) (by kernel_rfl) (by kernel_rfl) (fun _ _ _ h => h) (Or.inl ⟨by rfl, ?_⟩) hS ?_
                rotate_left
                · (intro w' hS'; obtain ⟨s0, s1, s2⟩ := hS'; go_simp) <;> with_reducible rfl
                try simp only [Act.put, List.setIfInBounds_toArray, List.set_cons_zero, List.set_cons_succ]
                refine wpAnyH_take (i := 11) (oi := { dst := some 138, op := .indexAddr 26 (.tmp 136) (.tmp 137), type := 0, pos := "ref.go:35", after := #[{ on := 9, ground := .data }, { on := 10, ground := .data }], guard := none }) (v := ?_) rfl (by kernel_rfl) (by kernel_rfl) (by kernel_rfl) (fun _ _ _ h => h) (Or.inl ⟨by rfl, ?_⟩) hS ?_
                rotate_left
                · (intro w' hS'; obtain ⟨s0, s1, s2⟩ := hS'; go_simp) <;> with_reducible rfl
                try simp only [Act.put, List.setIfInBounds_toArray, List.set_cons_zero, List.set_cons_succ]
                refine wpAnyH_take (i := 12) (oi := { dst := some 139, op := .fieldAddr 65 (.tmp 138) 1, type := 0, pos := "ref.go:35", after := #[{ on := 11, ground := .data }], guard := none }) (v := ?_) rfl (by kernel_rfl) (by kernel_rfl) (by kernel_rfl) (fun _ _ _ h => h) (Or.inl ⟨by rfl, ?_⟩) hS ?_
                rotate_left
                · (intro w' hS'; obtain ⟨s0, s1, s2⟩ := hS'; go_simp) <;> with_reducible rfl
                try simp only [Act.put, List.setIfInBounds_toArray, List.set_cons_zero, List.set_cons_succ]
                refine wpAnyH_take (i := 13) (oi := { dst := some 140, op := .load 4 (.tmp 139), type := 4, pos := "ref.go:35", after := #[{ on := 12, ground := .data }], guard := none }) (v := ?_) rfl (by kernel_rfl) (by kernel_rfl) (by kernel_rfl) (fun _ _ _ h => h) (Or.inl ⟨by rfl, ?_⟩) hS ?_
                rotate_left
                · (intro w' hS'; obtain ⟨s0, s1, s2⟩ := hS'; go_simp) <;> with_reducible rfl
                try simp only [Act.put, List.setIfInBounds_toArray, List.set_cons_zero, List.set_cons_succ]
                refine wpAnyH_take (i := 14) (oi := { dst := some 141, op := .build 79 #[(0, .tmp 134), (1, .tmp 140)], type := 79, pos := "ref.go:35", after := #[{ on := 7, ground := .data }, { on := 13, ground := .data }], guard := none }) (v := ?_) rfl (by kernel_rfl) (by kernel_rfl) (by kernel_rfl) (fun _ _ _ h => h) (Or.inl ⟨by rfl, ?_⟩) hS ?_
                rotate_left
                · (intro w' hS'; obtain ⟨s0, s1, s2⟩ := hS'; go_simp) <;> with_reducible rfl
                try simp only [Act.put, List.setIfInBounds_toArray, List.set_cons_zero, List.set_cons_succ]
                refine wpAnyH_ready (rs := [1, 15]) (by kernel_rfl) (by simp) ?_
                refine AllReadyH.cons (o := { dst := some 128, op := .load 36 (.tmp 127), type := 36, pos := "ref.go:35", after := #[{ on := 0, ground := .data }], guard := none }) rfl (fun K' hK => ?_) (AllReadyH.cons (o := { dst := some 142, op := .buildSlice 36 1 #[(0, .tmp 141)], type := 36, pos := "ref.go:35", after := #[{ on := 14, ground := .data }], guard := none }) rfl (fun K' hK => ?_) (AllReadyH.nil))
                · go_simp
                  refine hK.out _ _ hS (fun hS => ?_)
                  clear hK K'
                  try simp only [Act.put, List.setIfInBounds_toArray, List.set_cons_zero, List.set_cons_succ]
                  refine wpAnyH_ready (rs := [15]) (by kernel_rfl) (by simp) ?_
                  refine AllReadyH.cons (o := { dst := some 142, op := .buildSlice 36 1 #[(0, .tmp 141)], type := 36, pos := "ref.go:35", after := #[{ on := 14, ground := .data }], guard := none }) rfl (fun K' hK => ?_) (AllReadyH.nil)
                  go_simp
                  refine hK.out _ _ (HSB.out _ HWA.out) (fun hS => ?_)
                  clear hK K'
                  try simp only [Act.put, List.setIfInBounds_toArray, List.set_cons_zero, List.set_cons_succ]
                  refine wpAnyH_ready (rs := [16]) (by kernel_rfl) (by simp) ?_
                  refine AllReadyH.cons (o := { dst := some 143, op := .call { callee := .builtin .append, args := #[.tmp 128, .tmp 142], argTypes := #[36, 36] }, type := 36, pos := "ref.go:35", after := #[{ on := 1, ground := .data }, { on := 15, ground := .data }], guard := none }) rfl (fun K' hK => ?_) (AllReadyH.nil)
                  refine app_step tyV rfl (.tmp 128) (.tmp 142) rfl (A := p2.A2) (n := c4x.globs.length) (c := p2.d2) rfl HCA.out.o2 (X := some ⟨V.heap.size, 0, none⟩) (m := 1) (cx := 1) rfl (src_new V #[.int .i64 x.ty, .bool x.mu] 79 _ rfl) (by simp [Value.oneCell']) (by have := HLN.out; omega) HCA.out.hL ?_
                  intro A3 d3 W2 ho2 hg2 hob2
                  have HS2 := Lib.hid (HSB.out W2 (HWA.out.grown hg2 (by have := HCA.out.lt; have := HCA.out.hL; omega) (fun k hk => by have := (rowLt HCA.out.o2 k hk).1; have := HCA.out.lt; omega)))
                  have HP := Lib.hid (HCA.out.push2 (ys := [(x.ty, x.mu)]) rfl (by simpa [vv] using ho2) hg2 hob2)
                  have HS3 := Lib.hid (HSB.out _ (HWA.out.trans HP.out.below))
                  clear ho2 hg2 hob2 x1 x1b
                  have x1 : W2.cell? ⟨w.heap.size + 1 + 1, 2, none⟩ = some (.slice p2.A2 c4x.globs.length p2.d2) := (HP.out.cell).trans rfl
                  have z1 := HP.out.free
                  obtain ⟨p3, hp3, _, _⟩ := HP.out.st
                  have HN : Hid (CS (W2.setCell ⟨w.heap.size + 1 + 1, 2, none⟩ (.slice A3 (c4x.globs.length + 1) d3)) L (w.heap.size + 1 + 1) okT p3 { c6 with globs := c6.globs ++ (g.globs.take (j + 1)).map (fun x : GGlob => (x.ty, x.mu)) } ∧ Below (w.heap.size + 1 + 1) W0 (W2.setCell ⟨w.heap.size + 1 + 1, 2, none⟩ (.slice A3 (c4x.globs.length + 1) d3))) := Lib.hid ⟨by rw [HE.out]; exact hp3, HWA.out.trans HP.out.below⟩
                  clear hp3
                  refine hK.out _ _ HS2.out (fun hS => ?_)
                  clear hK K'
                  try simp only [Act.put, List.setIfInBounds_toArray, List.set_cons_zero, List.set_cons_succ]
                  refine wpAnyH_take (i := 17) (oi := { dst := some 144, op := .fieldAddr 38 (.tmp 5) 2, type := 0, pos := "ref.go:35", after := #[{ on := 0, ground := .phase }, { on := 1, ground := .phase }, { on := 2, ground := .phase }, { on := 3, ground := .phase }, { on := 4, ground := .phase }, { on := 5, ground := .phase }, { on := 6, ground := .phase }, { on := 7, ground := .phase }, { on := 8, ground := .phase }, { on := 9, ground := .phase }, { on := 10, ground := .phase }, { on := 11, ground := .phase }, { on := 12, ground := .phase }, { on := 13, ground := .phase }, { on := 14, ground := .phase }, { on := 15, ground := .phase }, { on := 16, ground := .phase }], guard := none }) (v := ?_) rfl (by kernel_rfl) (by kernel_rfl) (by kernel_rfl) (fun _ _ _ h => h) (Or.inl ⟨by rfl, ?_⟩) hS ?_
                  rotate_left
                  · (intro w' hS'; obtain ⟨s0, s1, s2⟩ := hS'; go_simp) <;> with_reducible rfl
                  try simp only [Act.put, List.setIfInBounds_toArray, List.set_cons_zero, List.set_cons_succ]
                  refine wpAnyH_ready (rs := [18]) (by kernel_rfl) (by simp) ?_
                  refine AllReadyH.cons (o := { dst := none, op := .store 36 (.tmp 144) (.tmp 143), type := 0, pos := "ref.go:35", after := #[{ on := 17, ground := .data }, { on := 16, ground := .data }, { on := 16, ground := .chain }, { on := 0, ground := .phase }, { on := 1, ground := .phase }, { on := 2, ground := .phase }, { on := 3, ground := .phase }, { on := 4, ground := .phase }, { on := 5, ground := .phase }, { on := 6, ground := .phase }, { on := 7, ground := .phase }, { on := 8, ground := .phase }, { on := 9, ground := .phase }, { on := 10, ground := .phase }, { on := 11, ground := .phase }, { on := 12, ground := .phase }, { on := 13, ground := .phase }, { on := 14, ground := .phase }, { on := 15, ground := .phase }, { on := 16, ground := .phase }], guard := none }) rfl (fun K' hK => ?_) (AllReadyH.nil)
                  go_simp
                  refine hK.out _ _ HS3.out (fun hS => ?_)
                  clear hK K'
                  try simp only [Act.put, List.setIfInBounds_toArray, List.set_cons_zero, List.set_cons_succ]
                  refine wpAnyH_done (by kernel_rfl) ?_ _
                  go_wp2
                  go_roundw
                  case rel => exact ⟨j + 1, p3, by go_num, by omega, HN⟩
                  case measure => simp [intOf]; omega
                · go_simp
                  refine hK.out _ _ (HSB.out _ HWA.out) (fun hS => ?_)
                  clear hK K'
                  try simp only [Act.put, List.setIfInBounds_toArray, List.set_cons_zero, List.set_cons_succ]
                  refine wpAnyH_ready (rs := [1]) (by kernel_rfl) (by simp) ?_
                  refine AllReadyH.cons (o := { dst := some 128, op := .load 36 (.tmp 127), type := 36, pos := "ref.go:35", after := #[{ on := 0, ground := .data }], guard := none }) rfl (fun K' hK => ?_) (AllReadyH.nil)
                  go_simp
                  refine hK.out _ _ hS (fun hS => ?_)
                  clear hK K'
                  try simp only [Act.put, List.setIfInBounds_toArray, List.set_cons_zero, List.set_cons_succ]
                  refine wpAnyH_ready (rs := [16]) (by kernel_rfl) (by simp) ?_
                  refine AllReadyH.cons (o := { dst := some 143, op := .call { callee := .builtin .append, args := #[.tmp 128, .tmp 142], argTypes := #[36, 36] }, type := 36, pos := "ref.go:35", after := #[{ on := 1, ground := .data }, { on := 15, ground := .data }], guard := none }) rfl (fun K' hK => ?_) (AllReadyH.nil)
                  refine app_step tyV rfl (.tmp 128) (.tmp 142) rfl (A := p2.A2) (n := c4x.globs.length) (c := p2.d2) rfl HCA.out.o2 (X := some ⟨V.heap.size, 0, none⟩) (m := 1) (cx := 1) rfl (src_new V #[.int .i64 x.ty, .bool x.mu] 79 _ rfl) (by simp [Value.oneCell']) (by have := HLN.out; omega) HCA.out.hL ?_
                  intro A3 d3 W2 ho2 hg2 hob2
                  have HS2 := Lib.hid (HSB.out W2 (HWA.out.grown hg2 (by have := HCA.out.lt; have := HCA.out.hL; omega) (fun k hk => by have := (rowLt HCA.out.o2 k hk).1; have := HCA.out.lt; omega)))
                  have HP := Lib.hid (HCA.out.push2 (ys := [(x.ty, x.mu)]) rfl (by simpa [vv] using ho2) hg2 hob2)
                  have HS3 := Lib.hid (HSB.out _ (HWA.out.trans HP.out.below))
                  clear ho2 hg2 hob2 x1 x1b
                  have x1 : W2.cell? ⟨w.heap.size + 1 + 1, 2, none⟩ = some (.slice p2.A2 c4x.globs.length p2.d2) := (HP.out.cell).trans rfl
                  have z1 := HP.out.free
                  obtain ⟨p3, hp3, _, _⟩ := HP.out.st
                  have HN : Hid (CS (W2.setCell ⟨w.heap.size + 1 + 1, 2, none⟩ (.slice A3 (c4x.globs.length + 1) d3)) L (w.heap.size + 1 + 1) okT p3 { c6 with globs := c6.globs ++ (g.globs.take (j + 1)).map (fun x : GGlob => (x.ty, x.mu)) } ∧ Below (w.heap.size + 1 + 1) W0 (W2.setCell ⟨w.heap.size + 1 + 1, 2, none⟩ (.slice A3 (c4x.globs.length + 1) d3))) := Lib.hid ⟨by rw [HE.out]; exact hp3, HWA.out.trans HP.out.below⟩
                  clear hp3
                  refine hK.out _ _ HS2.out (fun hS => ?_)
                  clear hK K'
                  try simp only [Act.put, List.setIfInBounds_toArray, List.set_cons_zero, List.set_cons_succ]
                  refine wpAnyH_take (i := 17) (oi := { dst := some 144, op := .fieldAddr 38 (.tmp 5) 2, type := 0, pos := "ref.go:35", after := #[{ on := 0, ground := .phase }, { on := 1, ground := .phase }, { on := 2, ground := .phase }, { on := 3, ground := .phase }, { on := 4, ground := .phase }, { on := 5, ground := .phase }, { on := 6, ground := .phase }, { on := 7, ground := .phase }, { on := 8, ground := .phase }, { on := 9, ground := .phase }, { on := 10, ground := .phase }, { on := 11, ground := .phase }, { on := 12, ground := .phase }, { on := 13, ground := .phase }, { on := 14, ground := .phase }, { on := 15, ground := .phase }, { on := 16, ground := .phase }], guard := none }) (v := ?_) rfl (by kernel_rfl) (by kernel_rfl) (by kernel_rfl) (fun _ _ _ h => h) (Or.inl ⟨by rfl, ?_⟩) hS ?_
                  rotate_left
                  · (intro w' hS'; obtain ⟨s0, s1, s2⟩ := hS'; go_simp) <;> with_reducible rfl
                  try simp only [Act.put, List.setIfInBounds_toArray, List.set_cons_zero, List.set_cons_succ]
                  refine wpAnyH_ready (rs := [18]) (by kernel_rfl) (by simp) ?_
                  refine AllReadyH.cons (o := { dst := none, op := .store 36 (.tmp 144) (.tmp 143), type := 0, pos := "ref.go:35", after := #[{ on := 17, ground := .data }, { on := 16, ground := .data }, { on := 16, ground := .chain }, { on := 0, ground := .phase }, { on := 1, ground := .phase }, { on := 2, ground := .phase }, { on := 3, ground := .phase }, { on := 4, ground := .phase }, { on := 5, ground := .phase }, { on := 6, ground := .phase }, { on := 7, ground := .phase }, { on := 8, ground := .phase }, { on := 9, ground := .phase }, { on := 10, ground := .phase }, { on := 11, ground := .phase }, { on := 12, ground := .phase }, { on := 13, ground := .phase }, { on := 14, ground := .phase }, { on := 15, ground := .phase }, { on := 16, ground := .phase }], guard := none }) rfl (fun K' hK => ?_) (AllReadyH.nil)
                  go_simp
                  refine hK.out _ _ HS3.out (fun hS => ?_)
                  clear hK K'
                  try simp only [Act.put, List.setIfInBounds_toArray, List.set_cons_zero, List.set_cons_succ]
                  refine wpAnyH_done (by kernel_rfl) ?_ _
                  go_wp2
                  go_roundw
                  case rel => exact ⟨j + 1, p3, by go_num, by omega, HN⟩
                  case measure => simp [intOf]; omega
              · have hlti : ¬ (j : Int) < (g.globs.length : Int) := by omega
                rename World => w7
                rename Plc => p6
                have HC : Hid (CS w7 L (w.heap.size + 1 + 1) okT p6 (gathR g false)) := Lib.hid (by rw [HQ.out.1]; have := HI.out.1; rwa [List.take_of_length_le (l := g.globs) (i := j) (by omega)] at this)
                have HW := Lib.hid HI.out.2
                clear HI hj hlt HQ
                have HRB := Lib.hid (HRES.out _ HW.out)
                generalize hc7 : gathR g _ = c7 at *
                have HC7 := Lib.hid hc7
                clear hc7
                have x0 : w7.cell? ⟨w.heap.size + 1 + 1, 0, none⟩ = some (.slice p6.A0 c7.types.length p6.d0) := (HC.out.cell 0).trans rfl
                have x1 : w7.cell? ⟨w.heap.size + 1 + 1, 1, none⟩ = some (.slice p6.A1 c7.funcs.length p6.d1) := (HC.out.cell 1).trans rfl
                have x2 : w7.cell? ⟨w.heap.size + 1 + 1, 2, none⟩ = some (.slice p6.A2 c7.globs.length p6.d2) := (HC.out.cell 2).trans rfl
                have x3 : w7.cell? ⟨w.heap.size + 1 + 1, 3, none⟩ = some (.slice p6.A3 c7.tabs.length p6.d3) := (HC.out.cell 3).trans rfl
                have x4 : w7.cell? ⟨w.heap.size + 1 + 1, 4, none⟩ = some (.slice p6.A4 c7.mems.length p6.d4) := (HC.out.cell 4).trans rfl
                have x5 : w7.cell? ⟨w.heap.size + 1 + 1, 5, none⟩ = some (.int .i64 c7.hosts) := (HC.out.cell 5).trans rfl
                have x6 : w7.cell? ⟨w.heap.size + 1 + 1, 6, none⟩ = some (.int .i64 c7.vars) := (HC.out.cell 6).trans rfl
                have x7 : w7.cell? ⟨w.heap.size + 1 + 1, 7, none⟩ = some (.int .i64 c7.els) := (HC.out.cell 7).trans rfl
                have x8 : w7.cell? ⟨w.heap.size + 1 + 1, 8, none⟩ = some (.int .i64 c7.dats) := (HC.out.cell 8).trans rfl
                have x9 : w7.cell? ⟨w.heap.size + 1 + 1, 9, none⟩ = some (.bool c7.counted) := (HC.out.cell 9).trans rfl
                have q0 : w7.cell? ⟨w.heap.size + 1, 0, none⟩ = some (.slice none 0 0) := (blk_cell HRB.out 0).trans rfl
                have q1 : w7.cell? ⟨w.heap.size + 1, 1, none⟩ = some (.slice none 0 0) := (blk_cell HRB.out 1).trans rfl
                have q2 : w7.cell? ⟨w.heap.size + 1, 2, none⟩ = some (.slice none 0 0) := (blk_cell HRB.out 2).trans rfl
                have q3 : w7.cell? ⟨w.heap.size + 1, 3, none⟩ = some (.slice none 0 0) := (blk_cell HRB.out 3).trans rfl
                have q4 : w7.cell? ⟨w.heap.size + 1, 4, none⟩ = some (.slice none 0 0) := (blk_cell HRB.out 4).trans rfl
                have q5 : w7.cell? ⟨w.heap.size + 1, 5, none⟩ = some (.int .i64 0) := (blk_cell HRB.out 5).trans rfl
                have q6 : w7.cell? ⟨w.heap.size + 1, 6, none⟩ = some (.int .i64 0) := (blk_cell HRB.out 6).trans rfl
                have q7 : w7.cell? ⟨w.heap.size + 1, 7, none⟩ = some (.int .i64 0) := (blk_cell HRB.out 7).trans rfl
                have q8 : w7.cell? ⟨w.heap.size + 1, 8, none⟩ = some (.int .i64 0) := (blk_cell HRB.out 8).trans rfl
                have q9 : w7.cell? ⟨w.heap.size + 1, 9, none⟩ = some (.bool false) := (blk_cell HRB.out 9).trans rfl
                have z0 := blk_free HRB.out 0
                have z1 := blk_free HRB.out 1
                have z2 := blk_free HRB.out 2
                have z3 := blk_free HRB.out 3
                have z4 := blk_free HRB.out 4
                have z5 := blk_free HRB.out 5
                have z6 := blk_free HRB.out 6
                have z7 := blk_free HRB.out 7
                have z8 := blk_free HRB.out 8
                have z9 := blk_free HRB.out 9
                have HX := Lib.hid (setsL_ctx HRB.out p6 c7)
                have r := fun i => (blk_cell HX.out i)
                have r0 := (r 0).trans rfl
                have r1 := (r 1).trans rfl
                have r2 := (r 2).trans rfl
                have r3 := (r 3).trans rfl
                have r4 := (r 4).trans rfl
                have r5 := (r 5).trans rfl
                have r6 := (r 6).trans rfl
                have r7 := (r 7).trans rfl
                have r8 := (r 8).trans rfl
                have r9 := (r 9).trans rfl
                have HFR := Lib.hid (fun q (hq : q ≠ w.heap.size + 1) => setsL_far w7 (w.heap.size + 1) q hq (p6.vals c7) 0)
                have HBF := Lib.hid (setsL_below w7 (w.heap.size + 1) (p6.vals c7) 0 (B := w.heap.size) (by omega))
                clear r
                go_wp2_with fail
                show bodyPost _ _ _ _ _ (setsL w7 (w.heap.size + 1) 0 (p6.vals c7))
                generalize setsL w7 (w.heap.size + 1) 0 (p6.vals c7) = w8 at *
                refine bodyPost_ret (v := .agg (p6.vals c7).toArray) (by simp [results, Try.results10, go_sem, r0, r1, r2, r3, r4, r5, r6, r7, r8, r9, Plc.vals]) rfl ?_
                refine ⟨p6, rfl, ?_, ?_⟩
                · exact (HC.out.fin (ok := fun b => (b < w.heap.size ∨ w.heap.size ≤ b) ∧ b ≠ w.heap.size + 1) (fun b hb => by have := HOK.out.1 b hb; exact ⟨by omega, by omega⟩) (fun b hb => by have := HOK.out.2; exact ⟨by omega, by omega⟩)).keep fun b hb _ => ⟨HFR.out b hb.2, hb.1⟩
                · exact HB.out.trans ((HW.out.mono (by omega)).trans HBF.out)
end Go.Proofs.Ytlbbnnljclndkaa.Cx
