/-
  CtxLook: ctx.look, Of: what they answer. Conditions: the module and the context lie in memory; their lists are not too long. (Written by wip/tools/genctxlook.py.)
-/
import Derived.Test.YtdcolpmmojiffaaQCtxLk4
import Derived.Test.YtdcolpmmojiffaaQCtxGath
namespace Go.Proofs.Ytdcolpmmojiffaa.Cx
open Go.RowKit Leb
open _root_.Go.Proofs.Ytdcolpmmojiffaa.Mod

def SK (bm bx : Nat) (g : GMd) (p : Pls) (q : Plc) (c : GCtx) (V : World) : Prop := BoxC bx V q c ∧ BoxG bm V g p
theorem boxG_keep {b : Nat} {V V' : World} {g : GMd} {p : Pls} (h : BoxG b V g p) (h1 : V'.heap[b]? = V.heap[b]?) : BoxG b V' g p := by
  obtain ⟨s0, s1, s2, s3, s4, s5, s6, s7, s8, s9, s10, s11⟩ := h
  have e : ∀ i, V'.cell? ⟨b, i, none⟩ = V.cell? ⟨b, i, none⟩ := fun i => World.cell?_of_block h1
  exact ⟨(e 0).trans s0, (e 1).trans s1, (e 2).trans s2, (e 3).trans s3, (e 4).trans s4, (e 5).trans s5, (e 6).trans s6, (e 7).trans s7, (e 8).trans s8, (e 9).trans s9, (e 10).trans s10, (e 11).trans s11⟩
set_option maxRecDepth 100000 in
set_option maxHeartbeats 16000000 in
theorem look_any (g : GMd) (p : Pls) (q : Plc) (c : GCtx) (w : World) {okM okC : Nat → Prop} (hm : MdL w okM okM p g) (hl : CtxL w okC q c) (hs : Sm g) (hf : FtS c) : Calls Try.prog 32 #[.agg #[.slice q.A0 c.types.length q.d0, .slice q.A1 c.funcs.length q.d1, .slice q.A2 c.globs.length q.d2, .slice q.A3 c.tabs.length q.d3, .slice q.A4 c.mems.length q.d4, .int .i64 c.hosts, .int .i64 c.vars, .int .i64 c.els, .int .i64 c.dats, .bool c.counted], .agg #[.slice p.A0 g.types.length p.c0, .slice p.A1 g.imps.length p.c1, .slice p.A2 g.funcs.length p.c2, .slice p.A3 g.tabs.length p.c3, .slice p.A4 g.mems.length p.c4, .slice p.A5 g.globs.length p.c5, .slice p.A6 g.expos.length p.c6, .slice p.A7 g.starts.length p.c7, .slice p.A8 g.els.length p.c8, .slice p.A9 g.counts.length p.c9, .slice p.A10 g.dats.length p.c10, .slice p.A11 g.cuss.length p.c11]] w (NumIs w (lookE c g)) := by
  have HBV0 : Hid (Below w.heap.size w (((w.alloc (.cells #[.slice q.A0 c.types.length q.d0, .slice q.A1 c.funcs.length q.d1, .slice q.A2 c.globs.length q.d2, .slice q.A3 c.tabs.length q.d3, .slice q.A4 c.mems.length q.d4, .int .i64 c.hosts, .int .i64 c.vars, .int .i64 c.els, .int .i64 c.dats, .bool c.counted] 66)).alloc (.cells #[.slice p.A0 g.types.length p.c0, .slice p.A1 g.imps.length p.c1, .slice p.A2 g.funcs.length p.c2, .slice p.A3 g.tabs.length p.c3, .slice p.A4 g.mems.length p.c4, .slice p.A5 g.globs.length p.c5, .slice p.A6 g.expos.length p.c6, .slice p.A7 g.starts.length p.c7, .slice p.A8 g.els.length p.c8, .slice p.A9 g.counts.length p.c9, .slice p.A10 g.dats.length p.c10, .slice p.A11 g.cuss.length p.c11] 55)).alloc (.cells #[.slice q.A0 c.types.length q.d0, .slice q.A1 c.funcs.length q.d1, .slice q.A2 c.globs.length q.d2, .slice q.A3 c.tabs.length q.d3, .slice q.A4 c.mems.length q.d4, .int .i64 c.hosts, .int .i64 c.vars, .int .i64 c.els, .int .i64 c.dats, .bool c.counted] 103)).drew) := Lib.hid ((((((Below.refl _ _).alloc (Nat.le_refl _) _).alloc (by simp) _)).alloc (by simp; omega) _).drew)
  have HVS0 : Hid ((((w.alloc (.cells #[.slice q.A0 c.types.length q.d0, .slice q.A1 c.funcs.length q.d1, .slice q.A2 c.globs.length q.d2, .slice q.A3 c.tabs.length q.d3, .slice q.A4 c.mems.length q.d4, .int .i64 c.hosts, .int .i64 c.vars, .int .i64 c.els, .int .i64 c.dats, .bool c.counted] 66)).alloc (.cells #[.slice p.A0 g.types.length p.c0, .slice p.A1 g.imps.length p.c1, .slice p.A2 g.funcs.length p.c2, .slice p.A3 g.tabs.length p.c3, .slice p.A4 g.mems.length p.c4, .slice p.A5 g.globs.length p.c5, .slice p.A6 g.expos.length p.c6, .slice p.A7 g.starts.length p.c7, .slice p.A8 g.els.length p.c8, .slice p.A9 g.counts.length p.c9, .slice p.A10 g.dats.length p.c10, .slice p.A11 g.cuss.length p.c11] 55)).alloc (.cells #[.slice q.A0 c.types.length q.d0, .slice q.A1 c.funcs.length q.d1, .slice q.A2 c.globs.length q.d2, .slice q.A3 c.tabs.length q.d3, .slice q.A4 c.mems.length q.d4, .int .i64 c.hosts, .int .i64 c.vars, .int .i64 c.els, .int .i64 c.dats, .bool c.counted] 103)).drew.heap.size = w.heap.size + 3) := Lib.hid (by simp)
  have hS0 : SK (w.heap.size + 1) (w.heap.size + 1 + 1) g p q c (((w.alloc (.cells #[.slice q.A0 c.types.length q.d0, .slice q.A1 c.funcs.length q.d1, .slice q.A2 c.globs.length q.d2, .slice q.A3 c.tabs.length q.d3, .slice q.A4 c.mems.length q.d4, .int .i64 c.hosts, .int .i64 c.vars, .int .i64 c.els, .int .i64 c.dats, .bool c.counted] 66)).alloc (.cells #[.slice p.A0 g.types.length p.c0, .slice p.A1 g.imps.length p.c1, .slice p.A2 g.funcs.length p.c2, .slice p.A3 g.tabs.length p.c3, .slice p.A4 g.mems.length p.c4, .slice p.A5 g.globs.length p.c5, .slice p.A6 g.expos.length p.c6, .slice p.A7 g.starts.length p.c7, .slice p.A8 g.els.length p.c8, .slice p.A9 g.counts.length p.c9, .slice p.A10 g.dats.length p.c10, .slice p.A11 g.cuss.length p.c11] 55)).alloc (.cells #[.slice q.A0 c.types.length q.d0, .slice q.A1 c.funcs.length q.d1, .slice q.A2 c.globs.length q.d2, .slice q.A3 c.tabs.length q.d3, .slice q.A4 c.mems.length q.d4, .int .i64 c.hosts, .int .i64 c.vars, .int .i64 c.els, .int .i64 c.dats, .bool c.counted] 103)).drew := by
    have k1 : (((w.alloc (.cells #[.slice q.A0 c.types.length q.d0, .slice q.A1 c.funcs.length q.d1, .slice q.A2 c.globs.length q.d2, .slice q.A3 c.tabs.length q.d3, .slice q.A4 c.mems.length q.d4, .int .i64 c.hosts, .int .i64 c.vars, .int .i64 c.els, .int .i64 c.dats, .bool c.counted] 66)).alloc (.cells #[.slice p.A0 g.types.length p.c0, .slice p.A1 g.imps.length p.c1, .slice p.A2 g.funcs.length p.c2, .slice p.A3 g.tabs.length p.c3, .slice p.A4 g.mems.length p.c4, .slice p.A5 g.globs.length p.c5, .slice p.A6 g.expos.length p.c6, .slice p.A7 g.starts.length p.c7, .slice p.A8 g.els.length p.c8, .slice p.A9 g.counts.length p.c9, .slice p.A10 g.dats.length p.c10, .slice p.A11 g.cuss.length p.c11] 55)).alloc (.cells #[.slice q.A0 c.types.length q.d0, .slice q.A1 c.funcs.length q.d1, .slice q.A2 c.globs.length q.d2, .slice q.A3 c.tabs.length q.d3, .slice q.A4 c.mems.length q.d4, .int .i64 c.hosts, .int .i64 c.vars, .int .i64 c.els, .int .i64 c.dats, .bool c.counted] 103)).drew.heap[w.heap.size + 1 + 1]? = some (.cells #[.slice q.A0 c.types.length q.d0, .slice q.A1 c.funcs.length q.d1, .slice q.A2 c.globs.length q.d2, .slice q.A3 c.tabs.length q.d3, .slice q.A4 c.mems.length q.d4, .int .i64 c.hosts, .int .i64 c.vars, .int .i64 c.els, .int .i64 c.dats, .bool c.counted] 103 (0, 0)) := by
      have h := heap_alloc_new ((w.alloc (.cells #[.slice q.A0 c.types.length q.d0, .slice q.A1 c.funcs.length q.d1, .slice q.A2 c.globs.length q.d2, .slice q.A3 c.tabs.length q.d3, .slice q.A4 c.mems.length q.d4, .int .i64 c.hosts, .int .i64 c.vars, .int .i64 c.els, .int .i64 c.dats, .bool c.counted] 66)).alloc (.cells #[.slice p.A0 g.types.length p.c0, .slice p.A1 g.imps.length p.c1, .slice p.A2 g.funcs.length p.c2, .slice p.A3 g.tabs.length p.c3, .slice p.A4 g.mems.length p.c4, .slice p.A5 g.globs.length p.c5, .slice p.A6 g.expos.length p.c6, .slice p.A7 g.starts.length p.c7, .slice p.A8 g.els.length p.c8, .slice p.A9 g.counts.length p.c9, .slice p.A10 g.dats.length p.c10, .slice p.A11 g.cuss.length p.c11] 55)) (.cells #[.slice q.A0 c.types.length q.d0, .slice q.A1 c.funcs.length q.d1, .slice q.A2 c.globs.length q.d2, .slice q.A3 c.tabs.length q.d3, .slice q.A4 c.mems.length q.d4, .int .i64 c.hosts, .int .i64 c.vars, .int .i64 c.els, .int .i64 c.dats, .bool c.counted] 103)
      have e : ((w.alloc (.cells #[.slice q.A0 c.types.length q.d0, .slice q.A1 c.funcs.length q.d1, .slice q.A2 c.globs.length q.d2, .slice q.A3 c.tabs.length q.d3, .slice q.A4 c.mems.length q.d4, .int .i64 c.hosts, .int .i64 c.vars, .int .i64 c.els, .int .i64 c.dats, .bool c.counted] 66)).alloc (.cells #[.slice p.A0 g.types.length p.c0, .slice p.A1 g.imps.length p.c1, .slice p.A2 g.funcs.length p.c2, .slice p.A3 g.tabs.length p.c3, .slice p.A4 g.mems.length p.c4, .slice p.A5 g.globs.length p.c5, .slice p.A6 g.expos.length p.c6, .slice p.A7 g.starts.length p.c7, .slice p.A8 g.els.length p.c8, .slice p.A9 g.counts.length p.c9, .slice p.A10 g.dats.length p.c10, .slice p.A11 g.cuss.length p.c11] 55)).heap.size = w.heap.size + 1 + 1 := by simp
      rw [e] at h
      exact h
    have k2 : (((w.alloc (.cells #[.slice q.A0 c.types.length q.d0, .slice q.A1 c.funcs.length q.d1, .slice q.A2 c.globs.length q.d2, .slice q.A3 c.tabs.length q.d3, .slice q.A4 c.mems.length q.d4, .int .i64 c.hosts, .int .i64 c.vars, .int .i64 c.els, .int .i64 c.dats, .bool c.counted] 66)).alloc (.cells #[.slice p.A0 g.types.length p.c0, .slice p.A1 g.imps.length p.c1, .slice p.A2 g.funcs.length p.c2, .slice p.A3 g.tabs.length p.c3, .slice p.A4 g.mems.length p.c4, .slice p.A5 g.globs.length p.c5, .slice p.A6 g.expos.length p.c6, .slice p.A7 g.starts.length p.c7, .slice p.A8 g.els.length p.c8, .slice p.A9 g.counts.length p.c9, .slice p.A10 g.dats.length p.c10, .slice p.A11 g.cuss.length p.c11] 55)).alloc (.cells #[.slice q.A0 c.types.length q.d0, .slice q.A1 c.funcs.length q.d1, .slice q.A2 c.globs.length q.d2, .slice q.A3 c.tabs.length q.d3, .slice q.A4 c.mems.length q.d4, .int .i64 c.hosts, .int .i64 c.vars, .int .i64 c.els, .int .i64 c.dats, .bool c.counted] 103)).drew.heap[w.heap.size + 1]? = some (.cells #[.slice p.A0 g.types.length p.c0, .slice p.A1 g.imps.length p.c1, .slice p.A2 g.funcs.length p.c2, .slice p.A3 g.tabs.length p.c3, .slice p.A4 g.mems.length p.c4, .slice p.A5 g.globs.length p.c5, .slice p.A6 g.expos.length p.c6, .slice p.A7 g.starts.length p.c7, .slice p.A8 g.els.length p.c8, .slice p.A9 g.counts.length p.c9, .slice p.A10 g.dats.length p.c10, .slice p.A11 g.cuss.length p.c11] 55 (0, 0)) := (((Below.refl _ _).alloc (Nat.le_refl _) _).block _ (by simp)).trans (heap2 w _ _ _)
    refine ⟨?_, ?_⟩
    · refine ⟨?_, ?_, ?_, ?_, ?_, ?_, ?_, ?_, ?_, ?_⟩ <;> rw [blk_cell k1] <;> rfl
    · refine ⟨?_, ?_, ?_, ?_, ?_, ?_, ?_, ?_, ?_, ?_, ?_, ?_⟩ <;> rw [blk_cell k2] <;> rfl
  obtain ⟨e0, he0⟩ : ∃ e, eachE (impE c) g.imps = e := ⟨_, rfl⟩
  have HC0 : Hid (∀ V, Below w.heap.size w V → Calls Try.prog 41 #[.slice p.A1 g.imps.length p.c1, .func (.func 42) #[.agg #[.slice q.A0 c.types.length q.d0, .slice q.A1 c.funcs.length q.d1, .slice q.A2 c.globs.length q.d2, .slice q.A3 c.tabs.length q.d3, .slice q.A4 c.mems.length q.d4, .int .i64 c.hosts, .int .i64 c.vars, .int .i64 c.els, .int .i64 c.dats, .bool c.counted]] #[]] V (NumIs V e0)) := Lib.hid fun V hV => he0 ▸ each_imp 42 (fun _ _ => rfl) (.agg #[.slice q.A0 c.types.length q.d0, .slice q.A1 c.funcs.length q.d1, .slice q.A2 c.globs.length q.d2, .slice q.A3 c.tabs.length q.d3, .slice q.A4 c.mems.length q.d4, .int .i64 c.hosts, .int .i64 c.vars, .int .i64 c.els, .int .i64 c.dats, .bool c.counted]) V g.imps (impE c) (lst_below hm.l1 hV) (by have := hs.imps; omega) (Lib.hid fun W x _ _ => imported_any q c W x)
  obtain ⟨e1, he1⟩ : ∃ e, eachE (fun x : GFn => tyE c x.ty) g.funcs = e := ⟨_, rfl⟩
  have HC1 : Hid (∀ V, Below w.heap.size w V → Calls Try.prog 43 #[.slice p.A2 g.funcs.length p.c2, .func (.func 44) #[.agg #[.slice q.A0 c.types.length q.d0, .slice q.A1 c.funcs.length q.d1, .slice q.A2 c.globs.length q.d2, .slice q.A3 c.tabs.length q.d3, .slice q.A4 c.mems.length q.d4, .int .i64 c.hosts, .int .i64 c.vars, .int .i64 c.els, .int .i64 c.dats, .bool c.counted]] #[]] V (NumIs V e1)) := Lib.hid fun V hV => he1 ▸ each_fn 44 (fun _ _ => rfl) (.agg #[.slice q.A0 c.types.length q.d0, .slice q.A1 c.funcs.length q.d1, .slice q.A2 c.globs.length q.d2, .slice q.A3 c.tabs.length q.d3, .slice q.A4 c.mems.length q.d4, .int .i64 c.hosts, .int .i64 c.vars, .int .i64 c.els, .int .i64 c.dats, .bool c.counted]) V g.funcs (fun x : GFn => tyE c x.ty) (lst_below hm.l2 hV) (by have := hs.funcs; omega) (Lib.hid fun W x A1 c1 A2 c2 _ _ _ _ => typed_any q c W x.ty A1 _ c1 A2 _ c2)
  obtain ⟨e2, he2⟩ : ∃ e, eachE tabE g.tabs = e := ⟨_, rfl⟩
  have HC2 : Hid (∀ V, Below w.heap.size w V → Calls Try.prog 45 #[.slice p.A3 g.tabs.length p.c3, .func (.func 46) #[] #[]] V (NumIs V e2)) := Lib.hid fun V hV => he2 ▸ each_lim 46 (fun _ _ => rfl) V g.tabs tabE (lst_below hm.l3 hV) (by have := hs.tabs; omega) (Lib.hid fun W x _ _ => table_any x W)
  obtain ⟨e3, he3⟩ : ∃ e, eachE memE g.mems = e := ⟨_, rfl⟩
  have HC3 : Hid (∀ V, Below w.heap.size w V → Calls Try.prog 45 #[.slice p.A4 g.mems.length p.c4, .func (.func 47) #[] #[]] V (NumIs V e3)) := Lib.hid fun V hV => he3 ▸ each_lim 47 (fun _ _ => rfl) V g.mems memE (lst_below hm.l4 hV) (by have := hs.mems; omega) (Lib.hid fun W x _ _ => memory_any x W)
  obtain ⟨e4, he4⟩ : ∃ e, oneE c = e := ⟨_, rfl⟩
  have HC4 : Hid (∀ V, Below w.heap.size w V → Calls Try.prog 48 #[.agg #[.slice q.A0 c.types.length q.d0, .slice q.A1 c.funcs.length q.d1, .slice q.A2 c.globs.length q.d2, .slice q.A3 c.tabs.length q.d3, .slice q.A4 c.mems.length q.d4, .int .i64 c.hosts, .int .i64 c.vars, .int .i64 c.els, .int .i64 c.dats, .bool c.counted]] V (NumIs V e4)) := Lib.hid fun V hV => he4 ▸ single_any q c V
  obtain ⟨e5, he5⟩ : ∃ e, eachE (globE c) g.globs = e := ⟨_, rfl⟩
  have HC5 : Hid (∀ V, Below w.heap.size w V → Calls Try.prog 49 #[.slice p.A5 g.globs.length p.c5, .func (.func 50) #[.agg #[.slice q.A0 c.types.length q.d0, .slice q.A1 c.funcs.length q.d1, .slice q.A2 c.globs.length q.d2, .slice q.A3 c.tabs.length q.d3, .slice q.A4 c.mems.length q.d4, .int .i64 c.hosts, .int .i64 c.vars, .int .i64 c.els, .int .i64 c.dats, .bool c.counted]] #[]] V (NumIs V e5)) := Lib.hid fun V hV => he5 ▸ each_glob 50 (fun _ _ => rfl) (.agg #[.slice q.A0 c.types.length q.d0, .slice q.A1 c.funcs.length q.d1, .slice q.A2 c.globs.length q.d2, .slice q.A3 c.tabs.length q.d3, .slice q.A4 c.mems.length q.d4, .int .i64 c.hosts, .int .i64 c.vars, .int .i64 c.els, .int .i64 c.dats, .bool c.counted]) V g.globs (globE c) (lst_below hm.l5 hV) (by have := hs.globs; omega) (Lib.hid fun W x A1 c1 _ hW h1 => global_any q c W (hl.below (hV.trans (hW.mono hV.size))) x h1)
  obtain ⟨e6, he6⟩ : ∃ e, expE c [] g.expos = e := ⟨_, rfl⟩
  have HC6 : Hid (∀ V, Below w.heap.size w V → Calls Try.prog 51 #[.agg #[.slice q.A0 c.types.length q.d0, .slice q.A1 c.funcs.length q.d1, .slice q.A2 c.globs.length q.d2, .slice q.A3 c.tabs.length q.d3, .slice q.A4 c.mems.length q.d4, .int .i64 c.hosts, .int .i64 c.vars, .int .i64 c.els, .int .i64 c.dats, .bool c.counted], .slice p.A6 g.expos.length p.c6] V (NumIs V e6)) := Lib.hid fun V hV => he6 ▸ exports_any q c V g.expos (lst_below hm.l6 hV) (by have := hs.expos; omega) hs.ex
  obtain ⟨e7, he7⟩ : ∃ e, eachE (startE c) g.starts = e := ⟨_, rfl⟩
  have HC7 : Hid (∀ V, Below w.heap.size w V → Calls Try.prog 52 #[.slice p.A7 g.starts.length p.c7, .func (.func 53) #[.agg #[.slice q.A0 c.types.length q.d0, .slice q.A1 c.funcs.length q.d1, .slice q.A2 c.globs.length q.d2, .slice q.A3 c.tabs.length q.d3, .slice q.A4 c.mems.length q.d4, .int .i64 c.hosts, .int .i64 c.vars, .int .i64 c.els, .int .i64 c.dats, .bool c.counted]] #[]] V (NumIs V e7)) := Lib.hid fun V hV => he7 ▸ each_int 53 (fun _ _ => rfl) (.agg #[.slice q.A0 c.types.length q.d0, .slice q.A1 c.funcs.length q.d1, .slice q.A2 c.globs.length q.d2, .slice q.A3 c.tabs.length q.d3, .slice q.A4 c.mems.length q.d4, .int .i64 c.hosts, .int .i64 c.vars, .int .i64 c.els, .int .i64 c.dats, .bool c.counted]) V g.starts (startE c) (lst_below hm.l7 hV) (by have := hs.starts; omega) (Lib.hid fun W x _ hW => start_any q c W (hl.below (hV.trans (hW.mono hV.size))) hf x)
  obtain ⟨e8, he8⟩ : ∃ e, eachE (elE c) g.els = e := ⟨_, rfl⟩
  have HC8 : Hid (∀ V, Below w.heap.size w V → Calls Try.prog 54 #[.slice p.A8 g.els.length p.c8, .func (.func 55) #[.agg #[.slice q.A0 c.types.length q.d0, .slice q.A1 c.funcs.length q.d1, .slice q.A2 c.globs.length q.d2, .slice q.A3 c.tabs.length q.d3, .slice q.A4 c.mems.length q.d4, .int .i64 c.hosts, .int .i64 c.vars, .int .i64 c.els, .int .i64 c.dats, .bool c.counted]] #[]] V (NumIs V e8)) := Lib.hid fun V hV => he8 ▸ each_el 55 (fun _ _ => rfl) (.agg #[.slice q.A0 c.types.length q.d0, .slice q.A1 c.funcs.length q.d1, .slice q.A2 c.globs.length q.d2, .slice q.A3 c.tabs.length q.d3, .slice q.A4 c.mems.length q.d4, .int .i64 c.hosts, .int .i64 c.vars, .int .i64 c.els, .int .i64 c.dats, .bool c.counted]) V g.els (elE c) (lst_below hm.l8 hV) (by have := hs.els; omega) (Lib.hid fun W x A1 c1 A2 c2 hx hW h1 h2 => elem_any q c W (hl.below (hV.trans (hW.mono hV.size))) x h1 h2 (by have := hs.el x hx; omega))
  obtain ⟨e9, he9⟩ : ∃ e, eachE (datE c) g.dats = e := ⟨_, rfl⟩
  have HC9 : Hid (∀ V, Below w.heap.size w V → Calls Try.prog 56 #[.slice p.A10 g.dats.length p.c10, .func (.func 57) #[.agg #[.slice q.A0 c.types.length q.d0, .slice q.A1 c.funcs.length q.d1, .slice q.A2 c.globs.length q.d2, .slice q.A3 c.tabs.length q.d3, .slice q.A4 c.mems.length q.d4, .int .i64 c.hosts, .int .i64 c.vars, .int .i64 c.els, .int .i64 c.dats, .bool c.counted]] #[]] V (NumIs V e9)) := Lib.hid fun V hV => he9 ▸ each_dat 57 (fun _ _ => rfl) (.agg #[.slice q.A0 c.types.length q.d0, .slice q.A1 c.funcs.length q.d1, .slice q.A2 c.globs.length q.d2, .slice q.A3 c.tabs.length q.d3, .slice q.A4 c.mems.length q.d4, .int .i64 c.hosts, .int .i64 c.vars, .int .i64 c.els, .int .i64 c.dats, .bool c.counted]) V g.dats (datE c) (lst_below hm.l10 hV) (by have := hs.dats; omega) (Lib.hid fun W x A1 c1 A2 c2 _ hW h1 _ => data_any q c W (hl.below (hV.trans (hW.mono hV.size))) x h1 A2 c2)
  obtain ⟨e10, he10⟩ : ∃ e, eachE (locE c) g.funcs = e := ⟨_, rfl⟩
  have HC10 : Hid (∀ V, Below w.heap.size w V → Calls Try.prog 43 #[.slice p.A2 g.funcs.length p.c2, .func (.func 58) #[.agg #[.slice q.A0 c.types.length q.d0, .slice q.A1 c.funcs.length q.d1, .slice q.A2 c.globs.length q.d2, .slice q.A3 c.tabs.length q.d3, .slice q.A4 c.mems.length q.d4, .int .i64 c.hosts, .int .i64 c.vars, .int .i64 c.els, .int .i64 c.dats, .bool c.counted]] #[]] V (NumIs V e10)) := Lib.hid fun V hV => he10 ▸ each_fn 58 (fun _ _ => rfl) (.agg #[.slice q.A0 c.types.length q.d0, .slice q.A1 c.funcs.length q.d1, .slice q.A2 c.globs.length q.d2, .slice q.A3 c.tabs.length q.d3, .slice q.A4 c.mems.length q.d4, .int .i64 c.hosts, .int .i64 c.vars, .int .i64 c.els, .int .i64 c.dats, .bool c.counted]) V g.funcs (locE c) (lst_below hm.l2 hV) (by have := hs.funcs; omega) (Lib.hid fun W x A1 c1 A2 c2 hx hW _ _ => locals_any q c W (hl.below (hV.trans (hW.mono hV.size))) hf x (by have := hs.fn x hx; omega) A1 c1 A2 c2)
  have hE : lookE c g = firstE [e0, e1, e2, e3, e4, e5, e6, e7, e8, e9, e10] := by unfold lookE looks; rw [he0, he1, he2, he3, he4, he5, he6, he7, he8, he9, he10]
  rw [hE]
  clear hl hm hs hf he0 he1 he2 he3 he4 he5 he6 he7 he8 he9 he10 hE
  go_enter Try.func32, Try.ntmps32
  go_wp2_with fail
  refine wp_region_held_drew (S := SK (w.heap.size + 1) (w.heap.size + 1 + 1) g p q c) (by kernel_rfl) hS0 (fun hS => ?_)
  generalize (((w.alloc (.cells #[.slice q.A0 c.types.length q.d0, .slice q.A1 c.funcs.length q.d1, .slice q.A2 c.globs.length q.d2, .slice q.A3 c.tabs.length q.d3, .slice q.A4 c.mems.length q.d4, .int .i64 c.hosts, .int .i64 c.vars, .int .i64 c.els, .int .i64 c.dats, .bool c.counted] 66)).alloc (.cells #[.slice p.A0 g.types.length p.c0, .slice p.A1 g.imps.length p.c1, .slice p.A2 g.funcs.length p.c2, .slice p.A3 g.tabs.length p.c3, .slice p.A4 g.mems.length p.c4, .slice p.A5 g.globs.length p.c5, .slice p.A6 g.expos.length p.c6, .slice p.A7 g.starts.length p.c7, .slice p.A8 g.els.length p.c8, .slice p.A9 g.counts.length p.c9, .slice p.A10 g.dats.length p.c10, .slice p.A11 g.cuss.length p.c11] 55)).alloc (.cells #[.slice q.A0 c.types.length q.d0, .slice q.A1 c.funcs.length q.d1, .slice q.A2 c.globs.length q.d2, .slice q.A3 c.tabs.length q.d3, .slice q.A4 c.mems.length q.d4, .int .i64 c.hosts, .int .i64 c.vars, .int .i64 c.els, .int .i64 c.dats, .bool c.counted] 103)).drew = V at *
  have HBV := HBV0
  have HVS := HVS0
  have HS0 := Lib.hid hS
  have HSB : Hid (∀ v, Below V.heap.size V v → SK (w.heap.size + 1) (w.heap.size + 1 + 1) g p q c v) := Lib.hid fun v hv => ⟨boxC_keep HS0.out.1 (hv.block _ (by have := HVS.out; omega)), boxG_keep HS0.out.2 (hv.block _ (by have := HVS.out; omega))⟩
  have HR0 := Lib.hid (Below.refl V.heap.size V)
  clear HBV0 HVS0 hS0
  refine wpAnyH_take (i := 0) (oi := { dst := some 8, op := .fieldAddr 55 (.tmp 3) 1, type := 0, pos := "look.go:21", after := #[], guard := none }) (v := ?_) rfl (by kernel_rfl) (by kernel_rfl) (by kernel_rfl) (fun _ _ _ h => h) (Or.inl ⟨by rfl, ?_⟩) hS ?_
  rotate_left
  · (intro w' hS'; obtain ⟨⟨s0, s1, s2, s3, s4, s5, s6, s7, s8, s9⟩, s10, s11, s12, s13, s14, s15, s16, s17, s18, s19, s20, s21⟩ := hS'; go_simp) <;> with_reducible rfl
  try simp only [Act.put, List.setIfInBounds_toArray, List.set_cons_zero, List.set_cons_succ]
  refine wpAnyH_take (i := 1) (oi := { dst := some 9, op := .load 47 (.tmp 8), type := 47, pos := "look.go:21", after := #[{ on := 0, ground := .data }], guard := none }) (v := ?_) rfl (by kernel_rfl) (by kernel_rfl) (by kernel_rfl) (fun _ _ _ h => h) (Or.inl ⟨by rfl, ?_⟩) hS ?_
  rotate_left
  · (intro w' hS'; obtain ⟨⟨s0, s1, s2, s3, s4, s5, s6, s7, s8, s9⟩, s10, s11, s12, s13, s14, s15, s16, s17, s18, s19, s20, s21⟩ := hS'; go_simp) <;> with_reducible rfl
  try simp only [Act.put, List.setIfInBounds_toArray, List.set_cons_zero, List.set_cons_succ]
  refine wpAnyH_take (i := 2) (oi := { dst := some 10, op := .load 103 (.tmp 5), type := 103, pos := "look.go:21", after := #[], guard := none }) (v := ?_) rfl (by kernel_rfl) (by kernel_rfl) (by kernel_rfl) (fun _ _ _ h => h) (Or.inl ⟨by rfl, ?_⟩) hS ?_
  rotate_left
  · (intro w' hS'; obtain ⟨⟨s0, s1, s2, s3, s4, s5, s6, s7, s8, s9⟩, s10, s11, s12, s13, s14, s15, s16, s17, s18, s19, s20, s21⟩ := hS'; go_simp) <;> with_reducible rfl
  try simp only [Act.put, List.setIfInBounds_toArray, List.set_cons_zero, List.set_cons_succ]
  refine wpAnyH_take (i := 3) (oi := { dst := some 11, op := .makeFunc (.func 42) #[.tmp 10] #[], type := 106, pos := "look.go:21", after := #[{ on := 2, ground := .data }], guard := none }) (v := ?_) rfl (by kernel_rfl) (by kernel_rfl) (by kernel_rfl) (fun _ _ _ h => h) (Or.inl ⟨by rfl, ?_⟩) hS ?_
  rotate_left
  · (intro w' hS'; obtain ⟨⟨s0, s1, s2, s3, s4, s5, s6, s7, s8, s9⟩, s10, s11, s12, s13, s14, s15, s16, s17, s18, s19, s20, s21⟩ := hS'; go_simp) <;> with_reducible rfl
  try simp only [Act.put, List.setIfInBounds_toArray, List.set_cons_zero, List.set_cons_succ]
  refine wpAnyH_take (i := 5) (oi := { dst := some 13, op := .fieldAddr 55 (.tmp 3) 2, type := 0, pos := "look.go:21", after := #[], guard := none }) (v := ?_) rfl (by kernel_rfl) (by kernel_rfl) (by kernel_rfl) (fun _ _ _ h => h) (Or.inl ⟨by rfl, ?_⟩) hS ?_
  rotate_left
  · (intro w' hS'; obtain ⟨⟨s0, s1, s2, s3, s4, s5, s6, s7, s8, s9⟩, s10, s11, s12, s13, s14, s15, s16, s17, s18, s19, s20, s21⟩ := hS'; go_simp) <;> with_reducible rfl
  try simp only [Act.put, List.setIfInBounds_toArray, List.set_cons_zero, List.set_cons_succ]
  refine wpAnyH_take (i := 6) (oi := { dst := some 14, op := .load 48 (.tmp 13), type := 48, pos := "look.go:21", after := #[{ on := 5, ground := .data }], guard := none }) (v := ?_) rfl (by kernel_rfl) (by kernel_rfl) (by kernel_rfl) (fun _ _ _ h => h) (Or.inl ⟨by rfl, ?_⟩) hS ?_
  rotate_left
  · (intro w' hS'; obtain ⟨⟨s0, s1, s2, s3, s4, s5, s6, s7, s8, s9⟩, s10, s11, s12, s13, s14, s15, s16, s17, s18, s19, s20, s21⟩ := hS'; go_simp) <;> with_reducible rfl
  try simp only [Act.put, List.setIfInBounds_toArray, List.set_cons_zero, List.set_cons_succ]
  refine wpAnyH_take (i := 7) (oi := { dst := some 15, op := .load 103 (.tmp 5), type := 103, pos := "look.go:21", after := #[], guard := none }) (v := ?_) rfl (by kernel_rfl) (by kernel_rfl) (by kernel_rfl) (fun _ _ _ h => h) (Or.inl ⟨by rfl, ?_⟩) hS ?_
  rotate_left
  · (intro w' hS'; obtain ⟨⟨s0, s1, s2, s3, s4, s5, s6, s7, s8, s9⟩, s10, s11, s12, s13, s14, s15, s16, s17, s18, s19, s20, s21⟩ := hS'; go_simp) <;> with_reducible rfl
  try simp only [Act.put, List.setIfInBounds_toArray, List.set_cons_zero, List.set_cons_succ]
  refine wpAnyH_take (i := 8) (oi := { dst := some 16, op := .makeFunc (.func 44) #[.tmp 15] #[], type := 108, pos := "look.go:21", after := #[{ on := 7, ground := .data }], guard := none }) (v := ?_) rfl (by kernel_rfl) (by kernel_rfl) (by kernel_rfl) (fun _ _ _ h => h) (Or.inl ⟨by rfl, ?_⟩) hS ?_
  rotate_left
  · (intro w' hS'; obtain ⟨⟨s0, s1, s2, s3, s4, s5, s6, s7, s8, s9⟩, s10, s11, s12, s13, s14, s15, s16, s17, s18, s19, s20, s21⟩ := hS'; go_simp) <;> with_reducible rfl
  try simp only [Act.put, List.setIfInBounds_toArray, List.set_cons_zero, List.set_cons_succ]
  refine wpAnyH_take (i := 10) (oi := { dst := some 18, op := .fieldAddr 55 (.tmp 3) 3, type := 0, pos := "look.go:21", after := #[], guard := none }) (v := ?_) rfl (by kernel_rfl) (by kernel_rfl) (by kernel_rfl) (fun _ _ _ h => h) (Or.inl ⟨by rfl, ?_⟩) hS ?_
  rotate_left
  · (intro w' hS'; obtain ⟨⟨s0, s1, s2, s3, s4, s5, s6, s7, s8, s9⟩, s10, s11, s12, s13, s14, s15, s16, s17, s18, s19, s20, s21⟩ := hS'; go_simp) <;> with_reducible rfl
  try simp only [Act.put, List.setIfInBounds_toArray, List.set_cons_zero, List.set_cons_succ]
  refine wpAnyH_take (i := 11) (oi := { dst := some 19, op := .load 45 (.tmp 18), type := 45, pos := "look.go:21", after := #[{ on := 10, ground := .data }], guard := none }) (v := ?_) rfl (by kernel_rfl) (by kernel_rfl) (by kernel_rfl) (fun _ _ _ h => h) (Or.inl ⟨by rfl, ?_⟩) hS ?_
  rotate_left
  · (intro w' hS'; obtain ⟨⟨s0, s1, s2, s3, s4, s5, s6, s7, s8, s9⟩, s10, s11, s12, s13, s14, s15, s16, s17, s18, s19, s20, s21⟩ := hS'; go_simp) <;> with_reducible rfl
  try simp only [Act.put, List.setIfInBounds_toArray, List.set_cons_zero, List.set_cons_succ]
  refine wpAnyH_take (i := 13) (oi := { dst := some 21, op := .fieldAddr 55 (.tmp 3) 4, type := 0, pos := "look.go:21", after := #[], guard := none }) (v := ?_) rfl (by kernel_rfl) (by kernel_rfl) (by kernel_rfl) (fun _ _ _ h => h) (Or.inl ⟨by rfl, ?_⟩) hS ?_
  rotate_left
  · (intro w' hS'; obtain ⟨⟨s0, s1, s2, s3, s4, s5, s6, s7, s8, s9⟩, s10, s11, s12, s13, s14, s15, s16, s17, s18, s19, s20, s21⟩ := hS'; go_simp) <;> with_reducible rfl
  try simp only [Act.put, List.setIfInBounds_toArray, List.set_cons_zero, List.set_cons_succ]
  refine wpAnyH_take (i := 14) (oi := { dst := some 22, op := .load 45 (.tmp 21), type := 45, pos := "look.go:21", after := #[{ on := 13, ground := .data }], guard := none }) (v := ?_) rfl (by kernel_rfl) (by kernel_rfl) (by kernel_rfl) (fun _ _ _ h => h) (Or.inl ⟨by rfl, ?_⟩) hS ?_
  rotate_left
  · (intro w' hS'; obtain ⟨⟨s0, s1, s2, s3, s4, s5, s6, s7, s8, s9⟩, s10, s11, s12, s13, s14, s15, s16, s17, s18, s19, s20, s21⟩ := hS'; go_simp) <;> with_reducible rfl
  try simp only [Act.put, List.setIfInBounds_toArray, List.set_cons_zero, List.set_cons_succ]
  refine wpAnyH_take (i := 16) (oi := { dst := some 24, op := .load 103 (.tmp 5), type := 103, pos := "look.go:21", after := #[], guard := none }) (v := ?_) rfl (by kernel_rfl) (by kernel_rfl) (by kernel_rfl) (fun _ _ _ h => h) (Or.inl ⟨by rfl, ?_⟩) hS ?_
  rotate_left
  · (intro w' hS'; obtain ⟨⟨s0, s1, s2, s3, s4, s5, s6, s7, s8, s9⟩, s10, s11, s12, s13, s14, s15, s16, s17, s18, s19, s20, s21⟩ := hS'; go_simp) <;> with_reducible rfl
  try simp only [Act.put, List.setIfInBounds_toArray, List.set_cons_zero, List.set_cons_succ]
  refine wpAnyH_take (i := 18) (oi := { dst := some 26, op := .fieldAddr 55 (.tmp 3) 5, type := 0, pos := "look.go:21", after := #[], guard := none }) (v := ?_) rfl (by kernel_rfl) (by kernel_rfl) (by kernel_rfl) (fun _ _ _ h => h) (Or.inl ⟨by rfl, ?_⟩) hS ?_
  rotate_left
  · (intro w' hS'; obtain ⟨⟨s0, s1, s2, s3, s4, s5, s6, s7, s8, s9⟩, s10, s11, s12, s13, s14, s15, s16, s17, s18, s19, s20, s21⟩ := hS'; go_simp) <;> with_reducible rfl
  try simp only [Act.put, List.setIfInBounds_toArray, List.set_cons_zero, List.set_cons_succ]
  refine wpAnyH_take (i := 19) (oi := { dst := some 27, op := .load 49 (.tmp 26), type := 49, pos := "look.go:21", after := #[{ on := 18, ground := .data }], guard := none }) (v := ?_) rfl (by kernel_rfl) (by kernel_rfl) (by kernel_rfl) (fun _ _ _ h => h) (Or.inl ⟨by rfl, ?_⟩) hS ?_
  rotate_left
  · (intro w' hS'; obtain ⟨⟨s0, s1, s2, s3, s4, s5, s6, s7, s8, s9⟩, s10, s11, s12, s13, s14, s15, s16, s17, s18, s19, s20, s21⟩ := hS'; go_simp) <;> with_reducible rfl
  try simp only [Act.put, List.setIfInBounds_toArray, List.set_cons_zero, List.set_cons_succ]
  refine wpAnyH_take (i := 20) (oi := { dst := some 28, op := .load 103 (.tmp 5), type := 103, pos := "look.go:21", after := #[], guard := none }) (v := ?_) rfl (by kernel_rfl) (by kernel_rfl) (by kernel_rfl) (fun _ _ _ h => h) (Or.inl ⟨by rfl, ?_⟩) hS ?_
  rotate_left
  · (intro w' hS'; obtain ⟨⟨s0, s1, s2, s3, s4, s5, s6, s7, s8, s9⟩, s10, s11, s12, s13, s14, s15, s16, s17, s18, s19, s20, s21⟩ := hS'; go_simp) <;> with_reducible rfl
  try simp only [Act.put, List.setIfInBounds_toArray, List.set_cons_zero, List.set_cons_succ]
  refine wpAnyH_take (i := 21) (oi := { dst := some 29, op := .makeFunc (.func 50) #[.tmp 28] #[], type := 113, pos := "look.go:21", after := #[{ on := 20, ground := .data }], guard := none }) (v := ?_) rfl (by kernel_rfl) (by kernel_rfl) (by kernel_rfl) (fun _ _ _ h => h) (Or.inl ⟨by rfl, ?_⟩) hS ?_
  rotate_left
  · (intro w' hS'; obtain ⟨⟨s0, s1, s2, s3, s4, s5, s6, s7, s8, s9⟩, s10, s11, s12, s13, s14, s15, s16, s17, s18, s19, s20, s21⟩ := hS'; go_simp) <;> with_reducible rfl
  try simp only [Act.put, List.setIfInBounds_toArray, List.set_cons_zero, List.set_cons_succ]
  refine wpAnyH_take (i := 23) (oi := { dst := some 31, op := .load 103 (.tmp 5), type := 103, pos := "look.go:21", after := #[], guard := none }) (v := ?_) rfl (by kernel_rfl) (by kernel_rfl) (by kernel_rfl) (fun _ _ _ h => h) (Or.inl ⟨by rfl, ?_⟩) hS ?_
  rotate_left
  · (intro w' hS'; obtain ⟨⟨s0, s1, s2, s3, s4, s5, s6, s7, s8, s9⟩, s10, s11, s12, s13, s14, s15, s16, s17, s18, s19, s20, s21⟩ := hS'; go_simp) <;> with_reducible rfl
  try simp only [Act.put, List.setIfInBounds_toArray, List.set_cons_zero, List.set_cons_succ]
  refine wpAnyH_take (i := 24) (oi := { dst := some 32, op := .fieldAddr 55 (.tmp 3) 6, type := 0, pos := "look.go:21", after := #[], guard := none }) (v := ?_) rfl (by kernel_rfl) (by kernel_rfl) (by kernel_rfl) (fun _ _ _ h => h) (Or.inl ⟨by rfl, ?_⟩) hS ?_
  rotate_left
  · (intro w' hS'; obtain ⟨⟨s0, s1, s2, s3, s4, s5, s6, s7, s8, s9⟩, s10, s11, s12, s13, s14, s15, s16, s17, s18, s19, s20, s21⟩ := hS'; go_simp) <;> with_reducible rfl
  try simp only [Act.put, List.setIfInBounds_toArray, List.set_cons_zero, List.set_cons_succ]
  refine wpAnyH_take (i := 25) (oi := { dst := some 33, op := .load 50 (.tmp 32), type := 50, pos := "look.go:21", after := #[{ on := 24, ground := .data }], guard := none }) (v := ?_) rfl (by kernel_rfl) (by kernel_rfl) (by kernel_rfl) (fun _ _ _ h => h) (Or.inl ⟨by rfl, ?_⟩) hS ?_
  rotate_left
  · (intro w' hS'; obtain ⟨⟨s0, s1, s2, s3, s4, s5, s6, s7, s8, s9⟩, s10, s11, s12, s13, s14, s15, s16, s17, s18, s19, s20, s21⟩ := hS'; go_simp) <;> with_reducible rfl
  try simp only [Act.put, List.setIfInBounds_toArray, List.set_cons_zero, List.set_cons_succ]
  refine wpAnyH_take (i := 27) (oi := { dst := some 35, op := .fieldAddr 55 (.tmp 3) 7, type := 0, pos := "look.go:21", after := #[], guard := none }) (v := ?_) rfl (by kernel_rfl) (by kernel_rfl) (by kernel_rfl) (fun _ _ _ h => h) (Or.inl ⟨by rfl, ?_⟩) hS ?_
  rotate_left
  · (intro w' hS'; obtain ⟨⟨s0, s1, s2, s3, s4, s5, s6, s7, s8, s9⟩, s10, s11, s12, s13, s14, s15, s16, s17, s18, s19, s20, s21⟩ := hS'; go_simp) <;> with_reducible rfl
  try simp only [Act.put, List.setIfInBounds_toArray, List.set_cons_zero, List.set_cons_succ]
  refine wpAnyH_take (i := 28) (oi := { dst := some 36, op := .load 23 (.tmp 35), type := 23, pos := "look.go:21", after := #[{ on := 27, ground := .data }], guard := none }) (v := ?_) rfl (by kernel_rfl) (by kernel_rfl) (by kernel_rfl) (fun _ _ _ h => h) (Or.inl ⟨by rfl, ?_⟩) hS ?_
  rotate_left
  · (intro w' hS'; obtain ⟨⟨s0, s1, s2, s3, s4, s5, s6, s7, s8, s9⟩, s10, s11, s12, s13, s14, s15, s16, s17, s18, s19, s20, s21⟩ := hS'; go_simp) <;> with_reducible rfl
  try simp only [Act.put, List.setIfInBounds_toArray, List.set_cons_zero, List.set_cons_succ]
  refine wpAnyH_take (i := 29) (oi := { dst := some 37, op := .load 103 (.tmp 5), type := 103, pos := "look.go:21", after := #[], guard := none }) (v := ?_) rfl (by kernel_rfl) (by kernel_rfl) (by kernel_rfl) (fun _ _ _ h => h) (Or.inl ⟨by rfl, ?_⟩) hS ?_
  rotate_left
  · (intro w' hS'; obtain ⟨⟨s0, s1, s2, s3, s4, s5, s6, s7, s8, s9⟩, s10, s11, s12, s13, s14, s15, s16, s17, s18, s19, s20, s21⟩ := hS'; go_simp) <;> with_reducible rfl
  try simp only [Act.put, List.setIfInBounds_toArray, List.set_cons_zero, List.set_cons_succ]
  refine wpAnyH_take (i := 30) (oi := { dst := some 38, op := .makeFunc (.func 53) #[.tmp 37] #[], type := 116, pos := "look.go:21", after := #[{ on := 29, ground := .data }], guard := none }) (v := ?_) rfl (by kernel_rfl) (by kernel_rfl) (by kernel_rfl) (fun _ _ _ h => h) (Or.inl ⟨by rfl, ?_⟩) hS ?_
  rotate_left
  · (intro w' hS'; obtain ⟨⟨s0, s1, s2, s3, s4, s5, s6, s7, s8, s9⟩, s10, s11, s12, s13, s14, s15, s16, s17, s18, s19, s20, s21⟩ := hS'; go_simp) <;> with_reducible rfl
  try simp only [Act.put, List.setIfInBounds_toArray, List.set_cons_zero, List.set_cons_succ]
  refine wpAnyH_take (i := 32) (oi := { dst := some 40, op := .fieldAddr 55 (.tmp 3) 8, type := 0, pos := "look.go:21", after := #[], guard := none }) (v := ?_) rfl (by kernel_rfl) (by kernel_rfl) (by kernel_rfl) (fun _ _ _ h => h) (Or.inl ⟨by rfl, ?_⟩) hS ?_
  rotate_left
  · (intro w' hS'; obtain ⟨⟨s0, s1, s2, s3, s4, s5, s6, s7, s8, s9⟩, s10, s11, s12, s13, s14, s15, s16, s17, s18, s19, s20, s21⟩ := hS'; go_simp) <;> with_reducible rfl
  try simp only [Act.put, List.setIfInBounds_toArray, List.set_cons_zero, List.set_cons_succ]
  refine wpAnyH_take (i := 33) (oi := { dst := some 41, op := .load 51 (.tmp 40), type := 51, pos := "look.go:21", after := #[{ on := 32, ground := .data }], guard := none }) (v := ?_) rfl (by kernel_rfl) (by kernel_rfl) (by kernel_rfl) (fun _ _ _ h => h) (Or.inl ⟨by rfl, ?_⟩) hS ?_
  rotate_left
  · (intro w' hS'; obtain ⟨⟨s0, s1, s2, s3, s4, s5, s6, s7, s8, s9⟩, s10, s11, s12, s13, s14, s15, s16, s17, s18, s19, s20, s21⟩ := hS'; go_simp) <;> with_reducible rfl
  try simp only [Act.put, List.setIfInBounds_toArray, List.set_cons_zero, List.set_cons_succ]
  refine wpAnyH_take (i := 34) (oi := { dst := some 42, op := .load 103 (.tmp 5), type := 103, pos := "look.go:21", after := #[], guard := none }) (v := ?_) rfl (by kernel_rfl) (by kernel_rfl) (by kernel_rfl) (fun _ _ _ h => h) (Or.inl ⟨by rfl, ?_⟩) hS ?_
  rotate_left
  · (intro w' hS'; obtain ⟨⟨s0, s1, s2, s3, s4, s5, s6, s7, s8, s9⟩, s10, s11, s12, s13, s14, s15, s16, s17, s18, s19, s20, s21⟩ := hS'; go_simp) <;> with_reducible rfl
  try simp only [Act.put, List.setIfInBounds_toArray, List.set_cons_zero, List.set_cons_succ]
  refine wpAnyH_take (i := 35) (oi := { dst := some 43, op := .makeFunc (.func 55) #[.tmp 42] #[], type := 118, pos := "look.go:21", after := #[{ on := 34, ground := .data }], guard := none }) (v := ?_) rfl (by kernel_rfl) (by kernel_rfl) (by kernel_rfl) (fun _ _ _ h => h) (Or.inl ⟨by rfl, ?_⟩) hS ?_
  rotate_left
  · (intro w' hS'; obtain ⟨⟨s0, s1, s2, s3, s4, s5, s6, s7, s8, s9⟩, s10, s11, s12, s13, s14, s15, s16, s17, s18, s19, s20, s21⟩ := hS'; go_simp) <;> with_reducible rfl
  try simp only [Act.put, List.setIfInBounds_toArray, List.set_cons_zero, List.set_cons_succ]
  refine wpAnyH_take (i := 37) (oi := { dst := some 45, op := .fieldAddr 55 (.tmp 3) 10, type := 0, pos := "look.go:21", after := #[], guard := none }) (v := ?_) rfl (by kernel_rfl) (by kernel_rfl) (by kernel_rfl) (fun _ _ _ h => h) (Or.inl ⟨by rfl, ?_⟩) hS ?_
  rotate_left
  · (intro w' hS'; obtain ⟨⟨s0, s1, s2, s3, s4, s5, s6, s7, s8, s9⟩, s10, s11, s12, s13, s14, s15, s16, s17, s18, s19, s20, s21⟩ := hS'; go_simp) <;> with_reducible rfl
  try simp only [Act.put, List.setIfInBounds_toArray, List.set_cons_zero, List.set_cons_succ]
  refine wpAnyH_take (i := 38) (oi := { dst := some 46, op := .load 52 (.tmp 45), type := 52, pos := "look.go:21", after := #[{ on := 37, ground := .data }], guard := none }) (v := ?_) rfl (by kernel_rfl) (by kernel_rfl) (by kernel_rfl) (fun _ _ _ h => h) (Or.inl ⟨by rfl, ?_⟩) hS ?_
  rotate_left
  · (intro w' hS'; obtain ⟨⟨s0, s1, s2, s3, s4, s5, s6, s7, s8, s9⟩, s10, s11, s12, s13, s14, s15, s16, s17, s18, s19, s20, s21⟩ := hS'; go_simp) <;> with_reducible rfl
  try simp only [Act.put, List.setIfInBounds_toArray, List.set_cons_zero, List.set_cons_succ]
  refine wpAnyH_take (i := 39) (oi := { dst := some 47, op := .load 103 (.tmp 5), type := 103, pos := "look.go:21", after := #[], guard := none }) (v := ?_) rfl (by kernel_rfl) (by kernel_rfl) (by kernel_rfl) (fun _ _ _ h => h) (Or.inl ⟨by rfl, ?_⟩) hS ?_
  rotate_left
  · (intro w' hS'; obtain ⟨⟨s0, s1, s2, s3, s4, s5, s6, s7, s8, s9⟩, s10, s11, s12, s13, s14, s15, s16, s17, s18, s19, s20, s21⟩ := hS'; go_simp) <;> with_reducible rfl
  try simp only [Act.put, List.setIfInBounds_toArray, List.set_cons_zero, List.set_cons_succ]
  refine wpAnyH_take (i := 40) (oi := { dst := some 48, op := .makeFunc (.func 57) #[.tmp 47] #[], type := 120, pos := "look.go:21", after := #[{ on := 39, ground := .data }], guard := none }) (v := ?_) rfl (by kernel_rfl) (by kernel_rfl) (by kernel_rfl) (fun _ _ _ h => h) (Or.inl ⟨by rfl, ?_⟩) hS ?_
  rotate_left
  · (intro w' hS'; obtain ⟨⟨s0, s1, s2, s3, s4, s5, s6, s7, s8, s9⟩, s10, s11, s12, s13, s14, s15, s16, s17, s18, s19, s20, s21⟩ := hS'; go_simp) <;> with_reducible rfl
  try simp only [Act.put, List.setIfInBounds_toArray, List.set_cons_zero, List.set_cons_succ]
  refine wpAnyH_take (i := 42) (oi := { dst := some 50, op := .fieldAddr 55 (.tmp 3) 2, type := 0, pos := "look.go:21", after := #[], guard := none }) (v := ?_) rfl (by kernel_rfl) (by kernel_rfl) (by kernel_rfl) (fun _ _ _ h => h) (Or.inl ⟨by rfl, ?_⟩) hS ?_
  rotate_left
  · (intro w' hS'; obtain ⟨⟨s0, s1, s2, s3, s4, s5, s6, s7, s8, s9⟩, s10, s11, s12, s13, s14, s15, s16, s17, s18, s19, s20, s21⟩ := hS'; go_simp) <;> with_reducible rfl
  try simp only [Act.put, List.setIfInBounds_toArray, List.set_cons_zero, List.set_cons_succ]
  refine wpAnyH_take (i := 43) (oi := { dst := some 51, op := .load 48 (.tmp 50), type := 48, pos := "look.go:21", after := #[{ on := 42, ground := .data }], guard := none }) (v := ?_) rfl (by kernel_rfl) (by kernel_rfl) (by kernel_rfl) (fun _ _ _ h => h) (Or.inl ⟨by rfl, ?_⟩) hS ?_
  rotate_left
  · (intro w' hS'; obtain ⟨⟨s0, s1, s2, s3, s4, s5, s6, s7, s8, s9⟩, s10, s11, s12, s13, s14, s15, s16, s17, s18, s19, s20, s21⟩ := hS'; go_simp) <;> with_reducible rfl
  try simp only [Act.put, List.setIfInBounds_toArray, List.set_cons_zero, List.set_cons_succ]
  refine wpAnyH_take (i := 44) (oi := { dst := some 52, op := .load 103 (.tmp 5), type := 103, pos := "look.go:21", after := #[], guard := none }) (v := ?_) rfl (by kernel_rfl) (by kernel_rfl) (by kernel_rfl) (fun _ _ _ h => h) (Or.inl ⟨by rfl, ?_⟩) hS ?_
  rotate_left
  · (intro w' hS'; obtain ⟨⟨s0, s1, s2, s3, s4, s5, s6, s7, s8, s9⟩, s10, s11, s12, s13, s14, s15, s16, s17, s18, s19, s20, s21⟩ := hS'; go_simp) <;> with_reducible rfl
  try simp only [Act.put, List.setIfInBounds_toArray, List.set_cons_zero, List.set_cons_succ]
  refine wpAnyH_take (i := 45) (oi := { dst := some 53, op := .makeFunc (.func 58) #[.tmp 52] #[], type := 108, pos := "look.go:21", after := #[{ on := 44, ground := .data }], guard := none }) (v := ?_) rfl (by kernel_rfl) (by kernel_rfl) (by kernel_rfl) (fun _ _ _ h => h) (Or.inl ⟨by rfl, ?_⟩) hS ?_
  rotate_left
  · (intro w' hS'; obtain ⟨⟨s0, s1, s2, s3, s4, s5, s6, s7, s8, s9⟩, s10, s11, s12, s13, s14, s15, s16, s17, s18, s19, s20, s21⟩ := hS'; go_simp) <;> with_reducible rfl
  try simp only [Act.put, List.setIfInBounds_toArray, List.set_cons_zero, List.set_cons_succ]
  refine wpAnyH_ready (rs := [4]) (by kernel_rfl) (by simp) ?_
  refine AllReadyH.cons (o := { dst := some 12, op := .call { callee := .value (.func 41), args := #[.tmp 9, .tmp 11], argTypes := #[47, 106] }, type := 40, pos := "look.go:22", after := #[{ on := 1, ground := .data }, { on := 3, ground := .data }], guard := none }) rfl (fun K' hK => ?_) (AllReadyH.nil)
  go_simp
  refine (HC0.out V HBV.out).mono ?_
  rintro en V1 ⟨rfl, hb1⟩
  have HB1 := Lib.hid (HBV.out.trans (hb1.mono HBV.out.size))
  have HR1 := Lib.hid (HR0.out.trans (hb1.mono HR0.out.size))
  have HS1 := Lib.hid (HSB.out V1 HR1.out)
  clear hb1 HC0 HBV HR0
  go_wp2_with fail
  refine hK.out _ _ HS1.out (fun hS => ?_)
  clear hK K'
  try simp only [Act.put, List.setIfInBounds_toArray, List.set_cons_zero, List.set_cons_succ]
  refine wpAnyH_ready (rs := [9]) (by kernel_rfl) (by simp) ?_
  refine AllReadyH.cons (o := { dst := some 17, op := .call { callee := .value (.func 43), args := #[.tmp 14, .tmp 16], argTypes := #[48, 108] }, type := 40, pos := "look.go:23", after := #[{ on := 6, ground := .data }, { on := 8, ground := .data }, { on := 4, ground := .chain }], guard := none }) rfl (fun K' hK => ?_) (AllReadyH.nil)
  go_simp
  refine (HC1.out V1 HB1.out).mono ?_
  rintro en V2 ⟨rfl, hb1⟩
  have HB2 := Lib.hid (HB1.out.trans (hb1.mono HB1.out.size))
  have HR2 := Lib.hid (HR1.out.trans (hb1.mono HR1.out.size))
  have HS2 := Lib.hid (HSB.out V2 HR2.out)
  clear hb1 HC1 HB1 HR1
  go_wp2_with fail
  refine hK.out _ _ HS2.out (fun hS => ?_)
  clear hK K'
  try simp only [Act.put, List.setIfInBounds_toArray, List.set_cons_zero, List.set_cons_succ]
  refine wpAnyH_ready (rs := [12]) (by kernel_rfl) (by simp) ?_
  refine AllReadyH.cons (o := { dst := some 20, op := .call { callee := .value (.func 45), args := #[.tmp 19, .func 46], argTypes := #[45, 110] }, type := 40, pos := "look.go:24", after := #[{ on := 11, ground := .data }, { on := 9, ground := .chain }], guard := none }) rfl (fun K' hK => ?_) (AllReadyH.nil)
  go_simp
  refine (HC2.out V2 HB2.out).mono ?_
  rintro en V3 ⟨rfl, hb1⟩
  have HB3 := Lib.hid (HB2.out.trans (hb1.mono HB2.out.size))
  have HR3 := Lib.hid (HR2.out.trans (hb1.mono HR2.out.size))
  have HS3 := Lib.hid (HSB.out V3 HR3.out)
  clear hb1 HC2 HB2 HR2
  go_wp2_with fail
  refine hK.out _ _ HS3.out (fun hS => ?_)
  clear hK K'
  try simp only [Act.put, List.setIfInBounds_toArray, List.set_cons_zero, List.set_cons_succ]
  refine wpAnyH_ready (rs := [15]) (by kernel_rfl) (by simp) ?_
  refine AllReadyH.cons (o := { dst := some 23, op := .call { callee := .value (.func 45), args := #[.tmp 22, .func 47], argTypes := #[45, 110] }, type := 40, pos := "look.go:25", after := #[{ on := 14, ground := .data }, { on := 12, ground := .chain }], guard := none }) rfl (fun K' hK => ?_) (AllReadyH.nil)
  go_simp
  refine (HC3.out V3 HB3.out).mono ?_
  rintro en V4 ⟨rfl, hb1⟩
  have HB4 := Lib.hid (HB3.out.trans (hb1.mono HB3.out.size))
  have HR4 := Lib.hid (HR3.out.trans (hb1.mono HR3.out.size))
  have HS4 := Lib.hid (HSB.out V4 HR4.out)
  clear hb1 HC3 HB3 HR3
  go_wp2_with fail
  refine hK.out _ _ HS4.out (fun hS => ?_)
  clear hK K'
  try simp only [Act.put, List.setIfInBounds_toArray, List.set_cons_zero, List.set_cons_succ]
  refine wpAnyH_ready (rs := [17]) (by kernel_rfl) (by simp) ?_
  refine AllReadyH.cons (o := { dst := some 25, op := .call { callee := .value (.func 48), args := #[.tmp 24], argTypes := #[103] }, type := 40, pos := "look.go:26", after := #[{ on := 16, ground := .data }, { on := 15, ground := .chain }], guard := none }) rfl (fun K' hK => ?_) (AllReadyH.nil)
  go_simp
  refine (HC4.out V4 HB4.out).mono ?_
  rintro en V5 ⟨rfl, hb1⟩
  have HB5 := Lib.hid (HB4.out.trans (hb1.mono HB4.out.size))
  have HR5 := Lib.hid (HR4.out.trans (hb1.mono HR4.out.size))
  have HS5 := Lib.hid (HSB.out V5 HR5.out)
  clear hb1 HC4 HB4 HR4
  go_wp2_with fail
  refine hK.out _ _ HS5.out (fun hS => ?_)
  clear hK K'
  try simp only [Act.put, List.setIfInBounds_toArray, List.set_cons_zero, List.set_cons_succ]
  refine wpAnyH_ready (rs := [22]) (by kernel_rfl) (by simp) ?_
  refine AllReadyH.cons (o := { dst := some 30, op := .call { callee := .value (.func 49), args := #[.tmp 27, .tmp 29], argTypes := #[49, 113] }, type := 40, pos := "look.go:27", after := #[{ on := 19, ground := .data }, { on := 21, ground := .data }, { on := 17, ground := .chain }], guard := none }) rfl (fun K' hK => ?_) (AllReadyH.nil)
  go_simp
  refine (HC5.out V5 HB5.out).mono ?_
  rintro en V6 ⟨rfl, hb1⟩
  have HB6 := Lib.hid (HB5.out.trans (hb1.mono HB5.out.size))
  have HR6 := Lib.hid (HR5.out.trans (hb1.mono HR5.out.size))
  have HS6 := Lib.hid (HSB.out V6 HR6.out)
  clear hb1 HC5 HB5 HR5
  go_wp2_with fail
  refine hK.out _ _ HS6.out (fun hS => ?_)
  clear hK K'
  try simp only [Act.put, List.setIfInBounds_toArray, List.set_cons_zero, List.set_cons_succ]
  refine wpAnyH_ready (rs := [26]) (by kernel_rfl) (by simp) ?_
  refine AllReadyH.cons (o := { dst := some 34, op := .call { callee := .value (.func 51), args := #[.tmp 31, .tmp 33], argTypes := #[103, 50] }, type := 40, pos := "look.go:28", after := #[{ on := 23, ground := .data }, { on := 25, ground := .data }, { on := 22, ground := .chain }], guard := none }) rfl (fun K' hK => ?_) (AllReadyH.nil)
  go_simp
  refine (HC6.out V6 HB6.out).mono ?_
  rintro en V7 ⟨rfl, hb1⟩
  have HB7 := Lib.hid (HB6.out.trans (hb1.mono HB6.out.size))
  have HR7 := Lib.hid (HR6.out.trans (hb1.mono HR6.out.size))
  have HS7 := Lib.hid (HSB.out V7 HR7.out)
  clear hb1 HC6 HB6 HR6
  go_wp2_with fail
  refine hK.out _ _ HS7.out (fun hS => ?_)
  clear hK K'
  try simp only [Act.put, List.setIfInBounds_toArray, List.set_cons_zero, List.set_cons_succ]
  refine wpAnyH_ready (rs := [31]) (by kernel_rfl) (by simp) ?_
  refine AllReadyH.cons (o := { dst := some 39, op := .call { callee := .value (.func 52), args := #[.tmp 36, .tmp 38], argTypes := #[23, 116] }, type := 40, pos := "look.go:29", after := #[{ on := 28, ground := .data }, { on := 30, ground := .data }, { on := 26, ground := .chain }], guard := none }) rfl (fun K' hK => ?_) (AllReadyH.nil)
  go_simp
  refine (HC7.out V7 HB7.out).mono ?_
  rintro en V8 ⟨rfl, hb1⟩
  have HB8 := Lib.hid (HB7.out.trans (hb1.mono HB7.out.size))
  have HR8 := Lib.hid (HR7.out.trans (hb1.mono HR7.out.size))
  have HS8 := Lib.hid (HSB.out V8 HR8.out)
  clear hb1 HC7 HB7 HR7
  go_wp2_with fail
  refine hK.out _ _ HS8.out (fun hS => ?_)
  clear hK K'
  try simp only [Act.put, List.setIfInBounds_toArray, List.set_cons_zero, List.set_cons_succ]
  refine wpAnyH_ready (rs := [36]) (by kernel_rfl) (by simp) ?_
  refine AllReadyH.cons (o := { dst := some 44, op := .call { callee := .value (.func 54), args := #[.tmp 41, .tmp 43], argTypes := #[51, 118] }, type := 40, pos := "look.go:30", after := #[{ on := 33, ground := .data }, { on := 35, ground := .data }, { on := 31, ground := .chain }], guard := none }) rfl (fun K' hK => ?_) (AllReadyH.nil)
  go_simp
  refine (HC8.out V8 HB8.out).mono ?_
  rintro en V9 ⟨rfl, hb1⟩
  have HB9 := Lib.hid (HB8.out.trans (hb1.mono HB8.out.size))
  have HR9 := Lib.hid (HR8.out.trans (hb1.mono HR8.out.size))
  have HS9 := Lib.hid (HSB.out V9 HR9.out)
  clear hb1 HC8 HB8 HR8
  go_wp2_with fail
  refine hK.out _ _ HS9.out (fun hS => ?_)
  clear hK K'
  try simp only [Act.put, List.setIfInBounds_toArray, List.set_cons_zero, List.set_cons_succ]
  refine wpAnyH_ready (rs := [41]) (by kernel_rfl) (by simp) ?_
  refine AllReadyH.cons (o := { dst := some 49, op := .call { callee := .value (.func 56), args := #[.tmp 46, .tmp 48], argTypes := #[52, 120] }, type := 40, pos := "look.go:31", after := #[{ on := 38, ground := .data }, { on := 40, ground := .data }, { on := 36, ground := .chain }], guard := none }) rfl (fun K' hK => ?_) (AllReadyH.nil)
  go_simp
  refine (HC9.out V9 HB9.out).mono ?_
  rintro en V10 ⟨rfl, hb1⟩
  have HB10 := Lib.hid (HB9.out.trans (hb1.mono HB9.out.size))
  have HR10 := Lib.hid (HR9.out.trans (hb1.mono HR9.out.size))
  have HS10 := Lib.hid (HSB.out V10 HR10.out)
  clear hb1 HC9 HB9 HR9
  go_wp2_with fail
  refine hK.out _ _ HS10.out (fun hS => ?_)
  clear hK K'
  try simp only [Act.put, List.setIfInBounds_toArray, List.set_cons_zero, List.set_cons_succ]
  refine wpAnyH_ready (rs := [46]) (by kernel_rfl) (by simp) ?_
  refine AllReadyH.cons (o := { dst := some 54, op := .call { callee := .value (.func 43), args := #[.tmp 51, .tmp 53], argTypes := #[48, 108] }, type := 40, pos := "look.go:32", after := #[{ on := 43, ground := .data }, { on := 45, ground := .data }, { on := 41, ground := .chain }], guard := none }) rfl (fun K' hK => ?_) (AllReadyH.nil)
  go_simp
  refine (HC10.out V10 HB10.out).mono ?_
  rintro en V11 ⟨rfl, hb1⟩
  have HB11 := Lib.hid (HB10.out.trans (hb1.mono HB10.out.size))
  have HR11 := Lib.hid (HR10.out.trans (hb1.mono HR10.out.size))
  have HS11 := Lib.hid (HSB.out V11 HR11.out)
  have HSZ := Lib.hid (HSB.out (V11.alloc (.cells #[.int .i64 e0, .int .i64 e1, .int .i64 e2, .int .i64 e3, .int .i64 e4, .int .i64 e5, .int .i64 e6, .int .i64 e7, .int .i64 e8, .int .i64 e9, .int .i64 e10] 40)) (HR11.out.trans (((Below.refl _ _).alloc (Nat.le_refl _) _).mono HR11.out.size)))
  have HFI := Lib.hid (first_any (V11.alloc (.cells #[.int .i64 e0, .int .i64 e1, .int .i64 e2, .int .i64 e3, .int .i64 e4, .int .i64 e5, .int .i64 e6, .int .i64 e7, .int .i64 e8, .int .i64 e9, .int .i64 e10] 40)) [e0, e1, e2, e3, e4, e5, e6, e7, e8, e9, e10] (own_lst (R := intR) (ok := fun _ => True) iv (fun _ => rfl) (World.ownsRow_lit V11 #[.int .i64 e0, .int .i64 e1, .int .i64 e2, .int .i64 e3, .int .i64 e4, .int .i64 e5, .int .i64 e6, .int .i64 e7, .int .i64 e8, .int .i64 e9, .int .i64 e10] 11 (Nat.le_refl _) (by simp only [maxLen]; omega) rfl) rfl (fun _ _ => trivial)) (by simp))
  clear hb1 HC10 HB10 HR10
  go_wp2_with fail
  refine hK.out _ _ HS11.out (fun hS => ?_)
  clear hK K'
  try simp only [Act.put, List.setIfInBounds_toArray, List.set_cons_zero, List.set_cons_succ]
  refine wpAnyH_ready (rs := [47]) (by kernel_rfl) (by simp) ?_
  refine AllReadyH.cons (o := { dst := some 55, op := .buildSlice 125 11 #[(0, .tmp 12), (1, .tmp 17), (2, .tmp 20), (3, .tmp 23), (4, .tmp 25), (5, .tmp 30), (6, .tmp 34), (7, .tmp 39), (8, .tmp 44), (9, .tmp 49), (10, .tmp 54)], type := 125, pos := "look.go:21", after := #[{ on := 4, ground := .data }, { on := 9, ground := .data }, { on := 12, ground := .data }, { on := 15, ground := .data }, { on := 17, ground := .data }, { on := 22, ground := .data }, { on := 26, ground := .data }, { on := 31, ground := .data }, { on := 36, ground := .data }, { on := 41, ground := .data }, { on := 46, ground := .data }], guard := none }) rfl (fun K' hK => ?_) (AllReadyH.nil)
  go_simp
  refine hK.out _ _ HSZ.out (fun hS => ?_)
  clear hK K'
  try simp only [Act.put, List.setIfInBounds_toArray, List.set_cons_zero, List.set_cons_succ]
  refine wpAnyH_ready (rs := [48]) (by kernel_rfl) (by simp) ?_
  refine AllReadyH.cons (o := { dst := some 56, op := .call { callee := .value (.func 40), args := #[.tmp 55], argTypes := #[125] }, type := 40, pos := "look.go:21", after := #[{ on := 47, ground := .data }, { on := 46, ground := .chain }], guard := none }) rfl (fun K' hK => ?_) (AllReadyH.nil)
  go_simp
  refine HFI.out.mono ?_
  rintro en V12 ⟨rfl, rfl⟩
  go_wp2_with fail
  refine hK.out _ _ HSZ.out (fun hS => ?_)
  clear hK K'
  try simp only [Act.put, List.setIfInBounds_toArray, List.set_cons_zero, List.set_cons_succ]
  refine wpAnyH_take (i := 49) (oi := { dst := some 4, op := .assign (.tmp 56), type := 40, pos := "look.go:21", after := #[{ on := 48, ground := .data }, { on := 48, ground := .chain }, { on := 0, ground := .phase }, { on := 1, ground := .phase }, { on := 2, ground := .phase }, { on := 3, ground := .phase }, { on := 4, ground := .phase }, { on := 5, ground := .phase }, { on := 6, ground := .phase }, { on := 7, ground := .phase }, { on := 8, ground := .phase }, { on := 9, ground := .phase }, { on := 10, ground := .phase }, { on := 11, ground := .phase }, { on := 12, ground := .phase }, { on := 13, ground := .phase }, { on := 14, ground := .phase }, { on := 15, ground := .phase }, { on := 16, ground := .phase }, { on := 17, ground := .phase }, { on := 18, ground := .phase }, { on := 19, ground := .phase }, { on := 20, ground := .phase }, { on := 21, ground := .phase }, { on := 22, ground := .phase }, { on := 23, ground := .phase }, { on := 24, ground := .phase }, { on := 25, ground := .phase }, { on := 26, ground := .phase }, { on := 27, ground := .phase }, { on := 28, ground := .phase }, { on := 29, ground := .phase }, { on := 30, ground := .phase }, { on := 31, ground := .phase }, { on := 32, ground := .phase }, { on := 33, ground := .phase }, { on := 34, ground := .phase }, { on := 35, ground := .phase }, { on := 36, ground := .phase }, { on := 37, ground := .phase }, { on := 38, ground := .phase }, { on := 39, ground := .phase }, { on := 40, ground := .phase }, { on := 41, ground := .phase }, { on := 42, ground := .phase }, { on := 43, ground := .phase }, { on := 44, ground := .phase }, { on := 45, ground := .phase }, { on := 46, ground := .phase }, { on := 47, ground := .phase }, { on := 48, ground := .phase }], guard := none }) (v := ?_) rfl (by kernel_rfl) (by kernel_rfl) (by kernel_rfl) (fun _ _ _ h => h) (Or.inl ⟨by rfl, ?_⟩) hS ?_
  rotate_left
  · (intro w' hS'; obtain ⟨⟨s0, s1, s2, s3, s4, s5, s6, s7, s8, s9⟩, s10, s11, s12, s13, s14, s15, s16, s17, s18, s19, s20, s21⟩ := hS'; go_simp) <;> with_reducible rfl
  try simp only [Act.put, List.setIfInBounds_toArray, List.set_cons_zero, List.set_cons_succ]
  refine wpAnyH_done (by kernel_rfl) ?_ _
  go_wp2
  go_ret
  exact ⟨rfl, HB11.out.trans (((Below.refl _ _).alloc (Nat.le_refl _) _).mono HB11.out.size)⟩
end Go.Proofs.Ytdcolpmmojiffaa.Cx
