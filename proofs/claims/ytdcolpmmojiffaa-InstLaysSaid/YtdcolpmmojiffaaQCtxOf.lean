/-
  CtxOf: ctx.Of: what it answers, of any module that lies in memory. Conditions: its lists are not too long. (Written by wip/tools/genctxof.py.)
-/
import Derived.Test.YtdcolpmmojiffaaQCtxLook
namespace Go.Proofs.Ytdcolpmmojiffaa.Cx
open Go.RowKit Leb
open _root_.Go.Proofs.Ytdcolpmmojiffaa.Mod

theorem addI_types (c : GCtx) (x : GImp) : (addI c x).types = c.types ∧ (addI c x).els = c.els ∧ (addI c x).dats = c.dats ∧ (addI c x).counted = c.counted := by
  unfold addI
  repeat' split
  all_goals exact ⟨rfl, rfl, rfl, rfl⟩
theorem fold_types (l : List GImp) (c : GCtx) : (l.foldl addI c).types = c.types ∧ (l.foldl addI c).els = c.els ∧ (l.foldl addI c).dats = c.dats ∧ (l.foldl addI c).counted = c.counted := by
  induction l generalizing c with
  | nil => exact ⟨rfl, rfl, rfl, rfl⟩
  | cons x l ih =>
    obtain ⟨h1, h2, h3, h4⟩ := ih (addI c x)
    obtain ⟨k1, k2, k3, k4⟩ := addI_types c x
    exact ⟨h1.trans k1, h2.trans k2, h3.trans k3, h4.trans k4⟩
theorem gather_types (g : GMd) : (gather g).types = g.types := (fold_types g.imps (gath0 g)).1
theorem fts_gather {g : GMd} (hs : Sm g) : FtS (gather g) := fun x hx => by
  rw [gather_types] at hx
  have := hs.ft x hx
  omega
def OfIs (w : World) (g : GMd) (en : Ending) (w' : World) : Prop := ∃ q : Plc, en = .returned (.tuple #[.agg (q.vals (ofC g)).toArray, .int .i64 (ofE g)]) ∧ CtxL w' (fun b => w.heap.size ≤ b) q (ofC g) ∧ Below w.heap.size w w'
set_option maxRecDepth 100000 in
set_option maxHeartbeats 16000000 in
theorem of_any (g : GMd) (p : Pls) (w : World) {ok : Nat → Prop} (hm : MdL w ok ok p g) (hs : Sm g) : Calls Try.prog 24 #[.agg #[.slice p.A0 g.types.length p.c0, .slice p.A1 g.imps.length p.c1, .slice p.A2 g.funcs.length p.c2, .slice p.A3 g.tabs.length p.c3, .slice p.A4 g.mems.length p.c4, .slice p.A5 g.globs.length p.c5, .slice p.A6 g.expos.length p.c6, .slice p.A7 g.starts.length p.c7, .slice p.A8 g.els.length p.c8, .slice p.A9 g.counts.length p.c9, .slice p.A10 g.dats.length p.c10, .slice p.A11 g.cuss.length p.c11]] w (OfIs w g) := by
  have HB1 : Hid (Below w.heap.size w ((w.alloc (.cells #[.slice p.A0 g.types.length p.c0, .slice p.A1 g.imps.length p.c1, .slice p.A2 g.funcs.length p.c2, .slice p.A3 g.tabs.length p.c3, .slice p.A4 g.mems.length p.c4, .slice p.A5 g.globs.length p.c5, .slice p.A6 g.expos.length p.c6, .slice p.A7 g.starts.length p.c7, .slice p.A8 g.els.length p.c8, .slice p.A9 g.counts.length p.c9, .slice p.A10 g.dats.length p.c10, .slice p.A11 g.cuss.length p.c11] 55)).alloc (.cells #[.slice none 0 0, .slice none 0 0, .slice none 0 0, .slice none 0 0, .slice none 0 0, .int .i64 0, .int .i64 0, .int .i64 0, .int .i64 0, .bool false] 66))) := Lib.hid (((Below.refl _ _).alloc (Nat.le_refl _) _).alloc (by simp) _)
  have HSZ : Hid (((w.alloc (.cells #[.slice p.A0 g.types.length p.c0, .slice p.A1 g.imps.length p.c1, .slice p.A2 g.funcs.length p.c2, .slice p.A3 g.tabs.length p.c3, .slice p.A4 g.mems.length p.c4, .slice p.A5 g.globs.length p.c5, .slice p.A6 g.expos.length p.c6, .slice p.A7 g.starts.length p.c7, .slice p.A8 g.els.length p.c8, .slice p.A9 g.counts.length p.c9, .slice p.A10 g.dats.length p.c10, .slice p.A11 g.cuss.length p.c11] 55)).alloc (.cells #[.slice none 0 0, .slice none 0 0, .slice none 0 0, .slice none 0 0, .slice none 0 0, .int .i64 0, .int .i64 0, .int .i64 0, .int .i64 0, .bool false] 66)).heap.size = w.heap.size + 2) := Lib.hid (by simp)
  have HRB : Hid (((w.alloc (.cells #[.slice p.A0 g.types.length p.c0, .slice p.A1 g.imps.length p.c1, .slice p.A2 g.funcs.length p.c2, .slice p.A3 g.tabs.length p.c3, .slice p.A4 g.mems.length p.c4, .slice p.A5 g.globs.length p.c5, .slice p.A6 g.expos.length p.c6, .slice p.A7 g.starts.length p.c7, .slice p.A8 g.els.length p.c8, .slice p.A9 g.counts.length p.c9, .slice p.A10 g.dats.length p.c10, .slice p.A11 g.cuss.length p.c11] 55)).alloc (.cells #[.slice none 0 0, .slice none 0 0, .slice none 0 0, .slice none 0 0, .slice none 0 0, .int .i64 0, .int .i64 0, .int .i64 0, .int .i64 0, .bool false] 66)).heap[w.heap.size + 1]? = some (.cells #[.slice none 0 0, .slice none 0 0, .slice none 0 0, .slice none 0 0, .slice none 0 0, .int .i64 0, .int .i64 0, .int .i64 0, .int .i64 0, .bool false] 66 (0, 0))) := Lib.hid (heap2 w _ _ _)
  have HMB : Hid (((w.alloc (.cells #[.slice p.A0 g.types.length p.c0, .slice p.A1 g.imps.length p.c1, .slice p.A2 g.funcs.length p.c2, .slice p.A3 g.tabs.length p.c3, .slice p.A4 g.mems.length p.c4, .slice p.A5 g.globs.length p.c5, .slice p.A6 g.expos.length p.c6, .slice p.A7 g.starts.length p.c7, .slice p.A8 g.els.length p.c8, .slice p.A9 g.counts.length p.c9, .slice p.A10 g.dats.length p.c10, .slice p.A11 g.cuss.length p.c11] 55)).alloc (.cells #[.slice none 0 0, .slice none 0 0, .slice none 0 0, .slice none 0 0, .slice none 0 0, .int .i64 0, .int .i64 0, .int .i64 0, .int .i64 0, .bool false] 66)).heap[w.heap.size]? = some (.cells #[.slice p.A0 g.types.length p.c0, .slice p.A1 g.imps.length p.c1, .slice p.A2 g.funcs.length p.c2, .slice p.A3 g.tabs.length p.c3, .slice p.A4 g.mems.length p.c4, .slice p.A5 g.globs.length p.c5, .slice p.A6 g.expos.length p.c6, .slice p.A7 g.starts.length p.c7, .slice p.A8 g.els.length p.c8, .slice p.A9 g.counts.length p.c9, .slice p.A10 g.dats.length p.c10, .slice p.A11 g.cuss.length p.c11] 55 (0, 0))) := Lib.hid ((((Below.refl _ _).alloc (Nat.le_refl _) _).block _ (by simp)).trans (heap_alloc_new w _))
  have HG := Lib.hid (gather_any g p ((w.alloc (.cells #[.slice p.A0 g.types.length p.c0, .slice p.A1 g.imps.length p.c1, .slice p.A2 g.funcs.length p.c2, .slice p.A3 g.tabs.length p.c3, .slice p.A4 g.mems.length p.c4, .slice p.A5 g.globs.length p.c5, .slice p.A6 g.expos.length p.c6, .slice p.A7 g.starts.length p.c7, .slice p.A8 g.els.length p.c8, .slice p.A9 g.counts.length p.c9, .slice p.A10 g.dats.length p.c10, .slice p.A11 g.cuss.length p.c11] 55)).alloc (.cells #[.slice none 0 0, .slice none 0 0, .slice none 0 0, .slice none 0 0, .slice none 0 0, .int .i64 0, .int .i64 0, .int .i64 0, .int .i64 0, .bool false] 66)) ok (hm.keep (fun b h1 h2 => ⟨HB1.out.block b h2, h1⟩) (fun b h1 h2 => ⟨HB1.out.block b h2, h1⟩)) hs)
  have HLK : Hid (∀ (q : Plc) (V : World), Below w.heap.size w V → CtxL V (fun b => w.heap.size + 2 ≤ b) q (gather g) → Calls Try.prog 32 #[.agg (q.vals (gather g)).toArray, .agg #[.slice p.A0 g.types.length p.c0, .slice p.A1 g.imps.length p.c1, .slice p.A2 g.funcs.length p.c2, .slice p.A3 g.tabs.length p.c3, .slice p.A4 g.mems.length p.c4, .slice p.A5 g.globs.length p.c5, .slice p.A6 g.expos.length p.c6, .slice p.A7 g.starts.length p.c7, .slice p.A8 g.els.length p.c8, .slice p.A9 g.counts.length p.c9, .slice p.A10 g.dats.length p.c10, .slice p.A11 g.cuss.length p.c11]] V (NumIs V (ofE g))) := Lib.hid fun q V hV hC => look_any g p q (gather g) V (hm.keep (fun b h1 h2 => ⟨hV.block b h2, h1⟩) (fun b h1 h2 => ⟨hV.block b h2, h1⟩)) hC hs (fts_gather hs)
  have HOC : Hid (ofC g = if ofE g = 0 then gather g else noC) := Lib.hid rfl
  clear hm hs
  unfold GathIs at HG
  simp only [Plc.vals] at HG
  unfold OfIs
  generalize gather g = c at *
  generalize ofC g = cc at *
  generalize ofE g = e at *
  go_enter Try.func24, Try.ntmps24
  go_wp2_with fail
  refine HG.out.mono ?_
  rintro en V1 ⟨q, rfl, hC, hb⟩
  have HLK2 := Lib.hid (HLK.out q)
  simp only [Plc.vals] at HLK2
  have HV1 := Lib.hid (HB1.out.trans (hb.mono HB1.out.size))
  have HBA : Hid (Below V1.heap.size V1 (V1.alloc (.cells #[.slice q.A0 c.types.length q.d0, .slice q.A1 c.funcs.length q.d1, .slice q.A2 c.globs.length q.d2, .slice q.A3 c.tabs.length q.d3, .slice q.A4 c.mems.length q.d4, .int .i64 c.hosts, .int .i64 c.vars, .int .i64 c.els, .int .i64 c.dats, .bool c.counted] 66))) := Lib.hid ((Below.refl _ _).alloc (Nat.le_refl _) _)
  have HC1 : Hid (CtxL (V1.alloc (.cells #[.slice q.A0 c.types.length q.d0, .slice q.A1 c.funcs.length q.d1, .slice q.A2 c.globs.length q.d2, .slice q.A3 c.tabs.length q.d3, .slice q.A4 c.mems.length q.d4, .int .i64 c.hosts, .int .i64 c.vars, .int .i64 c.els, .int .i64 c.dats, .bool c.counted] 66)) (fun b => w.heap.size + 2 ≤ b) q c) := Lib.hid (hC.keep fun b h1 h2 => ⟨HBA.out.block b h2, by have := HSZ.out; omega⟩)
  have HVA := Lib.hid (HV1.out.trans (HBA.out.mono HV1.out.size))
  have HK2 : Hid ((V1.alloc (.cells #[.slice q.A0 c.types.length q.d0, .slice q.A1 c.funcs.length q.d1, .slice q.A2 c.globs.length q.d2, .slice q.A3 c.tabs.length q.d3, .slice q.A4 c.mems.length q.d4, .int .i64 c.hosts, .int .i64 c.vars, .int .i64 c.els, .int .i64 c.dats, .bool c.counted] 66)).heap[w.heap.size]? = some (.cells #[.slice p.A0 g.types.length p.c0, .slice p.A1 g.imps.length p.c1, .slice p.A2 g.funcs.length p.c2, .slice p.A3 g.tabs.length p.c3, .slice p.A4 g.mems.length p.c4, .slice p.A5 g.globs.length p.c5, .slice p.A6 g.expos.length p.c6, .slice p.A7 g.starts.length p.c7, .slice p.A8 g.els.length p.c8, .slice p.A9 g.counts.length p.c9, .slice p.A10 g.dats.length p.c10, .slice p.A11 g.cuss.length p.c11] 55 (0, 0)) ∧ (V1.alloc (.cells #[.slice q.A0 c.types.length q.d0, .slice q.A1 c.funcs.length q.d1, .slice q.A2 c.globs.length q.d2, .slice q.A3 c.tabs.length q.d3, .slice q.A4 c.mems.length q.d4, .int .i64 c.hosts, .int .i64 c.vars, .int .i64 c.els, .int .i64 c.dats, .bool c.counted] 66)).heap[w.heap.size + 1]? = some (.cells #[.slice none 0 0, .slice none 0 0, .slice none 0 0, .slice none 0 0, .slice none 0 0, .int .i64 0, .int .i64 0, .int .i64 0, .int .i64 0, .bool false] 66 (0, 0)) ∧ w.heap.size + 2 ≤ V1.heap.size) := Lib.hid (by
    have h1 := hb.size
    have h2 := HSZ.out
    exact ⟨(HBA.out.block _ (by omega)).trans ((hb.block _ (by omega)).trans HMB.out), (HBA.out.block _ (by omega)).trans ((hb.block _ (by omega)).trans HRB.out), by omega⟩)
  clear hC hb HG HRB HMB HLK
  have m0 : (V1.alloc (.cells #[.slice q.A0 c.types.length q.d0, .slice q.A1 c.funcs.length q.d1, .slice q.A2 c.globs.length q.d2, .slice q.A3 c.tabs.length q.d3, .slice q.A4 c.mems.length q.d4, .int .i64 c.hosts, .int .i64 c.vars, .int .i64 c.els, .int .i64 c.dats, .bool c.counted] 66)).cell? ⟨w.heap.size, 0, none⟩ = some (.slice p.A0 g.types.length p.c0) := (blk_cell HK2.out.1 0).trans rfl
  have m1 : (V1.alloc (.cells #[.slice q.A0 c.types.length q.d0, .slice q.A1 c.funcs.length q.d1, .slice q.A2 c.globs.length q.d2, .slice q.A3 c.tabs.length q.d3, .slice q.A4 c.mems.length q.d4, .int .i64 c.hosts, .int .i64 c.vars, .int .i64 c.els, .int .i64 c.dats, .bool c.counted] 66)).cell? ⟨w.heap.size, 1, none⟩ = some (.slice p.A1 g.imps.length p.c1) := (blk_cell HK2.out.1 1).trans rfl
  have m2 : (V1.alloc (.cells #[.slice q.A0 c.types.length q.d0, .slice q.A1 c.funcs.length q.d1, .slice q.A2 c.globs.length q.d2, .slice q.A3 c.tabs.length q.d3, .slice q.A4 c.mems.length q.d4, .int .i64 c.hosts, .int .i64 c.vars, .int .i64 c.els, .int .i64 c.dats, .bool c.counted] 66)).cell? ⟨w.heap.size, 2, none⟩ = some (.slice p.A2 g.funcs.length p.c2) := (blk_cell HK2.out.1 2).trans rfl
  have m3 : (V1.alloc (.cells #[.slice q.A0 c.types.length q.d0, .slice q.A1 c.funcs.length q.d1, .slice q.A2 c.globs.length q.d2, .slice q.A3 c.tabs.length q.d3, .slice q.A4 c.mems.length q.d4, .int .i64 c.hosts, .int .i64 c.vars, .int .i64 c.els, .int .i64 c.dats, .bool c.counted] 66)).cell? ⟨w.heap.size, 3, none⟩ = some (.slice p.A3 g.tabs.length p.c3) := (blk_cell HK2.out.1 3).trans rfl
  have m4 : (V1.alloc (.cells #[.slice q.A0 c.types.length q.d0, .slice q.A1 c.funcs.length q.d1, .slice q.A2 c.globs.length q.d2, .slice q.A3 c.tabs.length q.d3, .slice q.A4 c.mems.length q.d4, .int .i64 c.hosts, .int .i64 c.vars, .int .i64 c.els, .int .i64 c.dats, .bool c.counted] 66)).cell? ⟨w.heap.size, 4, none⟩ = some (.slice p.A4 g.mems.length p.c4) := (blk_cell HK2.out.1 4).trans rfl
  have m5 : (V1.alloc (.cells #[.slice q.A0 c.types.length q.d0, .slice q.A1 c.funcs.length q.d1, .slice q.A2 c.globs.length q.d2, .slice q.A3 c.tabs.length q.d3, .slice q.A4 c.mems.length q.d4, .int .i64 c.hosts, .int .i64 c.vars, .int .i64 c.els, .int .i64 c.dats, .bool c.counted] 66)).cell? ⟨w.heap.size, 5, none⟩ = some (.slice p.A5 g.globs.length p.c5) := (blk_cell HK2.out.1 5).trans rfl
  have m6 : (V1.alloc (.cells #[.slice q.A0 c.types.length q.d0, .slice q.A1 c.funcs.length q.d1, .slice q.A2 c.globs.length q.d2, .slice q.A3 c.tabs.length q.d3, .slice q.A4 c.mems.length q.d4, .int .i64 c.hosts, .int .i64 c.vars, .int .i64 c.els, .int .i64 c.dats, .bool c.counted] 66)).cell? ⟨w.heap.size, 6, none⟩ = some (.slice p.A6 g.expos.length p.c6) := (blk_cell HK2.out.1 6).trans rfl
  have m7 : (V1.alloc (.cells #[.slice q.A0 c.types.length q.d0, .slice q.A1 c.funcs.length q.d1, .slice q.A2 c.globs.length q.d2, .slice q.A3 c.tabs.length q.d3, .slice q.A4 c.mems.length q.d4, .int .i64 c.hosts, .int .i64 c.vars, .int .i64 c.els, .int .i64 c.dats, .bool c.counted] 66)).cell? ⟨w.heap.size, 7, none⟩ = some (.slice p.A7 g.starts.length p.c7) := (blk_cell HK2.out.1 7).trans rfl
  have m8 : (V1.alloc (.cells #[.slice q.A0 c.types.length q.d0, .slice q.A1 c.funcs.length q.d1, .slice q.A2 c.globs.length q.d2, .slice q.A3 c.tabs.length q.d3, .slice q.A4 c.mems.length q.d4, .int .i64 c.hosts, .int .i64 c.vars, .int .i64 c.els, .int .i64 c.dats, .bool c.counted] 66)).cell? ⟨w.heap.size, 8, none⟩ = some (.slice p.A8 g.els.length p.c8) := (blk_cell HK2.out.1 8).trans rfl
  have m9 : (V1.alloc (.cells #[.slice q.A0 c.types.length q.d0, .slice q.A1 c.funcs.length q.d1, .slice q.A2 c.globs.length q.d2, .slice q.A3 c.tabs.length q.d3, .slice q.A4 c.mems.length q.d4, .int .i64 c.hosts, .int .i64 c.vars, .int .i64 c.els, .int .i64 c.dats, .bool c.counted] 66)).cell? ⟨w.heap.size, 9, none⟩ = some (.slice p.A9 g.counts.length p.c9) := (blk_cell HK2.out.1 9).trans rfl
  have m10 : (V1.alloc (.cells #[.slice q.A0 c.types.length q.d0, .slice q.A1 c.funcs.length q.d1, .slice q.A2 c.globs.length q.d2, .slice q.A3 c.tabs.length q.d3, .slice q.A4 c.mems.length q.d4, .int .i64 c.hosts, .int .i64 c.vars, .int .i64 c.els, .int .i64 c.dats, .bool c.counted] 66)).cell? ⟨w.heap.size, 10, none⟩ = some (.slice p.A10 g.dats.length p.c10) := (blk_cell HK2.out.1 10).trans rfl
  have m11 : (V1.alloc (.cells #[.slice q.A0 c.types.length q.d0, .slice q.A1 c.funcs.length q.d1, .slice q.A2 c.globs.length q.d2, .slice q.A3 c.tabs.length q.d3, .slice q.A4 c.mems.length q.d4, .int .i64 c.hosts, .int .i64 c.vars, .int .i64 c.els, .int .i64 c.dats, .bool c.counted] 66)).cell? ⟨w.heap.size, 11, none⟩ = some (.slice p.A11 g.cuss.length p.c11) := (blk_cell HK2.out.1 11).trans rfl
  go_wp2_with fail
  refine (HLK2.out (V1.alloc (.cells #[.slice q.A0 c.types.length q.d0, .slice q.A1 c.funcs.length q.d1, .slice q.A2 c.globs.length q.d2, .slice q.A3 c.tabs.length q.d3, .slice q.A4 c.mems.length q.d4, .int .i64 c.hosts, .int .i64 c.vars, .int .i64 c.els, .int .i64 c.dats, .bool c.counted] 66)) HVA.out HC1.out).mono ?_
  rintro en V2 ⟨rfl, hb⟩
  have HV2 := Lib.hid (HVA.out.trans (hb.mono HVA.out.size))
  have HC2 := Lib.hid (HC1.out.below hb)
  have HKR := Lib.hid ((hb.block (w.heap.size + 1) (by have := HK2.out.2.2; have := HBA.out.size; omega)).trans HK2.out.2.1)
  have HKC : Hid (V2.heap[V1.heap.size]? = some (.cells #[.slice q.A0 c.types.length q.d0, .slice q.A1 c.funcs.length q.d1, .slice q.A2 c.globs.length q.d2, .slice q.A3 c.tabs.length q.d3, .slice q.A4 c.mems.length q.d4, .int .i64 c.hosts, .int .i64 c.vars, .int .i64 c.els, .int .i64 c.dats, .bool c.counted] 66 (0, 0))) := Lib.hid ((hb.block _ (by simp)).trans (heap_alloc_new V1 _))
  clear hb m0 m1 m2 m3 m4 m5 m6 m7 m8 m9 m10 m11 HLK2 HC1 HVA
  have q0 : V2.cell? ⟨w.heap.size + 1, 0, none⟩ = some (.slice none 0 0) := (blk_cell HKR.out 0).trans rfl
  have z0 := blk_free HKR.out 0
  have q1 : V2.cell? ⟨w.heap.size + 1, 1, none⟩ = some (.slice none 0 0) := (blk_cell HKR.out 1).trans rfl
  have z1 := blk_free HKR.out 1
  have q2 : V2.cell? ⟨w.heap.size + 1, 2, none⟩ = some (.slice none 0 0) := (blk_cell HKR.out 2).trans rfl
  have z2 := blk_free HKR.out 2
  have q3 : V2.cell? ⟨w.heap.size + 1, 3, none⟩ = some (.slice none 0 0) := (blk_cell HKR.out 3).trans rfl
  have z3 := blk_free HKR.out 3
  have q4 : V2.cell? ⟨w.heap.size + 1, 4, none⟩ = some (.slice none 0 0) := (blk_cell HKR.out 4).trans rfl
  have z4 := blk_free HKR.out 4
  have q5 : V2.cell? ⟨w.heap.size + 1, 5, none⟩ = some (.int .i64 0) := (blk_cell HKR.out 5).trans rfl
  have z5 := blk_free HKR.out 5
  have q6 : V2.cell? ⟨w.heap.size + 1, 6, none⟩ = some (.int .i64 0) := (blk_cell HKR.out 6).trans rfl
  have z6 := blk_free HKR.out 6
  have q7 : V2.cell? ⟨w.heap.size + 1, 7, none⟩ = some (.int .i64 0) := (blk_cell HKR.out 7).trans rfl
  have z7 := blk_free HKR.out 7
  have q8 : V2.cell? ⟨w.heap.size + 1, 8, none⟩ = some (.int .i64 0) := (blk_cell HKR.out 8).trans rfl
  have z8 := blk_free HKR.out 8
  have q9 : V2.cell? ⟨w.heap.size + 1, 9, none⟩ = some (.bool false) := (blk_cell HKR.out 9).trans rfl
  have z9 := blk_free HKR.out 9
  have x0 : V2.cell? ⟨V1.heap.size, 0, none⟩ = some (.slice q.A0 c.types.length q.d0) := (blk_cell HKC.out 0).trans rfl
  have x1 : V2.cell? ⟨V1.heap.size, 1, none⟩ = some (.slice q.A1 c.funcs.length q.d1) := (blk_cell HKC.out 1).trans rfl
  have x2 : V2.cell? ⟨V1.heap.size, 2, none⟩ = some (.slice q.A2 c.globs.length q.d2) := (blk_cell HKC.out 2).trans rfl
  have x3 : V2.cell? ⟨V1.heap.size, 3, none⟩ = some (.slice q.A3 c.tabs.length q.d3) := (blk_cell HKC.out 3).trans rfl
  have x4 : V2.cell? ⟨V1.heap.size, 4, none⟩ = some (.slice q.A4 c.mems.length q.d4) := (blk_cell HKC.out 4).trans rfl
  have x5 : V2.cell? ⟨V1.heap.size, 5, none⟩ = some (.int .i64 c.hosts) := (blk_cell HKC.out 5).trans rfl
  have x6 : V2.cell? ⟨V1.heap.size, 6, none⟩ = some (.int .i64 c.vars) := (blk_cell HKC.out 6).trans rfl
  have x7 : V2.cell? ⟨V1.heap.size, 7, none⟩ = some (.int .i64 c.els) := (blk_cell HKC.out 7).trans rfl
  have x8 : V2.cell? ⟨V1.heap.size, 8, none⟩ = some (.int .i64 c.dats) := (blk_cell HKC.out 8).trans rfl
  have x9 : V2.cell? ⟨V1.heap.size, 9, none⟩ = some (.bool c.counted) := (blk_cell HKC.out 9).trans rfl
  by_cases he : e = 0
  · subst he
    rw [if_pos rfl] at HOC
    go_wp2_with fail
    have HX := Lib.hid (setsL_ctx HKR.out q c)
    have r := fun i => (blk_cell HX.out i)
    have r0 := (r 0).trans rfl
    have r1 := (r 1).trans rfl
    have r2 := (r 2).trans rfl
    have r3 := (r 3).trans rfl
    have r4 := (r 4).trans rfl
    have r5 := (r 5).trans rfl
    have r6 := (r 6).trans rfl
    have r7 := (r 7).trans rfl
    have r8 := (r 8).trans rfl
    have r9 := (r 9).trans rfl
    have HFR := Lib.hid (fun b (hq : b ≠ w.heap.size + 1) => setsL_far V2 (w.heap.size + 1) b hq (q.vals c) 0)
    have HBF := Lib.hid (setsL_below V2 (w.heap.size + 1) (q.vals c) 0 (B := w.heap.size) (by omega))
    clear r
    show bodyPost _ _ _ _ _ (setsL V2 (w.heap.size + 1) 0 (q.vals c))
    generalize setsL V2 (w.heap.size + 1) 0 (q.vals c) = w8 at *
    refine bodyPost_ret (v := .tuple #[.agg (q.vals c).toArray, .int .i64 0]) (by simp [results, Try.results24, go_sem, r0, r1, r2, r3, r4, r5, r6, r7, r8, r9, Plc.vals]) rfl ?_
    refine ⟨q, by rw [HOC.out], ?_, HV2.out.trans HBF.out⟩
    rw [HOC.out]
    exact HC2.out.keep fun b h1 _ => ⟨HFR.out b (by omega), by omega⟩
  · rw [if_neg he] at HOC
    clear x0 x1 x2 x3 x4 x5 x6 x7 x8 x9
    go_wp2_with fail
    have HX := Lib.hid (setsL_ctx HKR.out noPlc noC)
    have r := fun i => (blk_cell HX.out i)
    have r0 := (r 0).trans rfl
    have r1 := (r 1).trans rfl
    have r2 := (r 2).trans rfl
    have r3 := (r 3).trans rfl
    have r4 := (r 4).trans rfl
    have r5 := (r 5).trans rfl
    have r6 := (r 6).trans rfl
    have r7 := (r 7).trans rfl
    have r8 := (r 8).trans rfl
    have r9 := (r 9).trans rfl
    have HFR := Lib.hid (fun b (hq : b ≠ w.heap.size + 1) => setsL_far V2 (w.heap.size + 1) b hq (noPlc.vals noC) 0)
    have HBF := Lib.hid (setsL_below V2 (w.heap.size + 1) (noPlc.vals noC) 0 (B := w.heap.size) (by omega))
    clear r
    show bodyPost _ _ _ _ _ (setsL V2 (w.heap.size + 1) 0 (noPlc.vals noC))
    generalize setsL V2 (w.heap.size + 1) 0 (noPlc.vals noC) = w8 at *
    refine bodyPost_ret (v := .tuple #[.agg (noPlc.vals noC).toArray, .int .i64 e]) (by simp [results, Try.results24, go_sem, r0, r1, r2, r3, r4, r5, r6, r7, r8, r9, Plc.vals, noPlc, noC]) rfl ?_
    refine ⟨noPlc, by rw [HOC.out], ?_, HV2.out.trans HBF.out⟩
    rw [HOC.out]
    exact ctxl_none _ _
end Go.Proofs.Ytdcolpmmojiffaa.Cx
