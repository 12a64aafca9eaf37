/-
  CtxRightLaw: trammellaw09.CtxRight: whatever the module, true. Conditions: the module lies in memory, as one that came in. (Written by wip/tools/genctxright.py.)
-/
import Derived.Test.YtlbbnnljclndkaaQCtxErr
import Derived.Test.YtlbbnnljclndkaaQCtxSame
import Derived.Test.YtlbbnnljclndkaaQCtxAwake
import Derived.Deep.RegionHeld
import Derived.Deep.DeepCutAuto
namespace Go.Proofs.Ytlbbnnljclndkaa.Cx
open Go.RowKit Leb
open _root_.Go.Proofs.Ytlbbnnljclndkaa.Mod

/-- What the last line reads. -/
def SR (bm bc : Nat) (q : Plc) (c : GCtx) (g : GMd) (p : Pls) (V : World) : Prop := BoxG bm V g p ∧ BoxC bc V q c
theorem gather_all {g : GMd} (h : Sm g) : (gather g).types.length ≤ 1000 ∧ (gather g).funcs.length ≤ 1000 ∧ (gather g).globs.length ≤ 1000 ∧ (gather g).tabs.length ≤ 1000 ∧ (gather g).mems.length ≤ 1000 := by
  have h1 := fold_few g.imps (gath0 g) 0 ⟨Nat.le_refl _, Nat.le_refl _, Nat.le_refl _, Nat.le_refl _⟩
  have h0 := h.types
  have h2 := h.imps
  have h3 := h.funcs
  have h4 := h.globs
  have h5 := h.tabs
  have h6 := h.mems
  have e0 := gather_types g
  have e1 : (gather g).funcs = (gathI g).funcs ++ g.funcs.map (fun x : GFn => x.ty) := rfl
  have e2 : (gather g).globs = (gathI g).globs ++ g.globs.map (fun x : GGlob => (x.ty, x.mu)) := rfl
  have e3 : (gather g).tabs = (gathI g).tabs ++ g.tabs := rfl
  have e4 : (gather g).mems = (gathI g).mems ++ g.mems := rfl
  rw [e0, e1, e2, e3, e4, List.length_append, List.length_append, List.length_append, List.length_append, List.length_map, List.length_map]
  have k1 := h1.1
  have k2 := h1.2.1
  have k3 := h1.2.2.1
  have k4 := h1.2.2.2
  unfold gathI
  omega
section
variable (g : GMd) (p : Pls) (w : World) {ok : Nat → Prop}
set_option maxRecDepth 100000 in
set_option maxHeartbeats 16000000 in
theorem right_law (hm : MdL w ok ok p g) (hg : Opn.GIn g) : Calls Try.prog 3 #[.agg #[.slice p.A0 g.types.length p.c0, .slice p.A1 g.imps.length p.c1, .slice p.A2 g.funcs.length p.c2, .slice p.A3 g.tabs.length p.c3, .slice p.A4 g.mems.length p.c4, .slice p.A5 g.globs.length p.c5, .slice p.A6 g.expos.length p.c6, .slice p.A7 g.starts.length p.c7, .slice p.A8 g.els.length p.c8, .slice p.A9 g.counts.length p.c9, .slice p.A10 g.dats.length p.c10, .slice p.A11 g.cuss.length p.c11]] w (BoolIs w true) := by
  have HB1 : Hid (Below w.heap.size w (w.alloc (.cells #[.slice p.A0 g.types.length p.c0, .slice p.A1 g.imps.length p.c1, .slice p.A2 g.funcs.length p.c2, .slice p.A3 g.tabs.length p.c3, .slice p.A4 g.mems.length p.c4, .slice p.A5 g.globs.length p.c5, .slice p.A6 g.expos.length p.c6, .slice p.A7 g.starts.length p.c7, .slice p.A8 g.els.length p.c8, .slice p.A9 g.counts.length p.c9, .slice p.A10 g.dats.length p.c10, .slice p.A11 g.cuss.length p.c11] 33))) := Lib.hid ((Below.refl _ _).alloc (Nat.le_refl _) _)
  have HS1 : Hid ((w.alloc (.cells #[.slice p.A0 g.types.length p.c0, .slice p.A1 g.imps.length p.c1, .slice p.A2 g.funcs.length p.c2, .slice p.A3 g.tabs.length p.c3, .slice p.A4 g.mems.length p.c4, .slice p.A5 g.globs.length p.c5, .slice p.A6 g.expos.length p.c6, .slice p.A7 g.starts.length p.c7, .slice p.A8 g.els.length p.c8, .slice p.A9 g.counts.length p.c9, .slice p.A10 g.dats.length p.c10, .slice p.A11 g.cuss.length p.c11] 33)).heap.size = w.heap.size + 1) := Lib.hid (by simp)
  have HK1 : Hid ((w.alloc (.cells #[.slice p.A0 g.types.length p.c0, .slice p.A1 g.imps.length p.c1, .slice p.A2 g.funcs.length p.c2, .slice p.A3 g.tabs.length p.c3, .slice p.A4 g.mems.length p.c4, .slice p.A5 g.globs.length p.c5, .slice p.A6 g.expos.length p.c6, .slice p.A7 g.starts.length p.c7, .slice p.A8 g.els.length p.c8, .slice p.A9 g.counts.length p.c9, .slice p.A10 g.dats.length p.c10, .slice p.A11 g.cuss.length p.c11] 33)).heap[w.heap.size]? = some (.cells #[.slice p.A0 g.types.length p.c0, .slice p.A1 g.imps.length p.c1, .slice p.A2 g.funcs.length p.c2, .slice p.A3 g.tabs.length p.c3, .slice p.A4 g.mems.length p.c4, .slice p.A5 g.globs.length p.c5, .slice p.A6 g.expos.length p.c6, .slice p.A7 g.starts.length p.c7, .slice p.A8 g.els.length p.c8, .slice p.A9 g.counts.length p.c9, .slice p.A10 g.dats.length p.c10, .slice p.A11 g.cuss.length p.c11] 33 (0, 0))) := Lib.hid (heap_alloc_new w _)
  have HAW := Lib.hid (awake_any (w.alloc (.cells #[.slice p.A0 g.types.length p.c0, .slice p.A1 g.imps.length p.c1, .slice p.A2 g.funcs.length p.c2, .slice p.A3 g.tabs.length p.c3, .slice p.A4 g.mems.length p.c4, .slice p.A5 g.globs.length p.c5, .slice p.A6 g.expos.length p.c6, .slice p.A7 g.starts.length p.c7, .slice p.A8 g.els.length p.c8, .slice p.A9 g.counts.length p.c9, .slice p.A10 g.dats.length p.c10, .slice p.A11 g.cuss.length p.c11] 33)))
  have hmd : ∀ V, Below w.heap.size w V → MdL V ok ok p g := fun V hV => hm.keep (fun b h1 h2 => ⟨hV.block b h2, h1⟩) (fun b h1 h2 => ⟨hV.block b h2, h1⟩)
  have HSH : Hid (∀ V, Below w.heap.size w V → Calls Try.prog 6 #[.agg #[.slice p.A0 g.types.length p.c0, .slice p.A1 g.imps.length p.c1, .slice p.A2 g.funcs.length p.c2, .slice p.A3 g.tabs.length p.c3, .slice p.A4 g.mems.length p.c4, .slice p.A5 g.globs.length p.c5, .slice p.A6 g.expos.length p.c6, .slice p.A7 g.starts.length p.c7, .slice p.A8 g.els.length p.c8, .slice p.A9 g.counts.length p.c9, .slice p.A10 g.dats.length p.c10, .slice p.A11 g.cuss.length p.c11]] V (Sh.ShortIs V g)) := Lib.hid fun V hV => Sh.short_any g p V ok (hmd V hV) hg
  have HOF : Hid (∀ V, Below w.heap.size w V → Sm g → Calls Try.prog 7 #[.agg #[.slice p.A0 g.types.length p.c0, .slice p.A1 g.imps.length p.c1, .slice p.A2 g.funcs.length p.c2, .slice p.A3 g.tabs.length p.c3, .slice p.A4 g.mems.length p.c4, .slice p.A5 g.globs.length p.c5, .slice p.A6 g.expos.length p.c6, .slice p.A7 g.starts.length p.c7, .slice p.A8 g.els.length p.c8, .slice p.A9 g.counts.length p.c9, .slice p.A10 g.dats.length p.c10, .slice p.A11 g.cuss.length p.c11]] V (OfIs V g)) := Lib.hid fun V hV hs => of_any g p V (hmd V hV) hs
  have HER : Hid (∀ V, Below w.heap.size w V → Sm g → Calls Try.prog 8 #[.agg #[.slice p.A0 g.types.length p.c0, .slice p.A1 g.imps.length p.c1, .slice p.A2 g.funcs.length p.c2, .slice p.A3 g.tabs.length p.c3, .slice p.A4 g.mems.length p.c4, .slice p.A5 g.globs.length p.c5, .slice p.A6 g.expos.length p.c6, .slice p.A7 g.starts.length p.c7, .slice p.A8 g.els.length p.c8, .slice p.A9 g.counts.length p.c9, .slice p.A10 g.dats.length p.c10, .slice p.A11 g.cuss.length p.c11]] V (NumIs V (ofE g))) := Lib.hid fun V hV hs => rerror_any g p V (hmd V hV) hs hg
  have HGR : Hid (∀ V, Below w.heap.size w V → Sm g → Calls Try.prog 10 #[.agg #[.slice p.A0 g.types.length p.c0, .slice p.A1 g.imps.length p.c1, .slice p.A2 g.funcs.length p.c2, .slice p.A3 g.tabs.length p.c3, .slice p.A4 g.mems.length p.c4, .slice p.A5 g.globs.length p.c5, .slice p.A6 g.expos.length p.c6, .slice p.A7 g.starts.length p.c7, .slice p.A8 g.els.length p.c8, .slice p.A9 g.counts.length p.c9, .slice p.A10 g.dats.length p.c10, .slice p.A11 g.cuss.length p.c11], .bool false] V (RGathIs V (gathR g false))) := Lib.hid fun V hV hs => rgather_any g p V ok false (hmd V hV) hs
  have HSM : Hid (Sh.P8 g → Sm g) := Lib.hid fun h => sm_of h hg
  clear hm hg hmd
  go_enter Try.func3, Try.ntmps3
  go_wp2_with fail
  refine HAW.out.mono ?_
  rintro en V1 ⟨rfl, hb⟩
  have HV1 := Lib.hid (HB1.out.trans (hb.mono HB1.out.size))
  have HM1 := Lib.hid ((hb.block _ (by have := HS1.out; omega)).trans HK1.out)
  have HZ1 : Hid (w.heap.size < V1.heap.size) := Lib.hid (by have := hb.size; have := HS1.out; omega)
  clear hb HAW HK1 HB1 HS1
  have m0 : V1.cell? ⟨w.heap.size, 0, none⟩ = some (.slice p.A0 g.types.length p.c0) := (blk_cell HM1.out 0).trans rfl
  have m1 : V1.cell? ⟨w.heap.size, 1, none⟩ = some (.slice p.A1 g.imps.length p.c1) := (blk_cell HM1.out 1).trans rfl
  have m2 : V1.cell? ⟨w.heap.size, 2, none⟩ = some (.slice p.A2 g.funcs.length p.c2) := (blk_cell HM1.out 2).trans rfl
  have m3 : V1.cell? ⟨w.heap.size, 3, none⟩ = some (.slice p.A3 g.tabs.length p.c3) := (blk_cell HM1.out 3).trans rfl
  have m4 : V1.cell? ⟨w.heap.size, 4, none⟩ = some (.slice p.A4 g.mems.length p.c4) := (blk_cell HM1.out 4).trans rfl
  have m5 : V1.cell? ⟨w.heap.size, 5, none⟩ = some (.slice p.A5 g.globs.length p.c5) := (blk_cell HM1.out 5).trans rfl
  have m6 : V1.cell? ⟨w.heap.size, 6, none⟩ = some (.slice p.A6 g.expos.length p.c6) := (blk_cell HM1.out 6).trans rfl
  have m7 : V1.cell? ⟨w.heap.size, 7, none⟩ = some (.slice p.A7 g.starts.length p.c7) := (blk_cell HM1.out 7).trans rfl
  have m8 : V1.cell? ⟨w.heap.size, 8, none⟩ = some (.slice p.A8 g.els.length p.c8) := (blk_cell HM1.out 8).trans rfl
  have m9 : V1.cell? ⟨w.heap.size, 9, none⟩ = some (.slice p.A9 g.counts.length p.c9) := (blk_cell HM1.out 9).trans rfl
  have m10 : V1.cell? ⟨w.heap.size, 10, none⟩ = some (.slice p.A10 g.dats.length p.c10) := (blk_cell HM1.out 10).trans rfl
  have m11 : V1.cell? ⟨w.heap.size, 11, none⟩ = some (.slice p.A11 g.cuss.length p.c11) := (blk_cell HM1.out 11).trans rfl
  go_wp2_with fail
  refine (HSH.out V1 HV1.out).mono ?_
  rintro en V2 ⟨bs, rfl, h8, hb⟩
  have HV2 := Lib.hid (HV1.out.trans (hb.mono HV1.out.size))
  have HM2 := Lib.hid ((hb.block _ HZ1.out).trans HM1.out)
  have HZ2 : Hid (w.heap.size < V2.heap.size) := Lib.hid (by have := hb.size; have := HZ1.out; omega)
  clear hb HSH HM1 HV1 HZ1 m0 m1 m2 m3 m4 m5 m6 m7 m8 m9 m10 m11
  cases bs with
  | false =>
    clear h8
    go_wp2
    go_ret
    exact ⟨rfl, HV2.out⟩
  | true =>
    have HS := Lib.hid (HSM.out (h8 rfl))
    clear h8 HSM
    have m0 : V2.cell? ⟨w.heap.size, 0, none⟩ = some (.slice p.A0 g.types.length p.c0) := (blk_cell HM2.out 0).trans rfl
    have m1 : V2.cell? ⟨w.heap.size, 1, none⟩ = some (.slice p.A1 g.imps.length p.c1) := (blk_cell HM2.out 1).trans rfl
    have m2 : V2.cell? ⟨w.heap.size, 2, none⟩ = some (.slice p.A2 g.funcs.length p.c2) := (blk_cell HM2.out 2).trans rfl
    have m3 : V2.cell? ⟨w.heap.size, 3, none⟩ = some (.slice p.A3 g.tabs.length p.c3) := (blk_cell HM2.out 3).trans rfl
    have m4 : V2.cell? ⟨w.heap.size, 4, none⟩ = some (.slice p.A4 g.mems.length p.c4) := (blk_cell HM2.out 4).trans rfl
    have m5 : V2.cell? ⟨w.heap.size, 5, none⟩ = some (.slice p.A5 g.globs.length p.c5) := (blk_cell HM2.out 5).trans rfl
    have m6 : V2.cell? ⟨w.heap.size, 6, none⟩ = some (.slice p.A6 g.expos.length p.c6) := (blk_cell HM2.out 6).trans rfl
    have m7 : V2.cell? ⟨w.heap.size, 7, none⟩ = some (.slice p.A7 g.starts.length p.c7) := (blk_cell HM2.out 7).trans rfl
    have m8 : V2.cell? ⟨w.heap.size, 8, none⟩ = some (.slice p.A8 g.els.length p.c8) := (blk_cell HM2.out 8).trans rfl
    have m9 : V2.cell? ⟨w.heap.size, 9, none⟩ = some (.slice p.A9 g.counts.length p.c9) := (blk_cell HM2.out 9).trans rfl
    have m10 : V2.cell? ⟨w.heap.size, 10, none⟩ = some (.slice p.A10 g.dats.length p.c10) := (blk_cell HM2.out 10).trans rfl
    have m11 : V2.cell? ⟨w.heap.size, 11, none⟩ = some (.slice p.A11 g.cuss.length p.c11) := (blk_cell HM2.out 11).trans rfl
    go_wp2_with fail
    refine (HOF.out V2 HV2.out HS.out).mono ?_
    rintro en V3 ⟨q, rfl, hc, hb⟩
    have HV3 := Lib.hid (HV2.out.trans (hb.mono HV2.out.size))
    have HM3 := Lib.hid ((hb.block _ HZ2.out).trans HM2.out)
    have HC3 := Lib.hid hc
    have HZ3 : Hid (w.heap.size < V3.heap.size) := Lib.hid (by have := hb.size; have := HZ2.out; omega)
    clear hb hc HOF HM2 m0 m1 m2 m3 m4 m5 m6 m7 m8 m9 m10 m11
    have HE3 : Hid (∀ V, Below w.heap.size w V → Calls Try.prog 8 #[.agg #[.slice p.A0 g.types.length p.c0, .slice p.A1 g.imps.length p.c1, .slice p.A2 g.funcs.length p.c2, .slice p.A3 g.tabs.length p.c3, .slice p.A4 g.mems.length p.c4, .slice p.A5 g.globs.length p.c5, .slice p.A6 g.expos.length p.c6, .slice p.A7 g.starts.length p.c7, .slice p.A8 g.els.length p.c8, .slice p.A9 g.counts.length p.c9, .slice p.A10 g.dats.length p.c10, .slice p.A11 g.cuss.length p.c11]] V (NumIs V (ofE g))) := Lib.hid fun V hV => HER.out V hV HS.out
    clear HER
    by_cases he : ofE g = 0
    · have hcc : ofC g = gather g := by unfold ofC; rw [if_pos he]
      rw [hcc] at HC3 ⊢
      rw [he] at HE3 ⊢
      have HFI : Hid (FtS (gather g) ∧ (gather g).types.length ≤ 1000 ∧ (gather g).funcs.length ≤ 1000 ∧ (gather g).globs.length ≤ 1000 ∧ (gather g).tabs.length ≤ 1000 ∧ (gather g).mems.length ≤ 1000) := Lib.hid ⟨fts_gather HS.out, gather_all HS.out⟩
      have HGE : Hid (gathR g false = gather g) := Lib.hid rfl
      clear he hcc
      simp only [Plc.vals]
      generalize gather g = c at *
      have HX : Hid (Below V3.heap.size V3 (V3.alloc (.cells #[.slice q.A0 c.types.length q.d0, .slice q.A1 c.funcs.length q.d1, .slice q.A2 c.globs.length q.d2, .slice q.A3 c.tabs.length q.d3, .slice q.A4 c.mems.length q.d4, .int .i64 c.hosts, .int .i64 c.vars, .int .i64 c.els, .int .i64 c.dats, .bool c.counted] 38)) ∧ (V3.alloc (.cells #[.slice q.A0 c.types.length q.d0, .slice q.A1 c.funcs.length q.d1, .slice q.A2 c.globs.length q.d2, .slice q.A3 c.tabs.length q.d3, .slice q.A4 c.mems.length q.d4, .int .i64 c.hosts, .int .i64 c.vars, .int .i64 c.els, .int .i64 c.dats, .bool c.counted] 38)).heap[V3.heap.size]? = some (.cells #[.slice q.A0 c.types.length q.d0, .slice q.A1 c.funcs.length q.d1, .slice q.A2 c.globs.length q.d2, .slice q.A3 c.tabs.length q.d3, .slice q.A4 c.mems.length q.d4, .int .i64 c.hosts, .int .i64 c.vars, .int .i64 c.els, .int .i64 c.dats, .bool c.counted] 38 (0, 0)) ∧ (V3.alloc (.cells #[.slice q.A0 c.types.length q.d0, .slice q.A1 c.funcs.length q.d1, .slice q.A2 c.globs.length q.d2, .slice q.A3 c.tabs.length q.d3, .slice q.A4 c.mems.length q.d4, .int .i64 c.hosts, .int .i64 c.vars, .int .i64 c.els, .int .i64 c.dats, .bool c.counted] 38)).heap.size = V3.heap.size + 1) := Lib.hid ⟨(Below.refl _ _).alloc (Nat.le_refl _) _, heap_alloc_new V3 _, by simp⟩
      go_upto_region 6 with fail
      generalize (V3.alloc (.cells #[.slice q.A0 c.types.length q.d0, .slice q.A1 c.funcs.length q.d1, .slice q.A2 c.globs.length q.d2, .slice q.A3 c.tabs.length q.d3, .slice q.A4 c.mems.length q.d4, .int .i64 c.hosts, .int .i64 c.vars, .int .i64 c.els, .int .i64 c.dats, .bool c.counted] 38)) = U at *
      have HSB : Hid (∀ u, Below U.heap.size U u → SR w.heap.size V3.heap.size q c g p u) := Lib.hid fun u hu => by
        have h0 := (hu.block w.heap.size (by have := HX.out; have := HZ3.out; omega)).trans ((HX.out.1.block _ HZ3.out).trans HM3.out)
        have h1 := (hu.block V3.heap.size (by have := HX.out; omega)).trans HX.out.2.1
        refine ⟨?_, ?_⟩
        · refine ⟨?_, ?_, ?_, ?_, ?_, ?_, ?_, ?_, ?_, ?_, ?_, ?_⟩ <;> rw [blk_cell h0] <;> rfl
        · refine ⟨?_, ?_, ?_, ?_, ?_, ?_, ?_, ?_, ?_, ?_⟩ <;> rw [blk_cell h1] <;> rfl
      have HUB : Hid (∀ u, Below U.heap.size U u → Below w.heap.size w u) := Lib.hid fun u hu => HV3.out.trans ((HX.out.1.trans (hu.mono (by have := HX.out; omega))).mono (by have := HZ3.out; omega))
      have HGA : Hid (∀ u, Below U.heap.size U u → Calls Try.prog 10 #[.agg #[.slice p.A0 g.types.length p.c0, .slice p.A1 g.imps.length p.c1, .slice p.A2 g.funcs.length p.c2, .slice p.A3 g.tabs.length p.c3, .slice p.A4 g.mems.length p.c4, .slice p.A5 g.globs.length p.c5, .slice p.A6 g.expos.length p.c6, .slice p.A7 g.starts.length p.c7, .slice p.A8 g.els.length p.c8, .slice p.A9 g.counts.length p.c9, .slice p.A10 g.dats.length p.c10, .slice p.A11 g.cuss.length p.c11], .bool false] u (RGathIs u (gathR g false))) := Lib.hid fun u hu => HGR.out u (HUB.out u hu) HS.out
      have HSA : Hid (∀ (u : World) (ok4 : Nat → Prop) (r : Plc), Below U.heap.size U u → CtxL u ok4 r c → Calls Try.prog 9 #[.agg #[.slice q.A0 c.types.length q.d0, .slice q.A1 c.funcs.length q.d1, .slice q.A2 c.globs.length q.d2, .slice q.A3 c.tabs.length q.d3, .slice q.A4 c.mems.length q.d4, .int .i64 c.hosts, .int .i64 c.vars, .int .i64 c.els, .int .i64 c.dats, .bool c.counted], .agg #[.slice r.A0 c.types.length r.d0, .slice r.A1 c.funcs.length r.d1, .slice r.A2 c.globs.length r.d2, .slice r.A3 c.tabs.length r.d3, .slice r.A4 c.mems.length r.d4, .int .i64 c.hosts, .int .i64 c.vars, .int .i64 c.els, .int .i64 c.dats, .bool c.counted]] u (BoolIs u true)) := Lib.hid fun u ok4 r hu hr => rsamec_yes q r c u (HC3.out.keep (w' := u) (ok' := fun _ => True) fun b hb hlt => ⟨((HX.out.1.trans (hu.mono (by have := HX.out; omega))).block b hlt), trivial⟩) hr HFI.out.1 HFI.out.2
      have HER : Hid (Calls Try.prog 8 #[.agg #[.slice p.A0 g.types.length p.c0, .slice p.A1 g.imps.length p.c1, .slice p.A2 g.funcs.length p.c2, .slice p.A3 g.tabs.length p.c3, .slice p.A4 g.mems.length p.c4, .slice p.A5 g.globs.length p.c5, .slice p.A6 g.expos.length p.c6, .slice p.A7 g.starts.length p.c7, .slice p.A8 g.els.length p.c8, .slice p.A9 g.counts.length p.c9, .slice p.A10 g.dats.length p.c10, .slice p.A11 g.cuss.length p.c11]] U (NumIs U 0)) := Lib.hid (HE3.out U (HUB.out U (Below.refl _ _)))
      clear HM3 HC3 HE3 HGR HFI HV3
      obtain ⟨⟨m0, m1, m2, m3, m4, m5, m6, m7, m8, m9, m10, m11⟩, -⟩ := HSB.out U (Below.refl _ _)
      go_wp2_with fail
      refine HER.out.mono ?_
      rintro en V9 ⟨rfl, hb⟩
      have HD : Hid (Below U.heap.size U V9.drew) := Lib.hid hb.drew
      clear hb HER m0 m1 m2 m3 m4 m5 m6 m7 m8 m9 m10 m11
      have hS0 := HSB.out _ HD.out
      go_wp2_with fail
      refine wp_region_held_drew (S := (SR w.heap.size V3.heap.size q c g p)) (by kernel_rfl) hS0 (fun hS => ?_)
      clear hS0
      generalize V9.drew = V at *
      refine wpAnyH_take (i := 0) (oi := { dst := some 28, op := .move (.tmp 4), type := 39, pos := "law.go:33", after := #[], guard := none }) (v := ?_) rfl (by kernel_rfl) (by kernel_rfl) (by kernel_rfl) (fun _ _ _ h => h) (Or.inl ⟨by rfl, ?_⟩) hS ?_
      rotate_left
      · (intro w' hS'; obtain ⟨⟨s0, s1, s2, s3, s4, s5, s6, s7, s8, s9, s10, s11⟩, ⟨t0, t1, t2, t3, t4, t5, t6, t7, t8, t9⟩⟩ := hS'; go_simp) <;> with_reducible rfl
      try simp only [Act.put, List.setIfInBounds_toArray, List.set_cons_zero, List.set_cons_succ]
      refine wpAnyH_take (i := 1) (oi := { dst := some 29, op := .binOp .eql 39 (.tmp 28) (.const (.int .i64 0)) 39, type := 4, pos := "law.go:33", after := #[{ on := 0, ground := .data }], guard := none }) (v := ?_) rfl (by kernel_rfl) (by kernel_rfl) (by kernel_rfl) (fun _ _ _ h => h) (Or.inl ⟨by rfl, ?_⟩) hS ?_
      rotate_left
      · (intro w' hS'; obtain ⟨⟨s0, s1, s2, s3, s4, s5, s6, s7, s8, s9, s10, s11⟩, ⟨t0, t1, t2, t3, t4, t5, t6, t7, t8, t9⟩⟩ := hS'; go_simp) <;> with_reducible rfl
      try simp only [Act.put, List.setIfInBounds_toArray, List.set_cons_zero, List.set_cons_succ]
      refine wpAnyH_take (i := 2) (oi := { dst := some 30, op := .move (.tmp 29), type := 4, pos := "law.go:33", after := #[{ on := 1, ground := .data }], guard := none }) (v := ?_) rfl (by kernel_rfl) (by kernel_rfl) (by kernel_rfl) (fun _ _ _ h => h) (Or.inl ⟨by rfl, ?_⟩) hS ?_
      rotate_left
      · (intro w' hS'; obtain ⟨⟨s0, s1, s2, s3, s4, s5, s6, s7, s8, s9, s10, s11⟩, ⟨t0, t1, t2, t3, t4, t5, t6, t7, t8, t9⟩⟩ := hS'; go_simp) <;> with_reducible rfl
      try simp only [Act.put, List.setIfInBounds_toArray, List.set_cons_zero, List.set_cons_succ]
      refine wpAnyH_take (i := 3) (oi := { dst := some 31, op := .load 38 (.tmp 3), type := 38, pos := "law.go:33", after := #[{ on := 2, ground := .guard }], guard := some (2, true) }) (v := ?_) rfl (by kernel_rfl) (by kernel_rfl) (by kernel_rfl) (fun _ _ _ h => h) (Or.inl ⟨by rfl, ?_⟩) hS ?_
      rotate_left
      · (intro w' hS'; obtain ⟨⟨s0, s1, s2, s3, s4, s5, s6, s7, s8, s9, s10, s11⟩, ⟨t0, t1, t2, t3, t4, t5, t6, t7, t8, t9⟩⟩ := hS'; go_simp) <;> with_reducible rfl
      try simp only [Act.put, List.setIfInBounds_toArray, List.set_cons_zero, List.set_cons_succ]
      refine wpAnyH_take (i := 4) (oi := { dst := some 32, op := .load 33 (.tmp 1), type := 33, pos := "law.go:33", after := #[{ on := 2, ground := .guard }], guard := some (2, true) }) (v := ?_) rfl (by kernel_rfl) (by kernel_rfl) (by kernel_rfl) (fun _ _ _ h => h) (Or.inl ⟨by rfl, ?_⟩) hS ?_
      rotate_left
      · (intro w' hS'; obtain ⟨⟨s0, s1, s2, s3, s4, s5, s6, s7, s8, s9, s10, s11⟩, ⟨t0, t1, t2, t3, t4, t5, t6, t7, t8, t9⟩⟩ := hS'; go_simp) <;> with_reducible rfl
      try simp only [Act.put, List.setIfInBounds_toArray, List.set_cons_zero, List.set_cons_succ]
      refine wpAnyH_ready (rs := [5]) (by kernel_rfl) (by simp) ?_
      refine AllReadyH.cons (o := { dst := some 33, op := .call { callee := .value (.func 10), args := #[.tmp 32, .const (.bool false)], argTypes := #[33, 4] }, type := 38, pos := "law.go:33", after := #[{ on := 4, ground := .data }, { on := 2, ground := .chain }, { on := 2, ground := .guard }], guard := some (2, true) }) rfl (fun K' hK => ?_) (AllReadyH.nil)
      go_simp
      refine (HGA.out V HD.out).mono ?_
      rintro en V4 ⟨r, rfl, hc4, hb4⟩
      have HW4 := Lib.hid (HD.out.trans (hb4.mono HD.out.size))
      have HC4 := Lib.hid hc4
      clear hb4 hc4
      simp only [Plc.vals]
      rw [HGE.out] at HC4 ⊢
      go_wp2_with fail
      refine hK.out _ _ (HSB.out _ HW4.out) (fun hS => ?_)
      clear hK K'
      try simp only [Act.put, List.setIfInBounds_toArray, List.set_cons_zero, List.set_cons_succ]
      refine wpAnyH_ready (rs := [6]) (by kernel_rfl) (by simp) ?_
      refine AllReadyH.cons (o := { dst := some 34, op := .call { callee := .value (.func 9), args := #[.tmp 31, .tmp 33], argTypes := #[38, 38] }, type := 4, pos := "law.go:33", after := #[{ on := 3, ground := .data }, { on := 5, ground := .data }, { on := 5, ground := .chain }, { on := 2, ground := .guard }], guard := some (2, true) }) rfl (fun K' hK => ?_) (AllReadyH.nil)
      go_simp
      refine (HSA.out V4 _ r HW4.out HC4.out).mono ?_
      rintro en V5 ⟨rfl, hb5⟩
      have HW5 := Lib.hid (HW4.out.trans (hb5.mono HW4.out.size))
      clear hb5
      go_wp2_with fail
      refine hK.out _ _ (HSB.out _ HW5.out) (fun hS => ?_)
      clear hK K'
      try simp only [Act.put, List.setIfInBounds_toArray, List.set_cons_zero, List.set_cons_succ]
      refine wpAnyH_take (i := 7) (oi := { dst := some 35, op := .pick (.tmp 30) (.tmp 34) (.const (.bool false)), type := 4, pos := "law.go:33", after := #[{ on := 2, ground := .data }, { on := 6, ground := .data }], guard := none }) (v := ?_) rfl (by kernel_rfl) (by kernel_rfl) (by kernel_rfl) (fun _ _ _ h => h) (Or.inl ⟨by rfl, ?_⟩) hS ?_
      rotate_left
      · (intro w' hS'; obtain ⟨⟨s0, s1, s2, s3, s4, s5, s6, s7, s8, s9, s10, s11⟩, ⟨t0, t1, t2, t3, t4, t5, t6, t7, t8, t9⟩⟩ := hS'; go_simp) <;> with_reducible rfl
      try simp only [Act.put, List.setIfInBounds_toArray, List.set_cons_zero, List.set_cons_succ]
      refine wpAnyH_take (i := 8) (oi := { dst := some 2, op := .assign (.tmp 35), type := 4, pos := "law.go:33", after := #[{ on := 7, ground := .data }, { on := 6, ground := .chain }, { on := 0, ground := .phase }, { on := 1, ground := .phase }, { on := 2, ground := .phase }, { on := 3, ground := .phase }, { on := 4, ground := .phase }, { on := 5, ground := .phase }, { on := 6, ground := .phase }, { on := 7, ground := .phase }], guard := none }) (v := ?_) rfl (by kernel_rfl) (by kernel_rfl) (by kernel_rfl) (fun _ _ _ h => h) (Or.inl ⟨by rfl, ?_⟩) hS ?_
      rotate_left
      · (intro w' hS'; obtain ⟨⟨s0, s1, s2, s3, s4, s5, s6, s7, s8, s9, s10, s11⟩, ⟨t0, t1, t2, t3, t4, t5, t6, t7, t8, t9⟩⟩ := hS'; go_simp) <;> with_reducible rfl
      try simp only [Act.put, List.setIfInBounds_toArray, List.set_cons_zero, List.set_cons_succ]
      refine wpAnyH_done (by kernel_rfl) ?_ _
      go_wp2
      go_ret
      exact ⟨rfl, HUB.out _ HW5.out⟩
    · have hcc : ofC g = noC := by unfold ofC; rw [if_neg he]
      rw [hcc] at HC3 ⊢
      simp only [Plc.vals]
      have hz : noC = ⟨[], [], [], [], [], 0, 0, 0, 0, false⟩ := rfl
      rw [hz]
      simp only [List.length_nil]
      have HX : Hid (Below V3.heap.size V3 (V3.alloc (.cells #[.slice q.A0 0 q.d0, .slice q.A1 0 q.d1, .slice q.A2 0 q.d2, .slice q.A3 0 q.d3, .slice q.A4 0 q.d4, .int .i64 0, .int .i64 0, .int .i64 0, .int .i64 0, .bool false] 38)) ∧ (V3.alloc (.cells #[.slice q.A0 0 q.d0, .slice q.A1 0 q.d1, .slice q.A2 0 q.d2, .slice q.A3 0 q.d3, .slice q.A4 0 q.d4, .int .i64 0, .int .i64 0, .int .i64 0, .int .i64 0, .bool false] 38)).heap[V3.heap.size]? = some (.cells #[.slice q.A0 0 q.d0, .slice q.A1 0 q.d1, .slice q.A2 0 q.d2, .slice q.A3 0 q.d3, .slice q.A4 0 q.d4, .int .i64 0, .int .i64 0, .int .i64 0, .int .i64 0, .bool false] 38 (0, 0)) ∧ (V3.alloc (.cells #[.slice q.A0 0 q.d0, .slice q.A1 0 q.d1, .slice q.A2 0 q.d2, .slice q.A3 0 q.d3, .slice q.A4 0 q.d4, .int .i64 0, .int .i64 0, .int .i64 0, .int .i64 0, .bool false] 38)).heap.size = V3.heap.size + 1) := Lib.hid ⟨(Below.refl _ _).alloc (Nat.le_refl _) _, heap_alloc_new V3 _, by simp⟩
      have hee : (ofE g == ofE g) = true := by simp
      generalize ofE g = e at *
      go_upto_region 6 with fail
      generalize (V3.alloc (.cells #[.slice q.A0 0 q.d0, .slice q.A1 0 q.d1, .slice q.A2 0 q.d2, .slice q.A3 0 q.d3, .slice q.A4 0 q.d4, .int .i64 0, .int .i64 0, .int .i64 0, .int .i64 0, .bool false] 38)) = U at *
      have HSB : Hid (∀ u, Below U.heap.size U u → BoxG w.heap.size u g p ∧ u.heap[V3.heap.size]? = some (.cells #[.slice q.A0 0 q.d0, .slice q.A1 0 q.d1, .slice q.A2 0 q.d2, .slice q.A3 0 q.d3, .slice q.A4 0 q.d4, .int .i64 0, .int .i64 0, .int .i64 0, .int .i64 0, .bool false] 38 (0, 0))) := Lib.hid fun u hu => by
        have h0 := (hu.block w.heap.size (by have := HX.out; have := HZ3.out; omega)).trans ((HX.out.1.block _ HZ3.out).trans HM3.out)
        have h1 := (hu.block V3.heap.size (by have := HX.out; omega)).trans HX.out.2.1
        refine ⟨?_, h1⟩
        refine ⟨?_, ?_, ?_, ?_, ?_, ?_, ?_, ?_, ?_, ?_, ?_, ?_⟩ <;> rw [blk_cell h0] <;> rfl
      have HUB : Hid (∀ u, Below U.heap.size U u → Below w.heap.size w u) := Lib.hid fun u hu => HV3.out.trans ((HX.out.1.trans (hu.mono (by have := HX.out; omega))).mono (by have := HZ3.out; omega))
      have HSA : Hid (∀ u, Below U.heap.size U u → Calls Try.prog 9 #[.agg #[.slice q.A0 0 q.d0, .slice q.A1 0 q.d1, .slice q.A2 0 q.d2, .slice q.A3 0 q.d3, .slice q.A4 0 q.d4, .int .i64 0, .int .i64 0, .int .i64 0, .int .i64 0, .bool false], .agg #[.slice none 0 0, .slice none 0 0, .slice none 0 0, .slice none 0 0, .slice none 0 0, .int .i64 0, .int .i64 0, .int .i64 0, .int .i64 0, .bool false]] u (BoolIs u true)) := Lib.hid fun u hu => rsamec_yes q noPlc noC u (HC3.out.keep (w' := u) (ok' := fun _ => True) fun b hb hlt => ⟨((HX.out.1.trans (hu.mono (by have := HX.out; omega))).block b hlt), trivial⟩) (ctxl_none u (fun _ => True)) (fun x hx => by cases hx) ⟨Nat.zero_le _, Nat.zero_le _, Nat.zero_le _, Nat.zero_le _, Nat.zero_le _⟩
      have HER : Hid (Calls Try.prog 8 #[.agg #[.slice p.A0 g.types.length p.c0, .slice p.A1 g.imps.length p.c1, .slice p.A2 g.funcs.length p.c2, .slice p.A3 g.tabs.length p.c3, .slice p.A4 g.mems.length p.c4, .slice p.A5 g.globs.length p.c5, .slice p.A6 g.expos.length p.c6, .slice p.A7 g.starts.length p.c7, .slice p.A8 g.els.length p.c8, .slice p.A9 g.counts.length p.c9, .slice p.A10 g.dats.length p.c10, .slice p.A11 g.cuss.length p.c11]] U (NumIs U e)) := Lib.hid (HE3.out U (HUB.out U (Below.refl _ _)))
      clear HM3 HC3 HE3 HGR HV3
      obtain ⟨⟨m0, m1, m2, m3, m4, m5, m6, m7, m8, m9, m10, m11⟩, -⟩ := HSB.out U (Below.refl _ _)
      go_wp2_with fail
      refine HER.out.mono ?_
      rintro en V9 ⟨rfl, hb⟩
      have HD := Lib.hid hb
      have hk := (HSB.out V9 hb).2
      have x0 : V9.cell? ⟨V3.heap.size, 0, none⟩ = some (.slice q.A0 0 q.d0) := (blk_cell hk 0).trans rfl
      have x1 : V9.cell? ⟨V3.heap.size, 1, none⟩ = some (.slice q.A1 0 q.d1) := (blk_cell hk 1).trans rfl
      have x2 : V9.cell? ⟨V3.heap.size, 2, none⟩ = some (.slice q.A2 0 q.d2) := (blk_cell hk 2).trans rfl
      have x3 : V9.cell? ⟨V3.heap.size, 3, none⟩ = some (.slice q.A3 0 q.d3) := (blk_cell hk 3).trans rfl
      have x4 : V9.cell? ⟨V3.heap.size, 4, none⟩ = some (.slice q.A4 0 q.d4) := (blk_cell hk 4).trans rfl
      have x5 : V9.cell? ⟨V3.heap.size, 5, none⟩ = some (.int .i64 0) := (blk_cell hk 5).trans rfl
      have x6 : V9.cell? ⟨V3.heap.size, 6, none⟩ = some (.int .i64 0) := (blk_cell hk 6).trans rfl
      have x7 : V9.cell? ⟨V3.heap.size, 7, none⟩ = some (.int .i64 0) := (blk_cell hk 7).trans rfl
      have x8 : V9.cell? ⟨V3.heap.size, 8, none⟩ = some (.int .i64 0) := (blk_cell hk 8).trans rfl
      have x9 : V9.cell? ⟨V3.heap.size, 9, none⟩ = some (.bool false) := (blk_cell hk 9).trans rfl
      clear hb HER hk m0 m1 m2 m3 m4 m5 m6 m7 m8 m9 m10 m11
      go_wp2_with fail
      refine (HSA.out V9 HD.out).mono ?_
      rintro en V10 ⟨rfl, hb⟩
      have HW := Lib.hid (HD.out.trans (hb.mono HD.out.size))
      clear hb
      go_wp2
      go_ret
      exact ⟨rfl, HUB.out _ HW.out⟩
end
end Go.Proofs.Ytlbbnnljclndkaa.Cx
