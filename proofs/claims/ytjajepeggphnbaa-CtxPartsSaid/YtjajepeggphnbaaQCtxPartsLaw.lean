/-
  CtxPartsLaw: trammellaw09.CtxParts: whatever the module, true. Conditions: the module lies in memory, as one that came in. (Written by wip/tools/genctxparts.py.)
-/
import Derived.Test.YtjajepeggphnbaaQCtxPM
import Derived.Test.YtjajepeggphnbaaQCtxAwake
namespace Go.Proofs.Ytjajepeggphnbaa.Cx
open Go.RowKit Leb
open _root_.Go.Proofs.Ytjajepeggphnbaa.Mod

theorem wrap64_id {n : Int} (h0 : 0 ≤ n) (h1 : n < 9223372036854775808) : wrap64 n = n := by unfold wrap64; omega
theorem gather_few {g : GMd} (h : Sm g) : (gather g).funcs.length ≤ 300 ∧ (gather g).globs.length ≤ 300 := by
  have h1 := fold_few g.imps (gath0 g) 0 ⟨Nat.le_refl _, Nat.le_refl _, Nat.le_refl _, Nat.le_refl _⟩
  have h2 := h.imps
  have h3 := h.funcs
  have h4 := h.globs
  have e1 : (gather g).funcs = (gathI g).funcs ++ g.funcs.map (fun x : GFn => x.ty) := rfl
  have e2 : (gather g).globs = (gathI g).globs ++ g.globs.map (fun x : GGlob => (x.ty, x.mu)) := rfl
  rw [e1, e2, List.length_append, List.length_append, List.length_map, List.length_map]
  have h5 := h1.1
  have h6 := h1.2.1
  unfold gathI
  omega
section
variable (g : GMd) (p : Pls) (w : World) {ok : Nat → Prop}
set_option maxRecDepth 100000 in
set_option maxHeartbeats 16000000 in
theorem parts_law (hm : MdL w ok ok p g) (hg : Opn.GIn g) : Calls Try.prog 5 #[.agg #[.slice p.A0 g.types.length p.c0, .slice p.A1 g.imps.length p.c1, .slice p.A2 g.funcs.length p.c2, .slice p.A3 g.tabs.length p.c3, .slice p.A4 g.mems.length p.c4, .slice p.A5 g.globs.length p.c5, .slice p.A6 g.expos.length p.c6, .slice p.A7 g.starts.length p.c7, .slice p.A8 g.els.length p.c8, .slice p.A9 g.counts.length p.c9, .slice p.A10 g.dats.length p.c10, .slice p.A11 g.cuss.length p.c11]] w (BoolIs w true) := by
  have HB1 : Hid (Below w.heap.size w (w.alloc (.cells #[.slice p.A0 g.types.length p.c0, .slice p.A1 g.imps.length p.c1, .slice p.A2 g.funcs.length p.c2, .slice p.A3 g.tabs.length p.c3, .slice p.A4 g.mems.length p.c4, .slice p.A5 g.globs.length p.c5, .slice p.A6 g.expos.length p.c6, .slice p.A7 g.starts.length p.c7, .slice p.A8 g.els.length p.c8, .slice p.A9 g.counts.length p.c9, .slice p.A10 g.dats.length p.c10, .slice p.A11 g.cuss.length p.c11] 33))) := Lib.hid ((Below.refl _ _).alloc (Nat.le_refl _) _)
  have HS1 : Hid ((w.alloc (.cells #[.slice p.A0 g.types.length p.c0, .slice p.A1 g.imps.length p.c1, .slice p.A2 g.funcs.length p.c2, .slice p.A3 g.tabs.length p.c3, .slice p.A4 g.mems.length p.c4, .slice p.A5 g.globs.length p.c5, .slice p.A6 g.expos.length p.c6, .slice p.A7 g.starts.length p.c7, .slice p.A8 g.els.length p.c8, .slice p.A9 g.counts.length p.c9, .slice p.A10 g.dats.length p.c10, .slice p.A11 g.cuss.length p.c11] 33)).heap.size = w.heap.size + 1) := Lib.hid (by simp)
  have HK1 : Hid ((w.alloc (.cells #[.slice p.A0 g.types.length p.c0, .slice p.A1 g.imps.length p.c1, .slice p.A2 g.funcs.length p.c2, .slice p.A3 g.tabs.length p.c3, .slice p.A4 g.mems.length p.c4, .slice p.A5 g.globs.length p.c5, .slice p.A6 g.expos.length p.c6, .slice p.A7 g.starts.length p.c7, .slice p.A8 g.els.length p.c8, .slice p.A9 g.counts.length p.c9, .slice p.A10 g.dats.length p.c10, .slice p.A11 g.cuss.length p.c11] 33)).heap[w.heap.size]? = some (.cells #[.slice p.A0 g.types.length p.c0, .slice p.A1 g.imps.length p.c1, .slice p.A2 g.funcs.length p.c2, .slice p.A3 g.tabs.length p.c3, .slice p.A4 g.mems.length p.c4, .slice p.A5 g.globs.length p.c5, .slice p.A6 g.expos.length p.c6, .slice p.A7 g.starts.length p.c7, .slice p.A8 g.els.length p.c8, .slice p.A9 g.counts.length p.c9, .slice p.A10 g.dats.length p.c10, .slice p.A11 g.cuss.length p.c11] 33 (0, 0))) := Lib.hid (heap_alloc_new w _)
  have HAW := Lib.hid (awake_any (w.alloc (.cells #[.slice p.A0 g.types.length p.c0, .slice p.A1 g.imps.length p.c1, .slice p.A2 g.funcs.length p.c2, .slice p.A3 g.tabs.length p.c3, .slice p.A4 g.mems.length p.c4, .slice p.A5 g.globs.length p.c5, .slice p.A6 g.expos.length p.c6, .slice p.A7 g.starts.length p.c7, .slice p.A8 g.els.length p.c8, .slice p.A9 g.counts.length p.c9, .slice p.A10 g.dats.length p.c10, .slice p.A11 g.cuss.length p.c11] 33)))
  have HSH : Hid (∀ V, Below w.heap.size w V → Calls Try.prog 9 #[.agg #[.slice p.A0 g.types.length p.c0, .slice p.A1 g.imps.length p.c1, .slice p.A2 g.funcs.length p.c2, .slice p.A3 g.tabs.length p.c3, .slice p.A4 g.mems.length p.c4, .slice p.A5 g.globs.length p.c5, .slice p.A6 g.expos.length p.c6, .slice p.A7 g.starts.length p.c7, .slice p.A8 g.els.length p.c8, .slice p.A9 g.counts.length p.c9, .slice p.A10 g.dats.length p.c10, .slice p.A11 g.cuss.length p.c11]] V (Sh.ShortIs V g)) := Lib.hid fun V hV => Sh.short_any g p V ok (hm.keep (fun b h1 h2 => ⟨hV.block b h2, h1⟩) (fun b h1 h2 => ⟨hV.block b h2, h1⟩)) hg
  have HOF : Hid (∀ V, Below w.heap.size w V → Sm g → Calls Try.prog 10 #[.agg #[.slice p.A0 g.types.length p.c0, .slice p.A1 g.imps.length p.c1, .slice p.A2 g.funcs.length p.c2, .slice p.A3 g.tabs.length p.c3, .slice p.A4 g.mems.length p.c4, .slice p.A5 g.globs.length p.c5, .slice p.A6 g.expos.length p.c6, .slice p.A7 g.starts.length p.c7, .slice p.A8 g.els.length p.c8, .slice p.A9 g.counts.length p.c9, .slice p.A10 g.dats.length p.c10, .slice p.A11 g.cuss.length p.c11]] V (OfIs V g)) := Lib.hid fun V hV hs => of_any g p V (hm.keep (fun b h1 h2 => ⟨hV.block b h2, h1⟩) (fun b h1 h2 => ⟨hV.block b h2, h1⟩)) hs
  have HON : Hid (∀ V, Below w.heap.size w V → Sm g → Calls Try.prog 10 #[.agg #[.slice p.A0 g.types.length p.c0, .slice p.A1 g.imps.length p.c1, .slice p.A2 g.funcs.length p.c2, .slice p.A3 g.tabs.length p.c3, .slice p.A4 g.mems.length p.c4, .slice p.A5 g.globs.length p.c5, .slice none 0 0, .slice none 0 0, .slice none 0 0, .slice p.A9 g.counts.length p.c9, .slice none 0 0, .slice p.A11 g.cuss.length p.c11]] V (OfIs V (less g))) := Lib.hid fun V hV hs => of_any (less g) (lessP p) V (less_mem (hm.keep (fun b h1 h2 => ⟨hV.block b h2, h1⟩) (fun b h1 h2 => ⟨hV.block b h2, h1⟩))) (less_sm hs)
  have HSM : Hid (Sh.P8 g → Sm g) := Lib.hid fun h => sm_of h hg
  have HL := Lib.hid hm
  clear hm hg
  go_enter Try.func5, Try.ntmps5
  go_wp2_with fail
  refine HAW.out.mono ?_
  rintro en V1 ⟨rfl, hb⟩
  have HV1 := Lib.hid (HB1.out.trans (hb.mono HB1.out.size))
  have HM1 := Lib.hid ((hb.block _ (by have := HS1.out; omega)).trans HK1.out)
  have HZ1 : Hid (w.heap.size < V1.heap.size) := Lib.hid (by have := hb.size; have := HS1.out; omega)
  clear hb HAW HK1 HB1 HS1
  have m0 : V1.cell? ⟨w.heap.size, 0, none⟩ = some (.slice p.A0 g.types.length p.c0) := (blk_cell HM1.out 0).trans rfl
  have m1 : V1.cell? ⟨w.heap.size, 1, none⟩ = some (.slice p.A1 g.imps.length p.c1) := (blk_cell HM1.out 1).trans rfl
  have m2 : V1.cell? ⟨w.heap.size, 2, none⟩ = some (.slice p.A2 g.funcs.length p.c2) := (blk_cell HM1.out 2).trans rfl
  have m3 : V1.cell? ⟨w.heap.size, 3, none⟩ = some (.slice p.A3 g.tabs.length p.c3) := (blk_cell HM1.out 3).trans rfl
  have m4 : V1.cell? ⟨w.heap.size, 4, none⟩ = some (.slice p.A4 g.mems.length p.c4) := (blk_cell HM1.out 4).trans rfl
  have m5 : V1.cell? ⟨w.heap.size, 5, none⟩ = some (.slice p.A5 g.globs.length p.c5) := (blk_cell HM1.out 5).trans rfl
  have m6 : V1.cell? ⟨w.heap.size, 6, none⟩ = some (.slice p.A6 g.expos.length p.c6) := (blk_cell HM1.out 6).trans rfl
  have m7 : V1.cell? ⟨w.heap.size, 7, none⟩ = some (.slice p.A7 g.starts.length p.c7) := (blk_cell HM1.out 7).trans rfl
  have m8 : V1.cell? ⟨w.heap.size, 8, none⟩ = some (.slice p.A8 g.els.length p.c8) := (blk_cell HM1.out 8).trans rfl
  have m9 : V1.cell? ⟨w.heap.size, 9, none⟩ = some (.slice p.A9 g.counts.length p.c9) := (blk_cell HM1.out 9).trans rfl
  have m10 : V1.cell? ⟨w.heap.size, 10, none⟩ = some (.slice p.A10 g.dats.length p.c10) := (blk_cell HM1.out 10).trans rfl
  have m11 : V1.cell? ⟨w.heap.size, 11, none⟩ = some (.slice p.A11 g.cuss.length p.c11) := (blk_cell HM1.out 11).trans rfl
  go_wp2_with fail
  refine (HSH.out V1 HV1.out).mono ?_
  rintro en V2 ⟨bs, rfl, h8, hb⟩
  have HV2 := Lib.hid (HV1.out.trans (hb.mono HV1.out.size))
  have HM2 := Lib.hid ((hb.block _ HZ1.out).trans HM1.out)
  have HZ2 : Hid (w.heap.size < V2.heap.size) := Lib.hid (by have := hb.size; have := HZ1.out; omega)
  clear hb HSH HM1 HV1 HZ1 m0 m1 m2 m3 m4 m5 m6 m7 m8 m9 m10 m11
  cases bs with
  | false =>
    clear h8
    go_wp2
    go_ret
    exact ⟨rfl, HV2.out⟩
  | true =>
    have HS := Lib.hid (HSM.out (h8 rfl))
    clear h8 HSM
    have m0 : V2.cell? ⟨w.heap.size, 0, none⟩ = some (.slice p.A0 g.types.length p.c0) := (blk_cell HM2.out 0).trans rfl
    have m1 : V2.cell? ⟨w.heap.size, 1, none⟩ = some (.slice p.A1 g.imps.length p.c1) := (blk_cell HM2.out 1).trans rfl
    have m2 : V2.cell? ⟨w.heap.size, 2, none⟩ = some (.slice p.A2 g.funcs.length p.c2) := (blk_cell HM2.out 2).trans rfl
    have m3 : V2.cell? ⟨w.heap.size, 3, none⟩ = some (.slice p.A3 g.tabs.length p.c3) := (blk_cell HM2.out 3).trans rfl
    have m4 : V2.cell? ⟨w.heap.size, 4, none⟩ = some (.slice p.A4 g.mems.length p.c4) := (blk_cell HM2.out 4).trans rfl
    have m5 : V2.cell? ⟨w.heap.size, 5, none⟩ = some (.slice p.A5 g.globs.length p.c5) := (blk_cell HM2.out 5).trans rfl
    have m6 : V2.cell? ⟨w.heap.size, 6, none⟩ = some (.slice p.A6 g.expos.length p.c6) := (blk_cell HM2.out 6).trans rfl
    have m7 : V2.cell? ⟨w.heap.size, 7, none⟩ = some (.slice p.A7 g.starts.length p.c7) := (blk_cell HM2.out 7).trans rfl
    have m8 : V2.cell? ⟨w.heap.size, 8, none⟩ = some (.slice p.A8 g.els.length p.c8) := (blk_cell HM2.out 8).trans rfl
    have m9 : V2.cell? ⟨w.heap.size, 9, none⟩ = some (.slice p.A9 g.counts.length p.c9) := (blk_cell HM2.out 9).trans rfl
    have m10 : V2.cell? ⟨w.heap.size, 10, none⟩ = some (.slice p.A10 g.dats.length p.c10) := (blk_cell HM2.out 10).trans rfl
    have m11 : V2.cell? ⟨w.heap.size, 11, none⟩ = some (.slice p.A11 g.cuss.length p.c11) := (blk_cell HM2.out 11).trans rfl
    go_wp2_with fail
    refine (HOF.out V2 HV2.out HS.out).mono ?_
    rintro en V3 ⟨q, rfl, hc, hb⟩
    have HV3 := Lib.hid (HV2.out.trans (hb.mono HV2.out.size))
    have HM3 := Lib.hid ((hb.block _ HZ2.out).trans HM2.out)
    have HC3 := Lib.hid hc
    have HZ3 : Hid (w.heap.size < V3.heap.size) := Lib.hid (by have := hb.size; have := HZ2.out; omega)
    clear hb hc HOF HM2 m0 m1 m2 m3 m4 m5 m6 m7 m8 m9 m10 m11
    by_cases he : ofE g = 0
    · have HR := Lib.hid (right_iff.1 he)
      have hcc : ofC g = gather g := by unfold ofC; rw [if_pos he]
      rw [hcc] at HC3 ⊢
      rw [he]
      have HRL : Hid (ofE (less g) = 0 ∧ (ofC (less g)).funcs.length = (gather g).funcs.length) := Lib.hid ⟨right_iff.2 (less_right HR.out), by unfold ofC; rw [if_pos (right_iff.2 (less_right HR.out)), gather_less]; rfl⟩
      have HFI : Hid (((gather g).hosts + (g.funcs.length : Int) = ((gather g).funcs.length : Int) ∧ (gather g).vars + (g.globs.length : Int) = ((gather g).globs.length : Int)) ∧ ((gather g).tabs.length ≤ 1 ∧ (gather g).mems.length ≤ 1) ∧ (∀ i, i < (gather g).funcs.length → hasTy (gather g) ((i : Nat) : Int) = true) ∧ (∀ x ∈ g.els, ∀ f ∈ x.fs, f = -1 ∨ inB f (gather g).funcs.length = true) ∧ FtS (gather g) ∧ (gather g).funcs.length ≤ 300 ∧ (gather g).globs.length ≤ 300) := Lib.hid ⟨gather_hosts g, one_le HR.out.one, hasTy_all HR.out, els_in HR.out, fts_gather HS.out, gather_few HS.out⟩
      clear he hcc HR
      have HN2 : Hid (∀ V, Below w.heap.size w V → Calls Try.prog 10 #[.agg #[.slice p.A0 g.types.length p.c0, .slice p.A1 g.imps.length p.c1, .slice p.A2 g.funcs.length p.c2, .slice p.A3 g.tabs.length p.c3, .slice p.A4 g.mems.length p.c4, .slice p.A5 g.globs.length p.c5, .slice none 0 0, .slice none 0 0, .slice none 0 0, .slice p.A9 g.counts.length p.c9, .slice none 0 0, .slice p.A11 g.cuss.length p.c11]] V fun en w' => ∃ (r : Plc) (n0 n2 n3 n4 : Nat) (i5 i6 i7 i8 : Int) (b9 : Bool), en = .returned (.tuple #[.agg #[.slice r.A0 n0 r.d0, .slice r.A1 (gather g).funcs.length r.d1, .slice r.A2 n2 r.d2, .slice r.A3 n3 r.d3, .slice r.A4 n4 r.d4, .int .i64 i5, .int .i64 i6, .int .i64 i7, .int .i64 i8, .bool b9], .int .i64 0]) ∧ Below V.heap.size V w') := Lib.hid fun V hV => by
        refine (HON.out V hV HS.out).mono ?_
        rintro en w' ⟨r, e, _, hb⟩
        rw [HRL.out.1] at e
        refine ⟨r, (ofC (less g)).types.length, (ofC (less g)).globs.length, (ofC (less g)).tabs.length, (ofC (less g)).mems.length, (ofC (less g)).hosts, (ofC (less g)).vars, (ofC (less g)).els, (ofC (less g)).dats, (ofC (less g)).counted, ?_, hb⟩
        rw [e, ← HRL.out.2]
        rfl
      clear HON HRL
      simp only [Plc.vals]
      generalize gather g = c at *
      have HBA : Hid (Below V3.heap.size V3 (V3.alloc (.cells #[.slice q.A0 c.types.length q.d0, .slice q.A1 c.funcs.length q.d1, .slice q.A2 c.globs.length q.d2, .slice q.A3 c.tabs.length q.d3, .slice q.A4 c.mems.length q.d4, .int .i64 c.hosts, .int .i64 c.vars, .int .i64 c.els, .int .i64 c.dats, .bool c.counted] 38))) := Lib.hid ((Below.refl _ _).alloc (Nat.le_refl _) _)
      have HCA := Lib.hid (HC3.out.below HBA.out)
      have HKA : Hid ((V3.alloc (.cells #[.slice q.A0 c.types.length q.d0, .slice q.A1 c.funcs.length q.d1, .slice q.A2 c.globs.length q.d2, .slice q.A3 c.tabs.length q.d3, .slice q.A4 c.mems.length q.d4, .int .i64 c.hosts, .int .i64 c.vars, .int .i64 c.els, .int .i64 c.dats, .bool c.counted] 38)).heap[w.heap.size]? = some (.cells #[.slice p.A0 g.types.length p.c0, .slice p.A1 g.imps.length p.c1, .slice p.A2 g.funcs.length p.c2, .slice p.A3 g.tabs.length p.c3, .slice p.A4 g.mems.length p.c4, .slice p.A5 g.globs.length p.c5, .slice p.A6 g.expos.length p.c6, .slice p.A7 g.starts.length p.c7, .slice p.A8 g.els.length p.c8, .slice p.A9 g.counts.length p.c9, .slice p.A10 g.dats.length p.c10, .slice p.A11 g.cuss.length p.c11] 33 (0, 0)) ∧ (V3.alloc (.cells #[.slice q.A0 c.types.length q.d0, .slice q.A1 c.funcs.length q.d1, .slice q.A2 c.globs.length q.d2, .slice q.A3 c.tabs.length q.d3, .slice q.A4 c.mems.length q.d4, .int .i64 c.hosts, .int .i64 c.vars, .int .i64 c.els, .int .i64 c.dats, .bool c.counted] 38)).heap[V3.heap.size]? = some (.cells #[.slice q.A0 c.types.length q.d0, .slice q.A1 c.funcs.length q.d1, .slice q.A2 c.globs.length q.d2, .slice q.A3 c.tabs.length q.d3, .slice q.A4 c.mems.length q.d4, .int .i64 c.hosts, .int .i64 c.vars, .int .i64 c.els, .int .i64 c.dats, .bool c.counted] 38 (0, 0))) := Lib.hid ⟨(HBA.out.block _ HZ3.out).trans HM3.out, heap_alloc_new V3 _⟩
      have HNN : Hid (Below V3.heap.size (V3.alloc (.cells #[.slice q.A0 c.types.length q.d0, .slice q.A1 c.funcs.length q.d1, .slice q.A2 c.globs.length q.d2, .slice q.A3 c.tabs.length q.d3, .slice q.A4 c.mems.length q.d4, .int .i64 c.hosts, .int .i64 c.vars, .int .i64 c.els, .int .i64 c.dats, .bool c.counted] 38)) ((V3.alloc (.cells #[.slice q.A0 c.types.length q.d0, .slice q.A1 c.funcs.length q.d1, .slice q.A2 c.globs.length q.d2, .slice q.A3 c.tabs.length q.d3, .slice q.A4 c.mems.length q.d4, .int .i64 c.hosts, .int .i64 c.vars, .int .i64 c.els, .int .i64 c.dats, .bool c.counted] 38)).alloc (.cells #[.slice p.A0 g.types.length p.c0, .slice p.A1 g.imps.length p.c1, .slice p.A2 g.funcs.length p.c2, .slice p.A3 g.tabs.length p.c3, .slice p.A4 g.mems.length p.c4, .slice p.A5 g.globs.length p.c5, .slice none 0 0, .slice none 0 0, .slice none 0 0, .slice p.A9 g.counts.length p.c9, .slice none 0 0, .slice p.A11 g.cuss.length p.c11] 33))) := Lib.hid ((Below.refl _ _).alloc (by simp) _)
      have HNB : Hid (∀ b, b < V3.heap.size + 1 → ((V3.alloc (.cells #[.slice q.A0 c.types.length q.d0, .slice q.A1 c.funcs.length q.d1, .slice q.A2 c.globs.length q.d2, .slice q.A3 c.tabs.length q.d3, .slice q.A4 c.mems.length q.d4, .int .i64 c.hosts, .int .i64 c.vars, .int .i64 c.els, .int .i64 c.dats, .bool c.counted] 38)).alloc (.cells #[.slice p.A0 g.types.length p.c0, .slice p.A1 g.imps.length p.c1, .slice p.A2 g.funcs.length p.c2, .slice p.A3 g.tabs.length p.c3, .slice p.A4 g.mems.length p.c4, .slice p.A5 g.globs.length p.c5, .slice none 0 0, .slice none 0 0, .slice none 0 0, .slice p.A9 g.counts.length p.c9, .slice none 0 0, .slice p.A11 g.cuss.length p.c11] 33)).heap[b]? = (V3.alloc (.cells #[.slice q.A0 c.types.length q.d0, .slice q.A1 c.funcs.length q.d1, .slice q.A2 c.globs.length q.d2, .slice q.A3 c.tabs.length q.d3, .slice q.A4 c.mems.length q.d4, .int .i64 c.hosts, .int .i64 c.vars, .int .i64 c.els, .int .i64 c.dats, .bool c.counted] 38)).heap[b]?) := Lib.hid fun b hb => ((Below.refl _ _).alloc (Nat.le_refl _) _ : Below (V3.alloc (.cells #[.slice q.A0 c.types.length q.d0, .slice q.A1 c.funcs.length q.d1, .slice q.A2 c.globs.length q.d2, .slice q.A3 c.tabs.length q.d3, .slice q.A4 c.mems.length q.d4, .int .i64 c.hosts, .int .i64 c.vars, .int .i64 c.els, .int .i64 c.dats, .bool c.counted] 38)).heap.size (V3.alloc (.cells #[.slice q.A0 c.types.length q.d0, .slice q.A1 c.funcs.length q.d1, .slice q.A2 c.globs.length q.d2, .slice q.A3 c.tabs.length q.d3, .slice q.A4 c.mems.length q.d4, .int .i64 c.hosts, .int .i64 c.vars, .int .i64 c.els, .int .i64 c.dats, .bool c.counted] 38)) ((V3.alloc (.cells #[.slice q.A0 c.types.length q.d0, .slice q.A1 c.funcs.length q.d1, .slice q.A2 c.globs.length q.d2, .slice q.A3 c.tabs.length q.d3, .slice q.A4 c.mems.length q.d4, .int .i64 c.hosts, .int .i64 c.vars, .int .i64 c.els, .int .i64 c.dats, .bool c.counted] 38)).alloc (.cells #[.slice p.A0 g.types.length p.c0, .slice p.A1 g.imps.length p.c1, .slice p.A2 g.funcs.length p.c2, .slice p.A3 g.tabs.length p.c3, .slice p.A4 g.mems.length p.c4, .slice p.A5 g.globs.length p.c5, .slice none 0 0, .slice none 0 0, .slice none 0 0, .slice p.A9 g.counts.length p.c9, .slice none 0 0, .slice p.A11 g.cuss.length p.c11] 33))).block b (by simp; omega)
      have HNZ : Hid (V3.heap.size ≤ ((V3.alloc (.cells #[.slice q.A0 c.types.length q.d0, .slice q.A1 c.funcs.length q.d1, .slice q.A2 c.globs.length q.d2, .slice q.A3 c.tabs.length q.d3, .slice q.A4 c.mems.length q.d4, .int .i64 c.hosts, .int .i64 c.vars, .int .i64 c.els, .int .i64 c.dats, .bool c.counted] 38)).alloc (.cells #[.slice p.A0 g.types.length p.c0, .slice p.A1 g.imps.length p.c1, .slice p.A2 g.funcs.length p.c2, .slice p.A3 g.tabs.length p.c3, .slice p.A4 g.mems.length p.c4, .slice p.A5 g.globs.length p.c5, .slice none 0 0, .slice none 0 0, .slice none 0 0, .slice p.A9 g.counts.length p.c9, .slice none 0 0, .slice p.A11 g.cuss.length p.c11] 33)).heap.size) := Lib.hid (by simp; omega)
      have HVN : Hid (Below w.heap.size w ((V3.alloc (.cells #[.slice q.A0 c.types.length q.d0, .slice q.A1 c.funcs.length q.d1, .slice q.A2 c.globs.length q.d2, .slice q.A3 c.tabs.length q.d3, .slice q.A4 c.mems.length q.d4, .int .i64 c.hosts, .int .i64 c.vars, .int .i64 c.els, .int .i64 c.dats, .bool c.counted] 38)).alloc (.cells #[.slice p.A0 g.types.length p.c0, .slice p.A1 g.imps.length p.c1, .slice p.A2 g.funcs.length p.c2, .slice p.A3 g.tabs.length p.c3, .slice p.A4 g.mems.length p.c4, .slice p.A5 g.globs.length p.c5, .slice none 0 0, .slice none 0 0, .slice none 0 0, .slice p.A9 g.counts.length p.c9, .slice none 0 0, .slice p.A11 g.cuss.length p.c11] 33))) := Lib.hid (HV3.out.trans ((HBA.out.mono HV3.out.size).trans (HNN.out.mono HV3.out.size)))
      have m0 : (V3.alloc (.cells #[.slice q.A0 c.types.length q.d0, .slice q.A1 c.funcs.length q.d1, .slice q.A2 c.globs.length q.d2, .slice q.A3 c.tabs.length q.d3, .slice q.A4 c.mems.length q.d4, .int .i64 c.hosts, .int .i64 c.vars, .int .i64 c.els, .int .i64 c.dats, .bool c.counted] 38)).cell? ⟨w.heap.size, 0, none⟩ = some (.slice p.A0 g.types.length p.c0) := (blk_cell HKA.out.1 0).trans rfl
      have m1 : (V3.alloc (.cells #[.slice q.A0 c.types.length q.d0, .slice q.A1 c.funcs.length q.d1, .slice q.A2 c.globs.length q.d2, .slice q.A3 c.tabs.length q.d3, .slice q.A4 c.mems.length q.d4, .int .i64 c.hosts, .int .i64 c.vars, .int .i64 c.els, .int .i64 c.dats, .bool c.counted] 38)).cell? ⟨w.heap.size, 1, none⟩ = some (.slice p.A1 g.imps.length p.c1) := (blk_cell HKA.out.1 1).trans rfl
      have m2 : (V3.alloc (.cells #[.slice q.A0 c.types.length q.d0, .slice q.A1 c.funcs.length q.d1, .slice q.A2 c.globs.length q.d2, .slice q.A3 c.tabs.length q.d3, .slice q.A4 c.mems.length q.d4, .int .i64 c.hosts, .int .i64 c.vars, .int .i64 c.els, .int .i64 c.dats, .bool c.counted] 38)).cell? ⟨w.heap.size, 2, none⟩ = some (.slice p.A2 g.funcs.length p.c2) := (blk_cell HKA.out.1 2).trans rfl
      have m3 : (V3.alloc (.cells #[.slice q.A0 c.types.length q.d0, .slice q.A1 c.funcs.length q.d1, .slice q.A2 c.globs.length q.d2, .slice q.A3 c.tabs.length q.d3, .slice q.A4 c.mems.length q.d4, .int .i64 c.hosts, .int .i64 c.vars, .int .i64 c.els, .int .i64 c.dats, .bool c.counted] 38)).cell? ⟨w.heap.size, 3, none⟩ = some (.slice p.A3 g.tabs.length p.c3) := (blk_cell HKA.out.1 3).trans rfl
      have m4 : (V3.alloc (.cells #[.slice q.A0 c.types.length q.d0, .slice q.A1 c.funcs.length q.d1, .slice q.A2 c.globs.length q.d2, .slice q.A3 c.tabs.length q.d3, .slice q.A4 c.mems.length q.d4, .int .i64 c.hosts, .int .i64 c.vars, .int .i64 c.els, .int .i64 c.dats, .bool c.counted] 38)).cell? ⟨w.heap.size, 4, none⟩ = some (.slice p.A4 g.mems.length p.c4) := (blk_cell HKA.out.1 4).trans rfl
      have m5 : (V3.alloc (.cells #[.slice q.A0 c.types.length q.d0, .slice q.A1 c.funcs.length q.d1, .slice q.A2 c.globs.length q.d2, .slice q.A3 c.tabs.length q.d3, .slice q.A4 c.mems.length q.d4, .int .i64 c.hosts, .int .i64 c.vars, .int .i64 c.els, .int .i64 c.dats, .bool c.counted] 38)).cell? ⟨w.heap.size, 5, none⟩ = some (.slice p.A5 g.globs.length p.c5) := (blk_cell HKA.out.1 5).trans rfl
      have m6 : (V3.alloc (.cells #[.slice q.A0 c.types.length q.d0, .slice q.A1 c.funcs.length q.d1, .slice q.A2 c.globs.length q.d2, .slice q.A3 c.tabs.length q.d3, .slice q.A4 c.mems.length q.d4, .int .i64 c.hosts, .int .i64 c.vars, .int .i64 c.els, .int .i64 c.dats, .bool c.counted] 38)).cell? ⟨w.heap.size, 6, none⟩ = some (.slice p.A6 g.expos.length p.c6) := (blk_cell HKA.out.1 6).trans rfl
      have m7 : (V3.alloc (.cells #[.slice q.A0 c.types.length q.d0, .slice q.A1 c.funcs.length q.d1, .slice q.A2 c.globs.length q.d2, .slice q.A3 c.tabs.length q.d3, .slice q.A4 c.mems.length q.d4, .int .i64 c.hosts, .int .i64 c.vars, .int .i64 c.els, .int .i64 c.dats, .bool c.counted] 38)).cell? ⟨w.heap.size, 7, none⟩ = some (.slice p.A7 g.starts.length p.c7) := (blk_cell HKA.out.1 7).trans rfl
      have m8 : (V3.alloc (.cells #[.slice q.A0 c.types.length q.d0, .slice q.A1 c.funcs.length q.d1, .slice q.A2 c.globs.length q.d2, .slice q.A3 c.tabs.length q.d3, .slice q.A4 c.mems.length q.d4, .int .i64 c.hosts, .int .i64 c.vars, .int .i64 c.els, .int .i64 c.dats, .bool c.counted] 38)).cell? ⟨w.heap.size, 8, none⟩ = some (.slice p.A8 g.els.length p.c8) := (blk_cell HKA.out.1 8).trans rfl
      have m9 : (V3.alloc (.cells #[.slice q.A0 c.types.length q.d0, .slice q.A1 c.funcs.length q.d1, .slice q.A2 c.globs.length q.d2, .slice q.A3 c.tabs.length q.d3, .slice q.A4 c.mems.length q.d4, .int .i64 c.hosts, .int .i64 c.vars, .int .i64 c.els, .int .i64 c.dats, .bool c.counted] 38)).cell? ⟨w.heap.size, 9, none⟩ = some (.slice p.A9 g.counts.length p.c9) := (blk_cell HKA.out.1 9).trans rfl
      have m10 : (V3.alloc (.cells #[.slice q.A0 c.types.length q.d0, .slice q.A1 c.funcs.length q.d1, .slice q.A2 c.globs.length q.d2, .slice q.A3 c.tabs.length q.d3, .slice q.A4 c.mems.length q.d4, .int .i64 c.hosts, .int .i64 c.vars, .int .i64 c.els, .int .i64 c.dats, .bool c.counted] 38)).cell? ⟨w.heap.size, 10, none⟩ = some (.slice p.A10 g.dats.length p.c10) := (blk_cell HKA.out.1 10).trans rfl
      have m11 : (V3.alloc (.cells #[.slice q.A0 c.types.length q.d0, .slice q.A1 c.funcs.length q.d1, .slice q.A2 c.globs.length q.d2, .slice q.A3 c.tabs.length q.d3, .slice q.A4 c.mems.length q.d4, .int .i64 c.hosts, .int .i64 c.vars, .int .i64 c.els, .int .i64 c.dats, .bool c.counted] 38)).cell? ⟨w.heap.size, 11, none⟩ = some (.slice p.A11 g.cuss.length p.c11) := (blk_cell HKA.out.1 11).trans rfl
      go_wp2_with fail
      refine (HN2.out ((V3.alloc (.cells #[.slice q.A0 c.types.length q.d0, .slice q.A1 c.funcs.length q.d1, .slice q.A2 c.globs.length q.d2, .slice q.A3 c.tabs.length q.d3, .slice q.A4 c.mems.length q.d4, .int .i64 c.hosts, .int .i64 c.vars, .int .i64 c.els, .int .i64 c.dats, .bool c.counted] 38)).alloc (.cells #[.slice p.A0 g.types.length p.c0, .slice p.A1 g.imps.length p.c1, .slice p.A2 g.funcs.length p.c2, .slice p.A3 g.tabs.length p.c3, .slice p.A4 g.mems.length p.c4, .slice p.A5 g.globs.length p.c5, .slice none 0 0, .slice none 0 0, .slice none 0 0, .slice p.A9 g.counts.length p.c9, .slice none 0 0, .slice p.A11 g.cuss.length p.c11] 33)) HVN.out).mono ?_
      rintro en V4 ⟨r, n0, n2, n3, n4, i5, i6, i7, i8, b9, rfl, hb⟩
      have HVD : Hid (Below V3.heap.size (V3.alloc (.cells #[.slice q.A0 c.types.length q.d0, .slice q.A1 c.funcs.length q.d1, .slice q.A2 c.globs.length q.d2, .slice q.A3 c.tabs.length q.d3, .slice q.A4 c.mems.length q.d4, .int .i64 c.hosts, .int .i64 c.vars, .int .i64 c.els, .int .i64 c.dats, .bool c.counted] 38)) (V4.alloc (.cells #[.slice r.A0 n0 r.d0, .slice r.A1 c.funcs.length r.d1, .slice r.A2 n2 r.d2, .slice r.A3 n3 r.d3, .slice r.A4 n4 r.d4, .int .i64 i5, .int .i64 i6, .int .i64 i7, .int .i64 i8, .bool b9] 38))) := Lib.hid (HNN.out.trans ((hb.mono HNZ.out).trans (((Below.refl _ _).alloc (Nat.le_refl _) _).mono (Nat.le_trans HNZ.out hb.size))))
      have HDB : Hid (Below w.heap.size w (V4.alloc (.cells #[.slice r.A0 n0 r.d0, .slice r.A1 c.funcs.length r.d1, .slice r.A2 n2 r.d2, .slice r.A3 n3 r.d3, .slice r.A4 n4 r.d4, .int .i64 i5, .int .i64 i6, .int .i64 i7, .int .i64 i8, .bool b9] 38)) ∧ BoxG w.heap.size (V4.alloc (.cells #[.slice r.A0 n0 r.d0, .slice r.A1 c.funcs.length r.d1, .slice r.A2 n2 r.d2, .slice r.A3 n3 r.d3, .slice r.A4 n4 r.d4, .int .i64 i5, .int .i64 i6, .int .i64 i7, .int .i64 i8, .bool b9] 38)) g p ∧ BoxC V3.heap.size (V4.alloc (.cells #[.slice r.A0 n0 r.d0, .slice r.A1 c.funcs.length r.d1, .slice r.A2 n2 r.d2, .slice r.A3 n3 r.d3, .slice r.A4 n4 r.d4, .int .i64 i5, .int .i64 i6, .int .i64 i7, .int .i64 i8, .bool b9] 38)) q c ∧ CtxL (V4.alloc (.cells #[.slice r.A0 n0 r.d0, .slice r.A1 c.funcs.length r.d1, .slice r.A2 n2 r.d2, .slice r.A3 n3 r.d3, .slice r.A4 n4 r.d4, .int .i64 i5, .int .i64 i6, .int .i64 i7, .int .i64 i8, .bool b9] 38)) (fun b => V2.heap.size ≤ b) q c ∧ V3.heap.size < (V4.alloc (.cells #[.slice r.A0 n0 r.d0, .slice r.A1 c.funcs.length r.d1, .slice r.A2 n2 r.d2, .slice r.A3 n3 r.d3, .slice r.A4 n4 r.d4, .int .i64 i5, .int .i64 i6, .int .i64 i7, .int .i64 i8, .bool b9] 38)).heap.size) := Lib.hid (by
        have hd : Below V4.heap.size V4 (V4.alloc (.cells #[.slice r.A0 n0 r.d0, .slice r.A1 c.funcs.length r.d1, .slice r.A2 n2 r.d2, .slice r.A3 n3 r.d3, .slice r.A4 n4 r.d4, .int .i64 i5, .int .i64 i6, .int .i64 i7, .int .i64 i8, .bool b9] 38)) := (Below.refl _ _).alloc (Nat.le_refl _) _
        have h1 : ((V3.alloc (.cells #[.slice q.A0 c.types.length q.d0, .slice q.A1 c.funcs.length q.d1, .slice q.A2 c.globs.length q.d2, .slice q.A3 c.tabs.length q.d3, .slice q.A4 c.mems.length q.d4, .int .i64 c.hosts, .int .i64 c.vars, .int .i64 c.els, .int .i64 c.dats, .bool c.counted] 38)).alloc (.cells #[.slice p.A0 g.types.length p.c0, .slice p.A1 g.imps.length p.c1, .slice p.A2 g.funcs.length p.c2, .slice p.A3 g.tabs.length p.c3, .slice p.A4 g.mems.length p.c4, .slice p.A5 g.globs.length p.c5, .slice none 0 0, .slice none 0 0, .slice none 0 0, .slice p.A9 g.counts.length p.c9, .slice none 0 0, .slice p.A11 g.cuss.length p.c11] 33)).heap.size ≤ V4.heap.size := hb.size
        have h2 : V3.heap.size + 2 ≤ V4.heap.size := by simpa using h1
        have kk : ∀ b, b < V3.heap.size + 1 → (V4.alloc (.cells #[.slice r.A0 n0 r.d0, .slice r.A1 c.funcs.length r.d1, .slice r.A2 n2 r.d2, .slice r.A3 n3 r.d3, .slice r.A4 n4 r.d4, .int .i64 i5, .int .i64 i6, .int .i64 i7, .int .i64 i8, .bool b9] 38)).heap[b]? = (V3.alloc (.cells #[.slice q.A0 c.types.length q.d0, .slice q.A1 c.funcs.length q.d1, .slice q.A2 c.globs.length q.d2, .slice q.A3 c.tabs.length q.d3, .slice q.A4 c.mems.length q.d4, .int .i64 c.hosts, .int .i64 c.vars, .int .i64 c.els, .int .i64 c.dats, .bool c.counted] 38)).heap[b]? := fun b hlt => (hd.block b (by omega)).trans ((hb.block b (by simp; omega)).trans (HNB.out b hlt))
        have e0 := kk w.heap.size (by have := HZ3.out; omega)
        have e1 := kk V3.heap.size (by omega)
        refine ⟨HVN.out.trans ((hb.mono HVN.out.size).trans (hd.mono (Nat.le_trans HVN.out.size hb.size))), ?_, ?_, ?_, ?_⟩
        · have k := e0.trans HKA.out.1
          refine ⟨?_, ?_, ?_, ?_, ?_, ?_, ?_, ?_, ?_, ?_, ?_, ?_⟩ <;> rw [blk_cell k] <;> rfl
        · have k := e1.trans HKA.out.2
          refine ⟨?_, ?_, ?_, ?_, ?_, ?_, ?_, ?_, ?_, ?_⟩ <;> rw [blk_cell k] <;> rfl
        · exact HC3.out.keep fun b h1 h2 => ⟨(kk b (by omega)).trans (HBA.out.block b h2), h1⟩
        · have := hd.size; omega)
      have HZ5 : Hid (w.heap.size < (V4.alloc (.cells #[.slice r.A0 n0 r.d0, .slice r.A1 c.funcs.length r.d1, .slice r.A2 n2 r.d2, .slice r.A3 n3 r.d3, .slice r.A4 n4 r.d4, .int .i64 i5, .int .i64 i6, .int .i64 i7, .int .i64 i8, .bool b9] 38)).heap.size) := Lib.hid (by have h1 : ((V3.alloc (.cells #[.slice q.A0 c.types.length q.d0, .slice q.A1 c.funcs.length q.d1, .slice q.A2 c.globs.length q.d2, .slice q.A3 c.tabs.length q.d3, .slice q.A4 c.mems.length q.d4, .int .i64 c.hosts, .int .i64 c.vars, .int .i64 c.els, .int .i64 c.dats, .bool c.counted] 38)).alloc (.cells #[.slice p.A0 g.types.length p.c0, .slice p.A1 g.imps.length p.c1, .slice p.A2 g.funcs.length p.c2, .slice p.A3 g.tabs.length p.c3, .slice p.A4 g.mems.length p.c4, .slice p.A5 g.globs.length p.c5, .slice none 0 0, .slice none 0 0, .slice none 0 0, .slice p.A9 g.counts.length p.c9, .slice none 0 0, .slice p.A11 g.cuss.length p.c11] 33)).heap.size ≤ V4.heap.size := hb.size; have h2 : V3.heap.size + 2 ≤ V4.heap.size := (by simpa using h1); have := HZ3.out; simp; omega)
      clear hb HVD HN2 HVN HNN HNZ HNB HCA HKA m0 m1 m2 m3 m4 m5 m6 m7 m8 m9 m10 m11
      obtain ⟨m0, m1, m2, m3, m4, m5, m6, m7, m8, m9, m10, m11⟩ := HDB.out.2.1
      obtain ⟨x0, x1, x2, x3, x4, x5, x6, x7, x8, x9⟩ := HDB.out.2.2.1
      obtain ⟨⟨hs1, hs2⟩, ⟨ht1, ht2⟩, -, -, -, hn1, hn2⟩ := HFI.out
      have t1 : ¬ (1 : Int) < (c.tabs.length : Int) := by omega
      have t2 : ¬ (1 : Int) < (c.mems.length : Int) := by omega
      have t3 : (c.funcs.length : Int) ≤ 300 := by omega
      have t4 : (c.globs.length : Int) ≤ 300 := by omega
      have t5 : (0 : Int) ≤ (c.globs.length : Int) := by omega
      have t6 : (0 : Int) ≤ (c.funcs.length : Int) := by omega
      have w1 : wrap64 (c.hosts + (g.funcs.length : Int)) = (c.funcs.length : Int) := by rw [hs1]; exact wrap64_id (by omega) (by omega)
      have w2 : wrap64 (c.vars + (g.globs.length : Int)) = (c.globs.length : Int) := by rw [hs2]; exact wrap64_id (by omega) (by omega)
      clear hs1 hs2 ht1 ht2 hn1 hn2
      go_wp2_with fail
      clear m0 m1 m2 m3 m4 m5 m6 m7 m8 m9 m10 m11 x0 x1 x2 x3 x4 x5 x6 x7 x8 x9 t1 t2 w1 w2 t4 t5 t6 HM3 HZ3 HC3 HBA HV3
      generalize (V4.alloc (.cells #[.slice r.A0 n0 r.d0, .slice r.A1 c.funcs.length r.d1, .slice r.A2 n2 r.d2, .slice r.A3 n3 r.d3, .slice r.A4 n4 r.d4, .int .i64 i5, .int .i64 i6, .int .i64 i7, .int .i64 i8, .bool b9] 38)) = V5 at *
      have HFT : Hid (FtS c ∧ ∀ i, i < c.funcs.length → hasTy c ((i : Nat) : Int) = true) := Lib.hid ⟨HFI.out.2.2.2.2.1, HFI.out.2.2.1⟩
      go_loopw [8] (fun i wr => ∃ j : Nat, i = .int .i64 (j : Int) ∧ j ≤ c.funcs.length ∧ Hid (Below V5.heap.size V5 wr)) (fun i _ => c.funcs.length - (intOf i).toNat)
      case atStart => exact ⟨0, rfl, Nat.zero_le _, Lib.hid (Below.refl _ _)⟩
      case round =>
        obtain ⟨j, rfl, hj, HI⟩ := hrel
        obtain ⟨x0, x1, x2, x3, x4, x5, x6, x7, x8, x9⟩ := boxC_keep HDB.out.2.2.1 (HI.out.block _ HDB.out.2.2.2.2)
        by_cases hlt : j < c.funcs.length
        · have hlti : (j : Int) < (c.funcs.length : Int) := by omega
          have HTY : Hid (Calls Try.prog 21 #[.agg #[.slice q.A0 c.types.length q.d0, .slice q.A1 c.funcs.length q.d1, .slice q.A2 c.globs.length q.d2, .slice q.A3 c.tabs.length q.d3, .slice q.A4 c.mems.length q.d4, .int .i64 c.hosts, .int .i64 c.vars, .int .i64 c.els, .int .i64 c.dats, .bool c.counted], .int .i64 (j : Int)] wr (TyIs wr true (fnTy c (j : Int)))) := Lib.hid (by
            have h := type_any q c wr (HDB.out.2.2.2.1.below HI.out) HFT.out.1 (j : Int)
            rwa [HFT.out.2 j hlt] at h)
          generalize fnTy c (j : Int) = x at *
          go_wp2_with fail
          refine HTY.out.mono ?_
          rintro en w1 ⟨D1, d1, D2, d2, rfl, _, _, hb⟩
          have HN : Hid (Below V5.heap.size V5 (w1.alloc (.cells #[.slice D1 x.1.length d1, .slice D2 x.2.length d2] 49))) := Lib.hid (HI.out.trans ((hb.mono HI.out.size).trans (((Below.refl _ _).alloc (Nat.le_refl _) _).mono (Nat.le_trans HI.out.size hb.size))))
          clear hb HTY x0 x1 x2 x3 x4 x5 x6 x7 x8 x9
          go_wp2
          go_roundw
          case rel => exact ⟨j + 1, by go_num, by omega, HN⟩
          case measure => simp [intOf]; omega
        · have hlti : ¬ (j : Int) < (c.funcs.length : Int) := by omega
          rename World => V6
          have HB6 : Hid (Below w.heap.size w V6) := Lib.hid (HDB.out.1.trans (HI.out.mono HDB.out.1.size))
          obtain ⟨m0, m1, m2, m3, m4, m5, m6, m7, m8, m9, m10, m11⟩ := boxG_keep HDB.out.2.1 (HI.out.block _ (by have := HDB.out.1.size; have := HZ5.out; omega))
          clear m0 m1 m2 m3 m4 m5 m6 m7 m9 m10 m11 x0 x2 x3 x4 x5 x6 x7 x8 x9 HI hj hlt
          have hn8 : (g.els.length : Int) ≤ 100 := by have := HS.out.els; omega
          go_wp2_with fail
          go_loopw [11] (fun i wr => ∃ j : Nat, i = .int .i64 (j : Int) ∧ j ≤ g.els.length ∧ wr = V6) (fun i _ => g.els.length - (intOf i).toNat)
          case atStart => exact ⟨0, rfl, Nat.zero_le _, rfl⟩
          case round =>
            obtain ⟨j2, rfl, hj2, hwr⟩ := hrel
            subst wr
            by_cases hlt2 : j2 < g.els.length
            · have hlti2 : (j2 : Int) < (g.els.length : Int) := by omega
              obtain ⟨b, off, A1, c1, A2, c2, hA, h1⟩ := sm_el HL.out.l8 j2 hlt2
              obtain ⟨-, -, q2, -, l2⟩ := h1 V6 HB6.out
              have HFX := Lib.hid (HFI.out.2.2.2.1 _ (List.getElem_mem hlt2))
              have hfs : (g.els[j2].fs.length : Int) ≤ 3000 := by have := HS.out.el _ (List.getElem_mem hlt2); omega
              have HL2 := Lib.hid l2
              rw [hA] at m8
              clear h1 hA l2
              generalize g.els[j2].fs = fs at *
              go_wp2_with fail
              go_loopw [12] (fun i wr => ∃ k : Nat, i = .int .i64 (k : Int) ∧ k ≤ fs.length ∧ wr = V6) (fun i _ => fs.length - (intOf i).toNat)
              case atStart => exact ⟨0, rfl, Nat.zero_le _, rfl⟩
              case round =>
                obtain ⟨k, rfl, hk, hwr⟩ := hrel
                subst wr
                by_cases hlt3 : k < fs.length
                · have hlti3 : (k : Int) < (fs.length : Int) := by omega
                  obtain ⟨b2, off2, hA2, h2⟩ := sm_int HL2.out k hlt3
                  have q3 := h2 V6 (Below.refl _ _)
                  have hf := HFX.out _ (List.getElem_mem hlt3)
                  rw [hA2] at q2
                  clear h2 hA2
                  generalize fs[k] = f at *
                  have g1 : ¬ f < (-1 : Int) := by
                    rcases hf with rfl | hf
                    · decide
                    · obtain ⟨u, rfl, _⟩ := inB_iff.1 hf; omega
                  have g2 : ¬ (c.funcs.length : Int) ≤ f := by
                    rcases hf with rfl | hf
                    · omega
                    · obtain ⟨u, rfl, hu⟩ := inB_iff.1 hf; omega
                  clear hf
                  go_wp2
                  go_roundw
                  case rel => exact ⟨k + 1, by go_num, by omega, by trivial⟩
                  case measure => simp [intOf]; omega
                · have hlti3 : ¬ (k : Int) < (fs.length : Int) := by omega
                  go_wp2
                  go_roundw
                  case rel => exact ⟨j2 + 1, by go_num, by omega, by trivial⟩
                  case measure => simp [intOf]; omega
            · have hlti2 : ¬ (j2 : Int) < (g.els.length : Int) := by omega
              go_wp2
              go_ret
              exact ⟨rfl, HB6.out⟩
    · simp only [Plc.vals]
      generalize ofC g = c at *
      generalize ofE g = e at *
      go_wp2
      go_ret
      exact ⟨rfl, HV3.out.trans (((Below.refl _ _).alloc (Nat.le_refl _) _).mono HV3.out.size)⟩
end
end Go.Proofs.Ytjajepeggphnbaa.Cx
