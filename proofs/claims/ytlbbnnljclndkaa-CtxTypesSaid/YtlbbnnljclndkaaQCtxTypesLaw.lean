/-
  CtxTypesLaw: trammellaw09.CtxTypes: whatever the arguments, true. Conditions: the module and the type lie in memory, as they came in. (Written by wip/tools/genctxtypes.py.)
-/
import Derived.Test.YtlbbnnljclndkaaQCtxTM
import Derived.Test.YtlbbnnljclndkaaQCtxSame
import Derived.Test.YtlbbnnljclndkaaQCtxAwake
import Derived.Deep.RegionHeld
import Derived.Deep.DeepCutAuto
namespace Go.Proofs.Ytlbbnnljclndkaa.Cx
open Go.RowKit Leb
open _root_.Go.Proofs.Ytlbbnnljclndkaa.Mod

/-- What the line of the types reads. -/
def ST (bm bx : Nat) (A : Option Addr) (n c : Nat) (A1 : Option Addr) (n1 c1 : Nat) (A2 : Option Addr) (n2 c2 : Nat) (V : World) : Prop := V.cell? ⟨bm, 0, none⟩ = some (.slice A n c) ∧ V.cell? ⟨bx, 0, none⟩ = some (.slice A1 n1 c1) ∧ V.cell? ⟨bx, 1, none⟩ = some (.slice A2 n2 c2)
theorem st_keep {bm bx : Nat} {A : Option Addr} {n c : Nat} {A1 : Option Addr} {n1 c1 : Nat} {A2 : Option Addr} {n2 c2 : Nat} {V V' : World} (h : ST bm bx A n c A1 n1 c1 A2 n2 c2 V) (h1 : V'.heap[bm]? = V.heap[bm]?) (h2 : V'.heap[bx]? = V.heap[bx]?) : ST bm bx A n c A1 n1 c1 A2 n2 c2 V' :=
  ⟨(World.cell?_of_block h1).trans h.1, (World.cell?_of_block h2).trans h.2.1, (World.cell?_of_block h2).trans h.2.2⟩
/-- What the line of the stores reads of the first context. -/
def SC (bc : Nat) (q : Plc) (c : GCtx) (V : World) : Prop := V.cell? ⟨bc, 0, none⟩ = some (.slice q.A0 c.types.length q.d0) ∧ V.cell? ⟨bc, 7, none⟩ = some (.int .i64 c.els) ∧ V.cell? ⟨bc, 8, none⟩ = some (.int .i64 c.dats)
theorem wrap64_fit {n : Int} (h0 : 0 ≤ n) (h1 : n < 9223372036854775808) : wrap64 n = n := by unfold wrap64; omega
theorem types_hi (A : Option Addr) (n c k : Nat) (hr : n ≤ c) (hk : k ≤ n) : ∀ W, (Instr.slice 22 (.slice A n c) none (some (.int .i64 (k : Int))) none).run Try.prog W = .ok (.slice A k c) W := by
  intro W
  have hu : Try.prog.underlying 22 = some (.slice (Try.prog.elem 22)) := by kernel_rfl
  have hsz : (sizeOf (Try.prog.elem 22)).run Try.prog W = .ok 2 W := by kernel_rfl
  rw [run_slice_h W 22 A n c hu .i64 (k : Int) (by omega) (by omega), hsz]
  cases A <;> simp [Result.andThen, sliced, Addr.add]
section
variable (g : GMd) (p : Pls) (w : World) {ok : Nat → Prop}
set_option maxRecDepth 100000 in
set_option maxHeartbeats 16000000 in
theorem types_law (hm : MdL w ok ok p g) (hg : Opn.GIn g) (t : GFt) (B1 B2 : Option Addr) (b1 b2 : Nat) (ht1 : Lst intR w ok B1 b1 t.1) (ht2 : Lst intR w ok B2 b2 t.2) : Calls Try.prog 4 #[.agg #[.slice p.A0 g.types.length p.c0, .slice p.A1 g.imps.length p.c1, .slice p.A2 g.funcs.length p.c2, .slice p.A3 g.tabs.length p.c3, .slice p.A4 g.mems.length p.c4, .slice p.A5 g.globs.length p.c5, .slice p.A6 g.expos.length p.c6, .slice p.A7 g.starts.length p.c7, .slice p.A8 g.els.length p.c8, .slice p.A9 g.counts.length p.c9, .slice p.A10 g.dats.length p.c10, .slice p.A11 g.cuss.length p.c11], .agg #[.slice B1 t.1.length b1, .slice B2 t.2.length b2]] w (BoolIs w true) := by
  have HB1 : Hid (Below w.heap.size w ((w.alloc (.cells #[.slice p.A0 g.types.length p.c0, .slice p.A1 g.imps.length p.c1, .slice p.A2 g.funcs.length p.c2, .slice p.A3 g.tabs.length p.c3, .slice p.A4 g.mems.length p.c4, .slice p.A5 g.globs.length p.c5, .slice p.A6 g.expos.length p.c6, .slice p.A7 g.starts.length p.c7, .slice p.A8 g.els.length p.c8, .slice p.A9 g.counts.length p.c9, .slice p.A10 g.dats.length p.c10, .slice p.A11 g.cuss.length p.c11] 33)).alloc (.cells #[.slice B1 t.1.length b1, .slice B2 t.2.length b2] 46))) := Lib.hid (((Below.refl _ _).alloc (Nat.le_refl _) _).alloc (by simp) _)
  have HS1 : Hid (((w.alloc (.cells #[.slice p.A0 g.types.length p.c0, .slice p.A1 g.imps.length p.c1, .slice p.A2 g.funcs.length p.c2, .slice p.A3 g.tabs.length p.c3, .slice p.A4 g.mems.length p.c4, .slice p.A5 g.globs.length p.c5, .slice p.A6 g.expos.length p.c6, .slice p.A7 g.starts.length p.c7, .slice p.A8 g.els.length p.c8, .slice p.A9 g.counts.length p.c9, .slice p.A10 g.dats.length p.c10, .slice p.A11 g.cuss.length p.c11] 33)).alloc (.cells #[.slice B1 t.1.length b1, .slice B2 t.2.length b2] 46)).heap.size = w.heap.size + 2) := Lib.hid (by simp)
  have HK1 : Hid (((w.alloc (.cells #[.slice p.A0 g.types.length p.c0, .slice p.A1 g.imps.length p.c1, .slice p.A2 g.funcs.length p.c2, .slice p.A3 g.tabs.length p.c3, .slice p.A4 g.mems.length p.c4, .slice p.A5 g.globs.length p.c5, .slice p.A6 g.expos.length p.c6, .slice p.A7 g.starts.length p.c7, .slice p.A8 g.els.length p.c8, .slice p.A9 g.counts.length p.c9, .slice p.A10 g.dats.length p.c10, .slice p.A11 g.cuss.length p.c11] 33)).alloc (.cells #[.slice B1 t.1.length b1, .slice B2 t.2.length b2] 46)).heap[w.heap.size]? = some (.cells #[.slice p.A0 g.types.length p.c0, .slice p.A1 g.imps.length p.c1, .slice p.A2 g.funcs.length p.c2, .slice p.A3 g.tabs.length p.c3, .slice p.A4 g.mems.length p.c4, .slice p.A5 g.globs.length p.c5, .slice p.A6 g.expos.length p.c6, .slice p.A7 g.starts.length p.c7, .slice p.A8 g.els.length p.c8, .slice p.A9 g.counts.length p.c9, .slice p.A10 g.dats.length p.c10, .slice p.A11 g.cuss.length p.c11] 33 (0, 0)) ∧ ((w.alloc (.cells #[.slice p.A0 g.types.length p.c0, .slice p.A1 g.imps.length p.c1, .slice p.A2 g.funcs.length p.c2, .slice p.A3 g.tabs.length p.c3, .slice p.A4 g.mems.length p.c4, .slice p.A5 g.globs.length p.c5, .slice p.A6 g.expos.length p.c6, .slice p.A7 g.starts.length p.c7, .slice p.A8 g.els.length p.c8, .slice p.A9 g.counts.length p.c9, .slice p.A10 g.dats.length p.c10, .slice p.A11 g.cuss.length p.c11] 33)).alloc (.cells #[.slice B1 t.1.length b1, .slice B2 t.2.length b2] 46)).heap[w.heap.size + 1]? = some (.cells #[.slice B1 t.1.length b1, .slice B2 t.2.length b2] 46 (0, 0))) := Lib.hid ⟨((((Below.refl _ _).alloc (Nat.le_refl _) _).block _ (by simp)).trans (heap_alloc_new w _)), heap2 w _ _ _⟩
  have HAW := Lib.hid (awake_any ((w.alloc (.cells #[.slice p.A0 g.types.length p.c0, .slice p.A1 g.imps.length p.c1, .slice p.A2 g.funcs.length p.c2, .slice p.A3 g.tabs.length p.c3, .slice p.A4 g.mems.length p.c4, .slice p.A5 g.globs.length p.c5, .slice p.A6 g.expos.length p.c6, .slice p.A7 g.starts.length p.c7, .slice p.A8 g.els.length p.c8, .slice p.A9 g.counts.length p.c9, .slice p.A10 g.dats.length p.c10, .slice p.A11 g.cuss.length p.c11] 33)).alloc (.cells #[.slice B1 t.1.length b1, .slice B2 t.2.length b2] 46)))
  have hmd : ∀ V, Below w.heap.size w V → MdL V ok ok p g := fun V hV => hm.keep (fun b h1 h2 => ⟨hV.block b h2, h1⟩) (fun b h1 h2 => ⟨hV.block b h2, h1⟩)
  have HSH : Hid (∀ V, Below w.heap.size w V → Calls Try.prog 6 #[.agg #[.slice p.A0 g.types.length p.c0, .slice p.A1 g.imps.length p.c1, .slice p.A2 g.funcs.length p.c2, .slice p.A3 g.tabs.length p.c3, .slice p.A4 g.mems.length p.c4, .slice p.A5 g.globs.length p.c5, .slice p.A6 g.expos.length p.c6, .slice p.A7 g.starts.length p.c7, .slice p.A8 g.els.length p.c8, .slice p.A9 g.counts.length p.c9, .slice p.A10 g.dats.length p.c10, .slice p.A11 g.cuss.length p.c11]] V (Sh.ShortIs V g)) := Lib.hid fun V hV => Sh.short_any g p V ok (hmd V hV) hg
  have HOF : Hid (∀ V, Below w.heap.size w V → Sm g → Calls Try.prog 7 #[.agg #[.slice p.A0 g.types.length p.c0, .slice p.A1 g.imps.length p.c1, .slice p.A2 g.funcs.length p.c2, .slice p.A3 g.tabs.length p.c3, .slice p.A4 g.mems.length p.c4, .slice p.A5 g.globs.length p.c5, .slice p.A6 g.expos.length p.c6, .slice p.A7 g.starts.length p.c7, .slice p.A8 g.els.length p.c8, .slice p.A9 g.counts.length p.c9, .slice p.A10 g.dats.length p.c10, .slice p.A11 g.cuss.length p.c11]] V (OfIs V g)) := Lib.hid fun V hV hs => of_any g p V (hmd V hV) hs
  have HSM : Hid (Sh.P8 g → Sm g ∧ g.types.length ≤ 70 ∧ g.els.length ≤ 70 ∧ g.dats.length ≤ 70) := Lib.hid fun h => by
    obtain ⟨n0, n1, n2, n3, n4, n5, n6, n7, n8, n9, n10, n11⟩ := Sh.p0_len h.1.1.1.1.1.1.1.1
    exact ⟨sm_of h hg, by omega, by omega, by omega⟩
  obtain ⟨es0, hes0, hl0⟩ := lst_ents hm.l0
  obtain ⟨es8, hes8, hl8⟩ := lst_ents hm.l8
  obtain ⟨es10, hes10, hl10⟩ := lst_ents hm.l10
  have HES0 := Lib.hid hes0
  have HES8 := Lib.hid hes8
  have HES10 := Lib.hid hes10
  have HEN0 := Lib.hid (ent_at hl0)
  have HEN8 := Lib.hid (ent_at hl8)
  have HEN10 := Lib.hid (ent_at hl10)
  have HON0 := Lib.hid (ones_ft (ent_at hl0))
  have HON8 := Lib.hid (ones_el (ent_at hl8))
  have HON10 := Lib.hid (ones_dat (ent_at hl10))
  have HE0 := Lib.hid hl0
  have HE8 := Lib.hid hl8
  have HE10 := Lib.hid hl10
  have HT1 := Lib.hid ht1
  have HT2 := Lib.hid ht2
  have HL := Lib.hid hm
  clear hm hg hmd hes0 hes8 hes10 hl0 hl8 hl10 ht1 ht2
  go_enter Try.func4, Try.ntmps4
  go_wp2_with fail
  refine HAW.out.mono ?_
  rintro en V1 ⟨rfl, hb⟩
  have HV1 := Lib.hid (HB1.out.trans (hb.mono HB1.out.size))
  have HM1 := Lib.hid (And.intro ((hb.block _ (by have := HS1.out; omega)).trans HK1.out.1) ((hb.block _ (by have := HS1.out; omega)).trans HK1.out.2))
  have HZ1 : Hid (w.heap.size + 1 < V1.heap.size) := Lib.hid (by have := hb.size; have := HS1.out; omega)
  clear hb HAW HK1 HB1 HS1
  have m0 : V1.cell? ⟨w.heap.size, 0, none⟩ = some (.slice p.A0 g.types.length p.c0) := (blk_cell HM1.out.1 0).trans rfl
  have m1 : V1.cell? ⟨w.heap.size, 1, none⟩ = some (.slice p.A1 g.imps.length p.c1) := (blk_cell HM1.out.1 1).trans rfl
  have m2 : V1.cell? ⟨w.heap.size, 2, none⟩ = some (.slice p.A2 g.funcs.length p.c2) := (blk_cell HM1.out.1 2).trans rfl
  have m3 : V1.cell? ⟨w.heap.size, 3, none⟩ = some (.slice p.A3 g.tabs.length p.c3) := (blk_cell HM1.out.1 3).trans rfl
  have m4 : V1.cell? ⟨w.heap.size, 4, none⟩ = some (.slice p.A4 g.mems.length p.c4) := (blk_cell HM1.out.1 4).trans rfl
  have m5 : V1.cell? ⟨w.heap.size, 5, none⟩ = some (.slice p.A5 g.globs.length p.c5) := (blk_cell HM1.out.1 5).trans rfl
  have m6 : V1.cell? ⟨w.heap.size, 6, none⟩ = some (.slice p.A6 g.expos.length p.c6) := (blk_cell HM1.out.1 6).trans rfl
  have m7 : V1.cell? ⟨w.heap.size, 7, none⟩ = some (.slice p.A7 g.starts.length p.c7) := (blk_cell HM1.out.1 7).trans rfl
  have m8 : V1.cell? ⟨w.heap.size, 8, none⟩ = some (.slice p.A8 g.els.length p.c8) := (blk_cell HM1.out.1 8).trans rfl
  have m9 : V1.cell? ⟨w.heap.size, 9, none⟩ = some (.slice p.A9 g.counts.length p.c9) := (blk_cell HM1.out.1 9).trans rfl
  have m10 : V1.cell? ⟨w.heap.size, 10, none⟩ = some (.slice p.A10 g.dats.length p.c10) := (blk_cell HM1.out.1 10).trans rfl
  have m11 : V1.cell? ⟨w.heap.size, 11, none⟩ = some (.slice p.A11 g.cuss.length p.c11) := (blk_cell HM1.out.1 11).trans rfl
  go_wp2_with fail
  refine (HSH.out V1 HV1.out).mono ?_
  rintro en V2 ⟨bs, rfl, h8, hb⟩
  have HV2 := Lib.hid (HV1.out.trans (hb.mono HV1.out.size))
  have HM2 := Lib.hid (And.intro ((hb.block _ (by have := HZ1.out; omega)).trans HM1.out.1) ((hb.block _ HZ1.out).trans HM1.out.2))
  have HZ2 : Hid (w.heap.size + 1 < V2.heap.size) := Lib.hid (by have := hb.size; have := HZ1.out; omega)
  clear hb HSH HM1 HV1 HZ1 m0 m1 m2 m3 m4 m5 m6 m7 m8 m9 m10 m11
  have x0 : V2.cell? ⟨w.heap.size + 1, 0, none⟩ = some (.slice B1 t.1.length b1) := (blk_cell HM2.out.2 0).trans rfl
  have x1 : V2.cell? ⟨w.heap.size + 1, 1, none⟩ = some (.slice B2 t.2.length b2) := (blk_cell HM2.out.2 1).trans rfl
  cases bs with
  | false =>
    clear h8
    go_wp2
    go_ret
    exact ⟨rfl, HV2.out⟩
  | true =>
    have HS := Lib.hid (HSM.out (h8 rfl))
    clear h8 HSM
    by_cases h20 : 20 < t.1.length
    · have h20i : (20 : Int) < (t.1.length : Int) := by omega
      go_wp2
      go_ret
      exact ⟨rfl, HV2.out⟩
    have h20i : ¬ (20 : Int) < (t.1.length : Int) := by omega
    by_cases h21 : 20 < t.2.length
    · have h21i : (20 : Int) < (t.2.length : Int) := by omega
      go_wp2
      go_ret
      exact ⟨rfl, HV2.out⟩
    have h21i : ¬ (20 : Int) < (t.2.length : Int) := by omega
    have HSMM : Hid (Sm (moreG g t)) := Lib.hid (more_sm HS.out.1 HS.out.2 t ⟨by omega, by omega⟩)
    clear h20 h21
    have m0 : V2.cell? ⟨w.heap.size, 0, none⟩ = some (.slice p.A0 g.types.length p.c0) := (blk_cell HM2.out.1 0).trans rfl
    have m1 : V2.cell? ⟨w.heap.size, 1, none⟩ = some (.slice p.A1 g.imps.length p.c1) := (blk_cell HM2.out.1 1).trans rfl
    have m2 : V2.cell? ⟨w.heap.size, 2, none⟩ = some (.slice p.A2 g.funcs.length p.c2) := (blk_cell HM2.out.1 2).trans rfl
    have m3 : V2.cell? ⟨w.heap.size, 3, none⟩ = some (.slice p.A3 g.tabs.length p.c3) := (blk_cell HM2.out.1 3).trans rfl
    have m4 : V2.cell? ⟨w.heap.size, 4, none⟩ = some (.slice p.A4 g.mems.length p.c4) := (blk_cell HM2.out.1 4).trans rfl
    have m5 : V2.cell? ⟨w.heap.size, 5, none⟩ = some (.slice p.A5 g.globs.length p.c5) := (blk_cell HM2.out.1 5).trans rfl
    have m6 : V2.cell? ⟨w.heap.size, 6, none⟩ = some (.slice p.A6 g.expos.length p.c6) := (blk_cell HM2.out.1 6).trans rfl
    have m7 : V2.cell? ⟨w.heap.size, 7, none⟩ = some (.slice p.A7 g.starts.length p.c7) := (blk_cell HM2.out.1 7).trans rfl
    have m8 : V2.cell? ⟨w.heap.size, 8, none⟩ = some (.slice p.A8 g.els.length p.c8) := (blk_cell HM2.out.1 8).trans rfl
    have m9 : V2.cell? ⟨w.heap.size, 9, none⟩ = some (.slice p.A9 g.counts.length p.c9) := (blk_cell HM2.out.1 9).trans rfl
    have m10 : V2.cell? ⟨w.heap.size, 10, none⟩ = some (.slice p.A10 g.dats.length p.c10) := (blk_cell HM2.out.1 10).trans rfl
    have m11 : V2.cell? ⟨w.heap.size, 11, none⟩ = some (.slice p.A11 g.cuss.length p.c11) := (blk_cell HM2.out.1 11).trans rfl
    go_wp2_with fail
    refine (HOF.out V2 HV2.out HS.out.1).mono ?_
    rintro en V3 ⟨q, rfl, hc, hb⟩
    have HV3 := Lib.hid (HV2.out.trans (hb.mono HV2.out.size))
    have HM3 := Lib.hid (And.intro ((hb.block _ (by have := HZ2.out; omega)).trans HM2.out.1) ((hb.block _ HZ2.out).trans HM2.out.2))
    have HZ3 : Hid (w.heap.size + 1 < V3.heap.size) := Lib.hid (by have := hb.size; have := HZ2.out; omega)
    have HC3 := Lib.hid hc
    clear hb hc HOF HM2 m0 m1 m2 m3 m4 m5 m6 m7 m8 m9 m10 m11 x0 x1 h20i h21i
    by_cases he : ofE g = 0
    · have HR := Lib.hid (right_iff.1 he)
      have hcc : ofC g = gather g := by unfold ofC; rw [if_pos he]
      rw [hcc] at HC3 ⊢
      rw [he]
      have HMO : Hid (ofE (moreG g t) = 0 ∧ ofC (moreG g t) = setT (gather g) ((gather g).types ++ [t]) ((gather g).els + 1) ((gather g).dats + 1)) := Lib.hid (by rw [gather_types, (gather_ED g).1, (gather_ED g).2]; exact more_of t HR.out)
      have HFT : Hid (FtS (gather g) ∧ (gather g).types.length ≤ 1000 ∧ (gather g).funcs.length ≤ 1000 ∧ (gather g).globs.length ≤ 1000 ∧ (gather g).tabs.length ≤ 1000 ∧ (gather g).mems.length ≤ 1000) := Lib.hid ⟨fts_gather HS.out.1, gather_all2 HS.out.1⟩
      have HED : Hid (0 ≤ (gather g).els ∧ (gather g).els ≤ 100 ∧ 0 ≤ (gather g).dats ∧ (gather g).dats ≤ 100) := Lib.hid (by rw [(gather_ED g).1, (gather_ED g).2]; have := HS.out.2; omega)
      clear he hcc HR
      simp only [Plc.vals]
      have HVN : Hid (Below w.heap.size w ((V3.alloc (.cells #[.slice q.A0 (gather g).types.length q.d0, .slice q.A1 (gather g).funcs.length q.d1, .slice q.A2 (gather g).globs.length q.d2, .slice q.A3 (gather g).tabs.length q.d3, .slice q.A4 (gather g).mems.length q.d4, .int .i64 (gather g).hosts, .int .i64 (gather g).vars, .int .i64 (gather g).els, .int .i64 (gather g).dats, .bool (gather g).counted] 38)).alloc (.cells #[.slice p.A0 g.types.length p.c0, .slice p.A1 g.imps.length p.c1, .slice p.A2 g.funcs.length p.c2, .slice p.A3 g.tabs.length p.c3, .slice p.A4 g.mems.length p.c4, .slice p.A5 g.globs.length p.c5, .slice p.A6 g.expos.length p.c6, .slice p.A7 g.starts.length p.c7, .slice p.A8 g.els.length p.c8, .slice p.A9 g.counts.length p.c9, .slice p.A10 g.dats.length p.c10, .slice p.A11 g.cuss.length p.c11] 33)) ∧ ((V3.alloc (.cells #[.slice q.A0 (gather g).types.length q.d0, .slice q.A1 (gather g).funcs.length q.d1, .slice q.A2 (gather g).globs.length q.d2, .slice q.A3 (gather g).tabs.length q.d3, .slice q.A4 (gather g).mems.length q.d4, .int .i64 (gather g).hosts, .int .i64 (gather g).vars, .int .i64 (gather g).els, .int .i64 (gather g).dats, .bool (gather g).counted] 38)).alloc (.cells #[.slice p.A0 g.types.length p.c0, .slice p.A1 g.imps.length p.c1, .slice p.A2 g.funcs.length p.c2, .slice p.A3 g.tabs.length p.c3, .slice p.A4 g.mems.length p.c4, .slice p.A5 g.globs.length p.c5, .slice p.A6 g.expos.length p.c6, .slice p.A7 g.starts.length p.c7, .slice p.A8 g.els.length p.c8, .slice p.A9 g.counts.length p.c9, .slice p.A10 g.dats.length p.c10, .slice p.A11 g.cuss.length p.c11] 33)).heap[V3.heap.size + 1]? = some (.cells #[.slice p.A0 g.types.length p.c0, .slice p.A1 g.imps.length p.c1, .slice p.A2 g.funcs.length p.c2, .slice p.A3 g.tabs.length p.c3, .slice p.A4 g.mems.length p.c4, .slice p.A5 g.globs.length p.c5, .slice p.A6 g.expos.length p.c6, .slice p.A7 g.starts.length p.c7, .slice p.A8 g.els.length p.c8, .slice p.A9 g.counts.length p.c9, .slice p.A10 g.dats.length p.c10, .slice p.A11 g.cuss.length p.c11] 33 (0, 0)) ∧ V3.heap.size + 1 < ((V3.alloc (.cells #[.slice q.A0 (gather g).types.length q.d0, .slice q.A1 (gather g).funcs.length q.d1, .slice q.A2 (gather g).globs.length q.d2, .slice q.A3 (gather g).tabs.length q.d3, .slice q.A4 (gather g).mems.length q.d4, .int .i64 (gather g).hosts, .int .i64 (gather g).vars, .int .i64 (gather g).els, .int .i64 (gather g).dats, .bool (gather g).counted] 38)).alloc (.cells #[.slice p.A0 g.types.length p.c0, .slice p.A1 g.imps.length p.c1, .slice p.A2 g.funcs.length p.c2, .slice p.A3 g.tabs.length p.c3, .slice p.A4 g.mems.length p.c4, .slice p.A5 g.globs.length p.c5, .slice p.A6 g.expos.length p.c6, .slice p.A7 g.starts.length p.c7, .slice p.A8 g.els.length p.c8, .slice p.A9 g.counts.length p.c9, .slice p.A10 g.dats.length p.c10, .slice p.A11 g.cuss.length p.c11] 33)).heap.size ∧ ((V3.alloc (.cells #[.slice q.A0 (gather g).types.length q.d0, .slice q.A1 (gather g).funcs.length q.d1, .slice q.A2 (gather g).globs.length q.d2, .slice q.A3 (gather g).tabs.length q.d3, .slice q.A4 (gather g).mems.length q.d4, .int .i64 (gather g).hosts, .int .i64 (gather g).vars, .int .i64 (gather g).els, .int .i64 (gather g).dats, .bool (gather g).counted] 38)).alloc (.cells #[.slice p.A0 g.types.length p.c0, .slice p.A1 g.imps.length p.c1, .slice p.A2 g.funcs.length p.c2, .slice p.A3 g.tabs.length p.c3, .slice p.A4 g.mems.length p.c4, .slice p.A5 g.globs.length p.c5, .slice p.A6 g.expos.length p.c6, .slice p.A7 g.starts.length p.c7, .slice p.A8 g.els.length p.c8, .slice p.A9 g.counts.length p.c9, .slice p.A10 g.dats.length p.c10, .slice p.A11 g.cuss.length p.c11] 33)).heap.size = V3.heap.size + 1 + 1 ∧ ((V3.alloc (.cells #[.slice q.A0 (gather g).types.length q.d0, .slice q.A1 (gather g).funcs.length q.d1, .slice q.A2 (gather g).globs.length q.d2, .slice q.A3 (gather g).tabs.length q.d3, .slice q.A4 (gather g).mems.length q.d4, .int .i64 (gather g).hosts, .int .i64 (gather g).vars, .int .i64 (gather g).els, .int .i64 (gather g).dats, .bool (gather g).counted] 38)).alloc (.cells #[.slice p.A0 g.types.length p.c0, .slice p.A1 g.imps.length p.c1, .slice p.A2 g.funcs.length p.c2, .slice p.A3 g.tabs.length p.c3, .slice p.A4 g.mems.length p.c4, .slice p.A5 g.globs.length p.c5, .slice p.A6 g.expos.length p.c6, .slice p.A7 g.starts.length p.c7, .slice p.A8 g.els.length p.c8, .slice p.A9 g.counts.length p.c9, .slice p.A10 g.dats.length p.c10, .slice p.A11 g.cuss.length p.c11] 33)).heap[w.heap.size]? = some (.cells #[.slice p.A0 g.types.length p.c0, .slice p.A1 g.imps.length p.c1, .slice p.A2 g.funcs.length p.c2, .slice p.A3 g.tabs.length p.c3, .slice p.A4 g.mems.length p.c4, .slice p.A5 g.globs.length p.c5, .slice p.A6 g.expos.length p.c6, .slice p.A7 g.starts.length p.c7, .slice p.A8 g.els.length p.c8, .slice p.A9 g.counts.length p.c9, .slice p.A10 g.dats.length p.c10, .slice p.A11 g.cuss.length p.c11] 33 (0, 0)) ∧ ((V3.alloc (.cells #[.slice q.A0 (gather g).types.length q.d0, .slice q.A1 (gather g).funcs.length q.d1, .slice q.A2 (gather g).globs.length q.d2, .slice q.A3 (gather g).tabs.length q.d3, .slice q.A4 (gather g).mems.length q.d4, .int .i64 (gather g).hosts, .int .i64 (gather g).vars, .int .i64 (gather g).els, .int .i64 (gather g).dats, .bool (gather g).counted] 38)).alloc (.cells #[.slice p.A0 g.types.length p.c0, .slice p.A1 g.imps.length p.c1, .slice p.A2 g.funcs.length p.c2, .slice p.A3 g.tabs.length p.c3, .slice p.A4 g.mems.length p.c4, .slice p.A5 g.globs.length p.c5, .slice p.A6 g.expos.length p.c6, .slice p.A7 g.starts.length p.c7, .slice p.A8 g.els.length p.c8, .slice p.A9 g.counts.length p.c9, .slice p.A10 g.dats.length p.c10, .slice p.A11 g.cuss.length p.c11] 33)).heap[w.heap.size + 1]? = some (.cells #[.slice B1 t.1.length b1, .slice B2 t.2.length b2] 46 (0, 0)) ∧ ((V3.alloc (.cells #[.slice q.A0 (gather g).types.length q.d0, .slice q.A1 (gather g).funcs.length q.d1, .slice q.A2 (gather g).globs.length q.d2, .slice q.A3 (gather g).tabs.length q.d3, .slice q.A4 (gather g).mems.length q.d4, .int .i64 (gather g).hosts, .int .i64 (gather g).vars, .int .i64 (gather g).els, .int .i64 (gather g).dats, .bool (gather g).counted] 38)).alloc (.cells #[.slice p.A0 g.types.length p.c0, .slice p.A1 g.imps.length p.c1, .slice p.A2 g.funcs.length p.c2, .slice p.A3 g.tabs.length p.c3, .slice p.A4 g.mems.length p.c4, .slice p.A5 g.globs.length p.c5, .slice p.A6 g.expos.length p.c6, .slice p.A7 g.starts.length p.c7, .slice p.A8 g.els.length p.c8, .slice p.A9 g.counts.length p.c9, .slice p.A10 g.dats.length p.c10, .slice p.A11 g.cuss.length p.c11] 33)).heap[V3.heap.size]? = some (.cells #[.slice q.A0 (gather g).types.length q.d0, .slice q.A1 (gather g).funcs.length q.d1, .slice q.A2 (gather g).globs.length q.d2, .slice q.A3 (gather g).tabs.length q.d3, .slice q.A4 (gather g).mems.length q.d4, .int .i64 (gather g).hosts, .int .i64 (gather g).vars, .int .i64 (gather g).els, .int .i64 (gather g).dats, .bool (gather g).counted] 38 (0, 0)) ∧ Below V3.heap.size V3 ((V3.alloc (.cells #[.slice q.A0 (gather g).types.length q.d0, .slice q.A1 (gather g).funcs.length q.d1, .slice q.A2 (gather g).globs.length q.d2, .slice q.A3 (gather g).tabs.length q.d3, .slice q.A4 (gather g).mems.length q.d4, .int .i64 (gather g).hosts, .int .i64 (gather g).vars, .int .i64 (gather g).els, .int .i64 (gather g).dats, .bool (gather g).counted] 38)).alloc (.cells #[.slice p.A0 g.types.length p.c0, .slice p.A1 g.imps.length p.c1, .slice p.A2 g.funcs.length p.c2, .slice p.A3 g.tabs.length p.c3, .slice p.A4 g.mems.length p.c4, .slice p.A5 g.globs.length p.c5, .slice p.A6 g.expos.length p.c6, .slice p.A7 g.starts.length p.c7, .slice p.A8 g.els.length p.c8, .slice p.A9 g.counts.length p.c9, .slice p.A10 g.dats.length p.c10, .slice p.A11 g.cuss.length p.c11] 33))) := Lib.hid (by
        have hb : Below V3.heap.size V3 ((V3.alloc (.cells #[.slice q.A0 (gather g).types.length q.d0, .slice q.A1 (gather g).funcs.length q.d1, .slice q.A2 (gather g).globs.length q.d2, .slice q.A3 (gather g).tabs.length q.d3, .slice q.A4 (gather g).mems.length q.d4, .int .i64 (gather g).hosts, .int .i64 (gather g).vars, .int .i64 (gather g).els, .int .i64 (gather g).dats, .bool (gather g).counted] 38)).alloc (.cells #[.slice p.A0 g.types.length p.c0, .slice p.A1 g.imps.length p.c1, .slice p.A2 g.funcs.length p.c2, .slice p.A3 g.tabs.length p.c3, .slice p.A4 g.mems.length p.c4, .slice p.A5 g.globs.length p.c5, .slice p.A6 g.expos.length p.c6, .slice p.A7 g.starts.length p.c7, .slice p.A8 g.els.length p.c8, .slice p.A9 g.counts.length p.c9, .slice p.A10 g.dats.length p.c10, .slice p.A11 g.cuss.length p.c11] 33)) := (((Below.refl _ _).alloc (Nat.le_refl _) _).alloc (by simp) _)
        refine ⟨HV3.out.trans (hb.mono (by have := HZ3.out; omega)), heap2 V3 _ _ _, by simp, by simp, (hb.block _ (by have := HZ3.out; omega)).trans HM3.out.1, (hb.block _ HZ3.out).trans HM3.out.2, ?_, hb⟩
        exact ((((Below.refl _ _).alloc (Nat.le_refl _) _).block _ (by simp)).trans (heap_alloc_new V3 _)))
      have m0 : V3.cell? ⟨w.heap.size, 0, none⟩ = some (.slice p.A0 g.types.length p.c0) := (blk_cell HM3.out.1 0).trans rfl
      have m1 : V3.cell? ⟨w.heap.size, 1, none⟩ = some (.slice p.A1 g.imps.length p.c1) := (blk_cell HM3.out.1 1).trans rfl
      have m2 : V3.cell? ⟨w.heap.size, 2, none⟩ = some (.slice p.A2 g.funcs.length p.c2) := (blk_cell HM3.out.1 2).trans rfl
      have m3 : V3.cell? ⟨w.heap.size, 3, none⟩ = some (.slice p.A3 g.tabs.length p.c3) := (blk_cell HM3.out.1 3).trans rfl
      have m4 : V3.cell? ⟨w.heap.size, 4, none⟩ = some (.slice p.A4 g.mems.length p.c4) := (blk_cell HM3.out.1 4).trans rfl
      have m5 : V3.cell? ⟨w.heap.size, 5, none⟩ = some (.slice p.A5 g.globs.length p.c5) := (blk_cell HM3.out.1 5).trans rfl
      have m6 : V3.cell? ⟨w.heap.size, 6, none⟩ = some (.slice p.A6 g.expos.length p.c6) := (blk_cell HM3.out.1 6).trans rfl
      have m7 : V3.cell? ⟨w.heap.size, 7, none⟩ = some (.slice p.A7 g.starts.length p.c7) := (blk_cell HM3.out.1 7).trans rfl
      have m8 : V3.cell? ⟨w.heap.size, 8, none⟩ = some (.slice p.A8 g.els.length p.c8) := (blk_cell HM3.out.1 8).trans rfl
      have m9 : V3.cell? ⟨w.heap.size, 9, none⟩ = some (.slice p.A9 g.counts.length p.c9) := (blk_cell HM3.out.1 9).trans rfl
      have m10 : V3.cell? ⟨w.heap.size, 10, none⟩ = some (.slice p.A10 g.dats.length p.c10) := (blk_cell HM3.out.1 10).trans rfl
      have m11 : V3.cell? ⟨w.heap.size, 11, none⟩ = some (.slice p.A11 g.cuss.length p.c11) := (blk_cell HM3.out.1 11).trans rfl
      have hbA : Below V3.heap.size V3 (V3.alloc (.cells #[.slice q.A0 (gather g).types.length q.d0, .slice q.A1 (gather g).funcs.length q.d1, .slice q.A2 (gather g).globs.length q.d2, .slice q.A3 (gather g).tabs.length q.d3, .slice q.A4 (gather g).mems.length q.d4, .int .i64 (gather g).hosts, .int .i64 (gather g).vars, .int .i64 (gather g).els, .int .i64 (gather g).dats, .bool (gather g).counted] 38)) := (Below.refl _ _).alloc (Nat.le_refl _) _
      have hkA := (hbA.block w.heap.size (by have := HZ3.out; omega)).trans HM3.out.1
      have k0 : (V3.alloc (.cells #[.slice q.A0 (gather g).types.length q.d0, .slice q.A1 (gather g).funcs.length q.d1, .slice q.A2 (gather g).globs.length q.d2, .slice q.A3 (gather g).tabs.length q.d3, .slice q.A4 (gather g).mems.length q.d4, .int .i64 (gather g).hosts, .int .i64 (gather g).vars, .int .i64 (gather g).els, .int .i64 (gather g).dats, .bool (gather g).counted] 38)).cell? ⟨w.heap.size, 0, none⟩ = some (.slice p.A0 g.types.length p.c0) := (blk_cell hkA 0).trans rfl
      have k1 : (V3.alloc (.cells #[.slice q.A0 (gather g).types.length q.d0, .slice q.A1 (gather g).funcs.length q.d1, .slice q.A2 (gather g).globs.length q.d2, .slice q.A3 (gather g).tabs.length q.d3, .slice q.A4 (gather g).mems.length q.d4, .int .i64 (gather g).hosts, .int .i64 (gather g).vars, .int .i64 (gather g).els, .int .i64 (gather g).dats, .bool (gather g).counted] 38)).cell? ⟨w.heap.size, 1, none⟩ = some (.slice p.A1 g.imps.length p.c1) := (blk_cell hkA 1).trans rfl
      have k2 : (V3.alloc (.cells #[.slice q.A0 (gather g).types.length q.d0, .slice q.A1 (gather g).funcs.length q.d1, .slice q.A2 (gather g).globs.length q.d2, .slice q.A3 (gather g).tabs.length q.d3, .slice q.A4 (gather g).mems.length q.d4, .int .i64 (gather g).hosts, .int .i64 (gather g).vars, .int .i64 (gather g).els, .int .i64 (gather g).dats, .bool (gather g).counted] 38)).cell? ⟨w.heap.size, 2, none⟩ = some (.slice p.A2 g.funcs.length p.c2) := (blk_cell hkA 2).trans rfl
      have k3 : (V3.alloc (.cells #[.slice q.A0 (gather g).types.length q.d0, .slice q.A1 (gather g).funcs.length q.d1, .slice q.A2 (gather g).globs.length q.d2, .slice q.A3 (gather g).tabs.length q.d3, .slice q.A4 (gather g).mems.length q.d4, .int .i64 (gather g).hosts, .int .i64 (gather g).vars, .int .i64 (gather g).els, .int .i64 (gather g).dats, .bool (gather g).counted] 38)).cell? ⟨w.heap.size, 3, none⟩ = some (.slice p.A3 g.tabs.length p.c3) := (blk_cell hkA 3).trans rfl
      have k4 : (V3.alloc (.cells #[.slice q.A0 (gather g).types.length q.d0, .slice q.A1 (gather g).funcs.length q.d1, .slice q.A2 (gather g).globs.length q.d2, .slice q.A3 (gather g).tabs.length q.d3, .slice q.A4 (gather g).mems.length q.d4, .int .i64 (gather g).hosts, .int .i64 (gather g).vars, .int .i64 (gather g).els, .int .i64 (gather g).dats, .bool (gather g).counted] 38)).cell? ⟨w.heap.size, 4, none⟩ = some (.slice p.A4 g.mems.length p.c4) := (blk_cell hkA 4).trans rfl
      have k5 : (V3.alloc (.cells #[.slice q.A0 (gather g).types.length q.d0, .slice q.A1 (gather g).funcs.length q.d1, .slice q.A2 (gather g).globs.length q.d2, .slice q.A3 (gather g).tabs.length q.d3, .slice q.A4 (gather g).mems.length q.d4, .int .i64 (gather g).hosts, .int .i64 (gather g).vars, .int .i64 (gather g).els, .int .i64 (gather g).dats, .bool (gather g).counted] 38)).cell? ⟨w.heap.size, 5, none⟩ = some (.slice p.A5 g.globs.length p.c5) := (blk_cell hkA 5).trans rfl
      have k6 : (V3.alloc (.cells #[.slice q.A0 (gather g).types.length q.d0, .slice q.A1 (gather g).funcs.length q.d1, .slice q.A2 (gather g).globs.length q.d2, .slice q.A3 (gather g).tabs.length q.d3, .slice q.A4 (gather g).mems.length q.d4, .int .i64 (gather g).hosts, .int .i64 (gather g).vars, .int .i64 (gather g).els, .int .i64 (gather g).dats, .bool (gather g).counted] 38)).cell? ⟨w.heap.size, 6, none⟩ = some (.slice p.A6 g.expos.length p.c6) := (blk_cell hkA 6).trans rfl
      have k7 : (V3.alloc (.cells #[.slice q.A0 (gather g).types.length q.d0, .slice q.A1 (gather g).funcs.length q.d1, .slice q.A2 (gather g).globs.length q.d2, .slice q.A3 (gather g).tabs.length q.d3, .slice q.A4 (gather g).mems.length q.d4, .int .i64 (gather g).hosts, .int .i64 (gather g).vars, .int .i64 (gather g).els, .int .i64 (gather g).dats, .bool (gather g).counted] 38)).cell? ⟨w.heap.size, 7, none⟩ = some (.slice p.A7 g.starts.length p.c7) := (blk_cell hkA 7).trans rfl
      have k8 : (V3.alloc (.cells #[.slice q.A0 (gather g).types.length q.d0, .slice q.A1 (gather g).funcs.length q.d1, .slice q.A2 (gather g).globs.length q.d2, .slice q.A3 (gather g).tabs.length q.d3, .slice q.A4 (gather g).mems.length q.d4, .int .i64 (gather g).hosts, .int .i64 (gather g).vars, .int .i64 (gather g).els, .int .i64 (gather g).dats, .bool (gather g).counted] 38)).cell? ⟨w.heap.size, 8, none⟩ = some (.slice p.A8 g.els.length p.c8) := (blk_cell hkA 8).trans rfl
      have k9 : (V3.alloc (.cells #[.slice q.A0 (gather g).types.length q.d0, .slice q.A1 (gather g).funcs.length q.d1, .slice q.A2 (gather g).globs.length q.d2, .slice q.A3 (gather g).tabs.length q.d3, .slice q.A4 (gather g).mems.length q.d4, .int .i64 (gather g).hosts, .int .i64 (gather g).vars, .int .i64 (gather g).els, .int .i64 (gather g).dats, .bool (gather g).counted] 38)).cell? ⟨w.heap.size, 9, none⟩ = some (.slice p.A9 g.counts.length p.c9) := (blk_cell hkA 9).trans rfl
      have k10 : (V3.alloc (.cells #[.slice q.A0 (gather g).types.length q.d0, .slice q.A1 (gather g).funcs.length q.d1, .slice q.A2 (gather g).globs.length q.d2, .slice q.A3 (gather g).tabs.length q.d3, .slice q.A4 (gather g).mems.length q.d4, .int .i64 (gather g).hosts, .int .i64 (gather g).vars, .int .i64 (gather g).els, .int .i64 (gather g).dats, .bool (gather g).counted] 38)).cell? ⟨w.heap.size, 10, none⟩ = some (.slice p.A10 g.dats.length p.c10) := (blk_cell hkA 10).trans rfl
      have k11 : (V3.alloc (.cells #[.slice q.A0 (gather g).types.length q.d0, .slice q.A1 (gather g).funcs.length q.d1, .slice q.A2 (gather g).globs.length q.d2, .slice q.A3 (gather g).tabs.length q.d3, .slice q.A4 (gather g).mems.length q.d4, .int .i64 (gather g).hosts, .int .i64 (gather g).vars, .int .i64 (gather g).els, .int .i64 (gather g).dats, .bool (gather g).counted] 38)).cell? ⟨w.heap.size, 11, none⟩ = some (.slice p.A11 g.cuss.length p.c11) := (blk_cell hkA 11).trans rfl
      clear hbA hkA
      go_upto_region 9 with fail
      clear m0 m1 m2 m3 m4 m5 m6 m7 m8 m9 m10 m11 k0 k1 k2 k3 k4 k5 k6 k7 k8 k9 k10 k11
      generalize ((V3.alloc (.cells #[.slice q.A0 (gather g).types.length q.d0, .slice q.A1 (gather g).funcs.length q.d1, .slice q.A2 (gather g).globs.length q.d2, .slice q.A3 (gather g).tabs.length q.d3, .slice q.A4 (gather g).mems.length q.d4, .int .i64 (gather g).hosts, .int .i64 (gather g).vars, .int .i64 (gather g).els, .int .i64 (gather g).dats, .bool (gather g).counted] 38)).alloc (.cells #[.slice p.A0 g.types.length p.c0, .slice p.A1 g.imps.length p.c1, .slice p.A2 g.funcs.length p.c2, .slice p.A3 g.tabs.length p.c3, .slice p.A4 g.mems.length p.c4, .slice p.A5 g.globs.length p.c5, .slice p.A6 g.expos.length p.c6, .slice p.A7 g.starts.length p.c7, .slice p.A8 g.els.length p.c8, .slice p.A9 g.counts.length p.c9, .slice p.A10 g.dats.length p.c10, .slice p.A11 g.cuss.length p.c11] 33)) = V at *
      have HD : Hid (Below V.heap.size V V.drew) := Lib.hid (Below.refl _ _).drew
      have HVN' : Hid (Below w.heap.size w V.drew ∧ V.drew.heap[V3.heap.size + 1]? = some (.cells #[.slice p.A0 g.types.length p.c0, .slice p.A1 g.imps.length p.c1, .slice p.A2 g.funcs.length p.c2, .slice p.A3 g.tabs.length p.c3, .slice p.A4 g.mems.length p.c4, .slice p.A5 g.globs.length p.c5, .slice p.A6 g.expos.length p.c6, .slice p.A7 g.starts.length p.c7, .slice p.A8 g.els.length p.c8, .slice p.A9 g.counts.length p.c9, .slice p.A10 g.dats.length p.c10, .slice p.A11 g.cuss.length p.c11] 33 (0, 0)) ∧ V3.heap.size + 1 < V.drew.heap.size ∧ V.drew.heap.size = V3.heap.size + 1 + 1 ∧ V.drew.heap[w.heap.size]? = some (.cells #[.slice p.A0 g.types.length p.c0, .slice p.A1 g.imps.length p.c1, .slice p.A2 g.funcs.length p.c2, .slice p.A3 g.tabs.length p.c3, .slice p.A4 g.mems.length p.c4, .slice p.A5 g.globs.length p.c5, .slice p.A6 g.expos.length p.c6, .slice p.A7 g.starts.length p.c7, .slice p.A8 g.els.length p.c8, .slice p.A9 g.counts.length p.c9, .slice p.A10 g.dats.length p.c10, .slice p.A11 g.cuss.length p.c11] 33 (0, 0)) ∧ V.drew.heap[w.heap.size + 1]? = some (.cells #[.slice B1 t.1.length b1, .slice B2 t.2.length b2] 46 (0, 0)) ∧ V.drew.heap[V3.heap.size]? = some (.cells #[.slice q.A0 (gather g).types.length q.d0, .slice q.A1 (gather g).funcs.length q.d1, .slice q.A2 (gather g).globs.length q.d2, .slice q.A3 (gather g).tabs.length q.d3, .slice q.A4 (gather g).mems.length q.d4, .int .i64 (gather g).hosts, .int .i64 (gather g).vars, .int .i64 (gather g).els, .int .i64 (gather g).dats, .bool (gather g).counted] 38 (0, 0)) ∧ Below V3.heap.size V3 V.drew) := Lib.hid ⟨HVN.out.1.drew, HVN.out.2.1, HVN.out.2.2.1, HVN.out.2.2.2.1, HVN.out.2.2.2.2.1, HVN.out.2.2.2.2.2.1, HVN.out.2.2.2.2.2.2.1, HVN.out.2.2.2.2.2.2.2.drew⟩
      have hSW : (ST w.heap.size (w.heap.size + 1) p.A0 g.types.length p.c0 B1 t.1.length b1 B2 t.2.length b2) V.drew := ⟨(blk_cell HVN'.out.2.2.2.2.1 0).trans rfl, (blk_cell HVN'.out.2.2.2.2.2.1 0).trans rfl, (blk_cell HVN'.out.2.2.2.2.2.1 1).trans rfl⟩
      clear HVN HD
      refine wp_region_held_drew (S := (ST w.heap.size (w.heap.size + 1) p.A0 g.types.length p.c0 B1 t.1.length b1 B2 t.2.length b2)) (by kernel_rfl) hSW (fun hS => ?_)
      clear hSW
      generalize V.drew = V at *
      have HS0 := Lib.hid hS
      have HVB : Hid (Below w.heap.size w V ∧ V.heap[V3.heap.size + 1]? = some (.cells #[.slice p.A0 g.types.length p.c0, .slice p.A1 g.imps.length p.c1, .slice p.A2 g.funcs.length p.c2, .slice p.A3 g.tabs.length p.c3, .slice p.A4 g.mems.length p.c4, .slice p.A5 g.globs.length p.c5, .slice p.A6 g.expos.length p.c6, .slice p.A7 g.starts.length p.c7, .slice p.A8 g.els.length p.c8, .slice p.A9 g.counts.length p.c9, .slice p.A10 g.dats.length p.c10, .slice p.A11 g.cuss.length p.c11] 33 (0, 0)) ∧ V3.heap.size + 1 < V.heap.size ∧ V.heap.size = V3.heap.size + 1 + 1) := Lib.hid ⟨HVN'.out.1, HVN'.out.2.1, HVN'.out.2.2.1, HVN'.out.2.2.2.1⟩
      have HMV : Hid (V.heap[w.heap.size]? = some (.cells #[.slice p.A0 g.types.length p.c0, .slice p.A1 g.imps.length p.c1, .slice p.A2 g.funcs.length p.c2, .slice p.A3 g.tabs.length p.c3, .slice p.A4 g.mems.length p.c4, .slice p.A5 g.globs.length p.c5, .slice p.A6 g.expos.length p.c6, .slice p.A7 g.starts.length p.c7, .slice p.A8 g.els.length p.c8, .slice p.A9 g.counts.length p.c9, .slice p.A10 g.dats.length p.c10, .slice p.A11 g.cuss.length p.c11] 33 (0, 0)) ∧ V.heap[w.heap.size + 1]? = some (.cells #[.slice B1 t.1.length b1, .slice B2 t.2.length b2] 46 (0, 0)) ∧ V.heap[V3.heap.size]? = some (.cells #[.slice q.A0 (gather g).types.length q.d0, .slice q.A1 (gather g).funcs.length q.d1, .slice q.A2 (gather g).globs.length q.d2, .slice q.A3 (gather g).tabs.length q.d3, .slice q.A4 (gather g).mems.length q.d4, .int .i64 (gather g).hosts, .int .i64 (gather g).vars, .int .i64 (gather g).els, .int .i64 (gather g).dats, .bool (gather g).counted] 38 (0, 0)) ∧ Below V3.heap.size V3 V) := Lib.hid HVN'.out.2.2.2.2
      have HBW : Hid (∀ b, b < w.heap.size → V.heap[b]? = w.heap[b]?) := Lib.hid fun b hb => HVB.out.1.block b hb
      have HN7 : Hid (g.types.length ≤ 70 ∧ g.els.length ≤ 70 ∧ g.dats.length ≤ 70) := Lib.hid HS.out.2
      have HSB : Hid (∀ X, Below V.heap.size V X → (ST w.heap.size (w.heap.size + 1) p.A0 g.types.length p.c0 B1 t.1.length b1 B2 t.2.length b2) X) := Lib.hid fun X hX => st_keep HS0.out (hX.block _ (by have := HVB.out.2.2; have := HZ3.out; omega)) (hX.block _ (by have := HVB.out.2.2; have := HZ3.out; omega))
      have HLE : Hid (∀ X, Below V.heap.size V X → Src X 2 p.A0 g.types.length p.c0 (cellsE es0)) := Lib.hid fun X hX => by
        have h := src_ents (lst_below (lst_below HE0.out HVB.out.1) hX)
        rwa [show es0.length = g.types.length from by rw [← HES0.out]; simp] at h
      have HLE8 : Hid (∀ X, (∀ b, b < w.heap.size → X.heap[b]? = V.heap[b]?) → Lst (withR elR) X ok p.A8 p.c8 es8) := Lib.hid fun X hX => HE8.out.keep fun b hb hlt => ⟨(hX b hlt).trans (HBW.out b hlt), hb⟩
      have HLE10 : Hid (∀ X, (∀ b, b < w.heap.size → X.heap[b]? = V.heap[b]?) → Lst (withR datR) X ok p.A10 p.c10 es10) := Lib.hid fun X hX => HE10.out.keep fun b hb hlt => ⟨(hX b hlt).trans (HBW.out b hlt), hb⟩
      have HON := HON0
      clear HVN' HE0 HE8 HE10 HON0 HM3 HS
      have HI := Lib.hid (Below.refl V.heap.size V)
      have HZS : Hid (V.heap.size ≤ V.heap.size) := Lib.hid (Nat.le_refl V.heap.size)
      generalize hvs : V.heap.size = vs at HSB HLE HI
      have HVC : Hid (∀ Y, Below vs V Y → V3.heap.size + 1 < Y.heap.size) := Lib.hid fun Y hY => by have h1 := hY.size; have h2 := HVB.out.2.2; omega
      have HZS : Hid (vs ≤ V.heap.size) := Lib.hid (Nat.le_of_eq hvs.symm)
      rw [hvs] at HVB
      clear hvs
      refine wpAnyH_take (i := 1) (oi := { dst := some 36, op := .fieldAddr 33 (.tmp 2) 0, type := 0, pos := "law.go:127", after := #[], guard := none }) (v := ?_) rfl (by kernel_rfl) (by kernel_rfl) (by kernel_rfl) (fun _ _ _ h => h) (Or.inl ⟨by rfl, ?_⟩) hS ?_
      rotate_left
      · (intro w' hS'; obtain ⟨s0, s1, s2⟩ := hS'; go_simp) <;> with_reducible rfl
      try simp only [Act.put, List.setIfInBounds_toArray, List.set_cons_zero, List.set_cons_succ]
      refine wpAnyH_take (i := 2) (oi := { dst := some 37, op := .load 22 (.tmp 36), type := 22, pos := "law.go:127", after := #[{ on := 1, ground := .data }], guard := none }) (v := ?_) rfl (by kernel_rfl) (by kernel_rfl) (by kernel_rfl) (fun _ _ _ h => h) (Or.inl ⟨by rfl, ?_⟩) hS ?_
      rotate_left
      · (intro w' hS'; obtain ⟨s0, s1, s2⟩ := hS'; go_simp) <;> with_reducible rfl
      try simp only [Act.put, List.setIfInBounds_toArray, List.set_cons_zero, List.set_cons_succ]
      refine wpAnyH_take (i := 4) (oi := { dst := some 39, op := .load 46 (.tmp 3), type := 46, pos := "law.go:127", after := #[], guard := none }) (v := ?_) rfl (by kernel_rfl) (by kernel_rfl) (by kernel_rfl) (fun _ _ _ h => h) (Or.inl ⟨by rfl, ?_⟩) hS ?_
      rotate_left
      · (intro w' hS'; obtain ⟨s0, s1, s2⟩ := hS'; go_simp) <;> with_reducible rfl
      try simp only [Act.put, List.setIfInBounds_toArray, List.set_cons_zero, List.set_cons_succ]
      refine wpAnyH_ready (rs := [0, 5]) (by kernel_rfl) (by simp) ?_
      refine AllReadyH.cons (o := { dst := some 35, op := .buildSlice 22 0 #[], type := 22, pos := "law.go:127", after := #[], guard := none }) rfl (fun K' hK => ?_) (AllReadyH.cons (o := { dst := some 40, op := .buildSlice 22 1 #[(0, .tmp 39)], type := 22, pos := "law.go:127", after := #[{ on := 4, ground := .data }], guard := none }) rfl (fun K' hK => ?_) (AllReadyH.nil))
      · go_simp
        have HAL : Hid (Below V.heap.size V (V.alloc (.cells #[] 46))) := Lib.hid ((Below.refl _ _).alloc (Nat.le_refl _) _)
        have HZ : Hid (V.heap.size < (V.alloc (.cells #[] 46)).heap.size) := Lib.hid (by simp)
        have HI2 := Lib.hid (HI.out.trans (HAL.out.mono HZS.out))
        have HZS2 : Hid (vs ≤ (V.alloc (.cells #[] 46)).heap.size) := Lib.hid (Nat.le_trans HZS.out (Nat.le_of_lt HZ.out))
        have HEn : Hid ((V.alloc (.cells #[] 46)).heap[V.heap.size]? = some (.cells #[] 46 (0, 0)) ∧ vs ≤ V.heap.size ∧ V.heap.size < (V.alloc (.cells #[] 46)).heap.size) := Lib.hid ⟨heap_alloc_new V _, HZS.out, HZ.out⟩
        clear HI HAL HZ HZS
        generalize (V.alloc (.cells #[] 46)) = X1 at *
        generalize V.heap.size = b0 at *
        have HI := HI2
        have HZS := HZS2
        have HE := HEn
        clear HI2 HZS2 HEn
        refine hK.out _ _ (HSB.out _ HI.out) (fun hS => ?_)
        clear hK K'
        try simp only [Act.put, List.setIfInBounds_toArray, List.set_cons_zero, List.set_cons_succ]
        refine wpAnyH_ready (rs := [3, 5]) (by kernel_rfl) (by simp) ?_
        refine AllReadyH.cons (o := { dst := some 38, op := .call { callee := .builtin .append, args := #[.tmp 35, .tmp 37], argTypes := #[22, 22] }, type := 22, pos := "law.go:127", after := #[{ on := 0, ground := .data }, { on := 2, ground := .data }], guard := none }) rfl (fun K' hK => ?_) (AllReadyH.cons (o := { dst := some 40, op := .buildSlice 22 1 #[(0, .tmp 39)], type := 22, pos := "law.go:127", after := #[{ on := 4, ground := .data }], guard := none }) rfl (fun K' hK => ?_) (AllReadyH.nil))
        · refine app_step tyT rfl (.tmp 35) (.tmp 37) rfl (A := some ⟨b0, 0, none⟩) (n := 0) (c := 0) rfl (own_empty X1 vs _ _ b0 HE.out.2.1 HE.out.1) (X := p.A0) (m := g.types.length) (cx := p.c0) rfl (HLE.out X1 HI.out) HON.out (by have := HN7.out; omega) HZS.out ?_
          intro R3 d3 X2 ho hg hob
          simp only [Nat.zero_add, List.nil_append] at ho hob ⊢
          have HO := Lib.hid ho
          have HI2 : Hid (Below vs V X2) := Lib.hid (HI.out.grown hg HZS.out (fun k hk => by have hk : some b0 = some k := hk; injection hk with hk; have := HE.out.2.1; omega))
          have HZS2 : Hid (vs ≤ X2.heap.size) := Lib.hid (Nat.le_trans HZS.out hg.size)
          clear ho hg hob HI HE HZS
          have HI := HI2
          have HZS := HZS2
          clear HI2 HZS2
          refine hK.out _ _ (HSB.out _ HI.out) (fun hS => ?_)
          clear hK K'
          try simp only [Act.put, List.setIfInBounds_toArray, List.set_cons_zero, List.set_cons_succ]
          refine wpAnyH_ready (rs := [5]) (by kernel_rfl) (by simp) ?_
          refine AllReadyH.cons (o := { dst := some 40, op := .buildSlice 22 1 #[(0, .tmp 39)], type := 22, pos := "law.go:127", after := #[{ on := 4, ground := .data }], guard := none }) rfl (fun K' hK => ?_) (AllReadyH.nil)
          · go_simp
            have HAL : Hid (Below X2.heap.size X2 (X2.alloc (.cells #[.slice B1 t.1.length b1, .slice B2 t.2.length b2] 46))) := Lib.hid ((Below.refl _ _).alloc (Nat.le_refl _) _)
            have HZ : Hid (X2.heap.size < (X2.alloc (.cells #[.slice B1 t.1.length b1, .slice B2 t.2.length b2] 46)).heap.size) := Lib.hid (by simp)
            have HI2 := Lib.hid (HI.out.trans (HAL.out.mono HZS.out))
            have HZS2 : Hid (vs ≤ (X2.alloc (.cells #[.slice B1 t.1.length b1, .slice B2 t.2.length b2] 46)).heap.size) := Lib.hid (Nat.le_trans HZS.out (Nat.le_of_lt HZ.out))
            have HO2 := Lib.hid (rowSame HO.out fun gb hg => HAL.out.block gb (rowLt HO.out gb hg).2)
            have HPn : Hid ((X2.alloc (.cells #[.slice B1 t.1.length b1, .slice B2 t.2.length b2] 46)).heap[X2.heap.size]? = some (.cells #[.slice B1 t.1.length b1, .slice B2 t.2.length b2] 46 (0, 0)) ∧ vs ≤ X2.heap.size ∧ X2.heap.size < (X2.alloc (.cells #[.slice B1 t.1.length b1, .slice B2 t.2.length b2] 46)).heap.size) := Lib.hid ⟨heap_alloc_new X2 _, HZS.out, HZ.out⟩
            clear HI HAL HZ HZS HO
            generalize (X2.alloc (.cells #[.slice B1 t.1.length b1, .slice B2 t.2.length b2] 46)) = X3 at *
            generalize X2.heap.size = b5 at *
            have HI := HI2
            have HZS := HZS2
            have HO := HO2
            have HP := HPn
            clear HI2 HZS2 HPn HO2
            refine hK.out _ _ (HSB.out _ HI.out) (fun hS => ?_)
            clear hK K'
            try simp only [Act.put, List.setIfInBounds_toArray, List.set_cons_zero, List.set_cons_succ]
            refine wpAnyH_ready (rs := [6]) (by kernel_rfl) (by simp) ?_
            refine AllReadyH.cons (o := { dst := some 41, op := .call { callee := .builtin .append, args := #[.tmp 38, .tmp 40], argTypes := #[22, 22] }, type := 22, pos := "law.go:127", after := #[{ on := 3, ground := .data }, { on := 5, ground := .data }, { on := 3, ground := .chain }], guard := none }) rfl (fun K' hK => ?_) (AllReadyH.nil)
            · refine app_step tyT rfl (.tmp 38) (.tmp 40) rfl (A := R3) (n := g.types.length) (c := d3) rfl HO.out (X := some ⟨b5, 0, none⟩) (m := 1) (cx := 1) rfl (src_blk HP.out.1 rfl) (by simp [Value.oneCell']) (by have := HN7.out; omega) HZS.out ?_
              intro R4 d4 X4 ho hg hob
              have HR := Lib.hid ho
              have HI2 : Hid (Below vs V X4) := Lib.hid (HI.out.grown hg HZS.out (fun k hk => (rowLt HO.out k hk).1))
              clear ho hg hob HI HO HP
              have HI := HI2
              clear HI2
              have hk := (HI.out.block _ HVB.out.2.2.1).trans HVB.out.2.1
              have nc : X4.cell? ⟨V3.heap.size + 1, 0, none⟩ = some (.slice p.A0 g.types.length p.c0) := (blk_cell hk 0).trans rfl
              have nz := blk_free hk 0
              have HKS := Lib.hid (blk_set hk 0 (.slice R4 (g.types.length + 1) d4))
              have HSX : Hid ((∀ b, b < V3.heap.size + 1 → (X4.setCell ⟨V3.heap.size + 1, 0, none⟩ (.slice R4 (g.types.length + 1) d4)).heap[b]? = V.heap[b]?) ∧ V3.heap.size + 1 < (X4.setCell ⟨V3.heap.size + 1, 0, none⟩ (.slice R4 (g.types.length + 1) d4)).heap.size ∧ (X4.setCell ⟨V3.heap.size + 1, 0, none⟩ (.slice R4 (g.types.length + 1) d4)).os = V.os ∧ (X4.setCell ⟨V3.heap.size + 1, 0, none⟩ (.slice R4 (g.types.length + 1) d4)).tape = V.tape ∧ (X4.setCell ⟨V3.heap.size + 1, 0, none⟩ (.slice R4 (g.types.length + 1) d4)).output = V.output ∧ V.heap.size ≤ (X4.setCell ⟨V3.heap.size + 1, 0, none⟩ (.slice R4 (g.types.length + 1) d4)).heap.size) := Lib.hid ⟨fun b hb => (far_set (show V3.heap.size + 1 ≠ b by omega) _).trans (HI.out.block b (by have := HVB.out.2.2; omega)), by have h1 := HVC.out _ HI.out; simpa using h1, HI.out.os, HI.out.tape, HI.out.output, by simpa using HI.out.size⟩
              have HRS : Hid ((X4.setCell ⟨V3.heap.size + 1, 0, none⟩ (.slice R4 (g.types.length + 1) d4)).ownsRow vs 46 2 (.slice R4 (g.types.length + 1) d4) (g.types.length + 1) (cellsE es0 ++ [.slice B1 t.1.length b1, .slice B2 t.2.length b2])) := Lib.hid (rowSame HR.out fun b hb => far_set (by have := (rowLt HR.out b hb).1; have := HVB.out.2.2; show V3.heap.size + 1 ≠ b; omega) _)
              have HSS : Hid ((ST w.heap.size (w.heap.size + 1) p.A0 g.types.length p.c0 B1 t.1.length b1 B2 t.2.length b2) (X4.setCell ⟨V3.heap.size + 1, 0, none⟩ (.slice R4 (g.types.length + 1) d4))) := Lib.hid (st_keep (HSB.out _ (Below.refl _ _)) (HSX.out.1 _ (by have := HZ3.out; omega)) (HSX.out.1 _ (by have := HZ3.out; omega)))
              simp only [List.setIfInBounds_toArray, List.set_cons_zero] at HKS
              clear HR hk
              refine hK.out _ _ (HSB.out _ HI.out) (fun hS => ?_)
              clear hK K'
              try simp only [Act.put, List.setIfInBounds_toArray, List.set_cons_zero, List.set_cons_succ]
              refine wpAnyH_take (i := 7) (oi := { dst := some 42, op := .fieldAddr 33 (.tmp 7) 0, type := 0, pos := "law.go:127", after := #[{ on := 0, ground := .phase }, { on := 1, ground := .phase }, { on := 2, ground := .phase }, { on := 3, ground := .phase }, { on := 4, ground := .phase }, { on := 5, ground := .phase }, { on := 6, ground := .phase }], guard := none }) (v := ?_) rfl (by kernel_rfl) (by kernel_rfl) (by kernel_rfl) (fun _ _ _ h => h) (Or.inl ⟨by rfl, ?_⟩) hS ?_
              rotate_left
              · (intro w' hS'; obtain ⟨s0, s1, s2⟩ := hS'; go_simp) <;> with_reducible rfl
              try simp only [Act.put, List.setIfInBounds_toArray, List.set_cons_zero, List.set_cons_succ]
              refine wpAnyH_ready (rs := [8]) (by kernel_rfl) (by simp) ?_
              refine AllReadyH.cons (o := { dst := none, op := .store 22 (.tmp 42) (.tmp 41), type := 0, pos := "law.go:127", after := #[{ on := 7, ground := .data }, { on := 6, ground := .data }, { on := 6, ground := .chain }, { on := 0, ground := .phase }, { on := 1, ground := .phase }, { on := 2, ground := .phase }, { on := 3, ground := .phase }, { on := 4, ground := .phase }, { on := 5, ground := .phase }, { on := 6, ground := .phase }], guard := none }) rfl (fun K' hK => ?_) (AllReadyH.nil)
              · go_simp
                refine hK.out _ _ HSS.out (fun hS => ?_)
                clear hK K' nc nz HSS HI HZS
                generalize X4.setCell ⟨V3.heap.size + 1, 0, none⟩ (.slice R4 (g.types.length + 1) d4) = V9 at *
                try simp only [Act.put, List.setIfInBounds_toArray, List.set_cons_zero, List.set_cons_succ]
                refine wpAnyH_done (by kernel_rfl) ?_ _
                clear hS HLE HSB HON
                have HX9 := HSX
                have HK9 := HKS
                have HL0 : Hid (Lst ftR V9 (fun b => b ≠ V3.heap.size + 1) R4 d4 (g.types ++ [t])) := Lib.hid (own_more (R := ftR) HES0.out HEN0.out (fun b hb hlt => ⟨(HX9.out.1 b (by have := HZ3.out; omega)).trans (HBW.out b hlt), by have := HZ3.out; omega⟩) (ftR_at.2 ⟨B1, b1, B2, b2, rfl, HT1.out.keep fun b hb hlt => ⟨(HX9.out.1 b (by have := HZ3.out; omega)).trans (HBW.out b hlt), by have := HZ3.out; omega⟩, HT2.out.keep fun b hb hlt => ⟨(HX9.out.1 b (by have := HZ3.out; omega)).trans (HBW.out b hlt), by have := HZ3.out; omega⟩⟩) HRS.out rfl (fun b hb => by have := (rowLt HRS.out b hb).1; have := HVB.out.2.2; omega))
                clear HSX HKS HRS
                have m8 : V9.cell? ⟨w.heap.size, 8, none⟩ = some (.slice p.A8 g.els.length p.c8) := (blk_cell ((HX9.out.1 _ (by have := HZ3.out; omega)).trans HMV.out.1) 8).trans rfl
                have ma : (V9.alloc (.cells #[] 49)).cell? ⟨w.heap.size, 8, none⟩ = some (.slice p.A8 g.els.length p.c8) := by rw [World.cell?_of_block (((Below.refl _ _).alloc (Nat.le_refl _) _ : Below V9.heap.size V9 (V9.alloc (.cells #[] 49))).block w.heap.size (by have := HX9.out.2.1; have := HZ3.out; omega))]; exact m8
                have HSR8 : Hid (Src (V9.alloc (.cells #[] 49)) 3 p.A8 g.els.length p.c8 (cellsE es8)) := Lib.hid (by
                  have h := src_ents (HLE8.out (V9.alloc (.cells #[] 49)) fun b hb => (((Below.refl _ _).alloc (Nat.le_refl _) _ : Below V9.heap.size V9 (V9.alloc (.cells #[] 49))).block b (by have := HX9.out.2.1; have := HZ3.out; omega)).trans (HX9.out.1 b (by have := HZ3.out; omega)))
                  rwa [show es8.length = g.els.length from by rw [← HES8.out]; simp] at h)
                go_upto_region 11 with (at_builtin; first | (refine app_list tyEl rfl (.tmp 43) (.tmp 45) rfl (A := some ⟨V9.heap.size, 0, none⟩) (n := 0) (c := 0) rfl (own_empty (V9.alloc (.cells #[] 49)) V9.heap.size _ _ V9.heap.size (Nat.le_refl _) (heap_alloc_new V9 _)) (X := p.A8) (m := g.els.length) (cx := p.c8) rfl HSR8.out HON8.out (by have := HN7.out; omega) (by simp) ?_; intro R5 d5 Y8 ho hg hob; simp only [Nat.zero_add, List.nil_append] at ho hob ⊢; have HOY := Lib.hid ho; have HIY : Hid (Below V9.heap.size V9 Y8 ∧ V9.heap.size ≤ Y8.heap.size) := Lib.hid ⟨(((Below.refl _ _).alloc (Nat.le_refl _) _ : Below V9.heap.size V9 (V9.alloc (.cells #[] 49))).grown hg (by simp) (fun k hk => by have hk : some V9.heap.size = some k := hk; injection hk with hk; omega)), Nat.le_trans (by simp) hg.size⟩; have HIA : Hid (Below V9.heap.size V9 (Y8.alloc (.cells #[.int .i64 1, .slice none 0 0, .slice none 0 0] 49)) ∧ V9.heap.size ≤ (Y8.alloc (.cells #[.int .i64 1, .slice none 0 0, .slice none 0 0] 49)).heap.size) := Lib.hid ⟨HIY.out.1.trans (((Below.refl _ _).alloc (Nat.le_refl _) _).mono HIY.out.2), by have := HIY.out.2; simp; omega⟩; have HOA : Hid ((Y8.alloc (.cells #[.int .i64 1, .slice none 0 0, .slice none 0 0] 49)).ownsRow V9.heap.size 49 3 (.slice R5 g.els.length d5) g.els.length (cellsE es8)) := Lib.hid (rowSame HOY.out fun gb hgb => ((Below.refl _ _).alloc (Nat.le_refl _) _ : Below Y8.heap.size Y8 (Y8.alloc (.cells #[.int .i64 1, .slice none 0 0, .slice none 0 0] 49))).block gb (rowLt HOY.out gb hgb).2); clear ho hg hob) | (refine app_list tyEl rfl (.tmp 46) (.tmp 48) rfl (A := R5) (n := g.els.length) (c := d5) rfl HOA.out (X := some ⟨Y8.heap.size, 0, none⟩) (m := 1) (cx := 1) rfl (src_new Y8 #[.int .i64 1, .slice none 0 0, .slice none 0 0] 49 3 rfl) (by simp [Value.oneCell']) (by have := HN7.out; omega) HIA.out.2 ?_; intro R6 d6 Z8 ho hg hob; have HRZ := Lib.hid ho; have HIZ : Hid (Below V9.heap.size V9 Z8) := Lib.hid (HIA.out.1.grown hg HIA.out.2 (fun k hk => (rowLt HOA.out k hk).1)); have hk := (HIZ.out.block _ HX9.out.2.1).trans HK9.out; have nc : Z8.cell? ⟨V3.heap.size + 1, 8, none⟩ = some (.slice p.A8 g.els.length p.c8) := (blk_cell hk 8).trans rfl; have nz := blk_free hk 8; have HK10 := Lib.hid (blk_set hk 8 (.slice R6 (g.els.length + 1) d6)); clear ho hg hob hk))
                simp only [List.setIfInBounds_toArray, List.set_cons_zero, List.set_cons_succ] at HK10
                have HSY : Hid ((∀ b, b < V9.heap.size → b ≠ V3.heap.size + 1 → (Z8.setCell ⟨V3.heap.size + 1, 8, none⟩ (.slice R6 (g.els.length + 1) d6)).heap[b]? = V9.heap[b]?) ∧ V9.heap.size ≤ (Z8.setCell ⟨V3.heap.size + 1, 8, none⟩ (.slice R6 (g.els.length + 1) d6)).heap.size ∧ (Z8.setCell ⟨V3.heap.size + 1, 8, none⟩ (.slice R6 (g.els.length + 1) d6)).os = V9.os ∧ (Z8.setCell ⟨V3.heap.size + 1, 8, none⟩ (.slice R6 (g.els.length + 1) d6)).tape = V9.tape ∧ (Z8.setCell ⟨V3.heap.size + 1, 8, none⟩ (.slice R6 (g.els.length + 1) d6)).output = V9.output) := Lib.hid ⟨fun b hb hne => (far_set (fun e => hne e.symm) _).trans (HIZ.out.block b hb), by simpa using HIZ.out.size, HIZ.out.os, HIZ.out.tape, HIZ.out.output⟩
                have HX10 : Hid ((∀ b, b < V3.heap.size + 1 → (Z8.setCell ⟨V3.heap.size + 1, 8, none⟩ (.slice R6 (g.els.length + 1) d6)).heap[b]? = V.heap[b]?) ∧ V3.heap.size + 1 < (Z8.setCell ⟨V3.heap.size + 1, 8, none⟩ (.slice R6 (g.els.length + 1) d6)).heap.size ∧ (Z8.setCell ⟨V3.heap.size + 1, 8, none⟩ (.slice R6 (g.els.length + 1) d6)).os = V.os ∧ (Z8.setCell ⟨V3.heap.size + 1, 8, none⟩ (.slice R6 (g.els.length + 1) d6)).tape = V.tape ∧ (Z8.setCell ⟨V3.heap.size + 1, 8, none⟩ (.slice R6 (g.els.length + 1) d6)).output = V.output ∧ V.heap.size ≤ (Z8.setCell ⟨V3.heap.size + 1, 8, none⟩ (.slice R6 (g.els.length + 1) d6)).heap.size) := Lib.hid ⟨fun b hb => (HSY.out.1 b (by have := HX9.out.2.1; omega) (by omega)).trans (HX9.out.1 b hb), by have := HX9.out.2.1; have := HSY.out.2.1; omega, HSY.out.2.2.1.trans HX9.out.2.2.1, HSY.out.2.2.2.1.trans HX9.out.2.2.2.1, HSY.out.2.2.2.2.trans HX9.out.2.2.2.2.1, Nat.le_trans HX9.out.2.2.2.2.2 HSY.out.2.1⟩
                have HRF : Hid ((Z8.setCell ⟨V3.heap.size + 1, 8, none⟩ (.slice R6 (g.els.length + 1) d6)).ownsRow V9.heap.size 49 3 (.slice R6 (g.els.length + 1) d6) (g.els.length + 1) (cellsE es8 ++ [.int .i64 1, .slice none 0 0, .slice none 0 0])) := Lib.hid (rowSame HRZ.out fun b hb => far_set (by have := (rowLt HRZ.out b hb).1; have := HX9.out.2.1; show V3.heap.size + 1 ≠ b; omega) _)
                have HL8 : Hid (Lst elR (Z8.setCell ⟨V3.heap.size + 1, 8, none⟩ (.slice R6 (g.els.length + 1) d6)) (fun b => b ≠ V3.heap.size + 1) R6 d6 (g.els ++ [pasE])) := Lib.hid (own_more (R := elR) HES8.out HEN8.out (fun b hb hlt => ⟨(HX10.out.1 b (by have := HZ3.out; omega)).trans (HBW.out b hlt), by have := HZ3.out; omega⟩) (at_pasE _ _) HRF.out rfl (fun b hb => by have := (rowLt HRF.out b hb).1; have := HX9.out.2.1; omega))
                have HL0' : Hid (Lst ftR (Z8.setCell ⟨V3.heap.size + 1, 8, none⟩ (.slice R6 (g.els.length + 1) d6)) (fun b => b ≠ V3.heap.size + 1) R4 d4 (g.types ++ [t])) := Lib.hid (HL0.out.keep fun b hb hlt => ⟨HSY.out.1 b hlt hb, hb⟩)
                clear HL0
                have HL0 := HL0'
                clear HL0'
                clear HIZ HRZ HRF HSY HIY HIA HOA HOY nc nz m8 ma HSR8 HX9 HK9
                generalize (Z8.setCell ⟨V3.heap.size + 1, 8, none⟩ (.slice R6 (g.els.length + 1) d6)) = V10 at *
                have m10 : V10.cell? ⟨w.heap.size, 10, none⟩ = some (.slice p.A10 g.dats.length p.c10) := (blk_cell ((HX10.out.1 _ (by have := HZ3.out; omega)).trans HMV.out.1) 10).trans rfl
                have ma : (V10.alloc (.cells #[] 52)).cell? ⟨w.heap.size, 10, none⟩ = some (.slice p.A10 g.dats.length p.c10) := by rw [World.cell?_of_block (((Below.refl _ _).alloc (Nat.le_refl _) _ : Below V10.heap.size V10 (V10.alloc (.cells #[] 52))).block w.heap.size (by have := HX10.out.2.1; have := HZ3.out; omega))]; exact m10
                have HSR10 : Hid (Src (V10.alloc (.cells #[] 52)) 3 p.A10 g.dats.length p.c10 (cellsE es10)) := Lib.hid (by
                  have h := src_ents (HLE10.out (V10.alloc (.cells #[] 52)) fun b hb => (((Below.refl _ _).alloc (Nat.le_refl _) _ : Below V10.heap.size V10 (V10.alloc (.cells #[] 52))).block b (by have := HX10.out.2.1; have := HZ3.out; omega)).trans (HX10.out.1 b (by have := HZ3.out; omega)))
                  rwa [show es10.length = g.dats.length from by rw [← HES10.out]; simp] at h)
                go_upto_region 12 with (at_builtin; first | (refine app_list tyDa rfl (.tmp 51) (.tmp 53) rfl (A := some ⟨V10.heap.size, 0, none⟩) (n := 0) (c := 0) rfl (own_empty (V10.alloc (.cells #[] 52)) V10.heap.size _ _ V10.heap.size (Nat.le_refl _) (heap_alloc_new V10 _)) (X := p.A10) (m := g.dats.length) (cx := p.c10) rfl HSR10.out HON10.out (by have := HN7.out; omega) (by simp) ?_; intro R5 d5 Y10 ho hg hob; simp only [Nat.zero_add, List.nil_append] at ho hob ⊢; have HOY := Lib.hid ho; have HIY : Hid (Below V10.heap.size V10 Y10 ∧ V10.heap.size ≤ Y10.heap.size) := Lib.hid ⟨(((Below.refl _ _).alloc (Nat.le_refl _) _ : Below V10.heap.size V10 (V10.alloc (.cells #[] 52))).grown hg (by simp) (fun k hk => by have hk : some V10.heap.size = some k := hk; injection hk with hk; omega)), Nat.le_trans (by simp) hg.size⟩; have HIA : Hid (Below V10.heap.size V10 (Y10.alloc (.cells #[.int .i64 1, .slice none 0 0, .slice none 0 0] 52)) ∧ V10.heap.size ≤ (Y10.alloc (.cells #[.int .i64 1, .slice none 0 0, .slice none 0 0] 52)).heap.size) := Lib.hid ⟨HIY.out.1.trans (((Below.refl _ _).alloc (Nat.le_refl _) _).mono HIY.out.2), by have := HIY.out.2; simp; omega⟩; have HOA : Hid ((Y10.alloc (.cells #[.int .i64 1, .slice none 0 0, .slice none 0 0] 52)).ownsRow V10.heap.size 52 3 (.slice R5 g.dats.length d5) g.dats.length (cellsE es10)) := Lib.hid (rowSame HOY.out fun gb hgb => ((Below.refl _ _).alloc (Nat.le_refl _) _ : Below Y10.heap.size Y10 (Y10.alloc (.cells #[.int .i64 1, .slice none 0 0, .slice none 0 0] 52))).block gb (rowLt HOY.out gb hgb).2); clear ho hg hob) | (refine app_list tyDa rfl (.tmp 54) (.tmp 56) rfl (A := R5) (n := g.dats.length) (c := d5) rfl HOA.out (X := some ⟨Y10.heap.size, 0, none⟩) (m := 1) (cx := 1) rfl (src_new Y10 #[.int .i64 1, .slice none 0 0, .slice none 0 0] 52 3 rfl) (by simp [Value.oneCell']) (by have := HN7.out; omega) HIA.out.2 ?_; intro R7 d7 Z10 ho hg hob; have HRZ := Lib.hid ho; have HIZ : Hid (Below V10.heap.size V10 Z10) := Lib.hid (HIA.out.1.grown hg HIA.out.2 (fun k hk => (rowLt HOA.out k hk).1)); have hk := (HIZ.out.block _ HX10.out.2.1).trans HK10.out; have nc : Z10.cell? ⟨V3.heap.size + 1, 10, none⟩ = some (.slice p.A10 g.dats.length p.c10) := (blk_cell hk 10).trans rfl; have nz := blk_free hk 10; have HK11 := Lib.hid (blk_set hk 10 (.slice R7 (g.dats.length + 1) d7)); clear ho hg hob hk))
                simp only [List.setIfInBounds_toArray, List.set_cons_zero, List.set_cons_succ] at HK11
                have HSY : Hid ((∀ b, b < V10.heap.size → b ≠ V3.heap.size + 1 → (Z10.setCell ⟨V3.heap.size + 1, 10, none⟩ (.slice R7 (g.dats.length + 1) d7)).heap[b]? = V10.heap[b]?) ∧ V10.heap.size ≤ (Z10.setCell ⟨V3.heap.size + 1, 10, none⟩ (.slice R7 (g.dats.length + 1) d7)).heap.size ∧ (Z10.setCell ⟨V3.heap.size + 1, 10, none⟩ (.slice R7 (g.dats.length + 1) d7)).os = V10.os ∧ (Z10.setCell ⟨V3.heap.size + 1, 10, none⟩ (.slice R7 (g.dats.length + 1) d7)).tape = V10.tape ∧ (Z10.setCell ⟨V3.heap.size + 1, 10, none⟩ (.slice R7 (g.dats.length + 1) d7)).output = V10.output) := Lib.hid ⟨fun b hb hne => (far_set (fun e => hne e.symm) _).trans (HIZ.out.block b hb), by simpa using HIZ.out.size, HIZ.out.os, HIZ.out.tape, HIZ.out.output⟩
                have HX11 : Hid ((∀ b, b < V3.heap.size + 1 → (Z10.setCell ⟨V3.heap.size + 1, 10, none⟩ (.slice R7 (g.dats.length + 1) d7)).heap[b]? = V.heap[b]?) ∧ V3.heap.size + 1 < (Z10.setCell ⟨V3.heap.size + 1, 10, none⟩ (.slice R7 (g.dats.length + 1) d7)).heap.size ∧ (Z10.setCell ⟨V3.heap.size + 1, 10, none⟩ (.slice R7 (g.dats.length + 1) d7)).os = V.os ∧ (Z10.setCell ⟨V3.heap.size + 1, 10, none⟩ (.slice R7 (g.dats.length + 1) d7)).tape = V.tape ∧ (Z10.setCell ⟨V3.heap.size + 1, 10, none⟩ (.slice R7 (g.dats.length + 1) d7)).output = V.output ∧ V.heap.size ≤ (Z10.setCell ⟨V3.heap.size + 1, 10, none⟩ (.slice R7 (g.dats.length + 1) d7)).heap.size) := Lib.hid ⟨fun b hb => (HSY.out.1 b (by have := HX10.out.2.1; omega) (by omega)).trans (HX10.out.1 b hb), by have := HX10.out.2.1; have := HSY.out.2.1; omega, HSY.out.2.2.1.trans HX10.out.2.2.1, HSY.out.2.2.2.1.trans HX10.out.2.2.2.1, HSY.out.2.2.2.2.trans HX10.out.2.2.2.2.1, Nat.le_trans HX10.out.2.2.2.2.2 HSY.out.2.1⟩
                have HRF : Hid ((Z10.setCell ⟨V3.heap.size + 1, 10, none⟩ (.slice R7 (g.dats.length + 1) d7)).ownsRow V10.heap.size 52 3 (.slice R7 (g.dats.length + 1) d7) (g.dats.length + 1) (cellsE es10 ++ [.int .i64 1, .slice none 0 0, .slice none 0 0])) := Lib.hid (rowSame HRZ.out fun b hb => far_set (by have := (rowLt HRZ.out b hb).1; have := HX10.out.2.1; show V3.heap.size + 1 ≠ b; omega) _)
                have HL10 : Hid (Lst datR (Z10.setCell ⟨V3.heap.size + 1, 10, none⟩ (.slice R7 (g.dats.length + 1) d7)) (fun b => b ≠ V3.heap.size + 1) R7 d7 (g.dats ++ [pasD])) := Lib.hid (own_more (R := datR) HES10.out HEN10.out (fun b hb hlt => ⟨(HX11.out.1 b (by have := HZ3.out; omega)).trans (HBW.out b hlt), by have := HZ3.out; omega⟩) (at_pasD _ _) HRF.out rfl (fun b hb => by have := (rowLt HRF.out b hb).1; have := HX10.out.2.1; omega))
                have HL0' : Hid (Lst ftR (Z10.setCell ⟨V3.heap.size + 1, 10, none⟩ (.slice R7 (g.dats.length + 1) d7)) (fun b => b ≠ V3.heap.size + 1) R4 d4 (g.types ++ [t])) := Lib.hid (HL0.out.keep fun b hb hlt => ⟨HSY.out.1 b hlt hb, hb⟩)
                clear HL0
                have HL0 := HL0'
                clear HL0'
                have HL8' : Hid (Lst elR (Z10.setCell ⟨V3.heap.size + 1, 10, none⟩ (.slice R7 (g.dats.length + 1) d7)) (fun b => b ≠ V3.heap.size + 1) R6 d6 (g.els ++ [pasE])) := Lib.hid (HL8.out.keep fun b hb hlt => ⟨HSY.out.1 b hlt hb, hb⟩)
                clear HL8
                have HL8 := HL8'
                clear HL8'
                clear HIZ HRZ HRF HSY HIY HIA HOA HOY nc nz m10 ma HSR10 HX10 HK10
                generalize (Z10.setCell ⟨V3.heap.size + 1, 10, none⟩ (.slice R7 (g.dats.length + 1) d7)) = V11 at *
                have HMD : Hid (MdL V11 (fun b => b ≠ V3.heap.size + 1) (fun b => b ≠ V3.heap.size + 1) ({ p with A0 := R4, c0 := d4, A8 := R6, c8 := d6, A10 := R7, c10 := d7 } : Pls) (moreG g t)) := Lib.hid (by
                  have h := HL.out.keep (w' := V11) (ok' := fun b => b ≠ V3.heap.size + 1) (okF' := fun b => b ≠ V3.heap.size + 1) (fun b _ hlt => ⟨(HX11.out.1 b (by have := HZ3.out; omega)).trans (HBW.out b hlt), by have := HZ3.out; omega⟩) (fun b _ hlt => ⟨(HX11.out.1 b (by have := HZ3.out; omega)).trans (HBW.out b hlt), by have := HZ3.out; omega⟩)
                  exact ⟨HL0.out, h.l1, h.l2, h.l3, h.l4, h.l5, h.l6, h.l7, HL8.out, h.l9, HL10.out, h.l11⟩)
                have HON2 : Hid (Calls Try.prog 7 #[.agg #[.slice R4 (g.types.length + 1) d4, .slice p.A1 g.imps.length p.c1, .slice p.A2 g.funcs.length p.c2, .slice p.A3 g.tabs.length p.c3, .slice p.A4 g.mems.length p.c4, .slice p.A5 g.globs.length p.c5, .slice p.A6 g.expos.length p.c6, .slice p.A7 g.starts.length p.c7, .slice R6 (g.els.length + 1) d6, .slice p.A9 g.counts.length p.c9, .slice R7 (g.dats.length + 1) d7, .slice p.A11 g.cuss.length p.c11]] V11 (OfIs V11 (moreG g t))) := Lib.hid (by
                  have h := of_any (moreG g t) ({ p with A0 := R4, c0 := d4, A8 := R6, c8 := d6, A10 := R7, c10 := d7 } : Pls) V11 HMD.out HSMM.out
                  rw [show (moreG g t).types.length = g.types.length + 1 from by simp [moreG], show (moreG g t).els.length = g.els.length + 1 from by simp [moreG], show (moreG g t).dats.length = g.dats.length + 1 from by simp [moreG]] at h
                  exact h)
                unfold OfIs at HON2
                rw [HMO.out.1, HMO.out.2] at HON2
                have n0 : V11.cell? ⟨V3.heap.size + 1, 0, none⟩ = some (.slice R4 (g.types.length + 1) d4) := (blk_cell HK11.out 0).trans rfl
                have n1 : V11.cell? ⟨V3.heap.size + 1, 1, none⟩ = some (.slice p.A1 g.imps.length p.c1) := (blk_cell HK11.out 1).trans rfl
                have n2 : V11.cell? ⟨V3.heap.size + 1, 2, none⟩ = some (.slice p.A2 g.funcs.length p.c2) := (blk_cell HK11.out 2).trans rfl
                have n3 : V11.cell? ⟨V3.heap.size + 1, 3, none⟩ = some (.slice p.A3 g.tabs.length p.c3) := (blk_cell HK11.out 3).trans rfl
                have n4 : V11.cell? ⟨V3.heap.size + 1, 4, none⟩ = some (.slice p.A4 g.mems.length p.c4) := (blk_cell HK11.out 4).trans rfl
                have n5 : V11.cell? ⟨V3.heap.size + 1, 5, none⟩ = some (.slice p.A5 g.globs.length p.c5) := (blk_cell HK11.out 5).trans rfl
                have n6 : V11.cell? ⟨V3.heap.size + 1, 6, none⟩ = some (.slice p.A6 g.expos.length p.c6) := (blk_cell HK11.out 6).trans rfl
                have n7 : V11.cell? ⟨V3.heap.size + 1, 7, none⟩ = some (.slice p.A7 g.starts.length p.c7) := (blk_cell HK11.out 7).trans rfl
                have n8 : V11.cell? ⟨V3.heap.size + 1, 8, none⟩ = some (.slice R6 (g.els.length + 1) d6) := (blk_cell HK11.out 8).trans rfl
                have n9 : V11.cell? ⟨V3.heap.size + 1, 9, none⟩ = some (.slice p.A9 g.counts.length p.c9) := (blk_cell HK11.out 9).trans rfl
                have n10 : V11.cell? ⟨V3.heap.size + 1, 10, none⟩ = some (.slice R7 (g.dats.length + 1) d7) := (blk_cell HK11.out 10).trans rfl
                have n11 : V11.cell? ⟨V3.heap.size + 1, 11, none⟩ = some (.slice p.A11 g.cuss.length p.c11) := (blk_cell HK11.out 11).trans rfl
                clear HMD HL0 HL8 HL10
                generalize gather g = c at *
                go_wp2_with fail
                refine HON2.out.mono ?_
                rintro en V12 ⟨r, rfl, hc, hb⟩
                simp only [Plc.vals, setT, List.length_append, List.length_cons, List.length_nil]
                have HB12 := Lib.hid hb
                have HC12 : Hid (CtxL V12 (fun b => V11.heap.size ≤ b) r (setT c (c.types ++ [t]) (c.els + 1) (c.dats + 1))) := Lib.hid hc
                clear hb hc HON2 n0 n1 n2 n3 n4 n5 n6 n7 n8 n9 n10 n11
                have HLC : Hid (∀ b, b < V3.heap.size + 1 → V12.heap[b]? = V.heap[b]?) := Lib.hid fun b hb => (HB12.out.block b (by have := HX11.out.2.1; omega)).trans (HX11.out.1 b hb)
                have HZW : Hid (V3.heap.size + 1 < V12.heap.size) := Lib.hid (by have := HB12.out.size; have := HX11.out.2.1; omega)
                have HWW0 : Hid (Below w.heap.size w V12) := Lib.hid (HVB.out.1.trans ⟨HB12.out.os.trans HX11.out.2.2.1, HB12.out.tape.trans HX11.out.2.2.2.1, HB12.out.output.trans HX11.out.2.2.2.2.1, Nat.le_trans HX11.out.2.2.2.2.2 HB12.out.size, fun b hb => HLC.out b (by have := HZ3.out; omega)⟩)
                have hdd : Below V12.heap.size V12 (V12.alloc (.cells #[.slice r.A0 (c.types.length + 1) r.d0, .slice r.A1 c.funcs.length r.d1, .slice r.A2 c.globs.length r.d2, .slice r.A3 c.tabs.length r.d3, .slice r.A4 c.mems.length r.d4, .int .i64 c.hosts, .int .i64 c.vars, .int .i64 (c.els + 1), .int .i64 (c.dats + 1), .bool c.counted] 38)) := (Below.refl _ _).alloc (Nat.le_refl _) _
                have HD : Hid ((V12.alloc (.cells #[.slice r.A0 (c.types.length + 1) r.d0, .slice r.A1 c.funcs.length r.d1, .slice r.A2 c.globs.length r.d2, .slice r.A3 c.tabs.length r.d3, .slice r.A4 c.mems.length r.d4, .int .i64 c.hosts, .int .i64 c.vars, .int .i64 (c.els + 1), .int .i64 (c.dats + 1), .bool c.counted] 38)).heap[V12.heap.size]? = some (.cells #[.slice r.A0 (c.types.length + 1) r.d0, .slice r.A1 c.funcs.length r.d1, .slice r.A2 c.globs.length r.d2, .slice r.A3 c.tabs.length r.d3, .slice r.A4 c.mems.length r.d4, .int .i64 c.hosts, .int .i64 c.vars, .int .i64 (c.els + 1), .int .i64 (c.dats + 1), .bool c.counted] 38 (0, 0)) ∧ Below V12.heap.size V12 (V12.alloc (.cells #[.slice r.A0 (c.types.length + 1) r.d0, .slice r.A1 c.funcs.length r.d1, .slice r.A2 c.globs.length r.d2, .slice r.A3 c.tabs.length r.d3, .slice r.A4 c.mems.length r.d4, .int .i64 c.hosts, .int .i64 c.vars, .int .i64 (c.els + 1), .int .i64 (c.dats + 1), .bool c.counted] 38))) := Lib.hid ⟨heap_alloc_new V12 _, hdd⟩
                have HSB : Hid (∀ u, Below V12.heap.size V12 u → SC V3.heap.size q c u) := Lib.hid fun u hu => by
                  have h0 := ((hu.block V3.heap.size (by have := HZW.out; omega)).trans (HLC.out _ (by omega))).trans HMV.out.2.2.1
                  refine ⟨?_, ?_, ?_⟩ <;> rw [blk_cell h0] <;> rfl
                have HCC2 : Hid (∀ u, Below V12.heap.size V12 u → BoxC V3.heap.size u q c) := Lib.hid fun u hu => by
                  have h0 := ((hu.block V3.heap.size (by have := HZW.out; omega)).trans (HLC.out _ (by omega))).trans HMV.out.2.2.1
                  refine ⟨?_, ?_, ?_, ?_, ?_, ?_, ?_, ?_, ?_, ?_⟩ <;> rw [blk_cell h0] <;> rfl
                have HCC : Hid (∀ u, Below V12.heap.size V12 u → CtxL u (fun _ => True) q c ∧ CtxL u (fun _ => True) r c) := Lib.hid fun u hu => by
                  refine ⟨HC3.out.keep fun b _ hlt => ⟨((hu.block b (by have := HZW.out; omega)).trans (HLC.out b (by omega))).trans (HMV.out.2.2.2.block b hlt), trivial⟩, ?_⟩
                  have h := HC12.out.keep (w' := u) (ok' := fun _ => True) fun b _ hlt => ⟨hu.block b hlt, trivial⟩
                  exact ⟨lst_front h.l0, h.l1, h.l2, h.l3, h.l4⟩
                have HWW : Hid (∀ u, Below V12.heap.size V12 u → Below w.heap.size w u) := Lib.hid fun u hu => HWW0.out.trans (hu.mono (by have := HZW.out; have := HZ3.out; omega))
                have hrm : c.types.length + 1 ≤ r.d0 := by have h := HC12.out.l0.room; simpa [setT] using h
                have HSL : Hid (∀ W, (Instr.slice 22 (.slice r.A0 (c.types.length + 1) r.d0) none (some (.int .i64 (c.types.length : Int))) none).run Try.prog W = .ok (.slice r.A0 c.types.length r.d0) W) := Lib.hid (types_hi r.A0 (c.types.length + 1) r.d0 c.types.length hrm (by omega))
                have w1 : wrap64 ((c.types.length : Int) + 1) = (c.types.length : Int) + 1 := wrap64_fit (by omega) (by have := HFT.out.2.1; omega)
                have w2 : wrap64 (c.els + 1) = c.els + 1 := wrap64_fit (by have := HED.out; omega) (by have := HED.out; omega)
                have w3 : wrap64 (c.dats + 1) = c.dats + 1 := wrap64_fit (by have := HED.out; omega) (by have := HED.out; omega)
                have HW1 := Lib.hid w1
                have HW2 := Lib.hid w2
                have HW3 := Lib.hid w3
                clear hdd hrm w1 w2 w3 HX11 HK11 HB12 HMO HED HLE8 HLE10 HES0 HES8 HES10 HEN0 HEN8 HEN10 HON8 HON10 HT1 HT2 HL HV3 HC3 HC12 HMV HBW HN7 HVB HSMM HLC
                obtain ⟨c0, c7, c8⟩ := HSB.out (V12.alloc (.cells #[.slice r.A0 (c.types.length + 1) r.d0, .slice r.A1 c.funcs.length r.d1, .slice r.A2 c.globs.length r.d2, .slice r.A3 c.tabs.length r.d3, .slice r.A4 c.mems.length r.d4, .int .i64 c.hosts, .int .i64 c.vars, .int .i64 (c.els + 1), .int .i64 (c.dats + 1), .bool c.counted] 38)) HD.out.2
                go_upto_region 13 with fail
                have w1 := HW1.out
                have w2 := HW2.out
                have w3 := HW3.out
                have e0 : (V12.alloc (.cells #[.slice r.A0 (c.types.length + 1) r.d0, .slice r.A1 c.funcs.length r.d1, .slice r.A2 c.globs.length r.d2, .slice r.A3 c.tabs.length r.d3, .slice r.A4 c.mems.length r.d4, .int .i64 c.hosts, .int .i64 c.vars, .int .i64 (c.els + 1), .int .i64 (c.dats + 1), .bool c.counted] 38)).cell? ⟨V12.heap.size, 0, none⟩ = some (.slice r.A0 (c.types.length + 1) r.d0) := (blk_cell HD.out.1 0).trans rfl
                have e7 : (V12.alloc (.cells #[.slice r.A0 (c.types.length + 1) r.d0, .slice r.A1 c.funcs.length r.d1, .slice r.A2 c.globs.length r.d2, .slice r.A3 c.tabs.length r.d3, .slice r.A4 c.mems.length r.d4, .int .i64 c.hosts, .int .i64 c.vars, .int .i64 (c.els + 1), .int .i64 (c.dats + 1), .bool c.counted] 38)).cell? ⟨V12.heap.size, 7, none⟩ = some (.int .i64 (c.els + 1)) := (blk_cell HD.out.1 7).trans rfl
                have e8 : (V12.alloc (.cells #[.slice r.A0 (c.types.length + 1) r.d0, .slice r.A1 c.funcs.length r.d1, .slice r.A2 c.globs.length r.d2, .slice r.A3 c.tabs.length r.d3, .slice r.A4 c.mems.length r.d4, .int .i64 c.hosts, .int .i64 c.vars, .int .i64 (c.els + 1), .int .i64 (c.dats + 1), .bool c.counted] 38)).cell? ⟨V12.heap.size, 8, none⟩ = some (.int .i64 (c.dats + 1)) := (blk_cell HD.out.1 8).trans rfl
                generalize (V12.alloc (.cells #[.slice r.A0 (c.types.length + 1) r.d0, .slice r.A1 c.funcs.length r.d1, .slice r.A2 c.globs.length r.d2, .slice r.A3 c.tabs.length r.d3, .slice r.A4 c.mems.length r.d4, .int .i64 c.hosts, .int .i64 c.vars, .int .i64 (c.els + 1), .int .i64 (c.dats + 1), .bool c.counted] 38)) = U0 at *
                go_upto_region 15 with fail
                clear w1 w2 w3 e0 e7 e8 c0 c7 c8
                have HDW : Hid (U0.drew.heap[V12.heap.size]? = some (.cells #[.slice r.A0 (c.types.length + 1) r.d0, .slice r.A1 c.funcs.length r.d1, .slice r.A2 c.globs.length r.d2, .slice r.A3 c.tabs.length r.d3, .slice r.A4 c.mems.length r.d4, .int .i64 c.hosts, .int .i64 c.vars, .int .i64 (c.els + 1), .int .i64 (c.dats + 1), .bool c.counted] 38 (0, 0)) ∧ Below V12.heap.size V12 U0.drew) := Lib.hid ⟨HD.out.1, HD.out.2.drew⟩
                clear HD
                have hS0 := HSB.out _ HDW.out.2
                refine wp_region_held_drew (S := SC V3.heap.size q c) (by kernel_rfl) hS0 (fun hS => ?_)
                clear hS0
                generalize U0.drew = U at *
                have HD := HDW
                clear HDW
                refine wpAnyH_take (i := 0) (oi := { dst := some 92, op := .fieldAddr 38 (.tmp 8) 0, type := 0, pos := "law.go:134", after := #[], guard := none }) (v := ?_) rfl (by kernel_rfl) (by kernel_rfl) (by kernel_rfl) (fun _ _ _ h => h) (Or.inl ⟨by rfl, ?_⟩) hS ?_
                rotate_left
                · (intro w' hS'; obtain ⟨s0, s1, s2⟩ := hS'; go_simp) <;> with_reducible rfl
                try simp only [Act.put, List.setIfInBounds_toArray, List.set_cons_zero, List.set_cons_succ]
                refine wpAnyH_take (i := 2) (oi := { dst := some 94, op := .fieldAddr 38 (.tmp 5) 0, type := 0, pos := "law.go:134", after := #[], guard := none }) (v := ?_) rfl (by kernel_rfl) (by kernel_rfl) (by kernel_rfl) (fun _ _ _ h => h) (Or.inl ⟨by rfl, ?_⟩) hS ?_
                rotate_left
                · (intro w' hS'; obtain ⟨s0, s1, s2⟩ := hS'; go_simp) <;> with_reducible rfl
                try simp only [Act.put, List.setIfInBounds_toArray, List.set_cons_zero, List.set_cons_succ]
                refine wpAnyH_take (i := 3) (oi := { dst := some 95, op := .load 22 (.tmp 94), type := 22, pos := "law.go:134", after := #[{ on := 2, ground := .data }], guard := none }) (v := ?_) rfl (by kernel_rfl) (by kernel_rfl) (by kernel_rfl) (fun _ _ _ h => h) (Or.inl ⟨by rfl, ?_⟩) hS ?_
                rotate_left
                · (intro w' hS'; obtain ⟨s0, s1, s2⟩ := hS'; go_simp) <;> with_reducible rfl
                try simp only [Act.put, List.setIfInBounds_toArray, List.set_cons_zero, List.set_cons_succ]
                refine wpAnyH_take (i := 4) (oi := { dst := some 96, op := .call { callee := .builtin .len, args := #[.tmp 95], argTypes := #[22] }, type := 3, pos := "law.go:134", after := #[{ on := 3, ground := .data }], guard := none }) (v := ?_) rfl (by kernel_rfl) (by kernel_rfl) (by kernel_rfl) (fun _ _ _ h => h) (Or.inl ⟨by rfl, ?_⟩) hS ?_
                rotate_left
                · (intro w' hS'; obtain ⟨s0, s1, s2⟩ := hS'; go_simp) <;> with_reducible rfl
                try simp only [Act.put, List.setIfInBounds_toArray, List.set_cons_zero, List.set_cons_succ]
                refine wpAnyH_take (i := 6) (oi := { dst := some 98, op := .fieldAddr 38 (.tmp 5) 7, type := 0, pos := "law.go:134", after := #[{ on := 11, ground := .gcOnly .lateStores }], guard := none }) (v := ?_) rfl (by kernel_rfl) (by kernel_rfl) (by kernel_rfl) (fun _ _ _ h => h) (Or.inl ⟨by rfl, ?_⟩) hS ?_
                rotate_left
                · (intro w' hS'; obtain ⟨s0, s1, s2⟩ := hS'; go_simp) <;> with_reducible rfl
                try simp only [Act.put, List.setIfInBounds_toArray, List.set_cons_zero, List.set_cons_succ]
                refine wpAnyH_take (i := 7) (oi := { dst := some 99, op := .load 3 (.tmp 98), type := 3, pos := "law.go:134", after := #[{ on := 6, ground := .data }, { on := 11, ground := .gcOnly .lateStores }], guard := none }) (v := ?_) rfl (by kernel_rfl) (by kernel_rfl) (by kernel_rfl) (fun _ _ _ h => h) (Or.inl ⟨by rfl, ?_⟩) hS ?_
                rotate_left
                · (intro w' hS'; obtain ⟨s0, s1, s2⟩ := hS'; go_simp) <;> with_reducible rfl
                try simp only [Act.put, List.setIfInBounds_toArray, List.set_cons_zero, List.set_cons_succ]
                refine wpAnyH_take (i := 8) (oi := { dst := some 100, op := .fieldAddr 38 (.tmp 5) 8, type := 0, pos := "law.go:134", after := #[{ on := 13, ground := .gcOnly .lateStores }], guard := none }) (v := ?_) rfl (by kernel_rfl) (by kernel_rfl) (by kernel_rfl) (fun _ _ _ h => h) (Or.inl ⟨by rfl, ?_⟩) hS ?_
                rotate_left
                · (intro w' hS'; obtain ⟨s0, s1, s2⟩ := hS'; go_simp) <;> with_reducible rfl
                try simp only [Act.put, List.setIfInBounds_toArray, List.set_cons_zero, List.set_cons_succ]
                refine wpAnyH_take (i := 9) (oi := { dst := some 101, op := .load 3 (.tmp 100), type := 3, pos := "law.go:134", after := #[{ on := 8, ground := .data }, { on := 13, ground := .gcOnly .lateStores }], guard := none }) (v := ?_) rfl (by kernel_rfl) (by kernel_rfl) (by kernel_rfl) (fun _ _ _ h => h) (Or.inl ⟨by rfl, ?_⟩) hS ?_
                rotate_left
                · (intro w' hS'; obtain ⟨s0, s1, s2⟩ := hS'; go_simp) <;> with_reducible rfl
                try simp only [Act.put, List.setIfInBounds_toArray, List.set_cons_zero, List.set_cons_succ]
                refine wpAnyH_ready (rs := [1]) (by kernel_rfl) (by simp) ?_
                refine AllReadyH.cons (o := { dst := some 93, op := .load 22 (.tmp 92), type := 22, pos := "law.go:134", after := #[{ on := 0, ground := .data }], guard := none }) rfl (fun K' hK => ?_) (AllReadyH.nil)
                · have n0 : U.cell? ⟨V12.heap.size, 0, none⟩ = some (.slice r.A0 (c.types.length + 1) r.d0) := (blk_cell HD.out.1 0).trans rfl
                  go_simp
                  refine hK.out _ _ (HSB.out _ HD.out.2) (fun hS => ?_)
                  clear hK K' n0
                  try simp only [Act.put, List.setIfInBounds_toArray, List.set_cons_zero, List.set_cons_succ]
                  refine wpAnyH_ready (rs := [5]) (by kernel_rfl) (by simp) ?_
                  refine AllReadyH.cons (o := { dst := some 97, op := .slice 22 (.tmp 93) none (some (.tmp 96)) none, type := 22, pos := "law.go:134", after := #[{ on := 1, ground := .data }, { on := 4, ground := .data }], guard := none }) rfl (fun K' hK => ?_) (AllReadyH.nil)
                  · have hsl := HSL.out U
                    go_simp
                    refine hK.out _ _ (HSB.out _ HD.out.2) (fun hS => ?_)
                    clear hK K' hsl
                    try simp only [Act.put, List.setIfInBounds_toArray, List.set_cons_zero, List.set_cons_succ]
                    refine wpAnyH_take (i := 10) (oi := { dst := some 102, op := .fieldAddr 38 (.tmp 8) 0, type := 0, pos := "law.go:134", after := #[{ on := 0, ground := .phase }, { on := 1, ground := .phase }, { on := 2, ground := .phase }, { on := 3, ground := .phase }, { on := 4, ground := .phase }, { on := 5, ground := .phase }, { on := 6, ground := .textOnly .lateStores }, { on := 7, ground := .textOnly .lateStores }, { on := 8, ground := .textOnly .lateStores }, { on := 9, ground := .textOnly .lateStores }], guard := none }) (v := ?_) rfl (by kernel_rfl) (by kernel_rfl) (by kernel_rfl) (fun _ _ _ h => h) (Or.inl ⟨by rfl, ?_⟩) hS ?_
                    rotate_left
                    · (intro w' hS'; obtain ⟨s0, s1, s2⟩ := hS'; go_simp) <;> with_reducible rfl
                    try simp only [Act.put, List.setIfInBounds_toArray, List.set_cons_zero, List.set_cons_succ]
                    refine wpAnyH_ready (rs := [11]) (by kernel_rfl) (by simp) ?_
                    refine AllReadyH.cons (o := { dst := none, op := .store 22 (.tmp 102) (.tmp 97), type := 0, pos := "law.go:134", after := #[{ on := 10, ground := .data }, { on := 5, ground := .data }, { on := 0, ground := .phase }, { on := 1, ground := .phase }, { on := 2, ground := .phase }, { on := 3, ground := .phase }, { on := 4, ground := .phase }, { on := 5, ground := .phase }, { on := 6, ground := .textOnly .lateStores }, { on := 7, ground := .textOnly .lateStores }, { on := 8, ground := .textOnly .lateStores }, { on := 9, ground := .textOnly .lateStores }], guard := none }) rfl (fun K' hK => ?_) (AllReadyH.nil)
                    · have n0 : U.cell? ⟨V12.heap.size, 0, none⟩ = some (.slice r.A0 (c.types.length + 1) r.d0) := (blk_cell HD.out.1 0).trans rfl
                      have nz := blk_free HD.out.1 0
                      have hk := blk_set HD.out.1 0 (.slice r.A0 c.types.length r.d0)
                      simp only [List.setIfInBounds_toArray, List.set_cons_zero] at hk
                      have HD2 : Hid ((U.setCell ⟨V12.heap.size, 0, none⟩ (.slice r.A0 c.types.length r.d0)).heap[V12.heap.size]? = some (.cells #[.slice r.A0 c.types.length r.d0, .slice r.A1 c.funcs.length r.d1, .slice r.A2 c.globs.length r.d2, .slice r.A3 c.tabs.length r.d3, .slice r.A4 c.mems.length r.d4, .int .i64 c.hosts, .int .i64 c.vars, .int .i64 (c.els + 1), .int .i64 (c.dats + 1), .bool c.counted] 38 (0, 0)) ∧ Below V12.heap.size V12 (U.setCell ⟨V12.heap.size, 0, none⟩ (.slice r.A0 c.types.length r.d0))) := Lib.hid ⟨hk, HD.out.2.trans ⟨rfl, rfl, rfl, by simp, fun b hb => far_set (show V12.heap.size ≠ b by omega) _⟩⟩
                      clear HD hk
                      have HD := HD2
                      clear HD2
                      go_simp
                      refine hK.out _ _ (HSB.out _ HD.out.2) (fun hS => ?_)
                      clear hK K' n0 nz
                      generalize (U.setCell ⟨V12.heap.size, 0, none⟩ (.slice r.A0 c.types.length r.d0)) = U3 at *
                      try simp only [Act.put, List.setIfInBounds_toArray, List.set_cons_zero, List.set_cons_succ]
                      refine wpAnyH_take (i := 12) (oi := { dst := some 103, op := .fieldAddr 38 (.tmp 8) 7, type := 0, pos := "law.go:134", after := #[{ on := 0, ground := .phase }, { on := 1, ground := .phase }, { on := 2, ground := .phase }, { on := 3, ground := .phase }, { on := 4, ground := .phase }, { on := 5, ground := .phase }, { on := 6, ground := .phase }, { on := 7, ground := .phase }, { on := 8, ground := .textOnly .lateStores }, { on := 9, ground := .textOnly .lateStores }, { on := 10, ground := .phase }, { on := 11, ground := .phase }], guard := none }) (v := ?_) rfl (by kernel_rfl) (by kernel_rfl) (by kernel_rfl) (fun _ _ _ h => h) (Or.inl ⟨by rfl, ?_⟩) hS ?_
                      rotate_left
                      · (intro w' hS'; obtain ⟨s0, s1, s2⟩ := hS'; go_simp) <;> with_reducible rfl
                      try simp only [Act.put, List.setIfInBounds_toArray, List.set_cons_zero, List.set_cons_succ]
                      refine wpAnyH_ready (rs := [13]) (by kernel_rfl) (by simp) ?_
                      refine AllReadyH.cons (o := { dst := none, op := .store 3 (.tmp 103) (.tmp 99), type := 0, pos := "law.go:134", after := #[{ on := 12, ground := .data }, { on := 7, ground := .data }, { on := 11, ground := .chain }, { on := 0, ground := .phase }, { on := 1, ground := .phase }, { on := 2, ground := .phase }, { on := 3, ground := .phase }, { on := 4, ground := .phase }, { on := 5, ground := .phase }, { on := 6, ground := .phase }, { on := 7, ground := .phase }, { on := 8, ground := .textOnly .lateStores }, { on := 9, ground := .textOnly .lateStores }, { on := 10, ground := .phase }, { on := 11, ground := .phase }], guard := none }) rfl (fun K' hK => ?_) (AllReadyH.nil)
                      · have n0 : U3.cell? ⟨V12.heap.size, 7, none⟩ = some (.int .i64 (c.els + 1)) := (blk_cell HD.out.1 7).trans rfl
                        have nz := blk_free HD.out.1 7
                        have hk := blk_set HD.out.1 7 (.int .i64 c.els)
                        simp only [List.setIfInBounds_toArray, List.set_cons_zero, List.set_cons_succ] at hk
                        have HD2 : Hid ((U3.setCell ⟨V12.heap.size, 7, none⟩ (.int .i64 c.els)).heap[V12.heap.size]? = some (.cells #[.slice r.A0 c.types.length r.d0, .slice r.A1 c.funcs.length r.d1, .slice r.A2 c.globs.length r.d2, .slice r.A3 c.tabs.length r.d3, .slice r.A4 c.mems.length r.d4, .int .i64 c.hosts, .int .i64 c.vars, .int .i64 c.els, .int .i64 (c.dats + 1), .bool c.counted] 38 (0, 0)) ∧ Below V12.heap.size V12 (U3.setCell ⟨V12.heap.size, 7, none⟩ (.int .i64 c.els))) := Lib.hid ⟨hk, HD.out.2.trans ⟨rfl, rfl, rfl, by simp, fun b hb => far_set (show V12.heap.size ≠ b by omega) _⟩⟩
                        clear HD hk
                        have HD := HD2
                        clear HD2
                        go_simp
                        refine hK.out _ _ (HSB.out _ HD.out.2) (fun hS => ?_)
                        clear hK K' n0 nz
                        generalize (U3.setCell ⟨V12.heap.size, 7, none⟩ (.int .i64 c.els)) = U4 at *
                        try simp only [Act.put, List.setIfInBounds_toArray, List.set_cons_zero, List.set_cons_succ]
                        refine wpAnyH_take (i := 14) (oi := { dst := some 104, op := .fieldAddr 38 (.tmp 8) 8, type := 0, pos := "law.go:134", after := #[{ on := 0, ground := .phase }, { on := 1, ground := .phase }, { on := 2, ground := .phase }, { on := 3, ground := .phase }, { on := 4, ground := .phase }, { on := 5, ground := .phase }, { on := 6, ground := .phase }, { on := 7, ground := .phase }, { on := 8, ground := .phase }, { on := 9, ground := .phase }, { on := 10, ground := .phase }, { on := 11, ground := .phase }, { on := 12, ground := .phase }, { on := 13, ground := .phase }], guard := none }) (v := ?_) rfl (by kernel_rfl) (by kernel_rfl) (by kernel_rfl) (fun _ _ _ h => h) (Or.inl ⟨by rfl, ?_⟩) hS ?_
                        rotate_left
                        · (intro w' hS'; obtain ⟨s0, s1, s2⟩ := hS'; go_simp) <;> with_reducible rfl
                        try simp only [Act.put, List.setIfInBounds_toArray, List.set_cons_zero, List.set_cons_succ]
                        refine wpAnyH_ready (rs := [15]) (by kernel_rfl) (by simp) ?_
                        refine AllReadyH.cons (o := { dst := none, op := .store 3 (.tmp 104) (.tmp 101), type := 0, pos := "law.go:134", after := #[{ on := 14, ground := .data }, { on := 9, ground := .data }, { on := 13, ground := .chain }, { on := 0, ground := .phase }, { on := 1, ground := .phase }, { on := 2, ground := .phase }, { on := 3, ground := .phase }, { on := 4, ground := .phase }, { on := 5, ground := .phase }, { on := 6, ground := .phase }, { on := 7, ground := .phase }, { on := 8, ground := .phase }, { on := 9, ground := .phase }, { on := 10, ground := .phase }, { on := 11, ground := .phase }, { on := 12, ground := .phase }, { on := 13, ground := .phase }], guard := none }) rfl (fun K' hK => ?_) (AllReadyH.nil)
                        · have n0 : U4.cell? ⟨V12.heap.size, 8, none⟩ = some (.int .i64 (c.dats + 1)) := (blk_cell HD.out.1 8).trans rfl
                          have nz := blk_free HD.out.1 8
                          have hk := blk_set HD.out.1 8 (.int .i64 c.dats)
                          simp only [List.setIfInBounds_toArray, List.set_cons_zero, List.set_cons_succ] at hk
                          have HD2 : Hid ((U4.setCell ⟨V12.heap.size, 8, none⟩ (.int .i64 c.dats)).heap[V12.heap.size]? = some (.cells #[.slice r.A0 c.types.length r.d0, .slice r.A1 c.funcs.length r.d1, .slice r.A2 c.globs.length r.d2, .slice r.A3 c.tabs.length r.d3, .slice r.A4 c.mems.length r.d4, .int .i64 c.hosts, .int .i64 c.vars, .int .i64 c.els, .int .i64 c.dats, .bool c.counted] 38 (0, 0)) ∧ Below V12.heap.size V12 (U4.setCell ⟨V12.heap.size, 8, none⟩ (.int .i64 c.dats))) := Lib.hid ⟨hk, HD.out.2.trans ⟨rfl, rfl, rfl, by simp, fun b hb => far_set (show V12.heap.size ≠ b by omega) _⟩⟩
                          clear HD hk
                          have HD := HD2
                          clear HD2
                          go_simp
                          refine hK.out _ _ (HSB.out _ HD.out.2) (fun hS => ?_)
                          clear hK K' n0 nz
                          generalize (U4.setCell ⟨V12.heap.size, 8, none⟩ (.int .i64 c.dats)) = U5 at *
                          try simp only [Act.put, List.setIfInBounds_toArray, List.set_cons_zero, List.set_cons_succ]
                          refine wpAnyH_done (by kernel_rfl) ?_ _
                          clear hS HSL
                          have HSA := Lib.hid (rsamec_yes q r c U5 (HCC.out U5 HD.out.2).1 (HCC.out U5 HD.out.2).2 HFT.out.1 HFT.out.2)
                          obtain ⟨c0, c1, c2, c3, c4, c5, c6, c7, c8, c9⟩ := (HCC2.out U5 HD.out.2)
                          have e0 : U5.cell? ⟨V12.heap.size, 0, none⟩ = some (.slice r.A0 c.types.length r.d0) := (blk_cell HD.out.1 0).trans rfl
                          have e1 : U5.cell? ⟨V12.heap.size, 1, none⟩ = some (.slice r.A1 c.funcs.length r.d1) := (blk_cell HD.out.1 1).trans rfl
                          have e2 : U5.cell? ⟨V12.heap.size, 2, none⟩ = some (.slice r.A2 c.globs.length r.d2) := (blk_cell HD.out.1 2).trans rfl
                          have e3 : U5.cell? ⟨V12.heap.size, 3, none⟩ = some (.slice r.A3 c.tabs.length r.d3) := (blk_cell HD.out.1 3).trans rfl
                          have e4 : U5.cell? ⟨V12.heap.size, 4, none⟩ = some (.slice r.A4 c.mems.length r.d4) := (blk_cell HD.out.1 4).trans rfl
                          have e5 : U5.cell? ⟨V12.heap.size, 5, none⟩ = some (.int .i64 c.hosts) := (blk_cell HD.out.1 5).trans rfl
                          have e6 : U5.cell? ⟨V12.heap.size, 6, none⟩ = some (.int .i64 c.vars) := (blk_cell HD.out.1 6).trans rfl
                          have e7 : U5.cell? ⟨V12.heap.size, 7, none⟩ = some (.int .i64 c.els) := (blk_cell HD.out.1 7).trans rfl
                          have e8 : U5.cell? ⟨V12.heap.size, 8, none⟩ = some (.int .i64 c.dats) := (blk_cell HD.out.1 8).trans rfl
                          have e9 : U5.cell? ⟨V12.heap.size, 9, none⟩ = some (.bool c.counted) := (blk_cell HD.out.1 9).trans rfl
                          have HWE := Lib.hid (HWW.out U5 HD.out.2)
                          clear HD HCC HCC2 HSB HWW
                          go_wp2_with fail
                          refine HSA.out.mono ?_
                          rintro en VE ⟨rfl, hb⟩
                          go_wp2
                          go_ret
                          exact ⟨rfl, HWE.out.trans (hb.mono HWE.out.size)⟩
        · go_simp
          have HAL : Hid (Below X1.heap.size X1 (X1.alloc (.cells #[.slice B1 t.1.length b1, .slice B2 t.2.length b2] 46))) := Lib.hid ((Below.refl _ _).alloc (Nat.le_refl _) _)
          have HZ : Hid (X1.heap.size < (X1.alloc (.cells #[.slice B1 t.1.length b1, .slice B2 t.2.length b2] 46)).heap.size) := Lib.hid (by simp)
          have HI2 := Lib.hid (HI.out.trans (HAL.out.mono HZS.out))
          have HZS2 : Hid (vs ≤ (X1.alloc (.cells #[.slice B1 t.1.length b1, .slice B2 t.2.length b2] 46)).heap.size) := Lib.hid (Nat.le_trans HZS.out (Nat.le_of_lt HZ.out))
          have HE2 := Lib.hid (And.intro ((HAL.out.block _ HE.out.2.2).trans HE.out.1) (And.intro HE.out.2.1 (Nat.lt_trans HE.out.2.2 HZ.out)))
          have HB05 : Hid (b0 ≠ X1.heap.size) := Lib.hid (by have := HE.out.2.2; omega)
          have HPn : Hid ((X1.alloc (.cells #[.slice B1 t.1.length b1, .slice B2 t.2.length b2] 46)).heap[X1.heap.size]? = some (.cells #[.slice B1 t.1.length b1, .slice B2 t.2.length b2] 46 (0, 0)) ∧ vs ≤ X1.heap.size ∧ X1.heap.size < (X1.alloc (.cells #[.slice B1 t.1.length b1, .slice B2 t.2.length b2] 46)).heap.size) := Lib.hid ⟨heap_alloc_new X1 _, HZS.out, HZ.out⟩
          clear HI HAL HZ HZS HE
          generalize (X1.alloc (.cells #[.slice B1 t.1.length b1, .slice B2 t.2.length b2] 46)) = X2 at *
          generalize X1.heap.size = b5 at *
          have HI := HI2
          have HZS := HZS2
          have HE := HE2
          have HP := HPn
          clear HI2 HZS2 HPn HE2
          refine hK.out _ _ (HSB.out _ HI.out) (fun hS => ?_)
          clear hK K'
          try simp only [Act.put, List.setIfInBounds_toArray, List.set_cons_zero, List.set_cons_succ]
          refine wpAnyH_ready (rs := [3]) (by kernel_rfl) (by simp) ?_
          refine AllReadyH.cons (o := { dst := some 38, op := .call { callee := .builtin .append, args := #[.tmp 35, .tmp 37], argTypes := #[22, 22] }, type := 22, pos := "law.go:127", after := #[{ on := 0, ground := .data }, { on := 2, ground := .data }], guard := none }) rfl (fun K' hK => ?_) (AllReadyH.nil)
          · refine app_step tyT rfl (.tmp 35) (.tmp 37) rfl (A := some ⟨b0, 0, none⟩) (n := 0) (c := 0) rfl (own_empty X2 vs _ _ b0 HE.out.2.1 HE.out.1) (X := p.A0) (m := g.types.length) (cx := p.c0) rfl (HLE.out X2 HI.out) HON.out (by have := HN7.out; omega) HZS.out ?_
            intro R3 d3 X3 ho hg hob
            simp only [Nat.zero_add, List.nil_append] at ho hob ⊢
            have HO := Lib.hid ho
            have HI2 : Hid (Below vs V X3) := Lib.hid (HI.out.grown hg HZS.out (fun k hk => by have hk : some b0 = some k := hk; injection hk with hk; have := HE.out.2.1; omega))
            have HP2 := Lib.hid (And.intro ((hg.block _ HP.out.2.2 (fun e => HB05.out (by have e : some _ = some b0 := e; injection e with e; exact e.symm))).trans HP.out.1) (And.intro HP.out.2.1 (Nat.lt_of_lt_of_le HP.out.2.2 hg.size)))
            have HZS2 : Hid (vs ≤ X3.heap.size) := Lib.hid (Nat.le_trans HZS.out hg.size)
            clear ho hg hob HI HE HZS HP
            have HI := HI2
            have HZS := HZS2
            clear HI2 HZS2
            have HP := HP2
            clear HP2
            refine hK.out _ _ (HSB.out _ HI.out) (fun hS => ?_)
            clear hK K'
            try simp only [Act.put, List.setIfInBounds_toArray, List.set_cons_zero, List.set_cons_succ]
            refine wpAnyH_ready (rs := [6]) (by kernel_rfl) (by simp) ?_
            refine AllReadyH.cons (o := { dst := some 41, op := .call { callee := .builtin .append, args := #[.tmp 38, .tmp 40], argTypes := #[22, 22] }, type := 22, pos := "law.go:127", after := #[{ on := 3, ground := .data }, { on := 5, ground := .data }, { on := 3, ground := .chain }], guard := none }) rfl (fun K' hK => ?_) (AllReadyH.nil)
            · refine app_step tyT rfl (.tmp 38) (.tmp 40) rfl (A := R3) (n := g.types.length) (c := d3) rfl HO.out (X := some ⟨b5, 0, none⟩) (m := 1) (cx := 1) rfl (src_blk HP.out.1 rfl) (by simp [Value.oneCell']) (by have := HN7.out; omega) HZS.out ?_
              intro R4 d4 X4 ho hg hob
              have HR := Lib.hid ho
              have HI2 : Hid (Below vs V X4) := Lib.hid (HI.out.grown hg HZS.out (fun k hk => (rowLt HO.out k hk).1))
              clear ho hg hob HI HO HP
              have HI := HI2
              clear HI2
              have hk := (HI.out.block _ HVB.out.2.2.1).trans HVB.out.2.1
              have nc : X4.cell? ⟨V3.heap.size + 1, 0, none⟩ = some (.slice p.A0 g.types.length p.c0) := (blk_cell hk 0).trans rfl
              have nz := blk_free hk 0
              have HKS := Lib.hid (blk_set hk 0 (.slice R4 (g.types.length + 1) d4))
              have HSX : Hid ((∀ b, b < V3.heap.size + 1 → (X4.setCell ⟨V3.heap.size + 1, 0, none⟩ (.slice R4 (g.types.length + 1) d4)).heap[b]? = V.heap[b]?) ∧ V3.heap.size + 1 < (X4.setCell ⟨V3.heap.size + 1, 0, none⟩ (.slice R4 (g.types.length + 1) d4)).heap.size ∧ (X4.setCell ⟨V3.heap.size + 1, 0, none⟩ (.slice R4 (g.types.length + 1) d4)).os = V.os ∧ (X4.setCell ⟨V3.heap.size + 1, 0, none⟩ (.slice R4 (g.types.length + 1) d4)).tape = V.tape ∧ (X4.setCell ⟨V3.heap.size + 1, 0, none⟩ (.slice R4 (g.types.length + 1) d4)).output = V.output ∧ V.heap.size ≤ (X4.setCell ⟨V3.heap.size + 1, 0, none⟩ (.slice R4 (g.types.length + 1) d4)).heap.size) := Lib.hid ⟨fun b hb => (far_set (show V3.heap.size + 1 ≠ b by omega) _).trans (HI.out.block b (by have := HVB.out.2.2; omega)), by have h1 := HVC.out _ HI.out; simpa using h1, HI.out.os, HI.out.tape, HI.out.output, by simpa using HI.out.size⟩
              have HRS : Hid ((X4.setCell ⟨V3.heap.size + 1, 0, none⟩ (.slice R4 (g.types.length + 1) d4)).ownsRow vs 46 2 (.slice R4 (g.types.length + 1) d4) (g.types.length + 1) (cellsE es0 ++ [.slice B1 t.1.length b1, .slice B2 t.2.length b2])) := Lib.hid (rowSame HR.out fun b hb => far_set (by have := (rowLt HR.out b hb).1; have := HVB.out.2.2; show V3.heap.size + 1 ≠ b; omega) _)
              have HSS : Hid ((ST w.heap.size (w.heap.size + 1) p.A0 g.types.length p.c0 B1 t.1.length b1 B2 t.2.length b2) (X4.setCell ⟨V3.heap.size + 1, 0, none⟩ (.slice R4 (g.types.length + 1) d4))) := Lib.hid (st_keep (HSB.out _ (Below.refl _ _)) (HSX.out.1 _ (by have := HZ3.out; omega)) (HSX.out.1 _ (by have := HZ3.out; omega)))
              simp only [List.setIfInBounds_toArray, List.set_cons_zero] at HKS
              clear HR hk
              refine hK.out _ _ (HSB.out _ HI.out) (fun hS => ?_)
              clear hK K'
              try simp only [Act.put, List.setIfInBounds_toArray, List.set_cons_zero, List.set_cons_succ]
              refine wpAnyH_take (i := 7) (oi := { dst := some 42, op := .fieldAddr 33 (.tmp 7) 0, type := 0, pos := "law.go:127", after := #[{ on := 0, ground := .phase }, { on := 1, ground := .phase }, { on := 2, ground := .phase }, { on := 3, ground := .phase }, { on := 4, ground := .phase }, { on := 5, ground := .phase }, { on := 6, ground := .phase }], guard := none }) (v := ?_) rfl (by kernel_rfl) (by kernel_rfl) (by kernel_rfl) (fun _ _ _ h => h) (Or.inl ⟨by rfl, ?_⟩) hS ?_
              rotate_left
              · (intro w' hS'; obtain ⟨s0, s1, s2⟩ := hS'; go_simp) <;> with_reducible rfl
              try simp only [Act.put, List.setIfInBounds_toArray, List.set_cons_zero, List.set_cons_succ]
              refine wpAnyH_ready (rs := [8]) (by kernel_rfl) (by simp) ?_
              refine AllReadyH.cons (o := { dst := none, op := .store 22 (.tmp 42) (.tmp 41), type := 0, pos := "law.go:127", after := #[{ on := 7, ground := .data }, { on := 6, ground := .data }, { on := 6, ground := .chain }, { on := 0, ground := .phase }, { on := 1, ground := .phase }, { on := 2, ground := .phase }, { on := 3, ground := .phase }, { on := 4, ground := .phase }, { on := 5, ground := .phase }, { on := 6, ground := .phase }], guard := none }) rfl (fun K' hK => ?_) (AllReadyH.nil)
              · go_simp
                refine hK.out _ _ HSS.out (fun hS => ?_)
                clear hK K' nc nz HSS HI HZS
                generalize X4.setCell ⟨V3.heap.size + 1, 0, none⟩ (.slice R4 (g.types.length + 1) d4) = V9 at *
                try simp only [Act.put, List.setIfInBounds_toArray, List.set_cons_zero, List.set_cons_succ]
                refine wpAnyH_done (by kernel_rfl) ?_ _
                clear hS HLE HSB HON
                have HX9 := HSX
                have HK9 := HKS
                have HL0 : Hid (Lst ftR V9 (fun b => b ≠ V3.heap.size + 1) R4 d4 (g.types ++ [t])) := Lib.hid (own_more (R := ftR) HES0.out HEN0.out (fun b hb hlt => ⟨(HX9.out.1 b (by have := HZ3.out; omega)).trans (HBW.out b hlt), by have := HZ3.out; omega⟩) (ftR_at.2 ⟨B1, b1, B2, b2, rfl, HT1.out.keep fun b hb hlt => ⟨(HX9.out.1 b (by have := HZ3.out; omega)).trans (HBW.out b hlt), by have := HZ3.out; omega⟩, HT2.out.keep fun b hb hlt => ⟨(HX9.out.1 b (by have := HZ3.out; omega)).trans (HBW.out b hlt), by have := HZ3.out; omega⟩⟩) HRS.out rfl (fun b hb => by have := (rowLt HRS.out b hb).1; have := HVB.out.2.2; omega))
                clear HSX HKS HRS
                have m8 : V9.cell? ⟨w.heap.size, 8, none⟩ = some (.slice p.A8 g.els.length p.c8) := (blk_cell ((HX9.out.1 _ (by have := HZ3.out; omega)).trans HMV.out.1) 8).trans rfl
                have ma : (V9.alloc (.cells #[] 49)).cell? ⟨w.heap.size, 8, none⟩ = some (.slice p.A8 g.els.length p.c8) := by rw [World.cell?_of_block (((Below.refl _ _).alloc (Nat.le_refl _) _ : Below V9.heap.size V9 (V9.alloc (.cells #[] 49))).block w.heap.size (by have := HX9.out.2.1; have := HZ3.out; omega))]; exact m8
                have HSR8 : Hid (Src (V9.alloc (.cells #[] 49)) 3 p.A8 g.els.length p.c8 (cellsE es8)) := Lib.hid (by
                  have h := src_ents (HLE8.out (V9.alloc (.cells #[] 49)) fun b hb => (((Below.refl _ _).alloc (Nat.le_refl _) _ : Below V9.heap.size V9 (V9.alloc (.cells #[] 49))).block b (by have := HX9.out.2.1; have := HZ3.out; omega)).trans (HX9.out.1 b (by have := HZ3.out; omega)))
                  rwa [show es8.length = g.els.length from by rw [← HES8.out]; simp] at h)
                go_upto_region 11 with (at_builtin; first | (refine app_list tyEl rfl (.tmp 43) (.tmp 45) rfl (A := some ⟨V9.heap.size, 0, none⟩) (n := 0) (c := 0) rfl (own_empty (V9.alloc (.cells #[] 49)) V9.heap.size _ _ V9.heap.size (Nat.le_refl _) (heap_alloc_new V9 _)) (X := p.A8) (m := g.els.length) (cx := p.c8) rfl HSR8.out HON8.out (by have := HN7.out; omega) (by simp) ?_; intro R5 d5 Y8 ho hg hob; simp only [Nat.zero_add, List.nil_append] at ho hob ⊢; have HOY := Lib.hid ho; have HIY : Hid (Below V9.heap.size V9 Y8 ∧ V9.heap.size ≤ Y8.heap.size) := Lib.hid ⟨(((Below.refl _ _).alloc (Nat.le_refl _) _ : Below V9.heap.size V9 (V9.alloc (.cells #[] 49))).grown hg (by simp) (fun k hk => by have hk : some V9.heap.size = some k := hk; injection hk with hk; omega)), Nat.le_trans (by simp) hg.size⟩; have HIA : Hid (Below V9.heap.size V9 (Y8.alloc (.cells #[.int .i64 1, .slice none 0 0, .slice none 0 0] 49)) ∧ V9.heap.size ≤ (Y8.alloc (.cells #[.int .i64 1, .slice none 0 0, .slice none 0 0] 49)).heap.size) := Lib.hid ⟨HIY.out.1.trans (((Below.refl _ _).alloc (Nat.le_refl _) _).mono HIY.out.2), by have := HIY.out.2; simp; omega⟩; have HOA : Hid ((Y8.alloc (.cells #[.int .i64 1, .slice none 0 0, .slice none 0 0] 49)).ownsRow V9.heap.size 49 3 (.slice R5 g.els.length d5) g.els.length (cellsE es8)) := Lib.hid (rowSame HOY.out fun gb hgb => ((Below.refl _ _).alloc (Nat.le_refl _) _ : Below Y8.heap.size Y8 (Y8.alloc (.cells #[.int .i64 1, .slice none 0 0, .slice none 0 0] 49))).block gb (rowLt HOY.out gb hgb).2); clear ho hg hob) | (refine app_list tyEl rfl (.tmp 46) (.tmp 48) rfl (A := R5) (n := g.els.length) (c := d5) rfl HOA.out (X := some ⟨Y8.heap.size, 0, none⟩) (m := 1) (cx := 1) rfl (src_new Y8 #[.int .i64 1, .slice none 0 0, .slice none 0 0] 49 3 rfl) (by simp [Value.oneCell']) (by have := HN7.out; omega) HIA.out.2 ?_; intro R6 d6 Z8 ho hg hob; have HRZ := Lib.hid ho; have HIZ : Hid (Below V9.heap.size V9 Z8) := Lib.hid (HIA.out.1.grown hg HIA.out.2 (fun k hk => (rowLt HOA.out k hk).1)); have hk := (HIZ.out.block _ HX9.out.2.1).trans HK9.out; have nc : Z8.cell? ⟨V3.heap.size + 1, 8, none⟩ = some (.slice p.A8 g.els.length p.c8) := (blk_cell hk 8).trans rfl; have nz := blk_free hk 8; have HK10 := Lib.hid (blk_set hk 8 (.slice R6 (g.els.length + 1) d6)); clear ho hg hob hk))
                simp only [List.setIfInBounds_toArray, List.set_cons_zero, List.set_cons_succ] at HK10
                have HSY : Hid ((∀ b, b < V9.heap.size → b ≠ V3.heap.size + 1 → (Z8.setCell ⟨V3.heap.size + 1, 8, none⟩ (.slice R6 (g.els.length + 1) d6)).heap[b]? = V9.heap[b]?) ∧ V9.heap.size ≤ (Z8.setCell ⟨V3.heap.size + 1, 8, none⟩ (.slice R6 (g.els.length + 1) d6)).heap.size ∧ (Z8.setCell ⟨V3.heap.size + 1, 8, none⟩ (.slice R6 (g.els.length + 1) d6)).os = V9.os ∧ (Z8.setCell ⟨V3.heap.size + 1, 8, none⟩ (.slice R6 (g.els.length + 1) d6)).tape = V9.tape ∧ (Z8.setCell ⟨V3.heap.size + 1, 8, none⟩ (.slice R6 (g.els.length + 1) d6)).output = V9.output) := Lib.hid ⟨fun b hb hne => (far_set (fun e => hne e.symm) _).trans (HIZ.out.block b hb), by simpa using HIZ.out.size, HIZ.out.os, HIZ.out.tape, HIZ.out.output⟩
                have HX10 : Hid ((∀ b, b < V3.heap.size + 1 → (Z8.setCell ⟨V3.heap.size + 1, 8, none⟩ (.slice R6 (g.els.length + 1) d6)).heap[b]? = V.heap[b]?) ∧ V3.heap.size + 1 < (Z8.setCell ⟨V3.heap.size + 1, 8, none⟩ (.slice R6 (g.els.length + 1) d6)).heap.size ∧ (Z8.setCell ⟨V3.heap.size + 1, 8, none⟩ (.slice R6 (g.els.length + 1) d6)).os = V.os ∧ (Z8.setCell ⟨V3.heap.size + 1, 8, none⟩ (.slice R6 (g.els.length + 1) d6)).tape = V.tape ∧ (Z8.setCell ⟨V3.heap.size + 1, 8, none⟩ (.slice R6 (g.els.length + 1) d6)).output = V.output ∧ V.heap.size ≤ (Z8.setCell ⟨V3.heap.size + 1, 8, none⟩ (.slice R6 (g.els.length + 1) d6)).heap.size) := Lib.hid ⟨fun b hb => (HSY.out.1 b (by have := HX9.out.2.1; omega) (by omega)).trans (HX9.out.1 b hb), by have := HX9.out.2.1; have := HSY.out.2.1; omega, HSY.out.2.2.1.trans HX9.out.2.2.1, HSY.out.2.2.2.1.trans HX9.out.2.2.2.1, HSY.out.2.2.2.2.trans HX9.out.2.2.2.2.1, Nat.le_trans HX9.out.2.2.2.2.2 HSY.out.2.1⟩
                have HRF : Hid ((Z8.setCell ⟨V3.heap.size + 1, 8, none⟩ (.slice R6 (g.els.length + 1) d6)).ownsRow V9.heap.size 49 3 (.slice R6 (g.els.length + 1) d6) (g.els.length + 1) (cellsE es8 ++ [.int .i64 1, .slice none 0 0, .slice none 0 0])) := Lib.hid (rowSame HRZ.out fun b hb => far_set (by have := (rowLt HRZ.out b hb).1; have := HX9.out.2.1; show V3.heap.size + 1 ≠ b; omega) _)
                have HL8 : Hid (Lst elR (Z8.setCell ⟨V3.heap.size + 1, 8, none⟩ (.slice R6 (g.els.length + 1) d6)) (fun b => b ≠ V3.heap.size + 1) R6 d6 (g.els ++ [pasE])) := Lib.hid (own_more (R := elR) HES8.out HEN8.out (fun b hb hlt => ⟨(HX10.out.1 b (by have := HZ3.out; omega)).trans (HBW.out b hlt), by have := HZ3.out; omega⟩) (at_pasE _ _) HRF.out rfl (fun b hb => by have := (rowLt HRF.out b hb).1; have := HX9.out.2.1; omega))
                have HL0' : Hid (Lst ftR (Z8.setCell ⟨V3.heap.size + 1, 8, none⟩ (.slice R6 (g.els.length + 1) d6)) (fun b => b ≠ V3.heap.size + 1) R4 d4 (g.types ++ [t])) := Lib.hid (HL0.out.keep fun b hb hlt => ⟨HSY.out.1 b hlt hb, hb⟩)
                clear HL0
                have HL0 := HL0'
                clear HL0'
                clear HIZ HRZ HRF HSY HIY HIA HOA HOY nc nz m8 ma HSR8 HX9 HK9
                generalize (Z8.setCell ⟨V3.heap.size + 1, 8, none⟩ (.slice R6 (g.els.length + 1) d6)) = V10 at *
                have m10 : V10.cell? ⟨w.heap.size, 10, none⟩ = some (.slice p.A10 g.dats.length p.c10) := (blk_cell ((HX10.out.1 _ (by have := HZ3.out; omega)).trans HMV.out.1) 10).trans rfl
                have ma : (V10.alloc (.cells #[] 52)).cell? ⟨w.heap.size, 10, none⟩ = some (.slice p.A10 g.dats.length p.c10) := by rw [World.cell?_of_block (((Below.refl _ _).alloc (Nat.le_refl _) _ : Below V10.heap.size V10 (V10.alloc (.cells #[] 52))).block w.heap.size (by have := HX10.out.2.1; have := HZ3.out; omega))]; exact m10
                have HSR10 : Hid (Src (V10.alloc (.cells #[] 52)) 3 p.A10 g.dats.length p.c10 (cellsE es10)) := Lib.hid (by
                  have h := src_ents (HLE10.out (V10.alloc (.cells #[] 52)) fun b hb => (((Below.refl _ _).alloc (Nat.le_refl _) _ : Below V10.heap.size V10 (V10.alloc (.cells #[] 52))).block b (by have := HX10.out.2.1; have := HZ3.out; omega)).trans (HX10.out.1 b (by have := HZ3.out; omega)))
                  rwa [show es10.length = g.dats.length from by rw [← HES10.out]; simp] at h)
                go_upto_region 12 with (at_builtin; first | (refine app_list tyDa rfl (.tmp 51) (.tmp 53) rfl (A := some ⟨V10.heap.size, 0, none⟩) (n := 0) (c := 0) rfl (own_empty (V10.alloc (.cells #[] 52)) V10.heap.size _ _ V10.heap.size (Nat.le_refl _) (heap_alloc_new V10 _)) (X := p.A10) (m := g.dats.length) (cx := p.c10) rfl HSR10.out HON10.out (by have := HN7.out; omega) (by simp) ?_; intro R5 d5 Y10 ho hg hob; simp only [Nat.zero_add, List.nil_append] at ho hob ⊢; have HOY := Lib.hid ho; have HIY : Hid (Below V10.heap.size V10 Y10 ∧ V10.heap.size ≤ Y10.heap.size) := Lib.hid ⟨(((Below.refl _ _).alloc (Nat.le_refl _) _ : Below V10.heap.size V10 (V10.alloc (.cells #[] 52))).grown hg (by simp) (fun k hk => by have hk : some V10.heap.size = some k := hk; injection hk with hk; omega)), Nat.le_trans (by simp) hg.size⟩; have HIA : Hid (Below V10.heap.size V10 (Y10.alloc (.cells #[.int .i64 1, .slice none 0 0, .slice none 0 0] 52)) ∧ V10.heap.size ≤ (Y10.alloc (.cells #[.int .i64 1, .slice none 0 0, .slice none 0 0] 52)).heap.size) := Lib.hid ⟨HIY.out.1.trans (((Below.refl _ _).alloc (Nat.le_refl _) _).mono HIY.out.2), by have := HIY.out.2; simp; omega⟩; have HOA : Hid ((Y10.alloc (.cells #[.int .i64 1, .slice none 0 0, .slice none 0 0] 52)).ownsRow V10.heap.size 52 3 (.slice R5 g.dats.length d5) g.dats.length (cellsE es10)) := Lib.hid (rowSame HOY.out fun gb hgb => ((Below.refl _ _).alloc (Nat.le_refl _) _ : Below Y10.heap.size Y10 (Y10.alloc (.cells #[.int .i64 1, .slice none 0 0, .slice none 0 0] 52))).block gb (rowLt HOY.out gb hgb).2); clear ho hg hob) | (refine app_list tyDa rfl (.tmp 54) (.tmp 56) rfl (A := R5) (n := g.dats.length) (c := d5) rfl HOA.out (X := some ⟨Y10.heap.size, 0, none⟩) (m := 1) (cx := 1) rfl (src_new Y10 #[.int .i64 1, .slice none 0 0, .slice none 0 0] 52 3 rfl) (by simp [Value.oneCell']) (by have := HN7.out; omega) HIA.out.2 ?_; intro R7 d7 Z10 ho hg hob; have HRZ := Lib.hid ho; have HIZ : Hid (Below V10.heap.size V10 Z10) := Lib.hid (HIA.out.1.grown hg HIA.out.2 (fun k hk => (rowLt HOA.out k hk).1)); have hk := (HIZ.out.block _ HX10.out.2.1).trans HK10.out; have nc : Z10.cell? ⟨V3.heap.size + 1, 10, none⟩ = some (.slice p.A10 g.dats.length p.c10) := (blk_cell hk 10).trans rfl; have nz := blk_free hk 10; have HK11 := Lib.hid (blk_set hk 10 (.slice R7 (g.dats.length + 1) d7)); clear ho hg hob hk))
                simp only [List.setIfInBounds_toArray, List.set_cons_zero, List.set_cons_succ] at HK11
                have HSY : Hid ((∀ b, b < V10.heap.size → b ≠ V3.heap.size + 1 → (Z10.setCell ⟨V3.heap.size + 1, 10, none⟩ (.slice R7 (g.dats.length + 1) d7)).heap[b]? = V10.heap[b]?) ∧ V10.heap.size ≤ (Z10.setCell ⟨V3.heap.size + 1, 10, none⟩ (.slice R7 (g.dats.length + 1) d7)).heap.size ∧ (Z10.setCell ⟨V3.heap.size + 1, 10, none⟩ (.slice R7 (g.dats.length + 1) d7)).os = V10.os ∧ (Z10.setCell ⟨V3.heap.size + 1, 10, none⟩ (.slice R7 (g.dats.length + 1) d7)).tape = V10.tape ∧ (Z10.setCell ⟨V3.heap.size + 1, 10, none⟩ (.slice R7 (g.dats.length + 1) d7)).output = V10.output) := Lib.hid ⟨fun b hb hne => (far_set (fun e => hne e.symm) _).trans (HIZ.out.block b hb), by simpa using HIZ.out.size, HIZ.out.os, HIZ.out.tape, HIZ.out.output⟩
                have HX11 : Hid ((∀ b, b < V3.heap.size + 1 → (Z10.setCell ⟨V3.heap.size + 1, 10, none⟩ (.slice R7 (g.dats.length + 1) d7)).heap[b]? = V.heap[b]?) ∧ V3.heap.size + 1 < (Z10.setCell ⟨V3.heap.size + 1, 10, none⟩ (.slice R7 (g.dats.length + 1) d7)).heap.size ∧ (Z10.setCell ⟨V3.heap.size + 1, 10, none⟩ (.slice R7 (g.dats.length + 1) d7)).os = V.os ∧ (Z10.setCell ⟨V3.heap.size + 1, 10, none⟩ (.slice R7 (g.dats.length + 1) d7)).tape = V.tape ∧ (Z10.setCell ⟨V3.heap.size + 1, 10, none⟩ (.slice R7 (g.dats.length + 1) d7)).output = V.output ∧ V.heap.size ≤ (Z10.setCell ⟨V3.heap.size + 1, 10, none⟩ (.slice R7 (g.dats.length + 1) d7)).heap.size) := Lib.hid ⟨fun b hb => (HSY.out.1 b (by have := HX10.out.2.1; omega) (by omega)).trans (HX10.out.1 b hb), by have := HX10.out.2.1; have := HSY.out.2.1; omega, HSY.out.2.2.1.trans HX10.out.2.2.1, HSY.out.2.2.2.1.trans HX10.out.2.2.2.1, HSY.out.2.2.2.2.trans HX10.out.2.2.2.2.1, Nat.le_trans HX10.out.2.2.2.2.2 HSY.out.2.1⟩
                have HRF : Hid ((Z10.setCell ⟨V3.heap.size + 1, 10, none⟩ (.slice R7 (g.dats.length + 1) d7)).ownsRow V10.heap.size 52 3 (.slice R7 (g.dats.length + 1) d7) (g.dats.length + 1) (cellsE es10 ++ [.int .i64 1, .slice none 0 0, .slice none 0 0])) := Lib.hid (rowSame HRZ.out fun b hb => far_set (by have := (rowLt HRZ.out b hb).1; have := HX10.out.2.1; show V3.heap.size + 1 ≠ b; omega) _)
                have HL10 : Hid (Lst datR (Z10.setCell ⟨V3.heap.size + 1, 10, none⟩ (.slice R7 (g.dats.length + 1) d7)) (fun b => b ≠ V3.heap.size + 1) R7 d7 (g.dats ++ [pasD])) := Lib.hid (own_more (R := datR) HES10.out HEN10.out (fun b hb hlt => ⟨(HX11.out.1 b (by have := HZ3.out; omega)).trans (HBW.out b hlt), by have := HZ3.out; omega⟩) (at_pasD _ _) HRF.out rfl (fun b hb => by have := (rowLt HRF.out b hb).1; have := HX10.out.2.1; omega))
                have HL0' : Hid (Lst ftR (Z10.setCell ⟨V3.heap.size + 1, 10, none⟩ (.slice R7 (g.dats.length + 1) d7)) (fun b => b ≠ V3.heap.size + 1) R4 d4 (g.types ++ [t])) := Lib.hid (HL0.out.keep fun b hb hlt => ⟨HSY.out.1 b hlt hb, hb⟩)
                clear HL0
                have HL0 := HL0'
                clear HL0'
                have HL8' : Hid (Lst elR (Z10.setCell ⟨V3.heap.size + 1, 10, none⟩ (.slice R7 (g.dats.length + 1) d7)) (fun b => b ≠ V3.heap.size + 1) R6 d6 (g.els ++ [pasE])) := Lib.hid (HL8.out.keep fun b hb hlt => ⟨HSY.out.1 b hlt hb, hb⟩)
                clear HL8
                have HL8 := HL8'
                clear HL8'
                clear HIZ HRZ HRF HSY HIY HIA HOA HOY nc nz m10 ma HSR10 HX10 HK10
                generalize (Z10.setCell ⟨V3.heap.size + 1, 10, none⟩ (.slice R7 (g.dats.length + 1) d7)) = V11 at *
                have HMD : Hid (MdL V11 (fun b => b ≠ V3.heap.size + 1) (fun b => b ≠ V3.heap.size + 1) ({ p with A0 := R4, c0 := d4, A8 := R6, c8 := d6, A10 := R7, c10 := d7 } : Pls) (moreG g t)) := Lib.hid (by
                  have h := HL.out.keep (w' := V11) (ok' := fun b => b ≠ V3.heap.size + 1) (okF' := fun b => b ≠ V3.heap.size + 1) (fun b _ hlt => ⟨(HX11.out.1 b (by have := HZ3.out; omega)).trans (HBW.out b hlt), by have := HZ3.out; omega⟩) (fun b _ hlt => ⟨(HX11.out.1 b (by have := HZ3.out; omega)).trans (HBW.out b hlt), by have := HZ3.out; omega⟩)
                  exact ⟨HL0.out, h.l1, h.l2, h.l3, h.l4, h.l5, h.l6, h.l7, HL8.out, h.l9, HL10.out, h.l11⟩)
                have HON2 : Hid (Calls Try.prog 7 #[.agg #[.slice R4 (g.types.length + 1) d4, .slice p.A1 g.imps.length p.c1, .slice p.A2 g.funcs.length p.c2, .slice p.A3 g.tabs.length p.c3, .slice p.A4 g.mems.length p.c4, .slice p.A5 g.globs.length p.c5, .slice p.A6 g.expos.length p.c6, .slice p.A7 g.starts.length p.c7, .slice R6 (g.els.length + 1) d6, .slice p.A9 g.counts.length p.c9, .slice R7 (g.dats.length + 1) d7, .slice p.A11 g.cuss.length p.c11]] V11 (OfIs V11 (moreG g t))) := Lib.hid (by
                  have h := of_any (moreG g t) ({ p with A0 := R4, c0 := d4, A8 := R6, c8 := d6, A10 := R7, c10 := d7 } : Pls) V11 HMD.out HSMM.out
                  rw [show (moreG g t).types.length = g.types.length + 1 from by simp [moreG], show (moreG g t).els.length = g.els.length + 1 from by simp [moreG], show (moreG g t).dats.length = g.dats.length + 1 from by simp [moreG]] at h
                  exact h)
                unfold OfIs at HON2
                rw [HMO.out.1, HMO.out.2] at HON2
                have n0 : V11.cell? ⟨V3.heap.size + 1, 0, none⟩ = some (.slice R4 (g.types.length + 1) d4) := (blk_cell HK11.out 0).trans rfl
                have n1 : V11.cell? ⟨V3.heap.size + 1, 1, none⟩ = some (.slice p.A1 g.imps.length p.c1) := (blk_cell HK11.out 1).trans rfl
                have n2 : V11.cell? ⟨V3.heap.size + 1, 2, none⟩ = some (.slice p.A2 g.funcs.length p.c2) := (blk_cell HK11.out 2).trans rfl
                have n3 : V11.cell? ⟨V3.heap.size + 1, 3, none⟩ = some (.slice p.A3 g.tabs.length p.c3) := (blk_cell HK11.out 3).trans rfl
                have n4 : V11.cell? ⟨V3.heap.size + 1, 4, none⟩ = some (.slice p.A4 g.mems.length p.c4) := (blk_cell HK11.out 4).trans rfl
                have n5 : V11.cell? ⟨V3.heap.size + 1, 5, none⟩ = some (.slice p.A5 g.globs.length p.c5) := (blk_cell HK11.out 5).trans rfl
                have n6 : V11.cell? ⟨V3.heap.size + 1, 6, none⟩ = some (.slice p.A6 g.expos.length p.c6) := (blk_cell HK11.out 6).trans rfl
                have n7 : V11.cell? ⟨V3.heap.size + 1, 7, none⟩ = some (.slice p.A7 g.starts.length p.c7) := (blk_cell HK11.out 7).trans rfl
                have n8 : V11.cell? ⟨V3.heap.size + 1, 8, none⟩ = some (.slice R6 (g.els.length + 1) d6) := (blk_cell HK11.out 8).trans rfl
                have n9 : V11.cell? ⟨V3.heap.size + 1, 9, none⟩ = some (.slice p.A9 g.counts.length p.c9) := (blk_cell HK11.out 9).trans rfl
                have n10 : V11.cell? ⟨V3.heap.size + 1, 10, none⟩ = some (.slice R7 (g.dats.length + 1) d7) := (blk_cell HK11.out 10).trans rfl
                have n11 : V11.cell? ⟨V3.heap.size + 1, 11, none⟩ = some (.slice p.A11 g.cuss.length p.c11) := (blk_cell HK11.out 11).trans rfl
                clear HMD HL0 HL8 HL10
                generalize gather g = c at *
                go_wp2_with fail
                refine HON2.out.mono ?_
                rintro en V12 ⟨r, rfl, hc, hb⟩
                simp only [Plc.vals, setT, List.length_append, List.length_cons, List.length_nil]
                have HB12 := Lib.hid hb
                have HC12 : Hid (CtxL V12 (fun b => V11.heap.size ≤ b) r (setT c (c.types ++ [t]) (c.els + 1) (c.dats + 1))) := Lib.hid hc
                clear hb hc HON2 n0 n1 n2 n3 n4 n5 n6 n7 n8 n9 n10 n11
                have HLC : Hid (∀ b, b < V3.heap.size + 1 → V12.heap[b]? = V.heap[b]?) := Lib.hid fun b hb => (HB12.out.block b (by have := HX11.out.2.1; omega)).trans (HX11.out.1 b hb)
                have HZW : Hid (V3.heap.size + 1 < V12.heap.size) := Lib.hid (by have := HB12.out.size; have := HX11.out.2.1; omega)
                have HWW0 : Hid (Below w.heap.size w V12) := Lib.hid (HVB.out.1.trans ⟨HB12.out.os.trans HX11.out.2.2.1, HB12.out.tape.trans HX11.out.2.2.2.1, HB12.out.output.trans HX11.out.2.2.2.2.1, Nat.le_trans HX11.out.2.2.2.2.2 HB12.out.size, fun b hb => HLC.out b (by have := HZ3.out; omega)⟩)
                have hdd : Below V12.heap.size V12 (V12.alloc (.cells #[.slice r.A0 (c.types.length + 1) r.d0, .slice r.A1 c.funcs.length r.d1, .slice r.A2 c.globs.length r.d2, .slice r.A3 c.tabs.length r.d3, .slice r.A4 c.mems.length r.d4, .int .i64 c.hosts, .int .i64 c.vars, .int .i64 (c.els + 1), .int .i64 (c.dats + 1), .bool c.counted] 38)) := (Below.refl _ _).alloc (Nat.le_refl _) _
                have HD : Hid ((V12.alloc (.cells #[.slice r.A0 (c.types.length + 1) r.d0, .slice r.A1 c.funcs.length r.d1, .slice r.A2 c.globs.length r.d2, .slice r.A3 c.tabs.length r.d3, .slice r.A4 c.mems.length r.d4, .int .i64 c.hosts, .int .i64 c.vars, .int .i64 (c.els + 1), .int .i64 (c.dats + 1), .bool c.counted] 38)).heap[V12.heap.size]? = some (.cells #[.slice r.A0 (c.types.length + 1) r.d0, .slice r.A1 c.funcs.length r.d1, .slice r.A2 c.globs.length r.d2, .slice r.A3 c.tabs.length r.d3, .slice r.A4 c.mems.length r.d4, .int .i64 c.hosts, .int .i64 c.vars, .int .i64 (c.els + 1), .int .i64 (c.dats + 1), .bool c.counted] 38 (0, 0)) ∧ Below V12.heap.size V12 (V12.alloc (.cells #[.slice r.A0 (c.types.length + 1) r.d0, .slice r.A1 c.funcs.length r.d1, .slice r.A2 c.globs.length r.d2, .slice r.A3 c.tabs.length r.d3, .slice r.A4 c.mems.length r.d4, .int .i64 c.hosts, .int .i64 c.vars, .int .i64 (c.els + 1), .int .i64 (c.dats + 1), .bool c.counted] 38))) := Lib.hid ⟨heap_alloc_new V12 _, hdd⟩
                have HSB : Hid (∀ u, Below V12.heap.size V12 u → SC V3.heap.size q c u) := Lib.hid fun u hu => by
                  have h0 := ((hu.block V3.heap.size (by have := HZW.out; omega)).trans (HLC.out _ (by omega))).trans HMV.out.2.2.1
                  refine ⟨?_, ?_, ?_⟩ <;> rw [blk_cell h0] <;> rfl
                have HCC2 : Hid (∀ u, Below V12.heap.size V12 u → BoxC V3.heap.size u q c) := Lib.hid fun u hu => by
                  have h0 := ((hu.block V3.heap.size (by have := HZW.out; omega)).trans (HLC.out _ (by omega))).trans HMV.out.2.2.1
                  refine ⟨?_, ?_, ?_, ?_, ?_, ?_, ?_, ?_, ?_, ?_⟩ <;> rw [blk_cell h0] <;> rfl
                have HCC : Hid (∀ u, Below V12.heap.size V12 u → CtxL u (fun _ => True) q c ∧ CtxL u (fun _ => True) r c) := Lib.hid fun u hu => by
                  refine ⟨HC3.out.keep fun b _ hlt => ⟨((hu.block b (by have := HZW.out; omega)).trans (HLC.out b (by omega))).trans (HMV.out.2.2.2.block b hlt), trivial⟩, ?_⟩
                  have h := HC12.out.keep (w' := u) (ok' := fun _ => True) fun b _ hlt => ⟨hu.block b hlt, trivial⟩
                  exact ⟨lst_front h.l0, h.l1, h.l2, h.l3, h.l4⟩
                have HWW : Hid (∀ u, Below V12.heap.size V12 u → Below w.heap.size w u) := Lib.hid fun u hu => HWW0.out.trans (hu.mono (by have := HZW.out; have := HZ3.out; omega))
                have hrm : c.types.length + 1 ≤ r.d0 := by have h := HC12.out.l0.room; simpa [setT] using h
                have HSL : Hid (∀ W, (Instr.slice 22 (.slice r.A0 (c.types.length + 1) r.d0) none (some (.int .i64 (c.types.length : Int))) none).run Try.prog W = .ok (.slice r.A0 c.types.length r.d0) W) := Lib.hid (types_hi r.A0 (c.types.length + 1) r.d0 c.types.length hrm (by omega))
                have w1 : wrap64 ((c.types.length : Int) + 1) = (c.types.length : Int) + 1 := wrap64_fit (by omega) (by have := HFT.out.2.1; omega)
                have w2 : wrap64 (c.els + 1) = c.els + 1 := wrap64_fit (by have := HED.out; omega) (by have := HED.out; omega)
                have w3 : wrap64 (c.dats + 1) = c.dats + 1 := wrap64_fit (by have := HED.out; omega) (by have := HED.out; omega)
                have HW1 := Lib.hid w1
                have HW2 := Lib.hid w2
                have HW3 := Lib.hid w3
                clear hdd hrm w1 w2 w3 HX11 HK11 HB12 HMO HED HLE8 HLE10 HES0 HES8 HES10 HEN0 HEN8 HEN10 HON8 HON10 HT1 HT2 HL HV3 HC3 HC12 HMV HBW HN7 HVB HSMM HLC
                obtain ⟨c0, c7, c8⟩ := HSB.out (V12.alloc (.cells #[.slice r.A0 (c.types.length + 1) r.d0, .slice r.A1 c.funcs.length r.d1, .slice r.A2 c.globs.length r.d2, .slice r.A3 c.tabs.length r.d3, .slice r.A4 c.mems.length r.d4, .int .i64 c.hosts, .int .i64 c.vars, .int .i64 (c.els + 1), .int .i64 (c.dats + 1), .bool c.counted] 38)) HD.out.2
                go_upto_region 13 with fail
                have w1 := HW1.out
                have w2 := HW2.out
                have w3 := HW3.out
                have e0 : (V12.alloc (.cells #[.slice r.A0 (c.types.length + 1) r.d0, .slice r.A1 c.funcs.length r.d1, .slice r.A2 c.globs.length r.d2, .slice r.A3 c.tabs.length r.d3, .slice r.A4 c.mems.length r.d4, .int .i64 c.hosts, .int .i64 c.vars, .int .i64 (c.els + 1), .int .i64 (c.dats + 1), .bool c.counted] 38)).cell? ⟨V12.heap.size, 0, none⟩ = some (.slice r.A0 (c.types.length + 1) r.d0) := (blk_cell HD.out.1 0).trans rfl
                have e7 : (V12.alloc (.cells #[.slice r.A0 (c.types.length + 1) r.d0, .slice r.A1 c.funcs.length r.d1, .slice r.A2 c.globs.length r.d2, .slice r.A3 c.tabs.length r.d3, .slice r.A4 c.mems.length r.d4, .int .i64 c.hosts, .int .i64 c.vars, .int .i64 (c.els + 1), .int .i64 (c.dats + 1), .bool c.counted] 38)).cell? ⟨V12.heap.size, 7, none⟩ = some (.int .i64 (c.els + 1)) := (blk_cell HD.out.1 7).trans rfl
                have e8 : (V12.alloc (.cells #[.slice r.A0 (c.types.length + 1) r.d0, .slice r.A1 c.funcs.length r.d1, .slice r.A2 c.globs.length r.d2, .slice r.A3 c.tabs.length r.d3, .slice r.A4 c.mems.length r.d4, .int .i64 c.hosts, .int .i64 c.vars, .int .i64 (c.els + 1), .int .i64 (c.dats + 1), .bool c.counted] 38)).cell? ⟨V12.heap.size, 8, none⟩ = some (.int .i64 (c.dats + 1)) := (blk_cell HD.out.1 8).trans rfl
                generalize (V12.alloc (.cells #[.slice r.A0 (c.types.length + 1) r.d0, .slice r.A1 c.funcs.length r.d1, .slice r.A2 c.globs.length r.d2, .slice r.A3 c.tabs.length r.d3, .slice r.A4 c.mems.length r.d4, .int .i64 c.hosts, .int .i64 c.vars, .int .i64 (c.els + 1), .int .i64 (c.dats + 1), .bool c.counted] 38)) = U0 at *
                go_upto_region 15 with fail
                clear w1 w2 w3 e0 e7 e8 c0 c7 c8
                have HDW : Hid (U0.drew.heap[V12.heap.size]? = some (.cells #[.slice r.A0 (c.types.length + 1) r.d0, .slice r.A1 c.funcs.length r.d1, .slice r.A2 c.globs.length r.d2, .slice r.A3 c.tabs.length r.d3, .slice r.A4 c.mems.length r.d4, .int .i64 c.hosts, .int .i64 c.vars, .int .i64 (c.els + 1), .int .i64 (c.dats + 1), .bool c.counted] 38 (0, 0)) ∧ Below V12.heap.size V12 U0.drew) := Lib.hid ⟨HD.out.1, HD.out.2.drew⟩
                clear HD
                have hS0 := HSB.out _ HDW.out.2
                refine wp_region_held_drew (S := SC V3.heap.size q c) (by kernel_rfl) hS0 (fun hS => ?_)
                clear hS0
                generalize U0.drew = U at *
                have HD := HDW
                clear HDW
                refine wpAnyH_take (i := 0) (oi := { dst := some 92, op := .fieldAddr 38 (.tmp 8) 0, type := 0, pos := "law.go:134", after := #[], guard := none }) (v := ?_) rfl (by kernel_rfl) (by kernel_rfl) (by kernel_rfl) (fun _ _ _ h => h) (Or.inl ⟨by rfl, ?_⟩) hS ?_
                rotate_left
                · (intro w' hS'; obtain ⟨s0, s1, s2⟩ := hS'; go_simp) <;> with_reducible rfl
                try simp only [Act.put, List.setIfInBounds_toArray, List.set_cons_zero, List.set_cons_succ]
                refine wpAnyH_take (i := 2) (oi := { dst := some 94, op := .fieldAddr 38 (.tmp 5) 0, type := 0, pos := "law.go:134", after := #[], guard := none }) (v := ?_) rfl (by kernel_rfl) (by kernel_rfl) (by kernel_rfl) (fun _ _ _ h => h) (Or.inl ⟨by rfl, ?_⟩) hS ?_
                rotate_left
                · (intro w' hS'; obtain ⟨s0, s1, s2⟩ := hS'; go_simp) <;> with_reducible rfl
                try simp only [Act.put, List.setIfInBounds_toArray, List.set_cons_zero, List.set_cons_succ]
                refine wpAnyH_take (i := 3) (oi := { dst := some 95, op := .load 22 (.tmp 94), type := 22, pos := "law.go:134", after := #[{ on := 2, ground := .data }], guard := none }) (v := ?_) rfl (by kernel_rfl) (by kernel_rfl) (by kernel_rfl) (fun _ _ _ h => h) (Or.inl ⟨by rfl, ?_⟩) hS ?_
                rotate_left
                · (intro w' hS'; obtain ⟨s0, s1, s2⟩ := hS'; go_simp) <;> with_reducible rfl
                try simp only [Act.put, List.setIfInBounds_toArray, List.set_cons_zero, List.set_cons_succ]
                refine wpAnyH_take (i := 4) (oi := { dst := some 96, op := .call { callee := .builtin .len, args := #[.tmp 95], argTypes := #[22] }, type := 3, pos := "law.go:134", after := #[{ on := 3, ground := .data }], guard := none }) (v := ?_) rfl (by kernel_rfl) (by kernel_rfl) (by kernel_rfl) (fun _ _ _ h => h) (Or.inl ⟨by rfl, ?_⟩) hS ?_
                rotate_left
                · (intro w' hS'; obtain ⟨s0, s1, s2⟩ := hS'; go_simp) <;> with_reducible rfl
                try simp only [Act.put, List.setIfInBounds_toArray, List.set_cons_zero, List.set_cons_succ]
                refine wpAnyH_take (i := 6) (oi := { dst := some 98, op := .fieldAddr 38 (.tmp 5) 7, type := 0, pos := "law.go:134", after := #[{ on := 11, ground := .gcOnly .lateStores }], guard := none }) (v := ?_) rfl (by kernel_rfl) (by kernel_rfl) (by kernel_rfl) (fun _ _ _ h => h) (Or.inl ⟨by rfl, ?_⟩) hS ?_
                rotate_left
                · (intro w' hS'; obtain ⟨s0, s1, s2⟩ := hS'; go_simp) <;> with_reducible rfl
                try simp only [Act.put, List.setIfInBounds_toArray, List.set_cons_zero, List.set_cons_succ]
                refine wpAnyH_take (i := 7) (oi := { dst := some 99, op := .load 3 (.tmp 98), type := 3, pos := "law.go:134", after := #[{ on := 6, ground := .data }, { on := 11, ground := .gcOnly .lateStores }], guard := none }) (v := ?_) rfl (by kernel_rfl) (by kernel_rfl) (by kernel_rfl) (fun _ _ _ h => h) (Or.inl ⟨by rfl, ?_⟩) hS ?_
                rotate_left
                · (intro w' hS'; obtain ⟨s0, s1, s2⟩ := hS'; go_simp) <;> with_reducible rfl
                try simp only [Act.put, List.setIfInBounds_toArray, List.set_cons_zero, List.set_cons_succ]
                refine wpAnyH_take (i := 8) (oi := { dst := some 100, op := .fieldAddr 38 (.tmp 5) 8, type := 0, pos := "law.go:134", after := #[{ on := 13, ground := .gcOnly .lateStores }], guard := none }) (v := ?_) rfl (by kernel_rfl) (by kernel_rfl) (by kernel_rfl) (fun _ _ _ h => h) (Or.inl ⟨by rfl, ?_⟩) hS ?_
                rotate_left
                · (intro w' hS'; obtain ⟨s0, s1, s2⟩ := hS'; go_simp) <;> with_reducible rfl
                try simp only [Act.put, List.setIfInBounds_toArray, List.set_cons_zero, List.set_cons_succ]
                refine wpAnyH_take (i := 9) (oi := { dst := some 101, op := .load 3 (.tmp 100), type := 3, pos := "law.go:134", after := #[{ on := 8, ground := .data }, { on := 13, ground := .gcOnly .lateStores }], guard := none }) (v := ?_) rfl (by kernel_rfl) (by kernel_rfl) (by kernel_rfl) (fun _ _ _ h => h) (Or.inl ⟨by rfl, ?_⟩) hS ?_
                rotate_left
                · (intro w' hS'; obtain ⟨s0, s1, s2⟩ := hS'; go_simp) <;> with_reducible rfl
                try simp only [Act.put, List.setIfInBounds_toArray, List.set_cons_zero, List.set_cons_succ]
                refine wpAnyH_ready (rs := [1]) (by kernel_rfl) (by simp) ?_
                refine AllReadyH.cons (o := { dst := some 93, op := .load 22 (.tmp 92), type := 22, pos := "law.go:134", after := #[{ on := 0, ground := .data }], guard := none }) rfl (fun K' hK => ?_) (AllReadyH.nil)
                · have n0 : U.cell? ⟨V12.heap.size, 0, none⟩ = some (.slice r.A0 (c.types.length + 1) r.d0) := (blk_cell HD.out.1 0).trans rfl
                  go_simp
                  refine hK.out _ _ (HSB.out _ HD.out.2) (fun hS => ?_)
                  clear hK K' n0
                  try simp only [Act.put, List.setIfInBounds_toArray, List.set_cons_zero, List.set_cons_succ]
                  refine wpAnyH_ready (rs := [5]) (by kernel_rfl) (by simp) ?_
                  refine AllReadyH.cons (o := { dst := some 97, op := .slice 22 (.tmp 93) none (some (.tmp 96)) none, type := 22, pos := "law.go:134", after := #[{ on := 1, ground := .data }, { on := 4, ground := .data }], guard := none }) rfl (fun K' hK => ?_) (AllReadyH.nil)
                  · have hsl := HSL.out U
                    go_simp
                    refine hK.out _ _ (HSB.out _ HD.out.2) (fun hS => ?_)
                    clear hK K' hsl
                    try simp only [Act.put, List.setIfInBounds_toArray, List.set_cons_zero, List.set_cons_succ]
                    refine wpAnyH_take (i := 10) (oi := { dst := some 102, op := .fieldAddr 38 (.tmp 8) 0, type := 0, pos := "law.go:134", after := #[{ on := 0, ground := .phase }, { on := 1, ground := .phase }, { on := 2, ground := .phase }, { on := 3, ground := .phase }, { on := 4, ground := .phase }, { on := 5, ground := .phase }, { on := 6, ground := .textOnly .lateStores }, { on := 7, ground := .textOnly .lateStores }, { on := 8, ground := .textOnly .lateStores }, { on := 9, ground := .textOnly .lateStores }], guard := none }) (v := ?_) rfl (by kernel_rfl) (by kernel_rfl) (by kernel_rfl) (fun _ _ _ h => h) (Or.inl ⟨by rfl, ?_⟩) hS ?_
                    rotate_left
                    · (intro w' hS'; obtain ⟨s0, s1, s2⟩ := hS'; go_simp) <;> with_reducible rfl
                    try simp only [Act.put, List.setIfInBounds_toArray, List.set_cons_zero, List.set_cons_succ]
                    refine wpAnyH_ready (rs := [11]) (by kernel_rfl) (by simp) ?_
                    refine AllReadyH.cons (o := { dst := none, op := .store 22 (.tmp 102) (.tmp 97), type := 0, pos := "law.go:134", after := #[{ on := 10, ground := .data }, { on := 5, ground := .data }, { on := 0, ground := .phase }, { on := 1, ground := .phase }, { on := 2, ground := .phase }, { on := 3, ground := .phase }, { on := 4, ground := .phase }, { on := 5, ground := .phase }, { on := 6, ground := .textOnly .lateStores }, { on := 7, ground := .textOnly .lateStores }, { on := 8, ground := .textOnly .lateStores }, { on := 9, ground := .textOnly .lateStores }], guard := none }) rfl (fun K' hK => ?_) (AllReadyH.nil)
                    · have n0 : U.cell? ⟨V12.heap.size, 0, none⟩ = some (.slice r.A0 (c.types.length + 1) r.d0) := (blk_cell HD.out.1 0).trans rfl
                      have nz := blk_free HD.out.1 0
                      have hk := blk_set HD.out.1 0 (.slice r.A0 c.types.length r.d0)
                      simp only [List.setIfInBounds_toArray, List.set_cons_zero] at hk
                      have HD2 : Hid ((U.setCell ⟨V12.heap.size, 0, none⟩ (.slice r.A0 c.types.length r.d0)).heap[V12.heap.size]? = some (.cells #[.slice r.A0 c.types.length r.d0, .slice r.A1 c.funcs.length r.d1, .slice r.A2 c.globs.length r.d2, .slice r.A3 c.tabs.length r.d3, .slice r.A4 c.mems.length r.d4, .int .i64 c.hosts, .int .i64 c.vars, .int .i64 (c.els + 1), .int .i64 (c.dats + 1), .bool c.counted] 38 (0, 0)) ∧ Below V12.heap.size V12 (U.setCell ⟨V12.heap.size, 0, none⟩ (.slice r.A0 c.types.length r.d0))) := Lib.hid ⟨hk, HD.out.2.trans ⟨rfl, rfl, rfl, by simp, fun b hb => far_set (show V12.heap.size ≠ b by omega) _⟩⟩
                      clear HD hk
                      have HD := HD2
                      clear HD2
                      go_simp
                      refine hK.out _ _ (HSB.out _ HD.out.2) (fun hS => ?_)
                      clear hK K' n0 nz
                      generalize (U.setCell ⟨V12.heap.size, 0, none⟩ (.slice r.A0 c.types.length r.d0)) = U3 at *
                      try simp only [Act.put, List.setIfInBounds_toArray, List.set_cons_zero, List.set_cons_succ]
                      refine wpAnyH_take (i := 12) (oi := { dst := some 103, op := .fieldAddr 38 (.tmp 8) 7, type := 0, pos := "law.go:134", after := #[{ on := 0, ground := .phase }, { on := 1, ground := .phase }, { on := 2, ground := .phase }, { on := 3, ground := .phase }, { on := 4, ground := .phase }, { on := 5, ground := .phase }, { on := 6, ground := .phase }, { on := 7, ground := .phase }, { on := 8, ground := .textOnly .lateStores }, { on := 9, ground := .textOnly .lateStores }, { on := 10, ground := .phase }, { on := 11, ground := .phase }], guard := none }) (v := ?_) rfl (by kernel_rfl) (by kernel_rfl) (by kernel_rfl) (fun _ _ _ h => h) (Or.inl ⟨by rfl, ?_⟩) hS ?_
                      rotate_left
                      · (intro w' hS'; obtain ⟨s0, s1, s2⟩ := hS'; go_simp) <;> with_reducible rfl
                      try simp only [Act.put, List.setIfInBounds_toArray, List.set_cons_zero, List.set_cons_succ]
                      refine wpAnyH_ready (rs := [13]) (by kernel_rfl) (by simp) ?_
                      refine AllReadyH.cons (o := { dst := none, op := .store 3 (.tmp 103) (.tmp 99), type := 0, pos := "law.go:134", after := #[{ on := 12, ground := .data }, { on := 7, ground := .data }, { on := 11, ground := .chain }, { on := 0, ground := .phase }, { on := 1, ground := .phase }, { on := 2, ground := .phase }, { on := 3, ground := .phase }, { on := 4, ground := .phase }, { on := 5, ground := .phase }, { on := 6, ground := .phase }, { on := 7, ground := .phase }, { on := 8, ground := .textOnly .lateStores }, { on := 9, ground := .textOnly .lateStores }, { on := 10, ground := .phase }, { on := 11, ground := .phase }], guard := none }) rfl (fun K' hK => ?_) (AllReadyH.nil)
                      · have n0 : U3.cell? ⟨V12.heap.size, 7, none⟩ = some (.int .i64 (c.els + 1)) := (blk_cell HD.out.1 7).trans rfl
                        have nz := blk_free HD.out.1 7
                        have hk := blk_set HD.out.1 7 (.int .i64 c.els)
                        simp only [List.setIfInBounds_toArray, List.set_cons_zero, List.set_cons_succ] at hk
                        have HD2 : Hid ((U3.setCell ⟨V12.heap.size, 7, none⟩ (.int .i64 c.els)).heap[V12.heap.size]? = some (.cells #[.slice r.A0 c.types.length r.d0, .slice r.A1 c.funcs.length r.d1, .slice r.A2 c.globs.length r.d2, .slice r.A3 c.tabs.length r.d3, .slice r.A4 c.mems.length r.d4, .int .i64 c.hosts, .int .i64 c.vars, .int .i64 c.els, .int .i64 (c.dats + 1), .bool c.counted] 38 (0, 0)) ∧ Below V12.heap.size V12 (U3.setCell ⟨V12.heap.size, 7, none⟩ (.int .i64 c.els))) := Lib.hid ⟨hk, HD.out.2.trans ⟨rfl, rfl, rfl, by simp, fun b hb => far_set (show V12.heap.size ≠ b by omega) _⟩⟩
                        clear HD hk
                        have HD := HD2
                        clear HD2
                        go_simp
                        refine hK.out _ _ (HSB.out _ HD.out.2) (fun hS => ?_)
                        clear hK K' n0 nz
                        generalize (U3.setCell ⟨V12.heap.size, 7, none⟩ (.int .i64 c.els)) = U4 at *
                        try simp only [Act.put, List.setIfInBounds_toArray, List.set_cons_zero, List.set_cons_succ]
                        refine wpAnyH_take (i := 14) (oi := { dst := some 104, op := .fieldAddr 38 (.tmp 8) 8, type := 0, pos := "law.go:134", after := #[{ on := 0, ground := .phase }, { on := 1, ground := .phase }, { on := 2, ground := .phase }, { on := 3, ground := .phase }, { on := 4, ground := .phase }, { on := 5, ground := .phase }, { on := 6, ground := .phase }, { on := 7, ground := .phase }, { on := 8, ground := .phase }, { on := 9, ground := .phase }, { on := 10, ground := .phase }, { on := 11, ground := .phase }, { on := 12, ground := .phase }, { on := 13, ground := .phase }], guard := none }) (v := ?_) rfl (by kernel_rfl) (by kernel_rfl) (by kernel_rfl) (fun _ _ _ h => h) (Or.inl ⟨by rfl, ?_⟩) hS ?_
                        rotate_left
                        · (intro w' hS'; obtain ⟨s0, s1, s2⟩ := hS'; go_simp) <;> with_reducible rfl
                        try simp only [Act.put, List.setIfInBounds_toArray, List.set_cons_zero, List.set_cons_succ]
                        refine wpAnyH_ready (rs := [15]) (by kernel_rfl) (by simp) ?_
                        refine AllReadyH.cons (o := { dst := none, op := .store 3 (.tmp 104) (.tmp 101), type := 0, pos := "law.go:134", after := #[{ on := 14, ground := .data }, { on := 9, ground := .data }, { on := 13, ground := .chain }, { on := 0, ground := .phase }, { on := 1, ground := .phase }, { on := 2, ground := .phase }, { on := 3, ground := .phase }, { on := 4, ground := .phase }, { on := 5, ground := .phase }, { on := 6, ground := .phase }, { on := 7, ground := .phase }, { on := 8, ground := .phase }, { on := 9, ground := .phase }, { on := 10, ground := .phase }, { on := 11, ground := .phase }, { on := 12, ground := .phase }, { on := 13, ground := .phase }], guard := none }) rfl (fun K' hK => ?_) (AllReadyH.nil)
                        · have n0 : U4.cell? ⟨V12.heap.size, 8, none⟩ = some (.int .i64 (c.dats + 1)) := (blk_cell HD.out.1 8).trans rfl
                          have nz := blk_free HD.out.1 8
                          have hk := blk_set HD.out.1 8 (.int .i64 c.dats)
                          simp only [List.setIfInBounds_toArray, List.set_cons_zero, List.set_cons_succ] at hk
                          have HD2 : Hid ((U4.setCell ⟨V12.heap.size, 8, none⟩ (.int .i64 c.dats)).heap[V12.heap.size]? = some (.cells #[.slice r.A0 c.types.length r.d0, .slice r.A1 c.funcs.length r.d1, .slice r.A2 c.globs.length r.d2, .slice r.A3 c.tabs.length r.d3, .slice r.A4 c.mems.length r.d4, .int .i64 c.hosts, .int .i64 c.vars, .int .i64 c.els, .int .i64 c.dats, .bool c.counted] 38 (0, 0)) ∧ Below V12.heap.size V12 (U4.setCell ⟨V12.heap.size, 8, none⟩ (.int .i64 c.dats))) := Lib.hid ⟨hk, HD.out.2.trans ⟨rfl, rfl, rfl, by simp, fun b hb => far_set (show V12.heap.size ≠ b by omega) _⟩⟩
                          clear HD hk
                          have HD := HD2
                          clear HD2
                          go_simp
                          refine hK.out _ _ (HSB.out _ HD.out.2) (fun hS => ?_)
                          clear hK K' n0 nz
                          generalize (U4.setCell ⟨V12.heap.size, 8, none⟩ (.int .i64 c.dats)) = U5 at *
                          try simp only [Act.put, List.setIfInBounds_toArray, List.set_cons_zero, List.set_cons_succ]
                          refine wpAnyH_done (by kernel_rfl) ?_ _
                          clear hS HSL
                          have HSA := Lib.hid (rsamec_yes q r c U5 (HCC.out U5 HD.out.2).1 (HCC.out U5 HD.out.2).2 HFT.out.1 HFT.out.2)
                          obtain ⟨c0, c1, c2, c3, c4, c5, c6, c7, c8, c9⟩ := (HCC2.out U5 HD.out.2)
                          have e0 : U5.cell? ⟨V12.heap.size, 0, none⟩ = some (.slice r.A0 c.types.length r.d0) := (blk_cell HD.out.1 0).trans rfl
                          have e1 : U5.cell? ⟨V12.heap.size, 1, none⟩ = some (.slice r.A1 c.funcs.length r.d1) := (blk_cell HD.out.1 1).trans rfl
                          have e2 : U5.cell? ⟨V12.heap.size, 2, none⟩ = some (.slice r.A2 c.globs.length r.d2) := (blk_cell HD.out.1 2).trans rfl
                          have e3 : U5.cell? ⟨V12.heap.size, 3, none⟩ = some (.slice r.A3 c.tabs.length r.d3) := (blk_cell HD.out.1 3).trans rfl
                          have e4 : U5.cell? ⟨V12.heap.size, 4, none⟩ = some (.slice r.A4 c.mems.length r.d4) := (blk_cell HD.out.1 4).trans rfl
                          have e5 : U5.cell? ⟨V12.heap.size, 5, none⟩ = some (.int .i64 c.hosts) := (blk_cell HD.out.1 5).trans rfl
                          have e6 : U5.cell? ⟨V12.heap.size, 6, none⟩ = some (.int .i64 c.vars) := (blk_cell HD.out.1 6).trans rfl
                          have e7 : U5.cell? ⟨V12.heap.size, 7, none⟩ = some (.int .i64 c.els) := (blk_cell HD.out.1 7).trans rfl
                          have e8 : U5.cell? ⟨V12.heap.size, 8, none⟩ = some (.int .i64 c.dats) := (blk_cell HD.out.1 8).trans rfl
                          have e9 : U5.cell? ⟨V12.heap.size, 9, none⟩ = some (.bool c.counted) := (blk_cell HD.out.1 9).trans rfl
                          have HWE := Lib.hid (HWW.out U5 HD.out.2)
                          clear HD HCC HCC2 HSB HWW
                          go_wp2_with fail
                          refine HSA.out.mono ?_
                          rintro en VE ⟨rfl, hb⟩
                          go_wp2
                          go_ret
                          exact ⟨rfl, HWE.out.trans (hb.mono HWE.out.size)⟩
      · go_simp
        have HAL : Hid (Below V.heap.size V (V.alloc (.cells #[.slice B1 t.1.length b1, .slice B2 t.2.length b2] 46))) := Lib.hid ((Below.refl _ _).alloc (Nat.le_refl _) _)
        have HZ : Hid (V.heap.size < (V.alloc (.cells #[.slice B1 t.1.length b1, .slice B2 t.2.length b2] 46)).heap.size) := Lib.hid (by simp)
        have HI2 := Lib.hid (HI.out.trans (HAL.out.mono HZS.out))
        have HZS2 : Hid (vs ≤ (V.alloc (.cells #[.slice B1 t.1.length b1, .slice B2 t.2.length b2] 46)).heap.size) := Lib.hid (Nat.le_trans HZS.out (Nat.le_of_lt HZ.out))
        have HPn : Hid ((V.alloc (.cells #[.slice B1 t.1.length b1, .slice B2 t.2.length b2] 46)).heap[V.heap.size]? = some (.cells #[.slice B1 t.1.length b1, .slice B2 t.2.length b2] 46 (0, 0)) ∧ vs ≤ V.heap.size ∧ V.heap.size < (V.alloc (.cells #[.slice B1 t.1.length b1, .slice B2 t.2.length b2] 46)).heap.size) := Lib.hid ⟨heap_alloc_new V _, HZS.out, HZ.out⟩
        clear HI HAL HZ HZS
        generalize (V.alloc (.cells #[.slice B1 t.1.length b1, .slice B2 t.2.length b2] 46)) = X1 at *
        generalize V.heap.size = b5 at *
        have HI := HI2
        have HZS := HZS2
        have HP := HPn
        clear HI2 HZS2 HPn
        refine hK.out _ _ (HSB.out _ HI.out) (fun hS => ?_)
        clear hK K'
        try simp only [Act.put, List.setIfInBounds_toArray, List.set_cons_zero, List.set_cons_succ]
        refine wpAnyH_ready (rs := [0]) (by kernel_rfl) (by simp) ?_
        refine AllReadyH.cons (o := { dst := some 35, op := .buildSlice 22 0 #[], type := 22, pos := "law.go:127", after := #[], guard := none }) rfl (fun K' hK => ?_) (AllReadyH.nil)
        · go_simp
          have HAL : Hid (Below X1.heap.size X1 (X1.alloc (.cells #[] 46))) := Lib.hid ((Below.refl _ _).alloc (Nat.le_refl _) _)
          have HZ : Hid (X1.heap.size < (X1.alloc (.cells #[] 46)).heap.size) := Lib.hid (by simp)
          have HI2 := Lib.hid (HI.out.trans (HAL.out.mono HZS.out))
          have HZS2 : Hid (vs ≤ (X1.alloc (.cells #[] 46)).heap.size) := Lib.hid (Nat.le_trans HZS.out (Nat.le_of_lt HZ.out))
          have HP2 := Lib.hid (And.intro ((HAL.out.block _ HP.out.2.2).trans HP.out.1) (And.intro HP.out.2.1 (Nat.lt_trans HP.out.2.2 HZ.out)))
          have HB05 : Hid (X1.heap.size ≠ b5) := Lib.hid (by have := HP.out.2.2; omega)
          have HEn : Hid ((X1.alloc (.cells #[] 46)).heap[X1.heap.size]? = some (.cells #[] 46 (0, 0)) ∧ vs ≤ X1.heap.size ∧ X1.heap.size < (X1.alloc (.cells #[] 46)).heap.size) := Lib.hid ⟨heap_alloc_new X1 _, HZS.out, HZ.out⟩
          clear HI HAL HZ HZS HP
          generalize (X1.alloc (.cells #[] 46)) = X2 at *
          generalize X1.heap.size = b0 at *
          have HI := HI2
          have HZS := HZS2
          have HP := HP2
          have HE := HEn
          clear HI2 HZS2 HEn HP2
          refine hK.out _ _ (HSB.out _ HI.out) (fun hS => ?_)
          clear hK K'
          try simp only [Act.put, List.setIfInBounds_toArray, List.set_cons_zero, List.set_cons_succ]
          refine wpAnyH_ready (rs := [3]) (by kernel_rfl) (by simp) ?_
          refine AllReadyH.cons (o := { dst := some 38, op := .call { callee := .builtin .append, args := #[.tmp 35, .tmp 37], argTypes := #[22, 22] }, type := 22, pos := "law.go:127", after := #[{ on := 0, ground := .data }, { on := 2, ground := .data }], guard := none }) rfl (fun K' hK => ?_) (AllReadyH.nil)
          · refine app_step tyT rfl (.tmp 35) (.tmp 37) rfl (A := some ⟨b0, 0, none⟩) (n := 0) (c := 0) rfl (own_empty X2 vs _ _ b0 HE.out.2.1 HE.out.1) (X := p.A0) (m := g.types.length) (cx := p.c0) rfl (HLE.out X2 HI.out) HON.out (by have := HN7.out; omega) HZS.out ?_
            intro R3 d3 X3 ho hg hob
            simp only [Nat.zero_add, List.nil_append] at ho hob ⊢
            have HO := Lib.hid ho
            have HI2 : Hid (Below vs V X3) := Lib.hid (HI.out.grown hg HZS.out (fun k hk => by have hk : some b0 = some k := hk; injection hk with hk; have := HE.out.2.1; omega))
            have HP2 := Lib.hid (And.intro ((hg.block _ HP.out.2.2 (fun e => HB05.out (by have e : some _ = some b0 := e; injection e with e; exact e.symm))).trans HP.out.1) (And.intro HP.out.2.1 (Nat.lt_of_lt_of_le HP.out.2.2 hg.size)))
            have HZS2 : Hid (vs ≤ X3.heap.size) := Lib.hid (Nat.le_trans HZS.out hg.size)
            clear ho hg hob HI HE HZS HP
            have HI := HI2
            have HZS := HZS2
            clear HI2 HZS2
            have HP := HP2
            clear HP2
            refine hK.out _ _ (HSB.out _ HI.out) (fun hS => ?_)
            clear hK K'
            try simp only [Act.put, List.setIfInBounds_toArray, List.set_cons_zero, List.set_cons_succ]
            refine wpAnyH_ready (rs := [6]) (by kernel_rfl) (by simp) ?_
            refine AllReadyH.cons (o := { dst := some 41, op := .call { callee := .builtin .append, args := #[.tmp 38, .tmp 40], argTypes := #[22, 22] }, type := 22, pos := "law.go:127", after := #[{ on := 3, ground := .data }, { on := 5, ground := .data }, { on := 3, ground := .chain }], guard := none }) rfl (fun K' hK => ?_) (AllReadyH.nil)
            · refine app_step tyT rfl (.tmp 38) (.tmp 40) rfl (A := R3) (n := g.types.length) (c := d3) rfl HO.out (X := some ⟨b5, 0, none⟩) (m := 1) (cx := 1) rfl (src_blk HP.out.1 rfl) (by simp [Value.oneCell']) (by have := HN7.out; omega) HZS.out ?_
              intro R4 d4 X4 ho hg hob
              have HR := Lib.hid ho
              have HI2 : Hid (Below vs V X4) := Lib.hid (HI.out.grown hg HZS.out (fun k hk => (rowLt HO.out k hk).1))
              clear ho hg hob HI HO HP
              have HI := HI2
              clear HI2
              have hk := (HI.out.block _ HVB.out.2.2.1).trans HVB.out.2.1
              have nc : X4.cell? ⟨V3.heap.size + 1, 0, none⟩ = some (.slice p.A0 g.types.length p.c0) := (blk_cell hk 0).trans rfl
              have nz := blk_free hk 0
              have HKS := Lib.hid (blk_set hk 0 (.slice R4 (g.types.length + 1) d4))
              have HSX : Hid ((∀ b, b < V3.heap.size + 1 → (X4.setCell ⟨V3.heap.size + 1, 0, none⟩ (.slice R4 (g.types.length + 1) d4)).heap[b]? = V.heap[b]?) ∧ V3.heap.size + 1 < (X4.setCell ⟨V3.heap.size + 1, 0, none⟩ (.slice R4 (g.types.length + 1) d4)).heap.size ∧ (X4.setCell ⟨V3.heap.size + 1, 0, none⟩ (.slice R4 (g.types.length + 1) d4)).os = V.os ∧ (X4.setCell ⟨V3.heap.size + 1, 0, none⟩ (.slice R4 (g.types.length + 1) d4)).tape = V.tape ∧ (X4.setCell ⟨V3.heap.size + 1, 0, none⟩ (.slice R4 (g.types.length + 1) d4)).output = V.output ∧ V.heap.size ≤ (X4.setCell ⟨V3.heap.size + 1, 0, none⟩ (.slice R4 (g.types.length + 1) d4)).heap.size) := Lib.hid ⟨fun b hb => (far_set (show V3.heap.size + 1 ≠ b by omega) _).trans (HI.out.block b (by have := HVB.out.2.2; omega)), by have h1 := HVC.out _ HI.out; simpa using h1, HI.out.os, HI.out.tape, HI.out.output, by simpa using HI.out.size⟩
              have HRS : Hid ((X4.setCell ⟨V3.heap.size + 1, 0, none⟩ (.slice R4 (g.types.length + 1) d4)).ownsRow vs 46 2 (.slice R4 (g.types.length + 1) d4) (g.types.length + 1) (cellsE es0 ++ [.slice B1 t.1.length b1, .slice B2 t.2.length b2])) := Lib.hid (rowSame HR.out fun b hb => far_set (by have := (rowLt HR.out b hb).1; have := HVB.out.2.2; show V3.heap.size + 1 ≠ b; omega) _)
              have HSS : Hid ((ST w.heap.size (w.heap.size + 1) p.A0 g.types.length p.c0 B1 t.1.length b1 B2 t.2.length b2) (X4.setCell ⟨V3.heap.size + 1, 0, none⟩ (.slice R4 (g.types.length + 1) d4))) := Lib.hid (st_keep (HSB.out _ (Below.refl _ _)) (HSX.out.1 _ (by have := HZ3.out; omega)) (HSX.out.1 _ (by have := HZ3.out; omega)))
              simp only [List.setIfInBounds_toArray, List.set_cons_zero] at HKS
              clear HR hk
              refine hK.out _ _ (HSB.out _ HI.out) (fun hS => ?_)
              clear hK K'
              try simp only [Act.put, List.setIfInBounds_toArray, List.set_cons_zero, List.set_cons_succ]
              refine wpAnyH_take (i := 7) (oi := { dst := some 42, op := .fieldAddr 33 (.tmp 7) 0, type := 0, pos := "law.go:127", after := #[{ on := 0, ground := .phase }, { on := 1, ground := .phase }, { on := 2, ground := .phase }, { on := 3, ground := .phase }, { on := 4, ground := .phase }, { on := 5, ground := .phase }, { on := 6, ground := .phase }], guard := none }) (v := ?_) rfl (by kernel_rfl) (by kernel_rfl) (by kernel_rfl) (fun _ _ _ h => h) (Or.inl ⟨by rfl, ?_⟩) hS ?_
              rotate_left
              · (intro w' hS'; obtain ⟨s0, s1, s2⟩ := hS'; go_simp) <;> with_reducible rfl
              try simp only [Act.put, List.setIfInBounds_toArray, List.set_cons_zero, List.set_cons_succ]
              refine wpAnyH_ready (rs := [8]) (by kernel_rfl) (by simp) ?_
              refine AllReadyH.cons (o := { dst := none, op := .store 22 (.tmp 42) (.tmp 41), type := 0, pos := "law.go:127", after := #[{ on := 7, ground := .data }, { on := 6, ground := .data }, { on := 6, ground := .chain }, { on := 0, ground := .phase }, { on := 1, ground := .phase }, { on := 2, ground := .phase }, { on := 3, ground := .phase }, { on := 4, ground := .phase }, { on := 5, ground := .phase }, { on := 6, ground := .phase }], guard := none }) rfl (fun K' hK => ?_) (AllReadyH.nil)
              · go_simp
                refine hK.out _ _ HSS.out (fun hS => ?_)
                clear hK K' nc nz HSS HI HZS
                generalize X4.setCell ⟨V3.heap.size + 1, 0, none⟩ (.slice R4 (g.types.length + 1) d4) = V9 at *
                try simp only [Act.put, List.setIfInBounds_toArray, List.set_cons_zero, List.set_cons_succ]
                refine wpAnyH_done (by kernel_rfl) ?_ _
                clear hS HLE HSB HON
                have HX9 := HSX
                have HK9 := HKS
                have HL0 : Hid (Lst ftR V9 (fun b => b ≠ V3.heap.size + 1) R4 d4 (g.types ++ [t])) := Lib.hid (own_more (R := ftR) HES0.out HEN0.out (fun b hb hlt => ⟨(HX9.out.1 b (by have := HZ3.out; omega)).trans (HBW.out b hlt), by have := HZ3.out; omega⟩) (ftR_at.2 ⟨B1, b1, B2, b2, rfl, HT1.out.keep fun b hb hlt => ⟨(HX9.out.1 b (by have := HZ3.out; omega)).trans (HBW.out b hlt), by have := HZ3.out; omega⟩, HT2.out.keep fun b hb hlt => ⟨(HX9.out.1 b (by have := HZ3.out; omega)).trans (HBW.out b hlt), by have := HZ3.out; omega⟩⟩) HRS.out rfl (fun b hb => by have := (rowLt HRS.out b hb).1; have := HVB.out.2.2; omega))
                clear HSX HKS HRS
                have m8 : V9.cell? ⟨w.heap.size, 8, none⟩ = some (.slice p.A8 g.els.length p.c8) := (blk_cell ((HX9.out.1 _ (by have := HZ3.out; omega)).trans HMV.out.1) 8).trans rfl
                have ma : (V9.alloc (.cells #[] 49)).cell? ⟨w.heap.size, 8, none⟩ = some (.slice p.A8 g.els.length p.c8) := by rw [World.cell?_of_block (((Below.refl _ _).alloc (Nat.le_refl _) _ : Below V9.heap.size V9 (V9.alloc (.cells #[] 49))).block w.heap.size (by have := HX9.out.2.1; have := HZ3.out; omega))]; exact m8
                have HSR8 : Hid (Src (V9.alloc (.cells #[] 49)) 3 p.A8 g.els.length p.c8 (cellsE es8)) := Lib.hid (by
                  have h := src_ents (HLE8.out (V9.alloc (.cells #[] 49)) fun b hb => (((Below.refl _ _).alloc (Nat.le_refl _) _ : Below V9.heap.size V9 (V9.alloc (.cells #[] 49))).block b (by have := HX9.out.2.1; have := HZ3.out; omega)).trans (HX9.out.1 b (by have := HZ3.out; omega)))
                  rwa [show es8.length = g.els.length from by rw [← HES8.out]; simp] at h)
                go_upto_region 11 with (at_builtin; first | (refine app_list tyEl rfl (.tmp 43) (.tmp 45) rfl (A := some ⟨V9.heap.size, 0, none⟩) (n := 0) (c := 0) rfl (own_empty (V9.alloc (.cells #[] 49)) V9.heap.size _ _ V9.heap.size (Nat.le_refl _) (heap_alloc_new V9 _)) (X := p.A8) (m := g.els.length) (cx := p.c8) rfl HSR8.out HON8.out (by have := HN7.out; omega) (by simp) ?_; intro R5 d5 Y8 ho hg hob; simp only [Nat.zero_add, List.nil_append] at ho hob ⊢; have HOY := Lib.hid ho; have HIY : Hid (Below V9.heap.size V9 Y8 ∧ V9.heap.size ≤ Y8.heap.size) := Lib.hid ⟨(((Below.refl _ _).alloc (Nat.le_refl _) _ : Below V9.heap.size V9 (V9.alloc (.cells #[] 49))).grown hg (by simp) (fun k hk => by have hk : some V9.heap.size = some k := hk; injection hk with hk; omega)), Nat.le_trans (by simp) hg.size⟩; have HIA : Hid (Below V9.heap.size V9 (Y8.alloc (.cells #[.int .i64 1, .slice none 0 0, .slice none 0 0] 49)) ∧ V9.heap.size ≤ (Y8.alloc (.cells #[.int .i64 1, .slice none 0 0, .slice none 0 0] 49)).heap.size) := Lib.hid ⟨HIY.out.1.trans (((Below.refl _ _).alloc (Nat.le_refl _) _).mono HIY.out.2), by have := HIY.out.2; simp; omega⟩; have HOA : Hid ((Y8.alloc (.cells #[.int .i64 1, .slice none 0 0, .slice none 0 0] 49)).ownsRow V9.heap.size 49 3 (.slice R5 g.els.length d5) g.els.length (cellsE es8)) := Lib.hid (rowSame HOY.out fun gb hgb => ((Below.refl _ _).alloc (Nat.le_refl _) _ : Below Y8.heap.size Y8 (Y8.alloc (.cells #[.int .i64 1, .slice none 0 0, .slice none 0 0] 49))).block gb (rowLt HOY.out gb hgb).2); clear ho hg hob) | (refine app_list tyEl rfl (.tmp 46) (.tmp 48) rfl (A := R5) (n := g.els.length) (c := d5) rfl HOA.out (X := some ⟨Y8.heap.size, 0, none⟩) (m := 1) (cx := 1) rfl (src_new Y8 #[.int .i64 1, .slice none 0 0, .slice none 0 0] 49 3 rfl) (by simp [Value.oneCell']) (by have := HN7.out; omega) HIA.out.2 ?_; intro R6 d6 Z8 ho hg hob; have HRZ := Lib.hid ho; have HIZ : Hid (Below V9.heap.size V9 Z8) := Lib.hid (HIA.out.1.grown hg HIA.out.2 (fun k hk => (rowLt HOA.out k hk).1)); have hk := (HIZ.out.block _ HX9.out.2.1).trans HK9.out; have nc : Z8.cell? ⟨V3.heap.size + 1, 8, none⟩ = some (.slice p.A8 g.els.length p.c8) := (blk_cell hk 8).trans rfl; have nz := blk_free hk 8; have HK10 := Lib.hid (blk_set hk 8 (.slice R6 (g.els.length + 1) d6)); clear ho hg hob hk))
                simp only [List.setIfInBounds_toArray, List.set_cons_zero, List.set_cons_succ] at HK10
                have HSY : Hid ((∀ b, b < V9.heap.size → b ≠ V3.heap.size + 1 → (Z8.setCell ⟨V3.heap.size + 1, 8, none⟩ (.slice R6 (g.els.length + 1) d6)).heap[b]? = V9.heap[b]?) ∧ V9.heap.size ≤ (Z8.setCell ⟨V3.heap.size + 1, 8, none⟩ (.slice R6 (g.els.length + 1) d6)).heap.size ∧ (Z8.setCell ⟨V3.heap.size + 1, 8, none⟩ (.slice R6 (g.els.length + 1) d6)).os = V9.os ∧ (Z8.setCell ⟨V3.heap.size + 1, 8, none⟩ (.slice R6 (g.els.length + 1) d6)).tape = V9.tape ∧ (Z8.setCell ⟨V3.heap.size + 1, 8, none⟩ (.slice R6 (g.els.length + 1) d6)).output = V9.output) := Lib.hid ⟨fun b hb hne => (far_set (fun e => hne e.symm) _).trans (HIZ.out.block b hb), by simpa using HIZ.out.size, HIZ.out.os, HIZ.out.tape, HIZ.out.output⟩
                have HX10 : Hid ((∀ b, b < V3.heap.size + 1 → (Z8.setCell ⟨V3.heap.size + 1, 8, none⟩ (.slice R6 (g.els.length + 1) d6)).heap[b]? = V.heap[b]?) ∧ V3.heap.size + 1 < (Z8.setCell ⟨V3.heap.size + 1, 8, none⟩ (.slice R6 (g.els.length + 1) d6)).heap.size ∧ (Z8.setCell ⟨V3.heap.size + 1, 8, none⟩ (.slice R6 (g.els.length + 1) d6)).os = V.os ∧ (Z8.setCell ⟨V3.heap.size + 1, 8, none⟩ (.slice R6 (g.els.length + 1) d6)).tape = V.tape ∧ (Z8.setCell ⟨V3.heap.size + 1, 8, none⟩ (.slice R6 (g.els.length + 1) d6)).output = V.output ∧ V.heap.size ≤ (Z8.setCell ⟨V3.heap.size + 1, 8, none⟩ (.slice R6 (g.els.length + 1) d6)).heap.size) := Lib.hid ⟨fun b hb => (HSY.out.1 b (by have := HX9.out.2.1; omega) (by omega)).trans (HX9.out.1 b hb), by have := HX9.out.2.1; have := HSY.out.2.1; omega, HSY.out.2.2.1.trans HX9.out.2.2.1, HSY.out.2.2.2.1.trans HX9.out.2.2.2.1, HSY.out.2.2.2.2.trans HX9.out.2.2.2.2.1, Nat.le_trans HX9.out.2.2.2.2.2 HSY.out.2.1⟩
                have HRF : Hid ((Z8.setCell ⟨V3.heap.size + 1, 8, none⟩ (.slice R6 (g.els.length + 1) d6)).ownsRow V9.heap.size 49 3 (.slice R6 (g.els.length + 1) d6) (g.els.length + 1) (cellsE es8 ++ [.int .i64 1, .slice none 0 0, .slice none 0 0])) := Lib.hid (rowSame HRZ.out fun b hb => far_set (by have := (rowLt HRZ.out b hb).1; have := HX9.out.2.1; show V3.heap.size + 1 ≠ b; omega) _)
                have HL8 : Hid (Lst elR (Z8.setCell ⟨V3.heap.size + 1, 8, none⟩ (.slice R6 (g.els.length + 1) d6)) (fun b => b ≠ V3.heap.size + 1) R6 d6 (g.els ++ [pasE])) := Lib.hid (own_more (R := elR) HES8.out HEN8.out (fun b hb hlt => ⟨(HX10.out.1 b (by have := HZ3.out; omega)).trans (HBW.out b hlt), by have := HZ3.out; omega⟩) (at_pasE _ _) HRF.out rfl (fun b hb => by have := (rowLt HRF.out b hb).1; have := HX9.out.2.1; omega))
                have HL0' : Hid (Lst ftR (Z8.setCell ⟨V3.heap.size + 1, 8, none⟩ (.slice R6 (g.els.length + 1) d6)) (fun b => b ≠ V3.heap.size + 1) R4 d4 (g.types ++ [t])) := Lib.hid (HL0.out.keep fun b hb hlt => ⟨HSY.out.1 b hlt hb, hb⟩)
                clear HL0
                have HL0 := HL0'
                clear HL0'
                clear HIZ HRZ HRF HSY HIY HIA HOA HOY nc nz m8 ma HSR8 HX9 HK9
                generalize (Z8.setCell ⟨V3.heap.size + 1, 8, none⟩ (.slice R6 (g.els.length + 1) d6)) = V10 at *
                have m10 : V10.cell? ⟨w.heap.size, 10, none⟩ = some (.slice p.A10 g.dats.length p.c10) := (blk_cell ((HX10.out.1 _ (by have := HZ3.out; omega)).trans HMV.out.1) 10).trans rfl
                have ma : (V10.alloc (.cells #[] 52)).cell? ⟨w.heap.size, 10, none⟩ = some (.slice p.A10 g.dats.length p.c10) := by rw [World.cell?_of_block (((Below.refl _ _).alloc (Nat.le_refl _) _ : Below V10.heap.size V10 (V10.alloc (.cells #[] 52))).block w.heap.size (by have := HX10.out.2.1; have := HZ3.out; omega))]; exact m10
                have HSR10 : Hid (Src (V10.alloc (.cells #[] 52)) 3 p.A10 g.dats.length p.c10 (cellsE es10)) := Lib.hid (by
                  have h := src_ents (HLE10.out (V10.alloc (.cells #[] 52)) fun b hb => (((Below.refl _ _).alloc (Nat.le_refl _) _ : Below V10.heap.size V10 (V10.alloc (.cells #[] 52))).block b (by have := HX10.out.2.1; have := HZ3.out; omega)).trans (HX10.out.1 b (by have := HZ3.out; omega)))
                  rwa [show es10.length = g.dats.length from by rw [← HES10.out]; simp] at h)
                go_upto_region 12 with (at_builtin; first | (refine app_list tyDa rfl (.tmp 51) (.tmp 53) rfl (A := some ⟨V10.heap.size, 0, none⟩) (n := 0) (c := 0) rfl (own_empty (V10.alloc (.cells #[] 52)) V10.heap.size _ _ V10.heap.size (Nat.le_refl _) (heap_alloc_new V10 _)) (X := p.A10) (m := g.dats.length) (cx := p.c10) rfl HSR10.out HON10.out (by have := HN7.out; omega) (by simp) ?_; intro R5 d5 Y10 ho hg hob; simp only [Nat.zero_add, List.nil_append] at ho hob ⊢; have HOY := Lib.hid ho; have HIY : Hid (Below V10.heap.size V10 Y10 ∧ V10.heap.size ≤ Y10.heap.size) := Lib.hid ⟨(((Below.refl _ _).alloc (Nat.le_refl _) _ : Below V10.heap.size V10 (V10.alloc (.cells #[] 52))).grown hg (by simp) (fun k hk => by have hk : some V10.heap.size = some k := hk; injection hk with hk; omega)), Nat.le_trans (by simp) hg.size⟩; have HIA : Hid (Below V10.heap.size V10 (Y10.alloc (.cells #[.int .i64 1, .slice none 0 0, .slice none 0 0] 52)) ∧ V10.heap.size ≤ (Y10.alloc (.cells #[.int .i64 1, .slice none 0 0, .slice none 0 0] 52)).heap.size) := Lib.hid ⟨HIY.out.1.trans (((Below.refl _ _).alloc (Nat.le_refl _) _).mono HIY.out.2), by have := HIY.out.2; simp; omega⟩; have HOA : Hid ((Y10.alloc (.cells #[.int .i64 1, .slice none 0 0, .slice none 0 0] 52)).ownsRow V10.heap.size 52 3 (.slice R5 g.dats.length d5) g.dats.length (cellsE es10)) := Lib.hid (rowSame HOY.out fun gb hgb => ((Below.refl _ _).alloc (Nat.le_refl _) _ : Below Y10.heap.size Y10 (Y10.alloc (.cells #[.int .i64 1, .slice none 0 0, .slice none 0 0] 52))).block gb (rowLt HOY.out gb hgb).2); clear ho hg hob) | (refine app_list tyDa rfl (.tmp 54) (.tmp 56) rfl (A := R5) (n := g.dats.length) (c := d5) rfl HOA.out (X := some ⟨Y10.heap.size, 0, none⟩) (m := 1) (cx := 1) rfl (src_new Y10 #[.int .i64 1, .slice none 0 0, .slice none 0 0] 52 3 rfl) (by simp [Value.oneCell']) (by have := HN7.out; omega) HIA.out.2 ?_; intro R7 d7 Z10 ho hg hob; have HRZ := Lib.hid ho; have HIZ : Hid (Below V10.heap.size V10 Z10) := Lib.hid (HIA.out.1.grown hg HIA.out.2 (fun k hk => (rowLt HOA.out k hk).1)); have hk := (HIZ.out.block _ HX10.out.2.1).trans HK10.out; have nc : Z10.cell? ⟨V3.heap.size + 1, 10, none⟩ = some (.slice p.A10 g.dats.length p.c10) := (blk_cell hk 10).trans rfl; have nz := blk_free hk 10; have HK11 := Lib.hid (blk_set hk 10 (.slice R7 (g.dats.length + 1) d7)); clear ho hg hob hk))
                simp only [List.setIfInBounds_toArray, List.set_cons_zero, List.set_cons_succ] at HK11
                have HSY : Hid ((∀ b, b < V10.heap.size → b ≠ V3.heap.size + 1 → (Z10.setCell ⟨V3.heap.size + 1, 10, none⟩ (.slice R7 (g.dats.length + 1) d7)).heap[b]? = V10.heap[b]?) ∧ V10.heap.size ≤ (Z10.setCell ⟨V3.heap.size + 1, 10, none⟩ (.slice R7 (g.dats.length + 1) d7)).heap.size ∧ (Z10.setCell ⟨V3.heap.size + 1, 10, none⟩ (.slice R7 (g.dats.length + 1) d7)).os = V10.os ∧ (Z10.setCell ⟨V3.heap.size + 1, 10, none⟩ (.slice R7 (g.dats.length + 1) d7)).tape = V10.tape ∧ (Z10.setCell ⟨V3.heap.size + 1, 10, none⟩ (.slice R7 (g.dats.length + 1) d7)).output = V10.output) := Lib.hid ⟨fun b hb hne => (far_set (fun e => hne e.symm) _).trans (HIZ.out.block b hb), by simpa using HIZ.out.size, HIZ.out.os, HIZ.out.tape, HIZ.out.output⟩
                have HX11 : Hid ((∀ b, b < V3.heap.size + 1 → (Z10.setCell ⟨V3.heap.size + 1, 10, none⟩ (.slice R7 (g.dats.length + 1) d7)).heap[b]? = V.heap[b]?) ∧ V3.heap.size + 1 < (Z10.setCell ⟨V3.heap.size + 1, 10, none⟩ (.slice R7 (g.dats.length + 1) d7)).heap.size ∧ (Z10.setCell ⟨V3.heap.size + 1, 10, none⟩ (.slice R7 (g.dats.length + 1) d7)).os = V.os ∧ (Z10.setCell ⟨V3.heap.size + 1, 10, none⟩ (.slice R7 (g.dats.length + 1) d7)).tape = V.tape ∧ (Z10.setCell ⟨V3.heap.size + 1, 10, none⟩ (.slice R7 (g.dats.length + 1) d7)).output = V.output ∧ V.heap.size ≤ (Z10.setCell ⟨V3.heap.size + 1, 10, none⟩ (.slice R7 (g.dats.length + 1) d7)).heap.size) := Lib.hid ⟨fun b hb => (HSY.out.1 b (by have := HX10.out.2.1; omega) (by omega)).trans (HX10.out.1 b hb), by have := HX10.out.2.1; have := HSY.out.2.1; omega, HSY.out.2.2.1.trans HX10.out.2.2.1, HSY.out.2.2.2.1.trans HX10.out.2.2.2.1, HSY.out.2.2.2.2.trans HX10.out.2.2.2.2.1, Nat.le_trans HX10.out.2.2.2.2.2 HSY.out.2.1⟩
                have HRF : Hid ((Z10.setCell ⟨V3.heap.size + 1, 10, none⟩ (.slice R7 (g.dats.length + 1) d7)).ownsRow V10.heap.size 52 3 (.slice R7 (g.dats.length + 1) d7) (g.dats.length + 1) (cellsE es10 ++ [.int .i64 1, .slice none 0 0, .slice none 0 0])) := Lib.hid (rowSame HRZ.out fun b hb => far_set (by have := (rowLt HRZ.out b hb).1; have := HX10.out.2.1; show V3.heap.size + 1 ≠ b; omega) _)
                have HL10 : Hid (Lst datR (Z10.setCell ⟨V3.heap.size + 1, 10, none⟩ (.slice R7 (g.dats.length + 1) d7)) (fun b => b ≠ V3.heap.size + 1) R7 d7 (g.dats ++ [pasD])) := Lib.hid (own_more (R := datR) HES10.out HEN10.out (fun b hb hlt => ⟨(HX11.out.1 b (by have := HZ3.out; omega)).trans (HBW.out b hlt), by have := HZ3.out; omega⟩) (at_pasD _ _) HRF.out rfl (fun b hb => by have := (rowLt HRF.out b hb).1; have := HX10.out.2.1; omega))
                have HL0' : Hid (Lst ftR (Z10.setCell ⟨V3.heap.size + 1, 10, none⟩ (.slice R7 (g.dats.length + 1) d7)) (fun b => b ≠ V3.heap.size + 1) R4 d4 (g.types ++ [t])) := Lib.hid (HL0.out.keep fun b hb hlt => ⟨HSY.out.1 b hlt hb, hb⟩)
                clear HL0
                have HL0 := HL0'
                clear HL0'
                have HL8' : Hid (Lst elR (Z10.setCell ⟨V3.heap.size + 1, 10, none⟩ (.slice R7 (g.dats.length + 1) d7)) (fun b => b ≠ V3.heap.size + 1) R6 d6 (g.els ++ [pasE])) := Lib.hid (HL8.out.keep fun b hb hlt => ⟨HSY.out.1 b hlt hb, hb⟩)
                clear HL8
                have HL8 := HL8'
                clear HL8'
                clear HIZ HRZ HRF HSY HIY HIA HOA HOY nc nz m10 ma HSR10 HX10 HK10
                generalize (Z10.setCell ⟨V3.heap.size + 1, 10, none⟩ (.slice R7 (g.dats.length + 1) d7)) = V11 at *
                have HMD : Hid (MdL V11 (fun b => b ≠ V3.heap.size + 1) (fun b => b ≠ V3.heap.size + 1) ({ p with A0 := R4, c0 := d4, A8 := R6, c8 := d6, A10 := R7, c10 := d7 } : Pls) (moreG g t)) := Lib.hid (by
                  have h := HL.out.keep (w' := V11) (ok' := fun b => b ≠ V3.heap.size + 1) (okF' := fun b => b ≠ V3.heap.size + 1) (fun b _ hlt => ⟨(HX11.out.1 b (by have := HZ3.out; omega)).trans (HBW.out b hlt), by have := HZ3.out; omega⟩) (fun b _ hlt => ⟨(HX11.out.1 b (by have := HZ3.out; omega)).trans (HBW.out b hlt), by have := HZ3.out; omega⟩)
                  exact ⟨HL0.out, h.l1, h.l2, h.l3, h.l4, h.l5, h.l6, h.l7, HL8.out, h.l9, HL10.out, h.l11⟩)
                have HON2 : Hid (Calls Try.prog 7 #[.agg #[.slice R4 (g.types.length + 1) d4, .slice p.A1 g.imps.length p.c1, .slice p.A2 g.funcs.length p.c2, .slice p.A3 g.tabs.length p.c3, .slice p.A4 g.mems.length p.c4, .slice p.A5 g.globs.length p.c5, .slice p.A6 g.expos.length p.c6, .slice p.A7 g.starts.length p.c7, .slice R6 (g.els.length + 1) d6, .slice p.A9 g.counts.length p.c9, .slice R7 (g.dats.length + 1) d7, .slice p.A11 g.cuss.length p.c11]] V11 (OfIs V11 (moreG g t))) := Lib.hid (by
                  have h := of_any (moreG g t) ({ p with A0 := R4, c0 := d4, A8 := R6, c8 := d6, A10 := R7, c10 := d7 } : Pls) V11 HMD.out HSMM.out
                  rw [show (moreG g t).types.length = g.types.length + 1 from by simp [moreG], show (moreG g t).els.length = g.els.length + 1 from by simp [moreG], show (moreG g t).dats.length = g.dats.length + 1 from by simp [moreG]] at h
                  exact h)
                unfold OfIs at HON2
                rw [HMO.out.1, HMO.out.2] at HON2
                have n0 : V11.cell? ⟨V3.heap.size + 1, 0, none⟩ = some (.slice R4 (g.types.length + 1) d4) := (blk_cell HK11.out 0).trans rfl
                have n1 : V11.cell? ⟨V3.heap.size + 1, 1, none⟩ = some (.slice p.A1 g.imps.length p.c1) := (blk_cell HK11.out 1).trans rfl
                have n2 : V11.cell? ⟨V3.heap.size + 1, 2, none⟩ = some (.slice p.A2 g.funcs.length p.c2) := (blk_cell HK11.out 2).trans rfl
                have n3 : V11.cell? ⟨V3.heap.size + 1, 3, none⟩ = some (.slice p.A3 g.tabs.length p.c3) := (blk_cell HK11.out 3).trans rfl
                have n4 : V11.cell? ⟨V3.heap.size + 1, 4, none⟩ = some (.slice p.A4 g.mems.length p.c4) := (blk_cell HK11.out 4).trans rfl
                have n5 : V11.cell? ⟨V3.heap.size + 1, 5, none⟩ = some (.slice p.A5 g.globs.length p.c5) := (blk_cell HK11.out 5).trans rfl
                have n6 : V11.cell? ⟨V3.heap.size + 1, 6, none⟩ = some (.slice p.A6 g.expos.length p.c6) := (blk_cell HK11.out 6).trans rfl
                have n7 : V11.cell? ⟨V3.heap.size + 1, 7, none⟩ = some (.slice p.A7 g.starts.length p.c7) := (blk_cell HK11.out 7).trans rfl
                have n8 : V11.cell? ⟨V3.heap.size + 1, 8, none⟩ = some (.slice R6 (g.els.length + 1) d6) := (blk_cell HK11.out 8).trans rfl
                have n9 : V11.cell? ⟨V3.heap.size + 1, 9, none⟩ = some (.slice p.A9 g.counts.length p.c9) := (blk_cell HK11.out 9).trans rfl
                have n10 : V11.cell? ⟨V3.heap.size + 1, 10, none⟩ = some (.slice R7 (g.dats.length + 1) d7) := (blk_cell HK11.out 10).trans rfl
                have n11 : V11.cell? ⟨V3.heap.size + 1, 11, none⟩ = some (.slice p.A11 g.cuss.length p.c11) := (blk_cell HK11.out 11).trans rfl
                clear HMD HL0 HL8 HL10
                generalize gather g = c at *
                go_wp2_with fail
                refine HON2.out.mono ?_
                rintro en V12 ⟨r, rfl, hc, hb⟩
                simp only [Plc.vals, setT, List.length_append, List.length_cons, List.length_nil]
                have HB12 := Lib.hid hb
                have HC12 : Hid (CtxL V12 (fun b => V11.heap.size ≤ b) r (setT c (c.types ++ [t]) (c.els + 1) (c.dats + 1))) := Lib.hid hc
                clear hb hc HON2 n0 n1 n2 n3 n4 n5 n6 n7 n8 n9 n10 n11
                have HLC : Hid (∀ b, b < V3.heap.size + 1 → V12.heap[b]? = V.heap[b]?) := Lib.hid fun b hb => (HB12.out.block b (by have := HX11.out.2.1; omega)).trans (HX11.out.1 b hb)
                have HZW : Hid (V3.heap.size + 1 < V12.heap.size) := Lib.hid (by have := HB12.out.size; have := HX11.out.2.1; omega)
                have HWW0 : Hid (Below w.heap.size w V12) := Lib.hid (HVB.out.1.trans ⟨HB12.out.os.trans HX11.out.2.2.1, HB12.out.tape.trans HX11.out.2.2.2.1, HB12.out.output.trans HX11.out.2.2.2.2.1, Nat.le_trans HX11.out.2.2.2.2.2 HB12.out.size, fun b hb => HLC.out b (by have := HZ3.out; omega)⟩)
                have hdd : Below V12.heap.size V12 (V12.alloc (.cells #[.slice r.A0 (c.types.length + 1) r.d0, .slice r.A1 c.funcs.length r.d1, .slice r.A2 c.globs.length r.d2, .slice r.A3 c.tabs.length r.d3, .slice r.A4 c.mems.length r.d4, .int .i64 c.hosts, .int .i64 c.vars, .int .i64 (c.els + 1), .int .i64 (c.dats + 1), .bool c.counted] 38)) := (Below.refl _ _).alloc (Nat.le_refl _) _
                have HD : Hid ((V12.alloc (.cells #[.slice r.A0 (c.types.length + 1) r.d0, .slice r.A1 c.funcs.length r.d1, .slice r.A2 c.globs.length r.d2, .slice r.A3 c.tabs.length r.d3, .slice r.A4 c.mems.length r.d4, .int .i64 c.hosts, .int .i64 c.vars, .int .i64 (c.els + 1), .int .i64 (c.dats + 1), .bool c.counted] 38)).heap[V12.heap.size]? = some (.cells #[.slice r.A0 (c.types.length + 1) r.d0, .slice r.A1 c.funcs.length r.d1, .slice r.A2 c.globs.length r.d2, .slice r.A3 c.tabs.length r.d3, .slice r.A4 c.mems.length r.d4, .int .i64 c.hosts, .int .i64 c.vars, .int .i64 (c.els + 1), .int .i64 (c.dats + 1), .bool c.counted] 38 (0, 0)) ∧ Below V12.heap.size V12 (V12.alloc (.cells #[.slice r.A0 (c.types.length + 1) r.d0, .slice r.A1 c.funcs.length r.d1, .slice r.A2 c.globs.length r.d2, .slice r.A3 c.tabs.length r.d3, .slice r.A4 c.mems.length r.d4, .int .i64 c.hosts, .int .i64 c.vars, .int .i64 (c.els + 1), .int .i64 (c.dats + 1), .bool c.counted] 38))) := Lib.hid ⟨heap_alloc_new V12 _, hdd⟩
                have HSB : Hid (∀ u, Below V12.heap.size V12 u → SC V3.heap.size q c u) := Lib.hid fun u hu => by
                  have h0 := ((hu.block V3.heap.size (by have := HZW.out; omega)).trans (HLC.out _ (by omega))).trans HMV.out.2.2.1
                  refine ⟨?_, ?_, ?_⟩ <;> rw [blk_cell h0] <;> rfl
                have HCC2 : Hid (∀ u, Below V12.heap.size V12 u → BoxC V3.heap.size u q c) := Lib.hid fun u hu => by
                  have h0 := ((hu.block V3.heap.size (by have := HZW.out; omega)).trans (HLC.out _ (by omega))).trans HMV.out.2.2.1
                  refine ⟨?_, ?_, ?_, ?_, ?_, ?_, ?_, ?_, ?_, ?_⟩ <;> rw [blk_cell h0] <;> rfl
                have HCC : Hid (∀ u, Below V12.heap.size V12 u → CtxL u (fun _ => True) q c ∧ CtxL u (fun _ => True) r c) := Lib.hid fun u hu => by
                  refine ⟨HC3.out.keep fun b _ hlt => ⟨((hu.block b (by have := HZW.out; omega)).trans (HLC.out b (by omega))).trans (HMV.out.2.2.2.block b hlt), trivial⟩, ?_⟩
                  have h := HC12.out.keep (w' := u) (ok' := fun _ => True) fun b _ hlt => ⟨hu.block b hlt, trivial⟩
                  exact ⟨lst_front h.l0, h.l1, h.l2, h.l3, h.l4⟩
                have HWW : Hid (∀ u, Below V12.heap.size V12 u → Below w.heap.size w u) := Lib.hid fun u hu => HWW0.out.trans (hu.mono (by have := HZW.out; have := HZ3.out; omega))
                have hrm : c.types.length + 1 ≤ r.d0 := by have h := HC12.out.l0.room; simpa [setT] using h
                have HSL : Hid (∀ W, (Instr.slice 22 (.slice r.A0 (c.types.length + 1) r.d0) none (some (.int .i64 (c.types.length : Int))) none).run Try.prog W = .ok (.slice r.A0 c.types.length r.d0) W) := Lib.hid (types_hi r.A0 (c.types.length + 1) r.d0 c.types.length hrm (by omega))
                have w1 : wrap64 ((c.types.length : Int) + 1) = (c.types.length : Int) + 1 := wrap64_fit (by omega) (by have := HFT.out.2.1; omega)
                have w2 : wrap64 (c.els + 1) = c.els + 1 := wrap64_fit (by have := HED.out; omega) (by have := HED.out; omega)
                have w3 : wrap64 (c.dats + 1) = c.dats + 1 := wrap64_fit (by have := HED.out; omega) (by have := HED.out; omega)
                have HW1 := Lib.hid w1
                have HW2 := Lib.hid w2
                have HW3 := Lib.hid w3
                clear hdd hrm w1 w2 w3 HX11 HK11 HB12 HMO HED HLE8 HLE10 HES0 HES8 HES10 HEN0 HEN8 HEN10 HON8 HON10 HT1 HT2 HL HV3 HC3 HC12 HMV HBW HN7 HVB HSMM HLC
                obtain ⟨c0, c7, c8⟩ := HSB.out (V12.alloc (.cells #[.slice r.A0 (c.types.length + 1) r.d0, .slice r.A1 c.funcs.length r.d1, .slice r.A2 c.globs.length r.d2, .slice r.A3 c.tabs.length r.d3, .slice r.A4 c.mems.length r.d4, .int .i64 c.hosts, .int .i64 c.vars, .int .i64 (c.els + 1), .int .i64 (c.dats + 1), .bool c.counted] 38)) HD.out.2
                go_upto_region 13 with fail
                have w1 := HW1.out
                have w2 := HW2.out
                have w3 := HW3.out
                have e0 : (V12.alloc (.cells #[.slice r.A0 (c.types.length + 1) r.d0, .slice r.A1 c.funcs.length r.d1, .slice r.A2 c.globs.length r.d2, .slice r.A3 c.tabs.length r.d3, .slice r.A4 c.mems.length r.d4, .int .i64 c.hosts, .int .i64 c.vars, .int .i64 (c.els + 1), .int .i64 (c.dats + 1), .bool c.counted] 38)).cell? ⟨V12.heap.size, 0, none⟩ = some (.slice r.A0 (c.types.length + 1) r.d0) := (blk_cell HD.out.1 0).trans rfl
                have e7 : (V12.alloc (.cells #[.slice r.A0 (c.types.length + 1) r.d0, .slice r.A1 c.funcs.length r.d1, .slice r.A2 c.globs.length r.d2, .slice r.A3 c.tabs.length r.d3, .slice r.A4 c.mems.length r.d4, .int .i64 c.hosts, .int .i64 c.vars, .int .i64 (c.els + 1), .int .i64 (c.dats + 1), .bool c.counted] 38)).cell? ⟨V12.heap.size, 7, none⟩ = some (.int .i64 (c.els + 1)) := (blk_cell HD.out.1 7).trans rfl
                have e8 : (V12.alloc (.cells #[.slice r.A0 (c.types.length + 1) r.d0, .slice r.A1 c.funcs.length r.d1, .slice r.A2 c.globs.length r.d2, .slice r.A3 c.tabs.length r.d3, .slice r.A4 c.mems.length r.d4, .int .i64 c.hosts, .int .i64 c.vars, .int .i64 (c.els + 1), .int .i64 (c.dats + 1), .bool c.counted] 38)).cell? ⟨V12.heap.size, 8, none⟩ = some (.int .i64 (c.dats + 1)) := (blk_cell HD.out.1 8).trans rfl
                generalize (V12.alloc (.cells #[.slice r.A0 (c.types.length + 1) r.d0, .slice r.A1 c.funcs.length r.d1, .slice r.A2 c.globs.length r.d2, .slice r.A3 c.tabs.length r.d3, .slice r.A4 c.mems.length r.d4, .int .i64 c.hosts, .int .i64 c.vars, .int .i64 (c.els + 1), .int .i64 (c.dats + 1), .bool c.counted] 38)) = U0 at *
                go_upto_region 15 with fail
                clear w1 w2 w3 e0 e7 e8 c0 c7 c8
                have HDW : Hid (U0.drew.heap[V12.heap.size]? = some (.cells #[.slice r.A0 (c.types.length + 1) r.d0, .slice r.A1 c.funcs.length r.d1, .slice r.A2 c.globs.length r.d2, .slice r.A3 c.tabs.length r.d3, .slice r.A4 c.mems.length r.d4, .int .i64 c.hosts, .int .i64 c.vars, .int .i64 (c.els + 1), .int .i64 (c.dats + 1), .bool c.counted] 38 (0, 0)) ∧ Below V12.heap.size V12 U0.drew) := Lib.hid ⟨HD.out.1, HD.out.2.drew⟩
                clear HD
                have hS0 := HSB.out _ HDW.out.2
                refine wp_region_held_drew (S := SC V3.heap.size q c) (by kernel_rfl) hS0 (fun hS => ?_)
                clear hS0
                generalize U0.drew = U at *
                have HD := HDW
                clear HDW
                refine wpAnyH_take (i := 0) (oi := { dst := some 92, op := .fieldAddr 38 (.tmp 8) 0, type := 0, pos := "law.go:134", after := #[], guard := none }) (v := ?_) rfl (by kernel_rfl) (by kernel_rfl) (by kernel_rfl) (fun _ _ _ h => h) (Or.inl ⟨by rfl, ?_⟩) hS ?_
                rotate_left
                · (intro w' hS'; obtain ⟨s0, s1, s2⟩ := hS'; go_simp) <;> with_reducible rfl
                try simp only [Act.put, List.setIfInBounds_toArray, List.set_cons_zero, List.set_cons_succ]
                refine wpAnyH_take (i := 2) (oi := { dst := some 94, op := .fieldAddr 38 (.tmp 5) 0, type := 0, pos := "law.go:134", after := #[], guard := none }) (v := ?_) rfl (by kernel_rfl) (by kernel_rfl) (by kernel_rfl) (fun _ _ _ h => h) (Or.inl ⟨by rfl, ?_⟩) hS ?_
                rotate_left
                · (intro w' hS'; obtain ⟨s0, s1, s2⟩ := hS'; go_simp) <;> with_reducible rfl
                try simp only [Act.put, List.setIfInBounds_toArray, List.set_cons_zero, List.set_cons_succ]
                refine wpAnyH_take (i := 3) (oi := { dst := some 95, op := .load 22 (.tmp 94), type := 22, pos := "law.go:134", after := #[{ on := 2, ground := .data }], guard := none }) (v := ?_) rfl (by kernel_rfl) (by kernel_rfl) (by kernel_rfl) (fun _ _ _ h => h) (Or.inl ⟨by rfl, ?_⟩) hS ?_
                rotate_left
                · (intro w' hS'; obtain ⟨s0, s1, s2⟩ := hS'; go_simp) <;> with_reducible rfl
                try simp only [Act.put, List.setIfInBounds_toArray, List.set_cons_zero, List.set_cons_succ]
                refine wpAnyH_take (i := 4) (oi := { dst := some 96, op := .call { callee := .builtin .len, args := #[.tmp 95], argTypes := #[22] }, type := 3, pos := "law.go:134", after := #[{ on := 3, ground := .data }], guard := none }) (v := ?_) rfl (by kernel_rfl) (by kernel_rfl) (by kernel_rfl) (fun _ _ _ h => h) (Or.inl ⟨by rfl, ?_⟩) hS ?_
                rotate_left
                · (intro w' hS'; obtain ⟨s0, s1, s2⟩ := hS'; go_simp) <;> with_reducible rfl
                try simp only [Act.put, List.setIfInBounds_toArray, List.set_cons_zero, List.set_cons_succ]
                refine wpAnyH_take (i := 6) (oi := { dst := some 98, op := .fieldAddr 38 (.tmp 5) 7, type := 0, pos := "law.go:134", after := #[{ on := 11, ground := .gcOnly .lateStores }], guard := none }) (v := ?_) rfl (by kernel_rfl) (by kernel_rfl) (by kernel_rfl) (fun _ _ _ h => h) (Or.inl ⟨by rfl, ?_⟩) hS ?_
                rotate_left
                · (intro w' hS'; obtain ⟨s0, s1, s2⟩ := hS'; go_simp) <;> with_reducible rfl
                try simp only [Act.put, List.setIfInBounds_toArray, List.set_cons_zero, List.set_cons_succ]
                refine wpAnyH_take (i := 7) (oi := { dst := some 99, op := .load 3 (.tmp 98), type := 3, pos := "law.go:134", after := #[{ on := 6, ground := .data }, { on := 11, ground := .gcOnly .lateStores }], guard := none }) (v := ?_) rfl (by kernel_rfl) (by kernel_rfl) (by kernel_rfl) (fun _ _ _ h => h) (Or.inl ⟨by rfl, ?_⟩) hS ?_
                rotate_left
                · (intro w' hS'; obtain ⟨s0, s1, s2⟩ := hS'; go_simp) <;> with_reducible rfl
                try simp only [Act.put, List.setIfInBounds_toArray, List.set_cons_zero, List.set_cons_succ]
                refine wpAnyH_take (i := 8) (oi := { dst := some 100, op := .fieldAddr 38 (.tmp 5) 8, type := 0, pos := "law.go:134", after := #[{ on := 13, ground := .gcOnly .lateStores }], guard := none }) (v := ?_) rfl (by kernel_rfl) (by kernel_rfl) (by kernel_rfl) (fun _ _ _ h => h) (Or.inl ⟨by rfl, ?_⟩) hS ?_
                rotate_left
                · (intro w' hS'; obtain ⟨s0, s1, s2⟩ := hS'; go_simp) <;> with_reducible rfl
                try simp only [Act.put, List.setIfInBounds_toArray, List.set_cons_zero, List.set_cons_succ]
                refine wpAnyH_take (i := 9) (oi := { dst := some 101, op := .load 3 (.tmp 100), type := 3, pos := "law.go:134", after := #[{ on := 8, ground := .data }, { on := 13, ground := .gcOnly .lateStores }], guard := none }) (v := ?_) rfl (by kernel_rfl) (by kernel_rfl) (by kernel_rfl) (fun _ _ _ h => h) (Or.inl ⟨by rfl, ?_⟩) hS ?_
                rotate_left
                · (intro w' hS'; obtain ⟨s0, s1, s2⟩ := hS'; go_simp) <;> with_reducible rfl
                try simp only [Act.put, List.setIfInBounds_toArray, List.set_cons_zero, List.set_cons_succ]
                refine wpAnyH_ready (rs := [1]) (by kernel_rfl) (by simp) ?_
                refine AllReadyH.cons (o := { dst := some 93, op := .load 22 (.tmp 92), type := 22, pos := "law.go:134", after := #[{ on := 0, ground := .data }], guard := none }) rfl (fun K' hK => ?_) (AllReadyH.nil)
                · have n0 : U.cell? ⟨V12.heap.size, 0, none⟩ = some (.slice r.A0 (c.types.length + 1) r.d0) := (blk_cell HD.out.1 0).trans rfl
                  go_simp
                  refine hK.out _ _ (HSB.out _ HD.out.2) (fun hS => ?_)
                  clear hK K' n0
                  try simp only [Act.put, List.setIfInBounds_toArray, List.set_cons_zero, List.set_cons_succ]
                  refine wpAnyH_ready (rs := [5]) (by kernel_rfl) (by simp) ?_
                  refine AllReadyH.cons (o := { dst := some 97, op := .slice 22 (.tmp 93) none (some (.tmp 96)) none, type := 22, pos := "law.go:134", after := #[{ on := 1, ground := .data }, { on := 4, ground := .data }], guard := none }) rfl (fun K' hK => ?_) (AllReadyH.nil)
                  · have hsl := HSL.out U
                    go_simp
                    refine hK.out _ _ (HSB.out _ HD.out.2) (fun hS => ?_)
                    clear hK K' hsl
                    try simp only [Act.put, List.setIfInBounds_toArray, List.set_cons_zero, List.set_cons_succ]
                    refine wpAnyH_take (i := 10) (oi := { dst := some 102, op := .fieldAddr 38 (.tmp 8) 0, type := 0, pos := "law.go:134", after := #[{ on := 0, ground := .phase }, { on := 1, ground := .phase }, { on := 2, ground := .phase }, { on := 3, ground := .phase }, { on := 4, ground := .phase }, { on := 5, ground := .phase }, { on := 6, ground := .textOnly .lateStores }, { on := 7, ground := .textOnly .lateStores }, { on := 8, ground := .textOnly .lateStores }, { on := 9, ground := .textOnly .lateStores }], guard := none }) (v := ?_) rfl (by kernel_rfl) (by kernel_rfl) (by kernel_rfl) (fun _ _ _ h => h) (Or.inl ⟨by rfl, ?_⟩) hS ?_
                    rotate_left
                    · (intro w' hS'; obtain ⟨s0, s1, s2⟩ := hS'; go_simp) <;> with_reducible rfl
                    try simp only [Act.put, List.setIfInBounds_toArray, List.set_cons_zero, List.set_cons_succ]
                    refine wpAnyH_ready (rs := [11]) (by kernel_rfl) (by simp) ?_
                    refine AllReadyH.cons (o := { dst := none, op := .store 22 (.tmp 102) (.tmp 97), type := 0, pos := "law.go:134", after := #[{ on := 10, ground := .data }, { on := 5, ground := .data }, { on := 0, ground := .phase }, { on := 1, ground := .phase }, { on := 2, ground := .phase }, { on := 3, ground := .phase }, { on := 4, ground := .phase }, { on := 5, ground := .phase }, { on := 6, ground := .textOnly .lateStores }, { on := 7, ground := .textOnly .lateStores }, { on := 8, ground := .textOnly .lateStores }, { on := 9, ground := .textOnly .lateStores }], guard := none }) rfl (fun K' hK => ?_) (AllReadyH.nil)
                    · have n0 : U.cell? ⟨V12.heap.size, 0, none⟩ = some (.slice r.A0 (c.types.length + 1) r.d0) := (blk_cell HD.out.1 0).trans rfl
                      have nz := blk_free HD.out.1 0
                      have hk := blk_set HD.out.1 0 (.slice r.A0 c.types.length r.d0)
                      simp only [List.setIfInBounds_toArray, List.set_cons_zero] at hk
                      have HD2 : Hid ((U.setCell ⟨V12.heap.size, 0, none⟩ (.slice r.A0 c.types.length r.d0)).heap[V12.heap.size]? = some (.cells #[.slice r.A0 c.types.length r.d0, .slice r.A1 c.funcs.length r.d1, .slice r.A2 c.globs.length r.d2, .slice r.A3 c.tabs.length r.d3, .slice r.A4 c.mems.length r.d4, .int .i64 c.hosts, .int .i64 c.vars, .int .i64 (c.els + 1), .int .i64 (c.dats + 1), .bool c.counted] 38 (0, 0)) ∧ Below V12.heap.size V12 (U.setCell ⟨V12.heap.size, 0, none⟩ (.slice r.A0 c.types.length r.d0))) := Lib.hid ⟨hk, HD.out.2.trans ⟨rfl, rfl, rfl, by simp, fun b hb => far_set (show V12.heap.size ≠ b by omega) _⟩⟩
                      clear HD hk
                      have HD := HD2
                      clear HD2
                      go_simp
                      refine hK.out _ _ (HSB.out _ HD.out.2) (fun hS => ?_)
                      clear hK K' n0 nz
                      generalize (U.setCell ⟨V12.heap.size, 0, none⟩ (.slice r.A0 c.types.length r.d0)) = U3 at *
                      try simp only [Act.put, List.setIfInBounds_toArray, List.set_cons_zero, List.set_cons_succ]
                      refine wpAnyH_take (i := 12) (oi := { dst := some 103, op := .fieldAddr 38 (.tmp 8) 7, type := 0, pos := "law.go:134", after := #[{ on := 0, ground := .phase }, { on := 1, ground := .phase }, { on := 2, ground := .phase }, { on := 3, ground := .phase }, { on := 4, ground := .phase }, { on := 5, ground := .phase }, { on := 6, ground := .phase }, { on := 7, ground := .phase }, { on := 8, ground := .textOnly .lateStores }, { on := 9, ground := .textOnly .lateStores }, { on := 10, ground := .phase }, { on := 11, ground := .phase }], guard := none }) (v := ?_) rfl (by kernel_rfl) (by kernel_rfl) (by kernel_rfl) (fun _ _ _ h => h) (Or.inl ⟨by rfl, ?_⟩) hS ?_
                      rotate_left
                      · (intro w' hS'; obtain ⟨s0, s1, s2⟩ := hS'; go_simp) <;> with_reducible rfl
                      try simp only [Act.put, List.setIfInBounds_toArray, List.set_cons_zero, List.set_cons_succ]
                      refine wpAnyH_ready (rs := [13]) (by kernel_rfl) (by simp) ?_
                      refine AllReadyH.cons (o := { dst := none, op := .store 3 (.tmp 103) (.tmp 99), type := 0, pos := "law.go:134", after := #[{ on := 12, ground := .data }, { on := 7, ground := .data }, { on := 11, ground := .chain }, { on := 0, ground := .phase }, { on := 1, ground := .phase }, { on := 2, ground := .phase }, { on := 3, ground := .phase }, { on := 4, ground := .phase }, { on := 5, ground := .phase }, { on := 6, ground := .phase }, { on := 7, ground := .phase }, { on := 8, ground := .textOnly .lateStores }, { on := 9, ground := .textOnly .lateStores }, { on := 10, ground := .phase }, { on := 11, ground := .phase }], guard := none }) rfl (fun K' hK => ?_) (AllReadyH.nil)
                      · have n0 : U3.cell? ⟨V12.heap.size, 7, none⟩ = some (.int .i64 (c.els + 1)) := (blk_cell HD.out.1 7).trans rfl
                        have nz := blk_free HD.out.1 7
                        have hk := blk_set HD.out.1 7 (.int .i64 c.els)
                        simp only [List.setIfInBounds_toArray, List.set_cons_zero, List.set_cons_succ] at hk
                        have HD2 : Hid ((U3.setCell ⟨V12.heap.size, 7, none⟩ (.int .i64 c.els)).heap[V12.heap.size]? = some (.cells #[.slice r.A0 c.types.length r.d0, .slice r.A1 c.funcs.length r.d1, .slice r.A2 c.globs.length r.d2, .slice r.A3 c.tabs.length r.d3, .slice r.A4 c.mems.length r.d4, .int .i64 c.hosts, .int .i64 c.vars, .int .i64 c.els, .int .i64 (c.dats + 1), .bool c.counted] 38 (0, 0)) ∧ Below V12.heap.size V12 (U3.setCell ⟨V12.heap.size, 7, none⟩ (.int .i64 c.els))) := Lib.hid ⟨hk, HD.out.2.trans ⟨rfl, rfl, rfl, by simp, fun b hb => far_set (show V12.heap.size ≠ b by omega) _⟩⟩
                        clear HD hk
                        have HD := HD2
                        clear HD2
                        go_simp
                        refine hK.out _ _ (HSB.out _ HD.out.2) (fun hS => ?_)
                        clear hK K' n0 nz
                        generalize (U3.setCell ⟨V12.heap.size, 7, none⟩ (.int .i64 c.els)) = U4 at *
                        try simp only [Act.put, List.setIfInBounds_toArray, List.set_cons_zero, List.set_cons_succ]
                        refine wpAnyH_take (i := 14) (oi := { dst := some 104, op := .fieldAddr 38 (.tmp 8) 8, type := 0, pos := "law.go:134", after := #[{ on := 0, ground := .phase }, { on := 1, ground := .phase }, { on := 2, ground := .phase }, { on := 3, ground := .phase }, { on := 4, ground := .phase }, { on := 5, ground := .phase }, { on := 6, ground := .phase }, { on := 7, ground := .phase }, { on := 8, ground := .phase }, { on := 9, ground := .phase }, { on := 10, ground := .phase }, { on := 11, ground := .phase }, { on := 12, ground := .phase }, { on := 13, ground := .phase }], guard := none }) (v := ?_) rfl (by kernel_rfl) (by kernel_rfl) (by kernel_rfl) (fun _ _ _ h => h) (Or.inl ⟨by rfl, ?_⟩) hS ?_
                        rotate_left
                        · (intro w' hS'; obtain ⟨s0, s1, s2⟩ := hS'; go_simp) <;> with_reducible rfl
                        try simp only [Act.put, List.setIfInBounds_toArray, List.set_cons_zero, List.set_cons_succ]
                        refine wpAnyH_ready (rs := [15]) (by kernel_rfl) (by simp) ?_
                        refine AllReadyH.cons (o := { dst := none, op := .store 3 (.tmp 104) (.tmp 101), type := 0, pos := "law.go:134", after := #[{ on := 14, ground := .data }, { on := 9, ground := .data }, { on := 13, ground := .chain }, { on := 0, ground := .phase }, { on := 1, ground := .phase }, { on := 2, ground := .phase }, { on := 3, ground := .phase }, { on := 4, ground := .phase }, { on := 5, ground := .phase }, { on := 6, ground := .phase }, { on := 7, ground := .phase }, { on := 8, ground := .phase }, { on := 9, ground := .phase }, { on := 10, ground := .phase }, { on := 11, ground := .phase }, { on := 12, ground := .phase }, { on := 13, ground := .phase }], guard := none }) rfl (fun K' hK => ?_) (AllReadyH.nil)
                        · have n0 : U4.cell? ⟨V12.heap.size, 8, none⟩ = some (.int .i64 (c.dats + 1)) := (blk_cell HD.out.1 8).trans rfl
                          have nz := blk_free HD.out.1 8
                          have hk := blk_set HD.out.1 8 (.int .i64 c.dats)
                          simp only [List.setIfInBounds_toArray, List.set_cons_zero, List.set_cons_succ] at hk
                          have HD2 : Hid ((U4.setCell ⟨V12.heap.size, 8, none⟩ (.int .i64 c.dats)).heap[V12.heap.size]? = some (.cells #[.slice r.A0 c.types.length r.d0, .slice r.A1 c.funcs.length r.d1, .slice r.A2 c.globs.length r.d2, .slice r.A3 c.tabs.length r.d3, .slice r.A4 c.mems.length r.d4, .int .i64 c.hosts, .int .i64 c.vars, .int .i64 c.els, .int .i64 c.dats, .bool c.counted] 38 (0, 0)) ∧ Below V12.heap.size V12 (U4.setCell ⟨V12.heap.size, 8, none⟩ (.int .i64 c.dats))) := Lib.hid ⟨hk, HD.out.2.trans ⟨rfl, rfl, rfl, by simp, fun b hb => far_set (show V12.heap.size ≠ b by omega) _⟩⟩
                          clear HD hk
                          have HD := HD2
                          clear HD2
                          go_simp
                          refine hK.out _ _ (HSB.out _ HD.out.2) (fun hS => ?_)
                          clear hK K' n0 nz
                          generalize (U4.setCell ⟨V12.heap.size, 8, none⟩ (.int .i64 c.dats)) = U5 at *
                          try simp only [Act.put, List.setIfInBounds_toArray, List.set_cons_zero, List.set_cons_succ]
                          refine wpAnyH_done (by kernel_rfl) ?_ _
                          clear hS HSL
                          have HSA := Lib.hid (rsamec_yes q r c U5 (HCC.out U5 HD.out.2).1 (HCC.out U5 HD.out.2).2 HFT.out.1 HFT.out.2)
                          obtain ⟨c0, c1, c2, c3, c4, c5, c6, c7, c8, c9⟩ := (HCC2.out U5 HD.out.2)
                          have e0 : U5.cell? ⟨V12.heap.size, 0, none⟩ = some (.slice r.A0 c.types.length r.d0) := (blk_cell HD.out.1 0).trans rfl
                          have e1 : U5.cell? ⟨V12.heap.size, 1, none⟩ = some (.slice r.A1 c.funcs.length r.d1) := (blk_cell HD.out.1 1).trans rfl
                          have e2 : U5.cell? ⟨V12.heap.size, 2, none⟩ = some (.slice r.A2 c.globs.length r.d2) := (blk_cell HD.out.1 2).trans rfl
                          have e3 : U5.cell? ⟨V12.heap.size, 3, none⟩ = some (.slice r.A3 c.tabs.length r.d3) := (blk_cell HD.out.1 3).trans rfl
                          have e4 : U5.cell? ⟨V12.heap.size, 4, none⟩ = some (.slice r.A4 c.mems.length r.d4) := (blk_cell HD.out.1 4).trans rfl
                          have e5 : U5.cell? ⟨V12.heap.size, 5, none⟩ = some (.int .i64 c.hosts) := (blk_cell HD.out.1 5).trans rfl
                          have e6 : U5.cell? ⟨V12.heap.size, 6, none⟩ = some (.int .i64 c.vars) := (blk_cell HD.out.1 6).trans rfl
                          have e7 : U5.cell? ⟨V12.heap.size, 7, none⟩ = some (.int .i64 c.els) := (blk_cell HD.out.1 7).trans rfl
                          have e8 : U5.cell? ⟨V12.heap.size, 8, none⟩ = some (.int .i64 c.dats) := (blk_cell HD.out.1 8).trans rfl
                          have e9 : U5.cell? ⟨V12.heap.size, 9, none⟩ = some (.bool c.counted) := (blk_cell HD.out.1 9).trans rfl
                          have HWE := Lib.hid (HWW.out U5 HD.out.2)
                          clear HD HCC HCC2 HSB HWW
                          go_wp2_with fail
                          refine HSA.out.mono ?_
                          rintro en VE ⟨rfl, hb⟩
                          go_wp2
                          go_ret
                          exact ⟨rfl, HWE.out.trans (hb.mono HWE.out.size)⟩
    · simp only [Plc.vals]
      generalize ofC g = c at *
      generalize ofE g = e at *
      go_wp2
      go_ret
      exact ⟨rfl, HV3.out.trans (((Below.refl _ _).alloc (Nat.le_refl _) _).mono HV3.out.size)⟩
end
end Go.Proofs.Ytlbbnnljclndkaa.Cx
