/-
  CtxLaid: The given laid of layer 9. Conditions: the module and the context lie in memory; the functions have types. (Written by wip/tools/genctxlaid.py.)
-/
import Derived.Test.YtlbbnnljclndkaaQCtxRE0
import Derived.Test.YtlbbnnljclndkaaQCtxNM
import Derived.Deep.RegionHeld
namespace Go.Proofs.Ytlbbnnljclndkaa.Cx
open Go.RowKit Leb
open _root_.Go.Proofs.Ytlbbnnljclndkaa.Mod

/-- What a line of the innermost loop reads. -/
def SEl (bx bc b o : Nat) (q : Plc) (c : GCtx) (A : Option Addr) (n cx : Nat) (s : Int) (V : World) : Prop := V.cell? ⟨bx, 2, none⟩ = some (.slice A n cx) ∧ V.cell? ⟨b, o, none⟩ = some (.int .i64 s) ∧ V.cell? ⟨bc, 1, none⟩ = some (.slice q.A1 c.funcs.length q.d1)
/-- What a line of the data's loop reads. -/
def SD (bm bc b o : Nat) (q : Plc) (c : GCtx) (A : Option Addr) (n cx : Nat) (md : Int) (A1 : Option Addr) (n1 c1 : Nat) (V : World) : Prop := V.cell? ⟨bm, 10, none⟩ = some (.slice A n cx) ∧ V.cell? ⟨b, o, none⟩ = some (.int .i64 md) ∧ V.cell? ⟨b, o + 1, none⟩ = some (.slice A1 n1 c1) ∧ BoxC bc V q c
theorem wrap64_mid {n : Int} (h0 : 0 ≤ n) (h1 : n < 9223372036854775808) : wrap64 n = n := by unfold wrap64; omega
theorem el_hit {c : GCtx} {x : GEl} (h : laidE c x.mode x.off c.tabs.length ≠ 0) : elE c x = laidE c x.mode x.off c.tabs.length := first_hit h
theorem el_on {c : GCtx} {x : GEl} (h : laidE c x.mode x.off c.tabs.length = 0) : elE c x = eachE (entE c) x.fs := by unfold elE; rw [first_zero h, first_last]
theorem laid_off (c : GCtx) {md : Int} (off : List Ins.Ins) (n : Nat) (h : md ≠ 0) : laidE c md off n = 0 := by simp [laidE, h]
theorem laid_none (c : GCtx) {md : Int} (off : List Ins.Ins) {n : Nat} (h : md = 0) (hn : n = 0) : laidE c md off n = 7 := by simp [laidE, h, hn]
theorem laid_bad {c : GCtx} {md : Int} {off : List Ins.Ins} {n : Nat} (h : md = 0) (hn : n ≠ 0) (hc : constB c off 127 = false) : laidE c md off n = 6 := by simp [laidE, h, hn, hc]
theorem laid_ok {c : GCtx} {md : Int} {off : List Ins.Ins} {n : Nat} (h : md = 0) (hn : n ≠ 0) (hc : constB c off 127 = true) : laidE c md off n = 0 := by simp [laidE, h, hn, hc]
theorem laid_one (c : GCtx) (md : Int) (off : List Ins.Ins) (n : Nat) : laidE c md off n = 0 ∨ laidE c md off n = 7 ∨ laidE c md off n = 6 := by
  unfold laidE
  repeat' split
  all_goals simp
section
variable (g : GMd) (p : Pls) (q : Plc) (c : GCtx) (w : World) {ok okc : Nat → Prop}
set_option maxRecDepth 100000 in
set_option maxHeartbeats 16000000 in
theorem rlaid_any (hl : MdL w ok ok p g) (hs : Sm g) (hc : CtxL w okc q c) (ht : c.types = g.types) (hf : ∀ x ∈ g.funcs, inB x.ty g.types.length = true) : Calls Try.prog 21 #[.agg #[.slice p.A0 g.types.length p.c0, .slice p.A1 g.imps.length p.c1, .slice p.A2 g.funcs.length p.c2, .slice p.A3 g.tabs.length p.c3, .slice p.A4 g.mems.length p.c4, .slice p.A5 g.globs.length p.c5, .slice p.A6 g.expos.length p.c6, .slice p.A7 g.starts.length p.c7, .slice p.A8 g.els.length p.c8, .slice p.A9 g.counts.length p.c9, .slice p.A10 g.dats.length p.c10, .slice p.A11 g.cuss.length p.c11], .agg #[.slice q.A0 c.types.length q.d0, .slice q.A1 c.funcs.length q.d1, .slice q.A2 c.globs.length q.d2, .slice q.A3 c.tabs.length q.d3, .slice q.A4 c.mems.length q.d4, .int .i64 c.hosts, .int .i64 c.vars, .int .i64 c.els, .int .i64 c.dats, .bool c.counted]] w (NumIs w (firstE [eachE (elE c) g.els, eachE (datE c) g.dats, eachE (locE c) g.funcs])) := by
  have HB : Hid (Below w.heap.size w ((w.alloc (.cells #[.slice p.A0 g.types.length p.c0, .slice p.A1 g.imps.length p.c1, .slice p.A2 g.funcs.length p.c2, .slice p.A3 g.tabs.length p.c3, .slice p.A4 g.mems.length p.c4, .slice p.A5 g.globs.length p.c5, .slice p.A6 g.expos.length p.c6, .slice p.A7 g.starts.length p.c7, .slice p.A8 g.els.length p.c8, .slice p.A9 g.counts.length p.c9, .slice p.A10 g.dats.length p.c10, .slice p.A11 g.cuss.length p.c11] 33)).alloc (.cells #[.slice q.A0 c.types.length q.d0, .slice q.A1 c.funcs.length q.d1, .slice q.A2 c.globs.length q.d2, .slice q.A3 c.tabs.length q.d3, .slice q.A4 c.mems.length q.d4, .int .i64 c.hosts, .int .i64 c.vars, .int .i64 c.els, .int .i64 c.dats, .bool c.counted] 38))) := Lib.hid (((Below.refl _ _).alloc (Nat.le_refl _) _).alloc (by simp) _)
  have HG : Hid (∀ v, Below (w.heap.size + 2) ((w.alloc (.cells #[.slice p.A0 g.types.length p.c0, .slice p.A1 g.imps.length p.c1, .slice p.A2 g.funcs.length p.c2, .slice p.A3 g.tabs.length p.c3, .slice p.A4 g.mems.length p.c4, .slice p.A5 g.globs.length p.c5, .slice p.A6 g.expos.length p.c6, .slice p.A7 g.starts.length p.c7, .slice p.A8 g.els.length p.c8, .slice p.A9 g.counts.length p.c9, .slice p.A10 g.dats.length p.c10, .slice p.A11 g.cuss.length p.c11] 33)).alloc (.cells #[.slice q.A0 c.types.length q.d0, .slice q.A1 c.funcs.length q.d1, .slice q.A2 c.globs.length q.d2, .slice q.A3 c.tabs.length q.d3, .slice q.A4 c.mems.length q.d4, .int .i64 c.hosts, .int .i64 c.vars, .int .i64 c.els, .int .i64 c.dats, .bool c.counted] 38)) v → BoxG w.heap.size v g p ∧ BoxC (w.heap.size + 1) v q c) := Lib.hid fun v hv => by
    have h0 := (hv.block w.heap.size (by omega)).trans ((((Below.refl _ _).alloc (Nat.le_refl _) _).block _ (by simp)).trans (heap_alloc_new w _))
    have h1 := (hv.block (w.heap.size + 1) (by omega)).trans (heap2 w (.cells #[.slice p.A0 g.types.length p.c0, .slice p.A1 g.imps.length p.c1, .slice p.A2 g.funcs.length p.c2, .slice p.A3 g.tabs.length p.c3, .slice p.A4 g.mems.length p.c4, .slice p.A5 g.globs.length p.c5, .slice p.A6 g.expos.length p.c6, .slice p.A7 g.starts.length p.c7, .slice p.A8 g.els.length p.c8, .slice p.A9 g.counts.length p.c9, .slice p.A10 g.dats.length p.c10, .slice p.A11 g.cuss.length p.c11] 33) #[.slice q.A0 c.types.length q.d0, .slice q.A1 c.funcs.length q.d1, .slice q.A2 c.globs.length q.d2, .slice q.A3 c.tabs.length q.d3, .slice q.A4 c.mems.length q.d4, .int .i64 c.hosts, .int .i64 c.vars, .int .i64 c.els, .int .i64 c.dats, .bool c.counted] 38)
    refine ⟨?_, ?_⟩
    · refine ⟨?_, ?_, ?_, ?_, ?_, ?_, ?_, ?_, ?_, ?_, ?_, ?_⟩ <;> rw [blk_cell h0] <;> rfl
    · refine ⟨?_, ?_, ?_, ?_, ?_, ?_, ?_, ?_, ?_, ?_⟩ <;> rw [blk_cell h1] <;> rfl
  have HSZ : Hid (w.heap.size + 2 ≤ ((w.alloc (.cells #[.slice p.A0 g.types.length p.c0, .slice p.A1 g.imps.length p.c1, .slice p.A2 g.funcs.length p.c2, .slice p.A3 g.tabs.length p.c3, .slice p.A4 g.mems.length p.c4, .slice p.A5 g.globs.length p.c5, .slice p.A6 g.expos.length p.c6, .slice p.A7 g.starts.length p.c7, .slice p.A8 g.els.length p.c8, .slice p.A9 g.counts.length p.c9, .slice p.A10 g.dats.length p.c10, .slice p.A11 g.cuss.length p.c11] 33)).alloc (.cells #[.slice q.A0 c.types.length q.d0, .slice q.A1 c.funcs.length q.d1, .slice q.A2 c.globs.length q.d2, .slice q.A3 c.tabs.length q.d3, .slice q.A4 c.mems.length q.d4, .int .i64 c.hosts, .int .i64 c.vars, .int .i64 c.els, .int .i64 c.dats, .bool c.counted] 38)).heap.size) := Lib.hid (by simp)
  have HL := Lib.hid hl
  have HSM := Lib.hid hs
  have HC := Lib.hid hc
  have HFI := Lib.hid hf
  have HTY := Lib.hid ht
  clear hl hs hc hf ht
  generalize hRR : firstE [eachE (elE c) g.els, eachE (datE c) g.dats, eachE (locE c) g.funcs] = R
  have HR := Lib.hid hRR
  clear hRR
  have HK : Hid (∀ V, Below (w.heap.size + 2) ((w.alloc (.cells #[.slice p.A0 g.types.length p.c0, .slice p.A1 g.imps.length p.c1, .slice p.A2 g.funcs.length p.c2, .slice p.A3 g.tabs.length p.c3, .slice p.A4 g.mems.length p.c4, .slice p.A5 g.globs.length p.c5, .slice p.A6 g.expos.length p.c6, .slice p.A7 g.starts.length p.c7, .slice p.A8 g.els.length p.c8, .slice p.A9 g.counts.length p.c9, .slice p.A10 g.dats.length p.c10, .slice p.A11 g.cuss.length p.c11] 33)).alloc (.cells #[.slice q.A0 c.types.length q.d0, .slice q.A1 c.funcs.length q.d1, .slice q.A2 c.globs.length q.d2, .slice q.A3 c.tabs.length q.d3, .slice q.A4 c.mems.length q.d4, .int .i64 c.hosts, .int .i64 c.vars, .int .i64 c.els, .int .i64 c.dats, .bool c.counted] 38)) V → ∀ (okI : Nat → Prop) (A : Option Addr) (cc : Nat) (l : List Ins.Ins), Lst insR V okI A cc l → Calls Try.prog 19 #[.agg #[.slice q.A0 c.types.length q.d0, .slice q.A1 c.funcs.length q.d1, .slice q.A2 c.globs.length q.d2, .slice q.A3 c.tabs.length q.d3, .slice q.A4 c.mems.length q.d4, .int .i64 c.hosts, .int .i64 c.vars, .int .i64 c.els, .int .i64 c.dats, .bool c.counted], .slice A l.length cc, .int .i64 127] V (BoolIs V (constB c l 127))) := Lib.hid fun V hV okI A cc l hi => rconstant_any q c V (HC.out.below (HB.out.trans (hV.mono (by omega)))) l hi 127
  go_enter Try.func21, Try.ntmps21
  go_wp2_with fail
  generalize ((w.alloc (.cells #[.slice p.A0 g.types.length p.c0, .slice p.A1 g.imps.length p.c1, .slice p.A2 g.funcs.length p.c2, .slice p.A3 g.tabs.length p.c3, .slice p.A4 g.mems.length p.c4, .slice p.A5 g.globs.length p.c5, .slice p.A6 g.expos.length p.c6, .slice p.A7 g.starts.length p.c7, .slice p.A8 g.els.length p.c8, .slice p.A9 g.counts.length p.c9, .slice p.A10 g.dats.length p.c10, .slice p.A11 g.cuss.length p.c11] 33)).alloc (.cells #[.slice q.A0 c.types.length q.d0, .slice q.A1 c.funcs.length q.d1, .slice q.A2 c.globs.length q.d2, .slice q.A3 c.tabs.length q.d3, .slice q.A4 c.mems.length q.d4, .int .i64 c.hosts, .int .i64 c.vars, .int .i64 c.els, .int .i64 c.dats, .bool c.counted] 38)) = W0 at *
  go_loopw [5] (fun i wr => ∃ j : Nat, i = .int .i64 (j : Int) ∧ j ≤ g.els.length ∧ Hid (Below (w.heap.size + 2) W0 wr) ∧ Hid (∀ x ∈ g.els.take j, elE c x = 0)) (fun i _ => g.els.length - (intOf i).toNat)
  case atStart => exact ⟨0, rfl, Nat.zero_le _, Lib.hid (Below.refl _ _), Lib.hid (by simp)⟩
  case round =>
    obtain ⟨j, rfl, hj, HI, HZ⟩ := hrel
    obtain ⟨-, -, -, -, -, -, -, -, y8, -, -, -⟩ := (HG.out _ HI.out).1
    have hn8 : (g.els.length : Int) ≤ 100 := by have := HSM.out.els; omega
    by_cases hlt : j < g.els.length
    · have hlti : (j : Int) < (g.els.length : Int) := by omega
      obtain ⟨b, off, A1, c1, A2, c2, hA, h1⟩ := sm_el HL.out.l8 j hlt
      obtain ⟨q0, q1, q2, -, -⟩ := h1 wr (HB.out.trans (HI.out.mono (by omega)))
      rw [hA] at y8
      have HLS : Hid (∀ V, Below (w.heap.size + 2) W0 V → Lst insR V ok A1 c1 g.els[j].off ∧ Lst intR V ok A2 c2 g.els[j].fs) := Lib.hid fun V hV => (h1 V (HB.out.trans (hV.mono (by omega)))).2.2.2
      have HNX : Hid (elE c g.els[j] = 0 → ∀ x ∈ g.els.take (j + 1), elE c x = 0) := Lib.hid fun h => all_next hlt HZ.out h
      have HHT : Hid (∀ v, v ≠ 0 → elE c g.els[j] = v → R = v) := Lib.hid fun v hv h => by rw [← HR.out, first_hit (each_ne hlt HZ.out (by rw [h]; exact hv)), each_hit hlt HZ.out (by rw [h]; exact hv), h]
      have HFL : Hid (g.els[j].fs.length ≤ 3000) := Lib.hid (HSM.out.el _ (List.getElem_mem hlt))
      clear h1 hA
      generalize g.els[j] = x at *
      have HXB : Hid (Below wr.heap.size wr (wr.alloc (.cells #[.int .i64 x.mode, .slice A1 x.off.length c1, .slice A2 x.fs.length c2] 49)) ∧ (wr.alloc (.cells #[.int .i64 x.mode, .slice A1 x.off.length c1, .slice A2 x.fs.length c2] 49)).heap[wr.heap.size]? = some (.cells #[.int .i64 x.mode, .slice A1 x.off.length c1, .slice A2 x.fs.length c2] 49 (0, 0)) ∧ (wr.alloc (.cells #[.int .i64 x.mode, .slice A1 x.off.length c1, .slice A2 x.fs.length c2] 49)).heap.size = wr.heap.size + 1 ∧ w.heap.size + 2 ≤ wr.heap.size) := Lib.hid ⟨(Below.refl _ _).alloc (Nat.le_refl _) _, heap_alloc_new wr _, by simp, by have := HI.out.size; have := HSZ.out; omega⟩
      have HV0 : Hid (Below (w.heap.size + 2) W0 (wr.alloc (.cells #[.int .i64 x.mode, .slice A1 x.off.length c1, .slice A2 x.fs.length c2] 49))) := Lib.hid (HI.out.trans (HXB.out.1.mono HXB.out.2.2.2))
      clear HZ
      go_upto_region 5 with fail
      clear q0 q1 q2 y8
      generalize hVX : (wr.alloc (.cells #[.int .i64 x.mode, .slice A1 x.off.length c1, .slice A2 x.fs.length c2] 49)) = V0 at *
      clear hVX
      by_cases hm0 : x.mode = 0
      · have k0 : V0.cell? ⟨wr.heap.size, 0, none⟩ = some (.int .i64 0) := by rw [← hm0]; exact (blk_cell HXB.out.2.1 0).trans rfl
        have k1 : V0.cell? ⟨wr.heap.size, 1, none⟩ = some (.slice A1 x.off.length c1) := (blk_cell HXB.out.2.1 1).trans rfl
        obtain ⟨x0, x1, x2, x3, x4, x5, x6, x7, x8, x9⟩ := (HG.out _ HV0.out).2
        by_cases ht0 : c.tabs.length = 0
        · have HE : Hid (R = 7) := Lib.hid (HHT.out 7 (by decide) (by have h := laid_none c x.off hm0 ht0; rw [el_hit (by rw [h]; decide), h]))
          have ht0i : (c.tabs.length : Int) = 0 := by omega
          clear k1 ht0
          go_wp2
          go_ret
          exact ⟨by rw [HE.out]; rfl, HB.out.trans (HV0.out.mono (by omega))⟩
        · have ht0i : ¬ (c.tabs.length : Int) = 0 := by omega
          have HCO : Hid (Calls Try.prog 19 #[.agg #[.slice q.A0 c.types.length q.d0, .slice q.A1 c.funcs.length q.d1, .slice q.A2 c.globs.length q.d2, .slice q.A3 c.tabs.length q.d3, .slice q.A4 c.mems.length q.d4, .int .i64 c.hosts, .int .i64 c.vars, .int .i64 c.els, .int .i64 c.dats, .bool c.counted], .slice A1 x.off.length c1, .int .i64 127] V0 (BoolIs V0 (constB c x.off 127))) := Lib.hid (HK.out _ HV0.out _ _ _ _ (HLS.out _ HV0.out).1)
          cases hcb : constB c x.off 127 with
          | false =>
            have HE : Hid (R = 6) := Lib.hid (HHT.out 6 (by decide) (by have h := laid_bad hm0 ht0 hcb; rw [el_hit (by rw [h]; decide), h]))
            rw [hcb] at HCO
            clear hcb
            go_wp2_with fail
            refine HCO.out.mono ?_
            rintro en V2 ⟨rfl, hb⟩
            go_wp2
            go_ret
            exact ⟨by rw [HE.out]; rfl, HB.out.trans ((HV0.out.trans (hb.mono (by have := HXB.out; omega))).mono (by omega))⟩
          | true =>
            have HE : Hid (elE c x = eachE (entE c) x.fs) := Lib.hid (el_on (laid_ok hm0 ht0 hcb))
            rw [hcb] at HCO
            clear hcb
            go_wp2_with fail
            refine HCO.out.mono ?_
            rintro en V2 ⟨rfl, hb⟩
            have HW := Lib.hid (HV0.out.trans (hb.mono (by have := HXB.out; omega)))
            have HX2 := Lib.hid ((hb.block _ (by have := HXB.out; omega)).trans HXB.out.2.1)
            have HZS : Hid (wr.heap.size < V2.heap.size) := Lib.hid (by have := hb.size; have := HXB.out; omega)
            clear hb HCO HXB HV0 k0 k1 x0 x1 x2 x3 x4 x5 x6 x7 x8 x9
            go_wp2_with fail
            have hfl : (x.fs.length : Int) ≤ 3000 := by have := HFL.out; omega
            go_loopw [7] (fun i wr2 => ∃ k : Nat, i = .int .i64 (k : Int) ∧ k ≤ x.fs.length ∧ Hid (∀ y ∈ x.fs.take k, entE c y = 0) ∧ Hid (Below (w.heap.size + 2) W0 wr2 ∧ wr2.heap[wr.heap.size]? = some (.cells #[.int .i64 x.mode, .slice A1 x.off.length c1, .slice A2 x.fs.length c2] 49 (0, 0)))) (fun i _ => x.fs.length - (intOf i).toNat)
            case atStart => exact ⟨0, rfl, Nat.zero_le _, Lib.hid (by simp), Lib.hid ⟨HW.out, HX2.out⟩⟩
            case round =>
              clear HW HX2 HZS
              obtain ⟨k, rfl, hk, HZ2, HJ⟩ := hrel
              rename World => V3
              have k2 : V3.cell? ⟨wr.heap.size, 2, none⟩ = some (.slice A2 x.fs.length c2) := (blk_cell HJ.out.2 2).trans rfl
              by_cases hlt2 : k < x.fs.length
              · have hlti2 : (k : Int) < (x.fs.length : Int) := by omega
                obtain ⟨bf, of, hAf, h1⟩ := sm_int (HLS.out V3 HJ.out.1).2 k hlt2
                have HNY : Hid (entE c x.fs[k] = 0 → ∀ y ∈ x.fs.take (k + 1), entE c y = 0) := Lib.hid fun h => all_next hlt2 HZ2.out h
                have HH2 : Hid (entE c x.fs[k] = 7 → R = 7) := Lib.hid fun h => HHT.out 7 (by decide) (by rw [HE.out, each_hit hlt2 HZ2.out (by rw [h]; decide), h])
                have HD : Hid (Below (w.heap.size + 2) W0 V3.drew ∧ V3.drew.heap[wr.heap.size]? = some (.cells #[.int .i64 x.mode, .slice A1 x.off.length c1, .slice A2 x.fs.length c2] 49 (0, 0))) := Lib.hid ⟨HJ.out.1.drew, HJ.out.2⟩
                have hS0 : (SEl wr.heap.size (w.heap.size + 1) bf (of + k) q c (some ⟨bf, of, none⟩) x.fs.length c2 x.fs[k]) V3.drew := by
                  refine ⟨?_, ?_, (HG.out _ HD.out.1).2.2.1⟩
                  · rw [← hAf]; exact (blk_cell HD.out.2 2).trans rfl
                  · exact h1 _ (Below.refl _ _).drew
                rw [hAf] at k2
                clear h1 hAf
                generalize x.fs[k] = fk at *
                have HENT : Hid (entE c fk = if fk ≠ -1 ∧ inB fk c.funcs.length = false then 7 else 0) := Lib.hid rfl
                by_cases hf1 : fk = -1
                · have HN := Lib.hid (HNY.out (by rw [HENT.out, if_neg (by simp [hf1])]))
                  clear HENT HNY HH2
                  subst hf1
                  have hfb : ((-1 : Int) != -1) = false := by decide
                  go_wp2_with fail
                  refine wp_region_held_drew (S := (SEl wr.heap.size (w.heap.size + 1) bf (of + k) q c (some ⟨bf, of, none⟩) x.fs.length c2 (-1))) (by kernel_rfl) hS0 (fun hS => ?_)
                  clear hS0 k2 HJ
                  generalize V3.drew = V at *
                  refine wpAnyH_take (i := 0) (oi := { dst := some 48, op := .fieldAddr 49 (.tmp 6) 2, type := 0, pos := "ref.go:160", after := #[], guard := none }) (v := ?_) rfl (by kernel_rfl) (by kernel_rfl) (by kernel_rfl) (fun _ _ _ h => h) (Or.inl ⟨by rfl, ?_⟩) hS ?_
                  rotate_left
                  · (intro w' hS'; obtain ⟨s0, s1, s2⟩ := hS'; go_simp; try simp only [hfb]) <;> with_reducible rfl
                  try simp only [Act.put, List.setIfInBounds_toArray, List.set_cons_zero, List.set_cons_succ]
                  refine wpAnyH_take (i := 1) (oi := { dst := some 49, op := .load 28 (.tmp 48), type := 28, pos := "ref.go:160", after := #[{ on := 0, ground := .data }], guard := none }) (v := ?_) rfl (by kernel_rfl) (by kernel_rfl) (by kernel_rfl) (fun _ _ _ h => h) (Or.inl ⟨by rfl, ?_⟩) hS ?_
                  rotate_left
                  · (intro w' hS'; obtain ⟨s0, s1, s2⟩ := hS'; go_simp; try simp only [hfb]) <;> with_reducible rfl
                  try simp only [Act.put, List.setIfInBounds_toArray, List.set_cons_zero, List.set_cons_succ]
                  refine wpAnyH_take (i := 2) (oi := { dst := some 50, op := .move (.tmp 7), type := 3, pos := "ref.go:160", after := #[], guard := none }) (v := ?_) rfl (by kernel_rfl) (by kernel_rfl) (by kernel_rfl) (fun _ _ _ h => h) (Or.inl ⟨by rfl, ?_⟩) hS ?_
                  rotate_left
                  · (intro w' hS'; obtain ⟨s0, s1, s2⟩ := hS'; go_simp; try simp only [hfb]) <;> with_reducible rfl
                  try simp only [Act.put, List.setIfInBounds_toArray, List.set_cons_zero, List.set_cons_succ]
                  refine wpAnyH_take (i := 3) (oi := { dst := some 51, op := .indexAddr 28 (.tmp 49) (.tmp 50), type := 0, pos := "ref.go:160", after := #[{ on := 1, ground := .data }, { on := 2, ground := .data }], guard := none }) (v := ?_) rfl (by kernel_rfl) (by kernel_rfl) (by kernel_rfl) (fun _ _ _ h => h) (Or.inl ⟨by rfl, ?_⟩) hS ?_
                  rotate_left
                  · (intro w' hS'; obtain ⟨s0, s1, s2⟩ := hS'; go_simp; try simp only [hfb]) <;> with_reducible rfl
                  try simp only [Act.put, List.setIfInBounds_toArray, List.set_cons_zero, List.set_cons_succ]
                  refine wpAnyH_take (i := 4) (oi := { dst := some 52, op := .load 3 (.tmp 51), type := 3, pos := "ref.go:160", after := #[{ on := 3, ground := .data }], guard := none }) (v := ?_) rfl (by kernel_rfl) (by kernel_rfl) (by kernel_rfl) (fun _ _ _ h => h) (Or.inl ⟨by rfl, ?_⟩) hS ?_
                  rotate_left
                  · (intro w' hS'; obtain ⟨s0, s1, s2⟩ := hS'; go_simp; try simp only [hfb]) <;> with_reducible rfl
                  try simp only [Act.put, List.setIfInBounds_toArray, List.set_cons_zero, List.set_cons_succ]
                  refine wpAnyH_take (i := 5) (oi := { dst := some 53, op := .binOp .neq 3 (.tmp 52) (.const (.int .i64 (-1))) 3, type := 4, pos := "ref.go:160", after := #[{ on := 4, ground := .data }], guard := none }) (v := ?_) rfl (by kernel_rfl) (by kernel_rfl) (by kernel_rfl) (fun _ _ _ h => h) (Or.inl ⟨by rfl, ?_⟩) hS ?_
                  rotate_left
                  · (intro w' hS'; obtain ⟨s0, s1, s2⟩ := hS'; go_simp; try simp only [hfb]) <;> with_reducible rfl
                  try simp only [Act.put, List.setIfInBounds_toArray, List.set_cons_zero, List.set_cons_succ]
                  refine wpAnyH_take (i := 6) (oi := { dst := some 54, op := .move (.tmp 53), type := 4, pos := "ref.go:160", after := #[{ on := 5, ground := .data }], guard := none }) (v := ?_) rfl (by kernel_rfl) (by kernel_rfl) (by kernel_rfl) (fun _ _ _ h => h) (Or.inl ⟨by rfl, ?_⟩) hS ?_
                  rotate_left
                  · (intro w' hS'; obtain ⟨s0, s1, s2⟩ := hS'; go_simp; try simp only [hfb]) <;> with_reducible rfl
                  try simp only [Act.put, List.setIfInBounds_toArray, List.set_cons_zero, List.set_cons_succ]
                  refine wpAnyH_take (i := 7) (oi := { dst := some 55, op := .fieldAddr 49 (.tmp 6) 2, type := 0, pos := "ref.go:160", after := #[{ on := 6, ground := .guard }], guard := some (6, true) }) (v := undef) rfl (by kernel_rfl) (by kernel_rfl) (by kernel_rfl) (fun _ _ _ h => h) (Or.inr ⟨by rfl, rfl⟩) hS ?_
                  try simp only [Act.put, List.setIfInBounds_toArray, List.set_cons_zero, List.set_cons_succ]
                  refine wpAnyH_take (i := 8) (oi := { dst := some 56, op := .load 28 (.tmp 55), type := 28, pos := "ref.go:160", after := #[{ on := 7, ground := .data }, { on := 6, ground := .guard }], guard := some (6, true) }) (v := undef) rfl (by kernel_rfl) (by kernel_rfl) (by kernel_rfl) (fun _ _ _ h => h) (Or.inr ⟨by rfl, rfl⟩) hS ?_
                  try simp only [Act.put, List.setIfInBounds_toArray, List.set_cons_zero, List.set_cons_succ]
                  refine wpAnyH_take (i := 9) (oi := { dst := some 57, op := .move (.tmp 7), type := 3, pos := "ref.go:160", after := #[{ on := 6, ground := .guard }], guard := some (6, true) }) (v := undef) rfl (by kernel_rfl) (by kernel_rfl) (by kernel_rfl) (fun _ _ _ h => h) (Or.inr ⟨by rfl, rfl⟩) hS ?_
                  try simp only [Act.put, List.setIfInBounds_toArray, List.set_cons_zero, List.set_cons_succ]
                  refine wpAnyH_take (i := 10) (oi := { dst := some 58, op := .indexAddr 28 (.tmp 56) (.tmp 57), type := 0, pos := "ref.go:160", after := #[{ on := 8, ground := .data }, { on := 9, ground := .data }, { on := 6, ground := .guard }], guard := some (6, true) }) (v := undef) rfl (by kernel_rfl) (by kernel_rfl) (by kernel_rfl) (fun _ _ _ h => h) (Or.inr ⟨by rfl, rfl⟩) hS ?_
                  try simp only [Act.put, List.setIfInBounds_toArray, List.set_cons_zero, List.set_cons_succ]
                  refine wpAnyH_take (i := 11) (oi := { dst := some 59, op := .load 3 (.tmp 58), type := 3, pos := "ref.go:160", after := #[{ on := 10, ground := .data }, { on := 6, ground := .guard }], guard := some (6, true) }) (v := undef) rfl (by kernel_rfl) (by kernel_rfl) (by kernel_rfl) (fun _ _ _ h => h) (Or.inr ⟨by rfl, rfl⟩) hS ?_
                  try simp only [Act.put, List.setIfInBounds_toArray, List.set_cons_zero, List.set_cons_succ]
                  refine wpAnyH_take (i := 12) (oi := { dst := some 60, op := .fieldAddr 38 (.tmp 3) 1, type := 0, pos := "ref.go:160", after := #[{ on := 6, ground := .guard }], guard := some (6, true) }) (v := undef) rfl (by kernel_rfl) (by kernel_rfl) (by kernel_rfl) (fun _ _ _ h => h) (Or.inr ⟨by rfl, rfl⟩) hS ?_
                  try simp only [Act.put, List.setIfInBounds_toArray, List.set_cons_zero, List.set_cons_succ]
                  refine wpAnyH_take (i := 13) (oi := { dst := some 61, op := .load 28 (.tmp 60), type := 28, pos := "ref.go:160", after := #[{ on := 12, ground := .data }, { on := 6, ground := .guard }], guard := some (6, true) }) (v := undef) rfl (by kernel_rfl) (by kernel_rfl) (by kernel_rfl) (fun _ _ _ h => h) (Or.inr ⟨by rfl, rfl⟩) hS ?_
                  try simp only [Act.put, List.setIfInBounds_toArray, List.set_cons_zero, List.set_cons_succ]
                  refine wpAnyH_take (i := 14) (oi := { dst := some 62, op := .call { callee := .builtin .len, args := #[.tmp 61], argTypes := #[28] }, type := 3, pos := "ref.go:160", after := #[{ on := 13, ground := .data }, { on := 6, ground := .guard }], guard := some (6, true) }) (v := undef) rfl (by kernel_rfl) (by kernel_rfl) (by kernel_rfl) (fun _ _ _ h => h) (Or.inr ⟨by rfl, rfl⟩) hS ?_
                  try simp only [Act.put, List.setIfInBounds_toArray, List.set_cons_zero, List.set_cons_succ]
                  refine wpAnyH_take (i := 15) (oi := { dst := some 63, op := .call { callee := .value (.func 16), args := #[.tmp 59, .tmp 62], argTypes := #[3, 3] }, type := 4, pos := "ref.go:160", after := #[{ on := 11, ground := .data }, { on := 14, ground := .data }, { on := 6, ground := .chain }, { on := 6, ground := .guard }], guard := some (6, true) }) (v := undef) rfl (by kernel_rfl) (by kernel_rfl) (by kernel_rfl) (fun _ _ _ h => h) (Or.inr ⟨by rfl, rfl⟩) hS ?_
                  try simp only [Act.put, List.setIfInBounds_toArray, List.set_cons_zero, List.set_cons_succ]
                  refine wpAnyH_take (i := 16) (oi := { dst := some 64, op := .unOp .not 4 (.tmp 63), type := 4, pos := "ref.go:160", after := #[{ on := 15, ground := .data }, { on := 6, ground := .guard }], guard := some (6, true) }) (v := undef) rfl (by kernel_rfl) (by kernel_rfl) (by kernel_rfl) (fun _ _ _ h => h) (Or.inr ⟨by rfl, rfl⟩) hS ?_
                  try simp only [Act.put, List.setIfInBounds_toArray, List.set_cons_zero, List.set_cons_succ]
                  refine wpAnyH_take (i := 17) (oi := { dst := some 65, op := .pick (.tmp 54) (.tmp 64) (.const (.bool false)), type := 4, pos := "ref.go:160", after := #[{ on := 6, ground := .data }, { on := 16, ground := .data }], guard := none }) (v := ?_) rfl (by kernel_rfl) (by kernel_rfl) (by kernel_rfl) (fun _ _ _ h => h) (Or.inl ⟨by rfl, ?_⟩) hS ?_
                  rotate_left
                  · (intro w' hS'; obtain ⟨s0, s1, s2⟩ := hS'; go_simp; try simp only [hfb]) <;> with_reducible rfl
                  try simp only [Act.put, List.setIfInBounds_toArray, List.set_cons_zero, List.set_cons_succ]
                  refine wpAnyH_done (by kernel_rfl) ?_ _
                  go_wp2
                  go_roundw
                  case rel => exact ⟨k + 1, by go_num, by omega, HN, HD⟩
                  case measure => simp [intOf]; omega
                cases hb : inB fk c.funcs.length with
                | false =>
                  have HIN : Hid (∀ V : World, Calls Try.prog 16 #[.int .i64 fk, .int .i64 (c.funcs.length : Int)] V fun en w' => en = .returned (.bool false) ∧ w' = V) := Lib.hid fun V => by
                    have h := rin_any fk (c.funcs.length : Int) V
                    have e : (decide (0 ≤ fk) && decide (fk < (c.funcs.length : Int))) = false := hb
                    rwa [e] at h
                  have HEE := Lib.hid (HH2.out (by rw [HENT.out, if_pos ⟨hf1, hb⟩]))
                  clear HENT HNY HH2 hb
                  have hfb : (fk != (-1 : Int)) = true := by simp [hf1]
                  go_wp2_with fail
                  refine wp_region_held_drew (S := (SEl wr.heap.size (w.heap.size + 1) bf (of + k) q c (some ⟨bf, of, none⟩) x.fs.length c2 fk)) (by kernel_rfl) hS0 (fun hS => ?_)
                  have HSB : Hid (∀ u, Below (w.heap.size + 2) W0 u ∧ u.heap[wr.heap.size]? = some (.cells #[.int .i64 x.mode, .slice A1 x.off.length c1, .slice A2 x.fs.length c2] 49 (0, 0)) → u = V3.drew → (SEl wr.heap.size (w.heap.size + 1) bf (of + k) q c (some ⟨bf, of, none⟩) x.fs.length c2 fk) u) := Lib.hid fun u _ e => by rw [e]; exact hS0
                  clear k2 HJ
                  generalize hVV : V3.drew = V at *
                  clear hS0
                  refine wpAnyH_take (i := 0) (oi := { dst := some 48, op := .fieldAddr 49 (.tmp 6) 2, type := 0, pos := "ref.go:160", after := #[], guard := none }) (v := ?_) rfl (by kernel_rfl) (by kernel_rfl) (by kernel_rfl) (fun _ _ _ h => h) (Or.inl ⟨by rfl, ?_⟩) hS ?_
                  rotate_left
                  · (intro w' hS'; obtain ⟨s0, s1, s2⟩ := hS'; go_simp; try simp only [hfb]) <;> with_reducible rfl
                  try simp only [Act.put, List.setIfInBounds_toArray, List.set_cons_zero, List.set_cons_succ]
                  refine wpAnyH_take (i := 1) (oi := { dst := some 49, op := .load 28 (.tmp 48), type := 28, pos := "ref.go:160", after := #[{ on := 0, ground := .data }], guard := none }) (v := ?_) rfl (by kernel_rfl) (by kernel_rfl) (by kernel_rfl) (fun _ _ _ h => h) (Or.inl ⟨by rfl, ?_⟩) hS ?_
                  rotate_left
                  · (intro w' hS'; obtain ⟨s0, s1, s2⟩ := hS'; go_simp; try simp only [hfb]) <;> with_reducible rfl
                  try simp only [Act.put, List.setIfInBounds_toArray, List.set_cons_zero, List.set_cons_succ]
                  refine wpAnyH_take (i := 2) (oi := { dst := some 50, op := .move (.tmp 7), type := 3, pos := "ref.go:160", after := #[], guard := none }) (v := ?_) rfl (by kernel_rfl) (by kernel_rfl) (by kernel_rfl) (fun _ _ _ h => h) (Or.inl ⟨by rfl, ?_⟩) hS ?_
                  rotate_left
                  · (intro w' hS'; obtain ⟨s0, s1, s2⟩ := hS'; go_simp; try simp only [hfb]) <;> with_reducible rfl
                  try simp only [Act.put, List.setIfInBounds_toArray, List.set_cons_zero, List.set_cons_succ]
                  refine wpAnyH_take (i := 3) (oi := { dst := some 51, op := .indexAddr 28 (.tmp 49) (.tmp 50), type := 0, pos := "ref.go:160", after := #[{ on := 1, ground := .data }, { on := 2, ground := .data }], guard := none }) (v := ?_) rfl (by kernel_rfl) (by kernel_rfl) (by kernel_rfl) (fun _ _ _ h => h) (Or.inl ⟨by rfl, ?_⟩) hS ?_
                  rotate_left
                  · (intro w' hS'; obtain ⟨s0, s1, s2⟩ := hS'; go_simp; try simp only [hfb]) <;> with_reducible rfl
                  try simp only [Act.put, List.setIfInBounds_toArray, List.set_cons_zero, List.set_cons_succ]
                  refine wpAnyH_take (i := 4) (oi := { dst := some 52, op := .load 3 (.tmp 51), type := 3, pos := "ref.go:160", after := #[{ on := 3, ground := .data }], guard := none }) (v := ?_) rfl (by kernel_rfl) (by kernel_rfl) (by kernel_rfl) (fun _ _ _ h => h) (Or.inl ⟨by rfl, ?_⟩) hS ?_
                  rotate_left
                  · (intro w' hS'; obtain ⟨s0, s1, s2⟩ := hS'; go_simp; try simp only [hfb]) <;> with_reducible rfl
                  try simp only [Act.put, List.setIfInBounds_toArray, List.set_cons_zero, List.set_cons_succ]
                  refine wpAnyH_take (i := 5) (oi := { dst := some 53, op := .binOp .neq 3 (.tmp 52) (.const (.int .i64 (-1))) 3, type := 4, pos := "ref.go:160", after := #[{ on := 4, ground := .data }], guard := none }) (v := ?_) rfl (by kernel_rfl) (by kernel_rfl) (by kernel_rfl) (fun _ _ _ h => h) (Or.inl ⟨by rfl, ?_⟩) hS ?_
                  rotate_left
                  · (intro w' hS'; obtain ⟨s0, s1, s2⟩ := hS'; go_simp; try simp only [hfb]) <;> with_reducible rfl
                  try simp only [Act.put, List.setIfInBounds_toArray, List.set_cons_zero, List.set_cons_succ]
                  refine wpAnyH_take (i := 6) (oi := { dst := some 54, op := .move (.tmp 53), type := 4, pos := "ref.go:160", after := #[{ on := 5, ground := .data }], guard := none }) (v := ?_) rfl (by kernel_rfl) (by kernel_rfl) (by kernel_rfl) (fun _ _ _ h => h) (Or.inl ⟨by rfl, ?_⟩) hS ?_
                  rotate_left
                  · (intro w' hS'; obtain ⟨s0, s1, s2⟩ := hS'; go_simp; try simp only [hfb]) <;> with_reducible rfl
                  try simp only [Act.put, List.setIfInBounds_toArray, List.set_cons_zero, List.set_cons_succ]
                  refine wpAnyH_take (i := 7) (oi := { dst := some 55, op := .fieldAddr 49 (.tmp 6) 2, type := 0, pos := "ref.go:160", after := #[{ on := 6, ground := .guard }], guard := some (6, true) }) (v := ?_) rfl (by kernel_rfl) (by kernel_rfl) (by kernel_rfl) (fun _ _ _ h => h) (Or.inl ⟨by rfl, ?_⟩) hS ?_
                  rotate_left
                  · (intro w' hS'; obtain ⟨s0, s1, s2⟩ := hS'; go_simp; try simp only [hfb]) <;> with_reducible rfl
                  try simp only [Act.put, List.setIfInBounds_toArray, List.set_cons_zero, List.set_cons_succ]
                  refine wpAnyH_take (i := 8) (oi := { dst := some 56, op := .load 28 (.tmp 55), type := 28, pos := "ref.go:160", after := #[{ on := 7, ground := .data }, { on := 6, ground := .guard }], guard := some (6, true) }) (v := ?_) rfl (by kernel_rfl) (by kernel_rfl) (by kernel_rfl) (fun _ _ _ h => h) (Or.inl ⟨by rfl, ?_⟩) hS ?_
                  rotate_left
                  · (intro w' hS'; obtain ⟨s0, s1, s2⟩ := hS'; go_simp; try simp only [hfb]) <;> with_reducible rfl
                  try simp only [Act.put, List.setIfInBounds_toArray, List.set_cons_zero, List.set_cons_succ]
                  refine wpAnyH_take (i := 9) (oi := { dst := some 57, op := .move (.tmp 7), type := 3, pos := "ref.go:160", after := #[{ on := 6, ground := .guard }], guard := some (6, true) }) (v := ?_) rfl (by kernel_rfl) (by kernel_rfl) (by kernel_rfl) (fun _ _ _ h => h) (Or.inl ⟨by rfl, ?_⟩) hS ?_
                  rotate_left
                  · (intro w' hS'; obtain ⟨s0, s1, s2⟩ := hS'; go_simp; try simp only [hfb]) <;> with_reducible rfl
                  try simp only [Act.put, List.setIfInBounds_toArray, List.set_cons_zero, List.set_cons_succ]
                  refine wpAnyH_take (i := 10) (oi := { dst := some 58, op := .indexAddr 28 (.tmp 56) (.tmp 57), type := 0, pos := "ref.go:160", after := #[{ on := 8, ground := .data }, { on := 9, ground := .data }, { on := 6, ground := .guard }], guard := some (6, true) }) (v := ?_) rfl (by kernel_rfl) (by kernel_rfl) (by kernel_rfl) (fun _ _ _ h => h) (Or.inl ⟨by rfl, ?_⟩) hS ?_
                  rotate_left
                  · (intro w' hS'; obtain ⟨s0, s1, s2⟩ := hS'; go_simp; try simp only [hfb]) <;> with_reducible rfl
                  try simp only [Act.put, List.setIfInBounds_toArray, List.set_cons_zero, List.set_cons_succ]
                  refine wpAnyH_take (i := 11) (oi := { dst := some 59, op := .load 3 (.tmp 58), type := 3, pos := "ref.go:160", after := #[{ on := 10, ground := .data }, { on := 6, ground := .guard }], guard := some (6, true) }) (v := ?_) rfl (by kernel_rfl) (by kernel_rfl) (by kernel_rfl) (fun _ _ _ h => h) (Or.inl ⟨by rfl, ?_⟩) hS ?_
                  rotate_left
                  · (intro w' hS'; obtain ⟨s0, s1, s2⟩ := hS'; go_simp; try simp only [hfb]) <;> with_reducible rfl
                  try simp only [Act.put, List.setIfInBounds_toArray, List.set_cons_zero, List.set_cons_succ]
                  refine wpAnyH_take (i := 12) (oi := { dst := some 60, op := .fieldAddr 38 (.tmp 3) 1, type := 0, pos := "ref.go:160", after := #[{ on := 6, ground := .guard }], guard := some (6, true) }) (v := ?_) rfl (by kernel_rfl) (by kernel_rfl) (by kernel_rfl) (fun _ _ _ h => h) (Or.inl ⟨by rfl, ?_⟩) hS ?_
                  rotate_left
                  · (intro w' hS'; obtain ⟨s0, s1, s2⟩ := hS'; go_simp; try simp only [hfb]) <;> with_reducible rfl
                  try simp only [Act.put, List.setIfInBounds_toArray, List.set_cons_zero, List.set_cons_succ]
                  refine wpAnyH_take (i := 13) (oi := { dst := some 61, op := .load 28 (.tmp 60), type := 28, pos := "ref.go:160", after := #[{ on := 12, ground := .data }, { on := 6, ground := .guard }], guard := some (6, true) }) (v := ?_) rfl (by kernel_rfl) (by kernel_rfl) (by kernel_rfl) (fun _ _ _ h => h) (Or.inl ⟨by rfl, ?_⟩) hS ?_
                  rotate_left
                  · (intro w' hS'; obtain ⟨s0, s1, s2⟩ := hS'; go_simp; try simp only [hfb]) <;> with_reducible rfl
                  try simp only [Act.put, List.setIfInBounds_toArray, List.set_cons_zero, List.set_cons_succ]
                  refine wpAnyH_take (i := 14) (oi := { dst := some 62, op := .call { callee := .builtin .len, args := #[.tmp 61], argTypes := #[28] }, type := 3, pos := "ref.go:160", after := #[{ on := 13, ground := .data }, { on := 6, ground := .guard }], guard := some (6, true) }) (v := ?_) rfl (by kernel_rfl) (by kernel_rfl) (by kernel_rfl) (fun _ _ _ h => h) (Or.inl ⟨by rfl, ?_⟩) hS ?_
                  rotate_left
                  · (intro w' hS'; obtain ⟨s0, s1, s2⟩ := hS'; go_simp; try simp only [hfb]) <;> with_reducible rfl
                  try simp only [Act.put, List.setIfInBounds_toArray, List.set_cons_zero, List.set_cons_succ]
                  refine wpAnyH_ready (rs := [15]) (by kernel_rfl) (by simp) ?_
                  refine AllReadyH.cons (o := { dst := some 63, op := .call { callee := .value (.func 16), args := #[.tmp 59, .tmp 62], argTypes := #[3, 3] }, type := 4, pos := "ref.go:160", after := #[{ on := 11, ground := .data }, { on := 14, ground := .data }, { on := 6, ground := .chain }, { on := 6, ground := .guard }], guard := some (6, true) }) rfl (fun K' hK => ?_) (AllReadyH.nil)
                  go_simp
                  refine (HIN.out _).mono ?_
                  rintro en V1 ⟨rfl, rfl⟩
                  go_wp2_with fail
                  refine hK.out _ _ (HSB.out _ HD.out rfl) (fun hS => ?_)
                  clear hK K'
                  try simp only [Act.put, List.setIfInBounds_toArray, List.set_cons_zero, List.set_cons_succ]
                  refine wpAnyH_take (i := 16) (oi := { dst := some 64, op := .unOp .not 4 (.tmp 63), type := 4, pos := "ref.go:160", after := #[{ on := 15, ground := .data }, { on := 6, ground := .guard }], guard := some (6, true) }) (v := ?_) rfl (by kernel_rfl) (by kernel_rfl) (by kernel_rfl) (fun _ _ _ h => h) (Or.inl ⟨by rfl, ?_⟩) hS ?_
                  rotate_left
                  · (intro w' hS'; obtain ⟨s0, s1, s2⟩ := hS'; go_simp; try simp only [hfb]) <;> with_reducible rfl
                  try simp only [Act.put, List.setIfInBounds_toArray, List.set_cons_zero, List.set_cons_succ]
                  refine wpAnyH_take (i := 17) (oi := { dst := some 65, op := .pick (.tmp 54) (.tmp 64) (.const (.bool false)), type := 4, pos := "ref.go:160", after := #[{ on := 6, ground := .data }, { on := 16, ground := .data }], guard := none }) (v := ?_) rfl (by kernel_rfl) (by kernel_rfl) (by kernel_rfl) (fun _ _ _ h => h) (Or.inl ⟨by rfl, ?_⟩) hS ?_
                  rotate_left
                  · (intro w' hS'; obtain ⟨s0, s1, s2⟩ := hS'; go_simp; try simp only [hfb]) <;> with_reducible rfl
                  try simp only [Act.put, List.setIfInBounds_toArray, List.set_cons_zero, List.set_cons_succ]
                  refine wpAnyH_done (by kernel_rfl) ?_ _
                  go_wp2
                  go_ret
                  exact ⟨by rw [HEE.out]; rfl, HB.out.trans (HD.out.1.mono (by omega))⟩
                | true =>
                  have HIN : Hid (∀ V : World, Calls Try.prog 16 #[.int .i64 fk, .int .i64 (c.funcs.length : Int)] V fun en w' => en = .returned (.bool true) ∧ w' = V) := Lib.hid fun V => by
                    have h := rin_any fk (c.funcs.length : Int) V
                    have e : (decide (0 ≤ fk) && decide (fk < (c.funcs.length : Int))) = true := hb
                    rwa [e] at h
                  have HN := Lib.hid (HNY.out (by rw [HENT.out, if_neg (by simp [hb])]))
                  clear HENT HNY HH2 hb
                  have hfb : (fk != (-1 : Int)) = true := by simp [hf1]
                  go_wp2_with fail
                  refine wp_region_held_drew (S := (SEl wr.heap.size (w.heap.size + 1) bf (of + k) q c (some ⟨bf, of, none⟩) x.fs.length c2 fk)) (by kernel_rfl) hS0 (fun hS => ?_)
                  have HSB : Hid (∀ u, Below (w.heap.size + 2) W0 u ∧ u.heap[wr.heap.size]? = some (.cells #[.int .i64 x.mode, .slice A1 x.off.length c1, .slice A2 x.fs.length c2] 49 (0, 0)) → u = V3.drew → (SEl wr.heap.size (w.heap.size + 1) bf (of + k) q c (some ⟨bf, of, none⟩) x.fs.length c2 fk) u) := Lib.hid fun u _ e => by rw [e]; exact hS0
                  clear k2 HJ
                  generalize hVV : V3.drew = V at *
                  clear hS0
                  refine wpAnyH_take (i := 0) (oi := { dst := some 48, op := .fieldAddr 49 (.tmp 6) 2, type := 0, pos := "ref.go:160", after := #[], guard := none }) (v := ?_) rfl (by kernel_rfl) (by kernel_rfl) (by kernel_rfl) (fun _ _ _ h => h) (Or.inl ⟨by rfl, ?_⟩) hS ?_
                  rotate_left
                  · (intro w' hS'; obtain ⟨s0, s1, s2⟩ := hS'; go_simp; try simp only [hfb]) <;> with_reducible rfl
                  try simp only [Act.put, List.setIfInBounds_toArray, List.set_cons_zero, List.set_cons_succ]
                  refine wpAnyH_take (i := 1) (oi := { dst := some 49, op := .load 28 (.tmp 48), type := 28, pos := "ref.go:160", after := #[{ on := 0, ground := .data }], guard := none }) (v := ?_) rfl (by kernel_rfl) (by kernel_rfl) (by kernel_rfl) (fun _ _ _ h => h) (Or.inl ⟨by rfl, ?_⟩) hS ?_
                  rotate_left
                  · (intro w' hS'; obtain ⟨s0, s1, s2⟩ := hS'; go_simp; try simp only [hfb]) <;> with_reducible rfl
                  try simp only [Act.put, List.setIfInBounds_toArray, List.set_cons_zero, List.set_cons_succ]
                  refine wpAnyH_take (i := 2) (oi := { dst := some 50, op := .move (.tmp 7), type := 3, pos := "ref.go:160", after := #[], guard := none }) (v := ?_) rfl (by kernel_rfl) (by kernel_rfl) (by kernel_rfl) (fun _ _ _ h => h) (Or.inl ⟨by rfl, ?_⟩) hS ?_
                  rotate_left
                  · (intro w' hS'; obtain ⟨s0, s1, s2⟩ := hS'; go_simp; try simp only [hfb]) <;> with_reducible rfl
                  try simp only [Act.put, List.setIfInBounds_toArray, List.set_cons_zero, List.set_cons_succ]
                  refine wpAnyH_take (i := 3) (oi := { dst := some 51, op := .indexAddr 28 (.tmp 49) (.tmp 50), type := 0, pos := "ref.go:160", after := #[{ on := 1, ground := .data }, { on := 2, ground := .data }], guard := none }) (v := ?_) rfl (by kernel_rfl) (by kernel_rfl) (by kernel_rfl) (fun _ _ _ h => h) (Or.inl ⟨by rfl, ?_⟩) hS ?_
                  rotate_left
                  · (intro w' hS'; obtain ⟨s0, s1, s2⟩ := hS'; go_simp; try simp only [hfb]) <;> with_reducible rfl
                  try simp only [Act.put, List.setIfInBounds_toArray, List.set_cons_zero, List.set_cons_succ]
                  refine wpAnyH_take (i := 4) (oi := { dst := some 52, op := .load 3 (.tmp 51), type := 3, pos := "ref.go:160", after := #[{ on := 3, ground := .data }], guard := none }) (v := ?_) rfl (by kernel_rfl) (by kernel_rfl) (by kernel_rfl) (fun _ _ _ h => h) (Or.inl ⟨by rfl, ?_⟩) hS ?_
                  rotate_left
                  · (intro w' hS'; obtain ⟨s0, s1, s2⟩ := hS'; go_simp; try simp only [hfb]) <;> with_reducible rfl
                  try simp only [Act.put, List.setIfInBounds_toArray, List.set_cons_zero, List.set_cons_succ]
                  refine wpAnyH_take (i := 5) (oi := { dst := some 53, op := .binOp .neq 3 (.tmp 52) (.const (.int .i64 (-1))) 3, type := 4, pos := "ref.go:160", after := #[{ on := 4, ground := .data }], guard := none }) (v := ?_) rfl (by kernel_rfl) (by kernel_rfl) (by kernel_rfl) (fun _ _ _ h => h) (Or.inl ⟨by rfl, ?_⟩) hS ?_
                  rotate_left
                  · (intro w' hS'; obtain ⟨s0, s1, s2⟩ := hS'; go_simp; try simp only [hfb]) <;> with_reducible rfl
                  try simp only [Act.put, List.setIfInBounds_toArray, List.set_cons_zero, List.set_cons_succ]
                  refine wpAnyH_take (i := 6) (oi := { dst := some 54, op := .move (.tmp 53), type := 4, pos := "ref.go:160", after := #[{ on := 5, ground := .data }], guard := none }) (v := ?_) rfl (by kernel_rfl) (by kernel_rfl) (by kernel_rfl) (fun _ _ _ h => h) (Or.inl ⟨by rfl, ?_⟩) hS ?_
                  rotate_left
                  · (intro w' hS'; obtain ⟨s0, s1, s2⟩ := hS'; go_simp; try simp only [hfb]) <;> with_reducible rfl
                  try simp only [Act.put, List.setIfInBounds_toArray, List.set_cons_zero, List.set_cons_succ]
                  refine wpAnyH_take (i := 7) (oi := { dst := some 55, op := .fieldAddr 49 (.tmp 6) 2, type := 0, pos := "ref.go:160", after := #[{ on := 6, ground := .guard }], guard := some (6, true) }) (v := ?_) rfl (by kernel_rfl) (by kernel_rfl) (by kernel_rfl) (fun _ _ _ h => h) (Or.inl ⟨by rfl, ?_⟩) hS ?_
                  rotate_left
                  · (intro w' hS'; obtain ⟨s0, s1, s2⟩ := hS'; go_simp; try simp only [hfb]) <;> with_reducible rfl
                  try simp only [Act.put, List.setIfInBounds_toArray, List.set_cons_zero, List.set_cons_succ]
                  refine wpAnyH_take (i := 8) (oi := { dst := some 56, op := .load 28 (.tmp 55), type := 28, pos := "ref.go:160", after := #[{ on := 7, ground := .data }, { on := 6, ground := .guard }], guard := some (6, true) }) (v := ?_) rfl (by kernel_rfl) (by kernel_rfl) (by kernel_rfl) (fun _ _ _ h => h) (Or.inl ⟨by rfl, ?_⟩) hS ?_
                  rotate_left
                  · (intro w' hS'; obtain ⟨s0, s1, s2⟩ := hS'; go_simp; try simp only [hfb]) <;> with_reducible rfl
                  try simp only [Act.put, List.setIfInBounds_toArray, List.set_cons_zero, List.set_cons_succ]
                  refine wpAnyH_take (i := 9) (oi := { dst := some 57, op := .move (.tmp 7), type := 3, pos := "ref.go:160", after := #[{ on := 6, ground := .guard }], guard := some (6, true) }) (v := ?_) rfl (by kernel_rfl) (by kernel_rfl) (by kernel_rfl) (fun _ _ _ h => h) (Or.inl ⟨by rfl, ?_⟩) hS ?_
                  rotate_left
                  · (intro w' hS'; obtain ⟨s0, s1, s2⟩ := hS'; go_simp; try simp only [hfb]) <;> with_reducible rfl
                  try simp only [Act.put, List.setIfInBounds_toArray, List.set_cons_zero, List.set_cons_succ]
                  refine wpAnyH_take (i := 10) (oi := { dst := some 58, op := .indexAddr 28 (.tmp 56) (.tmp 57), type := 0, pos := "ref.go:160", after := #[{ on := 8, ground := .data }, { on := 9, ground := .data }, { on := 6, ground := .guard }], guard := some (6, true) }) (v := ?_) rfl (by kernel_rfl) (by kernel_rfl) (by kernel_rfl) (fun _ _ _ h => h) (Or.inl ⟨by rfl, ?_⟩) hS ?_
                  rotate_left
                  · (intro w' hS'; obtain ⟨s0, s1, s2⟩ := hS'; go_simp; try simp only [hfb]) <;> with_reducible rfl
                  try simp only [Act.put, List.setIfInBounds_toArray, List.set_cons_zero, List.set_cons_succ]
                  refine wpAnyH_take (i := 11) (oi := { dst := some 59, op := .load 3 (.tmp 58), type := 3, pos := "ref.go:160", after := #[{ on := 10, ground := .data }, { on := 6, ground := .guard }], guard := some (6, true) }) (v := ?_) rfl (by kernel_rfl) (by kernel_rfl) (by kernel_rfl) (fun _ _ _ h => h) (Or.inl ⟨by rfl, ?_⟩) hS ?_
                  rotate_left
                  · (intro w' hS'; obtain ⟨s0, s1, s2⟩ := hS'; go_simp; try simp only [hfb]) <;> with_reducible rfl
                  try simp only [Act.put, List.setIfInBounds_toArray, List.set_cons_zero, List.set_cons_succ]
                  refine wpAnyH_take (i := 12) (oi := { dst := some 60, op := .fieldAddr 38 (.tmp 3) 1, type := 0, pos := "ref.go:160", after := #[{ on := 6, ground := .guard }], guard := some (6, true) }) (v := ?_) rfl (by kernel_rfl) (by kernel_rfl) (by kernel_rfl) (fun _ _ _ h => h) (Or.inl ⟨by rfl, ?_⟩) hS ?_
                  rotate_left
                  · (intro w' hS'; obtain ⟨s0, s1, s2⟩ := hS'; go_simp; try simp only [hfb]) <;> with_reducible rfl
                  try simp only [Act.put, List.setIfInBounds_toArray, List.set_cons_zero, List.set_cons_succ]
                  refine wpAnyH_take (i := 13) (oi := { dst := some 61, op := .load 28 (.tmp 60), type := 28, pos := "ref.go:160", after := #[{ on := 12, ground := .data }, { on := 6, ground := .guard }], guard := some (6, true) }) (v := ?_) rfl (by kernel_rfl) (by kernel_rfl) (by kernel_rfl) (fun _ _ _ h => h) (Or.inl ⟨by rfl, ?_⟩) hS ?_
                  rotate_left
                  · (intro w' hS'; obtain ⟨s0, s1, s2⟩ := hS'; go_simp; try simp only [hfb]) <;> with_reducible rfl
                  try simp only [Act.put, List.setIfInBounds_toArray, List.set_cons_zero, List.set_cons_succ]
                  refine wpAnyH_take (i := 14) (oi := { dst := some 62, op := .call { callee := .builtin .len, args := #[.tmp 61], argTypes := #[28] }, type := 3, pos := "ref.go:160", after := #[{ on := 13, ground := .data }, { on := 6, ground := .guard }], guard := some (6, true) }) (v := ?_) rfl (by kernel_rfl) (by kernel_rfl) (by kernel_rfl) (fun _ _ _ h => h) (Or.inl ⟨by rfl, ?_⟩) hS ?_
                  rotate_left
                  · (intro w' hS'; obtain ⟨s0, s1, s2⟩ := hS'; go_simp; try simp only [hfb]) <;> with_reducible rfl
                  try simp only [Act.put, List.setIfInBounds_toArray, List.set_cons_zero, List.set_cons_succ]
                  refine wpAnyH_ready (rs := [15]) (by kernel_rfl) (by simp) ?_
                  refine AllReadyH.cons (o := { dst := some 63, op := .call { callee := .value (.func 16), args := #[.tmp 59, .tmp 62], argTypes := #[3, 3] }, type := 4, pos := "ref.go:160", after := #[{ on := 11, ground := .data }, { on := 14, ground := .data }, { on := 6, ground := .chain }, { on := 6, ground := .guard }], guard := some (6, true) }) rfl (fun K' hK => ?_) (AllReadyH.nil)
                  go_simp
                  refine (HIN.out _).mono ?_
                  rintro en V1 ⟨rfl, rfl⟩
                  go_wp2_with fail
                  refine hK.out _ _ (HSB.out _ HD.out rfl) (fun hS => ?_)
                  clear hK K'
                  try simp only [Act.put, List.setIfInBounds_toArray, List.set_cons_zero, List.set_cons_succ]
                  refine wpAnyH_take (i := 16) (oi := { dst := some 64, op := .unOp .not 4 (.tmp 63), type := 4, pos := "ref.go:160", after := #[{ on := 15, ground := .data }, { on := 6, ground := .guard }], guard := some (6, true) }) (v := ?_) rfl (by kernel_rfl) (by kernel_rfl) (by kernel_rfl) (fun _ _ _ h => h) (Or.inl ⟨by rfl, ?_⟩) hS ?_
                  rotate_left
                  · (intro w' hS'; obtain ⟨s0, s1, s2⟩ := hS'; go_simp; try simp only [hfb]) <;> with_reducible rfl
                  try simp only [Act.put, List.setIfInBounds_toArray, List.set_cons_zero, List.set_cons_succ]
                  refine wpAnyH_take (i := 17) (oi := { dst := some 65, op := .pick (.tmp 54) (.tmp 64) (.const (.bool false)), type := 4, pos := "ref.go:160", after := #[{ on := 6, ground := .data }, { on := 16, ground := .data }], guard := none }) (v := ?_) rfl (by kernel_rfl) (by kernel_rfl) (by kernel_rfl) (fun _ _ _ h => h) (Or.inl ⟨by rfl, ?_⟩) hS ?_
                  rotate_left
                  · (intro w' hS'; obtain ⟨s0, s1, s2⟩ := hS'; go_simp; try simp only [hfb]) <;> with_reducible rfl
                  try simp only [Act.put, List.setIfInBounds_toArray, List.set_cons_zero, List.set_cons_succ]
                  refine wpAnyH_done (by kernel_rfl) ?_ _
                  go_wp2
                  go_roundw
                  case rel => exact ⟨k + 1, by go_num, by omega, HN, HD⟩
                  case measure => simp [intOf]; omega
              · have hlti2 : ¬ (k : Int) < (x.fs.length : Int) := by omega
                have HN := Lib.hid (HNX.out (by rw [HE.out]; exact each_all (all_whole hlt2 HZ2.out)))
                go_wp2
                go_roundw
                case rel => exact ⟨j + 1, by go_num, by omega, Lib.hid HJ.out.1, HN⟩
                case measure => simp [intOf]; omega
      · have k0 : V0.cell? ⟨wr.heap.size, 0, none⟩ = some (.int .i64 x.mode) := (blk_cell HXB.out.2.1 0).trans rfl
        have HE : Hid (elE c x = eachE (entE c) x.fs) := Lib.hid (el_on (laid_off c x.off _ hm0))
        have HW := HV0
        have HX2 := Lib.hid HXB.out.2.1
        have HZS : Hid (wr.heap.size < V0.heap.size) := Lib.hid (by have := HXB.out; omega)
        go_wp2_with fail
        clear HXB HV0 k0
        rename World => V2
        have hfl : (x.fs.length : Int) ≤ 3000 := by have := HFL.out; omega
        go_loopw [7] (fun i wr2 => ∃ k : Nat, i = .int .i64 (k : Int) ∧ k ≤ x.fs.length ∧ Hid (∀ y ∈ x.fs.take k, entE c y = 0) ∧ Hid (Below (w.heap.size + 2) W0 wr2 ∧ wr2.heap[wr.heap.size]? = some (.cells #[.int .i64 x.mode, .slice A1 x.off.length c1, .slice A2 x.fs.length c2] 49 (0, 0)))) (fun i _ => x.fs.length - (intOf i).toNat)
        case atStart => exact ⟨0, rfl, Nat.zero_le _, Lib.hid (by simp), Lib.hid ⟨HW.out, HX2.out⟩⟩
        case round =>
          clear HW HX2 HZS
          obtain ⟨k, rfl, hk, HZ2, HJ⟩ := hrel
          rename World => V3
          have k2 : V3.cell? ⟨wr.heap.size, 2, none⟩ = some (.slice A2 x.fs.length c2) := (blk_cell HJ.out.2 2).trans rfl
          by_cases hlt2 : k < x.fs.length
          · have hlti2 : (k : Int) < (x.fs.length : Int) := by omega
            obtain ⟨bf, of, hAf, h1⟩ := sm_int (HLS.out V3 HJ.out.1).2 k hlt2
            have HNY : Hid (entE c x.fs[k] = 0 → ∀ y ∈ x.fs.take (k + 1), entE c y = 0) := Lib.hid fun h => all_next hlt2 HZ2.out h
            have HH2 : Hid (entE c x.fs[k] = 7 → R = 7) := Lib.hid fun h => HHT.out 7 (by decide) (by rw [HE.out, each_hit hlt2 HZ2.out (by rw [h]; decide), h])
            have HD : Hid (Below (w.heap.size + 2) W0 V3.drew ∧ V3.drew.heap[wr.heap.size]? = some (.cells #[.int .i64 x.mode, .slice A1 x.off.length c1, .slice A2 x.fs.length c2] 49 (0, 0))) := Lib.hid ⟨HJ.out.1.drew, HJ.out.2⟩
            have hS0 : (SEl wr.heap.size (w.heap.size + 1) bf (of + k) q c (some ⟨bf, of, none⟩) x.fs.length c2 x.fs[k]) V3.drew := by
              refine ⟨?_, ?_, (HG.out _ HD.out.1).2.2.1⟩
              · rw [← hAf]; exact (blk_cell HD.out.2 2).trans rfl
              · exact h1 _ (Below.refl _ _).drew
            rw [hAf] at k2
            clear h1 hAf
            generalize x.fs[k] = fk at *
            have HENT : Hid (entE c fk = if fk ≠ -1 ∧ inB fk c.funcs.length = false then 7 else 0) := Lib.hid rfl
            by_cases hf1 : fk = -1
            · have HN := Lib.hid (HNY.out (by rw [HENT.out, if_neg (by simp [hf1])]))
              clear HENT HNY HH2
              subst hf1
              have hfb : ((-1 : Int) != -1) = false := by decide
              go_wp2_with fail
              refine wp_region_held_drew (S := (SEl wr.heap.size (w.heap.size + 1) bf (of + k) q c (some ⟨bf, of, none⟩) x.fs.length c2 (-1))) (by kernel_rfl) hS0 (fun hS => ?_)
              clear hS0 k2 HJ
              generalize V3.drew = V at *
              refine wpAnyH_take (i := 0) (oi := { dst := some 48, op := .fieldAddr 49 (.tmp 6) 2, type := 0, pos := "ref.go:160", after := #[], guard := none }) (v := ?_) rfl (by kernel_rfl) (by kernel_rfl) (by kernel_rfl) (fun _ _ _ h => h) (Or.inl ⟨by rfl, ?_⟩) hS ?_
              rotate_left
              · (intro w' hS'; obtain ⟨s0, s1, s2⟩ := hS'; go_simp; try simp only [hfb]) <;> with_reducible rfl
              try simp only [Act.put, List.setIfInBounds_toArray, List.set_cons_zero, List.set_cons_succ]
              refine wpAnyH_take (i := 1) (oi := { dst := some 49, op := .load 28 (.tmp 48), type := 28, pos := "ref.go:160", after := #[{ on := 0, ground := .data }], guard := none }) (v := ?_) rfl (by kernel_rfl) (by kernel_rfl) (by kernel_rfl) (fun _ _ _ h => h) (Or.inl ⟨by rfl, ?_⟩) hS ?_
              rotate_left
              · (intro w' hS'; obtain ⟨s0, s1, s2⟩ := hS'; go_simp; try simp only [hfb]) <;> with_reducible rfl
              try simp only [Act.put, List.setIfInBounds_toArray, List.set_cons_zero, List.set_cons_succ]
              refine wpAnyH_take (i := 2) (oi := { dst := some 50, op := .move (.tmp 7), type := 3, pos := "ref.go:160", after := #[], guard := none }) (v := ?_) rfl (by kernel_rfl) (by kernel_rfl) (by kernel_rfl) (fun _ _ _ h => h) (Or.inl ⟨by rfl, ?_⟩) hS ?_
              rotate_left
              · (intro w' hS'; obtain ⟨s0, s1, s2⟩ := hS'; go_simp; try simp only [hfb]) <;> with_reducible rfl
              try simp only [Act.put, List.setIfInBounds_toArray, List.set_cons_zero, List.set_cons_succ]
              refine wpAnyH_take (i := 3) (oi := { dst := some 51, op := .indexAddr 28 (.tmp 49) (.tmp 50), type := 0, pos := "ref.go:160", after := #[{ on := 1, ground := .data }, { on := 2, ground := .data }], guard := none }) (v := ?_) rfl (by kernel_rfl) (by kernel_rfl) (by kernel_rfl) (fun _ _ _ h => h) (Or.inl ⟨by rfl, ?_⟩) hS ?_
              rotate_left
              · (intro w' hS'; obtain ⟨s0, s1, s2⟩ := hS'; go_simp; try simp only [hfb]) <;> with_reducible rfl
              try simp only [Act.put, List.setIfInBounds_toArray, List.set_cons_zero, List.set_cons_succ]
              refine wpAnyH_take (i := 4) (oi := { dst := some 52, op := .load 3 (.tmp 51), type := 3, pos := "ref.go:160", after := #[{ on := 3, ground := .data }], guard := none }) (v := ?_) rfl (by kernel_rfl) (by kernel_rfl) (by kernel_rfl) (fun _ _ _ h => h) (Or.inl ⟨by rfl, ?_⟩) hS ?_
              rotate_left
              · (intro w' hS'; obtain ⟨s0, s1, s2⟩ := hS'; go_simp; try simp only [hfb]) <;> with_reducible rfl
              try simp only [Act.put, List.setIfInBounds_toArray, List.set_cons_zero, List.set_cons_succ]
              refine wpAnyH_take (i := 5) (oi := { dst := some 53, op := .binOp .neq 3 (.tmp 52) (.const (.int .i64 (-1))) 3, type := 4, pos := "ref.go:160", after := #[{ on := 4, ground := .data }], guard := none }) (v := ?_) rfl (by kernel_rfl) (by kernel_rfl) (by kernel_rfl) (fun _ _ _ h => h) (Or.inl ⟨by rfl, ?_⟩) hS ?_
              rotate_left
              · (intro w' hS'; obtain ⟨s0, s1, s2⟩ := hS'; go_simp; try simp only [hfb]) <;> with_reducible rfl
              try simp only [Act.put, List.setIfInBounds_toArray, List.set_cons_zero, List.set_cons_succ]
              refine wpAnyH_take (i := 6) (oi := { dst := some 54, op := .move (.tmp 53), type := 4, pos := "ref.go:160", after := #[{ on := 5, ground := .data }], guard := none }) (v := ?_) rfl (by kernel_rfl) (by kernel_rfl) (by kernel_rfl) (fun _ _ _ h => h) (Or.inl ⟨by rfl, ?_⟩) hS ?_
              rotate_left
              · (intro w' hS'; obtain ⟨s0, s1, s2⟩ := hS'; go_simp; try simp only [hfb]) <;> with_reducible rfl
              try simp only [Act.put, List.setIfInBounds_toArray, List.set_cons_zero, List.set_cons_succ]
              refine wpAnyH_take (i := 7) (oi := { dst := some 55, op := .fieldAddr 49 (.tmp 6) 2, type := 0, pos := "ref.go:160", after := #[{ on := 6, ground := .guard }], guard := some (6, true) }) (v := undef) rfl (by kernel_rfl) (by kernel_rfl) (by kernel_rfl) (fun _ _ _ h => h) (Or.inr ⟨by rfl, rfl⟩) hS ?_
              try simp only [Act.put, List.setIfInBounds_toArray, List.set_cons_zero, List.set_cons_succ]
              refine wpAnyH_take (i := 8) (oi := { dst := some 56, op := .load 28 (.tmp 55), type := 28, pos := "ref.go:160", after := #[{ on := 7, ground := .data }, { on := 6, ground := .guard }], guard := some (6, true) }) (v := undef) rfl (by kernel_rfl) (by kernel_rfl) (by kernel_rfl) (fun _ _ _ h => h) (Or.inr ⟨by rfl, rfl⟩) hS ?_
              try simp only [Act.put, List.setIfInBounds_toArray, List.set_cons_zero, List.set_cons_succ]
              refine wpAnyH_take (i := 9) (oi := { dst := some 57, op := .move (.tmp 7), type := 3, pos := "ref.go:160", after := #[{ on := 6, ground := .guard }], guard := some (6, true) }) (v := undef) rfl (by kernel_rfl) (by kernel_rfl) (by kernel_rfl) (fun _ _ _ h => h) (Or.inr ⟨by rfl, rfl⟩) hS ?_
              try simp only [Act.put, List.setIfInBounds_toArray, List.set_cons_zero, List.set_cons_succ]
              refine wpAnyH_take (i := 10) (oi := { dst := some 58, op := .indexAddr 28 (.tmp 56) (.tmp 57), type := 0, pos := "ref.go:160", after := #[{ on := 8, ground := .data }, { on := 9, ground := .data }, { on := 6, ground := .guard }], guard := some (6, true) }) (v := undef) rfl (by kernel_rfl) (by kernel_rfl) (by kernel_rfl) (fun _ _ _ h => h) (Or.inr ⟨by rfl, rfl⟩) hS ?_
              try simp only [Act.put, List.setIfInBounds_toArray, List.set_cons_zero, List.set_cons_succ]
              refine wpAnyH_take (i := 11) (oi := { dst := some 59, op := .load 3 (.tmp 58), type := 3, pos := "ref.go:160", after := #[{ on := 10, ground := .data }, { on := 6, ground := .guard }], guard := some (6, true) }) (v := undef) rfl (by kernel_rfl) (by kernel_rfl) (by kernel_rfl) (fun _ _ _ h => h) (Or.inr ⟨by rfl, rfl⟩) hS ?_
              try simp only [Act.put, List.setIfInBounds_toArray, List.set_cons_zero, List.set_cons_succ]
              refine wpAnyH_take (i := 12) (oi := { dst := some 60, op := .fieldAddr 38 (.tmp 3) 1, type := 0, pos := "ref.go:160", after := #[{ on := 6, ground := .guard }], guard := some (6, true) }) (v := undef) rfl (by kernel_rfl) (by kernel_rfl) (by kernel_rfl) (fun _ _ _ h => h) (Or.inr ⟨by rfl, rfl⟩) hS ?_
              try simp only [Act.put, List.setIfInBounds_toArray, List.set_cons_zero, List.set_cons_succ]
              refine wpAnyH_take (i := 13) (oi := { dst := some 61, op := .load 28 (.tmp 60), type := 28, pos := "ref.go:160", after := #[{ on := 12, ground := .data }, { on := 6, ground := .guard }], guard := some (6, true) }) (v := undef) rfl (by kernel_rfl) (by kernel_rfl) (by kernel_rfl) (fun _ _ _ h => h) (Or.inr ⟨by rfl, rfl⟩) hS ?_
              try simp only [Act.put, List.setIfInBounds_toArray, List.set_cons_zero, List.set_cons_succ]
              refine wpAnyH_take (i := 14) (oi := { dst := some 62, op := .call { callee := .builtin .len, args := #[.tmp 61], argTypes := #[28] }, type := 3, pos := "ref.go:160", after := #[{ on := 13, ground := .data }, { on := 6, ground := .guard }], guard := some (6, true) }) (v := undef) rfl (by kernel_rfl) (by kernel_rfl) (by kernel_rfl) (fun _ _ _ h => h) (Or.inr ⟨by rfl, rfl⟩) hS ?_
              try simp only [Act.put, List.setIfInBounds_toArray, List.set_cons_zero, List.set_cons_succ]
              refine wpAnyH_take (i := 15) (oi := { dst := some 63, op := .call { callee := .value (.func 16), args := #[.tmp 59, .tmp 62], argTypes := #[3, 3] }, type := 4, pos := "ref.go:160", after := #[{ on := 11, ground := .data }, { on := 14, ground := .data }, { on := 6, ground := .chain }, { on := 6, ground := .guard }], guard := some (6, true) }) (v := undef) rfl (by kernel_rfl) (by kernel_rfl) (by kernel_rfl) (fun _ _ _ h => h) (Or.inr ⟨by rfl, rfl⟩) hS ?_
              try simp only [Act.put, List.setIfInBounds_toArray, List.set_cons_zero, List.set_cons_succ]
              refine wpAnyH_take (i := 16) (oi := { dst := some 64, op := .unOp .not 4 (.tmp 63), type := 4, pos := "ref.go:160", after := #[{ on := 15, ground := .data }, { on := 6, ground := .guard }], guard := some (6, true) }) (v := undef) rfl (by kernel_rfl) (by kernel_rfl) (by kernel_rfl) (fun _ _ _ h => h) (Or.inr ⟨by rfl, rfl⟩) hS ?_
              try simp only [Act.put, List.setIfInBounds_toArray, List.set_cons_zero, List.set_cons_succ]
              refine wpAnyH_take (i := 17) (oi := { dst := some 65, op := .pick (.tmp 54) (.tmp 64) (.const (.bool false)), type := 4, pos := "ref.go:160", after := #[{ on := 6, ground := .data }, { on := 16, ground := .data }], guard := none }) (v := ?_) rfl (by kernel_rfl) (by kernel_rfl) (by kernel_rfl) (fun _ _ _ h => h) (Or.inl ⟨by rfl, ?_⟩) hS ?_
              rotate_left
              · (intro w' hS'; obtain ⟨s0, s1, s2⟩ := hS'; go_simp; try simp only [hfb]) <;> with_reducible rfl
              try simp only [Act.put, List.setIfInBounds_toArray, List.set_cons_zero, List.set_cons_succ]
              refine wpAnyH_done (by kernel_rfl) ?_ _
              go_wp2
              go_roundw
              case rel => exact ⟨k + 1, by go_num, by omega, HN, HD⟩
              case measure => simp [intOf]; omega
            cases hb : inB fk c.funcs.length with
            | false =>
              have HIN : Hid (∀ V : World, Calls Try.prog 16 #[.int .i64 fk, .int .i64 (c.funcs.length : Int)] V fun en w' => en = .returned (.bool false) ∧ w' = V) := Lib.hid fun V => by
                have h := rin_any fk (c.funcs.length : Int) V
                have e : (decide (0 ≤ fk) && decide (fk < (c.funcs.length : Int))) = false := hb
                rwa [e] at h
              have HEE := Lib.hid (HH2.out (by rw [HENT.out, if_pos ⟨hf1, hb⟩]))
              clear HENT HNY HH2 hb
              have hfb : (fk != (-1 : Int)) = true := by simp [hf1]
              go_wp2_with fail
              refine wp_region_held_drew (S := (SEl wr.heap.size (w.heap.size + 1) bf (of + k) q c (some ⟨bf, of, none⟩) x.fs.length c2 fk)) (by kernel_rfl) hS0 (fun hS => ?_)
              have HSB : Hid (∀ u, Below (w.heap.size + 2) W0 u ∧ u.heap[wr.heap.size]? = some (.cells #[.int .i64 x.mode, .slice A1 x.off.length c1, .slice A2 x.fs.length c2] 49 (0, 0)) → u = V3.drew → (SEl wr.heap.size (w.heap.size + 1) bf (of + k) q c (some ⟨bf, of, none⟩) x.fs.length c2 fk) u) := Lib.hid fun u _ e => by rw [e]; exact hS0
              clear k2 HJ
              generalize hVV : V3.drew = V at *
              clear hS0
              refine wpAnyH_take (i := 0) (oi := { dst := some 48, op := .fieldAddr 49 (.tmp 6) 2, type := 0, pos := "ref.go:160", after := #[], guard := none }) (v := ?_) rfl (by kernel_rfl) (by kernel_rfl) (by kernel_rfl) (fun _ _ _ h => h) (Or.inl ⟨by rfl, ?_⟩) hS ?_
              rotate_left
              · (intro w' hS'; obtain ⟨s0, s1, s2⟩ := hS'; go_simp; try simp only [hfb]) <;> with_reducible rfl
              try simp only [Act.put, List.setIfInBounds_toArray, List.set_cons_zero, List.set_cons_succ]
              refine wpAnyH_take (i := 1) (oi := { dst := some 49, op := .load 28 (.tmp 48), type := 28, pos := "ref.go:160", after := #[{ on := 0, ground := .data }], guard := none }) (v := ?_) rfl (by kernel_rfl) (by kernel_rfl) (by kernel_rfl) (fun _ _ _ h => h) (Or.inl ⟨by rfl, ?_⟩) hS ?_
              rotate_left
              · (intro w' hS'; obtain ⟨s0, s1, s2⟩ := hS'; go_simp; try simp only [hfb]) <;> with_reducible rfl
              try simp only [Act.put, List.setIfInBounds_toArray, List.set_cons_zero, List.set_cons_succ]
              refine wpAnyH_take (i := 2) (oi := { dst := some 50, op := .move (.tmp 7), type := 3, pos := "ref.go:160", after := #[], guard := none }) (v := ?_) rfl (by kernel_rfl) (by kernel_rfl) (by kernel_rfl) (fun _ _ _ h => h) (Or.inl ⟨by rfl, ?_⟩) hS ?_
              rotate_left
              · (intro w' hS'; obtain ⟨s0, s1, s2⟩ := hS'; go_simp; try simp only [hfb]) <;> with_reducible rfl
              try simp only [Act.put, List.setIfInBounds_toArray, List.set_cons_zero, List.set_cons_succ]
              refine wpAnyH_take (i := 3) (oi := { dst := some 51, op := .indexAddr 28 (.tmp 49) (.tmp 50), type := 0, pos := "ref.go:160", after := #[{ on := 1, ground := .data }, { on := 2, ground := .data }], guard := none }) (v := ?_) rfl (by kernel_rfl) (by kernel_rfl) (by kernel_rfl) (fun _ _ _ h => h) (Or.inl ⟨by rfl, ?_⟩) hS ?_
              rotate_left
              · (intro w' hS'; obtain ⟨s0, s1, s2⟩ := hS'; go_simp; try simp only [hfb]) <;> with_reducible rfl
              try simp only [Act.put, List.setIfInBounds_toArray, List.set_cons_zero, List.set_cons_succ]
              refine wpAnyH_take (i := 4) (oi := { dst := some 52, op := .load 3 (.tmp 51), type := 3, pos := "ref.go:160", after := #[{ on := 3, ground := .data }], guard := none }) (v := ?_) rfl (by kernel_rfl) (by kernel_rfl) (by kernel_rfl) (fun _ _ _ h => h) (Or.inl ⟨by rfl, ?_⟩) hS ?_
              rotate_left
              · (intro w' hS'; obtain ⟨s0, s1, s2⟩ := hS'; go_simp; try simp only [hfb]) <;> with_reducible rfl
              try simp only [Act.put, List.setIfInBounds_toArray, List.set_cons_zero, List.set_cons_succ]
              refine wpAnyH_take (i := 5) (oi := { dst := some 53, op := .binOp .neq 3 (.tmp 52) (.const (.int .i64 (-1))) 3, type := 4, pos := "ref.go:160", after := #[{ on := 4, ground := .data }], guard := none }) (v := ?_) rfl (by kernel_rfl) (by kernel_rfl) (by kernel_rfl) (fun _ _ _ h => h) (Or.inl ⟨by rfl, ?_⟩) hS ?_
              rotate_left
              · (intro w' hS'; obtain ⟨s0, s1, s2⟩ := hS'; go_simp; try simp only [hfb]) <;> with_reducible rfl
              try simp only [Act.put, List.setIfInBounds_toArray, List.set_cons_zero, List.set_cons_succ]
              refine wpAnyH_take (i := 6) (oi := { dst := some 54, op := .move (.tmp 53), type := 4, pos := "ref.go:160", after := #[{ on := 5, ground := .data }], guard := none }) (v := ?_) rfl (by kernel_rfl) (by kernel_rfl) (by kernel_rfl) (fun _ _ _ h => h) (Or.inl ⟨by rfl, ?_⟩) hS ?_
              rotate_left
              · (intro w' hS'; obtain ⟨s0, s1, s2⟩ := hS'; go_simp; try simp only [hfb]) <;> with_reducible rfl
              try simp only [Act.put, List.setIfInBounds_toArray, List.set_cons_zero, List.set_cons_succ]
              refine wpAnyH_take (i := 7) (oi := { dst := some 55, op := .fieldAddr 49 (.tmp 6) 2, type := 0, pos := "ref.go:160", after := #[{ on := 6, ground := .guard }], guard := some (6, true) }) (v := ?_) rfl (by kernel_rfl) (by kernel_rfl) (by kernel_rfl) (fun _ _ _ h => h) (Or.inl ⟨by rfl, ?_⟩) hS ?_
              rotate_left
              · (intro w' hS'; obtain ⟨s0, s1, s2⟩ := hS'; go_simp; try simp only [hfb]) <;> with_reducible rfl
              try simp only [Act.put, List.setIfInBounds_toArray, List.set_cons_zero, List.set_cons_succ]
              refine wpAnyH_take (i := 8) (oi := { dst := some 56, op := .load 28 (.tmp 55), type := 28, pos := "ref.go:160", after := #[{ on := 7, ground := .data }, { on := 6, ground := .guard }], guard := some (6, true) }) (v := ?_) rfl (by kernel_rfl) (by kernel_rfl) (by kernel_rfl) (fun _ _ _ h => h) (Or.inl ⟨by rfl, ?_⟩) hS ?_
              rotate_left
              · (intro w' hS'; obtain ⟨s0, s1, s2⟩ := hS'; go_simp; try simp only [hfb]) <;> with_reducible rfl
              try simp only [Act.put, List.setIfInBounds_toArray, List.set_cons_zero, List.set_cons_succ]
              refine wpAnyH_take (i := 9) (oi := { dst := some 57, op := .move (.tmp 7), type := 3, pos := "ref.go:160", after := #[{ on := 6, ground := .guard }], guard := some (6, true) }) (v := ?_) rfl (by kernel_rfl) (by kernel_rfl) (by kernel_rfl) (fun _ _ _ h => h) (Or.inl ⟨by rfl, ?_⟩) hS ?_
              rotate_left
              · (intro w' hS'; obtain ⟨s0, s1, s2⟩ := hS'; go_simp; try simp only [hfb]) <;> with_reducible rfl
              try simp only [Act.put, List.setIfInBounds_toArray, List.set_cons_zero, List.set_cons_succ]
              refine wpAnyH_take (i := 10) (oi := { dst := some 58, op := .indexAddr 28 (.tmp 56) (.tmp 57), type := 0, pos := "ref.go:160", after := #[{ on := 8, ground := .data }, { on := 9, ground := .data }, { on := 6, ground := .guard }], guard := some (6, true) }) (v := ?_) rfl (by kernel_rfl) (by kernel_rfl) (by kernel_rfl) (fun _ _ _ h => h) (Or.inl ⟨by rfl, ?_⟩) hS ?_
              rotate_left
              · (intro w' hS'; obtain ⟨s0, s1, s2⟩ := hS'; go_simp; try simp only [hfb]) <;> with_reducible rfl
              try simp only [Act.put, List.setIfInBounds_toArray, List.set_cons_zero, List.set_cons_succ]
              refine wpAnyH_take (i := 11) (oi := { dst := some 59, op := .load 3 (.tmp 58), type := 3, pos := "ref.go:160", after := #[{ on := 10, ground := .data }, { on := 6, ground := .guard }], guard := some (6, true) }) (v := ?_) rfl (by kernel_rfl) (by kernel_rfl) (by kernel_rfl) (fun _ _ _ h => h) (Or.inl ⟨by rfl, ?_⟩) hS ?_
              rotate_left
              · (intro w' hS'; obtain ⟨s0, s1, s2⟩ := hS'; go_simp; try simp only [hfb]) <;> with_reducible rfl
              try simp only [Act.put, List.setIfInBounds_toArray, List.set_cons_zero, List.set_cons_succ]
              refine wpAnyH_take (i := 12) (oi := { dst := some 60, op := .fieldAddr 38 (.tmp 3) 1, type := 0, pos := "ref.go:160", after := #[{ on := 6, ground := .guard }], guard := some (6, true) }) (v := ?_) rfl (by kernel_rfl) (by kernel_rfl) (by kernel_rfl) (fun _ _ _ h => h) (Or.inl ⟨by rfl, ?_⟩) hS ?_
              rotate_left
              · (intro w' hS'; obtain ⟨s0, s1, s2⟩ := hS'; go_simp; try simp only [hfb]) <;> with_reducible rfl
              try simp only [Act.put, List.setIfInBounds_toArray, List.set_cons_zero, List.set_cons_succ]
              refine wpAnyH_take (i := 13) (oi := { dst := some 61, op := .load 28 (.tmp 60), type := 28, pos := "ref.go:160", after := #[{ on := 12, ground := .data }, { on := 6, ground := .guard }], guard := some (6, true) }) (v := ?_) rfl (by kernel_rfl) (by kernel_rfl) (by kernel_rfl) (fun _ _ _ h => h) (Or.inl ⟨by rfl, ?_⟩) hS ?_
              rotate_left
              · (intro w' hS'; obtain ⟨s0, s1, s2⟩ := hS'; go_simp; try simp only [hfb]) <;> with_reducible rfl
              try simp only [Act.put, List.setIfInBounds_toArray, List.set_cons_zero, List.set_cons_succ]
              refine wpAnyH_take (i := 14) (oi := { dst := some 62, op := .call { callee := .builtin .len, args := #[.tmp 61], argTypes := #[28] }, type := 3, pos := "ref.go:160", after := #[{ on := 13, ground := .data }, { on := 6, ground := .guard }], guard := some (6, true) }) (v := ?_) rfl (by kernel_rfl) (by kernel_rfl) (by kernel_rfl) (fun _ _ _ h => h) (Or.inl ⟨by rfl, ?_⟩) hS ?_
              rotate_left
              · (intro w' hS'; obtain ⟨s0, s1, s2⟩ := hS'; go_simp; try simp only [hfb]) <;> with_reducible rfl
              try simp only [Act.put, List.setIfInBounds_toArray, List.set_cons_zero, List.set_cons_succ]
              refine wpAnyH_ready (rs := [15]) (by kernel_rfl) (by simp) ?_
              refine AllReadyH.cons (o := { dst := some 63, op := .call { callee := .value (.func 16), args := #[.tmp 59, .tmp 62], argTypes := #[3, 3] }, type := 4, pos := "ref.go:160", after := #[{ on := 11, ground := .data }, { on := 14, ground := .data }, { on := 6, ground := .chain }, { on := 6, ground := .guard }], guard := some (6, true) }) rfl (fun K' hK => ?_) (AllReadyH.nil)
              go_simp
              refine (HIN.out _).mono ?_
              rintro en V1 ⟨rfl, rfl⟩
              go_wp2_with fail
              refine hK.out _ _ (HSB.out _ HD.out rfl) (fun hS => ?_)
              clear hK K'
              try simp only [Act.put, List.setIfInBounds_toArray, List.set_cons_zero, List.set_cons_succ]
              refine wpAnyH_take (i := 16) (oi := { dst := some 64, op := .unOp .not 4 (.tmp 63), type := 4, pos := "ref.go:160", after := #[{ on := 15, ground := .data }, { on := 6, ground := .guard }], guard := some (6, true) }) (v := ?_) rfl (by kernel_rfl) (by kernel_rfl) (by kernel_rfl) (fun _ _ _ h => h) (Or.inl ⟨by rfl, ?_⟩) hS ?_
              rotate_left
              · (intro w' hS'; obtain ⟨s0, s1, s2⟩ := hS'; go_simp; try simp only [hfb]) <;> with_reducible rfl
              try simp only [Act.put, List.setIfInBounds_toArray, List.set_cons_zero, List.set_cons_succ]
              refine wpAnyH_take (i := 17) (oi := { dst := some 65, op := .pick (.tmp 54) (.tmp 64) (.const (.bool false)), type := 4, pos := "ref.go:160", after := #[{ on := 6, ground := .data }, { on := 16, ground := .data }], guard := none }) (v := ?_) rfl (by kernel_rfl) (by kernel_rfl) (by kernel_rfl) (fun _ _ _ h => h) (Or.inl ⟨by rfl, ?_⟩) hS ?_
              rotate_left
              · (intro w' hS'; obtain ⟨s0, s1, s2⟩ := hS'; go_simp; try simp only [hfb]) <;> with_reducible rfl
              try simp only [Act.put, List.setIfInBounds_toArray, List.set_cons_zero, List.set_cons_succ]
              refine wpAnyH_done (by kernel_rfl) ?_ _
              go_wp2
              go_ret
              exact ⟨by rw [HEE.out]; rfl, HB.out.trans (HD.out.1.mono (by omega))⟩
            | true =>
              have HIN : Hid (∀ V : World, Calls Try.prog 16 #[.int .i64 fk, .int .i64 (c.funcs.length : Int)] V fun en w' => en = .returned (.bool true) ∧ w' = V) := Lib.hid fun V => by
                have h := rin_any fk (c.funcs.length : Int) V
                have e : (decide (0 ≤ fk) && decide (fk < (c.funcs.length : Int))) = true := hb
                rwa [e] at h
              have HN := Lib.hid (HNY.out (by rw [HENT.out, if_neg (by simp [hb])]))
              clear HENT HNY HH2 hb
              have hfb : (fk != (-1 : Int)) = true := by simp [hf1]
              go_wp2_with fail
              refine wp_region_held_drew (S := (SEl wr.heap.size (w.heap.size + 1) bf (of + k) q c (some ⟨bf, of, none⟩) x.fs.length c2 fk)) (by kernel_rfl) hS0 (fun hS => ?_)
              have HSB : Hid (∀ u, Below (w.heap.size + 2) W0 u ∧ u.heap[wr.heap.size]? = some (.cells #[.int .i64 x.mode, .slice A1 x.off.length c1, .slice A2 x.fs.length c2] 49 (0, 0)) → u = V3.drew → (SEl wr.heap.size (w.heap.size + 1) bf (of + k) q c (some ⟨bf, of, none⟩) x.fs.length c2 fk) u) := Lib.hid fun u _ e => by rw [e]; exact hS0
              clear k2 HJ
              generalize hVV : V3.drew = V at *
              clear hS0
              refine wpAnyH_take (i := 0) (oi := { dst := some 48, op := .fieldAddr 49 (.tmp 6) 2, type := 0, pos := "ref.go:160", after := #[], guard := none }) (v := ?_) rfl (by kernel_rfl) (by kernel_rfl) (by kernel_rfl) (fun _ _ _ h => h) (Or.inl ⟨by rfl, ?_⟩) hS ?_
              rotate_left
              · (intro w' hS'; obtain ⟨s0, s1, s2⟩ := hS'; go_simp; try simp only [hfb]) <;> with_reducible rfl
              try simp only [Act.put, List.setIfInBounds_toArray, List.set_cons_zero, List.set_cons_succ]
              refine wpAnyH_take (i := 1) (oi := { dst := some 49, op := .load 28 (.tmp 48), type := 28, pos := "ref.go:160", after := #[{ on := 0, ground := .data }], guard := none }) (v := ?_) rfl (by kernel_rfl) (by kernel_rfl) (by kernel_rfl) (fun _ _ _ h => h) (Or.inl ⟨by rfl, ?_⟩) hS ?_
              rotate_left
              · (intro w' hS'; obtain ⟨s0, s1, s2⟩ := hS'; go_simp; try simp only [hfb]) <;> with_reducible rfl
              try simp only [Act.put, List.setIfInBounds_toArray, List.set_cons_zero, List.set_cons_succ]
              refine wpAnyH_take (i := 2) (oi := { dst := some 50, op := .move (.tmp 7), type := 3, pos := "ref.go:160", after := #[], guard := none }) (v := ?_) rfl (by kernel_rfl) (by kernel_rfl) (by kernel_rfl) (fun _ _ _ h => h) (Or.inl ⟨by rfl, ?_⟩) hS ?_
              rotate_left
              · (intro w' hS'; obtain ⟨s0, s1, s2⟩ := hS'; go_simp; try simp only [hfb]) <;> with_reducible rfl
              try simp only [Act.put, List.setIfInBounds_toArray, List.set_cons_zero, List.set_cons_succ]
              refine wpAnyH_take (i := 3) (oi := { dst := some 51, op := .indexAddr 28 (.tmp 49) (.tmp 50), type := 0, pos := "ref.go:160", after := #[{ on := 1, ground := .data }, { on := 2, ground := .data }], guard := none }) (v := ?_) rfl (by kernel_rfl) (by kernel_rfl) (by kernel_rfl) (fun _ _ _ h => h) (Or.inl ⟨by rfl, ?_⟩) hS ?_
              rotate_left
              · (intro w' hS'; obtain ⟨s0, s1, s2⟩ := hS'; go_simp; try simp only [hfb]) <;> with_reducible rfl
              try simp only [Act.put, List.setIfInBounds_toArray, List.set_cons_zero, List.set_cons_succ]
              refine wpAnyH_take (i := 4) (oi := { dst := some 52, op := .load 3 (.tmp 51), type := 3, pos := "ref.go:160", after := #[{ on := 3, ground := .data }], guard := none }) (v := ?_) rfl (by kernel_rfl) (by kernel_rfl) (by kernel_rfl) (fun _ _ _ h => h) (Or.inl ⟨by rfl, ?_⟩) hS ?_
              rotate_left
              · (intro w' hS'; obtain ⟨s0, s1, s2⟩ := hS'; go_simp; try simp only [hfb]) <;> with_reducible rfl
              try simp only [Act.put, List.setIfInBounds_toArray, List.set_cons_zero, List.set_cons_succ]
              refine wpAnyH_take (i := 5) (oi := { dst := some 53, op := .binOp .neq 3 (.tmp 52) (.const (.int .i64 (-1))) 3, type := 4, pos := "ref.go:160", after := #[{ on := 4, ground := .data }], guard := none }) (v := ?_) rfl (by kernel_rfl) (by kernel_rfl) (by kernel_rfl) (fun _ _ _ h => h) (Or.inl ⟨by rfl, ?_⟩) hS ?_
              rotate_left
              · (intro w' hS'; obtain ⟨s0, s1, s2⟩ := hS'; go_simp; try simp only [hfb]) <;> with_reducible rfl
              try simp only [Act.put, List.setIfInBounds_toArray, List.set_cons_zero, List.set_cons_succ]
              refine wpAnyH_take (i := 6) (oi := { dst := some 54, op := .move (.tmp 53), type := 4, pos := "ref.go:160", after := #[{ on := 5, ground := .data }], guard := none }) (v := ?_) rfl (by kernel_rfl) (by kernel_rfl) (by kernel_rfl) (fun _ _ _ h => h) (Or.inl ⟨by rfl, ?_⟩) hS ?_
              rotate_left
              · (intro w' hS'; obtain ⟨s0, s1, s2⟩ := hS'; go_simp; try simp only [hfb]) <;> with_reducible rfl
              try simp only [Act.put, List.setIfInBounds_toArray, List.set_cons_zero, List.set_cons_succ]
              refine wpAnyH_take (i := 7) (oi := { dst := some 55, op := .fieldAddr 49 (.tmp 6) 2, type := 0, pos := "ref.go:160", after := #[{ on := 6, ground := .guard }], guard := some (6, true) }) (v := ?_) rfl (by kernel_rfl) (by kernel_rfl) (by kernel_rfl) (fun _ _ _ h => h) (Or.inl ⟨by rfl, ?_⟩) hS ?_
              rotate_left
              · (intro w' hS'; obtain ⟨s0, s1, s2⟩ := hS'; go_simp; try simp only [hfb]) <;> with_reducible rfl
              try simp only [Act.put, List.setIfInBounds_toArray, List.set_cons_zero, List.set_cons_succ]
              refine wpAnyH_take (i := 8) (oi := { dst := some 56, op := .load 28 (.tmp 55), type := 28, pos := "ref.go:160", after := #[{ on := 7, ground := .data }, { on := 6, ground := .guard }], guard := some (6, true) }) (v := ?_) rfl (by kernel_rfl) (by kernel_rfl) (by kernel_rfl) (fun _ _ _ h => h) (Or.inl ⟨by rfl, ?_⟩) hS ?_
              rotate_left
              · (intro w' hS'; obtain ⟨s0, s1, s2⟩ := hS'; go_simp; try simp only [hfb]) <;> with_reducible rfl
              try simp only [Act.put, List.setIfInBounds_toArray, List.set_cons_zero, List.set_cons_succ]
              refine wpAnyH_take (i := 9) (oi := { dst := some 57, op := .move (.tmp 7), type := 3, pos := "ref.go:160", after := #[{ on := 6, ground := .guard }], guard := some (6, true) }) (v := ?_) rfl (by kernel_rfl) (by kernel_rfl) (by kernel_rfl) (fun _ _ _ h => h) (Or.inl ⟨by rfl, ?_⟩) hS ?_
              rotate_left
              · (intro w' hS'; obtain ⟨s0, s1, s2⟩ := hS'; go_simp; try simp only [hfb]) <;> with_reducible rfl
              try simp only [Act.put, List.setIfInBounds_toArray, List.set_cons_zero, List.set_cons_succ]
              refine wpAnyH_take (i := 10) (oi := { dst := some 58, op := .indexAddr 28 (.tmp 56) (.tmp 57), type := 0, pos := "ref.go:160", after := #[{ on := 8, ground := .data }, { on := 9, ground := .data }, { on := 6, ground := .guard }], guard := some (6, true) }) (v := ?_) rfl (by kernel_rfl) (by kernel_rfl) (by kernel_rfl) (fun _ _ _ h => h) (Or.inl ⟨by rfl, ?_⟩) hS ?_
              rotate_left
              · (intro w' hS'; obtain ⟨s0, s1, s2⟩ := hS'; go_simp; try simp only [hfb]) <;> with_reducible rfl
              try simp only [Act.put, List.setIfInBounds_toArray, List.set_cons_zero, List.set_cons_succ]
              refine wpAnyH_take (i := 11) (oi := { dst := some 59, op := .load 3 (.tmp 58), type := 3, pos := "ref.go:160", after := #[{ on := 10, ground := .data }, { on := 6, ground := .guard }], guard := some (6, true) }) (v := ?_) rfl (by kernel_rfl) (by kernel_rfl) (by kernel_rfl) (fun _ _ _ h => h) (Or.inl ⟨by rfl, ?_⟩) hS ?_
              rotate_left
              · (intro w' hS'; obtain ⟨s0, s1, s2⟩ := hS'; go_simp; try simp only [hfb]) <;> with_reducible rfl
              try simp only [Act.put, List.setIfInBounds_toArray, List.set_cons_zero, List.set_cons_succ]
              refine wpAnyH_take (i := 12) (oi := { dst := some 60, op := .fieldAddr 38 (.tmp 3) 1, type := 0, pos := "ref.go:160", after := #[{ on := 6, ground := .guard }], guard := some (6, true) }) (v := ?_) rfl (by kernel_rfl) (by kernel_rfl) (by kernel_rfl) (fun _ _ _ h => h) (Or.inl ⟨by rfl, ?_⟩) hS ?_
              rotate_left
              · (intro w' hS'; obtain ⟨s0, s1, s2⟩ := hS'; go_simp; try simp only [hfb]) <;> with_reducible rfl
              try simp only [Act.put, List.setIfInBounds_toArray, List.set_cons_zero, List.set_cons_succ]
              refine wpAnyH_take (i := 13) (oi := { dst := some 61, op := .load 28 (.tmp 60), type := 28, pos := "ref.go:160", after := #[{ on := 12, ground := .data }, { on := 6, ground := .guard }], guard := some (6, true) }) (v := ?_) rfl (by kernel_rfl) (by kernel_rfl) (by kernel_rfl) (fun _ _ _ h => h) (Or.inl ⟨by rfl, ?_⟩) hS ?_
              rotate_left
              · (intro w' hS'; obtain ⟨s0, s1, s2⟩ := hS'; go_simp; try simp only [hfb]) <;> with_reducible rfl
              try simp only [Act.put, List.setIfInBounds_toArray, List.set_cons_zero, List.set_cons_succ]
              refine wpAnyH_take (i := 14) (oi := { dst := some 62, op := .call { callee := .builtin .len, args := #[.tmp 61], argTypes := #[28] }, type := 3, pos := "ref.go:160", after := #[{ on := 13, ground := .data }, { on := 6, ground := .guard }], guard := some (6, true) }) (v := ?_) rfl (by kernel_rfl) (by kernel_rfl) (by kernel_rfl) (fun _ _ _ h => h) (Or.inl ⟨by rfl, ?_⟩) hS ?_
              rotate_left
              · (intro w' hS'; obtain ⟨s0, s1, s2⟩ := hS'; go_simp; try simp only [hfb]) <;> with_reducible rfl
              try simp only [Act.put, List.setIfInBounds_toArray, List.set_cons_zero, List.set_cons_succ]
              refine wpAnyH_ready (rs := [15]) (by kernel_rfl) (by simp) ?_
              refine AllReadyH.cons (o := { dst := some 63, op := .call { callee := .value (.func 16), args := #[.tmp 59, .tmp 62], argTypes := #[3, 3] }, type := 4, pos := "ref.go:160", after := #[{ on := 11, ground := .data }, { on := 14, ground := .data }, { on := 6, ground := .chain }, { on := 6, ground := .guard }], guard := some (6, true) }) rfl (fun K' hK => ?_) (AllReadyH.nil)
              go_simp
              refine (HIN.out _).mono ?_
              rintro en V1 ⟨rfl, rfl⟩
              go_wp2_with fail
              refine hK.out _ _ (HSB.out _ HD.out rfl) (fun hS => ?_)
              clear hK K'
              try simp only [Act.put, List.setIfInBounds_toArray, List.set_cons_zero, List.set_cons_succ]
              refine wpAnyH_take (i := 16) (oi := { dst := some 64, op := .unOp .not 4 (.tmp 63), type := 4, pos := "ref.go:160", after := #[{ on := 15, ground := .data }, { on := 6, ground := .guard }], guard := some (6, true) }) (v := ?_) rfl (by kernel_rfl) (by kernel_rfl) (by kernel_rfl) (fun _ _ _ h => h) (Or.inl ⟨by rfl, ?_⟩) hS ?_
              rotate_left
              · (intro w' hS'; obtain ⟨s0, s1, s2⟩ := hS'; go_simp; try simp only [hfb]) <;> with_reducible rfl
              try simp only [Act.put, List.setIfInBounds_toArray, List.set_cons_zero, List.set_cons_succ]
              refine wpAnyH_take (i := 17) (oi := { dst := some 65, op := .pick (.tmp 54) (.tmp 64) (.const (.bool false)), type := 4, pos := "ref.go:160", after := #[{ on := 6, ground := .data }, { on := 16, ground := .data }], guard := none }) (v := ?_) rfl (by kernel_rfl) (by kernel_rfl) (by kernel_rfl) (fun _ _ _ h => h) (Or.inl ⟨by rfl, ?_⟩) hS ?_
              rotate_left
              · (intro w' hS'; obtain ⟨s0, s1, s2⟩ := hS'; go_simp; try simp only [hfb]) <;> with_reducible rfl
              try simp only [Act.put, List.setIfInBounds_toArray, List.set_cons_zero, List.set_cons_succ]
              refine wpAnyH_done (by kernel_rfl) ?_ _
              go_wp2
              go_roundw
              case rel => exact ⟨k + 1, by go_num, by omega, HN, HD⟩
              case measure => simp [intOf]; omega
          · have hlti2 : ¬ (k : Int) < (x.fs.length : Int) := by omega
            have HN := Lib.hid (HNX.out (by rw [HE.out]; exact each_all (all_whole hlt2 HZ2.out)))
            go_wp2
            go_roundw
            case rel => exact ⟨j + 1, by go_num, by omega, Lib.hid HJ.out.1, HN⟩
            case measure => simp [intOf]; omega
    · have hlti : ¬ (j : Int) < (g.els.length : Int) := by omega
      have HR2 : Hid (firstE [eachE (datE c) g.dats, eachE (locE c) g.funcs] = R) := Lib.hid (by rw [← HR.out, first_zero (each_all (all_whole hlt HZ.out))])
      have HW := Lib.hid HI.out
      rename World => V2
      clear HZ HI HR
      go_wp2_with fail
      go_loopw [8] (fun i wr => ∃ j : Nat, i = .int .i64 (j : Int) ∧ j ≤ g.dats.length ∧ Hid (Below (w.heap.size + 2) W0 wr) ∧ Hid (∀ x ∈ g.dats.take j, datE c x = 0)) (fun i _ => g.dats.length - (intOf i).toNat)
      case atStart => exact ⟨0, rfl, Nat.zero_le _, Lib.hid HW.out, Lib.hid (by simp)⟩
      case round =>
        clear HW
        obtain ⟨j, rfl, hj, HI, HZ⟩ := hrel
        obtain ⟨-, -, -, -, -, -, -, -, -, -, y10, -⟩ := (HG.out _ HI.out).1
        obtain ⟨-, -, -, -, x4, -, -, -, -, -⟩ := (HG.out _ HI.out).2
        have hn10 : (g.dats.length : Int) ≤ 100 := by have := HSM.out.dats; omega
        by_cases hlt : j < g.dats.length
        · have hlti : (j : Int) < (g.dats.length : Int) := by omega
          obtain ⟨b, off, A1, c1, A2, c2, hA, h1⟩ := sm_dat HL.out.l10 j hlt
          obtain ⟨q0, -, -, -, -⟩ := h1 wr (HB.out.trans (HI.out.mono (by omega)))
          have HSB : Hid (∀ u, Below (w.heap.size + 2) W0 u → SD w.heap.size (w.heap.size + 1) b (off + j * 3) q c (some ⟨b, off, none⟩) g.dats.length p.c10 g.dats[j].mode A1 g.dats[j].off.length c1 u ∧ Lst insR u ok A1 c1 g.dats[j].off) := Lib.hid fun u hu => by
            obtain ⟨-, -, -, -, -, -, -, -, -, -, y10, -⟩ := (HG.out _ hu).1
            rw [hA] at y10
            obtain ⟨z0, z1, -, z3, -⟩ := h1 u (HB.out.trans (hu.mono (by omega)))
            exact ⟨⟨y10, z0, z1, (HG.out _ hu).2⟩, z3⟩
          rw [hA] at y10
          have HNX : Hid (datE c g.dats[j] = 0 → ∀ x ∈ g.dats.take (j + 1), datE c x = 0) := Lib.hid fun h => all_next hlt HZ.out h
          have HHT : Hid (∀ v, v ≠ 0 → datE c g.dats[j] = v → R = v) := Lib.hid fun v hv h => by rw [← HR2.out, first_hit (each_ne hlt HZ.out (by rw [h]; exact hv)), each_hit hlt HZ.out (by rw [h]; exact hv), h]
          have HLD : Hid (datE c g.dats[j] = laidE c g.dats[j].mode g.dats[j].off c.mems.length) := Lib.hid rfl
          clear h1 hA HZ
          generalize g.dats[j] = x at *
          have HCO : Hid (∀ u, Below (w.heap.size + 2) W0 u → Calls Try.prog 19 #[.agg #[.slice q.A0 c.types.length q.d0, .slice q.A1 c.funcs.length q.d1, .slice q.A2 c.globs.length q.d2, .slice q.A3 c.tabs.length q.d3, .slice q.A4 c.mems.length q.d4, .int .i64 c.hosts, .int .i64 c.vars, .int .i64 c.els, .int .i64 c.dats, .bool c.counted], .slice A1 x.off.length c1, .int .i64 127] u (BoolIs u (constB c x.off 127))) := Lib.hid fun u hu => HK.out _ hu _ _ _ _ (HSB.out _ hu).2
          have HSB2 : Hid (∀ u, Below (w.heap.size + 2) W0 u → SD w.heap.size (w.heap.size + 1) b (off + j * 3) q c (some ⟨b, off, none⟩) g.dats.length p.c10 x.mode A1 x.off.length c1 u) := Lib.hid fun u hu => (HSB.out _ hu).1
          have HZW : Hid (w.heap.size + 2 ≤ wr.heap.size) := Lib.hid (by have := HI.out.size; have := HSZ.out; omega)
          clear HSB
          generalize x.mode = md at *
          generalize x.off.length = n1 at *
          have HD : Hid (Below (w.heap.size + 2) W0 wr.drew) := Lib.hid HI.out.drew
          by_cases hm0 : md = 0
          · subst hm0
            by_cases ht0 : c.mems.length = 0
            · have HE : Hid (R = 7) := Lib.hid (HHT.out 7 (by decide) (by rw [HLD.out]; exact laid_none c x.off rfl ht0))
              rw [ht0] at x4
              go_wp2
              go_ret
              exact ⟨by rw [HE.out]; rfl, HB.out.trans (HI.out.mono (by omega))⟩
            · have ht0i : ¬ (c.mems.length : Int) = 0 := by omega
              have HN : Hid (constB c x.off 127 = true → ∀ x ∈ g.dats.take (j + 1), datE c x = 0) := Lib.hid fun h => HNX.out (by rw [HLD.out]; exact laid_ok rfl ht0 h)
              have HE : Hid (constB c x.off 127 = false → R = 6) := Lib.hid fun h => HHT.out 6 (by decide) (by rw [HLD.out]; exact laid_bad rfl ht0 h)
              clear HNX HHT HLD
              generalize constB c x.off 127 = cb at *
              go_wp2_with fail
              refine wp_region_held_drew (S := (SD w.heap.size (w.heap.size + 1) b (off + j * 3) q c (some ⟨b, off, none⟩) g.dats.length p.c10 0 A1 n1 c1)) (by kernel_rfl) (HSB2.out _ HD.out) (fun hS => ?_)
              clear y10 q0 x4 HI
              have HZV : Hid (w.heap.size + 2 ≤ wr.drew.heap.size) := HZW
              clear HZW
              generalize wr.drew = V at *
              refine wpAnyH_take (i := 0) (oi := { dst := some 86, op := .fieldAddr 33 (.tmp 2) 10, type := 0, pos := "ref.go:169", after := #[], guard := none }) (v := ?_) rfl (by kernel_rfl) (by kernel_rfl) (by kernel_rfl) (fun _ _ _ h => h) (Or.inl ⟨by rfl, ?_⟩) hS ?_
              rotate_left
              · (intro w' hS'; obtain ⟨s0, s1, s2, s3, s4, s5, s6, s7, s8, s9, s10, s11, s12⟩ := hS'; go_simp) <;> with_reducible rfl
              try simp only [Act.put, List.setIfInBounds_toArray, List.set_cons_zero, List.set_cons_succ]
              refine wpAnyH_take (i := 1) (oi := { dst := some 87, op := .load 30 (.tmp 86), type := 30, pos := "ref.go:169", after := #[{ on := 0, ground := .data }], guard := none }) (v := ?_) rfl (by kernel_rfl) (by kernel_rfl) (by kernel_rfl) (fun _ _ _ h => h) (Or.inl ⟨by rfl, ?_⟩) hS ?_
              rotate_left
              · (intro w' hS'; obtain ⟨s0, s1, s2, s3, s4, s5, s6, s7, s8, s9, s10, s11, s12⟩ := hS'; go_simp) <;> with_reducible rfl
              try simp only [Act.put, List.setIfInBounds_toArray, List.set_cons_zero, List.set_cons_succ]
              refine wpAnyH_take (i := 2) (oi := { dst := some 88, op := .move (.tmp 8), type := 3, pos := "ref.go:169", after := #[], guard := none }) (v := ?_) rfl (by kernel_rfl) (by kernel_rfl) (by kernel_rfl) (fun _ _ _ h => h) (Or.inl ⟨by rfl, ?_⟩) hS ?_
              rotate_left
              · (intro w' hS'; obtain ⟨s0, s1, s2, s3, s4, s5, s6, s7, s8, s9, s10, s11, s12⟩ := hS'; go_simp) <;> with_reducible rfl
              try simp only [Act.put, List.setIfInBounds_toArray, List.set_cons_zero, List.set_cons_succ]
              refine wpAnyH_take (i := 3) (oi := { dst := some 89, op := .indexAddr 30 (.tmp 87) (.tmp 88), type := 0, pos := "ref.go:169", after := #[{ on := 1, ground := .data }, { on := 2, ground := .data }], guard := none }) (v := ?_) rfl (by kernel_rfl) (by kernel_rfl) (by kernel_rfl) (fun _ _ _ h => h) (Or.inl ⟨by rfl, ?_⟩) hS ?_
              rotate_left
              · (intro w' hS'; obtain ⟨s0, s1, s2, s3, s4, s5, s6, s7, s8, s9, s10, s11, s12⟩ := hS'; go_simp) <;> with_reducible rfl
              try simp only [Act.put, List.setIfInBounds_toArray, List.set_cons_zero, List.set_cons_succ]
              refine wpAnyH_take (i := 4) (oi := { dst := some 90, op := .fieldAddr 52 (.tmp 89) 0, type := 0, pos := "ref.go:169", after := #[{ on := 3, ground := .data }], guard := none }) (v := ?_) rfl (by kernel_rfl) (by kernel_rfl) (by kernel_rfl) (fun _ _ _ h => h) (Or.inl ⟨by rfl, ?_⟩) hS ?_
              rotate_left
              · (intro w' hS'; obtain ⟨s0, s1, s2, s3, s4, s5, s6, s7, s8, s9, s10, s11, s12⟩ := hS'; go_simp) <;> with_reducible rfl
              try simp only [Act.put, List.setIfInBounds_toArray, List.set_cons_zero, List.set_cons_succ]
              refine wpAnyH_take (i := 5) (oi := { dst := some 91, op := .load 3 (.tmp 90), type := 3, pos := "ref.go:169", after := #[{ on := 4, ground := .data }], guard := none }) (v := ?_) rfl (by kernel_rfl) (by kernel_rfl) (by kernel_rfl) (fun _ _ _ h => h) (Or.inl ⟨by rfl, ?_⟩) hS ?_
              rotate_left
              · (intro w' hS'; obtain ⟨s0, s1, s2, s3, s4, s5, s6, s7, s8, s9, s10, s11, s12⟩ := hS'; go_simp) <;> with_reducible rfl
              try simp only [Act.put, List.setIfInBounds_toArray, List.set_cons_zero, List.set_cons_succ]
              refine wpAnyH_take (i := 6) (oi := { dst := some 92, op := .binOp .eql 3 (.tmp 91) (.const (.int .i64 0)) 3, type := 4, pos := "ref.go:169", after := #[{ on := 5, ground := .data }], guard := none }) (v := ?_) rfl (by kernel_rfl) (by kernel_rfl) (by kernel_rfl) (fun _ _ _ h => h) (Or.inl ⟨by rfl, ?_⟩) hS ?_
              rotate_left
              · (intro w' hS'; obtain ⟨s0, s1, s2, s3, s4, s5, s6, s7, s8, s9, s10, s11, s12⟩ := hS'; go_simp) <;> with_reducible rfl
              try simp only [Act.put, List.setIfInBounds_toArray, List.set_cons_zero, List.set_cons_succ]
              refine wpAnyH_take (i := 7) (oi := { dst := some 93, op := .move (.tmp 92), type := 4, pos := "ref.go:169", after := #[{ on := 6, ground := .data }], guard := none }) (v := ?_) rfl (by kernel_rfl) (by kernel_rfl) (by kernel_rfl) (fun _ _ _ h => h) (Or.inl ⟨by rfl, ?_⟩) hS ?_
              rotate_left
              · (intro w' hS'; obtain ⟨s0, s1, s2, s3, s4, s5, s6, s7, s8, s9, s10, s11, s12⟩ := hS'; go_simp) <;> with_reducible rfl
              try simp only [Act.put, List.setIfInBounds_toArray, List.set_cons_zero, List.set_cons_succ]
              refine wpAnyH_take (i := 8) (oi := { dst := some 94, op := .load 38 (.tmp 3), type := 38, pos := "ref.go:169", after := #[{ on := 7, ground := .guard }], guard := some (7, true) }) (v := ?_) rfl (by kernel_rfl) (by kernel_rfl) (by kernel_rfl) (fun _ _ _ h => h) (Or.inl ⟨by rfl, ?_⟩) hS ?_
              rotate_left
              · (intro w' hS'; obtain ⟨s0, s1, s2, s3, s4, s5, s6, s7, s8, s9, s10, s11, s12⟩ := hS'; go_simp) <;> with_reducible rfl
              try simp only [Act.put, List.setIfInBounds_toArray, List.set_cons_zero, List.set_cons_succ]
              refine wpAnyH_take (i := 9) (oi := { dst := some 95, op := .fieldAddr 33 (.tmp 2) 10, type := 0, pos := "ref.go:169", after := #[{ on := 7, ground := .guard }], guard := some (7, true) }) (v := ?_) rfl (by kernel_rfl) (by kernel_rfl) (by kernel_rfl) (fun _ _ _ h => h) (Or.inl ⟨by rfl, ?_⟩) hS ?_
              rotate_left
              · (intro w' hS'; obtain ⟨s0, s1, s2, s3, s4, s5, s6, s7, s8, s9, s10, s11, s12⟩ := hS'; go_simp) <;> with_reducible rfl
              try simp only [Act.put, List.setIfInBounds_toArray, List.set_cons_zero, List.set_cons_succ]
              refine wpAnyH_take (i := 10) (oi := { dst := some 96, op := .load 30 (.tmp 95), type := 30, pos := "ref.go:169", after := #[{ on := 9, ground := .data }, { on := 7, ground := .guard }], guard := some (7, true) }) (v := ?_) rfl (by kernel_rfl) (by kernel_rfl) (by kernel_rfl) (fun _ _ _ h => h) (Or.inl ⟨by rfl, ?_⟩) hS ?_
              rotate_left
              · (intro w' hS'; obtain ⟨s0, s1, s2, s3, s4, s5, s6, s7, s8, s9, s10, s11, s12⟩ := hS'; go_simp) <;> with_reducible rfl
              try simp only [Act.put, List.setIfInBounds_toArray, List.set_cons_zero, List.set_cons_succ]
              refine wpAnyH_take (i := 11) (oi := { dst := some 97, op := .move (.tmp 8), type := 3, pos := "ref.go:169", after := #[{ on := 7, ground := .guard }], guard := some (7, true) }) (v := ?_) rfl (by kernel_rfl) (by kernel_rfl) (by kernel_rfl) (fun _ _ _ h => h) (Or.inl ⟨by rfl, ?_⟩) hS ?_
              rotate_left
              · (intro w' hS'; obtain ⟨s0, s1, s2, s3, s4, s5, s6, s7, s8, s9, s10, s11, s12⟩ := hS'; go_simp) <;> with_reducible rfl
              try simp only [Act.put, List.setIfInBounds_toArray, List.set_cons_zero, List.set_cons_succ]
              refine wpAnyH_take (i := 12) (oi := { dst := some 98, op := .indexAddr 30 (.tmp 96) (.tmp 97), type := 0, pos := "ref.go:169", after := #[{ on := 10, ground := .data }, { on := 11, ground := .data }, { on := 7, ground := .guard }], guard := some (7, true) }) (v := ?_) rfl (by kernel_rfl) (by kernel_rfl) (by kernel_rfl) (fun _ _ _ h => h) (Or.inl ⟨by rfl, ?_⟩) hS ?_
              rotate_left
              · (intro w' hS'; obtain ⟨s0, s1, s2, s3, s4, s5, s6, s7, s8, s9, s10, s11, s12⟩ := hS'; go_simp) <;> with_reducible rfl
              try simp only [Act.put, List.setIfInBounds_toArray, List.set_cons_zero, List.set_cons_succ]
              refine wpAnyH_take (i := 13) (oi := { dst := some 99, op := .fieldAddr 52 (.tmp 98) 1, type := 0, pos := "ref.go:169", after := #[{ on := 12, ground := .data }, { on := 7, ground := .guard }], guard := some (7, true) }) (v := ?_) rfl (by kernel_rfl) (by kernel_rfl) (by kernel_rfl) (fun _ _ _ h => h) (Or.inl ⟨by rfl, ?_⟩) hS ?_
              rotate_left
              · (intro w' hS'; obtain ⟨s0, s1, s2, s3, s4, s5, s6, s7, s8, s9, s10, s11, s12⟩ := hS'; go_simp) <;> with_reducible rfl
              try simp only [Act.put, List.setIfInBounds_toArray, List.set_cons_zero, List.set_cons_succ]
              refine wpAnyH_take (i := 14) (oi := { dst := some 100, op := .load 47 (.tmp 99), type := 47, pos := "ref.go:169", after := #[{ on := 13, ground := .data }, { on := 7, ground := .guard }], guard := some (7, true) }) (v := ?_) rfl (by kernel_rfl) (by kernel_rfl) (by kernel_rfl) (fun _ _ _ h => h) (Or.inl ⟨by rfl, ?_⟩) hS ?_
              rotate_left
              · (intro w' hS'; obtain ⟨s0, s1, s2, s3, s4, s5, s6, s7, s8, s9, s10, s11, s12⟩ := hS'; go_simp) <;> with_reducible rfl
              try simp only [Act.put, List.setIfInBounds_toArray, List.set_cons_zero, List.set_cons_succ]
              refine wpAnyH_ready (rs := [15]) (by kernel_rfl) (by simp) ?_
              refine AllReadyH.cons (o := { dst := some 101, op := .call { callee := .value (.func 19), args := #[.tmp 94, .tmp 100, .const (.int .i64 127)], argTypes := #[38, 47, 3] }, type := 4, pos := "ref.go:169", after := #[{ on := 8, ground := .data }, { on := 14, ground := .data }, { on := 7, ground := .chain }, { on := 7, ground := .guard }], guard := some (7, true) }) rfl (fun K' hK => ?_) (AllReadyH.nil)
              go_simp
              refine (HCO.out V HD.out).mono ?_
              rintro en V1 ⟨rfl, hb⟩
              have HW := Lib.hid (HD.out.trans (hb.mono HZV.out))
              clear hb
              go_wp2_with fail
              refine hK.out _ _ (HSB2.out _ HW.out) (fun hS => ?_)
              clear hK K'
              try simp only [Act.put, List.setIfInBounds_toArray, List.set_cons_zero, List.set_cons_succ]
              refine wpAnyH_take (i := 16) (oi := { dst := some 102, op := .unOp .not 4 (.tmp 101), type := 4, pos := "ref.go:169", after := #[{ on := 15, ground := .data }, { on := 7, ground := .guard }], guard := some (7, true) }) (v := ?_) rfl (by kernel_rfl) (by kernel_rfl) (by kernel_rfl) (fun _ _ _ h => h) (Or.inl ⟨by rfl, ?_⟩) hS ?_
              rotate_left
              · (intro w' hS'; obtain ⟨s0, s1, s2, s3, s4, s5, s6, s7, s8, s9, s10, s11, s12⟩ := hS'; go_simp) <;> with_reducible rfl
              try simp only [Act.put, List.setIfInBounds_toArray, List.set_cons_zero, List.set_cons_succ]
              refine wpAnyH_take (i := 17) (oi := { dst := some 103, op := .pick (.tmp 93) (.tmp 102) (.const (.bool false)), type := 4, pos := "ref.go:169", after := #[{ on := 7, ground := .data }, { on := 16, ground := .data }], guard := none }) (v := ?_) rfl (by kernel_rfl) (by kernel_rfl) (by kernel_rfl) (fun _ _ _ h => h) (Or.inl ⟨by rfl, ?_⟩) hS ?_
              rotate_left
              · (intro w' hS'; obtain ⟨s0, s1, s2, s3, s4, s5, s6, s7, s8, s9, s10, s11, s12⟩ := hS'; go_simp) <;> with_reducible rfl
              try simp only [Act.put, List.setIfInBounds_toArray, List.set_cons_zero, List.set_cons_succ]
              refine wpAnyH_done (by kernel_rfl) ?_ _
              cases cb with
              | false =>
                have HEE := Lib.hid (HE.out rfl)
                go_wp2
                go_ret
                exact ⟨by rw [HEE.out]; rfl, HB.out.trans (HW.out.mono (by omega))⟩
              | true =>
                have HNN := Lib.hid (HN.out rfl)
                go_wp2
                go_roundw
                case rel => exact ⟨j + 1, by go_num, by omega, HW, HNN⟩
                case measure => simp [intOf]; omega
          · have HN := Lib.hid (HNX.out (by rw [HLD.out]; exact laid_off c x.off _ hm0))
            clear HNX HHT HLD HCO
            go_wp2_with fail
            refine wp_region_held_drew (S := (SD w.heap.size (w.heap.size + 1) b (off + j * 3) q c (some ⟨b, off, none⟩) g.dats.length p.c10 md A1 n1 c1)) (by kernel_rfl) (HSB2.out _ HD.out) (fun hS => ?_)
            clear y10 q0 x4 HI
            generalize wr.drew = V at *
            have hmb : (md == (0 : Int)) = false := by simp [hm0]
            refine wpAnyH_take (i := 0) (oi := { dst := some 86, op := .fieldAddr 33 (.tmp 2) 10, type := 0, pos := "ref.go:169", after := #[], guard := none }) (v := ?_) rfl (by kernel_rfl) (by kernel_rfl) (by kernel_rfl) (fun _ _ _ h => h) (Or.inl ⟨by rfl, ?_⟩) hS ?_
            rotate_left
            · (intro w' hS'; obtain ⟨s0, s1, s2, s3, s4, s5, s6, s7, s8, s9, s10, s11, s12⟩ := hS'; go_simp; try simp only [hmb]) <;> with_reducible rfl
            try simp only [Act.put, List.setIfInBounds_toArray, List.set_cons_zero, List.set_cons_succ]
            refine wpAnyH_take (i := 1) (oi := { dst := some 87, op := .load 30 (.tmp 86), type := 30, pos := "ref.go:169", after := #[{ on := 0, ground := .data }], guard := none }) (v := ?_) rfl (by kernel_rfl) (by kernel_rfl) (by kernel_rfl) (fun _ _ _ h => h) (Or.inl ⟨by rfl, ?_⟩) hS ?_
            rotate_left
            · (intro w' hS'; obtain ⟨s0, s1, s2, s3, s4, s5, s6, s7, s8, s9, s10, s11, s12⟩ := hS'; go_simp; try simp only [hmb]) <;> with_reducible rfl
            try simp only [Act.put, List.setIfInBounds_toArray, List.set_cons_zero, List.set_cons_succ]
            refine wpAnyH_take (i := 2) (oi := { dst := some 88, op := .move (.tmp 8), type := 3, pos := "ref.go:169", after := #[], guard := none }) (v := ?_) rfl (by kernel_rfl) (by kernel_rfl) (by kernel_rfl) (fun _ _ _ h => h) (Or.inl ⟨by rfl, ?_⟩) hS ?_
            rotate_left
            · (intro w' hS'; obtain ⟨s0, s1, s2, s3, s4, s5, s6, s7, s8, s9, s10, s11, s12⟩ := hS'; go_simp; try simp only [hmb]) <;> with_reducible rfl
            try simp only [Act.put, List.setIfInBounds_toArray, List.set_cons_zero, List.set_cons_succ]
            refine wpAnyH_take (i := 3) (oi := { dst := some 89, op := .indexAddr 30 (.tmp 87) (.tmp 88), type := 0, pos := "ref.go:169", after := #[{ on := 1, ground := .data }, { on := 2, ground := .data }], guard := none }) (v := ?_) rfl (by kernel_rfl) (by kernel_rfl) (by kernel_rfl) (fun _ _ _ h => h) (Or.inl ⟨by rfl, ?_⟩) hS ?_
            rotate_left
            · (intro w' hS'; obtain ⟨s0, s1, s2, s3, s4, s5, s6, s7, s8, s9, s10, s11, s12⟩ := hS'; go_simp; try simp only [hmb]) <;> with_reducible rfl
            try simp only [Act.put, List.setIfInBounds_toArray, List.set_cons_zero, List.set_cons_succ]
            refine wpAnyH_take (i := 4) (oi := { dst := some 90, op := .fieldAddr 52 (.tmp 89) 0, type := 0, pos := "ref.go:169", after := #[{ on := 3, ground := .data }], guard := none }) (v := ?_) rfl (by kernel_rfl) (by kernel_rfl) (by kernel_rfl) (fun _ _ _ h => h) (Or.inl ⟨by rfl, ?_⟩) hS ?_
            rotate_left
            · (intro w' hS'; obtain ⟨s0, s1, s2, s3, s4, s5, s6, s7, s8, s9, s10, s11, s12⟩ := hS'; go_simp; try simp only [hmb]) <;> with_reducible rfl
            try simp only [Act.put, List.setIfInBounds_toArray, List.set_cons_zero, List.set_cons_succ]
            refine wpAnyH_take (i := 5) (oi := { dst := some 91, op := .load 3 (.tmp 90), type := 3, pos := "ref.go:169", after := #[{ on := 4, ground := .data }], guard := none }) (v := ?_) rfl (by kernel_rfl) (by kernel_rfl) (by kernel_rfl) (fun _ _ _ h => h) (Or.inl ⟨by rfl, ?_⟩) hS ?_
            rotate_left
            · (intro w' hS'; obtain ⟨s0, s1, s2, s3, s4, s5, s6, s7, s8, s9, s10, s11, s12⟩ := hS'; go_simp; try simp only [hmb]) <;> with_reducible rfl
            try simp only [Act.put, List.setIfInBounds_toArray, List.set_cons_zero, List.set_cons_succ]
            refine wpAnyH_take (i := 6) (oi := { dst := some 92, op := .binOp .eql 3 (.tmp 91) (.const (.int .i64 0)) 3, type := 4, pos := "ref.go:169", after := #[{ on := 5, ground := .data }], guard := none }) (v := ?_) rfl (by kernel_rfl) (by kernel_rfl) (by kernel_rfl) (fun _ _ _ h => h) (Or.inl ⟨by rfl, ?_⟩) hS ?_
            rotate_left
            · (intro w' hS'; obtain ⟨s0, s1, s2, s3, s4, s5, s6, s7, s8, s9, s10, s11, s12⟩ := hS'; go_simp; try simp only [hmb]) <;> with_reducible rfl
            try simp only [Act.put, List.setIfInBounds_toArray, List.set_cons_zero, List.set_cons_succ]
            refine wpAnyH_take (i := 7) (oi := { dst := some 93, op := .move (.tmp 92), type := 4, pos := "ref.go:169", after := #[{ on := 6, ground := .data }], guard := none }) (v := ?_) rfl (by kernel_rfl) (by kernel_rfl) (by kernel_rfl) (fun _ _ _ h => h) (Or.inl ⟨by rfl, ?_⟩) hS ?_
            rotate_left
            · (intro w' hS'; obtain ⟨s0, s1, s2, s3, s4, s5, s6, s7, s8, s9, s10, s11, s12⟩ := hS'; go_simp; try simp only [hmb]) <;> with_reducible rfl
            try simp only [Act.put, List.setIfInBounds_toArray, List.set_cons_zero, List.set_cons_succ]
            refine wpAnyH_take (i := 8) (oi := { dst := some 94, op := .load 38 (.tmp 3), type := 38, pos := "ref.go:169", after := #[{ on := 7, ground := .guard }], guard := some (7, true) }) (v := undef) rfl (by kernel_rfl) (by kernel_rfl) (by kernel_rfl) (fun _ _ _ h => h) (Or.inr ⟨by rfl, rfl⟩) hS ?_
            try simp only [Act.put, List.setIfInBounds_toArray, List.set_cons_zero, List.set_cons_succ]
            refine wpAnyH_take (i := 9) (oi := { dst := some 95, op := .fieldAddr 33 (.tmp 2) 10, type := 0, pos := "ref.go:169", after := #[{ on := 7, ground := .guard }], guard := some (7, true) }) (v := undef) rfl (by kernel_rfl) (by kernel_rfl) (by kernel_rfl) (fun _ _ _ h => h) (Or.inr ⟨by rfl, rfl⟩) hS ?_
            try simp only [Act.put, List.setIfInBounds_toArray, List.set_cons_zero, List.set_cons_succ]
            refine wpAnyH_take (i := 10) (oi := { dst := some 96, op := .load 30 (.tmp 95), type := 30, pos := "ref.go:169", after := #[{ on := 9, ground := .data }, { on := 7, ground := .guard }], guard := some (7, true) }) (v := undef) rfl (by kernel_rfl) (by kernel_rfl) (by kernel_rfl) (fun _ _ _ h => h) (Or.inr ⟨by rfl, rfl⟩) hS ?_
            try simp only [Act.put, List.setIfInBounds_toArray, List.set_cons_zero, List.set_cons_succ]
            refine wpAnyH_take (i := 11) (oi := { dst := some 97, op := .move (.tmp 8), type := 3, pos := "ref.go:169", after := #[{ on := 7, ground := .guard }], guard := some (7, true) }) (v := undef) rfl (by kernel_rfl) (by kernel_rfl) (by kernel_rfl) (fun _ _ _ h => h) (Or.inr ⟨by rfl, rfl⟩) hS ?_
            try simp only [Act.put, List.setIfInBounds_toArray, List.set_cons_zero, List.set_cons_succ]
            refine wpAnyH_take (i := 12) (oi := { dst := some 98, op := .indexAddr 30 (.tmp 96) (.tmp 97), type := 0, pos := "ref.go:169", after := #[{ on := 10, ground := .data }, { on := 11, ground := .data }, { on := 7, ground := .guard }], guard := some (7, true) }) (v := undef) rfl (by kernel_rfl) (by kernel_rfl) (by kernel_rfl) (fun _ _ _ h => h) (Or.inr ⟨by rfl, rfl⟩) hS ?_
            try simp only [Act.put, List.setIfInBounds_toArray, List.set_cons_zero, List.set_cons_succ]
            refine wpAnyH_take (i := 13) (oi := { dst := some 99, op := .fieldAddr 52 (.tmp 98) 1, type := 0, pos := "ref.go:169", after := #[{ on := 12, ground := .data }, { on := 7, ground := .guard }], guard := some (7, true) }) (v := undef) rfl (by kernel_rfl) (by kernel_rfl) (by kernel_rfl) (fun _ _ _ h => h) (Or.inr ⟨by rfl, rfl⟩) hS ?_
            try simp only [Act.put, List.setIfInBounds_toArray, List.set_cons_zero, List.set_cons_succ]
            refine wpAnyH_take (i := 14) (oi := { dst := some 100, op := .load 47 (.tmp 99), type := 47, pos := "ref.go:169", after := #[{ on := 13, ground := .data }, { on := 7, ground := .guard }], guard := some (7, true) }) (v := undef) rfl (by kernel_rfl) (by kernel_rfl) (by kernel_rfl) (fun _ _ _ h => h) (Or.inr ⟨by rfl, rfl⟩) hS ?_
            try simp only [Act.put, List.setIfInBounds_toArray, List.set_cons_zero, List.set_cons_succ]
            refine wpAnyH_take (i := 15) (oi := { dst := some 101, op := .call { callee := .value (.func 19), args := #[.tmp 94, .tmp 100, .const (.int .i64 127)], argTypes := #[38, 47, 3] }, type := 4, pos := "ref.go:169", after := #[{ on := 8, ground := .data }, { on := 14, ground := .data }, { on := 7, ground := .chain }, { on := 7, ground := .guard }], guard := some (7, true) }) (v := undef) rfl (by kernel_rfl) (by kernel_rfl) (by kernel_rfl) (fun _ _ _ h => h) (Or.inr ⟨by rfl, rfl⟩) hS ?_
            try simp only [Act.put, List.setIfInBounds_toArray, List.set_cons_zero, List.set_cons_succ]
            refine wpAnyH_take (i := 16) (oi := { dst := some 102, op := .unOp .not 4 (.tmp 101), type := 4, pos := "ref.go:169", after := #[{ on := 15, ground := .data }, { on := 7, ground := .guard }], guard := some (7, true) }) (v := undef) rfl (by kernel_rfl) (by kernel_rfl) (by kernel_rfl) (fun _ _ _ h => h) (Or.inr ⟨by rfl, rfl⟩) hS ?_
            try simp only [Act.put, List.setIfInBounds_toArray, List.set_cons_zero, List.set_cons_succ]
            refine wpAnyH_take (i := 17) (oi := { dst := some 103, op := .pick (.tmp 93) (.tmp 102) (.const (.bool false)), type := 4, pos := "ref.go:169", after := #[{ on := 7, ground := .data }, { on := 16, ground := .data }], guard := none }) (v := ?_) rfl (by kernel_rfl) (by kernel_rfl) (by kernel_rfl) (fun _ _ _ h => h) (Or.inl ⟨by rfl, ?_⟩) hS ?_
            rotate_left
            · (intro w' hS'; obtain ⟨s0, s1, s2, s3, s4, s5, s6, s7, s8, s9, s10, s11, s12⟩ := hS'; go_simp; try simp only [hmb]) <;> with_reducible rfl
            try simp only [Act.put, List.setIfInBounds_toArray, List.set_cons_zero, List.set_cons_succ]
            refine wpAnyH_done (by kernel_rfl) ?_ _
            go_wp2
            go_roundw
            case rel => exact ⟨j + 1, by go_num, by omega, HD, HN⟩
            case measure => simp [intOf]; omega
        · have hlti : ¬ (j : Int) < (g.dats.length : Int) := by omega
          have HR3 : Hid (eachE (locE c) g.funcs = R) := Lib.hid (by rw [← HR2.out, first_zero (each_all (all_whole hlt HZ.out)), first_last])
          have HW := Lib.hid HI.out
          rename World => V4
          clear HZ HI HR2
          go_wp2_with fail
          go_loopw [9] (fun i wr => ∃ j : Nat, i = .int .i64 (j : Int) ∧ j ≤ g.funcs.length ∧ Hid (Below (w.heap.size + 2) W0 wr) ∧ Hid (∀ x ∈ g.funcs.take j, locE c x = 0)) (fun i _ => g.funcs.length - (intOf i).toNat)
          case atStart => exact ⟨0, rfl, Nat.zero_le _, Lib.hid HW.out, Lib.hid (by simp)⟩
          case round =>
            clear HW
            obtain ⟨j, rfl, hj, HI, HZ⟩ := hrel
            obtain ⟨y0, -, y2, -, -, -, -, -, -, -, -, -⟩ := (HG.out _ HI.out).1
            have hn2 : (g.funcs.length : Int) ≤ 100 := by have := HSM.out.funcs; omega
            by_cases hlt : j < g.funcs.length
            · have hlti : (j : Int) < (g.funcs.length : Int) := by omega
              have hwV := HB.out.trans (HI.out.mono (Nat.le_add_right w.heap.size 2))
              obtain ⟨b, off, A1, c1, A2, c2, hA, h1⟩ := sm_fn HL.out.l2 j hlt
              obtain ⟨q0, q1, -, -, -⟩ := h1 wr hwV
              rw [hA] at y2
              obtain ⟨n, htn, hnl⟩ := inB_iff.1 (HFI.out _ (List.getElem_mem hlt))
              have hnli : (n : Int) < (g.types.length : Int) := by omega
              obtain ⟨bt, ot, B1, d1, B2, d2, hAt, ht1⟩ := sm_ft HL.out.l0 n hnl
              obtain ⟨t0, -, -, -⟩ := ht1 wr hwV
              rw [hAt] at y0
              have HLE : Hid (locE c g.funcs[j] = if 64 < g.types[n].1.length + g.funcs[j].locals.length then 4 else 0) := Lib.hid (by
                have e2 : inB (n : Int) g.types.length = true := inB_iff.2 ⟨n, rfl, hnl⟩
                have e3 : tyAt c.types g.funcs[j].ty = g.types[n] := by unfold tyAt; rw [HTY.out, htn, e2]; exact getD_at _ _ n hnl
                unfold locE
                rw [e3])
              have HNX : Hid (locE c g.funcs[j] = 0 → ∀ x ∈ g.funcs.take (j + 1), locE c x = 0) := Lib.hid fun h => all_next hlt HZ.out h
              have HHT : Hid (locE c g.funcs[j] = 4 → R = 4) := Lib.hid fun h => by rw [← HR3.out, each_hit hlt HZ.out (by rw [h]; decide), h]
              have hl1 : g.types[n].1.length ≤ 3000 := (HSM.out.ft _ (List.getElem_mem hnl)).1
              have hl2 : g.funcs[j].locals.length ≤ 3000 := HSM.out.fn _ (List.getElem_mem hlt)
              have HWW : Hid (wrap64 ((g.types[n].1.length : Int) + (g.funcs[j].locals.length : Int)) = (g.types[n].1.length : Int) + (g.funcs[j].locals.length : Int)) := Lib.hid (wrap64_mid (by omega) (by omega))
              rw [htn] at q0
              clear h1 ht1 hA hAt htn HZ hwV
              generalize g.types[n].1.length = m1 at *
              generalize g.funcs[j].locals.length = m2 at *
              by_cases h64 : 64 < m1 + m2
              · have HE : Hid (R = 4) := Lib.hid (HHT.out (by rw [HLE.out, if_pos h64]))
                have h64i : (64 : Int) < (m1 : Int) + (m2 : Int) := by omega
                clear hl1 hl2 h64
                have hww := HWW.out
                go_wp2_with fail
                go_quiet (fail)
                go_wp2
                go_ret
                exact ⟨by rw [HE.out]; rfl, HB.out.trans ((HI.out.trans (⟨rfl, rfl, rfl, Nat.le_refl _, fun _ _ => rfl⟩ : Below _ wr (wr.drewN nq))).mono (by omega))⟩
              · have HN := Lib.hid (HNX.out (by rw [HLE.out, if_neg h64]))
                have h64i : ¬ (64 : Int) < (m1 : Int) + (m2 : Int) := by omega
                clear hl1 hl2 h64
                have hww := HWW.out
                go_wp2_with fail
                go_quiet (fail)
                go_wp2
                go_roundw
                case rel => exact ⟨j + 1, by go_num, by omega, Lib.hid (HI.out.trans ⟨rfl, rfl, rfl, Nat.le_refl _, fun _ _ => rfl⟩), HN⟩
                case measure => simp [intOf]; omega
            · have hlti : ¬ (j : Int) < (g.funcs.length : Int) := by omega
              have HE : Hid (R = 0) := Lib.hid (by rw [← HR3.out]; exact each_all (all_whole hlt HZ.out))
              go_wp2
              go_ret
              exact ⟨by rw [HE.out]; rfl, HB.out.trans (HI.out.mono (by omega))⟩
end
end Go.Proofs.Ytlbbnnljclndkaa.Cx
