/-
  CtxSame: The given Same of layer 9: a context and itself, wherever the two lie. Conditions: lists that are not too long. (Written by wip/tools/genctxsame.py.)
-/
import Derived.Test.YtlbbnnljclndkaaQCtxRf3
import Derived.BigQuiet
namespace Go.Proofs.Ytlbbnnljclndkaa.Cx
open Go.RowKit Leb
open _root_.Go.Proofs.Ytlbbnnljclndkaa.Mod

theorem boxC_kk {bx : Nat} {q : Plc} {c : GCtx} {V V' : World} (h : BoxC bx V q c) (h1 : V'.heap[bx]? = V.heap[bx]?) : BoxC bx V' q c := by
  obtain ⟨s0, s1, s2, s3, s4, s5, s6, s7, s8, s9⟩ := h
  have e : ∀ i, V'.cell? ⟨bx, i, none⟩ = V.cell? ⟨bx, i, none⟩ := fun i => World.cell?_of_block h1
  exact ⟨(e 0).trans s0, (e 1).trans s1, (e 2).trans s2, (e 3).trans s3, (e 4).trans s4, (e 5).trans s5, (e 6).trans s6, (e 7).trans s7, (e 8).trans s8, (e 9).trans s9⟩
/-- What the line on types reads. -/
def S6 (b1 b2 : Nat) (A B : Option Addr) (n d e : Nat) (p1 o1 p2 o2 : Nat) (T1 : Option Addr) (m1 u1 : Nat) (T2 : Option Addr) (m2 u2 : Nat) (R1 : Option Addr) (v1 : Nat) (R2 : Option Addr) (v2 : Nat) (V : World) : Prop := V.cell? ⟨b1, 0, none⟩ = some (.slice A n d) ∧ V.cell? ⟨b2, 0, none⟩ = some (.slice B n e) ∧ V.cell? ⟨p1, o1, none⟩ = some (.slice T1 m1 u1) ∧ V.cell? ⟨p1, o1 + 1, none⟩ = some (.slice T2 m2 u2) ∧ V.cell? ⟨p2, o2, none⟩ = some (.slice R1 m1 v1) ∧ V.cell? ⟨p2, o2 + 1, none⟩ = some (.slice R2 m2 v2)
set_option maxRecDepth 100000 in
set_option maxHeartbeats 16000000 in
theorem rsamec_yes (q r : Plc) (c : GCtx) (w : World) {ok ok' : Nat → Prop} (hq : CtxL w ok q c) (hr : CtxL w ok' r c) (hf : FtS c) (hn : c.types.length ≤ 1000 ∧ c.funcs.length ≤ 1000 ∧ c.globs.length ≤ 1000 ∧ c.tabs.length ≤ 1000 ∧ c.mems.length ≤ 1000) : Calls Try.prog 9 #[.agg #[.slice q.A0 c.types.length q.d0, .slice q.A1 c.funcs.length q.d1, .slice q.A2 c.globs.length q.d2, .slice q.A3 c.tabs.length q.d3, .slice q.A4 c.mems.length q.d4, .int .i64 c.hosts, .int .i64 c.vars, .int .i64 c.els, .int .i64 c.dats, .bool c.counted], .agg #[.slice r.A0 c.types.length r.d0, .slice r.A1 c.funcs.length r.d1, .slice r.A2 c.globs.length r.d2, .slice r.A3 c.tabs.length r.d3, .slice r.A4 c.mems.length r.d4, .int .i64 c.hosts, .int .i64 c.vars, .int .i64 c.els, .int .i64 c.dats, .bool c.counted]] w (BoolIs w true) := by
  have HB0 : Hid (Below w.heap.size w ((w.alloc (.cells #[.slice q.A0 c.types.length q.d0, .slice q.A1 c.funcs.length q.d1, .slice q.A2 c.globs.length q.d2, .slice q.A3 c.tabs.length q.d3, .slice q.A4 c.mems.length q.d4, .int .i64 c.hosts, .int .i64 c.vars, .int .i64 c.els, .int .i64 c.dats, .bool c.counted] 38)).alloc (.cells #[.slice r.A0 c.types.length r.d0, .slice r.A1 c.funcs.length r.d1, .slice r.A2 c.globs.length r.d2, .slice r.A3 c.tabs.length r.d3, .slice r.A4 c.mems.length r.d4, .int .i64 c.hosts, .int .i64 c.vars, .int .i64 c.els, .int .i64 c.dats, .bool c.counted] 38)) ∧ ((w.alloc (.cells #[.slice q.A0 c.types.length q.d0, .slice q.A1 c.funcs.length q.d1, .slice q.A2 c.globs.length q.d2, .slice q.A3 c.tabs.length q.d3, .slice q.A4 c.mems.length q.d4, .int .i64 c.hosts, .int .i64 c.vars, .int .i64 c.els, .int .i64 c.dats, .bool c.counted] 38)).alloc (.cells #[.slice r.A0 c.types.length r.d0, .slice r.A1 c.funcs.length r.d1, .slice r.A2 c.globs.length r.d2, .slice r.A3 c.tabs.length r.d3, .slice r.A4 c.mems.length r.d4, .int .i64 c.hosts, .int .i64 c.vars, .int .i64 c.els, .int .i64 c.dats, .bool c.counted] 38)).heap.size = w.heap.size + 2) := Lib.hid ⟨(((Below.refl _ _).alloc (Nat.le_refl _) _).alloc (by simp) _), by simp⟩
  have HBX : Hid (∀ V, Below ((w.alloc (.cells #[.slice q.A0 c.types.length q.d0, .slice q.A1 c.funcs.length q.d1, .slice q.A2 c.globs.length q.d2, .slice q.A3 c.tabs.length q.d3, .slice q.A4 c.mems.length q.d4, .int .i64 c.hosts, .int .i64 c.vars, .int .i64 c.els, .int .i64 c.dats, .bool c.counted] 38)).alloc (.cells #[.slice r.A0 c.types.length r.d0, .slice r.A1 c.funcs.length r.d1, .slice r.A2 c.globs.length r.d2, .slice r.A3 c.tabs.length r.d3, .slice r.A4 c.mems.length r.d4, .int .i64 c.hosts, .int .i64 c.vars, .int .i64 c.els, .int .i64 c.dats, .bool c.counted] 38)).heap.size ((w.alloc (.cells #[.slice q.A0 c.types.length q.d0, .slice q.A1 c.funcs.length q.d1, .slice q.A2 c.globs.length q.d2, .slice q.A3 c.tabs.length q.d3, .slice q.A4 c.mems.length q.d4, .int .i64 c.hosts, .int .i64 c.vars, .int .i64 c.els, .int .i64 c.dats, .bool c.counted] 38)).alloc (.cells #[.slice r.A0 c.types.length r.d0, .slice r.A1 c.funcs.length r.d1, .slice r.A2 c.globs.length r.d2, .slice r.A3 c.tabs.length r.d3, .slice r.A4 c.mems.length r.d4, .int .i64 c.hosts, .int .i64 c.vars, .int .i64 c.els, .int .i64 c.dats, .bool c.counted] 38)) V → BoxC w.heap.size V q c ∧ BoxC (w.heap.size + 1) V r c ∧ Below w.heap.size w V) := Lib.hid fun V hV => by
    have k1 : ((w.alloc (.cells #[.slice q.A0 c.types.length q.d0, .slice q.A1 c.funcs.length q.d1, .slice q.A2 c.globs.length q.d2, .slice q.A3 c.tabs.length q.d3, .slice q.A4 c.mems.length q.d4, .int .i64 c.hosts, .int .i64 c.vars, .int .i64 c.els, .int .i64 c.dats, .bool c.counted] 38)).alloc (.cells #[.slice r.A0 c.types.length r.d0, .slice r.A1 c.funcs.length r.d1, .slice r.A2 c.globs.length r.d2, .slice r.A3 c.tabs.length r.d3, .slice r.A4 c.mems.length r.d4, .int .i64 c.hosts, .int .i64 c.vars, .int .i64 c.els, .int .i64 c.dats, .bool c.counted] 38)).heap[w.heap.size]? = some (.cells #[.slice q.A0 c.types.length q.d0, .slice q.A1 c.funcs.length q.d1, .slice q.A2 c.globs.length q.d2, .slice q.A3 c.tabs.length q.d3, .slice q.A4 c.mems.length q.d4, .int .i64 c.hosts, .int .i64 c.vars, .int .i64 c.els, .int .i64 c.dats, .bool c.counted] 38 (0, 0)) := (((Below.refl _ _).alloc (Nat.le_refl _) _).block _ (by simp)).trans (heap_alloc_new w _)
    have k2 := heap2 w (.cells #[.slice q.A0 c.types.length q.d0, .slice q.A1 c.funcs.length q.d1, .slice q.A2 c.globs.length q.d2, .slice q.A3 c.tabs.length q.d3, .slice q.A4 c.mems.length q.d4, .int .i64 c.hosts, .int .i64 c.vars, .int .i64 c.els, .int .i64 c.dats, .bool c.counted] 38) #[.slice r.A0 c.types.length r.d0, .slice r.A1 c.funcs.length r.d1, .slice r.A2 c.globs.length r.d2, .slice r.A3 c.tabs.length r.d3, .slice r.A4 c.mems.length r.d4, .int .i64 c.hosts, .int .i64 c.vars, .int .i64 c.els, .int .i64 c.dats, .bool c.counted] 38
    have k3 := (hV.block _ (by rw [HB0.out.2]; omega)).trans k1
    have k4 := (hV.block _ (by rw [HB0.out.2]; omega)).trans k2
    refine ⟨?_, ?_, HB0.out.1.trans (hV.mono HB0.out.1.size)⟩
    · refine ⟨?_, ?_, ?_, ?_, ?_, ?_, ?_, ?_, ?_, ?_⟩ <;> rw [blk_cell k3] <;> rfl
    · refine ⟨?_, ?_, ?_, ?_, ?_, ?_, ?_, ?_, ?_, ?_⟩ <;> rw [blk_cell k4] <;> rfl
  have HSI := Lib.hid (Typ.sameInts_any q.A1 r.A1 c.funcs c.funcs q.d1 r.d1 _ _ ((w.alloc (.cells #[.slice q.A0 c.types.length q.d0, .slice q.A1 c.funcs.length q.d1, .slice q.A2 c.globs.length q.d2, .slice q.A3 c.tabs.length q.d3, .slice q.A4 c.mems.length q.d4, .int .i64 c.hosts, .int .i64 c.vars, .int .i64 c.els, .int .i64 c.dats, .bool c.counted] 38)).alloc (.cells #[.slice r.A0 c.types.length r.d0, .slice r.A1 c.funcs.length r.d1, .slice r.A2 c.globs.length r.d2, .slice r.A3 c.tabs.length r.d3, .slice r.A4 c.mems.length r.d4, .int .i64 c.hosts, .int .i64 c.vars, .int .i64 c.els, .int .i64 c.dats, .bool c.counted] 38)) (hq.below HB0.out.1).l1.ints (hr.below HB0.out.1).l1.ints (by omega) (by omega))
  have HQ := Lib.hid hq
  have HR := Lib.hid hr
  have HF := Lib.hid hf
  have n0 : (c.types.length : Int) ≤ 1000 := by omega
  have n2 : (c.globs.length : Int) ≤ 1000 := by omega
  have n3 : (c.tabs.length : Int) ≤ 1000 := by omega
  have n4 : (c.mems.length : Int) ≤ 1000 := by omega
  clear hq hr hf hn
  go_enter Try.func9, Try.ntmps9
  go_wp2_with fail
  refine HSI.out.mono ?_
  rintro en V0 ⟨rfl, m, rfl⟩
  have HI : Hid (Below ((w.alloc (.cells #[.slice q.A0 c.types.length q.d0, .slice q.A1 c.funcs.length q.d1, .slice q.A2 c.globs.length q.d2, .slice q.A3 c.tabs.length q.d3, .slice q.A4 c.mems.length q.d4, .int .i64 c.hosts, .int .i64 c.vars, .int .i64 c.els, .int .i64 c.dats, .bool c.counted] 38)).alloc (.cells #[.slice r.A0 c.types.length r.d0, .slice r.A1 c.funcs.length r.d1, .slice r.A2 c.globs.length r.d2, .slice r.A3 c.tabs.length r.d3, .slice r.A4 c.mems.length r.d4, .int .i64 c.hosts, .int .i64 c.vars, .int .i64 c.els, .int .i64 c.dats, .bool c.counted] 38)).heap.size ((w.alloc (.cells #[.slice q.A0 c.types.length q.d0, .slice q.A1 c.funcs.length q.d1, .slice q.A2 c.globs.length q.d2, .slice q.A3 c.tabs.length q.d3, .slice q.A4 c.mems.length q.d4, .int .i64 c.hosts, .int .i64 c.vars, .int .i64 c.els, .int .i64 c.dats, .bool c.counted] 38)).alloc (.cells #[.slice r.A0 c.types.length r.d0, .slice r.A1 c.funcs.length r.d1, .slice r.A2 c.globs.length r.d2, .slice r.A3 c.tabs.length r.d3, .slice r.A4 c.mems.length r.d4, .int .i64 c.hosts, .int .i64 c.vars, .int .i64 c.els, .int .i64 c.dats, .bool c.counted] 38)) (((w.alloc (.cells #[.slice q.A0 c.types.length q.d0, .slice q.A1 c.funcs.length q.d1, .slice q.A2 c.globs.length q.d2, .slice q.A3 c.tabs.length q.d3, .slice q.A4 c.mems.length q.d4, .int .i64 c.hosts, .int .i64 c.vars, .int .i64 c.els, .int .i64 c.dats, .bool c.counted] 38)).alloc (.cells #[.slice r.A0 c.types.length r.d0, .slice r.A1 c.funcs.length r.d1, .slice r.A2 c.globs.length r.d2, .slice r.A3 c.tabs.length r.d3, .slice r.A4 c.mems.length r.d4, .int .i64 c.hosts, .int .i64 c.vars, .int .i64 c.els, .int .i64 c.dats, .bool c.counted] 38)).drewN m)) := Lib.hid ⟨rfl, rfl, rfl, Nat.le_refl _, fun _ _ => rfl⟩
  simp only [decide_true]
  skip
  generalize ((w.alloc (.cells #[.slice q.A0 c.types.length q.d0, .slice q.A1 c.funcs.length q.d1, .slice q.A2 c.globs.length q.d2, .slice q.A3 c.tabs.length q.d3, .slice q.A4 c.mems.length q.d4, .int .i64 c.hosts, .int .i64 c.vars, .int .i64 c.els, .int .i64 c.dats, .bool c.counted] 38)).alloc (.cells #[.slice r.A0 c.types.length r.d0, .slice r.A1 c.funcs.length r.d1, .slice r.A2 c.globs.length r.d2, .slice r.A3 c.tabs.length r.d3, .slice r.A4 c.mems.length r.d4, .int .i64 c.hosts, .int .i64 c.vars, .int .i64 c.els, .int .i64 c.dats, .bool c.counted] 38)).drewN m = V0 at *
  generalize ((w.alloc (.cells #[.slice q.A0 c.types.length q.d0, .slice q.A1 c.funcs.length q.d1, .slice q.A2 c.globs.length q.d2, .slice q.A3 c.tabs.length q.d3, .slice q.A4 c.mems.length q.d4, .int .i64 c.hosts, .int .i64 c.vars, .int .i64 c.els, .int .i64 c.dats, .bool c.counted] 38)).alloc (.cells #[.slice r.A0 c.types.length r.d0, .slice r.A1 c.funcs.length r.d1, .slice r.A2 c.globs.length r.d2, .slice r.A3 c.tabs.length r.d3, .slice r.A4 c.mems.length r.d4, .int .i64 c.hosts, .int .i64 c.vars, .int .i64 c.els, .int .i64 c.dats, .bool c.counted] 38)) = W at *
  clear HSI
  go_wp2_with fail
  go_loopw [5] (fun i wr => ∃ j : Nat, i = .int .i64 (j : Int) ∧ j ≤ c.types.length ∧ Hid (Below W.heap.size W wr)) (fun i _ => c.types.length - (intOf i).toNat)
  case atStart => exact ⟨0, rfl, Nat.zero_le _, HI⟩
  case round =>
    clear HI
    obtain ⟨j, rfl, hj, HI⟩ := hrel
    obtain ⟨x0, x1, x2, x3, x4, x5, x6, x7, x8, x9⟩ := (HBX.out wr HI.out).1
    obtain ⟨y0, y1, y2, y3, y4, y5, y6, y7, y8, y9⟩ := (HBX.out wr HI.out).2.1
    by_cases hlt : j < c.types.length
    · have hlti : (j : Int) < (c.types.length : Int) := by omega
      obtain ⟨b, off, T1, u1, T2, u2, hA, h1⟩ := sm_ft HQ.out.l0 j hlt
      obtain ⟨b', off', R1, v1, R2, v2, hA', h2⟩ := sm_ft HR.out.l0 j hlt
      obtain ⟨s2, s3, l1, l2⟩ := h1 wr (HBX.out wr HI.out).2.2
      obtain ⟨s4, s5, l3, l4⟩ := h2 wr (HBX.out wr HI.out).2.2
      have HXL := Lib.hid (HF.out _ (List.getElem_mem hlt))
      rw [hA] at x0
      rw [hA'] at y0
      have HH := Lib.hid (And.intro h1 h2)
      clear h1 h2 hA hA'
      generalize c.types[j] = x at *
      have HIV0 : Hid (Below W.heap.size W wr.drew) := Lib.hid HI.out.drew
      have HSM0 : Hid (Calls Try.prog 23 #[.agg #[.slice T1 x.1.length u1, .slice T2 x.2.length u2], .agg #[.slice R1 x.1.length v1, .slice R2 x.2.length v2]] wr.drew (BoolIs wr.drew true)) := Lib.hid (by
        have h := rsame_ft wr.drew x x (lst_below l1 (Below.refl _ _).drew) (lst_below l2 (Below.refl _ _).drew) (lst_below l3 (Below.refl _ _).drew) (lst_below l4 (Below.refl _ _).drew) HXL.out HXL.out
        simpa using h)
      have hS0 : S6 w.heap.size (w.heap.size + 1) (some ⟨b, off, none⟩) (some ⟨b', off', none⟩) c.types.length q.d0 r.d0 b (off + j * 2) b' (off' + j * 2) T1 x.1.length u1 T2 x.2.length u2 R1 v1 R2 v2 wr.drew := ⟨x0, y0, s2, s3, s4, s5⟩
      have HSB : Hid (∀ u, Below W.heap.size W u → S6 w.heap.size (w.heap.size + 1) (some ⟨b, off, none⟩) (some ⟨b', off', none⟩) c.types.length q.d0 r.d0 b (off + j * 2) b' (off' + j * 2) T1 x.1.length u1 T2 x.2.length u2 R1 v1 R2 v2 u) := Lib.hid fun u hu => by
        obtain ⟨k2, k3, _, _⟩ := HH.out.1 u (HBX.out u hu).2.2
        obtain ⟨k4, k5, _, _⟩ := HH.out.2 u (HBX.out u hu).2.2
        refine ⟨(HBX.out u hu).1.1.trans ?_, (HBX.out u hu).2.1.1.trans ?_, k2, k3, k4, k5⟩
        · exact (HBX.out wr HI.out).1.1.symm.trans x0
        · exact (HBX.out wr HI.out).2.1.1.symm.trans y0
      clear l1 l2 l3 l4
      go_wp2_with fail
      refine wp_region_held_drew (S := S6 w.heap.size (w.heap.size + 1) (some ⟨b, off, none⟩) (some ⟨b', off', none⟩) c.types.length q.d0 r.d0 b (off + j * 2) b' (off' + j * 2) T1 x.1.length u1 T2 x.2.length u2 R1 v1 R2 v2) (by kernel_rfl) hS0 (fun hS => ?_)
      clear x0 y0 x1 y1 x2 y2 x3 y3 x4 y4 x5 y5 x6 y6 x7 y7 x8 y8 x9 y9 s2 s3 s4 s5 hS0
      generalize wr.drew = V at *
      have HIV := HIV0
      have HSM := HSM0
      refine wpAnyH_take (i := 0) (oi := { dst := some 93, op := .fieldAddr 38 (.tmp 2) 0, type := 0, pos := "ref.go:201", after := #[], guard := none }) (v := ?_) rfl (by kernel_rfl) (by kernel_rfl) (by kernel_rfl) (fun _ _ _ h => h) (Or.inl ⟨by rfl, ?_⟩) hS ?_
      rotate_left
      · (intro w' hS'; obtain ⟨t0, t1, t2, t3, t4, t5⟩ := hS'; go_simp) <;> with_reducible rfl
      try simp only [Act.put, List.setIfInBounds_toArray, List.set_cons_zero, List.set_cons_succ]
      refine wpAnyH_take (i := 1) (oi := { dst := some 94, op := .load 22 (.tmp 93), type := 22, pos := "ref.go:201", after := #[{ on := 0, ground := .data }], guard := none }) (v := ?_) rfl (by kernel_rfl) (by kernel_rfl) (by kernel_rfl) (fun _ _ _ h => h) (Or.inl ⟨by rfl, ?_⟩) hS ?_
      rotate_left
      · (intro w' hS'; obtain ⟨t0, t1, t2, t3, t4, t5⟩ := hS'; go_simp) <;> with_reducible rfl
      try simp only [Act.put, List.setIfInBounds_toArray, List.set_cons_zero, List.set_cons_succ]
      refine wpAnyH_take (i := 2) (oi := { dst := some 95, op := .move (.tmp 5), type := 3, pos := "ref.go:201", after := #[], guard := none }) (v := ?_) rfl (by kernel_rfl) (by kernel_rfl) (by kernel_rfl) (fun _ _ _ h => h) (Or.inl ⟨by rfl, ?_⟩) hS ?_
      rotate_left
      · (intro w' hS'; obtain ⟨t0, t1, t2, t3, t4, t5⟩ := hS'; go_simp) <;> with_reducible rfl
      try simp only [Act.put, List.setIfInBounds_toArray, List.set_cons_zero, List.set_cons_succ]
      refine wpAnyH_take (i := 3) (oi := { dst := some 96, op := .indexAddr 22 (.tmp 94) (.tmp 95), type := 0, pos := "ref.go:201", after := #[{ on := 1, ground := .data }, { on := 2, ground := .data }], guard := none }) (v := ?_) rfl (by kernel_rfl) (by kernel_rfl) (by kernel_rfl) (fun _ _ _ h => h) (Or.inl ⟨by rfl, ?_⟩) hS ?_
      rotate_left
      · (intro w' hS'; obtain ⟨t0, t1, t2, t3, t4, t5⟩ := hS'; go_simp) <;> with_reducible rfl
      try simp only [Act.put, List.setIfInBounds_toArray, List.set_cons_zero, List.set_cons_succ]
      refine wpAnyH_take (i := 4) (oi := { dst := some 97, op := .load 46 (.tmp 96), type := 46, pos := "ref.go:201", after := #[{ on := 3, ground := .data }], guard := none }) (v := ?_) rfl (by kernel_rfl) (by kernel_rfl) (by kernel_rfl) (fun _ _ _ h => h) (Or.inl ⟨by rfl, ?_⟩) hS ?_
      rotate_left
      · (intro w' hS'; obtain ⟨t0, t1, t2, t3, t4, t5⟩ := hS'; go_simp) <;> with_reducible rfl
      try simp only [Act.put, List.setIfInBounds_toArray, List.set_cons_zero, List.set_cons_succ]
      refine wpAnyH_take (i := 5) (oi := { dst := some 98, op := .fieldAddr 38 (.tmp 3) 0, type := 0, pos := "ref.go:201", after := #[], guard := none }) (v := ?_) rfl (by kernel_rfl) (by kernel_rfl) (by kernel_rfl) (fun _ _ _ h => h) (Or.inl ⟨by rfl, ?_⟩) hS ?_
      rotate_left
      · (intro w' hS'; obtain ⟨t0, t1, t2, t3, t4, t5⟩ := hS'; go_simp) <;> with_reducible rfl
      try simp only [Act.put, List.setIfInBounds_toArray, List.set_cons_zero, List.set_cons_succ]
      refine wpAnyH_take (i := 6) (oi := { dst := some 99, op := .load 22 (.tmp 98), type := 22, pos := "ref.go:201", after := #[{ on := 5, ground := .data }], guard := none }) (v := ?_) rfl (by kernel_rfl) (by kernel_rfl) (by kernel_rfl) (fun _ _ _ h => h) (Or.inl ⟨by rfl, ?_⟩) hS ?_
      rotate_left
      · (intro w' hS'; obtain ⟨t0, t1, t2, t3, t4, t5⟩ := hS'; go_simp) <;> with_reducible rfl
      try simp only [Act.put, List.setIfInBounds_toArray, List.set_cons_zero, List.set_cons_succ]
      refine wpAnyH_take (i := 7) (oi := { dst := some 100, op := .move (.tmp 5), type := 3, pos := "ref.go:201", after := #[], guard := none }) (v := ?_) rfl (by kernel_rfl) (by kernel_rfl) (by kernel_rfl) (fun _ _ _ h => h) (Or.inl ⟨by rfl, ?_⟩) hS ?_
      rotate_left
      · (intro w' hS'; obtain ⟨t0, t1, t2, t3, t4, t5⟩ := hS'; go_simp) <;> with_reducible rfl
      try simp only [Act.put, List.setIfInBounds_toArray, List.set_cons_zero, List.set_cons_succ]
      refine wpAnyH_take (i := 8) (oi := { dst := some 101, op := .indexAddr 22 (.tmp 99) (.tmp 100), type := 0, pos := "ref.go:201", after := #[{ on := 6, ground := .data }, { on := 7, ground := .data }], guard := none }) (v := ?_) rfl (by kernel_rfl) (by kernel_rfl) (by kernel_rfl) (fun _ _ _ h => h) (Or.inl ⟨by rfl, ?_⟩) hS ?_
      rotate_left
      · (intro w' hS'; obtain ⟨t0, t1, t2, t3, t4, t5⟩ := hS'; go_simp) <;> with_reducible rfl
      try simp only [Act.put, List.setIfInBounds_toArray, List.set_cons_zero, List.set_cons_succ]
      refine wpAnyH_take (i := 9) (oi := { dst := some 102, op := .load 46 (.tmp 101), type := 46, pos := "ref.go:201", after := #[{ on := 8, ground := .data }], guard := none }) (v := ?_) rfl (by kernel_rfl) (by kernel_rfl) (by kernel_rfl) (fun _ _ _ h => h) (Or.inl ⟨by rfl, ?_⟩) hS ?_
      rotate_left
      · (intro w' hS'; obtain ⟨t0, t1, t2, t3, t4, t5⟩ := hS'; go_simp) <;> with_reducible rfl
      try simp only [Act.put, List.setIfInBounds_toArray, List.set_cons_zero, List.set_cons_succ]
      refine wpAnyH_ready (rs := [10]) (by kernel_rfl) (by simp) ?_
      refine AllReadyH.cons (o := { dst := some 103, op := .call { callee := .value (.func 23), args := #[.tmp 97, .tmp 102], argTypes := #[46, 46] }, type := 4, pos := "ref.go:201", after := #[{ on := 4, ground := .data }, { on := 9, ground := .data }], guard := none }) rfl (fun K' hK => ?_) (AllReadyH.nil)
      go_simp
      refine HSM.out.mono ?_
      rintro en V2 ⟨rfl, hb⟩
      have HN := Lib.hid (HIV.out.trans (hb.mono HIV.out.size))
      have HT := Lib.hid (HSB.out V2 HN.out)
      clear hb
      go_wp2_with fail
      refine hK.out _ _ HT.out (fun hS => ?_)
      clear hK K'
      try simp only [Act.put, List.setIfInBounds_toArray, List.set_cons_zero, List.set_cons_succ]
      refine wpAnyH_take (i := 11) (oi := { dst := some 104, op := .unOp .not 4 (.tmp 103), type := 4, pos := "ref.go:201", after := #[{ on := 10, ground := .data }], guard := none }) (v := ?_) rfl (by kernel_rfl) (by kernel_rfl) (by kernel_rfl) (fun _ _ _ h => h) (Or.inl ⟨by rfl, ?_⟩) hS ?_
      rotate_left
      · (intro w' hS'; obtain ⟨t0, t1, t2, t3, t4, t5⟩ := hS'; go_simp) <;> with_reducible rfl
      try simp only [Act.put, List.setIfInBounds_toArray, List.set_cons_zero, List.set_cons_succ]
      refine wpAnyH_done (by kernel_rfl) ?_ _
      go_wp2
      go_roundw
      case rel => exact ⟨j + 1, by go_num, by omega, HN⟩
      case measure => simp [intOf]; omega
    · have hlti : ¬ (j : Int) < (c.types.length : Int) := by omega
      rename World => V1
      go_wp2_with fail
      clear hj hlt x0 y0 x1 y1 x2 y2 x3 y3 x4 y4 x5 y5 x6 y6 x7 y7 x8 y8 x9 y9
      go_loopw [6] (fun i wr => ∃ j : Nat, i = .int .i64 (j : Int) ∧ j ≤ c.globs.length ∧ Hid (Below W.heap.size W wr)) (fun i _ => c.globs.length - (intOf i).toNat)
      case atStart => exact ⟨0, rfl, Nat.zero_le _, HI⟩
      case round =>
        clear HI hlti
        obtain ⟨j, rfl, hj, HI⟩ := hrel
        obtain ⟨x0, x1, x2, x3, x4, x5, x6, x7, x8, x9⟩ := (HBX.out wr HI.out).1
        obtain ⟨y0, y1, y2, y3, y4, y5, y6, y7, y8, y9⟩ := (HBX.out wr HI.out).2.1
        by_cases hlt : j < c.globs.length
        · have hlti : (j : Int) < (c.globs.length : Int) := by omega
          obtain ⟨b, off, hA, h1⟩ := sm_var HQ.out.l2 j hlt
          obtain ⟨b', off', hA', h2⟩ := sm_var HR.out.l2 j hlt
          obtain ⟨s0, s1⟩ := h1 wr (HBX.out wr HI.out).2.2
          obtain ⟨u0, u1⟩ := h2 wr (HBX.out wr HI.out).2.2
          rw [hA] at x2
          rw [hA'] at y2
          clear h1 h2 hA hA' x0 y0 x1 y1 x3 y3 x4 y4 x5 y5 x6 y6 x7 y7 x8 y8 x9 y9
          generalize c.globs[j] = x at *
          go_wp2_with fail
          go_quiet (fail)
          have HN : Hid (Below W.heap.size W (wr.drewN nq)) := Lib.hid (HI.out.trans ⟨rfl, rfl, rfl, Nat.le_refl _, fun _ _ => rfl⟩)
          clear s0 u0 s1 u1 x2 y2
          generalize wr.drewN nq = V at *
          go_wp2
          go_roundw
          case rel => exact ⟨j + 1, by go_num, by omega, HN⟩
          case measure => simp [intOf]; omega
        · have hlti : ¬ (j : Int) < (c.globs.length : Int) := by omega
          rename World => V2
          go_wp2_with fail
          clear hj hlt x0 y0 x1 y1 x2 y2 x3 y3 x4 y4 x5 y5 x6 y6 x7 y7 x8 y8 x9 y9
          go_loopw [7] (fun i wr => ∃ j : Nat, i = .int .i64 (j : Int) ∧ j ≤ c.tabs.length ∧ Hid (Below W.heap.size W wr)) (fun i _ => c.tabs.length - (intOf i).toNat)
          case atStart => exact ⟨0, rfl, Nat.zero_le _, HI⟩
          case round =>
            clear HI hlti
            obtain ⟨j, rfl, hj, HI⟩ := hrel
            obtain ⟨x0, x1, x2, x3, x4, x5, x6, x7, x8, x9⟩ := (HBX.out wr HI.out).1
            obtain ⟨y0, y1, y2, y3, y4, y5, y6, y7, y8, y9⟩ := (HBX.out wr HI.out).2.1
            by_cases hlt : j < c.tabs.length
            · have hlti : (j : Int) < (c.tabs.length : Int) := by omega
              obtain ⟨b, off, hA, h1⟩ := sm_lim HQ.out.l3 j hlt
              obtain ⟨b', off', hA', h2⟩ := sm_lim HR.out.l3 j hlt
              obtain ⟨s0, s1, s2⟩ := h1 wr (HBX.out wr HI.out).2.2
              obtain ⟨u0, u1, u2⟩ := h2 wr (HBX.out wr HI.out).2.2
              rw [hA] at x3
              rw [hA'] at y3
              clear h1 h2 hA hA' x0 y0 x1 y1 x2 y2 x4 y4 x5 y5 x6 y6 x7 y7 x8 y8 x9 y9
              generalize c.tabs[j] = x at *
              go_wp2_with fail
              go_quiet (fail)
              have HN : Hid (Below W.heap.size W (wr.drewN nq)) := Lib.hid (HI.out.trans ⟨rfl, rfl, rfl, Nat.le_refl _, fun _ _ => rfl⟩)
              clear s0 u0 s1 u1 s2 u2 x3 y3
              generalize wr.drewN nq = V at *
              go_wp2
              go_roundw
              case rel => exact ⟨j + 1, by go_num, by omega, HN⟩
              case measure => simp [intOf]; omega
            · have hlti : ¬ (j : Int) < (c.tabs.length : Int) := by omega
              rename World => V3
              go_wp2_with fail
              clear hj hlt x0 y0 x1 y1 x2 y2 x3 y3 x4 y4 x5 y5 x6 y6 x7 y7 x8 y8 x9 y9
              go_loopw [8] (fun i wr => ∃ j : Nat, i = .int .i64 (j : Int) ∧ j ≤ c.mems.length ∧ Hid (Below W.heap.size W wr)) (fun i _ => c.mems.length - (intOf i).toNat)
              case atStart => exact ⟨0, rfl, Nat.zero_le _, HI⟩
              case round =>
                clear HI hlti
                obtain ⟨j, rfl, hj, HI⟩ := hrel
                obtain ⟨x0, x1, x2, x3, x4, x5, x6, x7, x8, x9⟩ := (HBX.out wr HI.out).1
                obtain ⟨y0, y1, y2, y3, y4, y5, y6, y7, y8, y9⟩ := (HBX.out wr HI.out).2.1
                by_cases hlt : j < c.mems.length
                · have hlti : (j : Int) < (c.mems.length : Int) := by omega
                  obtain ⟨b, off, hA, h1⟩ := sm_lim HQ.out.l4 j hlt
                  obtain ⟨b', off', hA', h2⟩ := sm_lim HR.out.l4 j hlt
                  obtain ⟨s0, s1, s2⟩ := h1 wr (HBX.out wr HI.out).2.2
                  obtain ⟨u0, u1, u2⟩ := h2 wr (HBX.out wr HI.out).2.2
                  rw [hA] at x4
                  rw [hA'] at y4
                  clear h1 h2 hA hA' x0 y0 x1 y1 x2 y2 x3 y3 x5 y5 x6 y6 x7 y7 x8 y8 x9 y9
                  generalize c.mems[j] = x at *
                  go_wp2_with fail
                  go_quiet (fail)
                  have HN : Hid (Below W.heap.size W (wr.drewN nq)) := Lib.hid (HI.out.trans ⟨rfl, rfl, rfl, Nat.le_refl _, fun _ _ => rfl⟩)
                  clear s0 u0 s1 u1 s2 u2 x4 y4
                  generalize wr.drewN nq = V at *
                  go_wp2
                  go_roundw
                  case rel => exact ⟨j + 1, by go_num, by omega, HN⟩
                  case measure => simp [intOf]; omega
                · have hlti : ¬ (j : Int) < (c.mems.length : Int) := by omega
                  go_wp2
                  go_ret
                  exact ⟨rfl, (HBX.out _ HI.out).2.2⟩
end Go.Proofs.Ytlbbnnljclndkaa.Cx
