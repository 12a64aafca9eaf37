/-
  CtxAskedLaw: trammellaw09.CtxAsked: whatever the arguments, true. Conditions: the context and the instructions lie in memory. (Written by wip/tools/genctxasked.py.)
-/
import Derived.Test.YtjajepeggphnbaaQCtxRf3
import Derived.Test.YtjajepeggphnbaaQCtxAwake
import Derived.Test.YtjajepeggphnbaaQCtxOpen
import Derived.BigQuiet
namespace Go.Proofs.Ytjajepeggphnbaa.Cx
open Go.RowKit Leb
open _root_.Go.Proofs.Ytjajepeggphnbaa.Mod

theorem blk_len {c : GCtx} (hf : FtS c) (t : Int) : (blkTy c t).1.length ≤ 100000 ∧ (blkTy c t).2.length ≤ 100000 := by
  unfold blkTy
  repeat' split
  all_goals first | exact tyAt_len hf t | simp
theorem fnTy_no {c : GCtx} {f : Int} (h : hasTy c f = false) : fnTy c f = ([], []) := by
  unfold hasTy at h
  unfold fnTy
  cases h1 : inB f c.funcs.length with
  | false => rfl
  | true =>
    rw [h1, Bool.true_and] at h
    simp only [if_true]
    unfold tyAt
    rw [h]
    rfl
/-- What the third line reads. -/
def S7 (bc bx by_ : Nat) (q : Plc) (c : GCtx) (X1 : Option Addr) (n1 d1 : Nat) (X2 : Option Addr) (n2 d2 : Nat) (Y1 : Option Addr) (m1 e1 : Nat) (Y2 : Option Addr) (m2 e2 : Nat) (V : World) : Prop := BoxC bc V q c ∧ BoxF bx X1 X2 n1 n2 d1 d2 V ∧ BoxF by_ Y1 Y2 m1 m2 e1 e2 V
def S12 (bx bc b b0 o o0 : Nat) (AT : Option Addr) (nt dt : Nat) (AF : Option Addr) (nf df : Nat) (j : Int) (Z1 : Option Addr) (n1 g1 : Nat) (Z2 : Option Addr) (n2 g2 : Nat) (T1 : Option Addr) (m1 u1 : Nat) (T2 : Option Addr) (m2 u2 : Nat) (V : World) : Prop := V.cell? ⟨bx, 0, none⟩ = some (.slice Z1 n1 g1) ∧ V.cell? ⟨bx, 1, none⟩ = some (.slice Z2 n2 g2) ∧ V.cell? ⟨bc, 0, none⟩ = some (.slice AT nt dt) ∧ V.cell? ⟨bc, 1, none⟩ = some (.slice AF nf df) ∧ V.cell? ⟨b, o, none⟩ = some (.int .i64 j) ∧ V.cell? ⟨b0, o0, none⟩ = some (.slice T1 m1 u1) ∧ V.cell? ⟨b0, o0 + 1, none⟩ = some (.slice T2 m2 u2)
theorem s12_keep {bx bc b b0 o o0 : Nat} {AT : Option Addr} {nt dt : Nat} {AF : Option Addr} {nf df : Nat} {j : Int} {Z1 : Option Addr} {n1 g1 : Nat} {Z2 : Option Addr} {n2 g2 : Nat} {T1 : Option Addr} {m1 u1 : Nat} {T2 : Option Addr} {m2 u2 : Nat} {V V' : World} (h : S12 bx bc b b0 o o0 AT nt dt AF nf df j Z1 n1 g1 Z2 n2 g2 T1 m1 u1 T2 m2 u2 V) (e1 : V'.heap[bx]? = V.heap[bx]?) (e2 : V'.heap[bc]? = V.heap[bc]?) (e3 : V'.heap[b]? = V.heap[b]?) (e4 : V'.heap[b0]? = V.heap[b0]?) : S12 bx bc b b0 o o0 AT nt dt AF nf df j Z1 n1 g1 Z2 n2 g2 T1 m1 u1 T2 m2 u2 V' := by
  obtain ⟨h0, h1, h2, h3, h4, h5, h6⟩ := h
  exact ⟨(World.cell?_of_block e1).trans h0, (World.cell?_of_block e1).trans h1, (World.cell?_of_block e2).trans h2, (World.cell?_of_block e2).trans h3, (World.cell?_of_block e3).trans h4, (World.cell?_of_block e4).trans h5, (World.cell?_of_block e4).trans h6⟩
theorem boxF_k {b : Nat} {A1 A2 : Option Addr} {n1 n2 c1 c2 : Nat} {V V' : World} (h : BoxF b A1 A2 n1 n2 c1 c2 V) (e : V'.heap[b]? = V.heap[b]?) : BoxF b A1 A2 n1 n2 c1 c2 V' := ⟨(World.cell?_of_block (a := ⟨b, 0, none⟩) e).trans h.1, (World.cell?_of_block (a := ⟨b, 1, none⟩) e).trans h.2⟩
theorem boxC_k {bx : Nat} {q : Plc} {c : GCtx} {V V' : World} (h : BoxC bx V q c) (h1 : V'.heap[bx]? = V.heap[bx]?) : BoxC bx V' q c := by
  obtain ⟨s0, s1, s2, s3, s4, s5, s6, s7, s8, s9⟩ := h
  have e : ∀ i, V'.cell? ⟨bx, i, none⟩ = V.cell? ⟨bx, i, none⟩ := fun i => World.cell?_of_block h1
  exact ⟨(e 0).trans s0, (e 1).trans s1, (e 2).trans s2, (e 3).trans s3, (e 4).trans s4, (e 5).trans s5, (e 6).trans s6, (e 7).trans s7, (e 8).trans s8, (e 9).trans s9⟩
set_option maxRecDepth 100000 in
set_option maxHeartbeats 16000000 in
theorem asked_law (q : Plc) (c : GCtx) (w : World) {ok okI : Nat → Prop} (hl : CtxL w ok q c) (f t : Int) {A : Option Addr} {cc : Nat} (l : List Ins.Ins) (hi : Lst insR w okI A cc l) (v : Int) : Calls Try.prog 4 #[.agg #[.slice q.A0 c.types.length q.d0, .slice q.A1 c.funcs.length q.d1, .slice q.A2 c.globs.length q.d2, .slice q.A3 c.tabs.length q.d3, .slice q.A4 c.mems.length q.d4, .int .i64 c.hosts, .int .i64 c.vars, .int .i64 c.els, .int .i64 c.dats, .bool c.counted], .int .i64 f, .int .i64 t, .slice A l.length cc, .int .i64 v] w (BoolIs w true) := by
  have HB1 : Hid (Below w.heap.size w (w.alloc (.cells #[.slice q.A0 c.types.length q.d0, .slice q.A1 c.funcs.length q.d1, .slice q.A2 c.globs.length q.d2, .slice q.A3 c.tabs.length q.d3, .slice q.A4 c.mems.length q.d4, .int .i64 c.hosts, .int .i64 c.vars, .int .i64 c.els, .int .i64 c.dats, .bool c.counted] 38))) := Lib.hid ((Below.refl _ _).alloc (Nat.le_refl _) _)
  have HZ0 : Hid ((w.alloc (.cells #[.slice q.A0 c.types.length q.d0, .slice q.A1 c.funcs.length q.d1, .slice q.A2 c.globs.length q.d2, .slice q.A3 c.tabs.length q.d3, .slice q.A4 c.mems.length q.d4, .int .i64 c.hosts, .int .i64 c.vars, .int .i64 c.els, .int .i64 c.dats, .bool c.counted] 38)).heap.size = w.heap.size + 1) := Lib.hid (by simp)
  have HX0 : Hid (BoxC w.heap.size (w.alloc (.cells #[.slice q.A0 c.types.length q.d0, .slice q.A1 c.funcs.length q.d1, .slice q.A2 c.globs.length q.d2, .slice q.A3 c.tabs.length q.d3, .slice q.A4 c.mems.length q.d4, .int .i64 c.hosts, .int .i64 c.vars, .int .i64 c.els, .int .i64 c.dats, .bool c.counted] 38)) q c) := Lib.hid (by refine ⟨?_, ?_, ?_, ?_, ?_, ?_, ?_, ?_, ?_, ?_⟩ <;> simp)
  have HAW := Lib.hid (awake_any (w.alloc (.cells #[.slice q.A0 c.types.length q.d0, .slice q.A1 c.funcs.length q.d1, .slice q.A2 c.globs.length q.d2, .slice q.A3 c.tabs.length q.d3, .slice q.A4 c.mems.length q.d4, .int .i64 c.hosts, .int .i64 c.vars, .int .i64 c.els, .int .i64 c.dats, .bool c.counted] 38)))
  have HSH : Hid (∀ V, Below w.heap.size w V → Calls Try.prog 14 #[.agg #[.slice q.A0 c.types.length q.d0, .slice q.A1 c.funcs.length q.d1, .slice q.A2 c.globs.length q.d2, .slice q.A3 c.tabs.length q.d3, .slice q.A4 c.mems.length q.d4, .int .i64 c.hosts, .int .i64 c.vars, .int .i64 c.els, .int .i64 c.dats, .bool c.counted]] V (ShC V c)) := Lib.hid fun V hV => rshort_any q c V (hl.below hV)
  have HSI : Hid (∀ V, Below w.heap.size w V → Calls Try.prog 15 #[.slice A l.length cc] V (Typ.Same1 V (.bool (Ins.shortB l)))) := Lib.hid fun V hV => Ins.short_any A l cc _ V (lst_below hi hV).sli.ins
  have HBK : Hid (∀ V, Below w.heap.size w V → FtS c → Calls Try.prog 16 #[.agg #[.slice q.A0 c.types.length q.d0, .slice q.A1 c.funcs.length q.d1, .slice q.A2 c.globs.length q.d2, .slice q.A3 c.tabs.length q.d3, .slice q.A4 c.mems.length q.d4, .int .i64 c.hosts, .int .i64 c.vars, .int .i64 c.els, .int .i64 c.dats, .bool c.counted], .int .i64 t] V (TyAny V (blkHas c t) (blkTy c t))) := Lib.hid fun V hV hf => block_any q c V (hl.below hV) hf t
  have HRB : Hid (∀ V, Below w.heap.size w V → Calls Try.prog 17 #[.agg #[.slice q.A0 c.types.length q.d0, .slice q.A1 c.funcs.length q.d1, .slice q.A2 c.globs.length q.d2, .slice q.A3 c.tabs.length q.d3, .slice q.A4 c.mems.length q.d4, .int .i64 c.hosts, .int .i64 c.vars, .int .i64 c.els, .int .i64 c.dats, .bool c.counted], .int .i64 t] V (TyAny V (blkHas c t) (blkTy c t))) := Lib.hid fun V hV => rblock_any q c V (hl.below hV) t
  have HKO : Hid (∀ V, Below w.heap.size w V → Calls Try.prog 19 #[.agg #[.slice q.A0 c.types.length q.d0, .slice q.A1 c.funcs.length q.d1, .slice q.A2 c.globs.length q.d2, .slice q.A3 c.tabs.length q.d3, .slice q.A4 c.mems.length q.d4, .int .i64 c.hosts, .int .i64 c.vars, .int .i64 c.els, .int .i64 c.dats, .bool c.counted], .slice A l.length cc, .int .i64 v] V (BoolIs V (constB c l v))) := Lib.hid fun V hV => constant_any q c V (hl.below hV) l (lst_below hi hV) v
  have HKR : Hid (∀ V, Below w.heap.size w V → Calls Try.prog 20 #[.agg #[.slice q.A0 c.types.length q.d0, .slice q.A1 c.funcs.length q.d1, .slice q.A2 c.globs.length q.d2, .slice q.A3 c.tabs.length q.d3, .slice q.A4 c.mems.length q.d4, .int .i64 c.hosts, .int .i64 c.vars, .int .i64 c.els, .int .i64 c.dats, .bool c.counted], .slice A l.length cc, .int .i64 v] V (BoolIs V (constB c l v))) := Lib.hid fun V hV => rconstant_any q c V (hl.below hV) l (lst_below hi hV) v
  have HTY : Hid (∀ V, Below w.heap.size w V → FtS c → Calls Try.prog 21 #[.agg #[.slice q.A0 c.types.length q.d0, .slice q.A1 c.funcs.length q.d1, .slice q.A2 c.globs.length q.d2, .slice q.A3 c.tabs.length q.d3, .slice q.A4 c.mems.length q.d4, .int .i64 c.hosts, .int .i64 c.vars, .int .i64 c.els, .int .i64 c.dats, .bool c.counted], .int .i64 f] V (TyIs V (hasTy c f) (fnTy c f))) := Lib.hid fun V hV hf => type_any q c V (hl.below hV) hf f
  have HL := Lib.hid hl
  clear hl hi
  generalize constB c l v = kb at *
  generalize Ins.shortB l = sb at *
  generalize l.length = ln at *
  go_enter Try.func4, Try.ntmps4
  go_wp2_with fail
  refine HAW.out.mono ?_
  rintro en V1 ⟨rfl, hb⟩
  have HV1 := Lib.hid (HB1.out.trans (hb.mono HB1.out.size))
  have HX1 := Lib.hid (boxC_k HX0.out (hb.block _ (by have := HZ0.out; omega)))
  have HZ1 : Hid (w.heap.size < V1.heap.size) := Lib.hid (by have := hb.size; have := HZ0.out; omega)
  clear hb HAW HX0 HB1 HZ0
  obtain ⟨x0, x1, x2, x3, x4, x5, x6, x7, x8, x9⟩ := HX1.out
  go_wp2_with fail
  refine (HSH.out V1 HV1.out).mono ?_
  rintro en V2 ⟨b1, rfl, hsh, hb⟩
  have HV2 := Lib.hid (HV1.out.trans (hb.mono HV1.out.size))
  have HX2 := Lib.hid (boxC_k HX1.out (hb.block _ HZ1.out))
  have HZ2 : Hid (w.heap.size < V2.heap.size) := Lib.hid (Nat.lt_of_lt_of_le HZ1.out hb.size)
  clear hb HSH HX1 HV1 HZ1 x0 x1 x2 x3 x4 x5 x6 x7 x8 x9
  cases b1 with
  | false =>
    clear hsh
    go_wp2
    go_ret
    exact ⟨rfl, HV2.out⟩
  | true =>
    have HF := Lib.hid (hsh rfl)
    clear hsh
    go_wp2_with fail
    refine (HSI.out V2 HV2.out).mono ?_
    rintro en V3 ⟨rfl, hV⟩
    subst hV
    cases sb with
    | false =>
      go_wp2
      go_ret
      exact ⟨rfl, HV2.out⟩
    | true =>
      clear HSI
      obtain ⟨x0, x1, x2, x3, x4, x5, x6, x7, x8, x9⟩ := HX2.out
      go_wp2_with fail
      refine (HBK.out V2 HV2.out HF.out.1).mono ?_
      rintro en V4 ⟨X1, d1, X2, d2, rfl, hx1, hx2, hb⟩
      have HLX : Hid ((blkTy c t).1.length ≤ 100000 ∧ (blkTy c t).2.length ≤ 100000) := Lib.hid (blk_len HF.out.1 t)
      generalize blkTy c t = x at *
      generalize blkHas c t = bh at *
      have hbx : Below V4.heap.size V4 (V4.alloc (.cells #[.slice X1 x.1.length d1, .slice X2 x.2.length d2] 49)) := (Below.refl _ _).alloc (Nat.le_refl _) _
      have HV4 := Lib.hid (HV2.out.trans ((hb.mono HV2.out.size).trans (hbx.mono (Nat.le_trans HV2.out.size hb.size))))
      have HQ1 := Lib.hid (And.intro (lst_below hx1 hbx) (lst_below hx2 hbx))
      have HX4 := Lib.hid (boxC_k (boxC_k HX2.out (hb.block _ HZ2.out)) (hbx.block _ (Nat.lt_of_lt_of_le HZ2.out hb.size)))
      have HF4 : Hid (BoxF V4.heap.size X1 X2 x.1.length x.2.length d1 d2 (V4.alloc (.cells #[.slice X1 x.1.length d1, .slice X2 x.2.length d2] 49))) := Lib.hid ⟨by simp, by simp⟩
      have HE4 : Hid ((V4.alloc (.cells #[.slice X1 x.1.length d1, .slice X2 x.2.length d2] 49)).heap[V4.heap.size]? = some (.cells #[.slice X1 x.1.length d1, .slice X2 x.2.length d2] 49 (0, 0))) := Lib.hid (heap_alloc_new V4 _)
      have HZ4 : Hid (w.heap.size < V4.heap.size ∧ (V4.alloc (.cells #[.slice X1 x.1.length d1, .slice X2 x.2.length d2] 49)).heap.size = V4.heap.size + 1) := Lib.hid ⟨Nat.lt_of_lt_of_le HZ2.out hb.size, by simp⟩
      clear hb hx1 hx2 hbx HBK x0 x1 x2 x3 x4 x5 x6 x7 x8 x9 HX2 HV2 HZ2
      obtain ⟨x0, x1, x2, x3, x4, x5, x6, x7, x8, x9⟩ := HX4.out
      go_wp2_with fail
      refine (HRB.out _ HV4.out).mono ?_
      rintro en V5 ⟨Y1, e1, Y2, e2, rfl, hx1, hx2, hb⟩
      have hbx : Below V5.heap.size V5 (V5.alloc (.cells #[.slice Y1 x.1.length e1, .slice Y2 x.2.length e2] 49)) := (Below.refl _ _).alloc (Nat.le_refl _) _
      have HV5 := Lib.hid (HV4.out.trans ((hb.mono HV4.out.size).trans (hbx.mono (Nat.le_trans HV4.out.size hb.size))))
      have HQ2 := Lib.hid (And.intro (lst_below hx1 hbx) (lst_below hx2 hbx))
      have HQ3 := Lib.hid (And.intro (lst_below (lst_below HQ1.out.1 hb) (hbx)) (lst_below (lst_below HQ1.out.2 hb) (hbx)))
      have h5 : w.heap.size < V5.heap.size ∧ V4.heap.size < V5.heap.size := by have := HZ4.out; have := hb.size; omega
      have HX5 := Lib.hid (boxC_k (boxC_k HX4.out (hb.block _ (by have := HZ4.out; omega))) (hbx.block _ h5.1))
      have HF5 := Lib.hid (boxF_k (boxF_k HF4.out (hb.block _ (by have := HZ4.out; omega))) (hbx.block _ h5.2))
      have HE5 := Lib.hid ((hbx.block _ h5.2).trans ((hb.block _ (by have := HZ4.out; omega)).trans HE4.out))
      have HG5 : Hid (BoxF V5.heap.size Y1 Y2 x.1.length x.2.length e1 e2 (V5.alloc (.cells #[.slice Y1 x.1.length e1, .slice Y2 x.2.length e2] 49))) := Lib.hid ⟨by simp, by simp⟩
      have HZ5 : Hid (w.heap.size < V4.heap.size ∧ V4.heap.size < V5.heap.size ∧ (V5.alloc (.cells #[.slice Y1 x.1.length e1, .slice Y2 x.2.length e2] 49)).heap.size = V5.heap.size + 1) := Lib.hid ⟨HZ4.out.1, h5.2, by simp⟩
      clear hb hx1 hx2 hbx HRB x0 x1 x2 x3 x4 x5 x6 x7 x8 x9 HX4 HV4 HF4 HZ4 HQ1 h5
      go_wp2_with fail
      refine wp_region_held_drew (S := S7 w.heap.size V4.heap.size V5.heap.size q c X1 x.1.length d1 X2 x.2.length d2 Y1 x.1.length e1 Y2 x.2.length e2) (by kernel_rfl) ⟨HX5.out, HF5.out, HG5.out⟩ (fun hS => ?_)
      have HD : Hid (Below w.heap.size w (V5.alloc (.cells #[.slice Y1 x.1.length e1, .slice Y2 x.2.length e2] 49)).drew ∧ (w.heap.size < V4.heap.size ∧ V4.heap.size < V5.heap.size ∧ (V5.alloc (.cells #[.slice Y1 x.1.length e1, .slice Y2 x.2.length e2] 49)).drew.heap.size = V5.heap.size + 1) ∧ (Lst intR (V5.alloc (.cells #[.slice Y1 x.1.length e1, .slice Y2 x.2.length e2] 49)).drew (fun _ => True) X1 d1 x.1 ∧ Lst intR (V5.alloc (.cells #[.slice Y1 x.1.length e1, .slice Y2 x.2.length e2] 49)).drew (fun _ => True) X2 d2 x.2) ∧ Lst intR (V5.alloc (.cells #[.slice Y1 x.1.length e1, .slice Y2 x.2.length e2] 49)).drew (fun _ => True) Y1 e1 x.1 ∧ Lst intR (V5.alloc (.cells #[.slice Y1 x.1.length e1, .slice Y2 x.2.length e2] 49)).drew (fun _ => True) Y2 e2 x.2) := Lib.hid ⟨HV5.out.drew, HZ5.out, ⟨lst_below HQ3.out.1 (Below.refl _ _).drew, lst_below HQ3.out.2 (Below.refl _ _).drew⟩, lst_below HQ2.out.1 (Below.refl _ _).drew, lst_below HQ2.out.2 (Below.refl _ _).drew⟩
      have HEV : Hid ((V5.alloc (.cells #[.slice Y1 x.1.length e1, .slice Y2 x.2.length e2] 49)).drew.heap[V4.heap.size]? = some (.cells #[.slice X1 x.1.length d1, .slice X2 x.2.length d2] 49 (0, 0))) := HE5
      clear HX5 HF5 HG5 HZ5 HQ2 HQ3 HV5 HE4 HE5
      generalize (V5.alloc (.cells #[.slice Y1 x.1.length e1, .slice Y2 x.2.length e2] 49)).drew = V at *
      have HS0 := Lib.hid hS
      have HSB : Hid (∀ u, Below V.heap.size V u → S7 w.heap.size V4.heap.size V5.heap.size q c X1 x.1.length d1 X2 x.2.length d2 Y1 x.1.length e1 Y2 x.2.length e2 u) := Lib.hid fun u hu => ⟨boxC_k HS0.out.1 (hu.block _ (by have := HD.out.2.1; omega)), boxF_k HS0.out.2.1 (hu.block _ (by have := HD.out.2.1; omega)), boxF_k HS0.out.2.2 (hu.block _ (by have := HD.out.2.1; omega))⟩
      have HSM : Hid (∀ u, Below V.heap.size V u → Calls Try.prog 18 #[.agg #[.slice X1 x.1.length d1, .slice X2 x.2.length d2], .agg #[.slice Y1 x.1.length e1, .slice Y2 x.2.length e2]] u (BoolIs u true)) := Lib.hid fun u hu => by
        have h := rsame_ft u x x (lst_below HD.out.2.2.1.1 hu) (lst_below HD.out.2.2.1.2 hu) (lst_below HD.out.2.2.2.1 hu) (lst_below HD.out.2.2.2.2 hu) HLX.out HLX.out
        simpa using h
      have HK1 : Hid (∀ u, Below V.heap.size V u → Calls Try.prog 19 #[.agg #[.slice q.A0 c.types.length q.d0, .slice q.A1 c.funcs.length q.d1, .slice q.A2 c.globs.length q.d2, .slice q.A3 c.tabs.length q.d3, .slice q.A4 c.mems.length q.d4, .int .i64 c.hosts, .int .i64 c.vars, .int .i64 c.els, .int .i64 c.dats, .bool c.counted], .slice A ln cc, .int .i64 v] u (BoolIs u kb)) := Lib.hid fun u hu => HKO.out u (HD.out.1.trans (hu.mono HD.out.1.size))
      have HK2 : Hid (∀ u, Below V.heap.size V u → Calls Try.prog 20 #[.agg #[.slice q.A0 c.types.length q.d0, .slice q.A1 c.funcs.length q.d1, .slice q.A2 c.globs.length q.d2, .slice q.A3 c.tabs.length q.d3, .slice q.A4 c.mems.length q.d4, .int .i64 c.hosts, .int .i64 c.vars, .int .i64 c.els, .int .i64 c.dats, .bool c.counted], .slice A ln cc, .int .i64 v] u (BoolIs u kb)) := Lib.hid fun u hu => HKR.out u (HD.out.1.trans (hu.mono HD.out.1.size))
      have HR0 := Lib.hid (Below.refl V.heap.size V)
      clear HKO HKR
      refine wpAnyH_take (i := 0) (oi := { dst := some 37, op := .move (.tmp 12), type := 4, pos := "law.go:46", after := #[], guard := none }) (v := ?_) rfl (by kernel_rfl) (by kernel_rfl) (by kernel_rfl) (fun _ _ _ h => h) (Or.inl ⟨by rfl, ?_⟩) hS ?_
      rotate_left
      · (intro w' hS'; obtain ⟨⟨s0, s1, s2, s3, s4, s5, s6, s7, s8, s9⟩, ⟨s10, s11⟩, s12, s13⟩ := hS'; go_simp) <;> with_reducible rfl
      try simp only [Act.put, List.setIfInBounds_toArray, List.set_cons_zero, List.set_cons_succ]
      refine wpAnyH_take (i := 1) (oi := { dst := some 38, op := .move (.tmp 14), type := 4, pos := "law.go:46", after := #[], guard := none }) (v := ?_) rfl (by kernel_rfl) (by kernel_rfl) (by kernel_rfl) (fun _ _ _ h => h) (Or.inl ⟨by rfl, ?_⟩) hS ?_
      rotate_left
      · (intro w' hS'; obtain ⟨⟨s0, s1, s2, s3, s4, s5, s6, s7, s8, s9⟩, ⟨s10, s11⟩, s12, s13⟩ := hS'; go_simp) <;> with_reducible rfl
      try simp only [Act.put, List.setIfInBounds_toArray, List.set_cons_zero, List.set_cons_succ]
      refine wpAnyH_take (i := 2) (oi := { dst := some 39, op := .binOp .neq 4 (.tmp 37) (.tmp 38) 4, type := 4, pos := "law.go:46", after := #[{ on := 0, ground := .data }, { on := 1, ground := .data }], guard := none }) (v := ?_) rfl (by kernel_rfl) (by kernel_rfl) (by kernel_rfl) (fun _ _ _ h => h) (Or.inl ⟨by rfl, ?_⟩) hS ?_
      rotate_left
      · (intro w' hS'; obtain ⟨⟨s0, s1, s2, s3, s4, s5, s6, s7, s8, s9⟩, ⟨s10, s11⟩, s12, s13⟩ := hS'; go_simp) <;> with_reducible rfl
      try simp only [Act.put, List.setIfInBounds_toArray, List.set_cons_zero, List.set_cons_succ]
      refine wpAnyH_take (i := 3) (oi := { dst := some 40, op := .move (.tmp 39), type := 4, pos := "law.go:46", after := #[{ on := 2, ground := .data }], guard := none }) (v := ?_) rfl (by kernel_rfl) (by kernel_rfl) (by kernel_rfl) (fun _ _ _ h => h) (Or.inl ⟨by rfl, ?_⟩) hS ?_
      rotate_left
      · (intro w' hS'; obtain ⟨⟨s0, s1, s2, s3, s4, s5, s6, s7, s8, s9⟩, ⟨s10, s11⟩, s12, s13⟩ := hS'; go_simp) <;> with_reducible rfl
      try simp only [Act.put, List.setIfInBounds_toArray, List.set_cons_zero, List.set_cons_succ]
      refine wpAnyH_take (i := 4) (oi := { dst := some 41, op := .load 49 (.tmp 11), type := 49, pos := "law.go:46", after := #[{ on := 3, ground := .guard }], guard := some (3, false) }) (v := ?_) rfl (by kernel_rfl) (by kernel_rfl) (by kernel_rfl) (fun _ _ _ h => h) (Or.inl ⟨by rfl, ?_⟩) hS ?_
      rotate_left
      · (intro w' hS'; obtain ⟨⟨s0, s1, s2, s3, s4, s5, s6, s7, s8, s9⟩, ⟨s10, s11⟩, s12, s13⟩ := hS'; go_simp) <;> with_reducible rfl
      try simp only [Act.put, List.setIfInBounds_toArray, List.set_cons_zero, List.set_cons_succ]
      refine wpAnyH_take (i := 5) (oi := { dst := some 42, op := .load 49 (.tmp 13), type := 49, pos := "law.go:46", after := #[{ on := 3, ground := .guard }], guard := some (3, false) }) (v := ?_) rfl (by kernel_rfl) (by kernel_rfl) (by kernel_rfl) (fun _ _ _ h => h) (Or.inl ⟨by rfl, ?_⟩) hS ?_
      rotate_left
      · (intro w' hS'; obtain ⟨⟨s0, s1, s2, s3, s4, s5, s6, s7, s8, s9⟩, ⟨s10, s11⟩, s12, s13⟩ := hS'; go_simp) <;> with_reducible rfl
      try simp only [Act.put, List.setIfInBounds_toArray, List.set_cons_zero, List.set_cons_succ]
      refine wpAnyH_ready (rs := [6]) (by kernel_rfl) (by simp) ?_
      refine AllReadyH.cons (o := { dst := some 43, op := .call { callee := .value (.func 18), args := #[.tmp 41, .tmp 42], argTypes := #[49, 49] }, type := 4, pos := "law.go:46", after := #[{ on := 4, ground := .data }, { on := 5, ground := .data }, { on := 3, ground := .chain }, { on := 3, ground := .guard }], guard := some (3, false) }) rfl (fun K' hK => ?_) (AllReadyH.nil)
      go_simp
      refine (HSM.out V HR0.out).mono ?_
      rintro en U1 ⟨rfl, hb⟩
      have HR1 := Lib.hid (HR0.out.trans (hb.mono HR0.out.size))
      have HT1 := Lib.hid (HSB.out U1 HR1.out)
      clear hb HR0
      go_wp2_with fail
      refine hK.out _ _ HT1.out (fun hS => ?_)
      clear hK K'
      try simp only [Act.put, List.setIfInBounds_toArray, List.set_cons_zero, List.set_cons_succ]
      refine wpAnyH_take (i := 7) (oi := { dst := some 44, op := .unOp .not 4 (.tmp 43), type := 4, pos := "law.go:46", after := #[{ on := 6, ground := .data }, { on := 3, ground := .guard }], guard := some (3, false) }) (v := ?_) rfl (by kernel_rfl) (by kernel_rfl) (by kernel_rfl) (fun _ _ _ h => h) (Or.inl ⟨by rfl, ?_⟩) hS ?_
      rotate_left
      · (intro w' hS'; obtain ⟨⟨s0, s1, s2, s3, s4, s5, s6, s7, s8, s9⟩, ⟨s10, s11⟩, s12, s13⟩ := hS'; go_simp) <;> with_reducible rfl
      try simp only [Act.put, List.setIfInBounds_toArray, List.set_cons_zero, List.set_cons_succ]
      refine wpAnyH_take (i := 8) (oi := { dst := some 45, op := .pick (.tmp 40) (.const (.bool true)) (.tmp 44), type := 4, pos := "law.go:46", after := #[{ on := 3, ground := .data }, { on := 7, ground := .data }], guard := none }) (v := ?_) rfl (by kernel_rfl) (by kernel_rfl) (by kernel_rfl) (fun _ _ _ h => h) (Or.inl ⟨by rfl, ?_⟩) hS ?_
      rotate_left
      · (intro w' hS'; obtain ⟨⟨s0, s1, s2, s3, s4, s5, s6, s7, s8, s9⟩, ⟨s10, s11⟩, s12, s13⟩ := hS'; go_simp) <;> with_reducible rfl
      try simp only [Act.put, List.setIfInBounds_toArray, List.set_cons_zero, List.set_cons_succ]
      refine wpAnyH_take (i := 9) (oi := { dst := some 46, op := .move (.tmp 45), type := 4, pos := "law.go:46", after := #[{ on := 8, ground := .data }, { on := 6, ground := .chain }], guard := none }) (v := ?_) rfl (by kernel_rfl) (by kernel_rfl) (by kernel_rfl) (fun _ _ _ h => h) (Or.inl ⟨by rfl, ?_⟩) hS ?_
      rotate_left
      · (intro w' hS'; obtain ⟨⟨s0, s1, s2, s3, s4, s5, s6, s7, s8, s9⟩, ⟨s10, s11⟩, s12, s13⟩ := hS'; go_simp) <;> with_reducible rfl
      try simp only [Act.put, List.setIfInBounds_toArray, List.set_cons_zero, List.set_cons_succ]
      refine wpAnyH_take (i := 10) (oi := { dst := some 47, op := .load 38 (.tmp 5), type := 38, pos := "law.go:46", after := #[{ on := 9, ground := .guard }], guard := some (9, false) }) (v := ?_) rfl (by kernel_rfl) (by kernel_rfl) (by kernel_rfl) (fun _ _ _ h => h) (Or.inl ⟨by rfl, ?_⟩) hS ?_
      rotate_left
      · (intro w' hS'; obtain ⟨⟨s0, s1, s2, s3, s4, s5, s6, s7, s8, s9⟩, ⟨s10, s11⟩, s12, s13⟩ := hS'; go_simp) <;> with_reducible rfl
      try simp only [Act.put, List.setIfInBounds_toArray, List.set_cons_zero, List.set_cons_succ]
      refine wpAnyH_take (i := 11) (oi := { dst := some 48, op := .move (.tmp 3), type := 45, pos := "law.go:46", after := #[{ on := 9, ground := .guard }], guard := some (9, false) }) (v := ?_) rfl (by kernel_rfl) (by kernel_rfl) (by kernel_rfl) (fun _ _ _ h => h) (Or.inl ⟨by rfl, ?_⟩) hS ?_
      rotate_left
      · (intro w' hS'; obtain ⟨⟨s0, s1, s2, s3, s4, s5, s6, s7, s8, s9⟩, ⟨s10, s11⟩, s12, s13⟩ := hS'; go_simp) <;> with_reducible rfl
      try simp only [Act.put, List.setIfInBounds_toArray, List.set_cons_zero, List.set_cons_succ]
      refine wpAnyH_take (i := 12) (oi := { dst := some 49, op := .move (.tmp 4), type := 3, pos := "law.go:46", after := #[{ on := 9, ground := .guard }], guard := some (9, false) }) (v := ?_) rfl (by kernel_rfl) (by kernel_rfl) (by kernel_rfl) (fun _ _ _ h => h) (Or.inl ⟨by rfl, ?_⟩) hS ?_
      rotate_left
      · (intro w' hS'; obtain ⟨⟨s0, s1, s2, s3, s4, s5, s6, s7, s8, s9⟩, ⟨s10, s11⟩, s12, s13⟩ := hS'; go_simp) <;> with_reducible rfl
      try simp only [Act.put, List.setIfInBounds_toArray, List.set_cons_zero, List.set_cons_succ]
      refine wpAnyH_take (i := 14) (oi := { dst := some 51, op := .load 38 (.tmp 5), type := 38, pos := "law.go:46", after := #[{ on := 9, ground := .guard }], guard := some (9, false) }) (v := ?_) rfl (by kernel_rfl) (by kernel_rfl) (by kernel_rfl) (fun _ _ _ h => h) (Or.inl ⟨by rfl, ?_⟩) hS ?_
      rotate_left
      · (intro w' hS'; obtain ⟨⟨s0, s1, s2, s3, s4, s5, s6, s7, s8, s9⟩, ⟨s10, s11⟩, s12, s13⟩ := hS'; go_simp) <;> with_reducible rfl
      try simp only [Act.put, List.setIfInBounds_toArray, List.set_cons_zero, List.set_cons_succ]
      refine wpAnyH_take (i := 15) (oi := { dst := some 52, op := .move (.tmp 3), type := 45, pos := "law.go:46", after := #[{ on := 9, ground := .guard }], guard := some (9, false) }) (v := ?_) rfl (by kernel_rfl) (by kernel_rfl) (by kernel_rfl) (fun _ _ _ h => h) (Or.inl ⟨by rfl, ?_⟩) hS ?_
      rotate_left
      · (intro w' hS'; obtain ⟨⟨s0, s1, s2, s3, s4, s5, s6, s7, s8, s9⟩, ⟨s10, s11⟩, s12, s13⟩ := hS'; go_simp) <;> with_reducible rfl
      try simp only [Act.put, List.setIfInBounds_toArray, List.set_cons_zero, List.set_cons_succ]
      refine wpAnyH_take (i := 16) (oi := { dst := some 53, op := .move (.tmp 4), type := 3, pos := "law.go:46", after := #[{ on := 9, ground := .guard }], guard := some (9, false) }) (v := ?_) rfl (by kernel_rfl) (by kernel_rfl) (by kernel_rfl) (fun _ _ _ h => h) (Or.inl ⟨by rfl, ?_⟩) hS ?_
      rotate_left
      · (intro w' hS'; obtain ⟨⟨s0, s1, s2, s3, s4, s5, s6, s7, s8, s9⟩, ⟨s10, s11⟩, s12, s13⟩ := hS'; go_simp) <;> with_reducible rfl
      try simp only [Act.put, List.setIfInBounds_toArray, List.set_cons_zero, List.set_cons_succ]
      refine wpAnyH_ready (rs := [13]) (by kernel_rfl) (by simp) ?_
      refine AllReadyH.cons (o := { dst := some 50, op := .call { callee := .value (.func 19), args := #[.tmp 47, .tmp 48, .tmp 49], argTypes := #[38, 45, 3] }, type := 4, pos := "law.go:46", after := #[{ on := 10, ground := .data }, { on := 11, ground := .data }, { on := 12, ground := .data }, { on := 9, ground := .chain }, { on := 9, ground := .guard }], guard := some (9, false) }) rfl (fun K' hK => ?_) (AllReadyH.nil)
      go_simp
      refine (HK1.out U1 HR1.out).mono ?_
      rintro en U2 ⟨rfl, hb⟩
      have HR2 := Lib.hid (HR1.out.trans (hb.mono HR1.out.size))
      have HT2 := Lib.hid (HSB.out U2 HR2.out)
      clear hb HR1
      go_wp2_with fail
      refine hK.out _ _ HT2.out (fun hS => ?_)
      clear hK K'
      try simp only [Act.put, List.setIfInBounds_toArray, List.set_cons_zero, List.set_cons_succ]
      refine wpAnyH_ready (rs := [17]) (by kernel_rfl) (by simp) ?_
      refine AllReadyH.cons (o := { dst := some 54, op := .call { callee := .value (.func 20), args := #[.tmp 51, .tmp 52, .tmp 53], argTypes := #[38, 45, 3] }, type := 4, pos := "law.go:46", after := #[{ on := 14, ground := .data }, { on := 15, ground := .data }, { on := 16, ground := .data }, { on := 13, ground := .chain }, { on := 9, ground := .guard }], guard := some (9, false) }) rfl (fun K' hK => ?_) (AllReadyH.nil)
      go_simp
      refine (HK2.out U2 HR2.out).mono ?_
      rintro en U3 ⟨rfl, hb⟩
      have HR3 := Lib.hid (HR2.out.trans (hb.mono HR2.out.size))
      have HT3 := Lib.hid (HSB.out U3 HR3.out)
      clear hb HR2
      go_wp2_with fail
      refine hK.out _ _ HT3.out (fun hS => ?_)
      clear hK K'
      try simp only [Act.put, List.setIfInBounds_toArray, List.set_cons_zero, List.set_cons_succ]
      refine wpAnyH_take (i := 18) (oi := { dst := some 55, op := .binOp .neq 4 (.tmp 50) (.tmp 54) 4, type := 4, pos := "law.go:46", after := #[{ on := 13, ground := .data }, { on := 17, ground := .data }, { on := 9, ground := .guard }], guard := some (9, false) }) (v := ?_) rfl (by kernel_rfl) (by kernel_rfl) (by kernel_rfl) (fun _ _ _ h => h) (Or.inl ⟨by rfl, ?_⟩) hS ?_
      rotate_left
      · (intro w' hS'; obtain ⟨⟨s0, s1, s2, s3, s4, s5, s6, s7, s8, s9⟩, ⟨s10, s11⟩, s12, s13⟩ := hS'; go_simp) <;> with_reducible rfl
      try simp only [Act.put, List.setIfInBounds_toArray, List.set_cons_zero, List.set_cons_succ]
      refine wpAnyH_take (i := 19) (oi := { dst := some 56, op := .pick (.tmp 46) (.const (.bool true)) (.tmp 55), type := 4, pos := "law.go:46", after := #[{ on := 9, ground := .data }, { on := 18, ground := .data }], guard := none }) (v := ?_) rfl (by kernel_rfl) (by kernel_rfl) (by kernel_rfl) (fun _ _ _ h => h) (Or.inl ⟨by rfl, ?_⟩) hS ?_
      rotate_left
      · (intro w' hS'; obtain ⟨⟨s0, s1, s2, s3, s4, s5, s6, s7, s8, s9⟩, ⟨s10, s11⟩, s12, s13⟩ := hS'; go_simp) <;> with_reducible rfl
      try simp only [Act.put, List.setIfInBounds_toArray, List.set_cons_zero, List.set_cons_succ]
      refine wpAnyH_done (by kernel_rfl) ?_ _
      have HV3 := Lib.hid (HD.out.1.trans (HR3.out.mono HD.out.1.size))
      have HE3 := Lib.hid ((HR3.out.block _ (by have := HD.out.2.1; omega)).trans HEV.out)
      have HX3 := Lib.hid HT3.out.1
      have HZ3 : Hid (w.heap.size < V4.heap.size ∧ V4.heap.size < U3.heap.size) := Lib.hid (by have := HD.out.2.1; have := HR3.out.size; omega)
      clear HSM HK1 HK2 HSB HS0 HT1 HT2 HT3 HR3 HEV HLX hS HD
      obtain ⟨x0, x1, x2, x3, x4, x5, x6, x7, x8, x9⟩ := HX3.out
      go_wp2_with fail
      refine (HTY.out U3 HV3.out HF.out.1).mono ?_
      rintro en U4 ⟨Z1, g1, Z2, g2, rfl, hz1, hz2, hb⟩
      have HYL : Hid ((fnTy c f).1.length ≤ 100000 ∧ (fnTy c f).2.length ≤ 100000) := Lib.hid (fnTy_len HF.out.1 f)
      obtain ⟨y, hy⟩ : ∃ y, fnTy c f = y := ⟨_, rfl⟩
      obtain ⟨hh, hhy⟩ : ∃ b, hasTy c f = b := ⟨_, rfl⟩
      have HY := Lib.hid hy
      have HH := Lib.hid hhy
      rw [hy] at hz1 hz2 HYL ⊢
      rw [hhy]
      clear hy hhy
      have HE4 := (hb.block _ HZ3.out.2).trans HE3.out
      have q0 : U4.cell? ⟨V4.heap.size, 0, none⟩ = some (.slice X1 x.1.length d1) := (blk_cell HE4 0).trans rfl
      have q1 : U4.cell? ⟨V4.heap.size, 1, none⟩ = some (.slice X2 x.2.length d2) := (blk_cell HE4 1).trans rfl
      have z0 := blk_free HE4 0
      have z1 := blk_free HE4 1
      have HFR : Hid (∀ b, b ≠ V4.heap.size → ((U4.setCell ⟨V4.heap.size, 0, none⟩ (.slice Z1 y.1.length g1)).setCell ⟨V4.heap.size, 1, none⟩ (.slice Z2 y.2.length g2)).heap[b]? = U4.heap[b]?) := Lib.hid fun b hb => by rw [far_set (fun e => hb e.symm), far_set (fun e => hb e.symm)]
      have hx := blk_set (blk_set HE4 0 (.slice Z1 y.1.length g1)) 1 (.slice Z2 y.2.length g2)
      simp only [List.setIfInBounds_toArray, List.set_cons_zero, List.set_cons_succ] at hx
      have HE5 := Lib.hid hx
      have HU5 : Hid (Below w.heap.size w ((U4.setCell ⟨V4.heap.size, 0, none⟩ (.slice Z1 y.1.length g1)).setCell ⟨V4.heap.size, 1, none⟩ (.slice Z2 y.2.length g2))) := Lib.hid (HV3.out.trans ((hb.mono HV3.out.size).trans ⟨rfl, rfl, rfl, by simp, fun b hb => HFR.out b (by have := HZ3.out; omega)⟩))
      have HX5 : Hid (BoxC w.heap.size ((U4.setCell ⟨V4.heap.size, 0, none⟩ (.slice Z1 y.1.length g1)).setCell ⟨V4.heap.size, 1, none⟩ (.slice Z2 y.2.length g2)) q c) := Lib.hid (boxC_k HX3.out ((HFR.out _ (by have := HZ3.out; omega)).trans (hb.block _ (by have := HZ3.out; omega))))
      have HZL : Hid (Lst intR ((U4.setCell ⟨V4.heap.size, 0, none⟩ (.slice Z1 y.1.length g1)).setCell ⟨V4.heap.size, 1, none⟩ (.slice Z2 y.2.length g2)) (fun _ => True) Z1 g1 y.1 ∧ Lst intR ((U4.setCell ⟨V4.heap.size, 0, none⟩ (.slice Z1 y.1.length g1)).setCell ⟨V4.heap.size, 1, none⟩ (.slice Z2 y.2.length g2)) (fun _ => True) Z2 g2 y.2) := Lib.hid ⟨hz1.keep fun b h1 _ => ⟨HFR.out b (by have := HZ3.out; omega), trivial⟩, hz2.keep fun b h1 _ => ⟨HFR.out b (by have := HZ3.out; omega), trivial⟩⟩
      clear hb hz1 hz2 HTY hx HE3 HE4 HX3 HV3 x0 x1 x2 x3 x4 x5 x6 x7 x8 x9 HFR
      go_wp2_with fail
      clear q0 q1 z0 z1
      generalize ((U4.setCell ⟨V4.heap.size, 0, none⟩ (.slice Z1 y.1.length g1)).setCell ⟨V4.heap.size, 1, none⟩ (.slice Z2 y.2.length g2)) = U5 at *
      obtain ⟨x0, x1, -, -, -, -, -, -, -, -⟩ := HX5.out
      have w0 : U5.cell? ⟨V4.heap.size, 0, none⟩ = some (.slice Z1 y.1.length g1) := (blk_cell HE5.out 0).trans rfl
      have w1 : U5.cell? ⟨V4.heap.size, 1, none⟩ = some (.slice Z2 y.2.length g2) := (blk_cell HE5.out 1).trans rfl
      cases hh with
      | false =>
        have hyn : y = ([], []) := by rw [← HY.out]; exact fnTy_no HH.out
        have HSN : Hid (∀ U, Below U5.heap.size U5 U → Calls Try.prog 18 #[.agg #[.slice Z1 y.1.length g1, .slice Z2 y.2.length g2], .agg #[.slice none 0 0, .slice none 0 0]] U (BoolIs U true)) := Lib.hid fun U hU => by
          have h := rsame_ft U y ([], []) (lst_below HZL.out.1 hU) (lst_below HZL.out.2 hU) (lst_none intR U (fun _ => True)) (lst_none intR U (fun _ => True)) HYL.out (by simp)
          have e : decide (y.1 = (([], []) : GFt).1 ∧ y.2 = (([], []) : GFt).2) = true := by rw [hyn]; rfl
          rw [e] at h
          exact h
        clear hyn
        by_cases f0 : f < 0
        · go_quiet (fail)
          have hU : Below U5.heap.size U5 (U5.drewN nq) := ⟨rfl, rfl, rfl, Nat.le_refl _, fun _ _ => rfl⟩
          have v0 : (U5.drewN nq).cell? ⟨V4.heap.size, 0, none⟩ = some (.slice Z1 y.1.length g1) := w0
          have v1 : (U5.drewN nq).cell? ⟨V4.heap.size, 1, none⟩ = some (.slice Z2 y.2.length g2) := w1
          have HU6 := Lib.hid hU
          clear w0 w1 hU
          generalize U5.drewN nq = U6 at *
          go_wp2_with fail
          refine (HSN.out U6 HU6.out).mono ?_
          rintro en U7 ⟨rfl, hb⟩
          have HZ7 := Lib.hid (HU5.out.trans ((HU6.out.mono HU5.out.size).trans (hb.mono (Nat.le_trans HU5.out.size HU6.out.size))))
          go_wp2
          go_ret
          exact ⟨rfl, HZ7.out⟩
        by_cases f1 : (c.funcs.length : Int) ≤ f
        · go_quiet (fail)
          have hU : Below U5.heap.size U5 (U5.drewN nq) := ⟨rfl, rfl, rfl, Nat.le_refl _, fun _ _ => rfl⟩
          have v0 : (U5.drewN nq).cell? ⟨V4.heap.size, 0, none⟩ = some (.slice Z1 y.1.length g1) := w0
          have v1 : (U5.drewN nq).cell? ⟨V4.heap.size, 1, none⟩ = some (.slice Z2 y.2.length g2) := w1
          have HU6 := Lib.hid hU
          clear w0 w1 hU
          generalize U5.drewN nq = U6 at *
          go_wp2_with fail
          refine (HSN.out U6 HU6.out).mono ?_
          rintro en U7 ⟨rfl, hb⟩
          have HZ7 := Lib.hid (HU5.out.trans ((HU6.out.mono HU5.out.size).trans (hb.mono (Nat.le_trans HU5.out.size HU6.out.size))))
          go_wp2
          go_ret
          exact ⟨rfl, HZ7.out⟩
        obtain ⟨k, rfl⟩ : ∃ k : Nat, f = (k : Int) := ⟨f.toNat, by omega⟩
        have hk : k < c.funcs.length := by omega
        have hki : (k : Int) < (c.funcs.length : Int) := by omega
        have hin : inB c.funcs[k] c.types.length = false := by
          have h := HH.out
          unfold hasTy at h
          rw [inB_iff.2 ⟨k, rfl, hk⟩, getD_at _ _ k hk, Bool.true_and] at h
          exact h
        obtain ⟨b, off, hA, h1⟩ := sm_int HL.out.l1 k hk
        have y0 := h1 U5 HU5.out
        rw [hA] at x1
        clear h1 hA
        generalize c.funcs[k] = fk at *
        by_cases f2 : fk < 0
        · go_quiet (fail)
          have hU : Below U5.heap.size U5 (U5.drewN nq) := ⟨rfl, rfl, rfl, Nat.le_refl _, fun _ _ => rfl⟩
          have v0 : (U5.drewN nq).cell? ⟨V4.heap.size, 0, none⟩ = some (.slice Z1 y.1.length g1) := w0
          have v1 : (U5.drewN nq).cell? ⟨V4.heap.size, 1, none⟩ = some (.slice Z2 y.2.length g2) := w1
          have HU6 := Lib.hid hU
          clear w0 w1 hU
          generalize U5.drewN nq = U6 at *
          go_wp2_with fail
          refine (HSN.out U6 HU6.out).mono ?_
          rintro en U7 ⟨rfl, hb⟩
          have HZ7 := Lib.hid (HU5.out.trans ((HU6.out.mono HU5.out.size).trans (hb.mono (Nat.le_trans HU5.out.size HU6.out.size))))
          go_wp2
          go_ret
          exact ⟨rfl, HZ7.out⟩
        have f3 : (c.types.length : Int) ≤ fk := by
          unfold inB at hin
          simp only [Bool.and_eq_false_iff, decide_eq_false_iff_not] at hin
          omega
        go_quiet (fail)
        have hU : Below U5.heap.size U5 (U5.drewN nq) := ⟨rfl, rfl, rfl, Nat.le_refl _, fun _ _ => rfl⟩
        have v0 : (U5.drewN nq).cell? ⟨V4.heap.size, 0, none⟩ = some (.slice Z1 y.1.length g1) := w0
        have v1 : (U5.drewN nq).cell? ⟨V4.heap.size, 1, none⟩ = some (.slice Z2 y.2.length g2) := w1
        have HU6 := Lib.hid hU
        clear w0 w1 hU
        generalize U5.drewN nq = U6 at *
        go_wp2_with fail
        refine (HSN.out U6 HU6.out).mono ?_
        rintro en U7 ⟨rfl, hb⟩
        have HZ7 := Lib.hid (HU5.out.trans ((HU6.out.mono HU5.out.size).trans (hb.mono (Nat.le_trans HU5.out.size HU6.out.size))))
        go_wp2
        go_ret
        exact ⟨rfl, HZ7.out⟩
      | true =>
        have hin := HH.out
        unfold hasTy at hin
        rw [Bool.and_eq_true] at hin
        obtain ⟨k, rfl, hk⟩ := inB_iff.1 hin.1
        have hki : (k : Int) < (c.funcs.length : Int) := by omega
        have hin2 := hin.2
        rw [getD_at _ _ k hk] at hin2
        have hty : y = tyAt c.types c.funcs[k] := by rw [← HY.out]; unfold fnTy; rw [hin.1, getD_at _ _ k hk]; rfl
        obtain ⟨b, off, hA, h1⟩ := sm_int HL.out.l1 k hk
        have y0 := h1 U5 HU5.out
        have hb1 := cell_lt (h1 w (Below.refl _ _))
        rw [hA] at x1
        clear h1 hA hin
        generalize c.funcs[k] = fk at *
        obtain ⟨j, rfl, hj⟩ := inB_iff.1 hin2
        have hji : (j : Int) < (c.types.length : Int) := by omega
        have hyj : y = c.types[j] := by rw [hty]; unfold tyAt; rw [hin2]; exact getD_at _ _ j hj
        obtain ⟨b0, off0, T1, u1, T2, u2, hA0, h0⟩ := sm_ft HL.out.l0 j hj
        obtain ⟨y1, y2, l1, l2⟩ := h0 U5 HU5.out
        rw [hA0] at x0
        rw [← hyj] at y1 y2 l1 l2
        have hb0 := cell_lt (h0 w (Below.refl _ _)).1
        have HBN : Hid (b < w.heap.size ∧ b0 < w.heap.size ∧ w.heap.size < V4.heap.size ∧ V4.heap.size < U5.heap.size) := Lib.hid ⟨hb1, hb0, HZ3.out.1, by have h := cell_lt w0; exact h⟩
        have HSY : Hid (∀ U, Below U5.heap.size U5 U → Calls Try.prog 18 #[.agg #[.slice Z1 y.1.length g1, .slice Z2 y.2.length g2], .agg #[.slice T1 y.1.length u1, .slice T2 y.2.length u2]] U (BoolIs U true)) := Lib.hid fun U hU => by
          have h := rsame_ft U y y (lst_below HZL.out.1 hU) (lst_below HZL.out.2 hU) (lst_below l1 hU) (lst_below l2 hU) HYL.out HYL.out
          simpa using h
        clear h0 hA0 l1 l2 hb1 hb0 hty hyj hin2 HY HH HZL
        have n1 : ¬ (k : Int) < 0 := by omega
        have n2 : ¬ (c.funcs.length : Int) ≤ (k : Int) := by omega
        have n3 : ¬ (j : Int) < 0 := by omega
        have n4 : ¬ (c.types.length : Int) ≤ (j : Int) := by omega
        go_quiet (fail)
        have hU : Below U5.heap.size U5 (U5.drewN nq) := ⟨rfl, rfl, rfl, Nat.le_refl _, fun _ _ => rfl⟩
        have HS12 : Hid (S12 V4.heap.size w.heap.size b b0 (off + k) (off0 + j * 2) (some ⟨b0, off0, none⟩) c.types.length q.d0 (some ⟨b, off, none⟩) c.funcs.length q.d1 (j : Int) Z1 y.1.length g1 Z2 y.2.length g2 T1 y.1.length u1 T2 y.2.length u2 (U5.drewN nq)) := Lib.hid ⟨w0, w1, x0, x1, y0, y1, y2⟩
        have HU6 := Lib.hid hU
        clear w0 w1 hU x0 x1 y0 y1 y2
        generalize U5.drewN nq = U6 at *
        go_wp2_with fail
        refine wp_region_held_drew (S := S12 V4.heap.size w.heap.size b b0 (off + k) (off0 + j * 2) (some ⟨b0, off0, none⟩) c.types.length q.d0 (some ⟨b, off, none⟩) c.funcs.length q.d1 (j : Int) Z1 y.1.length g1 Z2 y.2.length g2 T1 y.1.length u1 T2 y.2.length u2) (by kernel_rfl) HS12.out (fun hS => ?_)
        have HU7 : Hid (Below U5.heap.size U5 U6.drew) := Lib.hid HU6.out.drew
        generalize U6.drew = U7 at *
        have HS7 := Lib.hid hS
        have HSB : Hid (∀ u, Below U5.heap.size U7 u → S12 V4.heap.size w.heap.size b b0 (off + k) (off0 + j * 2) (some ⟨b0, off0, none⟩) c.types.length q.d0 (some ⟨b, off, none⟩) c.funcs.length q.d1 (j : Int) Z1 y.1.length g1 Z2 y.2.length g2 T1 y.1.length u1 T2 y.2.length u2 u) := Lib.hid fun u hu => s12_keep HS7.out (hu.block _ (by have := HBN.out; omega)) (hu.block _ (by have := HBN.out; omega)) (hu.block _ (by have := HBN.out; omega)) (hu.block _ (by have := HBN.out; omega))
        refine wpAnyH_take (i := 0) (oi := { dst := some 98, op := .move (.tmp 12), type := 4, pos := "law.go:53", after := #[], guard := none }) (v := ?_) rfl (by kernel_rfl) (by kernel_rfl) (by kernel_rfl) (fun _ _ _ h => h) (Or.inl ⟨by rfl, ?_⟩) hS ?_
        rotate_left
        · (intro w' hS'; obtain ⟨s0, s1, s2, s3, s4, s5, s6⟩ := hS'; go_simp) <;> with_reducible rfl
        try simp only [Act.put, List.setIfInBounds_toArray, List.set_cons_zero, List.set_cons_succ]
        refine wpAnyH_take (i := 1) (oi := { dst := some 99, op := .move (.tmp 98), type := 4, pos := "law.go:53", after := #[{ on := 0, ground := .data }], guard := none }) (v := ?_) rfl (by kernel_rfl) (by kernel_rfl) (by kernel_rfl) (fun _ _ _ h => h) (Or.inl ⟨by rfl, ?_⟩) hS ?_
        rotate_left
        · (intro w' hS'; obtain ⟨s0, s1, s2, s3, s4, s5, s6⟩ := hS'; go_simp) <;> with_reducible rfl
        try simp only [Act.put, List.setIfInBounds_toArray, List.set_cons_zero, List.set_cons_succ]
        refine wpAnyH_take (i := 2) (oi := { dst := some 100, op := .load 49 (.tmp 11), type := 49, pos := "law.go:53", after := #[{ on := 1, ground := .guard }], guard := some (1, true) }) (v := ?_) rfl (by kernel_rfl) (by kernel_rfl) (by kernel_rfl) (fun _ _ _ h => h) (Or.inl ⟨by rfl, ?_⟩) hS ?_
        rotate_left
        · (intro w' hS'; obtain ⟨s0, s1, s2, s3, s4, s5, s6⟩ := hS'; go_simp) <;> with_reducible rfl
        try simp only [Act.put, List.setIfInBounds_toArray, List.set_cons_zero, List.set_cons_succ]
        refine wpAnyH_take (i := 3) (oi := { dst := some 101, op := .fieldAddr 38 (.tmp 5) 0, type := 0, pos := "law.go:53", after := #[{ on := 1, ground := .guard }], guard := some (1, true) }) (v := ?_) rfl (by kernel_rfl) (by kernel_rfl) (by kernel_rfl) (fun _ _ _ h => h) (Or.inl ⟨by rfl, ?_⟩) hS ?_
        rotate_left
        · (intro w' hS'; obtain ⟨s0, s1, s2, s3, s4, s5, s6⟩ := hS'; go_simp) <;> with_reducible rfl
        try simp only [Act.put, List.setIfInBounds_toArray, List.set_cons_zero, List.set_cons_succ]
        refine wpAnyH_take (i := 4) (oi := { dst := some 102, op := .load 22 (.tmp 101), type := 22, pos := "law.go:53", after := #[{ on := 3, ground := .data }, { on := 1, ground := .guard }], guard := some (1, true) }) (v := ?_) rfl (by kernel_rfl) (by kernel_rfl) (by kernel_rfl) (fun _ _ _ h => h) (Or.inl ⟨by rfl, ?_⟩) hS ?_
        rotate_left
        · (intro w' hS'; obtain ⟨s0, s1, s2, s3, s4, s5, s6⟩ := hS'; go_simp) <;> with_reducible rfl
        try simp only [Act.put, List.setIfInBounds_toArray, List.set_cons_zero, List.set_cons_succ]
        refine wpAnyH_take (i := 5) (oi := { dst := some 103, op := .fieldAddr 38 (.tmp 5) 1, type := 0, pos := "law.go:53", after := #[{ on := 1, ground := .guard }], guard := some (1, true) }) (v := ?_) rfl (by kernel_rfl) (by kernel_rfl) (by kernel_rfl) (fun _ _ _ h => h) (Or.inl ⟨by rfl, ?_⟩) hS ?_
        rotate_left
        · (intro w' hS'; obtain ⟨s0, s1, s2, s3, s4, s5, s6⟩ := hS'; go_simp) <;> with_reducible rfl
        try simp only [Act.put, List.setIfInBounds_toArray, List.set_cons_zero, List.set_cons_succ]
        refine wpAnyH_take (i := 6) (oi := { dst := some 104, op := .load 28 (.tmp 103), type := 28, pos := "law.go:53", after := #[{ on := 5, ground := .data }, { on := 1, ground := .guard }], guard := some (1, true) }) (v := ?_) rfl (by kernel_rfl) (by kernel_rfl) (by kernel_rfl) (fun _ _ _ h => h) (Or.inl ⟨by rfl, ?_⟩) hS ?_
        rotate_left
        · (intro w' hS'; obtain ⟨s0, s1, s2, s3, s4, s5, s6⟩ := hS'; go_simp) <;> with_reducible rfl
        try simp only [Act.put, List.setIfInBounds_toArray, List.set_cons_zero, List.set_cons_succ]
        refine wpAnyH_take (i := 7) (oi := { dst := some 105, op := .move (.tmp 1), type := 3, pos := "law.go:53", after := #[{ on := 1, ground := .guard }], guard := some (1, true) }) (v := ?_) rfl (by kernel_rfl) (by kernel_rfl) (by kernel_rfl) (fun _ _ _ h => h) (Or.inl ⟨by rfl, ?_⟩) hS ?_
        rotate_left
        · (intro w' hS'; obtain ⟨s0, s1, s2, s3, s4, s5, s6⟩ := hS'; go_simp) <;> with_reducible rfl
        try simp only [Act.put, List.setIfInBounds_toArray, List.set_cons_zero, List.set_cons_succ]
        refine wpAnyH_take (i := 8) (oi := { dst := some 106, op := .indexAddr 28 (.tmp 104) (.tmp 105), type := 0, pos := "law.go:53", after := #[{ on := 6, ground := .data }, { on := 7, ground := .data }, { on := 1, ground := .guard }], guard := some (1, true) }) (v := ?_) rfl (by kernel_rfl) (by kernel_rfl) (by kernel_rfl) (fun _ _ _ h => h) (Or.inl ⟨by rfl, ?_⟩) hS ?_
        rotate_left
        · (intro w' hS'; obtain ⟨s0, s1, s2, s3, s4, s5, s6⟩ := hS'; go_simp) <;> with_reducible rfl
        try simp only [Act.put, List.setIfInBounds_toArray, List.set_cons_zero, List.set_cons_succ]
        refine wpAnyH_take (i := 9) (oi := { dst := some 107, op := .load 3 (.tmp 106), type := 3, pos := "law.go:53", after := #[{ on := 8, ground := .data }, { on := 1, ground := .guard }], guard := some (1, true) }) (v := ?_) rfl (by kernel_rfl) (by kernel_rfl) (by kernel_rfl) (fun _ _ _ h => h) (Or.inl ⟨by rfl, ?_⟩) hS ?_
        rotate_left
        · (intro w' hS'; obtain ⟨s0, s1, s2, s3, s4, s5, s6⟩ := hS'; go_simp) <;> with_reducible rfl
        try simp only [Act.put, List.setIfInBounds_toArray, List.set_cons_zero, List.set_cons_succ]
        refine wpAnyH_take (i := 10) (oi := { dst := some 108, op := .indexAddr 22 (.tmp 102) (.tmp 107), type := 0, pos := "law.go:53", after := #[{ on := 4, ground := .data }, { on := 9, ground := .data }, { on := 1, ground := .guard }], guard := some (1, true) }) (v := ?_) rfl (by kernel_rfl) (by kernel_rfl) (by kernel_rfl) (fun _ _ _ h => h) (Or.inl ⟨by rfl, ?_⟩) hS ?_
        rotate_left
        · (intro w' hS'; obtain ⟨s0, s1, s2, s3, s4, s5, s6⟩ := hS'; go_simp) <;> with_reducible rfl
        try simp only [Act.put, List.setIfInBounds_toArray, List.set_cons_zero, List.set_cons_succ]
        refine wpAnyH_take (i := 11) (oi := { dst := some 109, op := .load 49 (.tmp 108), type := 49, pos := "law.go:53", after := #[{ on := 10, ground := .data }, { on := 1, ground := .guard }], guard := some (1, true) }) (v := ?_) rfl (by kernel_rfl) (by kernel_rfl) (by kernel_rfl) (fun _ _ _ h => h) (Or.inl ⟨by rfl, ?_⟩) hS ?_
        rotate_left
        · (intro w' hS'; obtain ⟨s0, s1, s2, s3, s4, s5, s6⟩ := hS'; go_simp) <;> with_reducible rfl
        try simp only [Act.put, List.setIfInBounds_toArray, List.set_cons_zero, List.set_cons_succ]
        refine wpAnyH_ready (rs := [12]) (by kernel_rfl) (by simp) ?_
        refine AllReadyH.cons (o := { dst := some 110, op := .call { callee := .value (.func 18), args := #[.tmp 100, .tmp 109], argTypes := #[49, 49] }, type := 4, pos := "law.go:53", after := #[{ on := 2, ground := .data }, { on := 11, ground := .data }, { on := 1, ground := .chain }, { on := 1, ground := .guard }], guard := some (1, true) }) rfl (fun K' hK => ?_) (AllReadyH.nil)
        go_simp
        refine (HSY.out U7 HU7.out).mono ?_
        rintro en U8 ⟨rfl, hb⟩
        have HZ8 := Lib.hid (HU5.out.trans ((HU7.out.mono HU5.out.size).trans (hb.mono (Nat.le_trans HU5.out.size HU7.out.size))))
        have HT8 := Lib.hid (HSB.out U8 (hb.mono HU7.out.size))
        clear hb
        go_wp2_with fail
        refine hK.out _ _ HT8.out (fun hS => ?_)
        clear hK K'
        try simp only [Act.put, List.setIfInBounds_toArray, List.set_cons_zero, List.set_cons_succ]
        refine wpAnyH_take (i := 13) (oi := { dst := some 111, op := .pick (.tmp 99) (.tmp 110) (.const (.bool false)), type := 4, pos := "law.go:53", after := #[{ on := 1, ground := .data }, { on := 12, ground := .data }], guard := none }) (v := ?_) rfl (by kernel_rfl) (by kernel_rfl) (by kernel_rfl) (fun _ _ _ h => h) (Or.inl ⟨by rfl, ?_⟩) hS ?_
        rotate_left
        · (intro w' hS'; obtain ⟨s0, s1, s2, s3, s4, s5, s6⟩ := hS'; go_simp) <;> with_reducible rfl
        try simp only [Act.put, List.setIfInBounds_toArray, List.set_cons_zero, List.set_cons_succ]
        refine wpAnyH_take (i := 14) (oi := { dst := some 10, op := .assign (.tmp 111), type := 4, pos := "law.go:53", after := #[{ on := 13, ground := .data }, { on := 12, ground := .chain }, { on := 0, ground := .phase }, { on := 1, ground := .phase }, { on := 2, ground := .phase }, { on := 3, ground := .phase }, { on := 4, ground := .phase }, { on := 5, ground := .phase }, { on := 6, ground := .phase }, { on := 7, ground := .phase }, { on := 8, ground := .phase }, { on := 9, ground := .phase }, { on := 10, ground := .phase }, { on := 11, ground := .phase }, { on := 12, ground := .phase }, { on := 13, ground := .phase }], guard := none }) (v := ?_) rfl (by kernel_rfl) (by kernel_rfl) (by kernel_rfl) (fun _ _ _ h => h) (Or.inl ⟨by rfl, ?_⟩) hS ?_
        rotate_left
        · (intro w' hS'; obtain ⟨s0, s1, s2, s3, s4, s5, s6⟩ := hS'; go_simp) <;> with_reducible rfl
        try simp only [Act.put, List.setIfInBounds_toArray, List.set_cons_zero, List.set_cons_succ]
        refine wpAnyH_done (by kernel_rfl) ?_ _
        go_wp2
        go_ret
        exact ⟨rfl, HZ8.out⟩
end Go.Proofs.Ytjajepeggphnbaa.Cx
