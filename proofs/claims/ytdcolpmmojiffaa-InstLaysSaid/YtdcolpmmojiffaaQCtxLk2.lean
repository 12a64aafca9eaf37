/-
  CtxLk2: ctx.numbered, Type, Block, Constant, and the methods of looker that call them. Conditions: the context lies in memory. (Written by wip/tools/genctxlk2.py.)
-/
import Derived.Test.YtdcolpmmojiffaaQCtxLk1
import Derived.Test.YtdcolpmmojiffaaQCtxAnew
import Derived.Deep.RegionHeld
namespace Go.Proofs.Ytdcolpmmojiffaa.Cx
open Go.RowKit Leb
open _root_.Go.Proofs.Ytdcolpmmojiffaa.Mod

theorem inB_iff {k : Int} {n : Nat} : inB k n = true ↔ ∃ j : Nat, k = (j : Int) ∧ j < n := by
  unfold inB
  rw [Bool.and_eq_true, decide_eq_true_eq, decide_eq_true_eq]
  constructor
  · intro h; exact ⟨k.toNat, by omega, by omega⟩
  · rintro ⟨j, rfl, h⟩; omega
theorem getD_at {α : Type} (l : List α) (d : α) (k : Nat) (hk : k < l.length) : l.getD ((k : Nat) : Int).toNat d = l[k] := by
  simp [hk]
theorem heap2 (w : World) (o : Obj) (cs : Array Value) (t : TypeId) : ((w.alloc o).alloc (.cells cs t)).heap[w.heap.size + 1]? = some (.cells cs t (0, 0)) := by
  have h := heap_alloc_new (w.alloc o) (.cells cs t)
  have e : (w.alloc o).heap.size = w.heap.size + 1 := by simp
  rw [e] at h
  exact h
def TyIs (w : World) (b : Bool) (x : GFt) (en : Ending) (w' : World) : Prop := ∃ B1 d1 B2 d2, en = .returned (.tuple #[.agg #[.slice B1 x.1.length d1, .slice B2 x.2.length d2], .bool b]) ∧ Lst intR w' (fun b => w.heap.size ≤ b) B1 d1 x.1 ∧ Lst intR w' (fun b => w.heap.size ≤ b) B2 d2 x.2 ∧ Below w.heap.size w w'
def FtS (c : GCtx) : Prop := ∀ x ∈ c.types, x.1.length ≤ 100000 ∧ x.2.length ≤ 100000
def BoxC (b : Nat) (V : World) (q : Plc) (c : GCtx) : Prop := V.cell? ⟨b, 0, none⟩ = some (.slice q.A0 c.types.length q.d0) ∧ V.cell? ⟨b, 1, none⟩ = some (.slice q.A1 c.funcs.length q.d1) ∧ V.cell? ⟨b, 2, none⟩ = some (.slice q.A2 c.globs.length q.d2) ∧ V.cell? ⟨b, 3, none⟩ = some (.slice q.A3 c.tabs.length q.d3) ∧ V.cell? ⟨b, 4, none⟩ = some (.slice q.A4 c.mems.length q.d4) ∧ V.cell? ⟨b, 5, none⟩ = some (.int .i64 c.hosts) ∧ V.cell? ⟨b, 6, none⟩ = some (.int .i64 c.vars) ∧ V.cell? ⟨b, 7, none⟩ = some (.int .i64 c.els) ∧ V.cell? ⟨b, 8, none⟩ = some (.int .i64 c.dats) ∧ V.cell? ⟨b, 9, none⟩ = some (.bool c.counted)
section
variable (q : Plc) (c : GCtx) (w : World) {ok : Nat → Prop}
set_option maxRecDepth 100000 in
set_option maxHeartbeats 4000000 in
theorem numbered_any (hl : CtxL w ok q c) (hf : FtS c) (t : Int) : Calls Try.prog 68 #[.agg #[.slice q.A0 c.types.length q.d0, .slice q.A1 c.funcs.length q.d1, .slice q.A2 c.globs.length q.d2, .slice q.A3 c.tabs.length q.d3, .slice q.A4 c.mems.length q.d4, .int .i64 c.hosts, .int .i64 c.vars, .int .i64 c.els, .int .i64 c.dats, .bool c.counted], .int .i64 t] w (TyIs w (inB t c.types.length) (tyAt c.types t)) := by
  cases hb : inB t c.types.length with
  | false =>
    have hE : tyAt c.types t = ([], []) := by simp [tyAt, hb]
    rw [hE]
    have HB2 : Hid (Below w.heap.size w ((w.alloc (.cells #[.slice q.A0 c.types.length q.d0, .slice q.A1 c.funcs.length q.d1, .slice q.A2 c.globs.length q.d2, .slice q.A3 c.tabs.length q.d3, .slice q.A4 c.mems.length q.d4, .int .i64 c.hosts, .int .i64 c.vars, .int .i64 c.els, .int .i64 c.dats, .bool c.counted] 66)).alloc (.cells #[.slice none 0 0, .slice none 0 0] 94))) := Lib.hid (((Below.refl _ _).alloc (Nat.le_refl _) _).alloc (by simp) _)
    go_enter Try.func68, Try.ntmps68
    go_wp2_with fail
    refine (there_any t c.types.length _).mono ?_
    rintro en w1 ⟨rfl, rfl⟩
    go_wp2
    refine bodyPost_ret (v := .tuple #[.agg #[.slice none 0 0, .slice none 0 0], .bool false]) (by simp [results, Try.results68, go_sem]) rfl ?_
    exact ⟨none, 0, none, 0, rfl, lst_none _ _ _, lst_none _ _ _, HB2.out⟩
  | true =>
    have HFS := Lib.hid hf
    obtain ⟨k, rfl, hk⟩ := inB_iff.1 hb
    have hE : tyAt c.types (k : Int) = c.types[k] := by unfold tyAt; rw [hb]; exact getD_at _ _ k hk
    rw [hE]
    have hki : (k : Int) < (c.types.length : Int) := by omega
    obtain ⟨b, off, A1, c1, A2, c2, hA, h1⟩ := sm_ft hl.l0 k hk
    have HFT := Lib.hid (hf _ (List.getElem_mem hk))
    have HB2 : Hid (Below w.heap.size w ((w.alloc (.cells #[.slice q.A0 c.types.length q.d0, .slice q.A1 c.funcs.length q.d1, .slice q.A2 c.globs.length q.d2, .slice q.A3 c.tabs.length q.d3, .slice q.A4 c.mems.length q.d4, .int .i64 c.hosts, .int .i64 c.vars, .int .i64 c.els, .int .i64 c.dats, .bool c.counted] 66)).alloc (.cells #[.slice none 0 0, .slice none 0 0] 94))) := Lib.hid (((Below.refl _ _).alloc (Nat.le_refl _) _).alloc (by simp) _)
    obtain ⟨q0, q1, l1, l2⟩ := h1 _ HB2.out
    have hkk := Lib.hid (heap2 w (.cells #[.slice q.A0 c.types.length q.d0, .slice q.A1 c.funcs.length q.d1, .slice q.A2 c.globs.length q.d2, .slice q.A3 c.tabs.length q.d3, .slice q.A4 c.mems.length q.d4, .int .i64 c.hosts, .int .i64 c.vars, .int .i64 c.els, .int .i64 c.dats, .bool c.counted] 66) #[.slice none 0 0, .slice none 0 0] 94)
    have HS2 : Hid (((w.alloc (.cells #[.slice q.A0 c.types.length q.d0, .slice q.A1 c.funcs.length q.d1, .slice q.A2 c.globs.length q.d2, .slice q.A3 c.tabs.length q.d3, .slice q.A4 c.mems.length q.d4, .int .i64 c.hosts, .int .i64 c.vars, .int .i64 c.els, .int .i64 c.dats, .bool c.counted] 66)).alloc (.cells #[.slice none 0 0, .slice none 0 0] 94)).heap.size = w.heap.size + 2) := Lib.hid (by simp)
    clear h1 hE hl hf
    generalize c.types[k] = x at *
    have HAN := Lib.hid (anew_any ((w.alloc (.cells #[.slice q.A0 c.types.length q.d0, .slice q.A1 c.funcs.length q.d1, .slice q.A2 c.globs.length q.d2, .slice q.A3 c.tabs.length q.d3, .slice q.A4 c.mems.length q.d4, .int .i64 c.hosts, .int .i64 c.vars, .int .i64 c.els, .int .i64 c.dats, .bool c.counted] 66)).alloc (.cells #[.slice none 0 0, .slice none 0 0] 94)) x l1 l2 HFT.out)
    clear l1 l2
    rw [hA]
    simp only [hA] at q0 q1 HAN hkk HS2 HB2
    clear hA
    go_enter Try.func68, Try.ntmps68
    go_wp2_with fail
    refine (there_any k c.types.length _).mono ?_
    rintro en w1 ⟨rfl, rfl⟩
    go_wp2_with fail
    refine HAN.out.mono ?_
    rintro en w1 ⟨B1, d1, B2, d2, rfl, hq1, hq2, hq3⟩
    have HQ := Lib.hid (And.intro hq1 (And.intro hq2 hq3))
    have hk1 := (HQ.out.2.2.block (w.heap.size + 1) (by have := HS2.out; omega)).trans hkk.out
    clear hq1 hq2 hq3 q0 q1
    have q0 : w1.cell? ⟨w.heap.size + 1, 0, none⟩ = some (.slice none 0 0) := (blk_cell hk1 0).trans rfl
    have q1 : w1.cell? ⟨w.heap.size + 1, 1, none⟩ = some (.slice none 0 0) := (blk_cell hk1 1).trans rfl
    have z0 := blk_free hk1 0
    have z1 := blk_free hk1 1
    have hx := blk_set (blk_set hk1 0 (.slice B1 x.1.length d1)) 1 (.slice B2 x.2.length d2)
    have r0 := blk_cell hx 0
    have r1 := blk_cell hx 1
    simp only [List.setIfInBounds_toArray, List.set_cons_zero, List.set_cons_succ, List.getElem?_toArray, List.getElem?_cons_zero, List.getElem?_cons_succ] at r0 r1
    have HFR := Lib.hid (fun p (hp : p ≠ w.heap.size + 1) => show ((w1.setCell ⟨w.heap.size + 1, 0, none⟩ (.slice B1 x.1.length d1)).setCell ⟨w.heap.size + 1, 1, none⟩ (.slice B2 x.2.length d2)).heap[p]? = w1.heap[p]? by rw [far_set (fun e => hp e.symm), far_set (fun e => hp e.symm)])
    clear hx hk1
    go_wp2
    refine bodyPost_ret (v := .tuple #[.agg #[.slice B1 x.1.length d1, .slice B2 x.2.length d2], .bool true]) (by simp [results, Try.results68, go_sem, r0, r1]) rfl ?_
    refine ⟨B1, d1, B2, d2, rfl, HQ.out.1.keep fun p h1 _ => ⟨HFR.out p (by have := HS2.out; omega), by have := HS2.out; omega⟩, HQ.out.2.1.keep fun p h1 _ => ⟨HFR.out p (by have := HS2.out; omega), by have := HS2.out; omega⟩, HB2.out.trans ((HQ.out.2.2.mono (by have := HS2.out; omega)).trans ⟨rfl, rfl, rfl, by simp, fun p hp => HFR.out p (by omega)⟩)⟩
end
def SB (bx b o : Nat) (q : Plc) (c : GCtx) (fi : Int) (V : World) : Prop := BoxC bx V q c ∧ V.cell? ⟨b, o, none⟩ = some (.int .i64 fi)
theorem sb_keep {bx b o : Nat} {q : Plc} {c : GCtx} {fi : Int} {V V' : World} (h : SB bx b o q c fi V) (h1 : V'.heap[bx]? = V.heap[bx]?) (h2 : V'.heap[b]? = V.heap[b]?) : SB bx b o q c fi V' := by
  obtain ⟨⟨s0, s1, s2, s3, s4, s5, s6, s7, s8, s9⟩, s10⟩ := h
  have e : ∀ i, V'.cell? ⟨bx, i, none⟩ = V.cell? ⟨bx, i, none⟩ := fun i => World.cell?_of_block h1
  refine ⟨⟨(e 0).trans s0, (e 1).trans s1, (e 2).trans s2, (e 3).trans s3, (e 4).trans s4, (e 5).trans s5, (e 6).trans s6, (e 7).trans s7, (e 8).trans s8, (e 9).trans s9⟩, (World.cell?_of_block h2).trans s10⟩
section
variable (q : Plc) (c : GCtx) (w : World) {ok : Nat → Prop}
set_option maxRecDepth 100000 in
set_option maxHeartbeats 4000000 in
theorem type_any (hl : CtxL w ok q c) (hf : FtS c) (f : Int) : Calls Try.prog 65 #[.agg #[.slice q.A0 c.types.length q.d0, .slice q.A1 c.funcs.length q.d1, .slice q.A2 c.globs.length q.d2, .slice q.A3 c.tabs.length q.d3, .slice q.A4 c.mems.length q.d4, .int .i64 c.hosts, .int .i64 c.vars, .int .i64 c.els, .int .i64 c.dats, .bool c.counted], .int .i64 f] w (TyIs w (hasTy c f) (fnTy c f)) := by
  cases hb : inB f c.funcs.length with
  | false =>
    have hE : fnTy c f = ([], []) := by simp [fnTy, hb]
    have hE2 : hasTy c f = false := by simp [hasTy, hb]
    rw [hE, hE2]
    have HB2 : Hid (Below w.heap.size w ((w.alloc (.cells #[.slice q.A0 c.types.length q.d0, .slice q.A1 c.funcs.length q.d1, .slice q.A2 c.globs.length q.d2, .slice q.A3 c.tabs.length q.d3, .slice q.A4 c.mems.length q.d4, .int .i64 c.hosts, .int .i64 c.vars, .int .i64 c.els, .int .i64 c.dats, .bool c.counted] 66)).alloc (.cells #[.slice none 0 0, .slice none 0 0] 94))) := Lib.hid (((Below.refl _ _).alloc (Nat.le_refl _) _).alloc (by simp) _)
    go_enter Try.func65, Try.ntmps65
    go_wp2_with fail
    refine (there_any f c.funcs.length _).mono ?_
    rintro en w1 ⟨rfl, rfl⟩
    go_wp2
    refine bodyPost_ret (v := .tuple #[.agg #[.slice none 0 0, .slice none 0 0], .bool false]) (by simp [results, Try.results65, go_sem]) rfl ?_
    exact ⟨none, 0, none, 0, rfl, lst_none _ _ _, lst_none _ _ _, HB2.out⟩
  | true =>
    obtain ⟨k, rfl, hk⟩ := inB_iff.1 hb
    obtain ⟨bb, hbb⟩ : ∃ bb, hasTy c (k : Int) = bb := ⟨_, rfl⟩
    have hE : fnTy c (k : Int) = tyAt c.types c.funcs[k] := by unfold fnTy; rw [hb]; simp only [if_true]; rw [getD_at _ _ k hk]
    have hE2 : inB c.funcs[k] c.types.length = bb := by rw [← hbb]; unfold hasTy; rw [hb, getD_at _ _ k hk]; rfl
    have hki : (k : Int) < (c.funcs.length : Int) := by omega
    obtain ⟨b, off, hA, h1⟩ := sm_int hl.l1 k hk
    have hbl : b < w.heap.size := by have := h1 w (Below.refl _ _); exact cell_lt this
    have HB2 : Hid (Below w.heap.size w ((w.alloc (.cells #[.slice q.A0 c.types.length q.d0, .slice q.A1 c.funcs.length q.d1, .slice q.A2 c.globs.length q.d2, .slice q.A3 c.tabs.length q.d3, .slice q.A4 c.mems.length q.d4, .int .i64 c.hosts, .int .i64 c.vars, .int .i64 c.els, .int .i64 c.dats, .bool c.counted] 66)).alloc (.cells #[.slice none 0 0, .slice none 0 0] 94)).drew) := Lib.hid ((((Below.refl _ _).alloc (Nat.le_refl _) _).alloc (by simp) _).drew)
    have HB3 : Hid (Below w.heap.size w ((w.alloc (.cells #[.slice q.A0 c.types.length q.d0, .slice q.A1 c.funcs.length q.d1, .slice q.A2 c.globs.length q.d2, .slice q.A3 c.tabs.length q.d3, .slice q.A4 c.mems.length q.d4, .int .i64 c.hosts, .int .i64 c.vars, .int .i64 c.els, .int .i64 c.dats, .bool c.counted] 66)).alloc (.cells #[.slice none 0 0, .slice none 0 0] 94))) := Lib.hid (((Below.refl _ _).alloc (Nat.le_refl _) _).alloc (by simp) _)
    have y0 := h1 _ HB3.out
    have HNU : Hid (∀ V, Below w.heap.size w V → CtxL V ok q c → Calls Try.prog 68 #[.agg #[.slice q.A0 c.types.length q.d0, .slice q.A1 c.funcs.length q.d1, .slice q.A2 c.globs.length q.d2, .slice q.A3 c.tabs.length q.d3, .slice q.A4 c.mems.length q.d4, .int .i64 c.hosts, .int .i64 c.vars, .int .i64 c.els, .int .i64 c.dats, .bool c.counted], .int .i64 c.funcs[k]] V (TyIs V bb (tyAt c.types c.funcs[k]))) := Lib.hid fun V hV hC => by
      have := numbered_any q c V hC hf c.funcs[k]
      rwa [hE2] at this
    have HLV : Hid (∀ V, Below w.heap.size w V → CtxL V ok q c) := Lib.hid fun V hV => hl.below hV
    have HY : Hid (∀ V, Below w.heap.size w V → V.cell? ⟨b, off + k, none⟩ = some (.int .i64 c.funcs[k])) := Lib.hid h1
    have HBL := Lib.hid hbl
    rw [hbb, hE]
    have hkk := heap2 w (.cells #[.slice q.A0 c.types.length q.d0, .slice q.A1 c.funcs.length q.d1, .slice q.A2 c.globs.length q.d2, .slice q.A3 c.tabs.length q.d3, .slice q.A4 c.mems.length q.d4, .int .i64 c.hosts, .int .i64 c.vars, .int .i64 c.els, .int .i64 c.dats, .bool c.counted] 66) #[.slice none 0 0, .slice none 0 0] 94
    have HK0 : Hid (((w.alloc (.cells #[.slice q.A0 c.types.length q.d0, .slice q.A1 c.funcs.length q.d1, .slice q.A2 c.globs.length q.d2, .slice q.A3 c.tabs.length q.d3, .slice q.A4 c.mems.length q.d4, .int .i64 c.hosts, .int .i64 c.vars, .int .i64 c.els, .int .i64 c.dats, .bool c.counted] 66)).alloc (.cells #[.slice none 0 0, .slice none 0 0] 94)).drew.heap[w.heap.size + 1]? = some (.cells #[.slice none 0 0, .slice none 0 0] 94 (0, 0))) := Lib.hid hkk
    have HBX : Hid (BoxC w.heap.size ((w.alloc (.cells #[.slice q.A0 c.types.length q.d0, .slice q.A1 c.funcs.length q.d1, .slice q.A2 c.globs.length q.d2, .slice q.A3 c.tabs.length q.d3, .slice q.A4 c.mems.length q.d4, .int .i64 c.hosts, .int .i64 c.vars, .int .i64 c.els, .int .i64 c.dats, .bool c.counted] 66)).alloc (.cells #[.slice none 0 0, .slice none 0 0] 94)) q c) := Lib.hid (by refine ⟨?_, ?_, ?_, ?_, ?_, ?_, ?_, ?_, ?_, ?_⟩ <;> simp)
    have HS2 : Hid (((w.alloc (.cells #[.slice q.A0 c.types.length q.d0, .slice q.A1 c.funcs.length q.d1, .slice q.A2 c.globs.length q.d2, .slice q.A3 c.tabs.length q.d3, .slice q.A4 c.mems.length q.d4, .int .i64 c.hosts, .int .i64 c.vars, .int .i64 c.els, .int .i64 c.dats, .bool c.counted] 66)).alloc (.cells #[.slice none 0 0, .slice none 0 0] 94)).drew.heap.size = w.heap.size + 2) := Lib.hid (by simp)
    clear h1 hE hE2 hl hkk hbl hbb
    generalize c.funcs[k] = fi at *
    generalize tyAt c.types fi = x at *
    rw [hA]
    simp only [hA] at HNU HBX HK0 HS2 HB2 HB3 y0
    go_enter Try.func65, Try.ntmps65
    go_wp2_with fail
    refine (there_any k c.funcs.length _).mono ?_
    rintro en w1 ⟨rfl, rfl⟩
    go_wp2_with fail
    refine wp_region_held_drew (S := SB w.heap.size b (off + k) q c fi) (by kernel_rfl) ⟨HBX.out, y0⟩ (fun hS => ?_)
    generalize ((w.alloc (.cells #[.slice q.A0 c.types.length q.d0, .slice (some ⟨b, off, none⟩) c.funcs.length q.d1, .slice q.A2 c.globs.length q.d2, .slice q.A3 c.tabs.length q.d3, .slice q.A4 c.mems.length q.d4, .int .i64 c.hosts, .int .i64 c.vars, .int .i64 c.els, .int .i64 c.dats, .bool c.counted] 66)).alloc (.cells #[.slice none 0 0, .slice none 0 0] 94)).drew = V at *
    have HBV := HB2
    have HVS : Hid (V.heap.size = w.heap.size + 2) := HS2
    have HK : Hid (V.heap[w.heap.size + 1]? = some (.cells #[.slice none 0 0, .slice none 0 0] 94 (0, 0))) := HK0
    have HC := Lib.hid (HLV.out V HBV.out)
    have HS0 := Lib.hid hS
    have HSB : Hid (∀ v, Below (w.heap.size + 1) V v → SB w.heap.size b (off + k) q c fi v) := Lib.hid fun v hv => sb_keep HS0.out (hv.block _ (by omega)) (hv.block _ (by have := HBL.out; omega))
    clear HB2 HS2 HK0 y0 HBX HY HLV HB3
    refine wpAnyH_take (i := 0) (oi := { dst := some 13, op := .load 66 (.tmp 2), type := 66, pos := "ctx.go:26", after := #[], guard := none }) (v := ?_) rfl (by kernel_rfl) (by kernel_rfl) (by kernel_rfl) (fun _ _ _ h => h) (Or.inl ⟨by rfl, ?_⟩) hS ?_
    rotate_left
    · (intro w' hS'; obtain ⟨⟨s0, s1, s2, s3, s4, s5, s6, s7, s8, s9⟩, s10⟩ := hS'; go_simp) <;> with_reducible rfl
    try simp only [Act.put, List.setIfInBounds_toArray, List.set_cons_zero, List.set_cons_succ]
    refine wpAnyH_take (i := 1) (oi := { dst := some 14, op := .fieldAddr 66 (.tmp 2) 1, type := 0, pos := "ctx.go:26", after := #[], guard := none }) (v := ?_) rfl (by kernel_rfl) (by kernel_rfl) (by kernel_rfl) (fun _ _ _ h => h) (Or.inl ⟨by rfl, ?_⟩) hS ?_
    rotate_left
    · (intro w' hS'; obtain ⟨⟨s0, s1, s2, s3, s4, s5, s6, s7, s8, s9⟩, s10⟩ := hS'; go_simp) <;> with_reducible rfl
    try simp only [Act.put, List.setIfInBounds_toArray, List.set_cons_zero, List.set_cons_succ]
    refine wpAnyH_take (i := 2) (oi := { dst := some 15, op := .load 23 (.tmp 14), type := 23, pos := "ctx.go:26", after := #[{ on := 1, ground := .data }], guard := none }) (v := ?_) rfl (by kernel_rfl) (by kernel_rfl) (by kernel_rfl) (fun _ _ _ h => h) (Or.inl ⟨by rfl, ?_⟩) hS ?_
    rotate_left
    · (intro w' hS'; obtain ⟨⟨s0, s1, s2, s3, s4, s5, s6, s7, s8, s9⟩, s10⟩ := hS'; go_simp) <;> with_reducible rfl
    try simp only [Act.put, List.setIfInBounds_toArray, List.set_cons_zero, List.set_cons_succ]
    refine wpAnyH_take (i := 3) (oi := { dst := some 16, op := .move (.tmp 1), type := 3, pos := "ctx.go:26", after := #[], guard := none }) (v := ?_) rfl (by kernel_rfl) (by kernel_rfl) (by kernel_rfl) (fun _ _ _ h => h) (Or.inl ⟨by rfl, ?_⟩) hS ?_
    rotate_left
    · (intro w' hS'; obtain ⟨⟨s0, s1, s2, s3, s4, s5, s6, s7, s8, s9⟩, s10⟩ := hS'; go_simp) <;> with_reducible rfl
    try simp only [Act.put, List.setIfInBounds_toArray, List.set_cons_zero, List.set_cons_succ]
    refine wpAnyH_take (i := 4) (oi := { dst := some 17, op := .indexAddr 23 (.tmp 15) (.tmp 16), type := 0, pos := "ctx.go:26", after := #[{ on := 2, ground := .data }, { on := 3, ground := .data }], guard := none }) (v := ?_) rfl (by kernel_rfl) (by kernel_rfl) (by kernel_rfl) (fun _ _ _ h => h) (Or.inl ⟨by rfl, ?_⟩) hS ?_
    rotate_left
    · (intro w' hS'; obtain ⟨⟨s0, s1, s2, s3, s4, s5, s6, s7, s8, s9⟩, s10⟩ := hS'; go_simp) <;> with_reducible rfl
    try simp only [Act.put, List.setIfInBounds_toArray, List.set_cons_zero, List.set_cons_succ]
    refine wpAnyH_take (i := 5) (oi := { dst := some 18, op := .load 3 (.tmp 17), type := 3, pos := "ctx.go:26", after := #[{ on := 4, ground := .data }], guard := none }) (v := ?_) rfl (by kernel_rfl) (by kernel_rfl) (by kernel_rfl) (fun _ _ _ h => h) (Or.inl ⟨by rfl, ?_⟩) hS ?_
    rotate_left
    · (intro w' hS'; obtain ⟨⟨s0, s1, s2, s3, s4, s5, s6, s7, s8, s9⟩, s10⟩ := hS'; go_simp) <;> with_reducible rfl
    try simp only [Act.put, List.setIfInBounds_toArray, List.set_cons_zero, List.set_cons_succ]
    refine wpAnyH_ready (rs := [6]) (by kernel_rfl) (by simp) ?_
    refine AllReadyH.cons (o := { dst := some 19, op := .call { callee := .value (.func 68), args := #[.tmp 13, .tmp 18], argTypes := #[66, 3] }, type := 135, pos := "ctx.go:26", after := #[{ on := 0, ground := .data }, { on := 5, ground := .data }], guard := none }) rfl (fun K' hK => ?_) (AllReadyH.nil)
    go_simp
    refine (HNU.out V HBV.out HC.out).mono ?_
    rintro en V1 ⟨B1, d1, B2, d2, rfl, hq1, hq2, hq3⟩
    have HQ := Lib.hid (And.intro hq1 (And.intro hq2 hq3))
    have hk1 := (HQ.out.2.2.block (w.heap.size + 1) (by have := HVS.out; omega)).trans HK.out
    have HS1 := Lib.hid (HSB.out V1 (HQ.out.2.2.mono (by have := HVS.out; omega)))
    clear hq1 hq2 hq3
    have q0 : V1.cell? ⟨w.heap.size + 1, 0, none⟩ = some (.slice none 0 0) := (blk_cell hk1 0).trans rfl
    have q1 : V1.cell? ⟨w.heap.size + 1, 1, none⟩ = some (.slice none 0 0) := (blk_cell hk1 1).trans rfl
    have z0 := blk_free hk1 0
    have z1 := blk_free hk1 1
    have hx := blk_set (blk_set hk1 0 (.slice B1 x.1.length d1)) 1 (.slice B2 x.2.length d2)
    have r0 := blk_cell hx 0
    have r1 := blk_cell hx 1
    simp only [List.setIfInBounds_toArray, List.set_cons_zero, List.set_cons_succ, List.getElem?_toArray, List.getElem?_cons_zero, List.getElem?_cons_succ] at r0 r1
    have HFR := Lib.hid (fun p (hp : p ≠ w.heap.size + 1) => show ((V1.setCell ⟨w.heap.size + 1, 0, none⟩ (.slice B1 x.1.length d1)).setCell ⟨w.heap.size + 1, 1, none⟩ (.slice B2 x.2.length d2)).heap[p]? = V1.heap[p]? by rw [far_set (fun e => hp e.symm), far_set (fun e => hp e.symm)])
    have HS3 : Hid (SB w.heap.size b (off + k) q c fi ((V1.setCell ⟨w.heap.size + 1, 0, none⟩ (.slice B1 x.1.length d1)).setCell ⟨w.heap.size + 1, 1, none⟩ (.slice B2 x.2.length d2))) := Lib.hid (sb_keep HS1.out (HFR.out _ (by omega)) (HFR.out _ (by have := HBL.out; omega)))
    clear hx hk1
    go_wp2_with fail
    refine hK.out _ _ HS1.out (fun hS => ?_)
    clear hK K'
    try simp only [Act.put, List.setIfInBounds_toArray, List.set_cons_zero, List.set_cons_succ]
    refine wpAnyH_take (i := 7) (oi := { dst := some 20, op := .extract (.tmp 19) 0, type := 94, pos := "ctx.go:26", after := #[{ on := 6, ground := .data }], guard := none }) (v := ?_) rfl (by kernel_rfl) (by kernel_rfl) (by kernel_rfl) (fun _ _ _ h => h) (Or.inl ⟨by rfl, ?_⟩) hS ?_
    rotate_left
    · (intro w' hS'; obtain ⟨⟨s0, s1, s2, s3, s4, s5, s6, s7, s8, s9⟩, s10⟩ := hS'; go_simp) <;> with_reducible rfl
    try simp only [Act.put, List.setIfInBounds_toArray, List.set_cons_zero, List.set_cons_succ]
    refine wpAnyH_take (i := 8) (oi := { dst := some 21, op := .extract (.tmp 19) 1, type := 4, pos := "ctx.go:26", after := #[{ on := 6, ground := .data }], guard := none }) (v := ?_) rfl (by kernel_rfl) (by kernel_rfl) (by kernel_rfl) (fun _ _ _ h => h) (Or.inl ⟨by rfl, ?_⟩) hS ?_
    rotate_left
    · (intro w' hS'; obtain ⟨⟨s0, s1, s2, s3, s4, s5, s6, s7, s8, s9⟩, s10⟩ := hS'; go_simp) <;> with_reducible rfl
    try simp only [Act.put, List.setIfInBounds_toArray, List.set_cons_zero, List.set_cons_succ]
    refine wpAnyH_ready (rs := [9]) (by kernel_rfl) (by simp) ?_
    refine AllReadyH.cons (o := { dst := none, op := .store 94 (.tmp 4) (.tmp 20), type := 0, pos := "ctx.go:26", after := #[{ on := 7, ground := .data }, { on := 6, ground := .chain }, { on := 0, ground := .phase }, { on := 1, ground := .phase }, { on := 2, ground := .phase }, { on := 3, ground := .phase }, { on := 4, ground := .phase }, { on := 5, ground := .phase }, { on := 6, ground := .phase }, { on := 7, ground := .phase }, { on := 8, ground := .phase }], guard := none }) rfl (fun K' hK => ?_) (AllReadyH.nil)
    go_simp
    refine hK.out _ _ HS3.out (fun hS => ?_)
    clear hK K'
    try simp only [Act.put, List.setIfInBounds_toArray, List.set_cons_zero, List.set_cons_succ]
    refine wpAnyH_take (i := 10) (oi := { dst := some 5, op := .assign (.tmp 21), type := 4, pos := "ctx.go:26", after := #[{ on := 8, ground := .data }, { on := 9, ground := .chain }, { on := 0, ground := .phase }, { on := 1, ground := .phase }, { on := 2, ground := .phase }, { on := 3, ground := .phase }, { on := 4, ground := .phase }, { on := 5, ground := .phase }, { on := 6, ground := .phase }, { on := 7, ground := .phase }, { on := 8, ground := .phase }, { on := 9, ground := .phase }], guard := none }) (v := ?_) rfl (by kernel_rfl) (by kernel_rfl) (by kernel_rfl) (fun _ _ _ h => h) (Or.inl ⟨by rfl, ?_⟩) hS ?_
    rotate_left
    · (intro w' hS'; obtain ⟨⟨s0, s1, s2, s3, s4, s5, s6, s7, s8, s9⟩, s10⟩ := hS'; go_simp) <;> with_reducible rfl
    try simp only [Act.put, List.setIfInBounds_toArray, List.set_cons_zero, List.set_cons_succ]
    refine wpAnyH_done (by kernel_rfl) ?_ _
    go_wp2
    refine bodyPost_ret (v := .tuple #[.agg #[.slice B1 x.1.length d1, .slice B2 x.2.length d2], .bool bb]) (by simp [results, Try.results65, go_sem, r0, r1]) rfl ?_
    refine ⟨B1, d1, B2, d2, rfl, HQ.out.1.keep fun p h1 _ => ⟨HFR.out p (by have := HVS.out; omega), by have := HVS.out; omega⟩, HQ.out.2.1.keep fun p h1 _ => ⟨HFR.out p (by have := HVS.out; omega), by have := HVS.out; omega⟩, HBV.out.trans ((HQ.out.2.2.mono (by have := HVS.out; omega)).trans ⟨rfl, rfl, rfl, by simp, fun p hp => HFR.out p (by omega)⟩)⟩
end
end Go.Proofs.Ytdcolpmmojiffaa.Cx
