/-
  CtxRf2: ctx.Block; the given Block and Short of layer 9; a context that came in. Conditions: the context lies in memory. (Written by wip/tools/genctxrf2.py.)
-/
import Derived.Test.YtjajepeggphnbaaQCtxRf1
import Derived.Test.YtjajepeggphnbaaQModOpen
namespace Go.Proofs.Ytjajepeggphnbaa.Cx
open Go.RowKit Leb
open _root_.Go.Proofs.Ytjajepeggphnbaa.Mod

def blkHas (c : GCtx) (t : Int) : Bool := if t = -64 then true else if t = -1 then true else if t = -2 then true else inB t c.types.length
def blkTy (c : GCtx) (t : Int) : GFt := if t = -64 then ([], []) else if t = -1 then ([], [127]) else if t = -2 then ([], [126]) else tyAt c.types t
/-- A type, wherever it lies. -/
def TyAny (w : World) (b : Bool) (x : GFt) (en : Ending) (w' : World) : Prop := ∃ B1 d1 B2 d2, en = .returned (.tuple #[.agg #[.slice B1 x.1.length d1, .slice B2 x.2.length d2], .bool b]) ∧ Lst intR w' (fun _ => True) B1 d1 x.1 ∧ Lst intR w' (fun _ => True) B2 d2 x.2 ∧ Below w.heap.size w w'
theorem TyIs.any {w : World} {b : Bool} {x : GFt} {en : Ending} {w' : World} (h : TyIs w b x en w') : TyAny w b x en w' := by
  obtain ⟨B1, d1, B2, d2, e, h1, h2, hb⟩ := h
  exact ⟨B1, d1, B2, d2, e, h1.keep fun b _ _ => ⟨rfl, trivial⟩, h2.keep fun b _ _ => ⟨rfl, trivial⟩, hb⟩
theorem one_int {w : World} {b : Nat} {n : Int} {t : TypeId} (h : w.heap[b]? = some (.cells #[.int .i64 n] t (0, 0))) : Lst intR w (fun _ => True) (some ⟨b, 0, none⟩) 1 [n] := by
  refine ⟨fun _ => ⟨b, 0, rfl, trivial, fun j hj => ⟨[.int .i64 n], ?_, fun i hi => ?_⟩⟩, (fun e => by cases e), by simp⟩
  · have : j = 0 := by simpa using hj
    subst this; rfl
  · have : j = 0 := by simpa using hj
    subst this
    have hi0 : i = 0 := by simpa using hi
    subst hi0
    rw [blk_cell h]
    rfl
section
variable (q : Plc) (c : GCtx) (w : World) {ok : Nat → Prop}
set_option maxRecDepth 100000 in
set_option maxHeartbeats 4000000 in
theorem block_any (hl : CtxL w ok q c) (hf : FtS c) (t : Int) : Calls Try.prog 16 #[.agg #[.slice q.A0 c.types.length q.d0, .slice q.A1 c.funcs.length q.d1, .slice q.A2 c.globs.length q.d2, .slice q.A3 c.tabs.length q.d3, .slice q.A4 c.mems.length q.d4, .int .i64 c.hosts, .int .i64 c.vars, .int .i64 c.els, .int .i64 c.dats, .bool c.counted], .int .i64 t] w (TyAny w (blkHas c t) (blkTy c t)) := by
  by_cases h0 : t = -64
  · subst h0
    have hE : blkTy c (-64) = ([], []) := by simp [blkTy]
    have hE2 : blkHas c (-64) = true := by simp [blkHas]
    rw [hE, hE2]
    have HB2 : Hid (Below w.heap.size w ((w.alloc (.cells #[.slice q.A0 c.types.length q.d0, .slice q.A1 c.funcs.length q.d1, .slice q.A2 c.globs.length q.d2, .slice q.A3 c.tabs.length q.d3, .slice q.A4 c.mems.length q.d4, .int .i64 c.hosts, .int .i64 c.vars, .int .i64 c.els, .int .i64 c.dats, .bool c.counted] 38)).alloc (.cells #[.slice none 0 0, .slice none 0 0] 49))) := Lib.hid (((Below.refl _ _).alloc (Nat.le_refl _) _).alloc (by simp) _)
    go_enter Try.func16, Try.ntmps16
    go_wp2
    refine bodyPost_ret (v := .tuple #[.agg #[.slice none 0 0, .slice none 0 0], .bool true]) (by simp [results, Try.results16, go_sem]) rfl ?_
    exact ⟨none, 0, none, 0, rfl, lst_none _ _ _, lst_none _ _ _, HB2.out⟩
  by_cases h1 : t = -1
  · subst h1
    have hE : blkTy c (-1) = ([], [127]) := by simp [blkTy]
    have hE2 : blkHas c (-1) = true := by simp [blkHas]
    rw [hE, hE2]
    have hk3 : (((w.alloc (.cells #[.slice q.A0 c.types.length q.d0, .slice q.A1 c.funcs.length q.d1, .slice q.A2 c.globs.length q.d2, .slice q.A3 c.tabs.length q.d3, .slice q.A4 c.mems.length q.d4, .int .i64 c.hosts, .int .i64 c.vars, .int .i64 c.els, .int .i64 c.dats, .bool c.counted] 38)).alloc (.cells #[.slice none 0 0, .slice (some ⟨w.heap.size + 1 + 1, 0, none⟩) 1 1] 49)).alloc (.cells #[.int .i64 127] 3)).heap[w.heap.size + 1]? = some (.cells #[.slice none 0 0, .slice (some ⟨w.heap.size + 1 + 1, 0, none⟩) 1 1] 49 (0, 0)) := (((Below.refl _ _).alloc (Nat.le_refl _) _ : Below ((w.alloc (.cells #[.slice q.A0 c.types.length q.d0, .slice q.A1 c.funcs.length q.d1, .slice q.A2 c.globs.length q.d2, .slice q.A3 c.tabs.length q.d3, .slice q.A4 c.mems.length q.d4, .int .i64 c.hosts, .int .i64 c.vars, .int .i64 c.els, .int .i64 c.dats, .bool c.counted] 38)).alloc (.cells #[.slice none 0 0, .slice (some ⟨w.heap.size + 1 + 1, 0, none⟩) 1 1] 49)).heap.size ((w.alloc (.cells #[.slice q.A0 c.types.length q.d0, .slice q.A1 c.funcs.length q.d1, .slice q.A2 c.globs.length q.d2, .slice q.A3 c.tabs.length q.d3, .slice q.A4 c.mems.length q.d4, .int .i64 c.hosts, .int .i64 c.vars, .int .i64 c.els, .int .i64 c.dats, .bool c.counted] 38)).alloc (.cells #[.slice none 0 0, .slice (some ⟨w.heap.size + 1 + 1, 0, none⟩) 1 1] 49)) (((w.alloc (.cells #[.slice q.A0 c.types.length q.d0, .slice q.A1 c.funcs.length q.d1, .slice q.A2 c.globs.length q.d2, .slice q.A3 c.tabs.length q.d3, .slice q.A4 c.mems.length q.d4, .int .i64 c.hosts, .int .i64 c.vars, .int .i64 c.els, .int .i64 c.dats, .bool c.counted] 38)).alloc (.cells #[.slice none 0 0, .slice (some ⟨w.heap.size + 1 + 1, 0, none⟩) 1 1] 49)).alloc (.cells #[.int .i64 127] 3))).block _ (by simp)).trans (heap2 w _ _ _)
    have hk4 : (((w.alloc (.cells #[.slice q.A0 c.types.length q.d0, .slice q.A1 c.funcs.length q.d1, .slice q.A2 c.globs.length q.d2, .slice q.A3 c.tabs.length q.d3, .slice q.A4 c.mems.length q.d4, .int .i64 c.hosts, .int .i64 c.vars, .int .i64 c.els, .int .i64 c.dats, .bool c.counted] 38)).alloc (.cells #[.slice none 0 0, .slice (some ⟨w.heap.size + 1 + 1, 0, none⟩) 1 1] 49)).alloc (.cells #[.int .i64 127] 3)).heap[w.heap.size + 1 + 1]? = some (.cells #[.int .i64 127] 3 (0, 0)) := by
      have h := heap_alloc_new ((w.alloc (.cells #[.slice q.A0 c.types.length q.d0, .slice q.A1 c.funcs.length q.d1, .slice q.A2 c.globs.length q.d2, .slice q.A3 c.tabs.length q.d3, .slice q.A4 c.mems.length q.d4, .int .i64 c.hosts, .int .i64 c.vars, .int .i64 c.els, .int .i64 c.dats, .bool c.counted] 38)).alloc (.cells #[.slice none 0 0, .slice (some ⟨w.heap.size + 1 + 1, 0, none⟩) 1 1] 49)) (.cells #[.int .i64 127] 3)
      have e : ((w.alloc (.cells #[.slice q.A0 c.types.length q.d0, .slice q.A1 c.funcs.length q.d1, .slice q.A2 c.globs.length q.d2, .slice q.A3 c.tabs.length q.d3, .slice q.A4 c.mems.length q.d4, .int .i64 c.hosts, .int .i64 c.vars, .int .i64 c.els, .int .i64 c.dats, .bool c.counted] 38)).alloc (.cells #[.slice none 0 0, .slice (some ⟨w.heap.size + 1 + 1, 0, none⟩) 1 1] 49)).heap.size = w.heap.size + 1 + 1 := by simp
      rw [e] at h
      exact h
    have HB3 : Hid (Below w.heap.size w (((w.alloc (.cells #[.slice q.A0 c.types.length q.d0, .slice q.A1 c.funcs.length q.d1, .slice q.A2 c.globs.length q.d2, .slice q.A3 c.tabs.length q.d3, .slice q.A4 c.mems.length q.d4, .int .i64 c.hosts, .int .i64 c.vars, .int .i64 c.els, .int .i64 c.dats, .bool c.counted] 38)).alloc (.cells #[.slice none 0 0, .slice (some ⟨w.heap.size + 1 + 1, 0, none⟩) 1 1] 49)).alloc (.cells #[.int .i64 127] 3))) := Lib.hid ((((Below.refl _ _).alloc (Nat.le_refl _) _).alloc (by simp) _).alloc (by simp; omega) _)
    have HK3 := Lib.hid hk3
    have HK4 := Lib.hid hk4
    clear hk3 hk4
    go_enter Try.func16, Try.ntmps16
    go_wp2
    have r0 := (blk_cell HK3.out 0).trans rfl
    have r1 := (blk_cell HK3.out 1).trans rfl
    refine bodyPost_ret (v := .tuple #[.agg #[.slice none 0 0, .slice (some ⟨w.heap.size + 1 + 1, 0, none⟩) 1 1], .bool true]) (by simp [results, Try.results16, go_sem, r0, r1]) rfl ?_
    exact ⟨none, 0, some ⟨w.heap.size + 1 + 1, 0, none⟩, 1, rfl, lst_none _ _ _, one_int HK4.out, HB3.out⟩
  by_cases h2 : t = -2
  · subst h2
    have hE : blkTy c (-2) = ([], [126]) := by simp [blkTy]
    have hE2 : blkHas c (-2) = true := by simp [blkHas]
    rw [hE, hE2]
    have hk3 : (((w.alloc (.cells #[.slice q.A0 c.types.length q.d0, .slice q.A1 c.funcs.length q.d1, .slice q.A2 c.globs.length q.d2, .slice q.A3 c.tabs.length q.d3, .slice q.A4 c.mems.length q.d4, .int .i64 c.hosts, .int .i64 c.vars, .int .i64 c.els, .int .i64 c.dats, .bool c.counted] 38)).alloc (.cells #[.slice none 0 0, .slice (some ⟨w.heap.size + 1 + 1, 0, none⟩) 1 1] 49)).alloc (.cells #[.int .i64 126] 3)).heap[w.heap.size + 1]? = some (.cells #[.slice none 0 0, .slice (some ⟨w.heap.size + 1 + 1, 0, none⟩) 1 1] 49 (0, 0)) := (((Below.refl _ _).alloc (Nat.le_refl _) _ : Below ((w.alloc (.cells #[.slice q.A0 c.types.length q.d0, .slice q.A1 c.funcs.length q.d1, .slice q.A2 c.globs.length q.d2, .slice q.A3 c.tabs.length q.d3, .slice q.A4 c.mems.length q.d4, .int .i64 c.hosts, .int .i64 c.vars, .int .i64 c.els, .int .i64 c.dats, .bool c.counted] 38)).alloc (.cells #[.slice none 0 0, .slice (some ⟨w.heap.size + 1 + 1, 0, none⟩) 1 1] 49)).heap.size ((w.alloc (.cells #[.slice q.A0 c.types.length q.d0, .slice q.A1 c.funcs.length q.d1, .slice q.A2 c.globs.length q.d2, .slice q.A3 c.tabs.length q.d3, .slice q.A4 c.mems.length q.d4, .int .i64 c.hosts, .int .i64 c.vars, .int .i64 c.els, .int .i64 c.dats, .bool c.counted] 38)).alloc (.cells #[.slice none 0 0, .slice (some ⟨w.heap.size + 1 + 1, 0, none⟩) 1 1] 49)) (((w.alloc (.cells #[.slice q.A0 c.types.length q.d0, .slice q.A1 c.funcs.length q.d1, .slice q.A2 c.globs.length q.d2, .slice q.A3 c.tabs.length q.d3, .slice q.A4 c.mems.length q.d4, .int .i64 c.hosts, .int .i64 c.vars, .int .i64 c.els, .int .i64 c.dats, .bool c.counted] 38)).alloc (.cells #[.slice none 0 0, .slice (some ⟨w.heap.size + 1 + 1, 0, none⟩) 1 1] 49)).alloc (.cells #[.int .i64 126] 3))).block _ (by simp)).trans (heap2 w _ _ _)
    have hk4 : (((w.alloc (.cells #[.slice q.A0 c.types.length q.d0, .slice q.A1 c.funcs.length q.d1, .slice q.A2 c.globs.length q.d2, .slice q.A3 c.tabs.length q.d3, .slice q.A4 c.mems.length q.d4, .int .i64 c.hosts, .int .i64 c.vars, .int .i64 c.els, .int .i64 c.dats, .bool c.counted] 38)).alloc (.cells #[.slice none 0 0, .slice (some ⟨w.heap.size + 1 + 1, 0, none⟩) 1 1] 49)).alloc (.cells #[.int .i64 126] 3)).heap[w.heap.size + 1 + 1]? = some (.cells #[.int .i64 126] 3 (0, 0)) := by
      have h := heap_alloc_new ((w.alloc (.cells #[.slice q.A0 c.types.length q.d0, .slice q.A1 c.funcs.length q.d1, .slice q.A2 c.globs.length q.d2, .slice q.A3 c.tabs.length q.d3, .slice q.A4 c.mems.length q.d4, .int .i64 c.hosts, .int .i64 c.vars, .int .i64 c.els, .int .i64 c.dats, .bool c.counted] 38)).alloc (.cells #[.slice none 0 0, .slice (some ⟨w.heap.size + 1 + 1, 0, none⟩) 1 1] 49)) (.cells #[.int .i64 126] 3)
      have e : ((w.alloc (.cells #[.slice q.A0 c.types.length q.d0, .slice q.A1 c.funcs.length q.d1, .slice q.A2 c.globs.length q.d2, .slice q.A3 c.tabs.length q.d3, .slice q.A4 c.mems.length q.d4, .int .i64 c.hosts, .int .i64 c.vars, .int .i64 c.els, .int .i64 c.dats, .bool c.counted] 38)).alloc (.cells #[.slice none 0 0, .slice (some ⟨w.heap.size + 1 + 1, 0, none⟩) 1 1] 49)).heap.size = w.heap.size + 1 + 1 := by simp
      rw [e] at h
      exact h
    have HB3 : Hid (Below w.heap.size w (((w.alloc (.cells #[.slice q.A0 c.types.length q.d0, .slice q.A1 c.funcs.length q.d1, .slice q.A2 c.globs.length q.d2, .slice q.A3 c.tabs.length q.d3, .slice q.A4 c.mems.length q.d4, .int .i64 c.hosts, .int .i64 c.vars, .int .i64 c.els, .int .i64 c.dats, .bool c.counted] 38)).alloc (.cells #[.slice none 0 0, .slice (some ⟨w.heap.size + 1 + 1, 0, none⟩) 1 1] 49)).alloc (.cells #[.int .i64 126] 3))) := Lib.hid ((((Below.refl _ _).alloc (Nat.le_refl _) _).alloc (by simp) _).alloc (by simp; omega) _)
    have HK3 := Lib.hid hk3
    have HK4 := Lib.hid hk4
    clear hk3 hk4
    go_enter Try.func16, Try.ntmps16
    go_wp2
    have r0 := (blk_cell HK3.out 0).trans rfl
    have r1 := (blk_cell HK3.out 1).trans rfl
    refine bodyPost_ret (v := .tuple #[.agg #[.slice none 0 0, .slice (some ⟨w.heap.size + 1 + 1, 0, none⟩) 1 1], .bool true]) (by simp [results, Try.results16, go_sem, r0, r1]) rfl ?_
    exact ⟨none, 0, some ⟨w.heap.size + 1 + 1, 0, none⟩, 1, rfl, lst_none _ _ _, one_int HK4.out, HB3.out⟩
  have hE : blkTy c t = tyAt c.types t := by simp [blkTy, h0, h1, h2]
  have hE2 : blkHas c t = inB t c.types.length := by simp [blkHas, h0, h1, h2]
  rw [hE, hE2]
  have HB2 : Hid (Below w.heap.size w ((w.alloc (.cells #[.slice q.A0 c.types.length q.d0, .slice q.A1 c.funcs.length q.d1, .slice q.A2 c.globs.length q.d2, .slice q.A3 c.tabs.length q.d3, .slice q.A4 c.mems.length q.d4, .int .i64 c.hosts, .int .i64 c.vars, .int .i64 c.els, .int .i64 c.dats, .bool c.counted] 38)).alloc (.cells #[.slice none 0 0, .slice none 0 0] 49))) := Lib.hid (((Below.refl _ _).alloc (Nat.le_refl _) _).alloc (by simp) _)
  have HS2 : Hid (((w.alloc (.cells #[.slice q.A0 c.types.length q.d0, .slice q.A1 c.funcs.length q.d1, .slice q.A2 c.globs.length q.d2, .slice q.A3 c.tabs.length q.d3, .slice q.A4 c.mems.length q.d4, .int .i64 c.hosts, .int .i64 c.vars, .int .i64 c.els, .int .i64 c.dats, .bool c.counted] 38)).alloc (.cells #[.slice none 0 0, .slice none 0 0] 49)).heap.size = w.heap.size + 2) := Lib.hid (by simp)
  have hkk := Lib.hid (heap2 w (.cells #[.slice q.A0 c.types.length q.d0, .slice q.A1 c.funcs.length q.d1, .slice q.A2 c.globs.length q.d2, .slice q.A3 c.tabs.length q.d3, .slice q.A4 c.mems.length q.d4, .int .i64 c.hosts, .int .i64 c.vars, .int .i64 c.els, .int .i64 c.dats, .bool c.counted] 38) #[.slice none 0 0, .slice none 0 0] 49)
  have HNU := Lib.hid (numbered_any q c ((w.alloc (.cells #[.slice q.A0 c.types.length q.d0, .slice q.A1 c.funcs.length q.d1, .slice q.A2 c.globs.length q.d2, .slice q.A3 c.tabs.length q.d3, .slice q.A4 c.mems.length q.d4, .int .i64 c.hosts, .int .i64 c.vars, .int .i64 c.els, .int .i64 c.dats, .bool c.counted] 38)).alloc (.cells #[.slice none 0 0, .slice none 0 0] 49)) (hl.below HB2.out) hf t)
  clear hE hE2 hl hf
  generalize tyAt c.types t = x at *
  generalize inB t c.types.length = bb at *
  go_enter Try.func16, Try.ntmps16
  go_wp2_with fail
  refine HNU.out.mono ?_
  rintro en w1 ⟨D1, d1, D2, d2, rfl, hq1, hq2, hq3⟩
  have HQ := Lib.hid (And.intro hq1 (And.intro hq2 hq3))
  have hk1 := (HQ.out.2.2.block (w.heap.size + 1) (by have := HS2.out; omega)).trans hkk.out
  clear hq1 hq2 hq3
  have q0 : w1.cell? ⟨w.heap.size + 1, 0, none⟩ = some (.slice none 0 0) := (blk_cell hk1 0).trans rfl
  have q1 : w1.cell? ⟨w.heap.size + 1, 1, none⟩ = some (.slice none 0 0) := (blk_cell hk1 1).trans rfl
  have z0 := blk_free hk1 0
  have z1 := blk_free hk1 1
  have hx := blk_set (blk_set hk1 0 (.slice D1 x.1.length d1)) 1 (.slice D2 x.2.length d2)
  have r0 := blk_cell hx 0
  have r1 := blk_cell hx 1
  simp only [List.setIfInBounds_toArray, List.set_cons_zero, List.set_cons_succ, List.getElem?_toArray, List.getElem?_cons_zero, List.getElem?_cons_succ] at r0 r1
  have HFR := Lib.hid (fun p (hp : p ≠ w.heap.size + 1) => show ((w1.setCell ⟨w.heap.size + 1, 0, none⟩ (.slice D1 x.1.length d1)).setCell ⟨w.heap.size + 1, 1, none⟩ (.slice D2 x.2.length d2)).heap[p]? = w1.heap[p]? by rw [far_set (fun e => hp e.symm), far_set (fun e => hp e.symm)])
  clear hx hk1
  go_wp2
  refine bodyPost_ret (v := .tuple #[.agg #[.slice D1 x.1.length d1, .slice D2 x.2.length d2], .bool bb]) (by simp [results, Try.results16, go_sem, r0, r1]) rfl ?_
  refine ⟨D1, d1, D2, d2, rfl, HQ.out.1.keep fun p h1 _ => ⟨HFR.out p (by have := HS2.out; omega), trivial⟩, HQ.out.2.1.keep fun p h1 _ => ⟨HFR.out p (by have := HS2.out; omega), trivial⟩, HB2.out.trans ((HQ.out.2.2.mono (by have := HS2.out; omega)).trans ⟨rfl, rfl, rfl, by simp, fun p hp => HFR.out p (by omega)⟩)⟩
end
end Go.Proofs.Ytjajepeggphnbaa.Cx
