/-
  CtxRf3: The given Block and Short of layer 9; types held against each other. Conditions: the context lies in memory. (Written by wip/tools/genctxrf3.py.)
-/
import Derived.Test.YtjajepeggphnbaaQCtxRf2
import Derived.Test.YtjajepeggphnbaaQTyp
import Derived.Test.YtjajepeggphnbaaQIns
namespace Go.Proofs.Ytjajepeggphnbaa.Cx
open Go.RowKit Leb
open _root_.Go.Proofs.Ytjajepeggphnbaa.Mod

section
variable (q : Plc) (c : GCtx) (w : World) {ok : Nat → Prop}
set_option maxRecDepth 100000 in
set_option maxHeartbeats 4000000 in
theorem rblock_any (hl : CtxL w ok q c) (t : Int) : Calls Try.prog 17 #[.agg #[.slice q.A0 c.types.length q.d0, .slice q.A1 c.funcs.length q.d1, .slice q.A2 c.globs.length q.d2, .slice q.A3 c.tabs.length q.d3, .slice q.A4 c.mems.length q.d4, .int .i64 c.hosts, .int .i64 c.vars, .int .i64 c.els, .int .i64 c.dats, .bool c.counted], .int .i64 t] w (TyAny w (blkHas c t) (blkTy c t)) := by
  by_cases h0 : t = -64
  · subst h0
    have hE : blkTy c (-64) = ([], []) := by simp [blkTy]
    have hE2 : blkHas c (-64) = true := by simp [blkHas]
    rw [hE, hE2]
    have HB2 : Hid (Below w.heap.size w ((w.alloc (.cells #[.slice q.A0 c.types.length q.d0, .slice q.A1 c.funcs.length q.d1, .slice q.A2 c.globs.length q.d2, .slice q.A3 c.tabs.length q.d3, .slice q.A4 c.mems.length q.d4, .int .i64 c.hosts, .int .i64 c.vars, .int .i64 c.els, .int .i64 c.dats, .bool c.counted] 38)).alloc (.cells #[.slice none 0 0, .slice none 0 0] 49))) := Lib.hid (((Below.refl _ _).alloc (Nat.le_refl _) _).alloc (by simp) _)
    go_enter Try.func17, Try.ntmps17
    go_wp2
    refine bodyPost_ret (v := .tuple #[.agg #[.slice none 0 0, .slice none 0 0], .bool true]) (by simp [results, Try.results17, go_sem]) rfl ?_
    exact ⟨none, 0, none, 0, rfl, lst_none _ _ _, lst_none _ _ _, HB2.out⟩
  by_cases h1 : t = -1
  · subst h1
    have hE : blkTy c (-1) = ([], [127]) := by simp [blkTy]
    have hE2 : blkHas c (-1) = true := by simp [blkHas]
    rw [hE, hE2]
    have hk3 : (((w.alloc (.cells #[.slice q.A0 c.types.length q.d0, .slice q.A1 c.funcs.length q.d1, .slice q.A2 c.globs.length q.d2, .slice q.A3 c.tabs.length q.d3, .slice q.A4 c.mems.length q.d4, .int .i64 c.hosts, .int .i64 c.vars, .int .i64 c.els, .int .i64 c.dats, .bool c.counted] 38)).alloc (.cells #[.slice none 0 0, .slice (some ⟨w.heap.size + 1 + 1, 0, none⟩) 1 1] 49)).alloc (.cells #[.int .i64 127] 3)).heap[w.heap.size + 1]? = some (.cells #[.slice none 0 0, .slice (some ⟨w.heap.size + 1 + 1, 0, none⟩) 1 1] 49 (0, 0)) := (((Below.refl _ _).alloc (Nat.le_refl _) _ : Below ((w.alloc (.cells #[.slice q.A0 c.types.length q.d0, .slice q.A1 c.funcs.length q.d1, .slice q.A2 c.globs.length q.d2, .slice q.A3 c.tabs.length q.d3, .slice q.A4 c.mems.length q.d4, .int .i64 c.hosts, .int .i64 c.vars, .int .i64 c.els, .int .i64 c.dats, .bool c.counted] 38)).alloc (.cells #[.slice none 0 0, .slice (some ⟨w.heap.size + 1 + 1, 0, none⟩) 1 1] 49)).heap.size ((w.alloc (.cells #[.slice q.A0 c.types.length q.d0, .slice q.A1 c.funcs.length q.d1, .slice q.A2 c.globs.length q.d2, .slice q.A3 c.tabs.length q.d3, .slice q.A4 c.mems.length q.d4, .int .i64 c.hosts, .int .i64 c.vars, .int .i64 c.els, .int .i64 c.dats, .bool c.counted] 38)).alloc (.cells #[.slice none 0 0, .slice (some ⟨w.heap.size + 1 + 1, 0, none⟩) 1 1] 49)) (((w.alloc (.cells #[.slice q.A0 c.types.length q.d0, .slice q.A1 c.funcs.length q.d1, .slice q.A2 c.globs.length q.d2, .slice q.A3 c.tabs.length q.d3, .slice q.A4 c.mems.length q.d4, .int .i64 c.hosts, .int .i64 c.vars, .int .i64 c.els, .int .i64 c.dats, .bool c.counted] 38)).alloc (.cells #[.slice none 0 0, .slice (some ⟨w.heap.size + 1 + 1, 0, none⟩) 1 1] 49)).alloc (.cells #[.int .i64 127] 3))).block _ (by simp)).trans (heap2 w _ _ _)
    have hk4 : (((w.alloc (.cells #[.slice q.A0 c.types.length q.d0, .slice q.A1 c.funcs.length q.d1, .slice q.A2 c.globs.length q.d2, .slice q.A3 c.tabs.length q.d3, .slice q.A4 c.mems.length q.d4, .int .i64 c.hosts, .int .i64 c.vars, .int .i64 c.els, .int .i64 c.dats, .bool c.counted] 38)).alloc (.cells #[.slice none 0 0, .slice (some ⟨w.heap.size + 1 + 1, 0, none⟩) 1 1] 49)).alloc (.cells #[.int .i64 127] 3)).heap[w.heap.size + 1 + 1]? = some (.cells #[.int .i64 127] 3 (0, 0)) := by
      have h := heap_alloc_new ((w.alloc (.cells #[.slice q.A0 c.types.length q.d0, .slice q.A1 c.funcs.length q.d1, .slice q.A2 c.globs.length q.d2, .slice q.A3 c.tabs.length q.d3, .slice q.A4 c.mems.length q.d4, .int .i64 c.hosts, .int .i64 c.vars, .int .i64 c.els, .int .i64 c.dats, .bool c.counted] 38)).alloc (.cells #[.slice none 0 0, .slice (some ⟨w.heap.size + 1 + 1, 0, none⟩) 1 1] 49)) (.cells #[.int .i64 127] 3)
      have e : ((w.alloc (.cells #[.slice q.A0 c.types.length q.d0, .slice q.A1 c.funcs.length q.d1, .slice q.A2 c.globs.length q.d2, .slice q.A3 c.tabs.length q.d3, .slice q.A4 c.mems.length q.d4, .int .i64 c.hosts, .int .i64 c.vars, .int .i64 c.els, .int .i64 c.dats, .bool c.counted] 38)).alloc (.cells #[.slice none 0 0, .slice (some ⟨w.heap.size + 1 + 1, 0, none⟩) 1 1] 49)).heap.size = w.heap.size + 1 + 1 := by simp
      rw [e] at h
      exact h
    have HB3 : Hid (Below w.heap.size w (((w.alloc (.cells #[.slice q.A0 c.types.length q.d0, .slice q.A1 c.funcs.length q.d1, .slice q.A2 c.globs.length q.d2, .slice q.A3 c.tabs.length q.d3, .slice q.A4 c.mems.length q.d4, .int .i64 c.hosts, .int .i64 c.vars, .int .i64 c.els, .int .i64 c.dats, .bool c.counted] 38)).alloc (.cells #[.slice none 0 0, .slice (some ⟨w.heap.size + 1 + 1, 0, none⟩) 1 1] 49)).alloc (.cells #[.int .i64 127] 3))) := Lib.hid ((((Below.refl _ _).alloc (Nat.le_refl _) _).alloc (by simp) _).alloc (by simp; omega) _)
    have HK3 := Lib.hid hk3
    have HK4 := Lib.hid hk4
    clear hk3 hk4
    go_enter Try.func17, Try.ntmps17
    go_wp2
    have r0 := (blk_cell HK3.out 0).trans rfl
    have r1 := (blk_cell HK3.out 1).trans rfl
    refine bodyPost_ret (v := .tuple #[.agg #[.slice none 0 0, .slice (some ⟨w.heap.size + 1 + 1, 0, none⟩) 1 1], .bool true]) (by simp [results, Try.results17, go_sem, r0, r1]) rfl ?_
    exact ⟨none, 0, some ⟨w.heap.size + 1 + 1, 0, none⟩, 1, rfl, lst_none _ _ _, one_int HK4.out, HB3.out⟩
  by_cases h2 : t = -2
  · subst h2
    have hE : blkTy c (-2) = ([], [126]) := by simp [blkTy]
    have hE2 : blkHas c (-2) = true := by simp [blkHas]
    rw [hE, hE2]
    have hk3 : (((w.alloc (.cells #[.slice q.A0 c.types.length q.d0, .slice q.A1 c.funcs.length q.d1, .slice q.A2 c.globs.length q.d2, .slice q.A3 c.tabs.length q.d3, .slice q.A4 c.mems.length q.d4, .int .i64 c.hosts, .int .i64 c.vars, .int .i64 c.els, .int .i64 c.dats, .bool c.counted] 38)).alloc (.cells #[.slice none 0 0, .slice (some ⟨w.heap.size + 1 + 1, 0, none⟩) 1 1] 49)).alloc (.cells #[.int .i64 126] 3)).heap[w.heap.size + 1]? = some (.cells #[.slice none 0 0, .slice (some ⟨w.heap.size + 1 + 1, 0, none⟩) 1 1] 49 (0, 0)) := (((Below.refl _ _).alloc (Nat.le_refl _) _ : Below ((w.alloc (.cells #[.slice q.A0 c.types.length q.d0, .slice q.A1 c.funcs.length q.d1, .slice q.A2 c.globs.length q.d2, .slice q.A3 c.tabs.length q.d3, .slice q.A4 c.mems.length q.d4, .int .i64 c.hosts, .int .i64 c.vars, .int .i64 c.els, .int .i64 c.dats, .bool c.counted] 38)).alloc (.cells #[.slice none 0 0, .slice (some ⟨w.heap.size + 1 + 1, 0, none⟩) 1 1] 49)).heap.size ((w.alloc (.cells #[.slice q.A0 c.types.length q.d0, .slice q.A1 c.funcs.length q.d1, .slice q.A2 c.globs.length q.d2, .slice q.A3 c.tabs.length q.d3, .slice q.A4 c.mems.length q.d4, .int .i64 c.hosts, .int .i64 c.vars, .int .i64 c.els, .int .i64 c.dats, .bool c.counted] 38)).alloc (.cells #[.slice none 0 0, .slice (some ⟨w.heap.size + 1 + 1, 0, none⟩) 1 1] 49)) (((w.alloc (.cells #[.slice q.A0 c.types.length q.d0, .slice q.A1 c.funcs.length q.d1, .slice q.A2 c.globs.length q.d2, .slice q.A3 c.tabs.length q.d3, .slice q.A4 c.mems.length q.d4, .int .i64 c.hosts, .int .i64 c.vars, .int .i64 c.els, .int .i64 c.dats, .bool c.counted] 38)).alloc (.cells #[.slice none 0 0, .slice (some ⟨w.heap.size + 1 + 1, 0, none⟩) 1 1] 49)).alloc (.cells #[.int .i64 126] 3))).block _ (by simp)).trans (heap2 w _ _ _)
    have hk4 : (((w.alloc (.cells #[.slice q.A0 c.types.length q.d0, .slice q.A1 c.funcs.length q.d1, .slice q.A2 c.globs.length q.d2, .slice q.A3 c.tabs.length q.d3, .slice q.A4 c.mems.length q.d4, .int .i64 c.hosts, .int .i64 c.vars, .int .i64 c.els, .int .i64 c.dats, .bool c.counted] 38)).alloc (.cells #[.slice none 0 0, .slice (some ⟨w.heap.size + 1 + 1, 0, none⟩) 1 1] 49)).alloc (.cells #[.int .i64 126] 3)).heap[w.heap.size + 1 + 1]? = some (.cells #[.int .i64 126] 3 (0, 0)) := by
      have h := heap_alloc_new ((w.alloc (.cells #[.slice q.A0 c.types.length q.d0, .slice q.A1 c.funcs.length q.d1, .slice q.A2 c.globs.length q.d2, .slice q.A3 c.tabs.length q.d3, .slice q.A4 c.mems.length q.d4, .int .i64 c.hosts, .int .i64 c.vars, .int .i64 c.els, .int .i64 c.dats, .bool c.counted] 38)).alloc (.cells #[.slice none 0 0, .slice (some ⟨w.heap.size + 1 + 1, 0, none⟩) 1 1] 49)) (.cells #[.int .i64 126] 3)
      have e : ((w.alloc (.cells #[.slice q.A0 c.types.length q.d0, .slice q.A1 c.funcs.length q.d1, .slice q.A2 c.globs.length q.d2, .slice q.A3 c.tabs.length q.d3, .slice q.A4 c.mems.length q.d4, .int .i64 c.hosts, .int .i64 c.vars, .int .i64 c.els, .int .i64 c.dats, .bool c.counted] 38)).alloc (.cells #[.slice none 0 0, .slice (some ⟨w.heap.size + 1 + 1, 0, none⟩) 1 1] 49)).heap.size = w.heap.size + 1 + 1 := by simp
      rw [e] at h
      exact h
    have HB3 : Hid (Below w.heap.size w (((w.alloc (.cells #[.slice q.A0 c.types.length q.d0, .slice q.A1 c.funcs.length q.d1, .slice q.A2 c.globs.length q.d2, .slice q.A3 c.tabs.length q.d3, .slice q.A4 c.mems.length q.d4, .int .i64 c.hosts, .int .i64 c.vars, .int .i64 c.els, .int .i64 c.dats, .bool c.counted] 38)).alloc (.cells #[.slice none 0 0, .slice (some ⟨w.heap.size + 1 + 1, 0, none⟩) 1 1] 49)).alloc (.cells #[.int .i64 126] 3))) := Lib.hid ((((Below.refl _ _).alloc (Nat.le_refl _) _).alloc (by simp) _).alloc (by simp; omega) _)
    have HK3 := Lib.hid hk3
    have HK4 := Lib.hid hk4
    clear hk3 hk4
    go_enter Try.func17, Try.ntmps17
    go_wp2
    have r0 := (blk_cell HK3.out 0).trans rfl
    have r1 := (blk_cell HK3.out 1).trans rfl
    refine bodyPost_ret (v := .tuple #[.agg #[.slice none 0 0, .slice (some ⟨w.heap.size + 1 + 1, 0, none⟩) 1 1], .bool true]) (by simp [results, Try.results17, go_sem, r0, r1]) rfl ?_
    exact ⟨none, 0, some ⟨w.heap.size + 1 + 1, 0, none⟩, 1, rfl, lst_none _ _ _, one_int HK4.out, HB3.out⟩
  have hE : blkTy c t = tyAt c.types t := by simp [blkTy, h0, h1, h2]
  have hE2 : blkHas c t = inB t c.types.length := by simp [blkHas, h0, h1, h2]
  rw [hE, hE2]
  have b1 : (t == -1) = false := by simp [h1]
  have b2 : (t == -2) = false := by simp [h2]
  have HB2 : Hid (Below w.heap.size w ((w.alloc (.cells #[.slice q.A0 c.types.length q.d0, .slice q.A1 c.funcs.length q.d1, .slice q.A2 c.globs.length q.d2, .slice q.A3 c.tabs.length q.d3, .slice q.A4 c.mems.length q.d4, .int .i64 c.hosts, .int .i64 c.vars, .int .i64 c.els, .int .i64 c.dats, .bool c.counted] 38)).alloc (.cells #[.slice none 0 0, .slice none 0 0] 49))) := Lib.hid (((Below.refl _ _).alloc (Nat.le_refl _) _).alloc (by simp) _)
  cases hb : inB t c.types.length with
  | false =>
    have hE3 : tyAt c.types t = ([], []) := by simp [tyAt, hb]
    rw [hE3]
    have HIN : Hid (∀ V : World, Calls Try.prog 26 #[.int .i64 t, .int .i64 (c.types.length : Int)] V fun en w' => en = .returned (.bool false) ∧ w' = V) := Lib.hid fun V => by
      have h := rin_any t (c.types.length : Int) V
      have e : (decide (0 ≤ t) && decide (t < (c.types.length : Int))) = false := hb
      rwa [e] at h
    clear hE hE2 hE3 hb hl
    go_enter Try.func17, Try.ntmps17
    go_wp2_with fail
    refine (HIN.out _).mono ?_
    rintro en w1 ⟨rfl, rfl⟩
    go_wp2
    refine bodyPost_ret (v := .tuple #[.agg #[.slice none 0 0, .slice none 0 0], .bool false]) (by simp [results, Try.results17, go_sem]) rfl ?_
    exact ⟨none, 0, none, 0, rfl, lst_none _ _ _, lst_none _ _ _, HB2.out⟩
  | true =>
    have HIN : Hid (∀ V : World, Calls Try.prog 26 #[.int .i64 t, .int .i64 (c.types.length : Int)] V fun en w' => en = .returned (.bool true) ∧ w' = V) := Lib.hid fun V => by
      have h := rin_any t (c.types.length : Int) V
      have e : (decide (0 ≤ t) && decide (t < (c.types.length : Int))) = true := hb
      rwa [e] at h
    obtain ⟨k, rfl, hk⟩ := inB_iff.1 hb
    have hE3 : tyAt c.types (k : Int) = c.types[k] := by unfold tyAt; rw [hb]; exact getD_at _ _ k hk
    rw [hE3]
    have hki : (k : Int) < (c.types.length : Int) := by omega
    obtain ⟨b, off, A1, c1, A2, c2, hA, hg⟩ := sm_ft hl.l0 k hk
    obtain ⟨y0, y1, l1, l2⟩ := hg _ HB2.out
    have HL1 := Lib.hid (fun V hV => (hg V hV).2.2.1)
    have HL2 := Lib.hid (fun V hV => (hg V hV).2.2.2)
    rw [hA]
    simp only [hA] at y0 y1 HB2
    clear hE hE2 hE3 hb hl hg l1 l2 hA
    generalize c.types[k] = x at *
    have HR : Hid (∀ V, Below w.heap.size w V → Lst intR V (fun _ => True) A1 c1 x.1 ∧ Lst intR V (fun _ => True) A2 c2 x.2) := Lib.hid fun V hV => ⟨(HL1.out V hV).keep fun b _ _ => ⟨rfl, trivial⟩, (HL2.out V hV).keep fun b _ _ => ⟨rfl, trivial⟩⟩
    clear HL1 HL2
    obtain ⟨W4, hW4⟩ : ∃ W4 : World, W4 = ((w.alloc (.cells #[.slice (some ⟨b, off, none⟩) c.types.length q.d0, .slice q.A1 c.funcs.length q.d1, .slice q.A2 c.globs.length q.d2, .slice q.A3 c.tabs.length q.d3, .slice q.A4 c.mems.length q.d4, .int .i64 c.hosts, .int .i64 c.vars, .int .i64 c.els, .int .i64 c.dats, .bool c.counted] 38)).alloc (.cells #[.slice A1 x.1.length c1, .slice A2 x.2.length c2] 49)) := ⟨_, rfl⟩
    have HW4 := Lib.hid hW4
    have HB4 : Hid (Below w.heap.size w W4) := Lib.hid (by rw [HW4.out]; exact (((Below.refl _ _).alloc (Nat.le_refl _) _).alloc (by simp) _))
    clear hW4
    go_enter Try.func17, Try.ntmps17
    go_wp2_with fail
    refine (HIN.out _).mono ?_
    rintro en w1 ⟨rfl, rfl⟩
    go_wp2
    rw [← HW4.out]
    refine bodyPost_ret (v := .tuple #[.agg #[.slice A1 x.1.length c1, .slice A2 x.2.length c2], .bool true]) (by rw [HW4.out]; simp [results, Try.results17, go_sem]) rfl ?_
    exact ⟨A1, c1, A2, c2, rfl, (HR.out _ HB4.out).1, (HR.out _ HB4.out).2, HB4.out⟩
def ShC (w : World) (c : GCtx) (en : Ending) (w' : World) : Prop := ∃ b : Bool, en = .returned (.bool b) ∧ (b = true → FtS c ∧ c.types.length ≤ 70 ∧ c.funcs.length ≤ 140) ∧ Below w.heap.size w w'
set_option maxRecDepth 100000 in
set_option maxHeartbeats 4000000 in
theorem rshort_any (hl : CtxL w ok q c) : Calls Try.prog 14 #[.agg #[.slice q.A0 c.types.length q.d0, .slice q.A1 c.funcs.length q.d1, .slice q.A2 c.globs.length q.d2, .slice q.A3 c.tabs.length q.d3, .slice q.A4 c.mems.length q.d4, .int .i64 c.hosts, .int .i64 c.vars, .int .i64 c.els, .int .i64 c.dats, .bool c.counted]] w (ShC w c) := by
  by_cases h0 : (70 : Int) < (c.types.length : Int)
  · clear hl
    go_enter Try.func14, Try.ntmps14
    go_wp2
    go_ret
    exact ⟨false, rfl, (fun h => by cases h), (Below.refl _ _).alloc (Nat.le_refl _) _⟩
  by_cases h1 : (140 : Int) < (c.funcs.length : Int)
  · clear hl
    go_enter Try.func14, Try.ntmps14
    go_wp2
    go_ret
    exact ⟨false, rfl, (fun h => by cases h), (Below.refl _ _).alloc (Nat.le_refl _) _⟩
  by_cases h2 : (140 : Int) < (c.globs.length : Int)
  · clear hl
    go_enter Try.func14, Try.ntmps14
    go_wp2
    go_ret
    exact ⟨false, rfl, (fun h => by cases h), (Below.refl _ _).alloc (Nat.le_refl _) _⟩
  by_cases h3 : (10 : Int) < (c.tabs.length : Int)
  · clear hl
    go_enter Try.func14, Try.ntmps14
    go_wp2
    go_ret
    exact ⟨false, rfl, (fun h => by cases h), (Below.refl _ _).alloc (Nat.le_refl _) _⟩
  by_cases h4 : (10 : Int) < (c.mems.length : Int)
  · clear hl
    go_enter Try.func14, Try.ntmps14
    go_wp2
    go_ret
    exact ⟨false, rfl, (fun h => by cases h), (Below.refl _ _).alloc (Nat.le_refl _) _⟩
  have HL := Lib.hid hl
  have HB1 : Hid (Below w.heap.size w (w.alloc (.cells #[.slice q.A0 c.types.length q.d0, .slice q.A1 c.funcs.length q.d1, .slice q.A2 c.globs.length q.d2, .slice q.A3 c.tabs.length q.d3, .slice q.A4 c.mems.length q.d4, .int .i64 c.hosts, .int .i64 c.vars, .int .i64 c.els, .int .i64 c.dats, .bool c.counted] 38))) := Lib.hid ((Below.refl _ _).alloc (Nat.le_refl _) _)
  have HBX : Hid (BoxC w.heap.size (w.alloc (.cells #[.slice q.A0 c.types.length q.d0, .slice q.A1 c.funcs.length q.d1, .slice q.A2 c.globs.length q.d2, .slice q.A3 c.tabs.length q.d3, .slice q.A4 c.mems.length q.d4, .int .i64 c.hosts, .int .i64 c.vars, .int .i64 c.els, .int .i64 c.dats, .bool c.counted] 38)) q c) := Lib.hid (by refine ⟨?_, ?_, ?_, ?_, ?_, ?_, ?_, ?_, ?_, ?_⟩ <;> simp)
  have h0' : (c.types.length : Int) ≤ 70 := by omega
  have HN : Hid (c.types.length ≤ 70 ∧ c.funcs.length ≤ 140) := Lib.hid (by omega)
  clear hl
  go_enter Try.func14, Try.ntmps14
  go_wp2_with fail
  clear h0 h1 h2 h3 h4
  generalize (w.alloc (.cells #[.slice q.A0 c.types.length q.d0, .slice q.A1 c.funcs.length q.d1, .slice q.A2 c.globs.length q.d2, .slice q.A3 c.tabs.length q.d3, .slice q.A4 c.mems.length q.d4, .int .i64 c.hosts, .int .i64 c.vars, .int .i64 c.els, .int .i64 c.dats, .bool c.counted] 38)) = W at *
  obtain ⟨x0, x1, x2, x3, x4, x5, x6, x7, x8, x9⟩ := HBX.out
  clear x1 x2 x3 x4 x5 x6 x7 x8 x9
  go_loopw [3] (fun i wr => ∃ j : Nat, i = .int .i64 (j : Int) ∧ j ≤ c.types.length ∧ wr = W ∧ Hid (∀ x ∈ c.types.take j, x.1.length ≤ 20 ∧ x.2.length ≤ 20)) (fun i _ => c.types.length - (intOf i).toNat)
  case atStart => exact ⟨0, rfl, Nat.zero_le _, rfl, Lib.hid (by simp)⟩
  case round =>
    obtain ⟨j, rfl, hj, hwr, HI⟩ := hrel
    subst wr
    by_cases hlt : j < c.types.length
    · have hlti : (j : Int) < (c.types.length : Int) := by omega
      obtain ⟨b, off, A1, c1, A2, c2, hA, hg⟩ := sm_ft HL.out.l0 j hlt
      obtain ⟨y0, y1, _, _⟩ := hg W HB1.out
      have HNX : Hid (c.types[j].1.length ≤ 20 ∧ c.types[j].2.length ≤ 20 → ∀ x ∈ c.types.take (j + 1), x.1.length ≤ 20 ∧ x.2.length ≤ 20) := Lib.hid fun h => all_next (P := fun x : GFt => x.1.length ≤ 20 ∧ x.2.length ≤ 20) hlt HI.out h
      rw [hA] at x0
      clear hg hA
      generalize c.types[j] = x at *
      obtain ⟨n1, hn1⟩ : ∃ n, x.1.length = n := ⟨_, rfl⟩
      obtain ⟨n2, hn2⟩ : ∃ n, x.2.length = n := ⟨_, rfl⟩
      simp only [hn1, hn2] at *
      clear hn1 hn2
      by_cases g1 : (20 : Int) < (n1 : Int)
      · clear HNX
        go_wp2
        go_ret
        exact ⟨false, rfl, (fun h => by cases h), HB1.out⟩
      by_cases g2 : (20 : Int) < (n2 : Int)
      · clear HNX
        go_wp2
        go_ret
        exact ⟨false, rfl, (fun h => by cases h), HB1.out⟩
      · have HN2 := Lib.hid (HNX.out ⟨by omega, by omega⟩)
        clear HNX
        go_wp2
        go_roundw
        case rel => exact ⟨j + 1, by go_num, by omega, by trivial, HN2⟩
        case measure => simp [intOf]; omega
    · have hlti : ¬ (j : Int) < (c.types.length : Int) := by omega
      have HF : Hid (FtS c) := Lib.hid fun x hx => by have := all_whole hlt HI.out x hx; omega
      go_wp2
      go_ret
      exact ⟨true, rfl, fun _ => ⟨HF.out, HN.out.1, HN.out.2⟩, HB1.out⟩
end
theorem ftype_of {w : World} {ok1 ok2 : Nat → Prop} {A1 : Option Addr} {c1 : Nat} {A2 : Option Addr} {c2 : Nat} {x : GFt} (h1 : Lst intR w ok1 A1 c1 x.1) (h2 : Lst intR w ok2 A2 c2 x.2) : Typ.FType w (.agg #[.slice A1 x.1.length c1, .slice A2 x.2.length c2]) x.1 x.2 := ⟨A1, c1, A2, c2, rfl, h1.ints, h2.ints, h1.room, h2.room, h1.nil, h2.nil⟩
theorem rsame_ft (w : World) {ok1 ok2 ok3 ok4 : Nat → Prop} {A1 : Option Addr} {c1 : Nat} {A2 : Option Addr} {c2 : Nat} {A3 : Option Addr} {c3 : Nat} {A4 : Option Addr} {c4 : Nat} (x y : GFt) (h1 : Lst intR w ok1 A1 c1 x.1) (h2 : Lst intR w ok2 A2 c2 x.2) (h3 : Lst intR w ok3 A3 c3 y.1) (h4 : Lst intR w ok4 A4 c4 y.2) (hx : x.1.length ≤ 100000 ∧ x.2.length ≤ 100000) (hy : y.1.length ≤ 100000 ∧ y.2.length ≤ 100000) : Calls Try.prog 18 #[.agg #[.slice A1 x.1.length c1, .slice A2 x.2.length c2], .agg #[.slice A3 y.1.length c3, .slice A4 y.2.length c4]] w (BoolIs w (decide (x.1 = y.1 ∧ x.2 = y.2))) := Typ.rsame_any _ _ x.1 x.2 y.1 y.2 w (ftype_of h1 h2) (ftype_of h3 h4) (by omega) (by omega) (by omega) (by omega)
end Go.Proofs.Ytjajepeggphnbaa.Cx
