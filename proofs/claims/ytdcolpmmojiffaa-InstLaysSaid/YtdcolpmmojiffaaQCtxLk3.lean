/-
  CtxLk3: ctx.Constant, and the methods of looker that call it or Type. Conditions: the context lies in memory. (Written by wip/tools/genctxlk3.py.)
-/
import Derived.Test.YtdcolpmmojiffaaQCtxLk2
namespace Go.Proofs.Ytdcolpmmojiffaa.Cx
open Go.RowKit Leb
open _root_.Go.Proofs.Ytdcolpmmojiffaa.Mod

theorem tyAt_len {c : GCtx} (hf : FtS c) (t : Int) : (tyAt c.types t).1.length ≤ 100000 ∧ (tyAt c.types t).2.length ≤ 100000 := by
  unfold tyAt
  cases hb : inB t c.types.length with
  | false => simp
  | true =>
    obtain ⟨k, rfl, hk⟩ := inB_iff.1 hb
    rw [getD_at _ _ k hk]
    exact hf _ (List.getElem_mem hk)
theorem fnTy_len {c : GCtx} (hf : FtS c) (f : Int) : (fnTy c f).1.length ≤ 100000 ∧ (fnTy c f).2.length ≤ 100000 := by
  unfold fnTy
  split
  · exact tyAt_len hf _
  · simp
def Two (V : World) (b off : Nat) (o1 a1 b1 k1 : Int) (L1 : Option Addr) (n1 d1 : Nat) (o2 : Int) : Prop := V.cell? ⟨b, off, none⟩ = some (.int .i64 o1) ∧ V.cell? ⟨b, off + 1, none⟩ = some (.int .i64 a1) ∧ V.cell? ⟨b, off + 2, none⟩ = some (.int .i64 b1) ∧ V.cell? ⟨b, off + 3, none⟩ = some (.int .i64 k1) ∧ V.cell? ⟨b, off + 4, none⟩ = some (.slice L1 n1 d1) ∧ V.cell? ⟨b, off + 5, none⟩ = some (.int .i64 o2)
section
variable (q : Plc) (c : GCtx) (w : World) {ok : Nat → Prop}
set_option maxRecDepth 100000 in
set_option maxHeartbeats 4000000 in
theorem const_len (A : Option Addr) (n cc : Nat) (hn : n ≠ 2) (t : Int) : Calls Try.prog 62 #[.agg #[.slice q.A0 c.types.length q.d0, .slice q.A1 c.funcs.length q.d1, .slice q.A2 c.globs.length q.d2, .slice q.A3 c.tabs.length q.d3, .slice q.A4 c.mems.length q.d4, .int .i64 c.hosts, .int .i64 c.vars, .int .i64 c.els, .int .i64 c.dats, .bool c.counted], .slice A n cc, .int .i64 t] w (BoolIs w false) := by
  have h2 : ¬ (n : Int) = 2 := by omega
  go_enter Try.func62, Try.ntmps62
  go_wp2
  go_ret
  exact ⟨rfl, (Below.refl _ _).alloc (Nat.le_refl _) _⟩
set_option maxRecDepth 100000 in
set_option maxHeartbeats 4000000 in
theorem const_two (b off cc : Nat) (o1 a1 b1 k1 : Int) (L1 : Option Addr) (n1 d1 : Nat) (o2 t : Int) (H : ∀ V, Below w.heap.size w V → Two V b off o1 a1 b1 k1 L1 n1 d1 o2) (h35 : o1 ≠ 35) : Calls Try.prog 62 #[.agg #[.slice q.A0 c.types.length q.d0, .slice q.A1 c.funcs.length q.d1, .slice q.A2 c.globs.length q.d2, .slice q.A3 c.tabs.length q.d3, .slice q.A4 c.mems.length q.d4, .int .i64 c.hosts, .int .i64 c.vars, .int .i64 c.els, .int .i64 c.dats, .bool c.counted], .slice (some ⟨b, off, none⟩) 2 cc, .int .i64 t] w (BoolIs w (decide (o2 = 11) && (if o1 = 65 then decide (t = 127) else if o1 = 66 then decide (t = 126) else false))) := by
  obtain ⟨h0, h1, h2, h3, h4, h5⟩ := H (w.alloc (.cells #[.slice q.A0 c.types.length q.d0, .slice q.A1 c.funcs.length q.d1, .slice q.A2 c.globs.length q.d2, .slice q.A3 c.tabs.length q.d3, .slice q.A4 c.mems.length q.d4, .int .i64 c.hosts, .int .i64 c.vars, .int .i64 c.els, .int .i64 c.dats, .bool c.counted] 66)) ((Below.refl _ _).alloc (Nat.le_refl _) _)
  clear H
  by_cases g0 : o2 = 11
  · by_cases g1 : o1 = 65
    · have hE : (decide (o2 = 11) && (if o1 = 65 then decide (t = 127) else if o1 = 66 then decide (t = 126) else false)) = decide (t = 127) := by simp [g0, g1]
      rw [hE]
      subst g0 g1
      by_cases g2 : t = 127
      · subst g2
        go_enter Try.func62, Try.ntmps62
        go_wp2
        go_ret
        exact ⟨rfl, (((Below.refl _ _).alloc (Nat.le_refl _) _).alloc (by simp) _)⟩
      · have hE2 : decide (t = 127) = false := by simp [g2]
        rw [hE2]
        go_enter Try.func62, Try.ntmps62
        go_wp2
        go_ret
        exact ⟨by simp [g2], (((Below.refl _ _).alloc (Nat.le_refl _) _).alloc (by simp) _)⟩
    by_cases g3 : o1 = 66
    · have hE : (decide (o2 = 11) && (if o1 = 65 then decide (t = 127) else if o1 = 66 then decide (t = 126) else false)) = decide (t = 126) := by simp [g0, g3]
      rw [hE]
      subst g0 g3
      by_cases g2 : t = 126
      · subst g2
        go_enter Try.func62, Try.ntmps62
        go_wp2
        go_ret
        exact ⟨rfl, (((Below.refl _ _).alloc (Nat.le_refl _) _).alloc (by simp) _)⟩
      · have hE2 : decide (t = 126) = false := by simp [g2]
        rw [hE2]
        go_enter Try.func62, Try.ntmps62
        go_wp2
        go_ret
        exact ⟨by simp [g2], (((Below.refl _ _).alloc (Nat.le_refl _) _).alloc (by simp) _)⟩
    · have hE : (decide (o2 = 11) && (if o1 = 65 then decide (t = 127) else if o1 = 66 then decide (t = 126) else false)) = false := by simp [g1, g3]
      rw [hE]
      subst g0
      go_enter Try.func62, Try.ntmps62
      go_wp2
      go_ret
      exact ⟨rfl, (((Below.refl _ _).alloc (Nat.le_refl _) _).alloc (by simp) _)⟩
  · have hE : (decide (o2 = 11) && (if o1 = 65 then decide (t = 127) else if o1 = 66 then decide (t = 126) else false)) = false := by simp [g0]
    rw [hE]
    go_enter Try.func62, Try.ntmps62
    go_wp2
    go_ret
    exact ⟨rfl, (Below.refl _ _).alloc (Nat.le_refl _) _⟩
set_option maxRecDepth 100000 in
set_option maxHeartbeats 4000000 in
theorem const_get (hl : CtxL w ok q c) (b off cc : Nat) (a1 b1 k1 : Int) (L1 : Option Addr) (n1 d1 : Nat) (o2 t : Int) (H : ∀ V, Below w.heap.size w V → Two V b off 35 a1 b1 k1 L1 n1 d1 o2) : Calls Try.prog 62 #[.agg #[.slice q.A0 c.types.length q.d0, .slice q.A1 c.funcs.length q.d1, .slice q.A2 c.globs.length q.d2, .slice q.A3 c.tabs.length q.d3, .slice q.A4 c.mems.length q.d4, .int .i64 c.hosts, .int .i64 c.vars, .int .i64 c.els, .int .i64 c.dats, .bool c.counted], .slice (some ⟨b, off, none⟩) 2 cc, .int .i64 t] w (BoolIs w (decide (o2 = 11) && (decide (0 ≤ a1) && decide (a1 < min c.vars (c.globs.length : Int)) && decide (c.globs.getD a1.toNat (0, false) = (t, false))))) := by
  obtain ⟨h0, h1, h2, h3, h4, h5⟩ := H (w.alloc (.cells #[.slice q.A0 c.types.length q.d0, .slice q.A1 c.funcs.length q.d1, .slice q.A2 c.globs.length q.d2, .slice q.A3 c.tabs.length q.d3, .slice q.A4 c.mems.length q.d4, .int .i64 c.hosts, .int .i64 c.vars, .int .i64 c.els, .int .i64 c.dats, .bool c.counted] 66)) ((Below.refl _ _).alloc (Nat.le_refl _) _)
  clear H
  by_cases g0 : o2 = 11
  · subst g0
    have HB2 : Hid (Below w.heap.size w ((w.alloc (.cells #[.slice q.A0 c.types.length q.d0, .slice q.A1 c.funcs.length q.d1, .slice q.A2 c.globs.length q.d2, .slice q.A3 c.tabs.length q.d3, .slice q.A4 c.mems.length q.d4, .int .i64 c.hosts, .int .i64 c.vars, .int .i64 c.els, .int .i64 c.dats, .bool c.counted] 66)).alloc (.cells #[.int .i64 35, .int .i64 a1, .int .i64 b1, .int .i64 k1, .slice L1 n1 d1] 123))) := Lib.hid (((Below.refl _ _).alloc (Nat.le_refl _) _).alloc (by simp) _)
    by_cases hm1 : c.vars < (c.globs.length : Int)
    · have hm2 : ¬ (c.globs.length : Int) < c.vars := by omega
      have hmin : min c.vars (c.globs.length : Int) = c.vars := Int.min_eq_left (by omega)
      rw [hmin]
      cases hr : (decide (0 ≤ a1) && decide (a1 < c.vars)) with
      | false =>
        have hE : (decide ((11 : Int) = 11) && (false && decide (c.globs.getD a1.toNat (0, false) = (t, false)))) = false := by simp
        rw [hE]
        have HT : Hid (∀ V : World, Calls Try.prog 63 #[.int .i64 a1, .int .i64 c.vars] V fun en w' => en = .returned (.bool false) ∧ w' = V) := Lib.hid fun V => by
          have := thereI_any a1 c.vars V
          rwa [hr] at this
        clear hr hE hmin
        go_enter Try.func62, Try.ntmps62
        go_wp2_with fail
        refine (HT.out _).mono ?_
        rintro en w1 ⟨rfl, rfl⟩
        go_wp2
        go_ret
        exact ⟨rfl, HB2.out⟩
      | true =>
        have HT : Hid (∀ V : World, Calls Try.prog 63 #[.int .i64 a1, .int .i64 c.vars] V fun en w' => en = .returned (.bool true) ∧ w' = V) := Lib.hid fun V => by
          have := thereI_any a1 c.vars V
          rwa [hr] at this
        obtain ⟨k, rfl⟩ : ∃ k : Nat, a1 = (k : Int) := ⟨a1.toNat, by simp at hr; omega⟩
        have hk : k < c.globs.length := by simp at hr; omega
        have hki : (k : Int) < (c.globs.length : Int) := by omega
        obtain ⟨b2, off2, hA, hg⟩ := sm_var hl.l2 k hk
        obtain ⟨y0, y1⟩ := hg _ HB2.out
        have hR : (decide ((11 : Int) = 11) && (true && decide (c.globs.getD ((k : Nat) : Int).toNat (0, false) = (t, false)))) = decide (c.globs[k] = (t, false)) := by rw [getD_at _ _ k hk]; simp
        rw [hR, hA]
        simp only [hA] at h0 h1 h2 h3 h4 h5 y0 y1 HB2
        clear hr hmin hA hg hR hl
        generalize c.globs[k] = x at *
        obtain ⟨gt, gm⟩ := x
        simp only at y0 y1
        cases gm with
        | true =>
          have hE2 : decide (((gt, true) : GVar) = (t, false)) = false := by simp
          rw [hE2]
          clear hE2
          go_enter Try.func62, Try.ntmps62
          go_wp2_with fail
          refine (HT.out _).mono ?_
          rintro en w1 ⟨rfl, rfl⟩
          go_wp2
          go_ret
          exact ⟨by simp, HB2.out⟩
        | false =>
          by_cases hgt : gt = t
          · subst hgt
            have hE2 : decide (((gt, false) : GVar) = (gt, false)) = true := by simp
            rw [hE2]
            clear hE2
            go_enter Try.func62, Try.ntmps62
            go_wp2_with fail
            refine (HT.out _).mono ?_
            rintro en w1 ⟨rfl, rfl⟩
            go_wp2
            go_ret
            exact ⟨by simp, HB2.out⟩
          · have hE2 : decide (((gt, false) : GVar) = (t, false)) = false := by simp [hgt]
            rw [hE2]
            clear hE2
            go_enter Try.func62, Try.ntmps62
            go_wp2_with fail
            refine (HT.out _).mono ?_
            rintro en w1 ⟨rfl, rfl⟩
            go_wp2
            go_ret
            exact ⟨by simp, HB2.out⟩
    by_cases hm2 : (c.globs.length : Int) < c.vars
    · skip
      have hmin : min c.vars (c.globs.length : Int) = (c.globs.length : Int) := Int.min_eq_right (by omega)
      rw [hmin]
      cases hr : (decide (0 ≤ a1) && decide (a1 < (c.globs.length : Int))) with
      | false =>
        have hE : (decide ((11 : Int) = 11) && (false && decide (c.globs.getD a1.toNat (0, false) = (t, false)))) = false := by simp
        rw [hE]
        have HT : Hid (∀ V : World, Calls Try.prog 63 #[.int .i64 a1, .int .i64 (c.globs.length : Int)] V fun en w' => en = .returned (.bool false) ∧ w' = V) := Lib.hid fun V => by
          have := thereI_any a1 (c.globs.length : Int) V
          rwa [hr] at this
        clear hr hE hmin
        go_enter Try.func62, Try.ntmps62
        go_wp2_with fail
        refine (HT.out _).mono ?_
        rintro en w1 ⟨rfl, rfl⟩
        go_wp2
        go_ret
        exact ⟨rfl, HB2.out⟩
      | true =>
        have HT : Hid (∀ V : World, Calls Try.prog 63 #[.int .i64 a1, .int .i64 (c.globs.length : Int)] V fun en w' => en = .returned (.bool true) ∧ w' = V) := Lib.hid fun V => by
          have := thereI_any a1 (c.globs.length : Int) V
          rwa [hr] at this
        obtain ⟨k, rfl⟩ : ∃ k : Nat, a1 = (k : Int) := ⟨a1.toNat, by simp at hr; omega⟩
        have hk : k < c.globs.length := by simp at hr; omega
        have hki : (k : Int) < (c.globs.length : Int) := by omega
        obtain ⟨b2, off2, hA, hg⟩ := sm_var hl.l2 k hk
        obtain ⟨y0, y1⟩ := hg _ HB2.out
        have hR : (decide ((11 : Int) = 11) && (true && decide (c.globs.getD ((k : Nat) : Int).toNat (0, false) = (t, false)))) = decide (c.globs[k] = (t, false)) := by rw [getD_at _ _ k hk]; simp
        rw [hR, hA]
        simp only [hA] at h0 h1 h2 h3 h4 h5 y0 y1 HB2
        clear hr hmin hA hg hR hl
        generalize c.globs[k] = x at *
        obtain ⟨gt, gm⟩ := x
        simp only at y0 y1
        cases gm with
        | true =>
          have hE2 : decide (((gt, true) : GVar) = (t, false)) = false := by simp
          rw [hE2]
          clear hE2
          go_enter Try.func62, Try.ntmps62
          go_wp2_with fail
          refine (HT.out _).mono ?_
          rintro en w1 ⟨rfl, rfl⟩
          go_wp2
          go_ret
          exact ⟨by simp, HB2.out⟩
        | false =>
          by_cases hgt : gt = t
          · subst hgt
            have hE2 : decide (((gt, false) : GVar) = (gt, false)) = true := by simp
            rw [hE2]
            clear hE2
            go_enter Try.func62, Try.ntmps62
            go_wp2_with fail
            refine (HT.out _).mono ?_
            rintro en w1 ⟨rfl, rfl⟩
            go_wp2
            go_ret
            exact ⟨by simp, HB2.out⟩
          · have hE2 : decide (((gt, false) : GVar) = (t, false)) = false := by simp [hgt]
            rw [hE2]
            clear hE2
            go_enter Try.func62, Try.ntmps62
            go_wp2_with fail
            refine (HT.out _).mono ?_
            rintro en w1 ⟨rfl, rfl⟩
            go_wp2
            go_ret
            exact ⟨by simp, HB2.out⟩
    · skip
      have hmin : min c.vars (c.globs.length : Int) = c.vars := Int.min_eq_left (by omega)
      rw [hmin]
      cases hr : (decide (0 ≤ a1) && decide (a1 < c.vars)) with
      | false =>
        have hE : (decide ((11 : Int) = 11) && (false && decide (c.globs.getD a1.toNat (0, false) = (t, false)))) = false := by simp
        rw [hE]
        have HT : Hid (∀ V : World, Calls Try.prog 63 #[.int .i64 a1, .int .i64 c.vars] V fun en w' => en = .returned (.bool false) ∧ w' = V) := Lib.hid fun V => by
          have := thereI_any a1 c.vars V
          rwa [hr] at this
        clear hr hE hmin
        go_enter Try.func62, Try.ntmps62
        go_wp2_with fail
        refine (HT.out _).mono ?_
        rintro en w1 ⟨rfl, rfl⟩
        go_wp2
        go_ret
        exact ⟨rfl, HB2.out⟩
      | true =>
        have HT : Hid (∀ V : World, Calls Try.prog 63 #[.int .i64 a1, .int .i64 c.vars] V fun en w' => en = .returned (.bool true) ∧ w' = V) := Lib.hid fun V => by
          have := thereI_any a1 c.vars V
          rwa [hr] at this
        obtain ⟨k, rfl⟩ : ∃ k : Nat, a1 = (k : Int) := ⟨a1.toNat, by simp at hr; omega⟩
        have hk : k < c.globs.length := by simp at hr; omega
        have hki : (k : Int) < (c.globs.length : Int) := by omega
        obtain ⟨b2, off2, hA, hg⟩ := sm_var hl.l2 k hk
        obtain ⟨y0, y1⟩ := hg _ HB2.out
        have hR : (decide ((11 : Int) = 11) && (true && decide (c.globs.getD ((k : Nat) : Int).toNat (0, false) = (t, false)))) = decide (c.globs[k] = (t, false)) := by rw [getD_at _ _ k hk]; simp
        rw [hR, hA]
        simp only [hA] at h0 h1 h2 h3 h4 h5 y0 y1 HB2
        clear hr hmin hA hg hR hl
        generalize c.globs[k] = x at *
        obtain ⟨gt, gm⟩ := x
        simp only at y0 y1
        cases gm with
        | true =>
          have hE2 : decide (((gt, true) : GVar) = (t, false)) = false := by simp
          rw [hE2]
          clear hE2
          go_enter Try.func62, Try.ntmps62
          go_wp2_with fail
          refine (HT.out _).mono ?_
          rintro en w1 ⟨rfl, rfl⟩
          go_wp2
          go_ret
          exact ⟨by simp, HB2.out⟩
        | false =>
          by_cases hgt : gt = t
          · subst hgt
            have hE2 : decide (((gt, false) : GVar) = (gt, false)) = true := by simp
            rw [hE2]
            clear hE2
            go_enter Try.func62, Try.ntmps62
            go_wp2_with fail
            refine (HT.out _).mono ?_
            rintro en w1 ⟨rfl, rfl⟩
            go_wp2
            go_ret
            exact ⟨by simp, HB2.out⟩
          · have hE2 : decide (((gt, false) : GVar) = (t, false)) = false := by simp [hgt]
            rw [hE2]
            clear hE2
            go_enter Try.func62, Try.ntmps62
            go_wp2_with fail
            refine (HT.out _).mono ?_
            rintro en w1 ⟨rfl, rfl⟩
            go_wp2
            go_ret
            exact ⟨by simp, HB2.out⟩
  · have hE : (decide (o2 = 11) && (decide (0 ≤ a1) && decide (a1 < min c.vars (c.globs.length : Int)) && decide (c.globs.getD a1.toNat (0, false) = (t, false)))) = false := by simp [g0]
    rw [hE]
    go_enter Try.func62, Try.ntmps62
    go_wp2
    go_ret
    exact ⟨rfl, (Below.refl _ _).alloc (Nat.le_refl _) _⟩
set_option maxRecDepth 100000 in
set_option maxHeartbeats 4000000 in
theorem constant_any (hl : CtxL w ok q c) {okI : Nat → Prop} {A : Option Addr} {cc : Nat} (l : List Ins.Ins) (hi : Lst insR w okI A cc l) (t : Int) : Calls Try.prog 62 #[.agg #[.slice q.A0 c.types.length q.d0, .slice q.A1 c.funcs.length q.d1, .slice q.A2 c.globs.length q.d2, .slice q.A3 c.tabs.length q.d3, .slice q.A4 c.mems.length q.d4, .int .i64 c.hosts, .int .i64 c.vars, .int .i64 c.els, .int .i64 c.dats, .bool c.counted], .slice A l.length cc, .int .i64 t] w (BoolIs w (constB c l t)) := by
  match l, hi with
  | [], _ => exact const_len q c w A 0 cc (by omega) t
  | [_], _ => exact const_len q c w A 1 cc (by omega) t
  | _ :: _ :: _ :: r, _ => exact const_len q c w A (r.length + 3) cc (by omega) t
  | [x, y], hi =>
    obtain ⟨b, off, L1, d1, hA, h1⟩ := sm_ins hi 0 (by simp)
    obtain ⟨b', off', L2, d2, hA', h2⟩ := sm_ins hi 1 (by simp)
    rw [hA] at hA'
    injection hA' with hA'
    injection hA' with e1 e2 _
    subst e1 e2
    have HT : ∀ V, Below w.heap.size w V → Two V b off x.op x.a x.b x.k L1 x.l.length d1 y.op := fun V hV => by
      obtain ⟨p0, p1, p2, p3, p4⟩ := h1 V hV
      obtain ⟨p5, _⟩ := h2 V hV
      simp only [Nat.zero_mul, Nat.add_zero, Nat.one_mul, List.getElem_cons_zero, List.getElem_cons_succ] at p0 p1 p2 p3 p4 p5
      exact ⟨p0, p1, p2, p3, p4, p5⟩
    rw [hA]
    by_cases h35 : x.op = 35
    · have hE : constB c [x, y] t = (decide (y.op = 11) && (decide (0 ≤ x.a) && decide (x.a < min c.vars (c.globs.length : Int)) && decide (c.globs.getD x.a.toNat (0, false) = (t, false)))) := by simp [constB, h35]
      rw [hE]
      rw [h35] at HT
      exact const_get q c w hl b off cc x.a x.b x.k L1 x.l.length d1 y.op t HT
    · have hE : constB c [x, y] t = (decide (y.op = 11) && (if x.op = 65 then decide (t = 127) else if x.op = 66 then decide (t = 126) else false)) := by simp [constB, h35]
      rw [hE]
      exact const_two q c w b off cc x.op x.a x.b x.k L1 x.l.length d1 y.op t HT h35
set_option maxRecDepth 100000 in
set_option maxHeartbeats 4000000 in
theorem laid_any (hl : CtxL w ok q c) {okI : Nat → Prop} {A : Option Addr} {cc : Nat} (l : List Ins.Ins) (hi : Lst insR w okI A cc l) (mode : Int) (A2 : Option Addr) (n c2 : Nat) : Calls Try.prog 66 #[.agg #[.slice q.A0 c.types.length q.d0, .slice q.A1 c.funcs.length q.d1, .slice q.A2 c.globs.length q.d2, .slice q.A3 c.tabs.length q.d3, .slice q.A4 c.mems.length q.d4, .int .i64 c.hosts, .int .i64 c.vars, .int .i64 c.els, .int .i64 c.dats, .bool c.counted], .int .i64 mode, .slice A l.length cc, .slice A2 n c2] w (NumIs w (laidE c mode l n)) := by
  by_cases h0 : mode = 0
  · subst h0
    by_cases h1 : n = 0
    · have hE : laidE c 0 l n = 7 := by simp [laidE, h1]
      rw [hE]
      subst h1
      go_enter Try.func66, Try.ntmps66
      go_wp2
      go_ret
      exact ⟨rfl, (Below.refl _ _).alloc (Nat.le_refl _) _⟩
    · have h1i : ¬ (n : Int) = 0 := by omega
      have HK : Hid (∀ V, Below w.heap.size w V → Calls Try.prog 62 #[.agg #[.slice q.A0 c.types.length q.d0, .slice q.A1 c.funcs.length q.d1, .slice q.A2 c.globs.length q.d2, .slice q.A3 c.tabs.length q.d3, .slice q.A4 c.mems.length q.d4, .int .i64 c.hosts, .int .i64 c.vars, .int .i64 c.els, .int .i64 c.dats, .bool c.counted], .slice A l.length cc, .int .i64 127] V (BoolIs V (constB c l 127))) := Lib.hid fun V hV => constant_any q c V (hl.below hV) l (lst_below hi hV) 127
      have HB1 : Hid (Below w.heap.size w (w.alloc (.cells #[.slice q.A0 c.types.length q.d0, .slice q.A1 c.funcs.length q.d1, .slice q.A2 c.globs.length q.d2, .slice q.A3 c.tabs.length q.d3, .slice q.A4 c.mems.length q.d4, .int .i64 c.hosts, .int .i64 c.vars, .int .i64 c.els, .int .i64 c.dats, .bool c.counted] 103))) := Lib.hid ((Below.refl _ _).alloc (Nat.le_refl _) _)
      cases hb : constB c l 127 with
      | false =>
        have hE : laidE c 0 l n = 6 := by simp [laidE, h1, hb]
        rw [hE]
        rw [hb] at HK
        go_enter Try.func66, Try.ntmps66
        go_wp2_with fail
        refine (HK.out _ HB1.out).mono ?_
        rintro en w1 ⟨rfl, hq⟩
        go_wp2
        go_ret
        exact ⟨rfl, HB1.out.trans (hq.mono HB1.out.size)⟩
      | true =>
        have hE : laidE c 0 l n = 0 := by simp [laidE, h1, hb]
        rw [hE]
        rw [hb] at HK
        go_enter Try.func66, Try.ntmps66
        go_wp2_with fail
        refine (HK.out _ HB1.out).mono ?_
        rintro en w1 ⟨rfl, hq⟩
        go_wp2
        go_ret
        exact ⟨rfl, HB1.out.trans (hq.mono HB1.out.size)⟩
  · have hE : laidE c mode l n = 0 := by simp [laidE, h0]
    rw [hE]
    go_enter Try.func66, Try.ntmps66
    go_wp2
    go_ret
    exact ⟨rfl, (Below.refl _ _).alloc (Nat.le_refl _) _⟩
set_option maxRecDepth 100000 in
set_option maxHeartbeats 4000000 in
theorem global_any (hl : CtxL w ok q c) {okI : Nat → Prop} {A : Option Addr} {cc : Nat} (x : GGlob) (hi : Lst insR w okI A cc x.init) : Calls Try.prog 50 #[.agg #[.slice q.A0 c.types.length q.d0, .slice q.A1 c.funcs.length q.d1, .slice q.A2 c.globs.length q.d2, .slice q.A3 c.tabs.length q.d3, .slice q.A4 c.mems.length q.d4, .int .i64 c.hosts, .int .i64 c.vars, .int .i64 c.els, .int .i64 c.dats, .bool c.counted], .agg #[.int .i64 x.ty, .bool x.mu, .slice A x.init.length cc]] w (NumIs w (globE c x)) := by
  obtain ⟨ty, mu, l⟩ := x
  have HK : Hid (∀ V, Below w.heap.size w V → Calls Try.prog 62 #[.agg #[.slice q.A0 c.types.length q.d0, .slice q.A1 c.funcs.length q.d1, .slice q.A2 c.globs.length q.d2, .slice q.A3 c.tabs.length q.d3, .slice q.A4 c.mems.length q.d4, .int .i64 c.hosts, .int .i64 c.vars, .int .i64 c.els, .int .i64 c.dats, .bool c.counted], .slice A l.length cc, .int .i64 ty] V (BoolIs V (constB c l ty))) := Lib.hid fun V hV => constant_any q c V (hl.below hV) l (lst_below hi hV) ty
  have HB1 : Hid (Below w.heap.size w ((w.alloc (.cells #[.slice q.A0 c.types.length q.d0, .slice q.A1 c.funcs.length q.d1, .slice q.A2 c.globs.length q.d2, .slice q.A3 c.tabs.length q.d3, .slice q.A4 c.mems.length q.d4, .int .i64 c.hosts, .int .i64 c.vars, .int .i64 c.els, .int .i64 c.dats, .bool c.counted] 103)).alloc (.cells #[.int .i64 ty, .bool mu, .slice A l.length cc] 87))) := Lib.hid (((Below.refl _ _).alloc (Nat.le_refl _) _).alloc (by simp) _)
  clear hi hl
  cases hb : constB c l ty with
  | false =>
    have hE : globE c ⟨ty, mu, l⟩ = 6 := by simp [globE, hb]
    rw [hE]
    rw [hb] at HK
    go_enter Try.func50, Try.ntmps50
    go_wp2_with fail
    refine (HK.out _ HB1.out).mono ?_
    rintro en w1 ⟨rfl, hq⟩
    go_wp2
    go_ret
    exact ⟨rfl, HB1.out.trans (hq.mono HB1.out.size)⟩
  | true =>
    have hE : globE c ⟨ty, mu, l⟩ = 0 := by simp [globE, hb]
    rw [hE]
    rw [hb] at HK
    go_enter Try.func50, Try.ntmps50
    go_wp2_with fail
    refine (HK.out _ HB1.out).mono ?_
    rintro en w1 ⟨rfl, hq⟩
    go_wp2
    go_ret
    exact ⟨rfl, HB1.out.trans (hq.mono HB1.out.size)⟩
set_option maxRecDepth 100000 in
set_option maxHeartbeats 4000000 in
theorem data_any (hl : CtxL w ok q c) {okI : Nat → Prop} {A : Option Addr} {cc : Nat} (x : GDat) (hi : Lst insR w okI A cc x.off) (A2 : Option Addr) (c2 : Nat) : Calls Try.prog 57 #[.agg #[.slice q.A0 c.types.length q.d0, .slice q.A1 c.funcs.length q.d1, .slice q.A2 c.globs.length q.d2, .slice q.A3 c.tabs.length q.d3, .slice q.A4 c.mems.length q.d4, .int .i64 c.hosts, .int .i64 c.vars, .int .i64 c.els, .int .i64 c.dats, .bool c.counted], .agg #[.int .i64 x.mode, .slice A x.off.length cc, .slice A2 x.bs.length c2]] w (NumIs w (datE c x)) := by
  obtain ⟨mode, l, bs⟩ := x
  have HK : Hid (∀ V, Below w.heap.size w V → Calls Try.prog 66 #[.agg #[.slice q.A0 c.types.length q.d0, .slice q.A1 c.funcs.length q.d1, .slice q.A2 c.globs.length q.d2, .slice q.A3 c.tabs.length q.d3, .slice q.A4 c.mems.length q.d4, .int .i64 c.hosts, .int .i64 c.vars, .int .i64 c.els, .int .i64 c.dats, .bool c.counted], .int .i64 mode, .slice A l.length cc, .slice q.A4 c.mems.length q.d4] V (NumIs V (laidE c mode l c.mems.length))) := Lib.hid fun V hV => laid_any q c V (hl.below hV) l (lst_below hi hV) mode _ _ _
  have HB1 : Hid (Below w.heap.size w ((w.alloc (.cells #[.slice q.A0 c.types.length q.d0, .slice q.A1 c.funcs.length q.d1, .slice q.A2 c.globs.length q.d2, .slice q.A3 c.tabs.length q.d3, .slice q.A4 c.mems.length q.d4, .int .i64 c.hosts, .int .i64 c.vars, .int .i64 c.els, .int .i64 c.dats, .bool c.counted] 103)).alloc (.cells #[.int .i64 mode, .slice A l.length cc, .slice A2 bs.length c2] 92))) := Lib.hid (((Below.refl _ _).alloc (Nat.le_refl _) _).alloc (by simp) _)
  clear hi hl
  have hE : datE c ⟨mode, l, bs⟩ = laidE c mode l c.mems.length := rfl
  rw [hE]
  generalize laidE c mode l c.mems.length = e at *
  go_enter Try.func57, Try.ntmps57
  go_wp2_with fail
  refine (HK.out _ HB1.out).mono ?_
  rintro en w1 ⟨rfl, hq⟩
  go_wp2
  go_ret
  exact ⟨rfl, HB1.out.trans (hq.mono HB1.out.size)⟩
set_option maxRecDepth 100000 in
set_option maxHeartbeats 4000000 in
theorem start_any (hl : CtxL w ok q c) (hf : FtS c) (f : Int) : Calls Try.prog 53 #[.agg #[.slice q.A0 c.types.length q.d0, .slice q.A1 c.funcs.length q.d1, .slice q.A2 c.globs.length q.d2, .slice q.A3 c.tabs.length q.d3, .slice q.A4 c.mems.length q.d4, .int .i64 c.hosts, .int .i64 c.vars, .int .i64 c.els, .int .i64 c.dats, .bool c.counted], .int .i64 f] w (NumIs w (startE c f)) := by
  have HK : Hid (∀ V, Below w.heap.size w V → Calls Try.prog 65 #[.agg #[.slice q.A0 c.types.length q.d0, .slice q.A1 c.funcs.length q.d1, .slice q.A2 c.globs.length q.d2, .slice q.A3 c.tabs.length q.d3, .slice q.A4 c.mems.length q.d4, .int .i64 c.hosts, .int .i64 c.vars, .int .i64 c.els, .int .i64 c.dats, .bool c.counted], .int .i64 f] V (TyIs V (hasTy c f) (fnTy c f))) := Lib.hid fun V hV => type_any q c V (hl.below hV) hf f
  have HB1 : Hid (Below w.heap.size w (w.alloc (.cells #[.slice q.A0 c.types.length q.d0, .slice q.A1 c.funcs.length q.d1, .slice q.A2 c.globs.length q.d2, .slice q.A3 c.tabs.length q.d3, .slice q.A4 c.mems.length q.d4, .int .i64 c.hosts, .int .i64 c.vars, .int .i64 c.els, .int .i64 c.dats, .bool c.counted] 103))) := Lib.hid ((Below.refl _ _).alloc (Nat.le_refl _) _)
  have hlen : (fnTy c f).1.length ≤ 100000 ∧ (fnTy c f).2.length ≤ 100000 := fnTy_len hf f
  clear hl hf
  cases hb : hasTy c f with
  | false =>
    have hE : startE c f = 7 := by simp [startE, hb]
    rw [hE]
    rw [hb] at HK
    clear hE hlen hb
    generalize fnTy c f = x at *
    go_enter Try.func53, Try.ntmps53
    go_wp2_with fail
    refine (HK.out _ HB1.out).mono ?_
    rintro en w1 ⟨D1, d1, D2, d2, rfl, _, _, hq⟩
    go_wp2
    go_ret
    exact ⟨rfl, HB1.out.trans ((hq.mono HB1.out.size).trans (((Below.refl _ _).alloc (Nat.le_refl _) _).mono (Nat.le_trans HB1.out.size hq.size)))⟩
  | true =>
    have hE : startE c f = if 0 < (fnTy c f).1.length ∨ 0 < (fnTy c f).2.length then 6 else 0 := by simp [startE, hb]
    rw [hE]
    rw [hb] at HK
    clear hE hb
    generalize fnTy c f = x at *
    obtain ⟨n1, hn1⟩ : ∃ n, x.1.length = n := ⟨_, rfl⟩
    obtain ⟨n2, hn2⟩ : ∃ n, x.2.length = n := ⟨_, rfl⟩
    rw [hn1, hn2]
    unfold TyIs at HK
    rw [hn1, hn2] at HK
    clear hlen hn1 hn2
    by_cases g1 : 0 < n1
    · have hE : (if 0 < n1 ∨ 0 < n2 then (6 : Int) else 0) = 6 := by simp [g1]
      rw [hE]
      have g1i : (0 : Int) < (n1 : Int) := by omega
      go_enter Try.func53, Try.ntmps53
      go_wp2_with fail
      refine (HK.out _ HB1.out).mono ?_
      rintro en w1 ⟨D1, d1, D2, d2, rfl, _, _, hq⟩
      go_wp2
      go_ret
      exact ⟨rfl, HB1.out.trans ((hq.mono HB1.out.size).trans (((Below.refl _ _).alloc (Nat.le_refl _) _).mono (Nat.le_trans HB1.out.size hq.size)))⟩
    by_cases g2 : 0 < n2
    · have hE : (if 0 < n1 ∨ 0 < n2 then (6 : Int) else 0) = 6 := by simp [g2]
      rw [hE]
      have g1i : ¬ (0 : Int) < (n1 : Int) := by omega
      have g2i : (0 : Int) < (n2 : Int) := by omega
      go_enter Try.func53, Try.ntmps53
      go_wp2_with fail
      refine (HK.out _ HB1.out).mono ?_
      rintro en w1 ⟨D1, d1, D2, d2, rfl, _, _, hq⟩
      go_wp2
      go_ret
      exact ⟨rfl, HB1.out.trans ((hq.mono HB1.out.size).trans (((Below.refl _ _).alloc (Nat.le_refl _) _).mono (Nat.le_trans HB1.out.size hq.size)))⟩
    · have hE : (if 0 < n1 ∨ 0 < n2 then (6 : Int) else 0) = 0 := by simp [g1, g2]
      rw [hE]
      have g1i : ¬ (0 : Int) < (n1 : Int) := by omega
      have g2i : ¬ (0 : Int) < (n2 : Int) := by omega
      go_enter Try.func53, Try.ntmps53
      go_wp2_with fail
      refine (HK.out _ HB1.out).mono ?_
      rintro en w1 ⟨D1, d1, D2, d2, rfl, _, _, hq⟩
      go_wp2
      go_ret
      exact ⟨rfl, HB1.out.trans ((hq.mono HB1.out.size).trans (((Below.refl _ _).alloc (Nat.le_refl _) _).mono (Nat.le_trans HB1.out.size hq.size)))⟩
set_option maxRecDepth 100000 in
set_option maxHeartbeats 4000000 in
theorem locals_any (hl : CtxL w ok q c) (hf : FtS c) (x : GFn) (hx : x.locals.length ≤ 100000) (A1 : Option Addr) (c1 : Nat) (A2 : Option Addr) (c2 : Nat) : Calls Try.prog 58 #[.agg #[.slice q.A0 c.types.length q.d0, .slice q.A1 c.funcs.length q.d1, .slice q.A2 c.globs.length q.d2, .slice q.A3 c.tabs.length q.d3, .slice q.A4 c.mems.length q.d4, .int .i64 c.hosts, .int .i64 c.vars, .int .i64 c.els, .int .i64 c.dats, .bool c.counted], .agg #[.int .i64 x.ty, .slice A1 x.locals.length c1, .slice A2 x.body.length c2]] w (NumIs w (locE c x)) := by
  obtain ⟨ty, ls, bd⟩ := x
  have HK : Hid (∀ V, Below w.heap.size w V → Calls Try.prog 68 #[.agg #[.slice q.A0 c.types.length q.d0, .slice q.A1 c.funcs.length q.d1, .slice q.A2 c.globs.length q.d2, .slice q.A3 c.tabs.length q.d3, .slice q.A4 c.mems.length q.d4, .int .i64 c.hosts, .int .i64 c.vars, .int .i64 c.els, .int .i64 c.dats, .bool c.counted], .int .i64 ty] V (TyIs V (inB ty c.types.length) (tyAt c.types ty))) := Lib.hid fun V hV => numbered_any q c V (hl.below hV) hf ty
  have HB1 : Hid (Below w.heap.size w ((w.alloc (.cells #[.slice q.A0 c.types.length q.d0, .slice q.A1 c.funcs.length q.d1, .slice q.A2 c.globs.length q.d2, .slice q.A3 c.tabs.length q.d3, .slice q.A4 c.mems.length q.d4, .int .i64 c.hosts, .int .i64 c.vars, .int .i64 c.els, .int .i64 c.dats, .bool c.counted] 103)).alloc (.cells #[.int .i64 ty, .slice A1 ls.length c1, .slice A2 bd.length c2] 99))) := Lib.hid (((Below.refl _ _).alloc (Nat.le_refl _) _).alloc (by simp) _)
  have hlen : (tyAt c.types ty).1.length ≤ 100000 := (tyAt_len hf ty).1
  have hE : locE c ⟨ty, ls, bd⟩ = if 64 < (tyAt c.types ty).1.length + ls.length then 4 else 0 := rfl
  rw [hE]
  clear hl hf hE
  generalize tyAt c.types ty = x at *
  unfold TyIs at HK
  obtain ⟨n1, hn1⟩ : ∃ n, x.1.length = n := ⟨_, rfl⟩
  obtain ⟨n2, hn2⟩ : ∃ n, ls.length = n := ⟨_, rfl⟩
  have hx2 : ls.length ≤ 100000 := hx
  simp only [hn1, hn2] at *
  have a1 : (n1 : Int) ≤ 100000 := by omega
  have a2 : (n2 : Int) ≤ 100000 := by omega
  by_cases g1 : 64 < n1 + n2
  · have hE : (if 64 < n1 + n2 then (4 : Int) else 0) = 4 := by simp [g1]
    rw [hE]
    have g1i : (64 : Int) < (n1 : Int) + (n2 : Int) := by omega
    go_enter Try.func58, Try.ntmps58
    go_wp2_with fail
    refine (HK.out _ HB1.out).mono ?_
    rintro en w1 ⟨D1, d1, D2, d2, rfl, _, _, hq⟩
    have hz : w1.cell? ⟨w.heap.size + 1, 1, none⟩ = some (.slice A1 (n2 : Nat) c1) := (hq.cell (by simp)).trans (by simp)
    have hlt : w.heap.size + 1 < w1.heap.size := by have := hq.size; simp at this; omega
    go_wp2
    go_ret
    exact ⟨rfl, HB1.out.trans ((hq.mono HB1.out.size).trans (((Below.refl _ _).alloc (Nat.le_refl _) _).mono (Nat.le_trans HB1.out.size hq.size)))⟩
  · have hE : (if 64 < n1 + n2 then (4 : Int) else 0) = 0 := by simp [g1]
    rw [hE]
    have g1i : ¬ (64 : Int) < (n1 : Int) + (n2 : Int) := by omega
    go_enter Try.func58, Try.ntmps58
    go_wp2_with fail
    refine (HK.out _ HB1.out).mono ?_
    rintro en w1 ⟨D1, d1, D2, d2, rfl, _, _, hq⟩
    have hz : w1.cell? ⟨w.heap.size + 1, 1, none⟩ = some (.slice A1 (n2 : Nat) c1) := (hq.cell (by simp)).trans (by simp)
    have hlt : w.heap.size + 1 < w1.heap.size := by have := hq.size; simp at this; omega
    go_wp2
    go_ret
    exact ⟨rfl, HB1.out.trans ((hq.mono HB1.out.size).trans (((Below.refl _ _).alloc (Nat.le_refl _) _).mono (Nat.le_trans HB1.out.size hq.size)))⟩
end
end Go.Proofs.Ytdcolpmmojiffaa.Cx
