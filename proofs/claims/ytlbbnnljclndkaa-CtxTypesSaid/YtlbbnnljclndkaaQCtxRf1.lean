/-
  CtxRf1: The given in, Constant of layer 9. Conditions: the context lies in memory. (Written by wip/tools/genctxrf1.py.)
-/
import Derived.Test.YtlbbnnljclndkaaQCtxLk3
namespace Go.Proofs.Ytlbbnnljclndkaa.Cx
open Go.RowKit Leb
open _root_.Go.Proofs.Ytlbbnnljclndkaa.Mod

set_option maxRecDepth 100000 in
set_option maxHeartbeats 4000000 in
theorem rin_any (k n : Int) (w : World) : Calls Try.prog 16 #[.int .i64 k, .int .i64 n] w fun en w' => en = .returned (.bool (decide (0 ≤ k) && decide (k < n))) ∧ w' = w := by
  by_cases h0 : 0 ≤ k <;> by_cases h1 : k < n
  all_goals
    go_enter Try.func16, Try.ntmps16
    go_wp2
    go_ret
    exact ⟨by simp [h0, h1], rfl⟩
section
variable (q : Plc) (c : GCtx) (w : World) {ok : Nat → Prop}
set_option maxRecDepth 100000 in
set_option maxHeartbeats 4000000 in
theorem rconst_len (A : Option Addr) (n cc : Nat) (hn : n ≠ 2) (t : Int) : Calls Try.prog 19 #[.agg #[.slice q.A0 c.types.length q.d0, .slice q.A1 c.funcs.length q.d1, .slice q.A2 c.globs.length q.d2, .slice q.A3 c.tabs.length q.d3, .slice q.A4 c.mems.length q.d4, .int .i64 c.hosts, .int .i64 c.vars, .int .i64 c.els, .int .i64 c.dats, .bool c.counted], .slice A n cc, .int .i64 t] w (BoolIs w false) := by
  have h2 : ¬ (n : Int) = 2 := by omega
  go_enter Try.func19, Try.ntmps19
  go_wp2
  go_ret
  exact ⟨rfl, (Below.refl _ _).alloc (Nat.le_refl _) _⟩
set_option maxRecDepth 100000 in
set_option maxHeartbeats 4000000 in
theorem rconst_two (b off cc : Nat) (o1 a1 b1 k1 : Int) (L1 : Option Addr) (n1 d1 : Nat) (o2 t : Int) (H : ∀ V, Below w.heap.size w V → Two V b off o1 a1 b1 k1 L1 n1 d1 o2) (h35 : o1 ≠ 35) : Calls Try.prog 19 #[.agg #[.slice q.A0 c.types.length q.d0, .slice q.A1 c.funcs.length q.d1, .slice q.A2 c.globs.length q.d2, .slice q.A3 c.tabs.length q.d3, .slice q.A4 c.mems.length q.d4, .int .i64 c.hosts, .int .i64 c.vars, .int .i64 c.els, .int .i64 c.dats, .bool c.counted], .slice (some ⟨b, off, none⟩) 2 cc, .int .i64 t] w (BoolIs w (decide (o2 = 11) && (if o1 = 65 then decide (t = 127) else if o1 = 66 then decide (t = 126) else false))) := by
  obtain ⟨h0, h1, h2, h3, h4, h5⟩ := H (w.alloc (.cells #[.slice q.A0 c.types.length q.d0, .slice q.A1 c.funcs.length q.d1, .slice q.A2 c.globs.length q.d2, .slice q.A3 c.tabs.length q.d3, .slice q.A4 c.mems.length q.d4, .int .i64 c.hosts, .int .i64 c.vars, .int .i64 c.els, .int .i64 c.dats, .bool c.counted] 38)) ((Below.refl _ _).alloc (Nat.le_refl _) _)
  clear H
  by_cases g0 : o2 = 11
  · by_cases g1 : o1 = 65
    · by_cases g2 : t = 127
      · have hE : (decide (o2 = 11) && (if o1 = 65 then decide (t = 127) else if o1 = 66 then decide (t = 126) else false)) = true := by simp [g0, g1, g2]
        rw [hE]
        subst g0 g1 g2
        go_enter Try.func19, Try.ntmps19
        go_wp2
        go_ret
        exact ⟨rfl, (Below.refl _ _).alloc (Nat.le_refl _) _⟩
      · have hE : (decide (o2 = 11) && (if o1 = 65 then decide (t = 127) else if o1 = 66 then decide (t = 126) else false)) = false := by simp [g1, g2]
        rw [hE]
        subst g0 g1
        go_enter Try.func19, Try.ntmps19
        go_wp2
        go_ret
        exact ⟨by simp [g2], (Below.refl _ _).alloc (Nat.le_refl _) _⟩
    by_cases g3 : o1 = 66
    · by_cases g2 : t = 126
      · have hE : (decide (o2 = 11) && (if o1 = 65 then decide (t = 127) else if o1 = 66 then decide (t = 126) else false)) = true := by simp [g0, g3, g2]
        rw [hE]
        subst g0 g3 g2
        go_enter Try.func19, Try.ntmps19
        go_wp2
        go_ret
        exact ⟨rfl, (Below.refl _ _).alloc (Nat.le_refl _) _⟩
      · have hE : (decide (o2 = 11) && (if o1 = 65 then decide (t = 127) else if o1 = 66 then decide (t = 126) else false)) = false := by simp [g3, g2]
        rw [hE]
        subst g0 g3
        go_enter Try.func19, Try.ntmps19
        go_wp2
        go_ret
        exact ⟨by simp [g2], (Below.refl _ _).alloc (Nat.le_refl _) _⟩
    · have hE : (decide (o2 = 11) && (if o1 = 65 then decide (t = 127) else if o1 = 66 then decide (t = 126) else false)) = false := by simp [g1, g3]
      rw [hE]
      subst g0
      go_enter Try.func19, Try.ntmps19
      go_wp2
      go_ret
      exact ⟨rfl, (Below.refl _ _).alloc (Nat.le_refl _) _⟩
  · have hE : (decide (o2 = 11) && (if o1 = 65 then decide (t = 127) else if o1 = 66 then decide (t = 126) else false)) = false := by simp [g0]
    rw [hE]
    go_enter Try.func19, Try.ntmps19
    go_wp2
    go_ret
    exact ⟨rfl, (Below.refl _ _).alloc (Nat.le_refl _) _⟩
set_option maxRecDepth 100000 in
set_option maxHeartbeats 4000000 in
theorem rconst_get (hl : CtxL w ok q c) (b off cc : Nat) (a1 b1 k1 : Int) (L1 : Option Addr) (n1 d1 : Nat) (o2 t : Int) (H : ∀ V, Below w.heap.size w V → Two V b off 35 a1 b1 k1 L1 n1 d1 o2) : Calls Try.prog 19 #[.agg #[.slice q.A0 c.types.length q.d0, .slice q.A1 c.funcs.length q.d1, .slice q.A2 c.globs.length q.d2, .slice q.A3 c.tabs.length q.d3, .slice q.A4 c.mems.length q.d4, .int .i64 c.hosts, .int .i64 c.vars, .int .i64 c.els, .int .i64 c.dats, .bool c.counted], .slice (some ⟨b, off, none⟩) 2 cc, .int .i64 t] w (BoolIs w (decide (o2 = 11) && (decide (0 ≤ a1) && decide (a1 < min c.vars (c.globs.length : Int)) && decide (c.globs.getD a1.toNat (0, false) = (t, false))))) := by
  obtain ⟨h0, h1, h2, h3, h4, h5⟩ := H (w.alloc (.cells #[.slice q.A0 c.types.length q.d0, .slice q.A1 c.funcs.length q.d1, .slice q.A2 c.globs.length q.d2, .slice q.A3 c.tabs.length q.d3, .slice q.A4 c.mems.length q.d4, .int .i64 c.hosts, .int .i64 c.vars, .int .i64 c.els, .int .i64 c.dats, .bool c.counted] 38)) ((Below.refl _ _).alloc (Nat.le_refl _) _)
  clear H
  have HB2 : Hid (Below w.heap.size w (w.alloc (.cells #[.slice q.A0 c.types.length q.d0, .slice q.A1 c.funcs.length q.d1, .slice q.A2 c.globs.length q.d2, .slice q.A3 c.tabs.length q.d3, .slice q.A4 c.mems.length q.d4, .int .i64 c.hosts, .int .i64 c.vars, .int .i64 c.els, .int .i64 c.dats, .bool c.counted] 38))) := Lib.hid ((Below.refl _ _).alloc (Nat.le_refl _) _)
  by_cases g0 : o2 = 11
  · subst g0
    cases hr1 : (decide (0 ≤ a1) && decide (a1 < c.vars)) with
    | false =>
      have hE : (decide ((11 : Int) = 11) && (decide (0 ≤ a1) && decide (a1 < min c.vars (c.globs.length : Int)) && decide (c.globs.getD a1.toNat (0, false) = (t, false)))) = false := by
        simp only [Bool.and_eq_false_iff, decide_eq_false_iff_not] at hr1 ⊢
        right; left
        rcases hr1 with h | h
        · left; exact h
        · right; omega
      rw [hE]
      have HT1 : Hid (∀ V : World, Calls Try.prog 16 #[.int .i64 a1, .int .i64 c.vars] V fun en w' => en = .returned (.bool false) ∧ w' = V) := Lib.hid fun V => by
        have := rin_any a1 c.vars V
        rwa [hr1] at this
      clear hr1 hE
      go_enter Try.func19, Try.ntmps19
      go_wp2_with fail
      refine (HT1.out _).mono ?_
      rintro en w1 ⟨rfl, rfl⟩
      go_wp2
      go_ret
      exact ⟨rfl, HB2.out⟩
    | true =>
      have HT1 : Hid (∀ V : World, Calls Try.prog 16 #[.int .i64 a1, .int .i64 c.vars] V fun en w' => en = .returned (.bool true) ∧ w' = V) := Lib.hid fun V => by
        have := rin_any a1 c.vars V
        rwa [hr1] at this
      cases hr2 : (decide (0 ≤ a1) && decide (a1 < (c.globs.length : Int))) with
      | false =>
        have hE : (decide ((11 : Int) = 11) && (decide (0 ≤ a1) && decide (a1 < min c.vars (c.globs.length : Int)) && decide (c.globs.getD a1.toNat (0, false) = (t, false)))) = false := by
          simp only [Bool.and_eq_false_iff, decide_eq_false_iff_not] at hr2 ⊢
          right; left
          rcases hr2 with h | h
          · left; exact h
          · right; omega
        rw [hE]
        have HT2 : Hid (∀ V : World, Calls Try.prog 16 #[.int .i64 a1, .int .i64 (c.globs.length : Int)] V fun en w' => en = .returned (.bool false) ∧ w' = V) := Lib.hid fun V => by
          have := rin_any a1 (c.globs.length : Int) V
          rwa [hr2] at this
        clear hr1 hr2 hE
        go_enter Try.func19, Try.ntmps19
        go_wp2_with fail
        refine (HT1.out _).mono ?_
        rintro en w1 ⟨rfl, rfl⟩
        go_wp2_with fail
        refine (HT2.out _).mono ?_
        rintro en w1 ⟨rfl, rfl⟩
        go_wp2
        go_ret
        exact ⟨rfl, HB2.out⟩
      | true =>
        have HT2 : Hid (∀ V : World, Calls Try.prog 16 #[.int .i64 a1, .int .i64 (c.globs.length : Int)] V fun en w' => en = .returned (.bool true) ∧ w' = V) := Lib.hid fun V => by
          have := rin_any a1 (c.globs.length : Int) V
          rwa [hr2] at this
        simp only [Bool.and_eq_true, decide_eq_true_eq] at hr1 hr2
        obtain ⟨k, rfl⟩ : ∃ k : Nat, a1 = (k : Int) := ⟨a1.toNat, by omega⟩
        have hk : k < c.globs.length := by omega
        have hki : (k : Int) < (c.globs.length : Int) := by omega
        obtain ⟨b2, off2, hA, hg⟩ := sm_var hl.l2 k hk
        obtain ⟨y0, y1⟩ := hg _ HB2.out
        have hR : (decide ((11 : Int) = 11) && (decide (0 ≤ (k : Int)) && decide ((k : Int) < min c.vars (c.globs.length : Int)) && decide (c.globs.getD (k : Int).toNat (0, false) = (t, false)))) = decide (c.globs[k] = (t, false)) := by
          have e1 : (k : Int) < min c.vars (c.globs.length : Int) := by omega
          rw [getD_at _ _ k hk]
          simp [e1]
        rw [hR, hA]
        simp only [hA] at h0 h1 h2 h3 h4 h5 y0 y1 HB2
        clear hr1 hr2 hA hg hR hl
        generalize c.globs[k] = x at *
        clear hk
        obtain ⟨gt, gm⟩ := x
        simp only at y0 y1
        cases gm with
        | true =>
          have hE2 : decide (((gt, true) : GVar) = (t, false)) = false := by simp
          rw [hE2]
          clear hE2
          go_enter Try.func19, Try.ntmps19
          go_wp2_with fail
          refine (HT1.out _).mono ?_
          rintro en w1 ⟨rfl, rfl⟩
          go_wp2_with fail
          refine (HT2.out _).mono ?_
          rintro en w1 ⟨rfl, rfl⟩
          go_wp2
          go_ret
          exact ⟨rfl, HB2.out⟩
        | false =>
          by_cases hgt : gt = t
          · subst hgt
            have hE2 : decide (((gt, false) : GVar) = (gt, false)) = true := by simp
            rw [hE2]
            clear hE2
            go_enter Try.func19, Try.ntmps19
            go_wp2_with fail
            refine (HT1.out _).mono ?_
            rintro en w1 ⟨rfl, rfl⟩
            go_wp2_with fail
            refine (HT2.out _).mono ?_
            rintro en w1 ⟨rfl, rfl⟩
            go_wp2
            go_ret
            exact ⟨by simp, HB2.out⟩
          · have hE2 : decide (((gt, false) : GVar) = (t, false)) = false := by simp [hgt]
            rw [hE2]
            clear hE2
            go_enter Try.func19, Try.ntmps19
            go_wp2_with fail
            refine (HT1.out _).mono ?_
            rintro en w1 ⟨rfl, rfl⟩
            go_wp2_with fail
            refine (HT2.out _).mono ?_
            rintro en w1 ⟨rfl, rfl⟩
            go_wp2
            go_ret
            exact ⟨by simp [hgt], HB2.out⟩
  · have hE : (decide (o2 = 11) && (decide (0 ≤ a1) && decide (a1 < min c.vars (c.globs.length : Int)) && decide (c.globs.getD a1.toNat (0, false) = (t, false)))) = false := by simp [g0]
    rw [hE]
    go_enter Try.func19, Try.ntmps19
    go_wp2
    go_ret
    exact ⟨rfl, (Below.refl _ _).alloc (Nat.le_refl _) _⟩
set_option maxRecDepth 100000 in
set_option maxHeartbeats 4000000 in
theorem rconstant_any (hl : CtxL w ok q c) {okI : Nat → Prop} {A : Option Addr} {cc : Nat} (l : List Ins.Ins) (hi : Lst insR w okI A cc l) (t : Int) : Calls Try.prog 19 #[.agg #[.slice q.A0 c.types.length q.d0, .slice q.A1 c.funcs.length q.d1, .slice q.A2 c.globs.length q.d2, .slice q.A3 c.tabs.length q.d3, .slice q.A4 c.mems.length q.d4, .int .i64 c.hosts, .int .i64 c.vars, .int .i64 c.els, .int .i64 c.dats, .bool c.counted], .slice A l.length cc, .int .i64 t] w (BoolIs w (constB c l t)) := by
  match l, hi with
  | [], _ => exact rconst_len q c w A 0 cc (by omega) t
  | [_], _ => exact rconst_len q c w A 1 cc (by omega) t
  | _ :: _ :: _ :: r, _ => exact rconst_len q c w A (r.length + 3) cc (by omega) t
  | [x, y], hi =>
    obtain ⟨b, off, L1, d1, hA, h1⟩ := sm_ins hi 0 (by simp)
    obtain ⟨b', off', L2, d2, hA', h2⟩ := sm_ins hi 1 (by simp)
    rw [hA] at hA'
    injection hA' with hA'
    injection hA' with e1 e2 _
    subst e1 e2
    have HT : ∀ V, Below w.heap.size w V → Two V b off x.op x.a x.b x.k L1 x.l.length d1 y.op := fun V hV => by
      obtain ⟨p0, p1, p2, p3, p4⟩ := h1 V hV
      obtain ⟨p5, _⟩ := h2 V hV
      simp only [Nat.zero_mul, Nat.add_zero, Nat.one_mul, List.getElem_cons_zero, List.getElem_cons_succ] at p0 p1 p2 p3 p4 p5
      exact ⟨p0, p1, p2, p3, p4, p5⟩
    rw [hA]
    by_cases h35 : x.op = 35
    · have hE : constB c [x, y] t = (decide (y.op = 11) && (decide (0 ≤ x.a) && decide (x.a < min c.vars (c.globs.length : Int)) && decide (c.globs.getD x.a.toNat (0, false) = (t, false)))) := by simp [constB, h35]
      rw [hE]
      rw [h35] at HT
      exact rconst_get q c w hl b off cc x.a x.b x.k L1 x.l.length d1 y.op t HT
    · have hE : constB c [x, y] t = (decide (y.op = 11) && (if x.op = 65 then decide (t = 127) else if x.op = 66 then decide (t = 126) else false)) := by simp [constB, h35]
      rw [hE]
      exact rconst_two q c w b off cc x.op x.a x.b x.k L1 x.l.length d1 y.op t HT h35
end
end Go.Proofs.Ytlbbnnljclndkaa.Cx
