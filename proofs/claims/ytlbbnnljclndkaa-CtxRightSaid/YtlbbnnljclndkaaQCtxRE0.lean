/-
  CtxRE0: The given tableError and memoryError of layer 9. Conditions: the numbers are an int's. (Written by wip/tools/genctxre0.py.)
-/
import Derived.Test.YtlbbnnljclndkaaQCtxRGath
import Derived.Test.YtlbbnnljclndkaaQCtxRf1
import Derived.Test.YtlbbnnljclndkaaQCtxPM
namespace Go.Proofs.Ytlbbnnljclndkaa.Cx
open Go.RowKit Leb
open _root_.Go.Proofs.Ytlbbnnljclndkaa.Mod

set_option maxRecDepth 100000 in
set_option maxHeartbeats 4000000 in
theorem rtab_any (mn mx : Int) (cp : Bool) (h1 : mn ≤ 9223372036854775807) (h2 : mx ≤ 9223372036854775807) (w : World) : Calls Try.prog 17 #[.agg #[.int .i64 mn, .bool cp, .int .i64 mx]] w (NumIs w (tabE (mn, cp, mx))) := by
  have HB : Hid (Below w.heap.size w (w.alloc (.cells #[.int .i64 mn, .bool cp, .int .i64 mx] 60))) := Lib.hid ((Below.refl _ _).alloc (Nat.le_refl _) _)
  by_cases g0 : mn < 0
  · have hE : tabE (mn, cp, mx) = 5 := by simp [tabE, bndE, g0]
    rw [hE]
    clear hE
    go_enter Try.func17, Try.ntmps17
    go_wp2
    go_ret
    exact ⟨rfl, HB.out⟩
  have g1 : ¬ (9223372036854775807 : Int) < mn := by omega
  have g9 : ¬ (9223372036854775807 : Int) < mx := by omega
  cases cp with
  | false =>
    by_cases g2 : 64 < mn
    · have hE : tabE (mn, false, mx) = 4 := by simp [tabE, bndE, g0, g1, g9, g2]
      rw [hE]
      clear hE
      go_enter Try.func17, Try.ntmps17
      go_wp2
      go_ret
      exact ⟨rfl, HB.out⟩
    · have hE : tabE (mn, false, mx) = 0 := by simp [tabE, bndE, g0, g1, g9, g2]
      rw [hE]
      clear hE
      go_enter Try.func17, Try.ntmps17
      go_wp2
      go_ret
      exact ⟨rfl, HB.out⟩
  | true =>
    by_cases g3 : mx < mn
    · have hE : tabE (mn, true, mx) = 5 := by simp [tabE, bndE, g0, g1, g9, g3]
      rw [hE]
      clear hE
      go_enter Try.func17, Try.ntmps17
      go_wp2
      go_ret
      exact ⟨rfl, HB.out⟩
    by_cases g2 : 64 < mn
    · have hE : tabE (mn, true, mx) = 4 := by simp [tabE, bndE, g0, g1, g9, g3, g2]
      rw [hE]
      clear hE
      go_enter Try.func17, Try.ntmps17
      go_wp2
      go_ret
      exact ⟨rfl, HB.out⟩
    · have hE : tabE (mn, true, mx) = 0 := by simp [tabE, bndE, g0, g1, g9, g3, g2]
      rw [hE]
      clear hE
      go_enter Try.func17, Try.ntmps17
      go_wp2
      go_ret
      exact ⟨rfl, HB.out⟩
set_option maxRecDepth 100000 in
set_option maxHeartbeats 4000000 in
theorem rmem_any (mn mx : Int) (cp : Bool) (w : World) : Calls Try.prog 18 #[.agg #[.int .i64 mn, .bool cp, .int .i64 mx]] w (NumIs w (memE (mn, cp, mx))) := by
  have HB : Hid (Below w.heap.size w (w.alloc (.cells #[.int .i64 mn, .bool cp, .int .i64 mx] 60))) := Lib.hid ((Below.refl _ _).alloc (Nat.le_refl _) _)
  by_cases g0 : mn < 0
  · have hE : memE (mn, cp, mx) = 5 := by simp [memE, bndE, g0]
    rw [hE]
    clear hE
    go_enter Try.func18, Try.ntmps18
    go_wp2
    go_ret
    exact ⟨rfl, HB.out⟩
  by_cases g1 : 65536 < mn
  · have hE : memE (mn, cp, mx) = 5 := by simp [memE, bndE, g0, g1]
    rw [hE]
    clear hE
    go_enter Try.func18, Try.ntmps18
    go_wp2
    go_ret
    exact ⟨rfl, HB.out⟩
  cases cp with
  | false =>
    by_cases g2 : 4 < mn
    · have hE : memE (mn, false, mx) = 4 := by simp [memE, bndE, g0, g1, g2]
      rw [hE]
      clear hE
      go_enter Try.func18, Try.ntmps18
      go_wp2
      go_ret
      exact ⟨rfl, HB.out⟩
    · have hE : memE (mn, false, mx) = 0 := by simp [memE, bndE, g0, g1, g2]
      rw [hE]
      clear hE
      go_enter Try.func18, Try.ntmps18
      go_wp2
      go_ret
      exact ⟨rfl, HB.out⟩
  | true =>
    by_cases g4 : 65536 < mx
    · have hE : memE (mn, true, mx) = 5 := by simp [memE, bndE, g0, g1, g4]
      rw [hE]
      clear hE
      go_enter Try.func18, Try.ntmps18
      go_wp2
      go_ret
      exact ⟨rfl, HB.out⟩
    by_cases g3 : mx < mn
    · have hE : memE (mn, true, mx) = 5 := by simp [memE, bndE, g0, g1, g4, g3]
      rw [hE]
      clear hE
      go_enter Try.func18, Try.ntmps18
      go_wp2
      go_ret
      exact ⟨rfl, HB.out⟩
    by_cases g2 : 4 < mn
    · have hE : memE (mn, true, mx) = 4 := by simp [memE, bndE, g0, g1, g4, g3, g2]
      rw [hE]
      clear hE
      go_enter Try.func18, Try.ntmps18
      go_wp2
      go_ret
      exact ⟨rfl, HB.out⟩
    · have hE : memE (mn, true, mx) = 0 := by simp [memE, bndE, g0, g1, g4, g3, g2]
      rw [hE]
      clear hE
      go_enter Try.func18, Try.ntmps18
      go_wp2
      go_ret
      exact ⟨rfl, HB.out⟩
theorem first_zero {a : Int} {l : List Int} (h : a = 0) : firstE (a :: l) = firstE l := by unfold firstE; simp [eachE, h]
theorem first_hit {a : Int} {l : List Int} (h : a ≠ 0) : firstE (a :: l) = a := by unfold firstE; simp [eachE, h]
theorem first_last (a : Int) : firstE [a] = a := by
  by_cases h : a = 0
  · rw [first_zero h, h]; rfl
  · exact first_hit h
theorem each_ne {α : Type} {f : α → Int} {l : List α} {j : Nat} (hj : j < l.length) (h : ∀ x ∈ l.take j, f x = 0) (h2 : f l[j] ≠ 0) : eachE f l ≠ 0 := by rw [each_hit hj h h2]; exact h2
/-- A constant of a global looks at those that came from outside alone. -/
theorem constB_imp (g : GMd) (l : List Ins.Ins) (t : Int) : constB (gathR g true) l t = constB (gather g) l t := by
  have hv : (gathR g true).vars = ((gathR g true).globs.length : Int) := by simp [gathR, gathM, gathT, gathF, gathH]
  have hw : (gather g).vars = (gathR g true).vars := by simp [gather, gathR, gathG, gathM, gathT, gathF, gathH]
  have hg : (gather g).globs = (gathR g true).globs ++ g.globs.map (fun x : GGlob => (x.ty, x.mu)) := by simp [gather, gathR, gathG]
  have key : ∀ a : Int, (decide (0 ≤ a) && decide (a < min (gathR g true).vars ((gathR g true).globs.length : Int)) && decide ((gathR g true).globs.getD a.toNat (0, false) = (t, false))) = (decide (0 ≤ a) && decide (a < min (gather g).vars ((gather g).globs.length : Int)) && decide ((gather g).globs.getD a.toNat (0, false) = (t, false))) := fun a => by
    rw [hw, hg, List.length_append]
    by_cases h0 : 0 ≤ a
    · by_cases h1 : a < (gathR g true).vars
      · have e1 : a < min (gathR g true).vars ((gathR g true).globs.length : Int) := by omega
        have e2 : a < min (gathR g true).vars (((gathR g true).globs.length + (g.globs.map (fun x : GGlob => (x.ty, x.mu))).length : Nat) : Int) := by omega
        have e3 : a.toNat < (gathR g true).globs.length := by omega
        have e4 : ((gathR g true).globs ++ g.globs.map (fun x : GGlob => (x.ty, x.mu))).getD a.toNat (0, false) = (gathR g true).globs.getD a.toNat (0, false) := by
          simp only [List.getD_eq_getElem?_getD]
          rw [List.getElem?_append_left e3]
        rw [e4]
        simp only [decide_eq_true e1, decide_eq_true e2]
      · have e1 : ¬ a < min (gathR g true).vars ((gathR g true).globs.length : Int) := by omega
        have e2 : ¬ a < min (gathR g true).vars (((gathR g true).globs.length + (g.globs.map (fun x : GGlob => (x.ty, x.mu))).length : Nat) : Int) := by omega
        simp only [decide_eq_false e1, decide_eq_false e2, Bool.and_false, Bool.false_and]
    · simp [h0]
  unfold constB
  split
  · rw [key]
  · rfl
end Go.Proofs.Ytlbbnnljclndkaa.Cx
