/-
  trammelref05.Same, RightLimits: what each comes to. Conditions as each lemma says.
-/
import Derived.Test.YthhdbjpimjkekaaTypFunc
namespace Go.Proofs.Ythhdbjpimjkekaa.Typ
open Go.RowKit Leb

set_option maxHeartbeats 1000000 in
set_option maxRecDepth 100000 in
theorem same_no (A1 A2 A3 A4 : Option Addr) (n1 n2 n3 n4 c1 c2 c3 c4 : Nat) (w : World)
    (H1 : Hid (∀ W, Below w.heap.size w W → Calls Try.prog 31 #[.slice A1 n1 c1, .slice A3 n3 c3] W fun e w' => e = .returned (.bool false) ∧ ∃ m, w' = W.drewN m)) :
    Calls Try.prog 10 #[.agg #[.slice A1 n1 c1, .slice A2 n2 c2], .agg #[.slice A3 n3 c3, .slice A4 n4 c4]] w fun e w' => e = .returned (.bool false) ∧ Below w.heap.size w w' := by
  have hb : Below w.heap.size w ((w.alloc (.cells #[.slice A1 n1 c1, .slice A2 n2 c2] 26)).alloc (.cells #[.slice A3 n3 c3, .slice A4 n4 c4] 26)) := ((Below.refl _ _).alloc (Nat.le_refl _) _).alloc (by simp) _
  go_enter Try.func10, Try.ntmps10
  go_wp2_with fail
  refine (H1.out _ hb).mono ?_
  rintro e w1 ⟨rfl, m, rfl⟩
  go_wp2
  go_ret
  exact ⟨rfl, below_drewN hb m⟩
set_option maxHeartbeats 1000000 in
set_option maxRecDepth 100000 in
theorem same_then (A1 A2 A3 A4 : Option Addr) (n1 n2 n3 n4 c1 c2 c3 c4 : Nat) (r : Bool) (w : World)
    (H1 : Hid (∀ W, Below w.heap.size w W → Calls Try.prog 31 #[.slice A1 n1 c1, .slice A3 n3 c3] W fun e w' => e = .returned (.bool true) ∧ ∃ m, w' = W.drewN m))
    (H2 : Hid (∀ W, Below w.heap.size w W → Calls Try.prog 31 #[.slice A2 n2 c2, .slice A4 n4 c4] W fun e w' => e = .returned (.bool r) ∧ ∃ m, w' = W.drewN m)) :
    Calls Try.prog 10 #[.agg #[.slice A1 n1 c1, .slice A2 n2 c2], .agg #[.slice A3 n3 c3, .slice A4 n4 c4]] w fun e w' => e = .returned (.bool r) ∧ Below w.heap.size w w' := by
  have hb : Below w.heap.size w ((w.alloc (.cells #[.slice A1 n1 c1, .slice A2 n2 c2] 26)).alloc (.cells #[.slice A3 n3 c3, .slice A4 n4 c4] 26)) := ((Below.refl _ _).alloc (Nat.le_refl _) _).alloc (by simp) _
  go_enter Try.func10, Try.ntmps10
  go_wp2_with fail
  refine (H1.out _ hb).mono ?_
  rintro e w1 ⟨rfl, m, rfl⟩
  go_wp2_with fail
  refine (H2.out _ (below_drewN hb m)).mono ?_
  rintro e w1 ⟨rfl, m2, rfl⟩
  go_wp2
  go_ret
  exact ⟨rfl, below_drewN hb _⟩
theorem rsame_any (v v' : Value) (ps rs ps' rs' : List Int) (w : World) (h : FType w v ps rs) (h' : FType w v' ps' rs') (l1 : ps.length ≤ 140737488355328) (l2 : rs.length ≤ 140737488355328) (l3 : ps'.length ≤ 140737488355328) (l4 : rs'.length ≤ 140737488355328) :
    Calls Try.prog 10 #[v, v'] w fun e w' => e = .returned (.bool (decide (ps = ps' ∧ rs = rs'))) ∧ Below w.heap.size w w' := by
  obtain ⟨A1, c1, A2, c2, rfl, i1, i2, _, _, _, _⟩ := h
  obtain ⟨A3, c3, A4, c4, rfl, i3, i4, _, _, _, _⟩ := h'
  have H1 := Lib.hid (fun W (hW : Below w.heap.size w W) => sameInts_any A1 A3 ps ps' c1 c3 w.heap.size w.heap.size W (i1.below hW) (i3.below hW) l1 l3)
  have H2 := Lib.hid (fun W (hW : Below w.heap.size w W) => sameInts_any A2 A4 rs rs' c2 c4 w.heap.size w.heap.size W (i2.below hW) (i4.below hW) l2 l4)
  by_cases hp : ps = ps'
  · rw [decide_eq_true hp] at H1
    have e : decide (ps = ps' ∧ rs = rs') = decide (rs = rs') := by simp [hp]
    rw [e]
    exact same_then _ _ _ _ _ _ _ _ _ _ _ _ _ w H1 H2
  · rw [decide_eq_false hp] at H1
    have e : decide (ps = ps' ∧ rs = rs') = false := by simp [hp]
    rw [e]
    exact same_no _ _ _ _ _ _ _ _ _ _ _ _ w H1
/-- May limits be put? -/
def rightLim (a : Int) (cap : Bool) (b : Int) : Bool := decide (0 ≤ a ∧ a ≤ 4294967295 ∧ 0 ≤ b ∧ b ≤ 4294967295 ∧ (cap = true ∨ b = 0))
set_option maxRecDepth 100000 in
theorem rl_1 (a : Int) (cap : Bool) (b : Int) (w : World) (h : ¬ 0 ≤ a) : Calls Try.prog 23 #[.agg #[.int .i64 a, .bool cap, .int .i64 b]] w fun e w' => e = .returned (.bool false) ∧ Below w.heap.size w w' := by
  have h1 : ¬ 0 ≤ a := by omega
  clear h
  go_enter Try.func23, Try.ntmps23
  go_wp2
  go_ret
  exact ⟨rfl, (Below.refl _ _).alloc (Nat.le_refl _) _⟩
set_option maxRecDepth 100000 in
theorem rl_2 (a : Int) (cap : Bool) (b : Int) (w : World) (h : 0 ≤ a ∧ ¬ a ≤ 4294967295) : Calls Try.prog 23 #[.agg #[.int .i64 a, .bool cap, .int .i64 b]] w fun e w' => e = .returned (.bool false) ∧ Below w.heap.size w w' := by
  have h1 : 0 ≤ a := by omega
  have h2 : ¬ a ≤ 4294967295 := by omega
  clear h
  go_enter Try.func23, Try.ntmps23
  go_wp2
  go_ret
  exact ⟨rfl, (Below.refl _ _).alloc (Nat.le_refl _) _⟩
set_option maxRecDepth 100000 in
theorem rl_3 (a : Int) (cap : Bool) (b : Int) (w : World) (h : (0 ≤ a ∧ a ≤ 4294967295) ∧ ¬ 0 ≤ b) : Calls Try.prog 23 #[.agg #[.int .i64 a, .bool cap, .int .i64 b]] w fun e w' => e = .returned (.bool false) ∧ Below w.heap.size w w' := by
  have h1 : 0 ≤ a := by omega
  have h2 : a ≤ 4294967295 := by omega
  have h3 : ¬ 0 ≤ b := by omega
  clear h
  go_enter Try.func23, Try.ntmps23
  go_wp2
  go_ret
  exact ⟨rfl, (Below.refl _ _).alloc (Nat.le_refl _) _⟩
set_option maxRecDepth 100000 in
theorem rl_4 (a : Int) (cap : Bool) (b : Int) (w : World) (h : (0 ≤ a ∧ a ≤ 4294967295) ∧ 0 ≤ b ∧ ¬ b ≤ 4294967295) : Calls Try.prog 23 #[.agg #[.int .i64 a, .bool cap, .int .i64 b]] w fun e w' => e = .returned (.bool false) ∧ Below w.heap.size w w' := by
  have h1 : 0 ≤ a := by omega
  have h2 : a ≤ 4294967295 := by omega
  have h3 : 0 ≤ b := by omega
  have h4 : ¬ b ≤ 4294967295 := by omega
  clear h
  go_enter Try.func23, Try.ntmps23
  go_wp2
  go_ret
  exact ⟨rfl, (Below.refl _ _).alloc (Nat.le_refl _) _⟩
set_option maxRecDepth 100000 in
theorem rl_5 (a : Int) (b : Int) (w : World) (h : (0 ≤ a ∧ a ≤ 4294967295) ∧ 0 ≤ b ∧ b ≤ 4294967295) : Calls Try.prog 23 #[.agg #[.int .i64 a, .bool true, .int .i64 b]] w fun e w' => e = .returned (.bool true) ∧ Below w.heap.size w w' := by
  have h1 : 0 ≤ a := by omega
  have h2 : a ≤ 4294967295 := by omega
  have h3 : 0 ≤ b := by omega
  have h4 : b ≤ 4294967295 := by omega
  clear h
  go_enter Try.func23, Try.ntmps23
  go_wp2
  go_ret
  exact ⟨rfl, (Below.refl _ _).alloc (Nat.le_refl _) _⟩
set_option maxRecDepth 100000 in
theorem rl_6 (a : Int) (b : Int) (w : World) (h : (0 ≤ a ∧ a ≤ 4294967295) ∧ (0 ≤ b ∧ b ≤ 4294967295) ∧ b ≠ 0) : Calls Try.prog 23 #[.agg #[.int .i64 a, .bool false, .int .i64 b]] w fun e w' => e = .returned (.bool false) ∧ Below w.heap.size w w' := by
  have h1 : 0 ≤ a := by omega
  have h2 : a ≤ 4294967295 := by omega
  have h3 : 0 ≤ b := by omega
  have h4 : b ≤ 4294967295 := by omega
  have h5 : (b == 0) = false := by simp; omega
  clear h
  go_enter Try.func23, Try.ntmps23
  go_wp2
  go_ret
  exact ⟨rfl, (Below.refl _ _).alloc (Nat.le_refl _) _⟩
set_option maxRecDepth 100000 in
theorem rl_7 (a : Int) (b : Int) (w : World) (h : (0 ≤ a ∧ a ≤ 4294967295) ∧ b = 0) : Calls Try.prog 23 #[.agg #[.int .i64 a, .bool false, .int .i64 b]] w fun e w' => e = .returned (.bool true) ∧ Below w.heap.size w w' := by
  have h1 : 0 ≤ a := by omega
  have h2 : a ≤ 4294967295 := by omega
  have h3 : 0 ≤ b := by omega
  have h4 : b ≤ 4294967295 := by omega
  have h5 : (b == 0) = true := by simp; omega
  clear h
  go_enter Try.func23, Try.ntmps23
  go_wp2
  go_ret
  exact ⟨rfl, (Below.refl _ _).alloc (Nat.le_refl _) _⟩
theorem rightLim_any (a : Int) (cap : Bool) (b : Int) (w : World) : Calls Try.prog 23 #[.agg #[.int .i64 a, .bool cap, .int .i64 b]] w fun e w' => e = .returned (.bool (rightLim a cap b)) ∧ Below w.heap.size w w' := by
  unfold rightLim
  by_cases h1 : 0 ≤ a
  · by_cases h2 : a ≤ 4294967295
    · by_cases h3 : 0 ≤ b
      · by_cases h4 : b ≤ 4294967295
        · cases cap with
          | true => rw [decide_eq_true (by simp; omega)]; exact rl_5 a b w (by omega)
          | false =>
            by_cases h5 : b = 0
            · rw [decide_eq_true (by simp; omega)]; exact rl_7 a b w (by omega)
            · rw [decide_eq_false (by simp; omega)]; exact rl_6 a b w (by omega)
        · rw [decide_eq_false (by omega)]; exact rl_4 a cap b w (by omega)
      · rw [decide_eq_false (by omega)]; exact rl_3 a cap b w (by omega)
    · rw [decide_eq_false (by omega)]; exact rl_2 a cap b w (by omega)
  · rw [decide_eq_false (by omega)]; exact rl_1 a cap b w h1
end Go.Proofs.Ythhdbjpimjkekaa.Typ
