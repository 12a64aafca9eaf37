/-
  trammelref05.Val, RightBlock: what each comes to. No condition.
-/
import Derived.Test.YthhdbjpimjkekaaLebBase
namespace Go.Proofs.Ythhdbjpimjkekaa.Typ
open Go.RowKit Leb

/-- The type of a byte, and its error. -/
def valOf (c : Nat) : Nat × Nat :=
  if c = 127 ∨ c = 126 then (c, 0)
  else if c = 125 ∨ c = 124 ∨ c = 123 ∨ c = 112 ∨ c = 111 then (0, 3)
  else (0, 2)
def Val2 (w : World) (r : Nat × Nat) (e : Ending) (w' : World) : Prop := e = .returned (.tuple #[.int .i64 (r.1 : Int), .int .i64 (r.2 : Int)]) ∧ w = w'
theorem val_127 (w : World) : Calls Try.prog 16 #[.int .u8 127] w (Val2 w (127, 0)) := by
  go_enter Try.func16, Try.ntmps16
  go_wp2
  go_ret2
  exact ⟨rfl, rfl⟩
theorem val_126 (w : World) : Calls Try.prog 16 #[.int .u8 126] w (Val2 w (126, 0)) := by
  go_enter Try.func16, Try.ntmps16
  go_wp2
  go_ret2
  exact ⟨rfl, rfl⟩
theorem val_125 (w : World) : Calls Try.prog 16 #[.int .u8 125] w (Val2 w (0, 3)) := by
  go_enter Try.func16, Try.ntmps16
  go_wp2
  go_ret2
  exact ⟨rfl, rfl⟩
theorem val_124 (w : World) : Calls Try.prog 16 #[.int .u8 124] w (Val2 w (0, 3)) := by
  go_enter Try.func16, Try.ntmps16
  go_wp2
  go_ret2
  exact ⟨rfl, rfl⟩
theorem val_123 (w : World) : Calls Try.prog 16 #[.int .u8 123] w (Val2 w (0, 3)) := by
  go_enter Try.func16, Try.ntmps16
  go_wp2
  go_ret2
  exact ⟨rfl, rfl⟩
theorem val_112 (w : World) : Calls Try.prog 16 #[.int .u8 112] w (Val2 w (0, 3)) := by
  go_enter Try.func16, Try.ntmps16
  go_wp2
  go_ret2
  exact ⟨rfl, rfl⟩
theorem val_111 (w : World) : Calls Try.prog 16 #[.int .u8 111] w (Val2 w (0, 3)) := by
  go_enter Try.func16, Try.ntmps16
  go_wp2
  go_ret2
  exact ⟨rfl, rfl⟩
theorem val_none (c : Nat) (w : World) (h : c ≠ 127 ∧ c ≠ 126 ∧ c ≠ 125 ∧ c ≠ 124 ∧ c ≠ 123 ∧ c ≠ 112 ∧ c ≠ 111) : Calls Try.prog 16 #[.int .u8 (c : Int)] w (Val2 w (0, 2)) := by
  have t127 : ((c : Int) == 127) = false := by simp; omega
  have t126 : ((c : Int) == 126) = false := by simp; omega
  have t125 : ((c : Int) == 125) = false := by simp; omega
  have t124 : ((c : Int) == 124) = false := by simp; omega
  have t123 : ((c : Int) == 123) = false := by simp; omega
  have t112 : ((c : Int) == 112) = false := by simp; omega
  have t111 : ((c : Int) == 111) = false := by simp; omega
  clear h
  go_enter Try.func16, Try.ntmps16
  go_wp2
  go_ret2
  exact ⟨rfl, rfl⟩
theorem val_any (c : Nat) (w : World) : Calls Try.prog 16 #[.int .u8 (c : Int)] w (Val2 w (valOf c)) := by
  by_cases h127 : c = 127
  · subst h127; exact val_127 w
  by_cases h126 : c = 126
  · subst h126; exact val_126 w
  by_cases h125 : c = 125
  · subst h125; exact val_125 w
  by_cases h124 : c = 124
  · subst h124; exact val_124 w
  by_cases h123 : c = 123
  · subst h123; exact val_123 w
  by_cases h112 : c = 112
  · subst h112; exact val_112 w
  by_cases h111 : c = 111
  · subst h111; exact val_111 w
  have : valOf c = (0, 2) := by unfold valOf; rw [if_neg (by omega), if_neg (by omega)]
  rw [this]
  exact val_none c w ⟨h127, h126, h125, h124, h123, h112, h111⟩
theorem valOf_cases (c : Nat) : (valOf c = (c, 0) ∧ (c = 127 ∨ c = 126)) ∨ valOf c = (0, 3) ∨ valOf c = (0, 2) := by
  unfold valOf
  split
  · exact .inl ⟨rfl, by assumption⟩
  · split
    · exact .inr (.inl rfl)
    · exact .inr (.inr rfl)
/-- May a block's type be put? -/
def rightBlock (t : Int) : Bool := decide (t = -64 ∨ t = -1 ∨ t = -2 ∨ (0 ≤ t ∧ t ≤ 4294967295))
def Bool1 (w : World) (b : Bool) (e : Ending) (w' : World) : Prop := e = .returned (.bool b) ∧ w = w'
theorem rb_a (w : World) : Calls Try.prog 26 #[.int .i64 (-64)] w (Bool1 w true) := by
  go_enter Try.func26, Try.ntmps26
  go_wp2
  go_ret
  exact ⟨rfl, rfl⟩
theorem rb_b (w : World) : Calls Try.prog 26 #[.int .i64 (-1)] w (Bool1 w true) := by
  go_enter Try.func26, Try.ntmps26
  go_wp2
  go_ret
  exact ⟨rfl, rfl⟩
theorem rb_c (w : World) : Calls Try.prog 26 #[.int .i64 (-2)] w (Bool1 w true) := by
  go_enter Try.func26, Try.ntmps26
  go_wp2
  go_ret
  exact ⟨rfl, rfl⟩
theorem rb_neg (t : Int) (w : World) (h1 : t ≠ -64 ∧ t ≠ -1 ∧ t ≠ -2) (h : ¬ 0 ≤ t) : Calls Try.prog 26 #[.int .i64 t] w (Bool1 w false) := by
  have t64 : (t == -64) = false := by simp; omega
  have t1 : (t == -1) = false := by simp; omega
  have t2 : (t == -2) = false := by simp; omega
  have hlo : ¬ 0 ≤ t := by omega
  clear h
  go_enter Try.func26, Try.ntmps26
  go_wp2
  go_ret
  exact ⟨rfl, rfl⟩
theorem rb_in (t : Int) (w : World) (_h1 : t ≠ -64 ∧ t ≠ -1 ∧ t ≠ -2) (h : 0 ≤ t ∧ t ≤ 4294967295) : Calls Try.prog 26 #[.int .i64 t] w (Bool1 w true) := by
  have t64 : (t == -64) = false := by simp; omega
  have t1 : (t == -1) = false := by simp; omega
  have t2 : (t == -2) = false := by simp; omega
  have hlo : 0 ≤ t := by omega
  have hhi : t ≤ 4294967295 := by omega
  clear h
  go_enter Try.func26, Try.ntmps26
  go_wp2
  go_ret
  exact ⟨rfl, rfl⟩
theorem rb_out (t : Int) (w : World) (_h1 : t ≠ -64 ∧ t ≠ -1 ∧ t ≠ -2) (h : 4294967295 < t) : Calls Try.prog 26 #[.int .i64 t] w (Bool1 w false) := by
  have t64 : (t == -64) = false := by simp; omega
  have t1 : (t == -1) = false := by simp; omega
  have t2 : (t == -2) = false := by simp; omega
  have hlo : 0 ≤ t := by omega
  have hhi : ¬ t ≤ 4294967295 := by omega
  clear h
  go_enter Try.func26, Try.ntmps26
  go_wp2
  go_ret
  exact ⟨rfl, rfl⟩
theorem rightBlock_any (t : Int) (w : World) : Calls Try.prog 26 #[.int .i64 t] w (Bool1 w (rightBlock t)) := by
  unfold rightBlock
  by_cases h1 : t = -64
  · subst h1; exact rb_a w
  by_cases h2 : t = -1
  · subst h2; exact rb_b w
  by_cases h3 : t = -2
  · subst h3; exact rb_c w
  by_cases h4 : 0 ≤ t
  · by_cases h5 : t ≤ 4294967295
    · rw [decide_eq_true (by omega)]; exact rb_in t w ⟨h1, h2, h3⟩ ⟨h4, h5⟩
    · rw [decide_eq_false (by omega)]; exact rb_out t w ⟨h1, h2, h3⟩ (by omega)
  · rw [decide_eq_false (by omega)]; exact rb_neg t w ⟨h1, h2, h3⟩ h4
end Go.Proofs.Ythhdbjpimjkekaa.Typ
