/-
  num.Types, pack.Access: is a code one of theirs? No condition.
-/
import Derived.Test.YtdipgokbfjbgfaaInsMem
import Derived.Test.YtdipgokbfjbgfaaTypPlainOwn
namespace Go.Proofs.Ytdipgokbfjbgfaa.Ins
open Go.RowKit Leb Typ

def TyOk (w : World) (b : Bool) (e : Ending) (w' : World) : Prop := ∃ v0 v1, e = .returned (.tuple #[v0, v1, .bool b]) ∧ Below w.heap.size w w'
set_option maxRecDepth 100000 in
theorem nty_167 (w : World) : Calls Try.prog 70 #[.int .i64 167] w (TyOk w true) := by
  go_enter Try.func70, Try.ntmps70
  go_wp2
  go_ret3
  exact ⟨_, _, rfl, (Below.refl _ _).alloc (Nat.le_refl _) _⟩
set_option maxRecDepth 100000 in
theorem nty_172 (w : World) : Calls Try.prog 70 #[.int .i64 172] w (TyOk w true) := by
  go_enter Try.func70, Try.ntmps70
  go_wp2
  go_ret3
  exact ⟨_, _, rfl, (Below.refl _ _).alloc (Nat.le_refl _) _⟩
set_option maxRecDepth 100000 in
theorem nty_173 (w : World) : Calls Try.prog 70 #[.int .i64 173] w (TyOk w true) := by
  go_enter Try.func70, Try.ntmps70
  go_wp2
  go_ret3
  exact ⟨_, _, rfl, (Below.refl _ _).alloc (Nat.le_refl _) _⟩
set_option maxRecDepth 100000 in
theorem nty_192 (w : World) : Calls Try.prog 70 #[.int .i64 192] w (TyOk w true) := by
  go_enter Try.func70, Try.ntmps70
  go_wp2
  go_ret3
  exact ⟨_, _, rfl, (Below.refl _ _).alloc (Nat.le_refl _) _⟩
set_option maxRecDepth 100000 in
theorem nty_193 (w : World) : Calls Try.prog 70 #[.int .i64 193] w (TyOk w true) := by
  go_enter Try.func70, Try.ntmps70
  go_wp2
  go_ret3
  exact ⟨_, _, rfl, (Below.refl _ _).alloc (Nat.le_refl _) _⟩
set_option maxRecDepth 100000 in
theorem nty_194 (w : World) : Calls Try.prog 70 #[.int .i64 194] w (TyOk w true) := by
  go_enter Try.func70, Try.ntmps70
  go_wp2
  go_ret3
  exact ⟨_, _, rfl, (Below.refl _ _).alloc (Nat.le_refl _) _⟩
set_option maxRecDepth 100000 in
theorem nty_195 (w : World) : Calls Try.prog 70 #[.int .i64 195] w (TyOk w true) := by
  go_enter Try.func70, Try.ntmps70
  go_wp2
  go_ret3
  exact ⟨_, _, rfl, (Below.refl _ _).alloc (Nat.le_refl _) _⟩
set_option maxRecDepth 100000 in
theorem nty_196 (w : World) : Calls Try.prog 70 #[.int .i64 196] w (TyOk w true) := by
  go_enter Try.func70, Try.ntmps70
  go_wp2
  go_ret3
  exact ⟨_, _, rfl, (Below.refl _ _).alloc (Nat.le_refl _) _⟩
section
variable (op c : Int) (w : World) (hn : op ≠ 167 ∧ op ≠ 172 ∧ op ≠ 173 ∧ op ≠ 192 ∧ op ≠ 193 ∧ op ≠ 194 ∧ op ≠ 195 ∧ op ≠ 196)
include hn
set_option maxRecDepth 100000 in
theorem nty_none0_32 (h : c < 69) (HF : Hid (∀ V, Calls Try.prog 90 #[.int .i64 op] V fun e w' => e = .returned (.tuple #[.int .i64 c, .int .u64 32]) ∧ V = w')) :
    Calls Try.prog 70 #[.int .i64 op] w (TyOk w false) := by
  have t167 : (op == 167) = false := by simp; omega
  have t172 : (op == 172) = false := by simp; omega
  have t173 : (op == 173) = false := by simp; omega
  have t192 : (op == 192) = false := by simp; omega
  have t193 : (op == 193) = false := by simp; omega
  have t194 : (op == 194) = false := by simp; omega
  have t195 : (op == 195) = false := by simp; omega
  have t196 : (op == 196) = false := by simp; omega
  have e69 : (c == 69) = false := by simp; omega
  have g70 : ¬ 70 ≤ c := by omega
  have g103 : ¬ 103 ≤ c := by omega
  have g106 : ¬ 106 ≤ c := by omega
  clear h hn
  go_enter Try.func70, Try.ntmps70
  go_wp2_with fail
  refine (HF.out _).mono ?_
  rintro e w' ⟨rfl, rfl⟩
  go_wp2
  go_ret3
  exact ⟨_, _, rfl, Below.refl _ _⟩
set_option maxRecDepth 100000 in
theorem nty_eqz_32 (h : c = 69) (HF : Hid (∀ V, Calls Try.prog 90 #[.int .i64 op] V fun e w' => e = .returned (.tuple #[.int .i64 c, .int .u64 32]) ∧ V = w')) :
    Calls Try.prog 70 #[.int .i64 op] w (TyOk w true) := by
  have t167 : (op == 167) = false := by simp; omega
  have t172 : (op == 172) = false := by simp; omega
  have t173 : (op == 173) = false := by simp; omega
  have t192 : (op == 192) = false := by simp; omega
  have t193 : (op == 193) = false := by simp; omega
  have t194 : (op == 194) = false := by simp; omega
  have t195 : (op == 195) = false := by simp; omega
  have t196 : (op == 196) = false := by simp; omega
  have e69 : (c == 69) = true := by simp; omega
  clear h hn
  go_enter Try.func70, Try.ntmps70
  go_wp2_with fail
  refine (HF.out _).mono ?_
  rintro e w' ⟨rfl, rfl⟩
  go_wp2
  go_ret3
  exact ⟨_, _, rfl, (Below.refl _ _).alloc (Nat.le_refl _) _⟩
set_option maxRecDepth 100000 in
theorem nty_cmp_32 (h : 70 ≤ c ∧ c ≤ 79) (HF : Hid (∀ V, Calls Try.prog 90 #[.int .i64 op] V fun e w' => e = .returned (.tuple #[.int .i64 c, .int .u64 32]) ∧ V = w')) :
    Calls Try.prog 70 #[.int .i64 op] w (TyOk w true) := by
  have t167 : (op == 167) = false := by simp; omega
  have t172 : (op == 172) = false := by simp; omega
  have t173 : (op == 173) = false := by simp; omega
  have t192 : (op == 192) = false := by simp; omega
  have t193 : (op == 193) = false := by simp; omega
  have t194 : (op == 194) = false := by simp; omega
  have t195 : (op == 195) = false := by simp; omega
  have t196 : (op == 196) = false := by simp; omega
  have e69 : (c == 69) = false := by simp; omega
  have g70 : 70 ≤ c := by omega
  have l79 : c ≤ 79 := by omega
  clear h hn
  go_enter Try.func70, Try.ntmps70
  go_wp2_with fail
  refine (HF.out _).mono ?_
  rintro e w' ⟨rfl, rfl⟩
  go_wp2
  go_ret3
  exact ⟨_, _, rfl, (Below.refl _ _).alloc (Nat.le_refl _) _⟩
set_option maxRecDepth 100000 in
theorem nty_none1_32 (h : 79 < c ∧ c < 103) (HF : Hid (∀ V, Calls Try.prog 90 #[.int .i64 op] V fun e w' => e = .returned (.tuple #[.int .i64 c, .int .u64 32]) ∧ V = w')) :
    Calls Try.prog 70 #[.int .i64 op] w (TyOk w false) := by
  have t167 : (op == 167) = false := by simp; omega
  have t172 : (op == 172) = false := by simp; omega
  have t173 : (op == 173) = false := by simp; omega
  have t192 : (op == 192) = false := by simp; omega
  have t193 : (op == 193) = false := by simp; omega
  have t194 : (op == 194) = false := by simp; omega
  have t195 : (op == 195) = false := by simp; omega
  have t196 : (op == 196) = false := by simp; omega
  have e69 : (c == 69) = false := by simp; omega
  have g70 : 70 ≤ c := by omega
  have l79 : ¬ c ≤ 79 := by omega
  have g103 : ¬ 103 ≤ c := by omega
  have g106 : ¬ 106 ≤ c := by omega
  clear h hn
  go_enter Try.func70, Try.ntmps70
  go_wp2_with fail
  refine (HF.out _).mono ?_
  rintro e w' ⟨rfl, rfl⟩
  go_wp2
  go_ret3
  exact ⟨_, _, rfl, Below.refl _ _⟩
set_option maxRecDepth 100000 in
theorem nty_one_32 (h : 103 ≤ c ∧ c ≤ 105) (HF : Hid (∀ V, Calls Try.prog 90 #[.int .i64 op] V fun e w' => e = .returned (.tuple #[.int .i64 c, .int .u64 32]) ∧ V = w')) :
    Calls Try.prog 70 #[.int .i64 op] w (TyOk w true) := by
  have t167 : (op == 167) = false := by simp; omega
  have t172 : (op == 172) = false := by simp; omega
  have t173 : (op == 173) = false := by simp; omega
  have t192 : (op == 192) = false := by simp; omega
  have t193 : (op == 193) = false := by simp; omega
  have t194 : (op == 194) = false := by simp; omega
  have t195 : (op == 195) = false := by simp; omega
  have t196 : (op == 196) = false := by simp; omega
  have e69 : (c == 69) = false := by simp; omega
  have g70 : 70 ≤ c := by omega
  have l79 : ¬ c ≤ 79 := by omega
  have g103 : 103 ≤ c := by omega
  have l105 : c ≤ 105 := by omega
  clear h hn
  go_enter Try.func70, Try.ntmps70
  go_wp2_with fail
  refine (HF.out _).mono ?_
  rintro e w' ⟨rfl, rfl⟩
  go_wp2
  go_ret3
  exact ⟨_, _, rfl, (Below.refl _ _).alloc (Nat.le_refl _) _⟩
set_option maxRecDepth 100000 in
theorem nty_two_32 (h : 106 ≤ c ∧ c ≤ 120) (HF : Hid (∀ V, Calls Try.prog 90 #[.int .i64 op] V fun e w' => e = .returned (.tuple #[.int .i64 c, .int .u64 32]) ∧ V = w')) :
    Calls Try.prog 70 #[.int .i64 op] w (TyOk w true) := by
  have t167 : (op == 167) = false := by simp; omega
  have t172 : (op == 172) = false := by simp; omega
  have t173 : (op == 173) = false := by simp; omega
  have t192 : (op == 192) = false := by simp; omega
  have t193 : (op == 193) = false := by simp; omega
  have t194 : (op == 194) = false := by simp; omega
  have t195 : (op == 195) = false := by simp; omega
  have t196 : (op == 196) = false := by simp; omega
  have e69 : (c == 69) = false := by simp; omega
  have g70 : 70 ≤ c := by omega
  have l79 : ¬ c ≤ 79 := by omega
  have g103 : 103 ≤ c := by omega
  have l105 : ¬ c ≤ 105 := by omega
  have g106 : 106 ≤ c := by omega
  have l120 : c ≤ 120 := by omega
  clear h hn
  go_enter Try.func70, Try.ntmps70
  go_wp2_with fail
  refine (HF.out _).mono ?_
  rintro e w' ⟨rfl, rfl⟩
  go_wp2
  go_ret3
  exact ⟨_, _, rfl, (Below.refl _ _).alloc (Nat.le_refl _) _⟩
set_option maxRecDepth 100000 in
theorem nty_none2_32 (h : 120 < c) (HF : Hid (∀ V, Calls Try.prog 90 #[.int .i64 op] V fun e w' => e = .returned (.tuple #[.int .i64 c, .int .u64 32]) ∧ V = w')) :
    Calls Try.prog 70 #[.int .i64 op] w (TyOk w false) := by
  have t167 : (op == 167) = false := by simp; omega
  have t172 : (op == 172) = false := by simp; omega
  have t173 : (op == 173) = false := by simp; omega
  have t192 : (op == 192) = false := by simp; omega
  have t193 : (op == 193) = false := by simp; omega
  have t194 : (op == 194) = false := by simp; omega
  have t195 : (op == 195) = false := by simp; omega
  have t196 : (op == 196) = false := by simp; omega
  have e69 : (c == 69) = false := by simp; omega
  have g70 : 70 ≤ c := by omega
  have l79 : ¬ c ≤ 79 := by omega
  have g103 : 103 ≤ c := by omega
  have l105 : ¬ c ≤ 105 := by omega
  have g106 : 106 ≤ c := by omega
  have l120 : ¬ c ≤ 120 := by omega
  clear h hn
  go_enter Try.func70, Try.ntmps70
  go_wp2_with fail
  refine (HF.out _).mono ?_
  rintro e w' ⟨rfl, rfl⟩
  go_wp2
  go_ret3
  exact ⟨_, _, rfl, Below.refl _ _⟩
set_option maxRecDepth 100000 in
theorem nty_eqz_64 (h : c = 69) (HF : Hid (∀ V, Calls Try.prog 90 #[.int .i64 op] V fun e w' => e = .returned (.tuple #[.int .i64 c, .int .u64 64]) ∧ V = w')) :
    Calls Try.prog 70 #[.int .i64 op] w (TyOk w true) := by
  have t167 : (op == 167) = false := by simp; omega
  have t172 : (op == 172) = false := by simp; omega
  have t173 : (op == 173) = false := by simp; omega
  have t192 : (op == 192) = false := by simp; omega
  have t193 : (op == 193) = false := by simp; omega
  have t194 : (op == 194) = false := by simp; omega
  have t195 : (op == 195) = false := by simp; omega
  have t196 : (op == 196) = false := by simp; omega
  have e69 : (c == 69) = true := by simp; omega
  clear h hn
  go_enter Try.func70, Try.ntmps70
  go_wp2_with fail
  refine (HF.out _).mono ?_
  rintro e w' ⟨rfl, rfl⟩
  go_wp2
  go_ret3
  exact ⟨_, _, rfl, (Below.refl _ _).alloc (Nat.le_refl _) _⟩
set_option maxRecDepth 100000 in
theorem nty_cmp_64 (h : 70 ≤ c ∧ c ≤ 79) (HF : Hid (∀ V, Calls Try.prog 90 #[.int .i64 op] V fun e w' => e = .returned (.tuple #[.int .i64 c, .int .u64 64]) ∧ V = w')) :
    Calls Try.prog 70 #[.int .i64 op] w (TyOk w true) := by
  have t167 : (op == 167) = false := by simp; omega
  have t172 : (op == 172) = false := by simp; omega
  have t173 : (op == 173) = false := by simp; omega
  have t192 : (op == 192) = false := by simp; omega
  have t193 : (op == 193) = false := by simp; omega
  have t194 : (op == 194) = false := by simp; omega
  have t195 : (op == 195) = false := by simp; omega
  have t196 : (op == 196) = false := by simp; omega
  have e69 : (c == 69) = false := by simp; omega
  have g70 : 70 ≤ c := by omega
  have l79 : c ≤ 79 := by omega
  clear h hn
  go_enter Try.func70, Try.ntmps70
  go_wp2_with fail
  refine (HF.out _).mono ?_
  rintro e w' ⟨rfl, rfl⟩
  go_wp2
  go_ret3
  exact ⟨_, _, rfl, (Below.refl _ _).alloc (Nat.le_refl _) _⟩
set_option maxRecDepth 100000 in
theorem nty_one_64 (h : 103 ≤ c ∧ c ≤ 105) (HF : Hid (∀ V, Calls Try.prog 90 #[.int .i64 op] V fun e w' => e = .returned (.tuple #[.int .i64 c, .int .u64 64]) ∧ V = w')) :
    Calls Try.prog 70 #[.int .i64 op] w (TyOk w true) := by
  have t167 : (op == 167) = false := by simp; omega
  have t172 : (op == 172) = false := by simp; omega
  have t173 : (op == 173) = false := by simp; omega
  have t192 : (op == 192) = false := by simp; omega
  have t193 : (op == 193) = false := by simp; omega
  have t194 : (op == 194) = false := by simp; omega
  have t195 : (op == 195) = false := by simp; omega
  have t196 : (op == 196) = false := by simp; omega
  have e69 : (c == 69) = false := by simp; omega
  have g70 : 70 ≤ c := by omega
  have l79 : ¬ c ≤ 79 := by omega
  have g103 : 103 ≤ c := by omega
  have l105 : c ≤ 105 := by omega
  clear h hn
  go_enter Try.func70, Try.ntmps70
  go_wp2_with fail
  refine (HF.out _).mono ?_
  rintro e w' ⟨rfl, rfl⟩
  go_wp2
  go_ret3
  exact ⟨_, _, rfl, (Below.refl _ _).alloc (Nat.le_refl _) _⟩
set_option maxRecDepth 100000 in
theorem nty_two_64 (h : 106 ≤ c ∧ c ≤ 120) (HF : Hid (∀ V, Calls Try.prog 90 #[.int .i64 op] V fun e w' => e = .returned (.tuple #[.int .i64 c, .int .u64 64]) ∧ V = w')) :
    Calls Try.prog 70 #[.int .i64 op] w (TyOk w true) := by
  have t167 : (op == 167) = false := by simp; omega
  have t172 : (op == 172) = false := by simp; omega
  have t173 : (op == 173) = false := by simp; omega
  have t192 : (op == 192) = false := by simp; omega
  have t193 : (op == 193) = false := by simp; omega
  have t194 : (op == 194) = false := by simp; omega
  have t195 : (op == 195) = false := by simp; omega
  have t196 : (op == 196) = false := by simp; omega
  have e69 : (c == 69) = false := by simp; omega
  have g70 : 70 ≤ c := by omega
  have l79 : ¬ c ≤ 79 := by omega
  have g103 : 103 ≤ c := by omega
  have l105 : ¬ c ≤ 105 := by omega
  have g106 : 106 ≤ c := by omega
  have l120 : c ≤ 120 := by omega
  clear h hn
  go_enter Try.func70, Try.ntmps70
  go_wp2_with fail
  refine (HF.out _).mono ?_
  rintro e w' ⟨rfl, rfl⟩
  go_wp2
  go_ret3
  exact ⟨_, _, rfl, (Below.refl _ _).alloc (Nat.le_refl _) _⟩
end
theorem nfold_11 (op : Int) (w : World) (h : 80 ≤ op ∧ op ≤ 90) : Calls Try.prog 90 #[.int .i64 op] w fun e w' => e = .returned (.tuple #[.int .i64 (op - 11), .int .u64 64]) ∧ w = w' := by
  obtain ⟨h1, h2⟩ := h
  go_enter Try.func90, Try.ntmps90
  go_wp2
  go_ret2
  exact ⟨rfl, rfl⟩
theorem nfold_18 (op : Int) (w : World) (h : 121 ≤ op ∧ op ≤ 138) : Calls Try.prog 90 #[.int .i64 op] w fun e w' => e = .returned (.tuple #[.int .i64 (op - 18), .int .u64 64]) ∧ w = w' := by
  obtain ⟨h1, h2⟩ := h
  have h3 : 80 ≤ op := by omega
  have h4 : ¬ op ≤ 90 := by omega
  go_enter Try.func90, Try.ntmps90
  go_wp2
  go_ret2
  exact ⟨rfl, rfl⟩
theorem nfold_a (op : Int) (w : World) (h : op < 80) : Calls Try.prog 90 #[.int .i64 op] w fun e w' => e = .returned (.tuple #[.int .i64 op, .int .u64 32]) ∧ w = w' := by
  have h1 : ¬ 80 ≤ op := by omega
  have h2 : ¬ 121 ≤ op := by omega
  clear h
  go_enter Try.func90, Try.ntmps90
  go_wp2
  go_ret2
  exact ⟨rfl, rfl⟩
theorem nfold_b (op : Int) (w : World) (h : 90 < op ∧ op < 121) : Calls Try.prog 90 #[.int .i64 op] w fun e w' => e = .returned (.tuple #[.int .i64 op, .int .u64 32]) ∧ w = w' := by
  have h1 : 80 ≤ op := by omega
  have h2 : ¬ op ≤ 90 := by omega
  have h3 : ¬ 121 ≤ op := by omega
  clear h
  go_enter Try.func90, Try.ntmps90
  go_wp2
  go_ret2
  exact ⟨rfl, rfl⟩
theorem nfold_c (op : Int) (w : World) (h : 138 < op) : Calls Try.prog 90 #[.int .i64 op] w fun e w' => e = .returned (.tuple #[.int .i64 op, .int .u64 32]) ∧ w = w' := by
  have h1 : 80 ≤ op := by omega
  have h2 : ¬ op ≤ 90 := by omega
  have h3 : 121 ≤ op := by omega
  have h4 : ¬ op ≤ 138 := by omega
  clear h
  go_enter Try.func90, Try.ntmps90
  go_wp2
  go_ret2
  exact ⟨rfl, rfl⟩
theorem types_any (op : Int) (w : World) : Calls Try.prog 70 #[.int .i64 op] w (TyOk w (numOp op)) := by
  by_cases h167 : op = 167
  · subst h167; exact nty_167 w
  by_cases h172 : op = 172
  · subst h172; exact nty_172 w
  by_cases h173 : op = 173
  · subst h173; exact nty_173 w
  by_cases h192 : op = 192
  · subst h192; exact nty_192 w
  by_cases h193 : op = 193
  · subst h193; exact nty_193 w
  by_cases h194 : op = 194
  · subst h194; exact nty_194 w
  by_cases h195 : op = 195
  · subst h195; exact nty_195 w
  by_cases h196 : op = 196
  · subst h196; exact nty_196 w
  have hn : op ≠ 167 ∧ op ≠ 172 ∧ op ≠ 173 ∧ op ≠ 192 ∧ op ≠ 193 ∧ op ≠ 194 ∧ op ≠ 195 ∧ op ≠ 196 := ⟨h167, h172, h173, h192, h193, h194, h195, h196⟩
  have yes : (69 ≤ op ∧ op ≤ 90) ∨ (103 ≤ op ∧ op ≤ 138) → numOp op = true := fun h => by unfold numOp; exact decide_eq_true (by omega)
  have no : ¬ ((69 ≤ op ∧ op ≤ 90) ∨ (103 ≤ op ∧ op ≤ 138)) → numOp op = false := fun h => by unfold numOp; exact decide_eq_false (by omega)
  by_cases c1 : 80 ≤ op ∧ op ≤ 90
  · have HF := Lib.hid (fun V => nfold_11 op V c1)
    rw [yes (by omega)]
    by_cases d1 : op = 80
    · exact nty_eqz_64 op _ w hn (by omega) HF
    · exact nty_cmp_64 op _ w hn (by omega) HF
  by_cases c2 : 121 ≤ op ∧ op ≤ 138
  · have HF := Lib.hid (fun V => nfold_18 op V c2)
    rw [yes (by omega)]
    by_cases d1 : op ≤ 123
    · exact nty_one_64 op _ w hn (by omega) HF
    · exact nty_two_64 op _ w hn (by omega) HF
  have HF : Hid (∀ V, Calls Try.prog 90 #[.int .i64 op] V fun e w' => e = .returned (.tuple #[.int .i64 op, .int .u64 32]) ∧ V = w') := Lib.hid fun V => by
    by_cases e1 : op < 80
    · exact nfold_a op V e1
    by_cases e2 : 138 < op
    · exact nfold_c op V e2
    · exact nfold_b op V (by omega)
  by_cases d0 : op < 69
  · rw [no (by omega)]; exact nty_none0_32 op op w hn d0 HF
  by_cases d1 : op = 69
  · rw [yes (by omega)]; exact nty_eqz_32 op op w hn d1 HF
  by_cases d2 : op ≤ 79
  · rw [yes (by omega)]; exact nty_cmp_32 op op w hn (by omega) HF
  by_cases d3 : op < 103
  · rw [no (by omega)]; exact nty_none1_32 op op w hn (by omega) HF
  by_cases d4 : op ≤ 105
  · rw [yes (by omega)]; exact nty_one_32 op op w hn (by omega) HF
  by_cases d5 : op ≤ 120
  · rw [yes (by omega)]; exact nty_two_32 op op w hn (by omega) HF
  · rw [no (by omega)]; exact nty_none2_32 op op w hn (by omega) HF
end Go.Proofs.Ytdipgokbfjbgfaa.Ins
