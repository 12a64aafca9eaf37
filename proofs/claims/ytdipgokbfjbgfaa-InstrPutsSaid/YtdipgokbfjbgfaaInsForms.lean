/-
  InsOwnNum: num.Types, pack.Access: is a code one of theirs? No condition.
  InsOwnPack: pack.Access: is a code one of its own? No condition.
  InsOwnForm: instr.within, isNumber, isSmall, isForeign, formByLayer, form: what each comes to. No condition.
-/
import Derived.Test.YtdipgokbfjbgfaaInsPlain
import Derived.Test.YtdipgokbfjbgfaaTypAll
namespace Go.Proofs.Ytdipgokbfjbgfaa.Ins
open Go.RowKit Leb Typ

def TyOk (w : World) (b : Bool) (e : Ending) (w' : World) : Prop := ∃ v0 v1, e = .returned (.tuple #[v0, v1, .bool b]) ∧ Below w.heap.size w w'
set_option maxRecDepth 100000 in
theorem nty_167 (w : World) : Calls Try.prog 70 #[.int .i64 167] w (TyOk w true) := by
  go_enter Try.func70, Try.ntmps70
  go_wp2
  go_ret3
  exact ⟨_, _, rfl, (Below.refl _ _).alloc (Nat.le_refl _) _⟩
set_option maxRecDepth 100000 in
theorem nty_172 (w : World) : Calls Try.prog 70 #[.int .i64 172] w (TyOk w true) := by
  go_enter Try.func70, Try.ntmps70
  go_wp2
  go_ret3
  exact ⟨_, _, rfl, (Below.refl _ _).alloc (Nat.le_refl _) _⟩
set_option maxRecDepth 100000 in
theorem nty_173 (w : World) : Calls Try.prog 70 #[.int .i64 173] w (TyOk w true) := by
  go_enter Try.func70, Try.ntmps70
  go_wp2
  go_ret3
  exact ⟨_, _, rfl, (Below.refl _ _).alloc (Nat.le_refl _) _⟩
set_option maxRecDepth 100000 in
theorem nty_192 (w : World) : Calls Try.prog 70 #[.int .i64 192] w (TyOk w true) := by
  go_enter Try.func70, Try.ntmps70
  go_wp2
  go_ret3
  exact ⟨_, _, rfl, (Below.refl _ _).alloc (Nat.le_refl _) _⟩
set_option maxRecDepth 100000 in
theorem nty_193 (w : World) : Calls Try.prog 70 #[.int .i64 193] w (TyOk w true) := by
  go_enter Try.func70, Try.ntmps70
  go_wp2
  go_ret3
  exact ⟨_, _, rfl, (Below.refl _ _).alloc (Nat.le_refl _) _⟩
set_option maxRecDepth 100000 in
theorem nty_194 (w : World) : Calls Try.prog 70 #[.int .i64 194] w (TyOk w true) := by
  go_enter Try.func70, Try.ntmps70
  go_wp2
  go_ret3
  exact ⟨_, _, rfl, (Below.refl _ _).alloc (Nat.le_refl _) _⟩
set_option maxRecDepth 100000 in
theorem nty_195 (w : World) : Calls Try.prog 70 #[.int .i64 195] w (TyOk w true) := by
  go_enter Try.func70, Try.ntmps70
  go_wp2
  go_ret3
  exact ⟨_, _, rfl, (Below.refl _ _).alloc (Nat.le_refl _) _⟩
set_option maxRecDepth 100000 in
theorem nty_196 (w : World) : Calls Try.prog 70 #[.int .i64 196] w (TyOk w true) := by
  go_enter Try.func70, Try.ntmps70
  go_wp2
  go_ret3
  exact ⟨_, _, rfl, (Below.refl _ _).alloc (Nat.le_refl _) _⟩
section
variable (op c : Int) (w : World) (hn : op ≠ 167 ∧ op ≠ 172 ∧ op ≠ 173 ∧ op ≠ 192 ∧ op ≠ 193 ∧ op ≠ 194 ∧ op ≠ 195 ∧ op ≠ 196)
include hn
set_option maxRecDepth 100000 in
theorem nty_none0_32 (h : c < 69) (HF : Hid (∀ V, Calls Try.prog 90 #[.int .i64 op] V fun e w' => e = .returned (.tuple #[.int .i64 c, .int .u64 32]) ∧ V = w')) :
    Calls Try.prog 70 #[.int .i64 op] w (TyOk w false) := by
  have t167 : (op == 167) = false := by simp; omega
  have t172 : (op == 172) = false := by simp; omega
  have t173 : (op == 173) = false := by simp; omega
  have t192 : (op == 192) = false := by simp; omega
  have t193 : (op == 193) = false := by simp; omega
  have t194 : (op == 194) = false := by simp; omega
  have t195 : (op == 195) = false := by simp; omega
  have t196 : (op == 196) = false := by simp; omega
  have e69 : (c == 69) = false := by simp; omega
  have g70 : ¬ 70 ≤ c := by omega
  have g103 : ¬ 103 ≤ c := by omega
  have g106 : ¬ 106 ≤ c := by omega
  clear h hn
  go_enter Try.func70, Try.ntmps70
  go_wp2_with fail
  refine (HF.out _).mono ?_
  rintro e w' ⟨rfl, rfl⟩
  go_wp2
  go_ret3
  exact ⟨_, _, rfl, Below.refl _ _⟩
set_option maxRecDepth 100000 in
theorem nty_eqz_32 (h : c = 69) (HF : Hid (∀ V, Calls Try.prog 90 #[.int .i64 op] V fun e w' => e = .returned (.tuple #[.int .i64 c, .int .u64 32]) ∧ V = w')) :
    Calls Try.prog 70 #[.int .i64 op] w (TyOk w true) := by
  have t167 : (op == 167) = false := by simp; omega
  have t172 : (op == 172) = false := by simp; omega
  have t173 : (op == 173) = false := by simp; omega
  have t192 : (op == 192) = false := by simp; omega
  have t193 : (op == 193) = false := by simp; omega
  have t194 : (op == 194) = false := by simp; omega
  have t195 : (op == 195) = false := by simp; omega
  have t196 : (op == 196) = false := by simp; omega
  have e69 : (c == 69) = true := by simp; omega
  clear h hn
  go_enter Try.func70, Try.ntmps70
  go_wp2_with fail
  refine (HF.out _).mono ?_
  rintro e w' ⟨rfl, rfl⟩
  go_wp2
  go_ret3
  exact ⟨_, _, rfl, (Below.refl _ _).alloc (Nat.le_refl _) _⟩
set_option maxRecDepth 100000 in
theorem nty_cmp_32 (h : 70 ≤ c ∧ c ≤ 79) (HF : Hid (∀ V, Calls Try.prog 90 #[.int .i64 op] V fun e w' => e = .returned (.tuple #[.int .i64 c, .int .u64 32]) ∧ V = w')) :
    Calls Try.prog 70 #[.int .i64 op] w (TyOk w true) := by
  have t167 : (op == 167) = false := by simp; omega
  have t172 : (op == 172) = false := by simp; omega
  have t173 : (op == 173) = false := by simp; omega
  have t192 : (op == 192) = false := by simp; omega
  have t193 : (op == 193) = false := by simp; omega
  have t194 : (op == 194) = false := by simp; omega
  have t195 : (op == 195) = false := by simp; omega
  have t196 : (op == 196) = false := by simp; omega
  have e69 : (c == 69) = false := by simp; omega
  have g70 : 70 ≤ c := by omega
  have l79 : c ≤ 79 := by omega
  clear h hn
  go_enter Try.func70, Try.ntmps70
  go_wp2_with fail
  refine (HF.out _).mono ?_
  rintro e w' ⟨rfl, rfl⟩
  go_wp2
  go_ret3
  exact ⟨_, _, rfl, (Below.refl _ _).alloc (Nat.le_refl _) _⟩
set_option maxRecDepth 100000 in
theorem nty_none1_32 (h : 79 < c ∧ c < 103) (HF : Hid (∀ V, Calls Try.prog 90 #[.int .i64 op] V fun e w' => e = .returned (.tuple #[.int .i64 c, .int .u64 32]) ∧ V = w')) :
    Calls Try.prog 70 #[.int .i64 op] w (TyOk w false) := by
  have t167 : (op == 167) = false := by simp; omega
  have t172 : (op == 172) = false := by simp; omega
  have t173 : (op == 173) = false := by simp; omega
  have t192 : (op == 192) = false := by simp; omega
  have t193 : (op == 193) = false := by simp; omega
  have t194 : (op == 194) = false := by simp; omega
  have t195 : (op == 195) = false := by simp; omega
  have t196 : (op == 196) = false := by simp; omega
  have e69 : (c == 69) = false := by simp; omega
  have g70 : 70 ≤ c := by omega
  have l79 : ¬ c ≤ 79 := by omega
  have g103 : ¬ 103 ≤ c := by omega
  have g106 : ¬ 106 ≤ c := by omega
  clear h hn
  go_enter Try.func70, Try.ntmps70
  go_wp2_with fail
  refine (HF.out _).mono ?_
  rintro e w' ⟨rfl, rfl⟩
  go_wp2
  go_ret3
  exact ⟨_, _, rfl, Below.refl _ _⟩
set_option maxRecDepth 100000 in
theorem nty_one_32 (h : 103 ≤ c ∧ c ≤ 105) (HF : Hid (∀ V, Calls Try.prog 90 #[.int .i64 op] V fun e w' => e = .returned (.tuple #[.int .i64 c, .int .u64 32]) ∧ V = w')) :
    Calls Try.prog 70 #[.int .i64 op] w (TyOk w true) := by
  have t167 : (op == 167) = false := by simp; omega
  have t172 : (op == 172) = false := by simp; omega
  have t173 : (op == 173) = false := by simp; omega
  have t192 : (op == 192) = false := by simp; omega
  have t193 : (op == 193) = false := by simp; omega
  have t194 : (op == 194) = false := by simp; omega
  have t195 : (op == 195) = false := by simp; omega
  have t196 : (op == 196) = false := by simp; omega
  have e69 : (c == 69) = false := by simp; omega
  have g70 : 70 ≤ c := by omega
  have l79 : ¬ c ≤ 79 := by omega
  have g103 : 103 ≤ c := by omega
  have l105 : c ≤ 105 := by omega
  clear h hn
  go_enter Try.func70, Try.ntmps70
  go_wp2_with fail
  refine (HF.out _).mono ?_
  rintro e w' ⟨rfl, rfl⟩
  go_wp2
  go_ret3
  exact ⟨_, _, rfl, (Below.refl _ _).alloc (Nat.le_refl _) _⟩
set_option maxRecDepth 100000 in
theorem nty_two_32 (h : 106 ≤ c ∧ c ≤ 120) (HF : Hid (∀ V, Calls Try.prog 90 #[.int .i64 op] V fun e w' => e = .returned (.tuple #[.int .i64 c, .int .u64 32]) ∧ V = w')) :
    Calls Try.prog 70 #[.int .i64 op] w (TyOk w true) := by
  have t167 : (op == 167) = false := by simp; omega
  have t172 : (op == 172) = false := by simp; omega
  have t173 : (op == 173) = false := by simp; omega
  have t192 : (op == 192) = false := by simp; omega
  have t193 : (op == 193) = false := by simp; omega
  have t194 : (op == 194) = false := by simp; omega
  have t195 : (op == 195) = false := by simp; omega
  have t196 : (op == 196) = false := by simp; omega
  have e69 : (c == 69) = false := by simp; omega
  have g70 : 70 ≤ c := by omega
  have l79 : ¬ c ≤ 79 := by omega
  have g103 : 103 ≤ c := by omega
  have l105 : ¬ c ≤ 105 := by omega
  have g106 : 106 ≤ c := by omega
  have l120 : c ≤ 120 := by omega
  clear h hn
  go_enter Try.func70, Try.ntmps70
  go_wp2_with fail
  refine (HF.out _).mono ?_
  rintro e w' ⟨rfl, rfl⟩
  go_wp2
  go_ret3
  exact ⟨_, _, rfl, (Below.refl _ _).alloc (Nat.le_refl _) _⟩
set_option maxRecDepth 100000 in
theorem nty_none2_32 (h : 120 < c) (HF : Hid (∀ V, Calls Try.prog 90 #[.int .i64 op] V fun e w' => e = .returned (.tuple #[.int .i64 c, .int .u64 32]) ∧ V = w')) :
    Calls Try.prog 70 #[.int .i64 op] w (TyOk w false) := by
  have t167 : (op == 167) = false := by simp; omega
  have t172 : (op == 172) = false := by simp; omega
  have t173 : (op == 173) = false := by simp; omega
  have t192 : (op == 192) = false := by simp; omega
  have t193 : (op == 193) = false := by simp; omega
  have t194 : (op == 194) = false := by simp; omega
  have t195 : (op == 195) = false := by simp; omega
  have t196 : (op == 196) = false := by simp; omega
  have e69 : (c == 69) = false := by simp; omega
  have g70 : 70 ≤ c := by omega
  have l79 : ¬ c ≤ 79 := by omega
  have g103 : 103 ≤ c := by omega
  have l105 : ¬ c ≤ 105 := by omega
  have g106 : 106 ≤ c := by omega
  have l120 : ¬ c ≤ 120 := by omega
  clear h hn
  go_enter Try.func70, Try.ntmps70
  go_wp2_with fail
  refine (HF.out _).mono ?_
  rintro e w' ⟨rfl, rfl⟩
  go_wp2
  go_ret3
  exact ⟨_, _, rfl, Below.refl _ _⟩
set_option maxRecDepth 100000 in
theorem nty_eqz_64 (h : c = 69) (HF : Hid (∀ V, Calls Try.prog 90 #[.int .i64 op] V fun e w' => e = .returned (.tuple #[.int .i64 c, .int .u64 64]) ∧ V = w')) :
    Calls Try.prog 70 #[.int .i64 op] w (TyOk w true) := by
  have t167 : (op == 167) = false := by simp; omega
  have t172 : (op == 172) = false := by simp; omega
  have t173 : (op == 173) = false := by simp; omega
  have t192 : (op == 192) = false := by simp; omega
  have t193 : (op == 193) = false := by simp; omega
  have t194 : (op == 194) = false := by simp; omega
  have t195 : (op == 195) = false := by simp; omega
  have t196 : (op == 196) = false := by simp; omega
  have e69 : (c == 69) = true := by simp; omega
  clear h hn
  go_enter Try.func70, Try.ntmps70
  go_wp2_with fail
  refine (HF.out _).mono ?_
  rintro e w' ⟨rfl, rfl⟩
  go_wp2
  go_ret3
  exact ⟨_, _, rfl, (Below.refl _ _).alloc (Nat.le_refl _) _⟩
set_option maxRecDepth 100000 in
theorem nty_cmp_64 (h : 70 ≤ c ∧ c ≤ 79) (HF : Hid (∀ V, Calls Try.prog 90 #[.int .i64 op] V fun e w' => e = .returned (.tuple #[.int .i64 c, .int .u64 64]) ∧ V = w')) :
    Calls Try.prog 70 #[.int .i64 op] w (TyOk w true) := by
  have t167 : (op == 167) = false := by simp; omega
  have t172 : (op == 172) = false := by simp; omega
  have t173 : (op == 173) = false := by simp; omega
  have t192 : (op == 192) = false := by simp; omega
  have t193 : (op == 193) = false := by simp; omega
  have t194 : (op == 194) = false := by simp; omega
  have t195 : (op == 195) = false := by simp; omega
  have t196 : (op == 196) = false := by simp; omega
  have e69 : (c == 69) = false := by simp; omega
  have g70 : 70 ≤ c := by omega
  have l79 : c ≤ 79 := by omega
  clear h hn
  go_enter Try.func70, Try.ntmps70
  go_wp2_with fail
  refine (HF.out _).mono ?_
  rintro e w' ⟨rfl, rfl⟩
  go_wp2
  go_ret3
  exact ⟨_, _, rfl, (Below.refl _ _).alloc (Nat.le_refl _) _⟩
set_option maxRecDepth 100000 in
theorem nty_one_64 (h : 103 ≤ c ∧ c ≤ 105) (HF : Hid (∀ V, Calls Try.prog 90 #[.int .i64 op] V fun e w' => e = .returned (.tuple #[.int .i64 c, .int .u64 64]) ∧ V = w')) :
    Calls Try.prog 70 #[.int .i64 op] w (TyOk w true) := by
  have t167 : (op == 167) = false := by simp; omega
  have t172 : (op == 172) = false := by simp; omega
  have t173 : (op == 173) = false := by simp; omega
  have t192 : (op == 192) = false := by simp; omega
  have t193 : (op == 193) = false := by simp; omega
  have t194 : (op == 194) = false := by simp; omega
  have t195 : (op == 195) = false := by simp; omega
  have t196 : (op == 196) = false := by simp; omega
  have e69 : (c == 69) = false := by simp; omega
  have g70 : 70 ≤ c := by omega
  have l79 : ¬ c ≤ 79 := by omega
  have g103 : 103 ≤ c := by omega
  have l105 : c ≤ 105 := by omega
  clear h hn
  go_enter Try.func70, Try.ntmps70
  go_wp2_with fail
  refine (HF.out _).mono ?_
  rintro e w' ⟨rfl, rfl⟩
  go_wp2
  go_ret3
  exact ⟨_, _, rfl, (Below.refl _ _).alloc (Nat.le_refl _) _⟩
set_option maxRecDepth 100000 in
theorem nty_two_64 (h : 106 ≤ c ∧ c ≤ 120) (HF : Hid (∀ V, Calls Try.prog 90 #[.int .i64 op] V fun e w' => e = .returned (.tuple #[.int .i64 c, .int .u64 64]) ∧ V = w')) :
    Calls Try.prog 70 #[.int .i64 op] w (TyOk w true) := by
  have t167 : (op == 167) = false := by simp; omega
  have t172 : (op == 172) = false := by simp; omega
  have t173 : (op == 173) = false := by simp; omega
  have t192 : (op == 192) = false := by simp; omega
  have t193 : (op == 193) = false := by simp; omega
  have t194 : (op == 194) = false := by simp; omega
  have t195 : (op == 195) = false := by simp; omega
  have t196 : (op == 196) = false := by simp; omega
  have e69 : (c == 69) = false := by simp; omega
  have g70 : 70 ≤ c := by omega
  have l79 : ¬ c ≤ 79 := by omega
  have g103 : 103 ≤ c := by omega
  have l105 : ¬ c ≤ 105 := by omega
  have g106 : 106 ≤ c := by omega
  have l120 : c ≤ 120 := by omega
  clear h hn
  go_enter Try.func70, Try.ntmps70
  go_wp2_with fail
  refine (HF.out _).mono ?_
  rintro e w' ⟨rfl, rfl⟩
  go_wp2
  go_ret3
  exact ⟨_, _, rfl, (Below.refl _ _).alloc (Nat.le_refl _) _⟩
end
theorem nfold_11 (op : Int) (w : World) (h : 80 ≤ op ∧ op ≤ 90) : Calls Try.prog 90 #[.int .i64 op] w fun e w' => e = .returned (.tuple #[.int .i64 (op - 11), .int .u64 64]) ∧ w = w' := by
  obtain ⟨h1, h2⟩ := h
  go_enter Try.func90, Try.ntmps90
  go_wp2
  go_ret2
  exact ⟨rfl, rfl⟩
theorem nfold_18 (op : Int) (w : World) (h : 121 ≤ op ∧ op ≤ 138) : Calls Try.prog 90 #[.int .i64 op] w fun e w' => e = .returned (.tuple #[.int .i64 (op - 18), .int .u64 64]) ∧ w = w' := by
  obtain ⟨h1, h2⟩ := h
  have h3 : 80 ≤ op := by omega
  have h4 : ¬ op ≤ 90 := by omega
  go_enter Try.func90, Try.ntmps90
  go_wp2
  go_ret2
  exact ⟨rfl, rfl⟩
theorem nfold_a (op : Int) (w : World) (h : op < 80) : Calls Try.prog 90 #[.int .i64 op] w fun e w' => e = .returned (.tuple #[.int .i64 op, .int .u64 32]) ∧ w = w' := by
  have h1 : ¬ 80 ≤ op := by omega
  have h2 : ¬ 121 ≤ op := by omega
  clear h
  go_enter Try.func90, Try.ntmps90
  go_wp2
  go_ret2
  exact ⟨rfl, rfl⟩
theorem nfold_b (op : Int) (w : World) (h : 90 < op ∧ op < 121) : Calls Try.prog 90 #[.int .i64 op] w fun e w' => e = .returned (.tuple #[.int .i64 op, .int .u64 32]) ∧ w = w' := by
  have h1 : 80 ≤ op := by omega
  have h2 : ¬ op ≤ 90 := by omega
  have h3 : ¬ 121 ≤ op := by omega
  clear h
  go_enter Try.func90, Try.ntmps90
  go_wp2
  go_ret2
  exact ⟨rfl, rfl⟩
theorem nfold_c (op : Int) (w : World) (h : 138 < op) : Calls Try.prog 90 #[.int .i64 op] w fun e w' => e = .returned (.tuple #[.int .i64 op, .int .u64 32]) ∧ w = w' := by
  have h1 : 80 ≤ op := by omega
  have h2 : ¬ op ≤ 90 := by omega
  have h3 : 121 ≤ op := by omega
  have h4 : ¬ op ≤ 138 := by omega
  clear h
  go_enter Try.func90, Try.ntmps90
  go_wp2
  go_ret2
  exact ⟨rfl, rfl⟩
theorem types_any (op : Int) (w : World) : Calls Try.prog 70 #[.int .i64 op] w (TyOk w (numOp op)) := by
  by_cases h167 : op = 167
  · subst h167; exact nty_167 w
  by_cases h172 : op = 172
  · subst h172; exact nty_172 w
  by_cases h173 : op = 173
  · subst h173; exact nty_173 w
  by_cases h192 : op = 192
  · subst h192; exact nty_192 w
  by_cases h193 : op = 193
  · subst h193; exact nty_193 w
  by_cases h194 : op = 194
  · subst h194; exact nty_194 w
  by_cases h195 : op = 195
  · subst h195; exact nty_195 w
  by_cases h196 : op = 196
  · subst h196; exact nty_196 w
  have hn : op ≠ 167 ∧ op ≠ 172 ∧ op ≠ 173 ∧ op ≠ 192 ∧ op ≠ 193 ∧ op ≠ 194 ∧ op ≠ 195 ∧ op ≠ 196 := ⟨h167, h172, h173, h192, h193, h194, h195, h196⟩
  have yes : (69 ≤ op ∧ op ≤ 90) ∨ (103 ≤ op ∧ op ≤ 138) → numOp op = true := fun h => by unfold numOp; exact decide_eq_true (by omega)
  have no : ¬ ((69 ≤ op ∧ op ≤ 90) ∨ (103 ≤ op ∧ op ≤ 138)) → numOp op = false := fun h => by unfold numOp; exact decide_eq_false (by omega)
  by_cases c1 : 80 ≤ op ∧ op ≤ 90
  · have HF := Lib.hid (fun V => nfold_11 op V c1)
    rw [yes (by omega)]
    by_cases d1 : op = 80
    · exact nty_eqz_64 op _ w hn (by omega) HF
    · exact nty_cmp_64 op _ w hn (by omega) HF
  by_cases c2 : 121 ≤ op ∧ op ≤ 138
  · have HF := Lib.hid (fun V => nfold_18 op V c2)
    rw [yes (by omega)]
    by_cases d1 : op ≤ 123
    · exact nty_one_64 op _ w hn (by omega) HF
    · exact nty_two_64 op _ w hn (by omega) HF
  have HF : Hid (∀ V, Calls Try.prog 90 #[.int .i64 op] V fun e w' => e = .returned (.tuple #[.int .i64 op, .int .u64 32]) ∧ V = w') := Lib.hid fun V => by
    by_cases e1 : op < 80
    · exact nfold_a op V e1
    by_cases e2 : 138 < op
    · exact nfold_c op V e2
    · exact nfold_b op V (by omega)
  by_cases d0 : op < 69
  · rw [no (by omega)]; exact nty_none0_32 op op w hn d0 HF
  by_cases d1 : op = 69
  · rw [yes (by omega)]; exact nty_eqz_32 op op w hn d1 HF
  by_cases d2 : op ≤ 79
  · rw [yes (by omega)]; exact nty_cmp_32 op op w hn (by omega) HF
  by_cases d3 : op < 103
  · rw [no (by omega)]; exact nty_none1_32 op op w hn (by omega) HF
  by_cases d4 : op ≤ 105
  · rw [yes (by omega)]; exact nty_one_32 op op w hn (by omega) HF
  by_cases d5 : op ≤ 120
  · rw [yes (by omega)]; exact nty_two_32 op op w hn (by omega) HF
  · rw [no (by omega)]; exact nty_none2_32 op op w hn (by omega) HF
end Go.Proofs.Ytdipgokbfjbgfaa.Ins
namespace Go.Proofs.Ytdipgokbfjbgfaa.Ins
open Go.RowKit Leb Typ

def FindK (w : World) (k : Int) (e : Ending) (w' : World) : Prop := ∃ t s : Int, e = .returned (.agg #[.int .i64 t, .int .i64 s, .int .i64 k]) ∧ Below w.heap.size w w'
def AccOk (w : World) (b : Bool) (e : Ending) (w' : World) : Prop := ∃ v0 v1 v2, e = .returned (.tuple #[v0, v1, v2, .bool b]) ∧ Below w.heap.size w w'
set_option maxRecDepth 100000 in
theorem fnd_40 (w : World) : Calls Try.prog 91 #[.int .i64 40] w (FindK w 1) := by
  go_enter Try.func91, Try.ntmps91
  go_wp2
  exact bodyPost_ret (v := .agg #[.int .i64 127, .int .i64 4, .int .i64 1]) (by simp [results, Try.results91, go_sem]) rfl ⟨_, _, rfl, (Below.refl _ _).alloc (Nat.le_refl _) _⟩
set_option maxRecDepth 100000 in
theorem fnd_41 (w : World) : Calls Try.prog 91 #[.int .i64 41] w (FindK w 1) := by
  go_enter Try.func91, Try.ntmps91
  go_wp2
  exact bodyPost_ret (v := .agg #[.int .i64 126, .int .i64 8, .int .i64 1]) (by simp [results, Try.results91, go_sem]) rfl ⟨_, _, rfl, (Below.refl _ _).alloc (Nat.le_refl _) _⟩
set_option maxRecDepth 100000 in
theorem fnd_44 (w : World) : Calls Try.prog 91 #[.int .i64 44] w (FindK w 2) := by
  go_enter Try.func91, Try.ntmps91
  go_wp2
  exact bodyPost_ret (v := .agg #[.int .i64 127, .int .i64 1, .int .i64 2]) (by simp [results, Try.results91, go_sem]) rfl ⟨_, _, rfl, (Below.refl _ _).alloc (Nat.le_refl _) _⟩
set_option maxRecDepth 100000 in
theorem fnd_45 (w : World) : Calls Try.prog 91 #[.int .i64 45] w (FindK w 1) := by
  go_enter Try.func91, Try.ntmps91
  go_wp2
  exact bodyPost_ret (v := .agg #[.int .i64 127, .int .i64 1, .int .i64 1]) (by simp [results, Try.results91, go_sem]) rfl ⟨_, _, rfl, (Below.refl _ _).alloc (Nat.le_refl _) _⟩
set_option maxRecDepth 100000 in
theorem fnd_46 (w : World) : Calls Try.prog 91 #[.int .i64 46] w (FindK w 2) := by
  go_enter Try.func91, Try.ntmps91
  go_wp2
  exact bodyPost_ret (v := .agg #[.int .i64 127, .int .i64 2, .int .i64 2]) (by simp [results, Try.results91, go_sem]) rfl ⟨_, _, rfl, (Below.refl _ _).alloc (Nat.le_refl _) _⟩
set_option maxRecDepth 100000 in
theorem fnd_47 (w : World) : Calls Try.prog 91 #[.int .i64 47] w (FindK w 1) := by
  go_enter Try.func91, Try.ntmps91
  go_wp2
  exact bodyPost_ret (v := .agg #[.int .i64 127, .int .i64 2, .int .i64 1]) (by simp [results, Try.results91, go_sem]) rfl ⟨_, _, rfl, (Below.refl _ _).alloc (Nat.le_refl _) _⟩
set_option maxRecDepth 100000 in
theorem fnd_48 (w : World) : Calls Try.prog 91 #[.int .i64 48] w (FindK w 2) := by
  go_enter Try.func91, Try.ntmps91
  go_wp2
  exact bodyPost_ret (v := .agg #[.int .i64 126, .int .i64 1, .int .i64 2]) (by simp [results, Try.results91, go_sem]) rfl ⟨_, _, rfl, (Below.refl _ _).alloc (Nat.le_refl _) _⟩
set_option maxRecDepth 100000 in
theorem fnd_49 (w : World) : Calls Try.prog 91 #[.int .i64 49] w (FindK w 1) := by
  go_enter Try.func91, Try.ntmps91
  go_wp2
  exact bodyPost_ret (v := .agg #[.int .i64 126, .int .i64 1, .int .i64 1]) (by simp [results, Try.results91, go_sem]) rfl ⟨_, _, rfl, (Below.refl _ _).alloc (Nat.le_refl _) _⟩
set_option maxRecDepth 100000 in
theorem fnd_50 (w : World) : Calls Try.prog 91 #[.int .i64 50] w (FindK w 2) := by
  go_enter Try.func91, Try.ntmps91
  go_wp2
  exact bodyPost_ret (v := .agg #[.int .i64 126, .int .i64 2, .int .i64 2]) (by simp [results, Try.results91, go_sem]) rfl ⟨_, _, rfl, (Below.refl _ _).alloc (Nat.le_refl _) _⟩
set_option maxRecDepth 100000 in
theorem fnd_51 (w : World) : Calls Try.prog 91 #[.int .i64 51] w (FindK w 1) := by
  go_enter Try.func91, Try.ntmps91
  go_wp2
  exact bodyPost_ret (v := .agg #[.int .i64 126, .int .i64 2, .int .i64 1]) (by simp [results, Try.results91, go_sem]) rfl ⟨_, _, rfl, (Below.refl _ _).alloc (Nat.le_refl _) _⟩
set_option maxRecDepth 100000 in
theorem fnd_52 (w : World) : Calls Try.prog 91 #[.int .i64 52] w (FindK w 2) := by
  go_enter Try.func91, Try.ntmps91
  go_wp2
  exact bodyPost_ret (v := .agg #[.int .i64 126, .int .i64 4, .int .i64 2]) (by simp [results, Try.results91, go_sem]) rfl ⟨_, _, rfl, (Below.refl _ _).alloc (Nat.le_refl _) _⟩
set_option maxRecDepth 100000 in
theorem fnd_53 (w : World) : Calls Try.prog 91 #[.int .i64 53] w (FindK w 1) := by
  go_enter Try.func91, Try.ntmps91
  go_wp2
  exact bodyPost_ret (v := .agg #[.int .i64 126, .int .i64 4, .int .i64 1]) (by simp [results, Try.results91, go_sem]) rfl ⟨_, _, rfl, (Below.refl _ _).alloc (Nat.le_refl _) _⟩
set_option maxRecDepth 100000 in
theorem fnd_54 (w : World) : Calls Try.prog 91 #[.int .i64 54] w (FindK w 3) := by
  go_enter Try.func91, Try.ntmps91
  go_wp2
  exact bodyPost_ret (v := .agg #[.int .i64 127, .int .i64 4, .int .i64 3]) (by simp [results, Try.results91, go_sem]) rfl ⟨_, _, rfl, (Below.refl _ _).alloc (Nat.le_refl _) _⟩
set_option maxRecDepth 100000 in
theorem fnd_55 (w : World) : Calls Try.prog 91 #[.int .i64 55] w (FindK w 3) := by
  go_enter Try.func91, Try.ntmps91
  go_wp2
  exact bodyPost_ret (v := .agg #[.int .i64 126, .int .i64 8, .int .i64 3]) (by simp [results, Try.results91, go_sem]) rfl ⟨_, _, rfl, (Below.refl _ _).alloc (Nat.le_refl _) _⟩
set_option maxRecDepth 100000 in
theorem fnd_58 (w : World) : Calls Try.prog 91 #[.int .i64 58] w (FindK w 3) := by
  go_enter Try.func91, Try.ntmps91
  go_wp2
  exact bodyPost_ret (v := .agg #[.int .i64 127, .int .i64 1, .int .i64 3]) (by simp [results, Try.results91, go_sem]) rfl ⟨_, _, rfl, (Below.refl _ _).alloc (Nat.le_refl _) _⟩
set_option maxRecDepth 100000 in
theorem fnd_59 (w : World) : Calls Try.prog 91 #[.int .i64 59] w (FindK w 3) := by
  go_enter Try.func91, Try.ntmps91
  go_wp2
  exact bodyPost_ret (v := .agg #[.int .i64 127, .int .i64 2, .int .i64 3]) (by simp [results, Try.results91, go_sem]) rfl ⟨_, _, rfl, (Below.refl _ _).alloc (Nat.le_refl _) _⟩
set_option maxRecDepth 100000 in
theorem fnd_60 (w : World) : Calls Try.prog 91 #[.int .i64 60] w (FindK w 3) := by
  go_enter Try.func91, Try.ntmps91
  go_wp2
  exact bodyPost_ret (v := .agg #[.int .i64 126, .int .i64 1, .int .i64 3]) (by simp [results, Try.results91, go_sem]) rfl ⟨_, _, rfl, (Below.refl _ _).alloc (Nat.le_refl _) _⟩
set_option maxRecDepth 100000 in
theorem fnd_61 (w : World) : Calls Try.prog 91 #[.int .i64 61] w (FindK w 3) := by
  go_enter Try.func91, Try.ntmps91
  go_wp2
  exact bodyPost_ret (v := .agg #[.int .i64 126, .int .i64 2, .int .i64 3]) (by simp [results, Try.results91, go_sem]) rfl ⟨_, _, rfl, (Below.refl _ _).alloc (Nat.le_refl _) _⟩
set_option maxRecDepth 100000 in
theorem fnd_62 (w : World) : Calls Try.prog 91 #[.int .i64 62] w (FindK w 3) := by
  go_enter Try.func91, Try.ntmps91
  go_wp2
  exact bodyPost_ret (v := .agg #[.int .i64 126, .int .i64 4, .int .i64 3]) (by simp [results, Try.results91, go_sem]) rfl ⟨_, _, rfl, (Below.refl _ _).alloc (Nat.le_refl _) _⟩
set_option maxRecDepth 100000 in
set_option maxHeartbeats 1000000 in
theorem fnd_none (op : Int) (w : World) (h : op ≠ 40 ∧ op ≠ 41 ∧ op ≠ 44 ∧ op ≠ 45 ∧ op ≠ 46 ∧ op ≠ 47 ∧ op ≠ 48 ∧ op ≠ 49 ∧ op ≠ 50 ∧ op ≠ 51 ∧ op ≠ 52 ∧ op ≠ 53 ∧ op ≠ 54 ∧ op ≠ 55 ∧ op ≠ 58 ∧ op ≠ 59 ∧ op ≠ 60 ∧ op ≠ 61 ∧ op ≠ 62) : Calls Try.prog 91 #[.int .i64 op] w (FindK w 0) := by
  have t40 : (op == 40) = false := by simp; omega
  have t41 : (op == 41) = false := by simp; omega
  have t44 : (op == 44) = false := by simp; omega
  have t45 : (op == 45) = false := by simp; omega
  have t46 : (op == 46) = false := by simp; omega
  have t47 : (op == 47) = false := by simp; omega
  have t48 : (op == 48) = false := by simp; omega
  have t49 : (op == 49) = false := by simp; omega
  have t50 : (op == 50) = false := by simp; omega
  have t51 : (op == 51) = false := by simp; omega
  have t52 : (op == 52) = false := by simp; omega
  have t53 : (op == 53) = false := by simp; omega
  have t54 : (op == 54) = false := by simp; omega
  have t55 : (op == 55) = false := by simp; omega
  have t58 : (op == 58) = false := by simp; omega
  have t59 : (op == 59) = false := by simp; omega
  have t60 : (op == 60) = false := by simp; omega
  have t61 : (op == 61) = false := by simp; omega
  have t62 : (op == 62) = false := by simp; omega
  clear h
  go_enter Try.func91, Try.ntmps91
  go_wp2
  exact bodyPost_ret (v := .agg #[.int .i64 0, .int .i64 0, .int .i64 0]) (by simp [results, Try.results91, go_sem]) rfl ⟨_, _, rfl, (Below.refl _ _).alloc (Nat.le_refl _) _⟩
set_option maxHeartbeats 1000000 in
theorem acc_0 (op : Int) (w : World) (HF : Hid (∀ V, Calls Try.prog 91 #[.int .i64 op] V (FindK V 0))) : Calls Try.prog 71 #[.int .i64 op] w (AccOk w false) := by
  go_enter Try.func71, Try.ntmps71
  go_wp2_with fail
  refine (HF.out _).mono ?_
  rintro e w1 ⟨t, s, rfl, hb1⟩
  have hb2 : Below w.heap.size w (w1.alloc (.cells #[.int .i64 t, .int .i64 s, .int .i64 0] 128)) := hb1.alloc hb1.size _
  go_wp2_with fail
  go_quiet (fail)
  go_wp2
  exact bodyPost_ret (v := .tuple #[.int .i64 t, .int .i64 s, .bool false, .bool false]) (by simp [results, Try.results71, go_sem]) rfl ⟨_, _, _, rfl, below_drewN hb2 _⟩
set_option maxHeartbeats 1000000 in
theorem acc_1 (op : Int) (w : World) (HF : Hid (∀ V, Calls Try.prog 91 #[.int .i64 op] V (FindK V 1))) : Calls Try.prog 71 #[.int .i64 op] w (AccOk w true) := by
  go_enter Try.func71, Try.ntmps71
  go_wp2_with fail
  refine (HF.out _).mono ?_
  rintro e w1 ⟨t, s, rfl, hb1⟩
  have hb2 : Below w.heap.size w (w1.alloc (.cells #[.int .i64 t, .int .i64 s, .int .i64 1] 128)) := hb1.alloc hb1.size _
  go_wp2_with fail
  go_quiet (fail)
  go_wp2
  exact bodyPost_ret (v := .tuple #[.int .i64 t, .int .i64 s, .bool false, .bool true]) (by simp [results, Try.results71, go_sem]) rfl ⟨_, _, _, rfl, below_drewN hb2 _⟩
set_option maxHeartbeats 1000000 in
theorem acc_2 (op : Int) (w : World) (HF : Hid (∀ V, Calls Try.prog 91 #[.int .i64 op] V (FindK V 2))) : Calls Try.prog 71 #[.int .i64 op] w (AccOk w true) := by
  go_enter Try.func71, Try.ntmps71
  go_wp2_with fail
  refine (HF.out _).mono ?_
  rintro e w1 ⟨t, s, rfl, hb1⟩
  have hb2 : Below w.heap.size w (w1.alloc (.cells #[.int .i64 t, .int .i64 s, .int .i64 2] 128)) := hb1.alloc hb1.size _
  go_wp2_with fail
  go_quiet (fail)
  go_wp2
  exact bodyPost_ret (v := .tuple #[.int .i64 t, .int .i64 s, .bool false, .bool true]) (by simp [results, Try.results71, go_sem]) rfl ⟨_, _, _, rfl, below_drewN hb2 _⟩
set_option maxHeartbeats 1000000 in
theorem acc_3 (op : Int) (w : World) (HF : Hid (∀ V, Calls Try.prog 91 #[.int .i64 op] V (FindK V 3))) : Calls Try.prog 71 #[.int .i64 op] w (AccOk w true) := by
  go_enter Try.func71, Try.ntmps71
  go_wp2_with fail
  refine (HF.out _).mono ?_
  rintro e w1 ⟨t, s, rfl, hb1⟩
  have hb2 : Below w.heap.size w (w1.alloc (.cells #[.int .i64 t, .int .i64 s, .int .i64 3] 128)) := hb1.alloc hb1.size _
  go_wp2_with fail
  go_quiet (fail)
  go_wp2
  exact bodyPost_ret (v := .tuple #[.int .i64 t, .int .i64 s, .bool true, .bool true]) (by simp [results, Try.results71, go_sem]) rfl ⟨_, _, _, rfl, below_drewN hb2 _⟩
theorem access_any (op : Int) (w : World) : Calls Try.prog 71 #[.int .i64 op] w (AccOk w (accOp op)) := by
  by_cases h40 : op = 40
  · subst h40; exact acc_1 _ w (Lib.hid fun V => fnd_40 V)
  by_cases h41 : op = 41
  · subst h41; exact acc_1 _ w (Lib.hid fun V => fnd_41 V)
  by_cases h44 : op = 44
  · subst h44; exact acc_2 _ w (Lib.hid fun V => fnd_44 V)
  by_cases h45 : op = 45
  · subst h45; exact acc_1 _ w (Lib.hid fun V => fnd_45 V)
  by_cases h46 : op = 46
  · subst h46; exact acc_2 _ w (Lib.hid fun V => fnd_46 V)
  by_cases h47 : op = 47
  · subst h47; exact acc_1 _ w (Lib.hid fun V => fnd_47 V)
  by_cases h48 : op = 48
  · subst h48; exact acc_2 _ w (Lib.hid fun V => fnd_48 V)
  by_cases h49 : op = 49
  · subst h49; exact acc_1 _ w (Lib.hid fun V => fnd_49 V)
  by_cases h50 : op = 50
  · subst h50; exact acc_2 _ w (Lib.hid fun V => fnd_50 V)
  by_cases h51 : op = 51
  · subst h51; exact acc_1 _ w (Lib.hid fun V => fnd_51 V)
  by_cases h52 : op = 52
  · subst h52; exact acc_2 _ w (Lib.hid fun V => fnd_52 V)
  by_cases h53 : op = 53
  · subst h53; exact acc_1 _ w (Lib.hid fun V => fnd_53 V)
  by_cases h54 : op = 54
  · subst h54; exact acc_3 _ w (Lib.hid fun V => fnd_54 V)
  by_cases h55 : op = 55
  · subst h55; exact acc_3 _ w (Lib.hid fun V => fnd_55 V)
  by_cases h58 : op = 58
  · subst h58; exact acc_3 _ w (Lib.hid fun V => fnd_58 V)
  by_cases h59 : op = 59
  · subst h59; exact acc_3 _ w (Lib.hid fun V => fnd_59 V)
  by_cases h60 : op = 60
  · subst h60; exact acc_3 _ w (Lib.hid fun V => fnd_60 V)
  by_cases h61 : op = 61
  · subst h61; exact acc_3 _ w (Lib.hid fun V => fnd_61 V)
  by_cases h62 : op = 62
  · subst h62; exact acc_3 _ w (Lib.hid fun V => fnd_62 V)
  rw [show accOp op = false from decide_eq_false (by omega)]
  exact acc_0 op w (Lib.hid fun V => fnd_none op V ⟨h40, h41, h44, h45, h46, h47, h48, h49, h50, h51, h52, h53, h54, h55, h58, h59, h60, h61, h62⟩)
end Go.Proofs.Ytdipgokbfjbgfaa.Ins
namespace Go.Proofs.Ytdipgokbfjbgfaa.Ins
open Go.RowKit Leb Typ

/-- The number of the form of what follows. -/
def partsN (qs : List Part) : Nat :=
  if qs = [] then 2 else if qs = [.t] then 3 else if qs = [.a] then 4 else if qs = [.a, .b] then 5 else if qs = [.l, .a] then 6 else if qs = [.z] then 7 else if qs = [.z, .z] then 8 else if qs = [.a, .z] then 9 else if qs = [.k] then 10 else if qs = [.kk] then 11 else 0
def formN (op : Int) : Nat :=
  match pat op with
  | none => 0
  | some none => 1
  | some (some qs) => partsN qs
def FormIs (w : World) (n : Nat) (e : Ending) (w' : World) : Prop := e = .returned (.int .i64 (n : Int)) ∧ Below w.heap.size w w'
theorem within_lo (n lo hi : Int) (w : World) (h : ¬ lo ≤ n) : Calls Try.prog 52 #[.int .i64 n, .int .i64 lo, .int .i64 hi] w (Same1 w (.bool false)) := by
  go_enter Try.func52, Try.ntmps52
  go_wp2
  go_ret
  exact ⟨rfl, rfl⟩
theorem within_in (n lo hi : Int) (w : World) (h : lo ≤ n) (h2 : n ≤ hi) : Calls Try.prog 52 #[.int .i64 n, .int .i64 lo, .int .i64 hi] w (Same1 w (.bool true)) := by
  go_enter Try.func52, Try.ntmps52
  go_wp2
  go_ret
  exact ⟨rfl, rfl⟩
theorem within_hi (n lo hi : Int) (w : World) (h : lo ≤ n) (h2 : ¬ n ≤ hi) : Calls Try.prog 52 #[.int .i64 n, .int .i64 lo, .int .i64 hi] w (Same1 w (.bool false)) := by
  go_enter Try.func52, Try.ntmps52
  go_wp2
  go_ret
  exact ⟨rfl, rfl⟩
theorem within_any (n lo hi : Int) (w : World) : Calls Try.prog 52 #[.int .i64 n, .int .i64 lo, .int .i64 hi] w (Same1 w (.bool (decide (lo ≤ n ∧ n ≤ hi)))) := by
  by_cases h : lo ≤ n
  · by_cases h2 : n ≤ hi
    · rw [decide_eq_true ⟨h, h2⟩]; exact within_in n lo hi w h h2
    · rw [decide_eq_false (fun x => h2 x.2)]; exact within_hi n lo hi w h h2
  · rw [decide_eq_false (fun x => h x.1)]; exact within_lo n lo hi w h
theorem inum_any (n : Int) (w : World) : Calls Try.prog 32 #[.int .i64 n] w (Same1 w (.bool (decide (fitsU n)))) := by
  have HW : Hid (∀ W, Calls Try.prog 52 #[.int .i64 n, .int .i64 0, .int .i64 4294967295] W (Same1 W (.bool (decide (fitsU n))))) := Lib.hid fun W => within_any n 0 4294967295 W
  generalize decide (fitsU n) = b at *
  go_enter Try.func32, Try.ntmps32
  go_wp2_with fail
  refine (HW.out _).mono ?_
  rintro e w' ⟨rfl, rfl⟩
  go_wp2
  go_ret
  exact ⟨rfl, rfl⟩
theorem small_lo (n : Int) (w : World) (h : ¬ -2147483648 ≤ n) : Calls Try.prog 34 #[.int .i64 n] w (Same1 w (.bool false)) := by
  go_enter Try.func34, Try.ntmps34
  go_wp2
  go_ret
  exact ⟨rfl, rfl⟩
theorem small_in (n : Int) (w : World) (h : -2147483648 ≤ n) (h2 : n ≤ 2147483647) : Calls Try.prog 34 #[.int .i64 n] w (Same1 w (.bool true)) := by
  go_enter Try.func34, Try.ntmps34
  go_wp2
  go_ret
  exact ⟨rfl, rfl⟩
theorem small_hi (n : Int) (w : World) (h : -2147483648 ≤ n) (h2 : ¬ n ≤ 2147483647) : Calls Try.prog 34 #[.int .i64 n] w (Same1 w (.bool false)) := by
  go_enter Try.func34, Try.ntmps34
  go_wp2
  go_ret
  exact ⟨rfl, rfl⟩
theorem small_any (n : Int) (w : World) : Calls Try.prog 34 #[.int .i64 n] w (Same1 w (.bool (decide (-2147483648 ≤ n ∧ n ≤ 2147483647)))) := by
  by_cases h : -2147483648 ≤ n
  · by_cases h2 : n ≤ 2147483647
    · rw [decide_eq_true ⟨h, h2⟩]; exact small_in n w h h2
    · rw [decide_eq_false (fun x => h2 x.2)]; exact small_hi n w h h2
  · rw [decide_eq_false (fun x => h x.1)]; exact small_lo n w h
set_option maxRecDepth 100000 in
theorem frn_28 (w : World) : Calls Try.prog 72 #[.int .i64 28] w (Same1 w (.bool true)) := by
  go_enter Try.func72, Try.ntmps72
  go_wp2
  go_ret
  exact ⟨rfl, rfl⟩
set_option maxRecDepth 100000 in
theorem frn_37 (w : World) : Calls Try.prog 72 #[.int .i64 37] w (Same1 w (.bool true)) := by
  go_enter Try.func72, Try.ntmps72
  go_wp2
  go_ret
  exact ⟨rfl, rfl⟩
set_option maxRecDepth 100000 in
theorem frn_38 (w : World) : Calls Try.prog 72 #[.int .i64 38] w (Same1 w (.bool true)) := by
  go_enter Try.func72, Try.ntmps72
  go_wp2
  go_ret
  exact ⟨rfl, rfl⟩
set_option maxRecDepth 100000 in
theorem frn_42 (w : World) : Calls Try.prog 72 #[.int .i64 42] w (Same1 w (.bool true)) := by
  go_enter Try.func72, Try.ntmps72
  go_wp2
  go_ret
  exact ⟨rfl, rfl⟩
set_option maxRecDepth 100000 in
theorem frn_43 (w : World) : Calls Try.prog 72 #[.int .i64 43] w (Same1 w (.bool true)) := by
  go_enter Try.func72, Try.ntmps72
  go_wp2
  go_ret
  exact ⟨rfl, rfl⟩
set_option maxRecDepth 100000 in
theorem frn_56 (w : World) : Calls Try.prog 72 #[.int .i64 56] w (Same1 w (.bool true)) := by
  go_enter Try.func72, Try.ntmps72
  go_wp2
  go_ret
  exact ⟨rfl, rfl⟩
set_option maxRecDepth 100000 in
theorem frn_57 (w : World) : Calls Try.prog 72 #[.int .i64 57] w (Same1 w (.bool true)) := by
  go_enter Try.func72, Try.ntmps72
  go_wp2
  go_ret
  exact ⟨rfl, rfl⟩
set_option maxRecDepth 100000 in
theorem frn_67 (w : World) : Calls Try.prog 72 #[.int .i64 67] w (Same1 w (.bool true)) := by
  go_enter Try.func72, Try.ntmps72
  go_wp2
  go_ret
  exact ⟨rfl, rfl⟩
set_option maxRecDepth 100000 in
theorem frn_68 (w : World) : Calls Try.prog 72 #[.int .i64 68] w (Same1 w (.bool true)) := by
  go_enter Try.func72, Try.ntmps72
  go_wp2
  go_ret
  exact ⟨rfl, rfl⟩
set_option maxRecDepth 100000 in
theorem frn_208 (w : World) : Calls Try.prog 72 #[.int .i64 208] w (Same1 w (.bool true)) := by
  go_enter Try.func72, Try.ntmps72
  go_wp2
  go_ret
  exact ⟨rfl, rfl⟩
set_option maxRecDepth 100000 in
theorem frn_209 (w : World) : Calls Try.prog 72 #[.int .i64 209] w (Same1 w (.bool true)) := by
  go_enter Try.func72, Try.ntmps72
  go_wp2
  go_ret
  exact ⟨rfl, rfl⟩
set_option maxRecDepth 100000 in
theorem frn_210 (w : World) : Calls Try.prog 72 #[.int .i64 210] w (Same1 w (.bool true)) := by
  go_enter Try.func72, Try.ntmps72
  go_wp2
  go_ret
  exact ⟨rfl, rfl⟩
set_option maxRecDepth 100000 in
theorem frn_253 (w : World) : Calls Try.prog 72 #[.int .i64 253] w (Same1 w (.bool true)) := by
  go_enter Try.func72, Try.ntmps72
  go_wp2
  go_ret
  exact ⟨rfl, rfl⟩
set_option maxRecDepth 100000 in
theorem frn_271 (w : World) : Calls Try.prog 72 #[.int .i64 271] w (Same1 w (.bool true)) := by
  go_enter Try.func72, Try.ntmps72
  go_wp2
  go_ret
  exact ⟨rfl, rfl⟩
set_option maxRecDepth 100000 in
theorem frn_272 (w : World) : Calls Try.prog 72 #[.int .i64 272] w (Same1 w (.bool true)) := by
  go_enter Try.func72, Try.ntmps72
  go_wp2
  go_ret
  exact ⟨rfl, rfl⟩
set_option maxRecDepth 100000 in
theorem frn_273 (w : World) : Calls Try.prog 72 #[.int .i64 273] w (Same1 w (.bool true)) := by
  go_enter Try.func72, Try.ntmps72
  go_wp2
  go_ret
  exact ⟨rfl, rfl⟩
section
variable (op : Int) (w : World) (t28 : (op == 28) = false) (t37 : (op == 37) = false) (t38 : (op == 38) = false) (t42 : (op == 42) = false) (t43 : (op == 43) = false) (t56 : (op == 56) = false) (t57 : (op == 57) = false) (t67 : (op == 67) = false) (t68 : (op == 68) = false) (t208 : (op == 208) = false) (t209 : (op == 209) = false) (t210 : (op == 210) = false) (t253 : (op == 253) = false) (t271 : (op == 271) = false) (t272 : (op == 272) = false) (t273 : (op == 273) = false)
  (HW : Hid (∀ (lo hi : Int) W, Calls Try.prog 52 #[.int .i64 op, .int .i64 lo, .int .i64 hi] W (Same1 W (.bool (decide (lo ≤ op ∧ op ≤ hi))))))
include t28 t37 t38 t42 t43 t56 t57 t67 t68 t208 t209 t210 t253 t271 t272 t273 HW
set_option maxRecDepth 100000 in
set_option maxHeartbeats 1000000 in
theorem frn_r0 (r0 : decide (91 ≤ op ∧ op ≤ 102) = true) : Calls Try.prog 72 #[.int .i64 op] w (Same1 w (.bool true)) := by
  have K0 := Lib.hid (fun W => HW.out 91 102 W)
  rw [r0] at K0
  clear HW r0
  go_enter Try.func72, Try.ntmps72
  go_wp2_with fail
  refine (K0.out _).mono ?_
  rintro e w' ⟨rfl, rfl⟩
  go_wp2
  go_ret
  exact ⟨rfl, rfl⟩
set_option maxRecDepth 100000 in
set_option maxHeartbeats 1000000 in
theorem frn_r1 (r0 : decide (91 ≤ op ∧ op ≤ 102) = false) (r1 : decide (139 ≤ op ∧ op ≤ 166) = true) : Calls Try.prog 72 #[.int .i64 op] w (Same1 w (.bool true)) := by
  have K0 := Lib.hid (fun W => HW.out 91 102 W)
  rw [r0] at K0
  have K1 := Lib.hid (fun W => HW.out 139 166 W)
  rw [r1] at K1
  clear HW r0 r1
  go_enter Try.func72, Try.ntmps72
  go_wp2_with fail
  refine (K0.out _).mono ?_
  rintro e w' ⟨rfl, rfl⟩
  go_wp2_with fail
  refine (K1.out _).mono ?_
  rintro e w' ⟨rfl, rfl⟩
  go_wp2
  go_ret
  exact ⟨rfl, rfl⟩
set_option maxRecDepth 100000 in
set_option maxHeartbeats 1000000 in
theorem frn_r2 (r0 : decide (91 ≤ op ∧ op ≤ 102) = false) (r1 : decide (139 ≤ op ∧ op ≤ 166) = false) (r2 : decide (168 ≤ op ∧ op ≤ 171) = true) : Calls Try.prog 72 #[.int .i64 op] w (Same1 w (.bool true)) := by
  have K0 := Lib.hid (fun W => HW.out 91 102 W)
  rw [r0] at K0
  have K1 := Lib.hid (fun W => HW.out 139 166 W)
  rw [r1] at K1
  have K2 := Lib.hid (fun W => HW.out 168 171 W)
  rw [r2] at K2
  clear HW r0 r1 r2
  go_enter Try.func72, Try.ntmps72
  go_wp2_with fail
  refine (K0.out _).mono ?_
  rintro e w' ⟨rfl, rfl⟩
  go_wp2_with fail
  refine (K1.out _).mono ?_
  rintro e w' ⟨rfl, rfl⟩
  go_wp2_with fail
  refine (K2.out _).mono ?_
  rintro e w' ⟨rfl, rfl⟩
  go_wp2
  go_ret
  exact ⟨rfl, rfl⟩
set_option maxRecDepth 100000 in
set_option maxHeartbeats 1000000 in
theorem frn_r3 (r0 : decide (91 ≤ op ∧ op ≤ 102) = false) (r1 : decide (139 ≤ op ∧ op ≤ 166) = false) (r2 : decide (168 ≤ op ∧ op ≤ 171) = false) (r3 : decide (174 ≤ op ∧ op ≤ 191) = true) : Calls Try.prog 72 #[.int .i64 op] w (Same1 w (.bool true)) := by
  have K0 := Lib.hid (fun W => HW.out 91 102 W)
  rw [r0] at K0
  have K1 := Lib.hid (fun W => HW.out 139 166 W)
  rw [r1] at K1
  have K2 := Lib.hid (fun W => HW.out 168 171 W)
  rw [r2] at K2
  have K3 := Lib.hid (fun W => HW.out 174 191 W)
  rw [r3] at K3
  clear HW r0 r1 r2 r3
  go_enter Try.func72, Try.ntmps72
  go_wp2_with fail
  refine (K0.out _).mono ?_
  rintro e w' ⟨rfl, rfl⟩
  go_wp2_with fail
  refine (K1.out _).mono ?_
  rintro e w' ⟨rfl, rfl⟩
  go_wp2_with fail
  refine (K2.out _).mono ?_
  rintro e w' ⟨rfl, rfl⟩
  go_wp2_with fail
  refine (K3.out _).mono ?_
  rintro e w' ⟨rfl, rfl⟩
  go_wp2
  go_ret
  exact ⟨rfl, rfl⟩
set_option maxRecDepth 100000 in
set_option maxHeartbeats 1000000 in
theorem frn_r4 (r0 : decide (91 ≤ op ∧ op ≤ 102) = false) (r1 : decide (139 ≤ op ∧ op ≤ 166) = false) (r2 : decide (168 ≤ op ∧ op ≤ 171) = false) (r3 : decide (174 ≤ op ∧ op ≤ 191) = false) (r4 : decide (256 ≤ op ∧ op ≤ 263) = true) : Calls Try.prog 72 #[.int .i64 op] w (Same1 w (.bool true)) := by
  have K0 := Lib.hid (fun W => HW.out 91 102 W)
  rw [r0] at K0
  have K1 := Lib.hid (fun W => HW.out 139 166 W)
  rw [r1] at K1
  have K2 := Lib.hid (fun W => HW.out 168 171 W)
  rw [r2] at K2
  have K3 := Lib.hid (fun W => HW.out 174 191 W)
  rw [r3] at K3
  have K4 := Lib.hid (fun W => HW.out 256 263 W)
  rw [r4] at K4
  clear HW r0 r1 r2 r3 r4
  go_enter Try.func72, Try.ntmps72
  go_wp2_with fail
  refine (K0.out _).mono ?_
  rintro e w' ⟨rfl, rfl⟩
  go_wp2_with fail
  refine (K1.out _).mono ?_
  rintro e w' ⟨rfl, rfl⟩
  go_wp2_with fail
  refine (K2.out _).mono ?_
  rintro e w' ⟨rfl, rfl⟩
  go_wp2_with fail
  refine (K3.out _).mono ?_
  rintro e w' ⟨rfl, rfl⟩
  go_wp2_with fail
  refine (K4.out _).mono ?_
  rintro e w' ⟨rfl, rfl⟩
  go_wp2
  go_ret
  exact ⟨rfl, rfl⟩
set_option maxRecDepth 100000 in
set_option maxHeartbeats 1000000 in
theorem frn_r5 (r0 : decide (91 ≤ op ∧ op ≤ 102) = false) (r1 : decide (139 ≤ op ∧ op ≤ 166) = false) (r2 : decide (168 ≤ op ∧ op ≤ 171) = false) (r3 : decide (174 ≤ op ∧ op ≤ 191) = false) (r4 : decide (256 ≤ op ∧ op ≤ 263) = false) : Calls Try.prog 72 #[.int .i64 op] w (Same1 w (.bool false)) := by
  have K0 := Lib.hid (fun W => HW.out 91 102 W)
  rw [r0] at K0
  have K1 := Lib.hid (fun W => HW.out 139 166 W)
  rw [r1] at K1
  have K2 := Lib.hid (fun W => HW.out 168 171 W)
  rw [r2] at K2
  have K3 := Lib.hid (fun W => HW.out 174 191 W)
  rw [r3] at K3
  have K4 := Lib.hid (fun W => HW.out 256 263 W)
  rw [r4] at K4
  clear HW r0 r1 r2 r3 r4
  go_enter Try.func72, Try.ntmps72
  go_wp2_with fail
  refine (K0.out _).mono ?_
  rintro e w' ⟨rfl, rfl⟩
  go_wp2_with fail
  refine (K1.out _).mono ?_
  rintro e w' ⟨rfl, rfl⟩
  go_wp2_with fail
  refine (K2.out _).mono ?_
  rintro e w' ⟨rfl, rfl⟩
  go_wp2_with fail
  refine (K3.out _).mono ?_
  rintro e w' ⟨rfl, rfl⟩
  go_wp2_with fail
  refine (K4.out _).mono ?_
  rintro e w' ⟨rfl, rfl⟩
  go_wp2
  go_ret
  exact ⟨rfl, rfl⟩
end
theorem foreign_any (op : Int) (w : World) : Calls Try.prog 72 #[.int .i64 op] w (Same1 w (.bool (wideOp op))) := by
  by_cases h28 : op = 28
  · subst h28; exact frn_28 w
  by_cases h37 : op = 37
  · subst h37; exact frn_37 w
  by_cases h38 : op = 38
  · subst h38; exact frn_38 w
  by_cases h42 : op = 42
  · subst h42; exact frn_42 w
  by_cases h43 : op = 43
  · subst h43; exact frn_43 w
  by_cases h56 : op = 56
  · subst h56; exact frn_56 w
  by_cases h57 : op = 57
  · subst h57; exact frn_57 w
  by_cases h67 : op = 67
  · subst h67; exact frn_67 w
  by_cases h68 : op = 68
  · subst h68; exact frn_68 w
  by_cases h208 : op = 208
  · subst h208; exact frn_208 w
  by_cases h209 : op = 209
  · subst h209; exact frn_209 w
  by_cases h210 : op = 210
  · subst h210; exact frn_210 w
  by_cases h253 : op = 253
  · subst h253; exact frn_253 w
  by_cases h271 : op = 271
  · subst h271; exact frn_271 w
  by_cases h272 : op = 272
  · subst h272; exact frn_272 w
  by_cases h273 : op = 273
  · subst h273; exact frn_273 w
  have HW : Hid (∀ (lo hi : Int) W, Calls Try.prog 52 #[.int .i64 op, .int .i64 lo, .int .i64 hi] W (Same1 W (.bool (decide (lo ≤ op ∧ op ≤ hi))))) := Lib.hid fun lo hi W => within_any op lo hi W
  by_cases r0 : 91 ≤ op ∧ op ≤ 102
  · rw [show wideOp op = true from decide_eq_true (by omega)]; exact frn_r0 op w (by simp [h28]) (by simp [h37]) (by simp [h38]) (by simp [h42]) (by simp [h43]) (by simp [h56]) (by simp [h57]) (by simp [h67]) (by simp [h68]) (by simp [h208]) (by simp [h209]) (by simp [h210]) (by simp [h253]) (by simp [h271]) (by simp [h272]) (by simp [h273]) HW  (decide_eq_true r0)
  by_cases r1 : 139 ≤ op ∧ op ≤ 166
  · rw [show wideOp op = true from decide_eq_true (by omega)]; exact frn_r1 op w (by simp [h28]) (by simp [h37]) (by simp [h38]) (by simp [h42]) (by simp [h43]) (by simp [h56]) (by simp [h57]) (by simp [h67]) (by simp [h68]) (by simp [h208]) (by simp [h209]) (by simp [h210]) (by simp [h253]) (by simp [h271]) (by simp [h272]) (by simp [h273]) HW (decide_eq_false r0) (decide_eq_true r1)
  by_cases r2 : 168 ≤ op ∧ op ≤ 171
  · rw [show wideOp op = true from decide_eq_true (by omega)]; exact frn_r2 op w (by simp [h28]) (by simp [h37]) (by simp [h38]) (by simp [h42]) (by simp [h43]) (by simp [h56]) (by simp [h57]) (by simp [h67]) (by simp [h68]) (by simp [h208]) (by simp [h209]) (by simp [h210]) (by simp [h253]) (by simp [h271]) (by simp [h272]) (by simp [h273]) HW (decide_eq_false r0) (decide_eq_false r1) (decide_eq_true r2)
  by_cases r3 : 174 ≤ op ∧ op ≤ 191
  · rw [show wideOp op = true from decide_eq_true (by omega)]; exact frn_r3 op w (by simp [h28]) (by simp [h37]) (by simp [h38]) (by simp [h42]) (by simp [h43]) (by simp [h56]) (by simp [h57]) (by simp [h67]) (by simp [h68]) (by simp [h208]) (by simp [h209]) (by simp [h210]) (by simp [h253]) (by simp [h271]) (by simp [h272]) (by simp [h273]) HW (decide_eq_false r0) (decide_eq_false r1) (decide_eq_false r2) (decide_eq_true r3)
  by_cases r4 : 256 ≤ op ∧ op ≤ 263
  · rw [show wideOp op = true from decide_eq_true (by omega)]; exact frn_r4 op w (by simp [h28]) (by simp [h37]) (by simp [h38]) (by simp [h42]) (by simp [h43]) (by simp [h56]) (by simp [h57]) (by simp [h67]) (by simp [h68]) (by simp [h208]) (by simp [h209]) (by simp [h210]) (by simp [h253]) (by simp [h271]) (by simp [h272]) (by simp [h273]) HW (decide_eq_false r0) (decide_eq_false r1) (decide_eq_false r2) (decide_eq_false r3) (decide_eq_true r4)
  rw [show wideOp op = false from decide_eq_false (by omega)]
  exact frn_r5 op w (by simp [h28]) (by simp [h37]) (by simp [h38]) (by simp [h42]) (by simp [h43]) (by simp [h56]) (by simp [h57]) (by simp [h67]) (by simp [h68]) (by simp [h208]) (by simp [h209]) (by simp [h210]) (by simp [h253]) (by simp [h271]) (by simp [h272]) (by simp [h273]) HW (decide_eq_false r0) (decide_eq_false r1) (decide_eq_false r2) (decide_eq_false r3) (decide_eq_false r4)
section
variable (op : Int) (w : World) (a b c : Bool)
set_option maxHeartbeats 1000000 in
theorem layer_n (HN : Hid (∀ W, Calls Try.prog 70 #[.int .i64 op] W (TyOk W a))) (h1 : a = true) : Calls Try.prog 51 #[.int .i64 op] w (FormIs w 2) := by
  subst h1
  go_enter Try.func51, Try.ntmps51
  go_wp2_with fail
  refine (HN.out _).mono ?_
  rintro e w1 ⟨u0, u1, rfl, hb1⟩
  go_wp2
  go_ret
  exact ⟨rfl, hb1⟩
set_option maxHeartbeats 1000000 in
theorem layer_p (HN : Hid (∀ W, Calls Try.prog 70 #[.int .i64 op] W (TyOk W a))) (HA : Hid (∀ W, Calls Try.prog 71 #[.int .i64 op] W (AccOk W b))) (h1 : a = false) (h2 : b = true) : Calls Try.prog 51 #[.int .i64 op] w (FormIs w 5) := by
  subst h1 h2
  go_enter Try.func51, Try.ntmps51
  go_wp2_with fail
  refine (HN.out _).mono ?_
  rintro e w1 ⟨u0, u1, rfl, hb1⟩
  go_wp2_with fail
  refine (HA.out _).mono ?_
  rintro e w2 ⟨v0, v1, v2, rfl, hb2⟩
  have hb3 := hb1.trans (hb2.mono hb1.size)
  clear hb1 hb2
  go_wp2
  go_ret
  exact ⟨rfl, hb3⟩
set_option maxHeartbeats 1000000 in
theorem layer_f (HN : Hid (∀ W, Calls Try.prog 70 #[.int .i64 op] W (TyOk W a))) (HA : Hid (∀ W, Calls Try.prog 71 #[.int .i64 op] W (AccOk W b))) (HF : Hid (∀ W, Calls Try.prog 72 #[.int .i64 op] W (Same1 W (.bool c)))) (h1 : a = false) (h2 : b = false) (h3 : c = true) : Calls Try.prog 51 #[.int .i64 op] w (FormIs w 1) := by
  subst h1 h2 h3
  go_enter Try.func51, Try.ntmps51
  go_wp2_with fail
  refine (HN.out _).mono ?_
  rintro e w1 ⟨u0, u1, rfl, hb1⟩
  go_wp2_with fail
  refine (HA.out _).mono ?_
  rintro e w2 ⟨v0, v1, v2, rfl, hb2⟩
  have hb3 := hb1.trans (hb2.mono hb1.size)
  clear hb1 hb2
  go_wp2_with fail
  refine (HF.out _).mono ?_
  rintro e w3 ⟨rfl, rfl⟩
  go_wp2
  go_ret
  exact ⟨rfl, hb3⟩
set_option maxHeartbeats 1000000 in
theorem layer_z (HN : Hid (∀ W, Calls Try.prog 70 #[.int .i64 op] W (TyOk W a))) (HA : Hid (∀ W, Calls Try.prog 71 #[.int .i64 op] W (AccOk W b))) (HF : Hid (∀ W, Calls Try.prog 72 #[.int .i64 op] W (Same1 W (.bool c)))) (h1 : a = false) (h2 : b = false) (h3 : c = false) : Calls Try.prog 51 #[.int .i64 op] w (FormIs w 0) := by
  subst h1 h2 h3
  go_enter Try.func51, Try.ntmps51
  go_wp2_with fail
  refine (HN.out _).mono ?_
  rintro e w1 ⟨u0, u1, rfl, hb1⟩
  go_wp2_with fail
  refine (HA.out _).mono ?_
  rintro e w2 ⟨v0, v1, v2, rfl, hb2⟩
  have hb3 := hb1.trans (hb2.mono hb1.size)
  clear hb1 hb2
  go_wp2_with fail
  refine (HF.out _).mono ?_
  rintro e w3 ⟨rfl, rfl⟩
  go_wp2
  go_ret
  exact ⟨rfl, hb3⟩
end
set_option maxRecDepth 100000 in
theorem frm_0 (w : World) : Calls Try.prog 30 #[.int .i64 0] w (FormIs w 2) := by
  go_enter Try.func30, Try.ntmps30
  go_wp2
  go_ret
  exact ⟨rfl, Below.refl _ _⟩
set_option maxRecDepth 100000 in
theorem frm_1 (w : World) : Calls Try.prog 30 #[.int .i64 1] w (FormIs w 2) := by
  go_enter Try.func30, Try.ntmps30
  go_wp2
  go_ret
  exact ⟨rfl, Below.refl _ _⟩
set_option maxRecDepth 100000 in
theorem frm_5 (w : World) : Calls Try.prog 30 #[.int .i64 5] w (FormIs w 2) := by
  go_enter Try.func30, Try.ntmps30
  go_wp2
  go_ret
  exact ⟨rfl, Below.refl _ _⟩
set_option maxRecDepth 100000 in
theorem frm_11 (w : World) : Calls Try.prog 30 #[.int .i64 11] w (FormIs w 2) := by
  go_enter Try.func30, Try.ntmps30
  go_wp2
  go_ret
  exact ⟨rfl, Below.refl _ _⟩
set_option maxRecDepth 100000 in
theorem frm_15 (w : World) : Calls Try.prog 30 #[.int .i64 15] w (FormIs w 2) := by
  go_enter Try.func30, Try.ntmps30
  go_wp2
  go_ret
  exact ⟨rfl, Below.refl _ _⟩
set_option maxRecDepth 100000 in
theorem frm_26 (w : World) : Calls Try.prog 30 #[.int .i64 26] w (FormIs w 2) := by
  go_enter Try.func30, Try.ntmps30
  go_wp2
  go_ret
  exact ⟨rfl, Below.refl _ _⟩
set_option maxRecDepth 100000 in
theorem frm_27 (w : World) : Calls Try.prog 30 #[.int .i64 27] w (FormIs w 2) := by
  go_enter Try.func30, Try.ntmps30
  go_wp2
  go_ret
  exact ⟨rfl, Below.refl _ _⟩
set_option maxRecDepth 100000 in
theorem frm_2 (w : World) : Calls Try.prog 30 #[.int .i64 2] w (FormIs w 3) := by
  go_enter Try.func30, Try.ntmps30
  go_wp2
  go_ret
  exact ⟨rfl, Below.refl _ _⟩
set_option maxRecDepth 100000 in
theorem frm_3 (w : World) : Calls Try.prog 30 #[.int .i64 3] w (FormIs w 3) := by
  go_enter Try.func30, Try.ntmps30
  go_wp2
  go_ret
  exact ⟨rfl, Below.refl _ _⟩
set_option maxRecDepth 100000 in
theorem frm_4 (w : World) : Calls Try.prog 30 #[.int .i64 4] w (FormIs w 3) := by
  go_enter Try.func30, Try.ntmps30
  go_wp2
  go_ret
  exact ⟨rfl, Below.refl _ _⟩
set_option maxRecDepth 100000 in
theorem frm_12 (w : World) : Calls Try.prog 30 #[.int .i64 12] w (FormIs w 4) := by
  go_enter Try.func30, Try.ntmps30
  go_wp2
  go_ret
  exact ⟨rfl, Below.refl _ _⟩
set_option maxRecDepth 100000 in
theorem frm_13 (w : World) : Calls Try.prog 30 #[.int .i64 13] w (FormIs w 4) := by
  go_enter Try.func30, Try.ntmps30
  go_wp2
  go_ret
  exact ⟨rfl, Below.refl _ _⟩
set_option maxRecDepth 100000 in
theorem frm_16 (w : World) : Calls Try.prog 30 #[.int .i64 16] w (FormIs w 4) := by
  go_enter Try.func30, Try.ntmps30
  go_wp2
  go_ret
  exact ⟨rfl, Below.refl _ _⟩
set_option maxRecDepth 100000 in
theorem frm_32 (w : World) : Calls Try.prog 30 #[.int .i64 32] w (FormIs w 4) := by
  go_enter Try.func30, Try.ntmps30
  go_wp2
  go_ret
  exact ⟨rfl, Below.refl _ _⟩
set_option maxRecDepth 100000 in
theorem frm_33 (w : World) : Calls Try.prog 30 #[.int .i64 33] w (FormIs w 4) := by
  go_enter Try.func30, Try.ntmps30
  go_wp2
  go_ret
  exact ⟨rfl, Below.refl _ _⟩
set_option maxRecDepth 100000 in
theorem frm_34 (w : World) : Calls Try.prog 30 #[.int .i64 34] w (FormIs w 4) := by
  go_enter Try.func30, Try.ntmps30
  go_wp2
  go_ret
  exact ⟨rfl, Below.refl _ _⟩
set_option maxRecDepth 100000 in
theorem frm_35 (w : World) : Calls Try.prog 30 #[.int .i64 35] w (FormIs w 4) := by
  go_enter Try.func30, Try.ntmps30
  go_wp2
  go_ret
  exact ⟨rfl, Below.refl _ _⟩
set_option maxRecDepth 100000 in
theorem frm_36 (w : World) : Calls Try.prog 30 #[.int .i64 36] w (FormIs w 4) := by
  go_enter Try.func30, Try.ntmps30
  go_wp2
  go_ret
  exact ⟨rfl, Below.refl _ _⟩
set_option maxRecDepth 100000 in
theorem frm_265 (w : World) : Calls Try.prog 30 #[.int .i64 265] w (FormIs w 4) := by
  go_enter Try.func30, Try.ntmps30
  go_wp2
  go_ret
  exact ⟨rfl, Below.refl _ _⟩
set_option maxRecDepth 100000 in
theorem frm_269 (w : World) : Calls Try.prog 30 #[.int .i64 269] w (FormIs w 4) := by
  go_enter Try.func30, Try.ntmps30
  go_wp2
  go_ret
  exact ⟨rfl, Below.refl _ _⟩
set_option maxRecDepth 100000 in
theorem frm_14 (w : World) : Calls Try.prog 30 #[.int .i64 14] w (FormIs w 6) := by
  go_enter Try.func30, Try.ntmps30
  go_wp2
  go_ret
  exact ⟨rfl, Below.refl _ _⟩
set_option maxRecDepth 100000 in
theorem frm_17 (w : World) : Calls Try.prog 30 #[.int .i64 17] w (FormIs w 5) := by
  go_enter Try.func30, Try.ntmps30
  go_wp2
  go_ret
  exact ⟨rfl, Below.refl _ _⟩
set_option maxRecDepth 100000 in
theorem frm_268 (w : World) : Calls Try.prog 30 #[.int .i64 268] w (FormIs w 5) := by
  go_enter Try.func30, Try.ntmps30
  go_wp2
  go_ret
  exact ⟨rfl, Below.refl _ _⟩
set_option maxRecDepth 100000 in
theorem frm_270 (w : World) : Calls Try.prog 30 #[.int .i64 270] w (FormIs w 5) := by
  go_enter Try.func30, Try.ntmps30
  go_wp2
  go_ret
  exact ⟨rfl, Below.refl _ _⟩
set_option maxRecDepth 100000 in
theorem frm_63 (w : World) : Calls Try.prog 30 #[.int .i64 63] w (FormIs w 7) := by
  go_enter Try.func30, Try.ntmps30
  go_wp2
  go_ret
  exact ⟨rfl, Below.refl _ _⟩
set_option maxRecDepth 100000 in
theorem frm_64 (w : World) : Calls Try.prog 30 #[.int .i64 64] w (FormIs w 7) := by
  go_enter Try.func30, Try.ntmps30
  go_wp2
  go_ret
  exact ⟨rfl, Below.refl _ _⟩
set_option maxRecDepth 100000 in
theorem frm_267 (w : World) : Calls Try.prog 30 #[.int .i64 267] w (FormIs w 7) := by
  go_enter Try.func30, Try.ntmps30
  go_wp2
  go_ret
  exact ⟨rfl, Below.refl _ _⟩
set_option maxRecDepth 100000 in
theorem frm_266 (w : World) : Calls Try.prog 30 #[.int .i64 266] w (FormIs w 8) := by
  go_enter Try.func30, Try.ntmps30
  go_wp2
  go_ret
  exact ⟨rfl, Below.refl _ _⟩
set_option maxRecDepth 100000 in
theorem frm_65 (w : World) : Calls Try.prog 30 #[.int .i64 65] w (FormIs w 10) := by
  go_enter Try.func30, Try.ntmps30
  go_wp2
  go_ret
  exact ⟨rfl, Below.refl _ _⟩
set_option maxRecDepth 100000 in
theorem frm_66 (w : World) : Calls Try.prog 30 #[.int .i64 66] w (FormIs w 11) := by
  go_enter Try.func30, Try.ntmps30
  go_wp2
  go_ret
  exact ⟨rfl, Below.refl _ _⟩
set_option maxRecDepth 100000 in
theorem frm_264 (w : World) : Calls Try.prog 30 #[.int .i64 264] w (FormIs w 9) := by
  go_enter Try.func30, Try.ntmps30
  go_wp2
  go_ret
  exact ⟨rfl, Below.refl _ _⟩
set_option maxRecDepth 100000 in
set_option maxHeartbeats 1000000 in
theorem frm_other (op : Int) (w : World) (n : Nat) (t0 : (op == 0) = false) (t1 : (op == 1) = false) (t5 : (op == 5) = false) (t11 : (op == 11) = false) (t15 : (op == 15) = false) (t26 : (op == 26) = false) (t27 : (op == 27) = false) (t2 : (op == 2) = false) (t3 : (op == 3) = false) (t4 : (op == 4) = false) (t12 : (op == 12) = false) (t13 : (op == 13) = false) (t16 : (op == 16) = false) (t32 : (op == 32) = false) (t33 : (op == 33) = false) (t34 : (op == 34) = false) (t35 : (op == 35) = false) (t36 : (op == 36) = false) (t265 : (op == 265) = false) (t269 : (op == 269) = false) (t14 : (op == 14) = false) (t17 : (op == 17) = false) (t268 : (op == 268) = false) (t270 : (op == 270) = false) (t63 : (op == 63) = false) (t64 : (op == 64) = false) (t267 : (op == 267) = false) (t266 : (op == 266) = false) (t65 : (op == 65) = false) (t66 : (op == 66) = false) (t264 : (op == 264) = false) (HL : Hid (∀ W, Calls Try.prog 51 #[.int .i64 op] W (FormIs W n))) : Calls Try.prog 30 #[.int .i64 op] w (FormIs w n) := by
  go_enter Try.func30, Try.ntmps30
  go_wp2_with fail
  refine (HL.out _).mono ?_
  rintro e w1 ⟨rfl, hb1⟩
  go_wp2
  go_ret
  exact ⟨rfl, hb1⟩
theorem form_any (op : Int) (w : World) : Calls Try.prog 30 #[.int .i64 op] w (FormIs w (formN op)) := by
  by_cases h0 : op = 0
  · subst h0; exact frm_0 w
  by_cases h1 : op = 1
  · subst h1; exact frm_1 w
  by_cases h5 : op = 5
  · subst h5; exact frm_5 w
  by_cases h11 : op = 11
  · subst h11; exact frm_11 w
  by_cases h15 : op = 15
  · subst h15; exact frm_15 w
  by_cases h26 : op = 26
  · subst h26; exact frm_26 w
  by_cases h27 : op = 27
  · subst h27; exact frm_27 w
  by_cases h2 : op = 2
  · subst h2; exact frm_2 w
  by_cases h3 : op = 3
  · subst h3; exact frm_3 w
  by_cases h4 : op = 4
  · subst h4; exact frm_4 w
  by_cases h12 : op = 12
  · subst h12; exact frm_12 w
  by_cases h13 : op = 13
  · subst h13; exact frm_13 w
  by_cases h16 : op = 16
  · subst h16; exact frm_16 w
  by_cases h32 : op = 32
  · subst h32; exact frm_32 w
  by_cases h33 : op = 33
  · subst h33; exact frm_33 w
  by_cases h34 : op = 34
  · subst h34; exact frm_34 w
  by_cases h35 : op = 35
  · subst h35; exact frm_35 w
  by_cases h36 : op = 36
  · subst h36; exact frm_36 w
  by_cases h265 : op = 265
  · subst h265; exact frm_265 w
  by_cases h269 : op = 269
  · subst h269; exact frm_269 w
  by_cases h14 : op = 14
  · subst h14; exact frm_14 w
  by_cases h17 : op = 17
  · subst h17; exact frm_17 w
  by_cases h268 : op = 268
  · subst h268; exact frm_268 w
  by_cases h270 : op = 270
  · subst h270; exact frm_270 w
  by_cases h63 : op = 63
  · subst h63; exact frm_63 w
  by_cases h64 : op = 64
  · subst h64; exact frm_64 w
  by_cases h267 : op = 267
  · subst h267; exact frm_267 w
  by_cases h266 : op = 266
  · subst h266; exact frm_266 w
  by_cases h65 : op = 65
  · subst h65; exact frm_65 w
  by_cases h66 : op = 66
  · subst h66; exact frm_66 w
  by_cases h264 : op = 264
  · subst h264; exact frm_264 w
  have hnm : named op = none := by
    unfold named
    rw [if_neg (by omega), if_neg (by omega), if_neg (by omega), if_neg (by omega), if_neg (by omega), if_neg (by omega), if_neg (by omega), if_neg (by omega), if_neg (by omega), if_neg (by omega)]
  have HL : Hid (∀ W, Calls Try.prog 51 #[.int .i64 op] W (FormIs W (formN op))) := Lib.hid fun W => by
    have HN := Lib.hid (fun W => types_any op W)
    have HA := Lib.hid (fun W => access_any op W)
    have HF := Lib.hid (fun W => foreign_any op W)
    unfold formN pat
    rw [hnm]
    by_cases c1 : numOp op = true
    · have d1 := of_decide_eq_true c1
      rw [if_neg (by rw [show wideOp op = false from decide_eq_false (by omega)]; simp), if_neg (by rw [show accOp op = false from decide_eq_false (by omega)]; simp), if_pos c1]
      exact layer_n op W _ HN c1
    by_cases c2 : accOp op = true
    · have d2 := of_decide_eq_true c2
      rw [if_neg (by rw [show wideOp op = false from decide_eq_false (by omega)]; simp), if_pos c2]
      exact layer_p op W _ _ HN HA (Bool.eq_false_iff.2 c1) c2
    by_cases c3 : wideOp op = true
    · rw [if_pos c3]
      exact layer_f op W _ _ _ HN HA HF (Bool.eq_false_iff.2 c1) (Bool.eq_false_iff.2 c2) c3
    · rw [if_neg c3, if_neg c2, if_neg c1]
      exact layer_z op W _ _ _ HN HA HF (Bool.eq_false_iff.2 c1) (Bool.eq_false_iff.2 c2) (Bool.eq_false_iff.2 c3)
  exact frm_other op w _ (by simp [h0]) (by simp [h1]) (by simp [h5]) (by simp [h11]) (by simp [h15]) (by simp [h26]) (by simp [h27]) (by simp [h2]) (by simp [h3]) (by simp [h4]) (by simp [h12]) (by simp [h13]) (by simp [h16]) (by simp [h32]) (by simp [h33]) (by simp [h34]) (by simp [h35]) (by simp [h36]) (by simp [h265]) (by simp [h269]) (by simp [h14]) (by simp [h17]) (by simp [h268]) (by simp [h270]) (by simp [h63]) (by simp [h64]) (by simp [h267]) (by simp [h266]) (by simp [h65]) (by simp [h66]) (by simp [h264]) HL
end Go.Proofs.Ytdipgokbfjbgfaa.Ins
