/-
  num's own Types, for every code: what the reference answers; and that num's three functions do as the reference does. Condition: the library's table of bits.TrailingZeros64 holds what it was laid with.
-/
import Derived.Test.YtbgcafkdojoilaaDoorNumOwnBin
import Derived.Test.YtbgcafkdojoilaaDoorNumOwnUn
namespace Go.Proofs.YtbgcafkdojoilaaDoor.Num
open Go.RowKit

set_option maxRecDepth 100000 in
theorem oty_167 (wo : World) : Calls Tryd.prog 14 #[.int .i64 167] wo (TypesIs wo [126] 127 true) := by
  go_enter Tryd.func14, Tryd.ntmps14
  go_wp2
  go_ret3
  exact ⟨_, rfl, ints_1 _ _ _, (Below.refl _ _).alloc (Nat.le_refl _) _⟩
set_option maxRecDepth 100000 in
theorem oty_172 (wo : World) : Calls Tryd.prog 14 #[.int .i64 172] wo (TypesIs wo [127] 126 true) := by
  go_enter Tryd.func14, Tryd.ntmps14
  go_wp2
  go_ret3
  exact ⟨_, rfl, ints_1 _ _ _, (Below.refl _ _).alloc (Nat.le_refl _) _⟩
set_option maxRecDepth 100000 in
theorem oty_173 (wo : World) : Calls Tryd.prog 14 #[.int .i64 173] wo (TypesIs wo [127] 126 true) := by
  go_enter Tryd.func14, Tryd.ntmps14
  go_wp2
  go_ret3
  exact ⟨_, rfl, ints_1 _ _ _, (Below.refl _ _).alloc (Nat.le_refl _) _⟩
set_option maxRecDepth 100000 in
theorem oty_192 (wo : World) : Calls Tryd.prog 14 #[.int .i64 192] wo (TypesIs wo [127] 127 true) := by
  go_enter Tryd.func14, Tryd.ntmps14
  go_wp2
  go_ret3
  exact ⟨_, rfl, ints_1 _ _ _, (Below.refl _ _).alloc (Nat.le_refl _) _⟩
set_option maxRecDepth 100000 in
theorem oty_193 (wo : World) : Calls Tryd.prog 14 #[.int .i64 193] wo (TypesIs wo [127] 127 true) := by
  go_enter Tryd.func14, Tryd.ntmps14
  go_wp2
  go_ret3
  exact ⟨_, rfl, ints_1 _ _ _, (Below.refl _ _).alloc (Nat.le_refl _) _⟩
set_option maxRecDepth 100000 in
theorem oty_194 (wo : World) : Calls Tryd.prog 14 #[.int .i64 194] wo (TypesIs wo [126] 126 true) := by
  go_enter Tryd.func14, Tryd.ntmps14
  go_wp2
  go_ret3
  exact ⟨_, rfl, ints_1 _ _ _, (Below.refl _ _).alloc (Nat.le_refl _) _⟩
set_option maxRecDepth 100000 in
theorem oty_195 (wo : World) : Calls Tryd.prog 14 #[.int .i64 195] wo (TypesIs wo [126] 126 true) := by
  go_enter Tryd.func14, Tryd.ntmps14
  go_wp2
  go_ret3
  exact ⟨_, rfl, ints_1 _ _ _, (Below.refl _ _).alloc (Nat.le_refl _) _⟩
set_option maxRecDepth 100000 in
theorem oty_196 (wo : World) : Calls Tryd.prog 14 #[.int .i64 196] wo (TypesIs wo [126] 126 true) := by
  go_enter Tryd.func14, Tryd.ntmps14
  go_wp2
  go_ret3
  exact ⟨_, rfl, ints_1 _ _ _, (Below.refl _ _).alloc (Nat.le_refl _) _⟩
section
variable (op c : Int) (wo : World) (hn : op ≠ 167 ∧ op ≠ 172 ∧ op ≠ 173 ∧ op ≠ 192 ∧ op ≠ 193 ∧ op ≠ 194 ∧ op ≠ 195 ∧ op ≠ 196)
include hn
set_option maxRecDepth 100000 in
theorem oty_none0_32 (h : c < 69) (HF : Hid (∀ V, Calls Tryd.prog 17 #[.int .i64 op] V fun e w' => e = .returned (.tuple #[.int .i64 c, .int .u64 32]) ∧ V = w')) :
    Calls Tryd.prog 14 #[.int .i64 op] wo (TypesIs wo [] 0 false) := by
  have t167 : (op == 167) = false := by simp; omega
  have t172 : (op == 172) = false := by simp; omega
  have t173 : (op == 173) = false := by simp; omega
  have t192 : (op == 192) = false := by simp; omega
  have t193 : (op == 193) = false := by simp; omega
  have t194 : (op == 194) = false := by simp; omega
  have t195 : (op == 195) = false := by simp; omega
  have t196 : (op == 196) = false := by simp; omega
  have e69 : (c == 69) = false := by simp; omega
  have g70 : ¬ 70 ≤ c := by omega
  have g103 : ¬ 103 ≤ c := by omega
  have g106 : ¬ 106 ≤ c := by omega
  clear h hn
  go_enter Tryd.func14, Tryd.ntmps14
  go_wp2_with fail
  refine (HF.out _).mono ?_
  rintro e w' ⟨rfl, rfl⟩
  go_wp2
  go_ret3
  exact ⟨none, rfl, fun h => by simp at h, Below.refl _ _⟩
set_option maxRecDepth 100000 in
theorem oty_eqz_32 (h : c = 69) (HF : Hid (∀ V, Calls Tryd.prog 17 #[.int .i64 op] V fun e w' => e = .returned (.tuple #[.int .i64 c, .int .u64 32]) ∧ V = w')) :
    Calls Tryd.prog 14 #[.int .i64 op] wo (TypesIs wo [127] 127 true) := by
  have t167 : (op == 167) = false := by simp; omega
  have t172 : (op == 172) = false := by simp; omega
  have t173 : (op == 173) = false := by simp; omega
  have t192 : (op == 192) = false := by simp; omega
  have t193 : (op == 193) = false := by simp; omega
  have t194 : (op == 194) = false := by simp; omega
  have t195 : (op == 195) = false := by simp; omega
  have t196 : (op == 196) = false := by simp; omega
  have e69 : (c == 69) = true := by simp; omega
  clear h hn
  go_enter Tryd.func14, Tryd.ntmps14
  go_wp2_with fail
  refine (HF.out _).mono ?_
  rintro e w' ⟨rfl, rfl⟩
  go_wp2
  go_ret3
  exact ⟨_, rfl, ints_1 _ _ _, (Below.refl _ _).alloc (Nat.le_refl _) _⟩
set_option maxRecDepth 100000 in
theorem oty_cmp_32 (h : 70 ≤ c ∧ c ≤ 79) (HF : Hid (∀ V, Calls Tryd.prog 17 #[.int .i64 op] V fun e w' => e = .returned (.tuple #[.int .i64 c, .int .u64 32]) ∧ V = w')) :
    Calls Tryd.prog 14 #[.int .i64 op] wo (TypesIs wo [127, 127] 127 true) := by
  have t167 : (op == 167) = false := by simp; omega
  have t172 : (op == 172) = false := by simp; omega
  have t173 : (op == 173) = false := by simp; omega
  have t192 : (op == 192) = false := by simp; omega
  have t193 : (op == 193) = false := by simp; omega
  have t194 : (op == 194) = false := by simp; omega
  have t195 : (op == 195) = false := by simp; omega
  have t196 : (op == 196) = false := by simp; omega
  have e69 : (c == 69) = false := by simp; omega
  have g70 : 70 ≤ c := by omega
  have l79 : c ≤ 79 := by omega
  clear h hn
  go_enter Tryd.func14, Tryd.ntmps14
  go_wp2_with fail
  refine (HF.out _).mono ?_
  rintro e w' ⟨rfl, rfl⟩
  go_wp2
  go_ret3
  exact ⟨_, rfl, ints_2 _ _ _ _, (Below.refl _ _).alloc (Nat.le_refl _) _⟩
set_option maxRecDepth 100000 in
theorem oty_none1_32 (h : 79 < c ∧ c < 103) (HF : Hid (∀ V, Calls Tryd.prog 17 #[.int .i64 op] V fun e w' => e = .returned (.tuple #[.int .i64 c, .int .u64 32]) ∧ V = w')) :
    Calls Tryd.prog 14 #[.int .i64 op] wo (TypesIs wo [] 0 false) := by
  have t167 : (op == 167) = false := by simp; omega
  have t172 : (op == 172) = false := by simp; omega
  have t173 : (op == 173) = false := by simp; omega
  have t192 : (op == 192) = false := by simp; omega
  have t193 : (op == 193) = false := by simp; omega
  have t194 : (op == 194) = false := by simp; omega
  have t195 : (op == 195) = false := by simp; omega
  have t196 : (op == 196) = false := by simp; omega
  have e69 : (c == 69) = false := by simp; omega
  have g70 : 70 ≤ c := by omega
  have l79 : ¬ c ≤ 79 := by omega
  have g103 : ¬ 103 ≤ c := by omega
  have g106 : ¬ 106 ≤ c := by omega
  clear h hn
  go_enter Tryd.func14, Tryd.ntmps14
  go_wp2_with fail
  refine (HF.out _).mono ?_
  rintro e w' ⟨rfl, rfl⟩
  go_wp2
  go_ret3
  exact ⟨none, rfl, fun h => by simp at h, Below.refl _ _⟩
set_option maxRecDepth 100000 in
theorem oty_one_32 (h : 103 ≤ c ∧ c ≤ 105) (HF : Hid (∀ V, Calls Tryd.prog 17 #[.int .i64 op] V fun e w' => e = .returned (.tuple #[.int .i64 c, .int .u64 32]) ∧ V = w')) :
    Calls Tryd.prog 14 #[.int .i64 op] wo (TypesIs wo [127] 127 true) := by
  have t167 : (op == 167) = false := by simp; omega
  have t172 : (op == 172) = false := by simp; omega
  have t173 : (op == 173) = false := by simp; omega
  have t192 : (op == 192) = false := by simp; omega
  have t193 : (op == 193) = false := by simp; omega
  have t194 : (op == 194) = false := by simp; omega
  have t195 : (op == 195) = false := by simp; omega
  have t196 : (op == 196) = false := by simp; omega
  have e69 : (c == 69) = false := by simp; omega
  have g70 : 70 ≤ c := by omega
  have l79 : ¬ c ≤ 79 := by omega
  have g103 : 103 ≤ c := by omega
  have l105 : c ≤ 105 := by omega
  clear h hn
  go_enter Tryd.func14, Tryd.ntmps14
  go_wp2_with fail
  refine (HF.out _).mono ?_
  rintro e w' ⟨rfl, rfl⟩
  go_wp2
  go_ret3
  exact ⟨_, rfl, ints_1 _ _ _, (Below.refl _ _).alloc (Nat.le_refl _) _⟩
set_option maxRecDepth 100000 in
theorem oty_two_32 (h : 106 ≤ c ∧ c ≤ 120) (HF : Hid (∀ V, Calls Tryd.prog 17 #[.int .i64 op] V fun e w' => e = .returned (.tuple #[.int .i64 c, .int .u64 32]) ∧ V = w')) :
    Calls Tryd.prog 14 #[.int .i64 op] wo (TypesIs wo [127, 127] 127 true) := by
  have t167 : (op == 167) = false := by simp; omega
  have t172 : (op == 172) = false := by simp; omega
  have t173 : (op == 173) = false := by simp; omega
  have t192 : (op == 192) = false := by simp; omega
  have t193 : (op == 193) = false := by simp; omega
  have t194 : (op == 194) = false := by simp; omega
  have t195 : (op == 195) = false := by simp; omega
  have t196 : (op == 196) = false := by simp; omega
  have e69 : (c == 69) = false := by simp; omega
  have g70 : 70 ≤ c := by omega
  have l79 : ¬ c ≤ 79 := by omega
  have g103 : 103 ≤ c := by omega
  have l105 : ¬ c ≤ 105 := by omega
  have g106 : 106 ≤ c := by omega
  have l120 : c ≤ 120 := by omega
  clear h hn
  go_enter Tryd.func14, Tryd.ntmps14
  go_wp2_with fail
  refine (HF.out _).mono ?_
  rintro e w' ⟨rfl, rfl⟩
  go_wp2
  go_ret3
  exact ⟨_, rfl, ints_2 _ _ _ _, (Below.refl _ _).alloc (Nat.le_refl _) _⟩
set_option maxRecDepth 100000 in
theorem oty_none2_32 (h : 120 < c) (HF : Hid (∀ V, Calls Tryd.prog 17 #[.int .i64 op] V fun e w' => e = .returned (.tuple #[.int .i64 c, .int .u64 32]) ∧ V = w')) :
    Calls Tryd.prog 14 #[.int .i64 op] wo (TypesIs wo [] 0 false) := by
  have t167 : (op == 167) = false := by simp; omega
  have t172 : (op == 172) = false := by simp; omega
  have t173 : (op == 173) = false := by simp; omega
  have t192 : (op == 192) = false := by simp; omega
  have t193 : (op == 193) = false := by simp; omega
  have t194 : (op == 194) = false := by simp; omega
  have t195 : (op == 195) = false := by simp; omega
  have t196 : (op == 196) = false := by simp; omega
  have e69 : (c == 69) = false := by simp; omega
  have g70 : 70 ≤ c := by omega
  have l79 : ¬ c ≤ 79 := by omega
  have g103 : 103 ≤ c := by omega
  have l105 : ¬ c ≤ 105 := by omega
  have g106 : 106 ≤ c := by omega
  have l120 : ¬ c ≤ 120 := by omega
  clear h hn
  go_enter Tryd.func14, Tryd.ntmps14
  go_wp2_with fail
  refine (HF.out _).mono ?_
  rintro e w' ⟨rfl, rfl⟩
  go_wp2
  go_ret3
  exact ⟨none, rfl, fun h => by simp at h, Below.refl _ _⟩
set_option maxRecDepth 100000 in
theorem oty_none0_64 (h : c < 69) (HF : Hid (∀ V, Calls Tryd.prog 17 #[.int .i64 op] V fun e w' => e = .returned (.tuple #[.int .i64 c, .int .u64 64]) ∧ V = w')) :
    Calls Tryd.prog 14 #[.int .i64 op] wo (TypesIs wo [] 0 false) := by
  have t167 : (op == 167) = false := by simp; omega
  have t172 : (op == 172) = false := by simp; omega
  have t173 : (op == 173) = false := by simp; omega
  have t192 : (op == 192) = false := by simp; omega
  have t193 : (op == 193) = false := by simp; omega
  have t194 : (op == 194) = false := by simp; omega
  have t195 : (op == 195) = false := by simp; omega
  have t196 : (op == 196) = false := by simp; omega
  have e69 : (c == 69) = false := by simp; omega
  have g70 : ¬ 70 ≤ c := by omega
  have g103 : ¬ 103 ≤ c := by omega
  have g106 : ¬ 106 ≤ c := by omega
  clear h hn
  go_enter Tryd.func14, Tryd.ntmps14
  go_wp2_with fail
  refine (HF.out _).mono ?_
  rintro e w' ⟨rfl, rfl⟩
  go_wp2
  go_ret3
  exact ⟨none, rfl, fun h => by simp at h, Below.refl _ _⟩
set_option maxRecDepth 100000 in
theorem oty_eqz_64 (h : c = 69) (HF : Hid (∀ V, Calls Tryd.prog 17 #[.int .i64 op] V fun e w' => e = .returned (.tuple #[.int .i64 c, .int .u64 64]) ∧ V = w')) :
    Calls Tryd.prog 14 #[.int .i64 op] wo (TypesIs wo [126] 127 true) := by
  have t167 : (op == 167) = false := by simp; omega
  have t172 : (op == 172) = false := by simp; omega
  have t173 : (op == 173) = false := by simp; omega
  have t192 : (op == 192) = false := by simp; omega
  have t193 : (op == 193) = false := by simp; omega
  have t194 : (op == 194) = false := by simp; omega
  have t195 : (op == 195) = false := by simp; omega
  have t196 : (op == 196) = false := by simp; omega
  have e69 : (c == 69) = true := by simp; omega
  clear h hn
  go_enter Tryd.func14, Tryd.ntmps14
  go_wp2_with fail
  refine (HF.out _).mono ?_
  rintro e w' ⟨rfl, rfl⟩
  go_wp2
  go_ret3
  exact ⟨_, rfl, ints_1 _ _ _, (Below.refl _ _).alloc (Nat.le_refl _) _⟩
set_option maxRecDepth 100000 in
theorem oty_cmp_64 (h : 70 ≤ c ∧ c ≤ 79) (HF : Hid (∀ V, Calls Tryd.prog 17 #[.int .i64 op] V fun e w' => e = .returned (.tuple #[.int .i64 c, .int .u64 64]) ∧ V = w')) :
    Calls Tryd.prog 14 #[.int .i64 op] wo (TypesIs wo [126, 126] 127 true) := by
  have t167 : (op == 167) = false := by simp; omega
  have t172 : (op == 172) = false := by simp; omega
  have t173 : (op == 173) = false := by simp; omega
  have t192 : (op == 192) = false := by simp; omega
  have t193 : (op == 193) = false := by simp; omega
  have t194 : (op == 194) = false := by simp; omega
  have t195 : (op == 195) = false := by simp; omega
  have t196 : (op == 196) = false := by simp; omega
  have e69 : (c == 69) = false := by simp; omega
  have g70 : 70 ≤ c := by omega
  have l79 : c ≤ 79 := by omega
  clear h hn
  go_enter Tryd.func14, Tryd.ntmps14
  go_wp2_with fail
  refine (HF.out _).mono ?_
  rintro e w' ⟨rfl, rfl⟩
  go_wp2
  go_ret3
  exact ⟨_, rfl, ints_2 _ _ _ _, (Below.refl _ _).alloc (Nat.le_refl _) _⟩
set_option maxRecDepth 100000 in
theorem oty_none1_64 (h : 79 < c ∧ c < 103) (HF : Hid (∀ V, Calls Tryd.prog 17 #[.int .i64 op] V fun e w' => e = .returned (.tuple #[.int .i64 c, .int .u64 64]) ∧ V = w')) :
    Calls Tryd.prog 14 #[.int .i64 op] wo (TypesIs wo [] 0 false) := by
  have t167 : (op == 167) = false := by simp; omega
  have t172 : (op == 172) = false := by simp; omega
  have t173 : (op == 173) = false := by simp; omega
  have t192 : (op == 192) = false := by simp; omega
  have t193 : (op == 193) = false := by simp; omega
  have t194 : (op == 194) = false := by simp; omega
  have t195 : (op == 195) = false := by simp; omega
  have t196 : (op == 196) = false := by simp; omega
  have e69 : (c == 69) = false := by simp; omega
  have g70 : 70 ≤ c := by omega
  have l79 : ¬ c ≤ 79 := by omega
  have g103 : ¬ 103 ≤ c := by omega
  have g106 : ¬ 106 ≤ c := by omega
  clear h hn
  go_enter Tryd.func14, Tryd.ntmps14
  go_wp2_with fail
  refine (HF.out _).mono ?_
  rintro e w' ⟨rfl, rfl⟩
  go_wp2
  go_ret3
  exact ⟨none, rfl, fun h => by simp at h, Below.refl _ _⟩
set_option maxRecDepth 100000 in
theorem oty_one_64 (h : 103 ≤ c ∧ c ≤ 105) (HF : Hid (∀ V, Calls Tryd.prog 17 #[.int .i64 op] V fun e w' => e = .returned (.tuple #[.int .i64 c, .int .u64 64]) ∧ V = w')) :
    Calls Tryd.prog 14 #[.int .i64 op] wo (TypesIs wo [126] 126 true) := by
  have t167 : (op == 167) = false := by simp; omega
  have t172 : (op == 172) = false := by simp; omega
  have t173 : (op == 173) = false := by simp; omega
  have t192 : (op == 192) = false := by simp; omega
  have t193 : (op == 193) = false := by simp; omega
  have t194 : (op == 194) = false := by simp; omega
  have t195 : (op == 195) = false := by simp; omega
  have t196 : (op == 196) = false := by simp; omega
  have e69 : (c == 69) = false := by simp; omega
  have g70 : 70 ≤ c := by omega
  have l79 : ¬ c ≤ 79 := by omega
  have g103 : 103 ≤ c := by omega
  have l105 : c ≤ 105 := by omega
  clear h hn
  go_enter Tryd.func14, Tryd.ntmps14
  go_wp2_with fail
  refine (HF.out _).mono ?_
  rintro e w' ⟨rfl, rfl⟩
  go_wp2
  go_ret3
  exact ⟨_, rfl, ints_1 _ _ _, (Below.refl _ _).alloc (Nat.le_refl _) _⟩
set_option maxRecDepth 100000 in
theorem oty_two_64 (h : 106 ≤ c ∧ c ≤ 120) (HF : Hid (∀ V, Calls Tryd.prog 17 #[.int .i64 op] V fun e w' => e = .returned (.tuple #[.int .i64 c, .int .u64 64]) ∧ V = w')) :
    Calls Tryd.prog 14 #[.int .i64 op] wo (TypesIs wo [126, 126] 126 true) := by
  have t167 : (op == 167) = false := by simp; omega
  have t172 : (op == 172) = false := by simp; omega
  have t173 : (op == 173) = false := by simp; omega
  have t192 : (op == 192) = false := by simp; omega
  have t193 : (op == 193) = false := by simp; omega
  have t194 : (op == 194) = false := by simp; omega
  have t195 : (op == 195) = false := by simp; omega
  have t196 : (op == 196) = false := by simp; omega
  have e69 : (c == 69) = false := by simp; omega
  have g70 : 70 ≤ c := by omega
  have l79 : ¬ c ≤ 79 := by omega
  have g103 : 103 ≤ c := by omega
  have l105 : ¬ c ≤ 105 := by omega
  have g106 : 106 ≤ c := by omega
  have l120 : c ≤ 120 := by omega
  clear h hn
  go_enter Tryd.func14, Tryd.ntmps14
  go_wp2_with fail
  refine (HF.out _).mono ?_
  rintro e w' ⟨rfl, rfl⟩
  go_wp2
  go_ret3
  exact ⟨_, rfl, ints_2 _ _ _ _, (Below.refl _ _).alloc (Nat.le_refl _) _⟩
set_option maxRecDepth 100000 in
theorem oty_none2_64 (h : 120 < c) (HF : Hid (∀ V, Calls Tryd.prog 17 #[.int .i64 op] V fun e w' => e = .returned (.tuple #[.int .i64 c, .int .u64 64]) ∧ V = w')) :
    Calls Tryd.prog 14 #[.int .i64 op] wo (TypesIs wo [] 0 false) := by
  have t167 : (op == 167) = false := by simp; omega
  have t172 : (op == 172) = false := by simp; omega
  have t173 : (op == 173) = false := by simp; omega
  have t192 : (op == 192) = false := by simp; omega
  have t193 : (op == 193) = false := by simp; omega
  have t194 : (op == 194) = false := by simp; omega
  have t195 : (op == 195) = false := by simp; omega
  have t196 : (op == 196) = false := by simp; omega
  have e69 : (c == 69) = false := by simp; omega
  have g70 : 70 ≤ c := by omega
  have l79 : ¬ c ≤ 79 := by omega
  have g103 : 103 ≤ c := by omega
  have l105 : ¬ c ≤ 105 := by omega
  have g106 : 106 ≤ c := by omega
  have l120 : ¬ c ≤ 120 := by omega
  clear h hn
  go_enter Tryd.func14, Tryd.ntmps14
  go_wp2_with fail
  refine (HF.out _).mono ?_
  rintro e w' ⟨rfl, rfl⟩
  go_wp2
  go_ret3
  exact ⟨none, rfl, fun h => by simp at h, Below.refl _ _⟩
end
theorem bin_ok (op : Int) (a b : Nat) : (binAll op a b).2.2 = true ↔ (70 ≤ foldC op ∧ foldC op ≤ 79 ∨ 106 ≤ foldC op ∧ foldC op ≤ 120) := by
  rw [binAll_code]
  unfold codeVal
  by_cases h1 : 70 ≤ foldC op ∧ foldC op ≤ 79
  · rw [if_pos h1]; simp [h1]
  rw [if_neg h1]
  by_cases h2 : 106 ≤ foldC op ∧ foldC op ≤ 120
  · rw [if_pos h2]; simp [h2]
  · rw [if_neg h2]; simp [h1, h2]
theorem un_true (op : Int) (a : Nat) (h : op = 69 ∨ op = 80 ∨ op = 103 ∨ op = 121 ∨ op = 104 ∨ op = 122 ∨ op = 105 ∨ op = 123) : (unVal op a).2 = true := by
  rcases h with rfl | rfl | rfl | rfl | rfl | rfl | rfl | rfl <;> rfl
theorem un_false (op : Int) (a : Nat) (h : op ≠ 69 ∧ op ≠ 80 ∧ op ≠ 103 ∧ op ≠ 121 ∧ op ≠ 104 ∧ op ≠ 122 ∧ op ≠ 105 ∧ op ≠ 123 ∧ op ≠ 167 ∧ op ≠ 173 ∧ op ≠ 172 ∧ op ≠ 196 ∧ op ≠ 192 ∧ op ≠ 193 ∧ op ≠ 194 ∧ op ≠ 195) : (unVal op a).2 = false := by
  cases hu : (unVal op a).2 with
  | false => rfl
  | true =>
    obtain ⟨h1, h2, h3, h4, h5, h6, h7, h8, h9, h10, h11, h12, h13, h14, h15, h16⟩ := h
    rcases un_ops op a hu with rfl | rfl | rfl | rfl | rfl | rfl | rfl | rfl | rfl | rfl | rfl | rfl | rfl | rfl | rfl | rfl
    · exact absurd rfl h1
    · exact absurd rfl h2
    · exact absurd rfl h3
    · exact absurd rfl h4
    · exact absurd rfl h5
    · exact absurd rfl h6
    · exact absurd rfl h7
    · exact absurd rfl h8
    · exact absurd rfl h9
    · exact absurd rfl h10
    · exact absurd rfl h11
    · exact absurd rfl h12
    · exact absurd rfl h13
    · exact absurd rfl h14
    · exact absurd rfl h15
    · exact absurd rfl h16
theorem otypes_any (op : Int) (wo : World) : Calls Tryd.prog 14 #[.int .i64 op] wo (TypesIs wo (typVal op).1 (typVal op).2.1 (typVal op).2.2) := by
  by_cases h167 : op = 167
  · subst h167
    have : typVal 167 = ([126], 127, true) := by decide +kernel
    rw [this]; exact oty_167 wo
  by_cases h172 : op = 172
  · subst h172
    have : typVal 172 = ([127], 126, true) := by decide +kernel
    rw [this]; exact oty_172 wo
  by_cases h173 : op = 173
  · subst h173
    have : typVal 173 = ([127], 126, true) := by decide +kernel
    rw [this]; exact oty_173 wo
  by_cases h192 : op = 192
  · subst h192
    have : typVal 192 = ([127], 127, true) := by decide +kernel
    rw [this]; exact oty_192 wo
  by_cases h193 : op = 193
  · subst h193
    have : typVal 193 = ([127], 127, true) := by decide +kernel
    rw [this]; exact oty_193 wo
  by_cases h194 : op = 194
  · subst h194
    have : typVal 194 = ([126], 126, true) := by decide +kernel
    rw [this]; exact oty_194 wo
  by_cases h195 : op = 195
  · subst h195
    have : typVal 195 = ([126], 126, true) := by decide +kernel
    rw [this]; exact oty_195 wo
  by_cases h196 : op = 196
  · subst h196
    have : typVal 196 = ([126], 126, true) := by decide +kernel
    rw [this]; exact oty_196 wo
  have hn : op ≠ 167 ∧ op ≠ 172 ∧ op ≠ 173 ∧ op ≠ 192 ∧ op ≠ 193 ∧ op ≠ 194 ∧ op ≠ 195 ∧ op ≠ 196 := ⟨h167, h172, h173, h192, h193, h194, h195, h196⟩
  have hF : ∀ c w, foldC op = c → foldW op = w → Hid (∀ V, Calls Tryd.prog 17 #[.int .i64 op] V fun e w' => e = .returned (.tuple #[.int .i64 c, .int .u64 (w : Int)]) ∧ V = w') := fun c w h1 h2 => Lib.hid fun V => by rw [← h1, ← h2]; exact fold_any op V
  have hbo := bin_ok op 0 1
  have TV1 : ∀ o, (unVal op 0).2 = true → (if 121 ≤ op ∧ op ≤ 123 ∨ op = 172 ∨ op = 173 ∨ 194 ≤ op then (126 : Int) else 127) = o → typVal op = ([inVal op], o, true) := fun o h ho => by unfold typVal; rw [if_pos h, ho]
  have TV2 : ∀ o, (unVal op 0).2 = false → (binAll op 0 1).2.2 = true → (if 124 ≤ op then (126 : Int) else 127) = o → typVal op = ([inVal op, inVal op], o, true) := fun o h h2 ho => by unfold typVal; rw [h, if_neg (by simp), if_pos h2, ho]
  have TV3 : (unVal op 0).2 = false → ¬ (binAll op 0 1).2.2 = true → typVal op = ([], 0, false) := fun h h2 => by unfold typVal; rw [h, if_neg (by simp), if_neg h2]
  have I1 : (80 ≤ op ∧ op ≤ 90 ∨ 121 ≤ op ∧ op ≤ 138) → inVal op = 126 := fun h => by unfold inVal; rw [if_pos (by omega)]
  have I2 : ¬ (80 ≤ op ∧ op ≤ 90 ∨ 121 ≤ op ∧ op ≤ 138) → inVal op = 127 := fun h => by unfold inVal; rw [if_neg (by omega)]
  by_cases h5 : 80 ≤ op ∧ op ≤ 90
  · obtain ⟨e1, e2⟩ := fold_11 op h5
    rw [e1] at hbo
    by_cases h80 : op = 80
    · rw [TV1 127 (un_true op 0 (by omega)) (by rw [if_neg (by omega)]), I1 (by omega)]
      exact oty_eqz_64 op _ wo hn (by omega) (hF _ _ e1 e2)
    · rw [TV2 127 (un_false op 0 (by omega)) (hbo.2 (by omega)) (by rw [if_neg (by omega)]), I1 (by omega)]
      exact oty_cmp_64 op _ wo hn (by omega) (hF _ _ e1 e2)
  by_cases h6 : 121 ≤ op ∧ op ≤ 138
  · obtain ⟨e1, e2⟩ := fold_18 op h6
    rw [e1] at hbo
    by_cases h123 : op ≤ 123
    · rw [TV1 126 (un_true op 0 (by omega)) (by rw [if_pos (by omega)]), I1 (by omega)]
      exact oty_one_64 op _ wo hn (by omega) (hF _ _ e1 e2)
    · rw [TV2 126 (un_false op 0 (by omega)) (hbo.2 (by omega)) (by rw [if_pos (by omega)]), I1 (by omega)]
      exact oty_two_64 op _ wo hn (by omega) (hF _ _ e1 e2)
  obtain ⟨e1, e2⟩ := fold_plain op h5 h6
  rw [e1] at hbo
  have HF := hF _ _ e1 e2
  by_cases c0 : op < 69
  · rw [TV3 (un_false op 0 (by omega)) (fun h => absurd (hbo.1 h) (by omega))]
    exact oty_none0_32 op _ wo hn c0 HF
  by_cases c1 : op = 69
  · rw [TV1 127 (un_true op 0 (by omega)) (by rw [if_neg (by omega)]), I2 (by omega)]
    exact oty_eqz_32 op _ wo hn c1 HF
  by_cases c2 : op ≤ 79
  · rw [TV2 127 (un_false op 0 (by omega)) (hbo.2 (by omega)) (by rw [if_neg (by omega)]), I2 (by omega)]
    exact oty_cmp_32 op _ wo hn (by omega) HF
  by_cases c3 : op < 103
  · rw [TV3 (un_false op 0 (by omega)) (fun h => absurd (hbo.1 h) (by omega))]
    exact oty_none1_32 op _ wo hn (by omega) HF
  by_cases c4 : op ≤ 105
  · rw [TV1 127 (un_true op 0 (by omega)) (by rw [if_neg (by omega)]), I2 (by omega)]
    exact oty_one_32 op _ wo hn (by omega) HF
  by_cases c5 : op ≤ 120
  · rw [TV2 127 (un_false op 0 (by omega)) (hbo.2 (by omega)) (by rw [if_neg (by omega)]), I2 (by omega)]
    exact oty_two_32 op _ wo hn (by omega) HF
  · rw [TV3 (un_false op 0 (by omega)) (fun h => absurd (hbo.1 h) (by omega))]
    exact oty_none2_32 op _ wo hn (by omega) HF
theorem does : Does Tab where
  keep _ _ h hb := h.below hb
  un op a w _ ha hT := (oun_any op a w ha hT).mono fun _ _ h => ⟨h.1, h.2 ▸ Below.refl _ _⟩
  bin op a b w _ ha hb _ := (obin_any op a b w ha hb).mono fun _ _ h => ⟨h.1, h.2 ▸ Below.refl _ _⟩
  typ op w _ _ := (otypes_any op w).mono fun _ _ h => let ⟨A, h1, h2, h3⟩ := h; ⟨A, _, h1, h2, Nat.le_refl _, h3⟩
end Go.Proofs.YtbgcafkdojoilaaDoor.Num
