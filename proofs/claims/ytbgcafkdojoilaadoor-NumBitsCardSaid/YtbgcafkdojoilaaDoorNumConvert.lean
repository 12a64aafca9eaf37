/-
  num's own convert: what it comes to, for every code. Condition: the number is of 64 bits.
-/
import Derived.Test.YtbgcafkdojoilaaDoorNumLeaf
namespace Go.Proofs.YtbgcafkdojoilaaDoor.Num
open Go.RowKit

theorem sg8_64 (a : Nat) : IntKind.u64.wrap (sg8 a) = ((spreadN a 8 64 : Nat) : Int) := by
  rw [spr_8_64, IntKind.wrap_u64]; unfold sg8; split <;> omega
theorem sg16_64 (a : Nat) : IntKind.u64.wrap (sg16 a) = ((spreadN a 16 64 : Nat) : Int) := by
  rw [spr_16_64, IntKind.wrap_u64]; unfold sg16; split <;> omega
theorem sg32_64 (a : Nat) : IntKind.u64.wrap (sg32 (cutN a 32)) = ((spreadN a 32 64 : Nat) : Int) := by
  have h : cutN a 32 = a % 4294967296 := rfl
  rw [spr_32_64, IntKind.wrap_u64, h]; unfold sg32; split <;> omega
theorem cut_spr8 (a : Nat) : cutN (spreadN a 8 64) 32 = spreadN a 8 32 := by
  rw [spr_8_64, spr_8_32]; unfold cutN; split <;> omega
theorem cut_spr16 (a : Nat) : cutN (spreadN a 16 64) 32 = spreadN a 16 32 := by
  rw [spr_16_64, spr_16_32]; unfold cutN; split <;> omega
/-- What the operations that change what a number stands on answer. -/
def cvt (op : Int) (a : Nat) : Nat × Bool :=
  if op = 167 ∨ op = 173 then (cutN a 32, true)
  else if op = 172 ∨ op = 196 then (spreadN a 32 64, true)
  else if op = 192 then (spreadN a 8 32, true)
  else if op = 193 then (spreadN a 16 32, true)
  else if op = 194 then (spreadN a 8 64, true)
  else if op = 195 then (spreadN a 16 64, true)
  else (0, false)
set_option maxRecDepth 100000 in
theorem cv_167 (a : Nat) (wo : World) :
    Calls Tryd.prog 16 #[.int .i64 167, .int .u64 (a : Int)] wo (Is2 wo (cutN a 32) true) := by
  go_enter Tryd.func16, Tryd.ntmps16
  go_wp2_with fail
  refine (ocut_32 a _).mono ?_
  rintro e w' ⟨rfl, rfl⟩
  go_wp2
  go_ret2
  exact ⟨rfl, rfl⟩
set_option maxRecDepth 100000 in
theorem cv_173 (a : Nat) (wo : World) :
    Calls Tryd.prog 16 #[.int .i64 173, .int .u64 (a : Int)] wo (Is2 wo (cutN a 32) true) := by
  go_enter Tryd.func16, Tryd.ntmps16
  go_wp2_with fail
  refine (ocut_32 a _).mono ?_
  rintro e w' ⟨rfl, rfl⟩
  go_wp2
  go_ret2
  exact ⟨rfl, rfl⟩
set_option maxRecDepth 100000 in
theorem cv_172 (a : Nat) (wo : World) :
    Calls Tryd.prog 16 #[.int .i64 172, .int .u64 (a : Int)] wo (Is2 wo (spreadN a 32 64) true) := by
  have HS := Lib.hid (fun W => osigned_32 a W)
  have hE := sg32_64 a
  generalize sg32 (cutN a 32) = x at *
  generalize spreadN a 32 64 = s at *
  go_enter Tryd.func16, Tryd.ntmps16
  go_wp2_with fail
  refine (HS.out _).mono ?_
  rintro e w' ⟨rfl, rfl⟩
  go_wp2
  go_ret2
  exact ⟨rfl, rfl⟩
set_option maxRecDepth 100000 in
theorem cv_196 (a : Nat) (wo : World) :
    Calls Tryd.prog 16 #[.int .i64 196, .int .u64 (a : Int)] wo (Is2 wo (spreadN a 32 64) true) := by
  have HS := Lib.hid (fun W => osigned_32 a W)
  have hE := sg32_64 a
  generalize sg32 (cutN a 32) = x at *
  generalize spreadN a 32 64 = s at *
  go_enter Tryd.func16, Tryd.ntmps16
  go_wp2_with fail
  refine (HS.out _).mono ?_
  rintro e w' ⟨rfl, rfl⟩
  go_wp2
  go_ret2
  exact ⟨rfl, rfl⟩
set_option maxRecDepth 100000 in
theorem cv_194 (a : Nat) (wo : World) :
    Calls Tryd.prog 16 #[.int .i64 194, .int .u64 (a : Int)] wo (Is2 wo (spreadN a 8 64) true) := by
  have HS := Lib.hid (fun W => osigned_8 a W)
  have hE := sg8_64 a
  generalize sg8 a = x at *
  generalize spreadN a 8 64 = s at *
  go_enter Tryd.func16, Tryd.ntmps16
  go_wp2_with fail
  refine (HS.out _).mono ?_
  rintro e w' ⟨rfl, rfl⟩
  go_wp2
  go_ret2
  exact ⟨rfl, rfl⟩
set_option maxRecDepth 100000 in
theorem cv_195 (a : Nat) (wo : World) :
    Calls Tryd.prog 16 #[.int .i64 195, .int .u64 (a : Int)] wo (Is2 wo (spreadN a 16 64) true) := by
  have HS := Lib.hid (fun W => osigned_16 a W)
  have hE := sg16_64 a
  generalize sg16 a = x at *
  generalize spreadN a 16 64 = s at *
  go_enter Tryd.func16, Tryd.ntmps16
  go_wp2_with fail
  refine (HS.out _).mono ?_
  rintro e w' ⟨rfl, rfl⟩
  go_wp2
  go_ret2
  exact ⟨rfl, rfl⟩
set_option maxRecDepth 100000 in
theorem cv_192 (a : Nat) (wo : World) :
    Calls Tryd.prog 16 #[.int .i64 192, .int .u64 (a : Int)] wo (Is2 wo (spreadN a 8 32) true) := by
  have HS := Lib.hid (fun W => osigned_8 a W)
  have hE := sg8_64 a
  have HC := Lib.hid (fun W => ocut_32 (spreadN a 8 64) W)
  rw [cut_spr8] at HC
  generalize sg8 a = x at *
  generalize spreadN a 8 64 = s at *
  generalize spreadN a 8 32 = t at *
  go_enter Tryd.func16, Tryd.ntmps16
  go_wp2_with fail
  refine (HS.out _).mono ?_
  rintro e w' ⟨rfl, rfl⟩
  go_wp2_with fail
  refine (HC.out _).mono ?_
  rintro e w' ⟨rfl, rfl⟩
  go_wp2
  go_ret2
  exact ⟨rfl, rfl⟩
set_option maxRecDepth 100000 in
theorem cv_193 (a : Nat) (wo : World) :
    Calls Tryd.prog 16 #[.int .i64 193, .int .u64 (a : Int)] wo (Is2 wo (spreadN a 16 32) true) := by
  have HS := Lib.hid (fun W => osigned_16 a W)
  have hE := sg16_64 a
  have HC := Lib.hid (fun W => ocut_32 (spreadN a 16 64) W)
  rw [cut_spr16] at HC
  generalize sg16 a = x at *
  generalize spreadN a 16 64 = s at *
  generalize spreadN a 16 32 = t at *
  go_enter Tryd.func16, Tryd.ntmps16
  go_wp2_with fail
  refine (HS.out _).mono ?_
  rintro e w' ⟨rfl, rfl⟩
  go_wp2_with fail
  refine (HC.out _).mono ?_
  rintro e w' ⟨rfl, rfl⟩
  go_wp2
  go_ret2
  exact ⟨rfl, rfl⟩
set_option maxRecDepth 100000 in
theorem cv_none (op : Int) (a : Nat) (wo : World) (h : op ≠ 167 ∧ op ≠ 173 ∧ op ≠ 172 ∧ op ≠ 196 ∧ op ≠ 192 ∧ op ≠ 193 ∧ op ≠ 194 ∧ op ≠ 195) :
    Calls Tryd.prog 16 #[.int .i64 op, .int .u64 (a : Int)] wo (Is2 wo 0 false) := by
  have t167 : (op == 167) = false := by simp; omega
  have t173 : (op == 173) = false := by simp; omega
  have t172 : (op == 172) = false := by simp; omega
  have t196 : (op == 196) = false := by simp; omega
  have t192 : (op == 192) = false := by simp; omega
  have t193 : (op == 193) = false := by simp; omega
  have t194 : (op == 194) = false := by simp; omega
  have t195 : (op == 195) = false := by simp; omega
  clear h
  go_enter Tryd.func16, Tryd.ntmps16
  go_wp2
  go_ret2
  exact ⟨rfl, rfl⟩
theorem cvt_any (op : Int) (a : Nat) (wo : World) :
    Calls Tryd.prog 16 #[.int .i64 op, .int .u64 (a : Int)] wo (Is2 wo (cvt op a).1 (cvt op a).2) := by
  by_cases h167 : op = 167
  · subst h167; exact cv_167 a wo
  by_cases h173 : op = 173
  · subst h173; exact cv_173 a wo
  by_cases h172 : op = 172
  · subst h172; exact cv_172 a wo
  by_cases h196 : op = 196
  · subst h196; exact cv_196 a wo
  by_cases h192 : op = 192
  · subst h192; exact cv_192 a wo
  by_cases h193 : op = 193
  · subst h193; exact cv_193 a wo
  by_cases h194 : op = 194
  · subst h194; exact cv_194 a wo
  by_cases h195 : op = 195
  · subst h195; exact cv_195 a wo
  have hv : cvt op a = (0, false) := by
    unfold cvt
    rw [if_neg (by omega), if_neg (by omega), if_neg h192, if_neg h193, if_neg h194, if_neg h195]
  rw [hv]
  exact cv_none op a wo ⟨h167, h173, h172, h196, h192, h193, h194, h195⟩
end Go.Proofs.YtbgcafkdojoilaaDoor.Num
