/-
  trammelref03's Un, for every code. Condition: the number is of 64 bits.
-/
import Derived.Test.YtbgcafkdojoilaaDoorNumUn
namespace Go.Proofs.YtbgcafkdojoilaaDoor.Num
open Go.RowKit

/-- A code that is none of the operations of one number. -/
def NotUn (op : Int) : Prop := op ≠ 69 ∧ op ≠ 80 ∧ op ≠ 103 ∧ op ≠ 121 ∧ op ≠ 104 ∧ op ≠ 122 ∧ op ≠ 105 ∧ op ≠ 123 ∧ op ≠ 167 ∧ op ≠ 173 ∧ op ≠ 172 ∧ op ≠ 196 ∧ op ≠ 192 ∧ op ≠ 193 ∧ op ≠ 194 ∧ op ≠ 195
theorem un_none_low (op : Int) (a : Nat) (wo : World) (ha : a < 18446744073709551616) (ho : NotUn op) (h : ¬ 121 ≤ op) :
    Calls Tryd.prog 11 #[.int .i64 op, .int .u64 (a : Int)] wo (Is2 wo 0 false) := by
  unfold NotUn at ho
  have HC := Lib.hid (fun W => cut_any a 32 32 wide32 ha W)
  have t69 : (op == 69) = false := by simp; omega
  have t80 : (op == 80) = false := by simp; omega
  have t103 : (op == 103) = false := by simp; omega
  have t121 : (op == 121) = false := by simp; omega
  have t104 : (op == 104) = false := by simp; omega
  have t122 : (op == 122) = false := by simp; omega
  have t105 : (op == 105) = false := by simp; omega
  have t123 : (op == 123) = false := by simp; omega
  have t167 : (op == 167) = false := by simp; omega
  have t173 : (op == 173) = false := by simp; omega
  have t172 : (op == 172) = false := by simp; omega
  have t196 : (op == 196) = false := by simp; omega
  have t192 : (op == 192) = false := by simp; omega
  have t193 : (op == 193) = false := by simp; omega
  have t194 : (op == 194) = false := by simp; omega
  have t195 : (op == 195) = false := by simp; omega
  clear ha ho
  generalize cutN a 32 = c at *
  go_enter Tryd.func11, Tryd.ntmps11
  go_wp2_with fail
  refine (HC.out _).mono ?_
  rintro e w' ⟨rfl, rfl⟩
  go_wp2
  go_ret2
  exact ⟨rfl, rfl⟩
theorem un_none_high (op : Int) (a : Nat) (wo : World) (ha : a < 18446744073709551616) (ho : NotUn op) (h : 121 ≤ op) :
    Calls Tryd.prog 11 #[.int .i64 op, .int .u64 (a : Int)] wo (Is2 wo 0 false) := by
  unfold NotUn at ho
  have HC := Lib.hid (fun W => cut_any a 32 32 wide32 ha W)
  have h2 : ¬ op ≤ 123 := by omega
  have t69 : (op == 69) = false := by simp; omega
  have t80 : (op == 80) = false := by simp; omega
  have t103 : (op == 103) = false := by simp; omega
  have t121 : (op == 121) = false := by simp; omega
  have t104 : (op == 104) = false := by simp; omega
  have t122 : (op == 122) = false := by simp; omega
  have t105 : (op == 105) = false := by simp; omega
  have t123 : (op == 123) = false := by simp; omega
  have t167 : (op == 167) = false := by simp; omega
  have t173 : (op == 173) = false := by simp; omega
  have t172 : (op == 172) = false := by simp; omega
  have t196 : (op == 196) = false := by simp; omega
  have t192 : (op == 192) = false := by simp; omega
  have t193 : (op == 193) = false := by simp; omega
  have t194 : (op == 194) = false := by simp; omega
  have t195 : (op == 195) = false := by simp; omega
  clear ha ho
  generalize cutN a 32 = c at *
  go_enter Tryd.func11, Tryd.ntmps11
  go_wp2_with fail
  refine (HC.out _).mono ?_
  rintro e w' ⟨rfl, rfl⟩
  go_wp2
  go_ret2
  exact ⟨rfl, rfl⟩
theorem run_any (op : Int) (a : Nat) (wo : World) (ha : a < 18446744073709551616) :
    Calls Tryd.prog 11 #[.int .i64 op, .int .u64 (a : Int)] wo (Is2 wo (unVal op a).1 (unVal op a).2) := by
  by_cases h69 : op = 69
  · subst h69; exact un_69 a wo ha
  by_cases h80 : op = 80
  · subst h80; exact un_80 a wo ha
  by_cases h103 : op = 103
  · subst h103; exact un_103 a wo ha
  by_cases h121 : op = 121
  · subst h121; exact un_121 a wo ha
  by_cases h104 : op = 104
  · subst h104; exact un_104 a wo ha
  by_cases h122 : op = 122
  · subst h122; exact un_122 a wo ha
  by_cases h105 : op = 105
  · subst h105; exact un_105 a wo ha
  by_cases h123 : op = 123
  · subst h123; exact un_123 a wo ha
  by_cases h167 : op = 167
  · subst h167; exact un_167 a wo ha
  by_cases h173 : op = 173
  · subst h173; exact un_173 a wo ha
  by_cases h172 : op = 172
  · subst h172; exact un_172 a wo ha
  by_cases h196 : op = 196
  · subst h196; exact un_196 a wo ha
  by_cases h192 : op = 192
  · subst h192; exact un_192 a wo ha
  by_cases h193 : op = 193
  · subst h193; exact un_193 a wo ha
  by_cases h194 : op = 194
  · subst h194; exact un_194 a wo ha
  by_cases h195 : op = 195
  · subst h195; exact un_195 a wo ha
  have hn : NotUn op := ⟨h69, h80, h103, h121, h104, h122, h105, h123, h167, h173, h172, h196, h192, h193, h194, h195⟩
  have hv : unVal op a = (0, false) := by
    unfold unVal
    rw [if_neg h69, if_neg h80, if_neg h103, if_neg h121, if_neg h104, if_neg h122, if_neg h105, if_neg h123, if_neg (by omega), if_neg (by omega), if_neg h192, if_neg h193, if_neg h194, if_neg h195]
  rw [hv]
  by_cases h : 121 ≤ op
  · exact un_none_high op a wo ha hn h
  · exact un_none_low op a wo ha hn h
end Go.Proofs.YtbgcafkdojoilaaDoor.Num
