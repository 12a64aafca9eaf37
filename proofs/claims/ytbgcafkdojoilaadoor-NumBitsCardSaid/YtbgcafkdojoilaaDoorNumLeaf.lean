/-
  num's own cut, signed, truth, fold: what each comes to. Conditions as each lemma says.
-/
import Derived.Test.YtbgcafkdojoilaaDoorNumSpreadsLaw
import Derived.Test.YtbgcafkdojoilaaDoorNumSign
namespace Go.Proofs.YtbgcafkdojoilaaDoor.Num
open Go.RowKit

theorem ret_i64 {a b : Int} (h : a = b) : Ending.returned (.int .i64 a) = .returned (.int .i64 b) := by rw [h]
theorem ocut_32 (a : Nat) (wo : World) :
    Calls Tryd.prog 18 #[.int .u64 (a : Int), .int .u64 32] wo fun e w' => e = .returned (.int .u64 ((cutN a 32 : Nat) : Int)) ∧ wo = w' := by
  go_enter Tryd.func18, Tryd.ntmps18
  go_wp2
  go_ret
  refine ⟨ret_u64 ?_, rfl⟩
  unfold cutN
  rw [IntKind.wrap_u64]
  omega
theorem ocut_64 (a : Nat) (wo : World) (ha : a < 18446744073709551616) :
    Calls Tryd.prog 18 #[.int .u64 (a : Int), .int .u64 64] wo fun e w' => e = .returned (.int .u64 ((cutN a 64 : Nat) : Int)) ∧ wo = w' := by
  go_enter Tryd.func18, Tryd.ntmps18
  go_wp2
  go_ret
  refine ⟨ret_u64 ?_, rfl⟩
  unfold cutN
  omega
theorem ocut_any (a : Nat) (W : Int) (w : Nat) (hW : Wide W w) (ha : a < 18446744073709551616) (wo : World) :
    Calls Tryd.prog 18 #[.int .u64 (a : Int), .int .u64 W] wo fun e w' => e = .returned (.int .u64 ((cutN a w : Nat) : Int)) ∧ wo = w' := by
  rcases hW with ⟨rfl, rfl⟩ | ⟨rfl, rfl⟩
  · exact ocut_32 a wo
  · exact ocut_64 a wo ha
/-- The lowest 8, 16 bits, signed. -/
def sg8 (a : Nat) : Int := if 128 ≤ a % 256 then ((a % 256 : Nat) : Int) - 256 else ((a % 256 : Nat) : Int)
def sg16 (a : Nat) : Int := if 32768 ≤ a % 65536 then ((a % 65536 : Nat) : Int) - 65536 else ((a % 65536 : Nat) : Int)
theorem osigned_8 (a : Nat) (wo : World) :
    Calls Tryd.prog 37 #[.int .u64 (a : Int), .int .u64 8] wo fun e w' => e = .returned (.int .i64 (sg8 a)) ∧ wo = w' := by
  go_enter Tryd.func37, Tryd.ntmps37
  go_wp2
  go_ret
  exact ⟨ret_i64 (shl_8 a), rfl⟩
theorem osigned_16 (a : Nat) (wo : World) :
    Calls Tryd.prog 37 #[.int .u64 (a : Int), .int .u64 16] wo fun e w' => e = .returned (.int .i64 (sg16 a)) ∧ wo = w' := by
  go_enter Tryd.func37, Tryd.ntmps37
  go_wp2
  go_ret
  exact ⟨ret_i64 (shl_16 a), rfl⟩
theorem osigned_32 (a : Nat) (wo : World) :
    Calls Tryd.prog 37 #[.int .u64 (a : Int), .int .u64 32] wo fun e w' => e = .returned (.int .i64 (sg32 (cutN a 32))) ∧ wo = w' := by
  go_enter Tryd.func37, Tryd.ntmps37
  go_wp2
  go_ret
  exact ⟨ret_i64 (shl_32 a), rfl⟩
theorem osigned_64 (a : Nat) (wo : World) (ha : a < 18446744073709551616) :
    Calls Tryd.prog 37 #[.int .u64 (a : Int), .int .u64 64] wo fun e w' => e = .returned (.int .i64 (sg64 a)) ∧ wo = w' := by
  go_enter Tryd.func37, Tryd.ntmps37
  go_wp2
  go_ret
  refine ⟨ret_i64 ?_, rfl⟩
  unfold sg64
  rw [wrap64_def]
  split <;> omega
/-- A number of w bits, signed. -/
def sgW (a w : Nat) : Int := if w = 32 then sg32 a else sg64 a
theorem osigned_any (a : Nat) (W : Int) (w : Nat) (hW : Wide W w) (ha : a < 2 ^ w) (wo : World) :
    Calls Tryd.prog 37 #[.int .u64 (a : Int), .int .u64 W] wo fun e w' => e = .returned (.int .i64 (sgW a w)) ∧ wo = w' := by
  rcases hW with ⟨rfl, rfl⟩ | ⟨rfl, rfl⟩
  · have := osigned_32 a wo
    rw [cut_is a 32 ha] at this
    exact this
  · exact osigned_64 a wo ha
theorem truth_any (b : Bool) (wo : World) :
    Calls Tryd.prog 19 #[.bool b] wo fun e w' => e = .returned (.int .u64 ((b.toNat : Nat) : Int)) ∧ wo = w' := by
  cases b with
  | true =>
    go_enter Tryd.func19, Tryd.ntmps19
    go_wp2
    go_ret
    exact ⟨rfl, rfl⟩
  | false =>
    go_enter Tryd.func19, Tryd.ntmps19
    go_wp2
    go_ret
    exact ⟨rfl, rfl⟩
/-- An operation's code for 32 bits, and its own number of bits. -/
def foldC (op : Int) : Int := if 80 ≤ op ∧ op ≤ 90 then op - 11 else if 121 ≤ op ∧ op ≤ 138 then op - 18 else op
def foldW (op : Int) : Nat := if 80 ≤ op ∧ op ≤ 90 then 64 else if 121 ≤ op ∧ op ≤ 138 then 64 else 32
def Fold (w : World) (op : Int) (e : Ending) (w' : World) : Prop := e = .returned (.tuple #[.int .i64 (foldC op), .int .u64 (foldW op : Int)]) ∧ w = w'
theorem fold_a (op : Int) (wo : World) (h : op < 80) : Calls Tryd.prog 17 #[.int .i64 op] wo fun e w' => e = .returned (.tuple #[.int .i64 op, .int .u64 32]) ∧ wo = w' := by
  have g80 : ¬ 80 ≤ op := by omega
  have g121 : ¬ 121 ≤ op := by omega
  clear h
  go_enter Tryd.func17, Tryd.ntmps17
  go_wp2
  go_ret2
  exact ⟨rfl, rfl⟩
theorem fold_b (op : Int) (wo : World) (h : 80 ≤ op ∧ op ≤ 90) : Calls Tryd.prog 17 #[.int .i64 op] wo fun e w' => e = .returned (.tuple #[.int .i64 (op - 11), .int .u64 64]) ∧ wo = w' := by
  have g80 : 80 ≤ op := by omega
  have l90 : op ≤ 90 := by omega
  clear h
  go_enter Tryd.func17, Tryd.ntmps17
  go_wp2
  go_ret2
  refine ⟨?_, rfl⟩
  go_num
theorem fold_c (op : Int) (wo : World) (h : 90 < op ∧ op < 121) : Calls Tryd.prog 17 #[.int .i64 op] wo fun e w' => e = .returned (.tuple #[.int .i64 op, .int .u64 32]) ∧ wo = w' := by
  have g80 : 80 ≤ op := by omega
  have l90 : ¬ op ≤ 90 := by omega
  have g121 : ¬ 121 ≤ op := by omega
  clear h
  go_enter Tryd.func17, Tryd.ntmps17
  go_wp2
  go_ret2
  exact ⟨rfl, rfl⟩
theorem fold_d (op : Int) (wo : World) (h : 121 ≤ op ∧ op ≤ 138) : Calls Tryd.prog 17 #[.int .i64 op] wo fun e w' => e = .returned (.tuple #[.int .i64 (op - 18), .int .u64 64]) ∧ wo = w' := by
  have g80 : 80 ≤ op := by omega
  have l90 : ¬ op ≤ 90 := by omega
  have g121 : 121 ≤ op := by omega
  have l138 : op ≤ 138 := by omega
  clear h
  go_enter Tryd.func17, Tryd.ntmps17
  go_wp2
  go_ret2
  refine ⟨?_, rfl⟩
  go_num
theorem fold_e (op : Int) (wo : World) (h : 138 < op) : Calls Tryd.prog 17 #[.int .i64 op] wo fun e w' => e = .returned (.tuple #[.int .i64 op, .int .u64 32]) ∧ wo = w' := by
  have g80 : 80 ≤ op := by omega
  have l90 : ¬ op ≤ 90 := by omega
  have g121 : 121 ≤ op := by omega
  have l138 : ¬ op ≤ 138 := by omega
  clear h
  go_enter Tryd.func17, Tryd.ntmps17
  go_wp2
  go_ret2
  exact ⟨rfl, rfl⟩
theorem fold_any (op : Int) (wo : World) : Calls Tryd.prog 17 #[.int .i64 op] wo (Fold wo op) := by
  unfold Fold foldC foldW
  by_cases h1 : op < 80
  · rw [if_neg (by omega), if_neg (by omega), if_neg (by omega), if_neg (by omega)]; exact fold_a op wo h1
  by_cases h2 : op ≤ 90
  · rw [if_pos (by omega), if_pos (by omega)]; exact fold_b op wo (by omega)
  by_cases h3 : op < 121
  · rw [if_neg (by omega), if_neg (by omega), if_neg (by omega), if_neg (by omega)]; exact fold_c op wo (by omega)
  by_cases h4 : op ≤ 138
  · rw [if_neg (by omega), if_pos (by omega), if_neg (by omega), if_pos (by omega)]; exact fold_d op wo (by omega)
  rw [if_neg (by omega), if_neg (by omega), if_neg (by omega), if_neg (by omega)]; exact fold_e op wo (by omega)
theorem foldW_wide (op : Int) : Wide (foldW op : Int) (foldW op) := by
  unfold foldW Wide
  repeat' split
  all_goals simp
end Go.Proofs.YtbgcafkdojoilaaDoor.Num
