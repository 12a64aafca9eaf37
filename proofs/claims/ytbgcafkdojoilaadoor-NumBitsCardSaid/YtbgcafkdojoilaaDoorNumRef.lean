/-
  trammelref03's bit, cut, one, less, minus: what each comes to. Conditions as each lemma says.
-/
import Derived.Test.YtbgcafkdojoilaaDoorNumMath
import Derived.Test.YtbgcafkdojoilaaDoorProg
import Derived.Lib.Hide
import Derived.WalkMore
import Derived.Laws.BitsAllLaws
namespace Go.Proofs.YtbgcafkdojoilaaDoor.Num
open Go.RowKit

theorem ret_u64 {a b : Int} (h : a = b) : Ending.returned (.int .u64 a) = .returned (.int .u64 b) := by rw [h]
theorem ret_bool {a b : Bool} (h : a = b) : Ending.returned (.bool a) = .returned (.bool b) := by rw [h]
theorem bitN_int (a i : Nat) : ((a : Int) / 2 ^ i).tmod 2 = ((bitN a i : Nat) : Int) := by
  have e : (a : Int) / 2 ^ i = ((a / 2 ^ i : Nat) : Int) := by simp
  unfold bitN
  rw [e]
  generalize a / 2 ^ i = n
  rw [Int.tmod_eq_emod_of_nonneg (by omega)]
  omega
theorem bit_any (a i : Nat) (w : World) (hi : i < 64) :
    Calls Tryd.prog 25 #[.int .u64 (a : Int), .int .i64 (i : Int)] w fun e w' => e = .returned (.int .u64 ((bitN a i : Nat) : Int)) ∧ w = w' := by
  go_enter Tryd.func25, Tryd.ntmps25
  go_wp2
  go_ret
  exact ⟨ret_u64 (bitN_int a i), rfl⟩
/-- A number of bits: 32 or 64. -/
def Wide (W : Int) (w : Nat) : Prop := (W = 32 ∧ w = 32) ∨ (W = 64 ∧ w = 64)
theorem cut_any (a : Nat) (W : Int) (w : Nat) (hW : Wide W w) (ha : a < 18446744073709551616) (wo : World) :
    Calls Tryd.prog 23 #[.int .u64 (a : Int), .int .i64 W] wo fun e w' => e = .returned (.int .u64 ((cutN a w : Nat) : Int)) ∧ wo = w' := by
  rcases hW with ⟨rfl, rfl⟩ | ⟨rfl, rfl⟩
  · go_enter Tryd.func23, Tryd.ntmps23
    go_wp2
    go_ret
    exact ⟨ret_u64 (by unfold cutN; omega), rfl⟩
  · go_enter Tryd.func23, Tryd.ntmps23
    go_wp2
    go_ret
    exact ⟨ret_u64 (by unfold cutN; omega), rfl⟩
theorem one_any (b : Bool) (wo : World) :
    Calls Tryd.prog 24 #[.bool b] wo fun e w' => e = .returned (.int .u64 ((b.toNat : Nat) : Int)) ∧ wo = w' := by
  cases b with
  | true =>
    go_enter Tryd.func24, Tryd.ntmps24
    go_wp2
    go_ret
    exact ⟨rfl, rfl⟩
  | false =>
    go_enter Tryd.func24, Tryd.ntmps24
    go_wp2
    go_ret
    exact ⟨rfl, rfl⟩
/-- The opposite on w bits. -/
def minusN (a w : Nat) : Nat := cutN ((18446744073709551616 - a) % 18446744073709551616) w
theorem minus_any (a : Nat) (W : Int) (w : Nat) (hW : Wide W w) (ha : a < 18446744073709551616) (wo : World) :
    Calls Tryd.prog 31 #[.int .u64 (a : Int), .int .i64 W] wo fun e w' => e = .returned (.int .u64 ((minusN a w : Nat) : Int)) ∧ wo = w' := by
  go_enter Tryd.func31, Tryd.ntmps31
  go_wp2_with fail
  have e : IntKind.u64.wrap (-(a : Int)) = (((18446744073709551616 - a) % 18446744073709551616 : Nat) : Int) := by rw [IntKind.wrap_u64]; omega
  rw [e]
  refine (cut_any _ W w hW (by omega) wo).mono ?_
  rintro e w' ⟨rfl, rfl⟩
  go_wp2
  go_ret
  exact ⟨rfl, rfl⟩
/-- Is a below b? Signed, the highest bit counts the other way. -/
def lessN (a b w : Nat) (signed : Bool) : Bool := if signed then decide (a ^^^ 2 ^ (w - 1) < b ^^^ 2 ^ (w - 1)) else decide (a < b)
theorem less_any (a b : Nat) (W : Int) (w : Nat) (s : Bool) (hW : Wide W w) (ha : a < 18446744073709551616) (hb : b < 18446744073709551616) (wo : World) :
    Calls Tryd.prog 30 #[.int .u64 (a : Int), .int .u64 (b : Int), .int .i64 W, .bool s] wo fun e w' => e = .returned (.bool (lessN a b w s)) ∧ wo = w' := by
  cases s with
  | false =>
    go_enter Tryd.func30, Tryd.ntmps30
    go_wp2
    go_ret
    exact ⟨rfl, rfl⟩
  | true =>
    rcases hW with ⟨rfl, rfl⟩ | ⟨rfl, rfl⟩
    · go_enter Tryd.func30, Tryd.ntmps30
      go_wp2
      go_ret
      refine ⟨ret_bool ?_, rfl⟩
      rw [show (2147483648 : Int) = ((2147483648 : Nat) : Int) from rfl, u64_xor_nat a _ ha (by omega), u64_xor_nat b _ hb (by omega)]
      simp [lessN]
    · go_enter Tryd.func30, Tryd.ntmps30
      go_wp2
      go_ret
      refine ⟨ret_bool ?_, rfl⟩
      rw [show (9223372036854775808 : Int) = ((9223372036854775808 : Nat) : Int) from rfl, u64_xor_nat a _ ha (by omega), u64_xor_nat b _ hb (by omega)]
      simp [lessN]
end Go.Proofs.YtbgcafkdojoilaaDoor.Num
