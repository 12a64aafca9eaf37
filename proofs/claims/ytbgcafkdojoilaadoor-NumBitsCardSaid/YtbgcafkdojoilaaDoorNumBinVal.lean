/-
  trammelref03's quotient for every sign; what the operations of two numbers answer. Conditions as each lemma says.
-/
import Derived.Test.YtbgcafkdojoilaaDoorNumQuot
namespace Go.Proofs.YtbgcafkdojoilaaDoor.Num
open Go.RowKit

/-- How great a signed number is. -/
def absN (a w : Nat) : Nat := if 2 ^ (w - 1) ≤ a then minusN a w else a
/-- Quotient, rest, and the trap of each. -/
def quotN (a b w : Nat) (s : Bool) : Nat × Nat × Nat × Nat :=
  if b = 0 then (0, 0, 6, 6)
  else if s = false then (a / b, a % b, 0, 0)
  else if decide (2 ^ (w - 1) ≤ a) ≠ decide (2 ^ (w - 1) ≤ b) then
    (minusN (absN a w / absN b w) w, if 2 ^ (w - 1) ≤ a then minusN (absN a w % absN b w) w else absN a w % absN b w, 0, 0)
  else if 2 ^ (w - 1) ≤ absN a w / absN b w then (0, if 2 ^ (w - 1) ≤ a then minusN (absN a w % absN b w) w else absN a w % absN b w, 7, 0)
  else (absN a w / absN b w, if 2 ^ (w - 1) ≤ a then minusN (absN a w % absN b w) w else absN a w % absN b w, 0, 0)
def Quots (w : World) (r : Nat × Nat × Nat × Nat) : Ending → World → Prop := Quot4 w r.1 r.2.1 r.2.2.1 r.2.2.2
theorem quot_any_32 (a b : Nat) (s : Bool) (wo : World) (ha : a < 4294967296) (hb : b < 4294967296) :
    Calls Tryd.prog 32 #[.int .u64 (a : Int), .int .u64 (b : Int), .int .i64 32, .bool s] wo (Quots wo (quotN a b 32 s)) := by
  have ht : (2 : Nat) ^ (32 - 1) = 2147483648 := by decide
  unfold quotN absN
  rw [ht]
  by_cases hb0 : b = 0
  · subst hb0
    rw [if_pos rfl]
    exact quot_zero a 32 s wo
  rw [if_neg hb0]
  cases s with
  | false =>
    rw [if_pos rfl]
    exact quot_uns_32 a b _ _ wo (by omega) (by omega) (by omega) rfl rfl
  | true =>
    rw [if_neg (by simp)]
    by_cases hA : 2147483648 ≤ a
    · by_cases hB : 2147483648 ≤ b
      · rw [if_neg (by simp [hA, hB]), if_pos hA, if_pos hB, if_pos hA]
        by_cases hO : 2147483648 ≤ minusN a 32 / minusN b 32
        · rw [if_pos hO]
          exact quot_nno_32 a b _ _ wo ha hb (by omega) (by omega) (by omega) (by omega) rfl rfl
        · rw [if_neg hO]
          exact quot_nnf_32 a b _ _ wo ha hb (by omega) (by omega) (by omega) (by omega) rfl rfl
      · rw [if_pos (by simp [hA, hB]), if_pos hA, if_neg hB, if_pos hA]
        exact quot_np_32 a b _ _ wo ha hb (by omega) (by omega) (by omega) rfl rfl
    · by_cases hB : 2147483648 ≤ b
      · rw [if_pos (by simp [hA, hB]), if_neg hA, if_pos hB, if_neg hA]
        exact quot_pn_32 a b _ _ wo ha hb (by omega) (by omega) (by omega) rfl rfl
      · rw [if_neg (by simp [hA, hB]), if_neg hA, if_neg hB, if_neg hA]
        by_cases hO : 2147483648 ≤ a / b
        · rw [if_pos hO]
          exact quot_ppo_32 a b _ _ wo ha hb (by omega) (by omega) (by omega) (by omega) rfl rfl
        · rw [if_neg hO]
          exact quot_ppf_32 a b _ _ wo ha hb (by omega) (by omega) (by omega) (by omega) rfl rfl
theorem quot_any_64 (a b : Nat) (s : Bool) (wo : World) (ha : a < 18446744073709551616) (hb : b < 18446744073709551616) :
    Calls Tryd.prog 32 #[.int .u64 (a : Int), .int .u64 (b : Int), .int .i64 64, .bool s] wo (Quots wo (quotN a b 64 s)) := by
  have ht : (2 : Nat) ^ (64 - 1) = 9223372036854775808 := by decide
  unfold quotN absN
  rw [ht]
  by_cases hb0 : b = 0
  · subst hb0
    rw [if_pos rfl]
    exact quot_zero a 64 s wo
  rw [if_neg hb0]
  cases s with
  | false =>
    rw [if_pos rfl]
    exact quot_uns_64 a b _ _ wo (by omega) (by omega) (by omega) rfl rfl
  | true =>
    rw [if_neg (by simp)]
    by_cases hA : 9223372036854775808 ≤ a
    · by_cases hB : 9223372036854775808 ≤ b
      · rw [if_neg (by simp [hA, hB]), if_pos hA, if_pos hB, if_pos hA]
        by_cases hO : 9223372036854775808 ≤ minusN a 64 / minusN b 64
        · rw [if_pos hO]
          exact quot_nno_64 a b _ _ wo ha hb (by omega) (by omega) (by omega) (by omega) rfl rfl
        · rw [if_neg hO]
          exact quot_nnf_64 a b _ _ wo ha hb (by omega) (by omega) (by omega) (by omega) rfl rfl
      · rw [if_pos (by simp [hA, hB]), if_pos hA, if_neg hB, if_pos hA]
        exact quot_np_64 a b _ _ wo ha hb (by omega) (by omega) (by omega) rfl rfl
    · by_cases hB : 9223372036854775808 ≤ b
      · rw [if_pos (by simp [hA, hB]), if_neg hA, if_pos hB, if_neg hA]
        exact quot_pn_64 a b _ _ wo ha hb (by omega) (by omega) (by omega) rfl rfl
      · rw [if_neg (by simp [hA, hB]), if_neg hA, if_neg hB, if_neg hA]
        by_cases hO : 9223372036854775808 ≤ a / b
        · rw [if_pos hO]
          exact quot_ppo_64 a b _ _ wo ha hb (by omega) (by omega) (by omega) (by omega) rfl rfl
        · rw [if_neg hO]
          exact quot_ppf_64 a b _ _ wo ha hb (by omega) (by omega) (by omega) (by omega) rfl rfl
/-- What operation k of two numbers of w bits answers, and its trap. -/
def binVal (k w a b : Nat) : Nat × Nat :=
  match k with
  | 0 => ((decide (a = b)).toNat, 0)
  | 1 => ((!decide (a = b)).toNat, 0)
  | 2 => ((lessN a b w true).toNat, 0)
  | 3 => ((lessN a b w false).toNat, 0)
  | 4 => ((lessN b a w true).toNat, 0)
  | 5 => ((lessN b a w false).toNat, 0)
  | 6 => ((!lessN b a w true).toNat, 0)
  | 7 => ((!lessN b a w false).toNat, 0)
  | 8 => ((!lessN a b w true).toNat, 0)
  | 9 => ((!lessN a b w false).toNat, 0)
  | 10 => (cutN (a + b) w, 0)
  | 11 => (cutN (a + minusN b w) w, 0)
  | 12 => (cutN (a * b) w, 0)
  | 13 => ((quotN a b w true).1, (quotN a b w true).2.2.1)
  | 14 => ((quotN a b w false).1, (quotN a b w false).2.2.1)
  | 15 => ((quotN a b w true).2.1, (quotN a b w true).2.2.2)
  | 16 => ((quotN a b w false).2.1, (quotN a b w false).2.2.2)
  | 17 => (eachN a b 0, 0)
  | 18 => (eachN a b 1, 0)
  | 19 => (eachN a b 2, 0)
  | 20 => (upN a (b % w) w, 0)
  | 21 => (downN a (b % w) w (bitN a (w - 1)), 0)
  | 22 => (downN a (b % w) w 0, 0)
  | 23 => (turnN a (b % w) w, 0)
  | _ => (turnN a (w - b % w) w, 0)
def Is3 (w : World) (v t : Nat) (ok : Bool) (e : Ending) (w' : World) : Prop := e = .returned (.tuple #[.int .u64 (v : Int), .int .i64 (t : Int), .bool ok]) ∧ w = w'
theorem cut_is (a w : Nat) (h : a < 2 ^ w) : cutN a w = a := Nat.mod_eq_of_lt h
theorem cut_lt (a w : Nat) : cutN a w < 2 ^ w := Nat.mod_lt _ (Nat.pow_pos (by omega))
theorem cut_cut (n w : Nat) (h : w ≤ 64) : cutN (n % 18446744073709551616) w = cutN n w := by
  unfold cutN
  exact Nat.mod_mod_of_dvd n (Nat.pow_dvd_pow 2 (show w ≤ 64 from h))
end Go.Proofs.YtbgcafkdojoilaaDoor.Num
