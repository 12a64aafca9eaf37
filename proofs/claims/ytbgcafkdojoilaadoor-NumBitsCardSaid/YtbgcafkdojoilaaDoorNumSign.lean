/-
  Signed numbers: compared, divided and moved down they are what the operations answer. No condition but those that each lemma names; nothing of the program.
-/
import Derived.Test.YtbgcafkdojoilaaDoorNumDivLaw
namespace Go.Proofs.YtbgcafkdojoilaaDoor.Num

theorem top_bit' (a k : Nat) (hk : 1 ≤ k) : bitN a (k - 1) = 1 ↔ 2 ^ (k - 1) ≤ a % 2 ^ k := by
  obtain ⟨m, rfl⟩ : ∃ m, k = m + 1 := ⟨k - 1, by omega⟩
  have e : a % 2 ^ (m + 1) = a % 2 ^ m + bitN a m * 2 ^ m := by
    unfold bitN
    rw [Nat.pow_succ, Nat.mod_mul, Nat.mul_comm (2 ^ m)]
  have h1 : a % 2 ^ m < 2 ^ m := Nat.mod_lt _ (Nat.pow_pos (by omega))
  have h2 := bitN_le a m
  rw [show m + 1 - 1 = m from rfl, e]
  have h3 : bitN a m = 0 ∨ bitN a m = 1 := by omega
  rcases h3 with h3 | h3
  · rw [h3]; simp; omega
  · rw [h3]; simp
/-- A number of 32 bits, signed. -/
def sg32 (a : Nat) : Int := if 2147483648 ≤ a then (a : Int) - 4294967296 else (a : Int)
theorem sg32_range (a : Nat) (h : a < 4294967296) : -2147483648 ≤ sg32 a ∧ sg32 a < 2147483648 := by unfold sg32; split <;> omega
theorem sg32_mod (a : Nat) (h : a < 4294967296) : sg32 a % 4294967296 = (a : Int) := by unfold sg32; split <;> omega
theorem top_xor_32 (a : Nat) (h : a < 4294967296) : a ^^^ 2147483648 = if 2147483648 ≤ a then a - 2147483648 else a + 2147483648 := by
  apply Nat.eq_of_testBit_eq
  intro i
  have ht : (2147483648 : Nat) = 2 ^ 31 := by decide
  rw [Nat.testBit_xor]
  by_cases hc : 2147483648 ≤ a
  · rw [if_pos hc]
    have e : a = 2 ^ 31 * 1 + (a - 2147483648) := by omega
    have hlt : a - 2147483648 < 2 ^ 31 := by omega
    rw [ht]
    conv => lhs; lhs; rw [e]
    rw [Nat.testBit_two_pow_mul_add 1 hlt, Nat.testBit_two_pow, ← ht]
    by_cases hi : i < 31
    · have h5 : ¬ 31 = i := by omega
      rw [if_pos hi]; simp [h5]
    · rw [if_neg hi, Nat.testBit_lt_two_pow (Nat.lt_of_lt_of_le hlt (Nat.pow_le_pow_right (by omega) (by omega)))]
      by_cases hi2 : i = 31
      · subst hi2; simp
      · have : i - 31 = (i - 31 - 1) + 1 := by omega
        have h5 : ¬ 31 = i := by omega
        rw [this]; simp [h5, Nat.testBit_succ]
  · rw [if_neg hc]
    have hlt : a < 2 ^ 31 := by omega
    rw [show a + 2147483648 = 2 ^ 31 * 1 + a from by omega, Nat.testBit_two_pow_mul_add 1 hlt, ht, Nat.testBit_two_pow]
    by_cases hi : i < 31
    · have h5 : ¬ 31 = i := by omega
      rw [if_pos hi]; simp [h5]
    · rw [if_neg hi, Nat.testBit_lt_two_pow (Nat.lt_of_lt_of_le hlt (Nat.pow_le_pow_right (by omega) (by omega)))]
      by_cases hi2 : i = 31
      · subst hi2; simp
      · have : i - 31 = (i - 31 - 1) + 1 := by omega
        have h5 : ¬ 31 = i := by omega
        rw [this]; simp [h5, Nat.testBit_succ]
theorem less_sg32 (a b : Nat) (ha : a < 4294967296) (hb : b < 4294967296) : lessN a b 32 true = decide (sg32 a < sg32 b) := by
  have ht : (2 : Nat) ^ (32 - 1) = 2147483648 := by decide
  unfold lessN
  rw [if_pos rfl, ht, top_xor_32 a ha, top_xor_32 b hb]
  unfold sg32
  rw [Bool.eq_iff_iff, decide_eq_true_iff, decide_eq_true_iff]
  repeat' split
  all_goals omega
theorem abs_sg32 (a : Nat) (ha : a < 4294967296) : absN a 32 < 4294967296 ∧ (2147483648 ≤ a → sg32 a = -(absN a 32 : Int)) ∧ (¬ 2147483648 ≤ a → sg32 a = (absN a 32 : Int)) := by
  have ht : (2 : Nat) ^ (32 - 1) = 2147483648 := by decide
  unfold absN sg32
  rw [ht]
  by_cases h : 2147483648 ≤ a
  · rw [if_pos h, if_pos h, minus_32 a ha (by omega)]
    exact ⟨by omega, fun _ => by omega, fun x => absurd h x⟩
  · rw [if_neg h, if_neg h]
    exact ⟨ha, fun x => absurd x h, fun _ => rfl⟩
theorem abs_le32 (a : Nat) (ha : a < 4294967296) : absN a 32 ≤ 2147483648 ∧ (absN a 32 = 2147483648 → a = 2147483648) ∧ (absN a 32 = 0 → a = 0) := by
  have ht : (2 : Nat) ^ (32 - 1) = 2147483648 := by decide
  unfold absN
  rw [ht]
  by_cases h : 2147483648 ≤ a
  · rw [if_pos h, minus_32 a ha (by omega)]; omega
  · rw [if_neg h]; omega
theorem minus_int_32 (n : Nat) (h : n < 4294967296) : ((minusN n 32 : Nat) : Int) = (-(n : Int)) % 4294967296 := by
  rw [minus_val_32 n h]
  split <;> omega
/-- The signed quotient and rest, where nothing traps. -/
theorem quot_sg32 (a b : Nat) (ha : a < 4294967296) (hb : b < 4294967296) (h0 : b ≠ 0) (hov : ¬ (a = 2147483648 ∧ b = 4294967296 - 1)) :
    (((quotN a b 32 true).1 : Nat) : Int) = ((sg32 a).tdiv (sg32 b)) % 4294967296 ∧ (((quotN a b 32 true).2.1 : Nat) : Int) = ((sg32 a).tmod (sg32 b)) % 4294967296 ∧ (quotN a b 32 true).2.2 = (0, 0) := by
  have ht : (2 : Nat) ^ (32 - 1) = 2147483648 := by decide
  obtain ⟨hA, hA1, hA2⟩ := abs_sg32 a ha
  obtain ⟨hB, hB1, hB2⟩ := abs_sg32 b hb
  have hX : absN a 32 ≤ 2147483648 := (abs_le32 a ha).1
  have hXT : absN a 32 = 2147483648 → a = 2147483648 := (abs_le32 a ha).2.1
  have hY : absN b 32 ≠ 0 := fun h => h0 ((abs_le32 b hb).2.2 h)
  have hY1 : absN b 32 = 1 → 2147483648 ≤ b → b = 4294967296 - 1 := by
    intro h1 h2
    unfold absN at h1
    rw [ht, if_pos h2, minus_32 b hb (by omega)] at h1
    omega
  unfold quotN
  rw [if_neg h0, if_neg (by simp), ht]
  generalize absN a 32 = X at *
  generalize absN b 32 = Y at *
  have hq : X / Y ≤ X := Nat.div_le_self _ _
  have hr : X % Y ≤ X := Nat.mod_le _ _
  have hd : Y * (X / Y) + X % Y = X := Nat.div_add_mod X Y
  have hm : X % Y < Y := Nat.mod_lt _ (by omega)
  by_cases cA : 2147483648 ≤ a
  · by_cases cB : 2147483648 ≤ b
    · have hno : ¬ 2147483648 ≤ X / Y := by
        intro hc
        have h1 : Y = 1 := by
          rcases Nat.lt_or_ge 1 Y with hy | hy
          · have h5 : 2 * (X / Y) ≤ Y * (X / Y) := Nat.mul_le_mul_right _ hy
            omega
          · omega
        exact hov ⟨hXT (by omega), hY1 h1 cB⟩
      rw [if_neg (by simp [cA, cB]), if_neg hno, if_pos cA, hA1 cA, hB1 cB, Int.neg_tdiv, Int.tdiv_neg, Int.neg_neg, Int.neg_tmod, Int.tmod_neg]
      rw [show (X : Int).tdiv (Y : Int) = ((X / Y : Nat) : Int) from (Int.ofNat_tdiv X Y).symm, show (X : Int).tmod (Y : Int) = ((X % Y : Nat) : Int) from (Int.ofNat_tmod X Y).symm]
      refine ⟨?_, minus_int_32 _ (by omega), rfl⟩
      show ((X / Y : Nat) : Int) = _
      generalize X / Y = Q at *
      omega
    · rw [if_pos (by simp [cA, cB]), if_pos cA, hA1 cA, hB2 cB, Int.neg_tdiv, Int.neg_tmod]
      rw [show (X : Int).tdiv (Y : Int) = ((X / Y : Nat) : Int) from (Int.ofNat_tdiv X Y).symm, show (X : Int).tmod (Y : Int) = ((X % Y : Nat) : Int) from (Int.ofNat_tmod X Y).symm]
      exact ⟨minus_int_32 _ (by omega), minus_int_32 _ (by omega), rfl⟩
  · by_cases cB : 2147483648 ≤ b
    · rw [if_pos (by simp [cA, cB]), if_neg cA, hA2 cA, hB1 cB, Int.tdiv_neg, Int.tmod_neg]
      rw [show (X : Int).tdiv (Y : Int) = ((X / Y : Nat) : Int) from (Int.ofNat_tdiv X Y).symm, show (X : Int).tmod (Y : Int) = ((X % Y : Nat) : Int) from (Int.ofNat_tmod X Y).symm]
      refine ⟨minus_int_32 _ (by omega), ?_, rfl⟩
      show ((X % Y : Nat) : Int) = _
      generalize X % Y = R at *
      omega
    · have hno : ¬ 2147483648 ≤ X / Y := by
        intro hc
        have h1 : X = 2147483648 := by omega
        exact absurd (hXT h1) (by omega)
      rw [if_neg (by simp [cA, cB]), if_neg hno, if_neg cA, hA2 cA, hB2 cB]
      rw [show (X : Int).tdiv (Y : Int) = ((X / Y : Nat) : Int) from (Int.ofNat_tdiv X Y).symm, show (X : Int).tmod (Y : Int) = ((X % Y : Nat) : Int) from (Int.ofNat_tmod X Y).symm]
      refine ⟨?_, ?_, rfl⟩
      · show ((X / Y : Nat) : Int) = _
        generalize X / Y = Q at *
        omega
      · show ((X % Y : Nat) : Int) = _
        generalize X % Y = R at *
        omega
theorem quot_over32 : (quotN 2147483648 (4294967296 - 1) 32 true) = (0, 0, 7, 0) := by decide +kernel
/-- Moved down, signed. -/
theorem down_sg32 (a s : Nat) (ha : a < 4294967296) (hs : s < 32) : ((downN a s 32 (bitN a 31) : Nat) : Int) = (sg32 a / 2 ^ s) % 4294967296 := by
  have htop := top_bit' a 32 (by omega)
  rw [show (2 : Nat) ^ (32 - 1) = 2147483648 from by decide, Nat.mod_eq_of_lt ha] at htop
  have hb := bitN_le a 31
  have hp : (0 : Nat) < 2 ^ s := Nat.pow_pos (by omega)
  have hle : a / 2 ^ s ≤ a := Nat.div_le_self _ _
  have hdn : a / 2 ^ s < 2 ^ (32 - s) := by
    rw [Nat.div_lt_iff_lt_mul hp, ← Nat.pow_add, show 32 - s + s = 32 from by omega]
    exact ha
  have hpw : (2 : Nat) ^ (32 - s) ≤ 2 ^ 32 := Nat.pow_le_pow_right (by omega) (by omega)
  have hpp : (0 : Nat) < 2 ^ (32 - s) := Nat.pow_pos (by omega)
  unfold sg32
  by_cases hc : 2147483648 ≤ a
  · rw [if_pos hc, show bitN a 31 = 1 from htop.2 hc, down1_is a s 32 ha (by omega)]
    have e : ((a : Int) - 4294967296) / 2 ^ s = (a : Int) / 2 ^ s - ((2 ^ (32 - s) : Nat) : Int) := by
      have e2 : (4294967296 : Int) = 2 ^ s * ((2 ^ (32 - s) : Nat) : Int) := by
        have : (4294967296 : Nat) = 2 ^ s * 2 ^ (32 - s) := by rw [← Nat.pow_add, show s + (32 - s) = 32 from by omega]
        have h2 := congrArg (fun x : Nat => (x : Int)) this
        simpa using h2
      rw [e2, Int.sub_eq_add_neg, ← Int.mul_neg, Int.add_mul_ediv_left _ _ (by exact_mod_cast Nat.pos_iff_ne_zero.1 hp)]
      omega
    rw [e]
    have e3 : (a : Int) / 2 ^ s = ((a / 2 ^ s : Nat) : Int) := by simp
    rw [e3]
    generalize a / 2 ^ s = D at *
    generalize (2 : Nat) ^ (32 - s) = P at *
    omega
  · have hb0 : bitN a 31 = 0 := by
      have : ¬ bitN a 31 = 1 := fun x => hc (htop.1 x)
      omega
    rw [if_neg hc, hb0, down_is a s 32 ha]
    have e3 : (a : Int) / 2 ^ s = ((a / 2 ^ s : Nat) : Int) := by simp
    rw [e3]
    generalize a / 2 ^ s = D at *
    omega
/-- A number of 64 bits, signed. -/
def sg64 (a : Nat) : Int := if 9223372036854775808 ≤ a then (a : Int) - 18446744073709551616 else (a : Int)
theorem sg64_range (a : Nat) (h : a < 18446744073709551616) : -9223372036854775808 ≤ sg64 a ∧ sg64 a < 9223372036854775808 := by unfold sg64; split <;> omega
theorem sg64_mod (a : Nat) (h : a < 18446744073709551616) : sg64 a % 18446744073709551616 = (a : Int) := by unfold sg64; split <;> omega
theorem top_xor_64 (a : Nat) (h : a < 18446744073709551616) : a ^^^ 9223372036854775808 = if 9223372036854775808 ≤ a then a - 9223372036854775808 else a + 9223372036854775808 := by
  apply Nat.eq_of_testBit_eq
  intro i
  have ht : (9223372036854775808 : Nat) = 2 ^ 63 := by decide
  rw [Nat.testBit_xor]
  by_cases hc : 9223372036854775808 ≤ a
  · rw [if_pos hc]
    have e : a = 2 ^ 63 * 1 + (a - 9223372036854775808) := by omega
    have hlt : a - 9223372036854775808 < 2 ^ 63 := by omega
    rw [ht]
    conv => lhs; lhs; rw [e]
    rw [Nat.testBit_two_pow_mul_add 1 hlt, Nat.testBit_two_pow, ← ht]
    by_cases hi : i < 63
    · have h5 : ¬ 63 = i := by omega
      rw [if_pos hi]; simp [h5]
    · rw [if_neg hi, Nat.testBit_lt_two_pow (Nat.lt_of_lt_of_le hlt (Nat.pow_le_pow_right (by omega) (by omega)))]
      by_cases hi2 : i = 63
      · subst hi2; simp
      · have : i - 63 = (i - 63 - 1) + 1 := by omega
        have h5 : ¬ 63 = i := by omega
        rw [this]; simp [h5, Nat.testBit_succ]
  · rw [if_neg hc]
    have hlt : a < 2 ^ 63 := by omega
    rw [show a + 9223372036854775808 = 2 ^ 63 * 1 + a from by omega, Nat.testBit_two_pow_mul_add 1 hlt, ht, Nat.testBit_two_pow]
    by_cases hi : i < 63
    · have h5 : ¬ 63 = i := by omega
      rw [if_pos hi]; simp [h5]
    · rw [if_neg hi, Nat.testBit_lt_two_pow (Nat.lt_of_lt_of_le hlt (Nat.pow_le_pow_right (by omega) (by omega)))]
      by_cases hi2 : i = 63
      · subst hi2; simp
      · have : i - 63 = (i - 63 - 1) + 1 := by omega
        have h5 : ¬ 63 = i := by omega
        rw [this]; simp [h5, Nat.testBit_succ]
theorem less_sg64 (a b : Nat) (ha : a < 18446744073709551616) (hb : b < 18446744073709551616) : lessN a b 64 true = decide (sg64 a < sg64 b) := by
  have ht : (2 : Nat) ^ (64 - 1) = 9223372036854775808 := by decide
  unfold lessN
  rw [if_pos rfl, ht, top_xor_64 a ha, top_xor_64 b hb]
  unfold sg64
  rw [Bool.eq_iff_iff, decide_eq_true_iff, decide_eq_true_iff]
  repeat' split
  all_goals omega
theorem abs_sg64 (a : Nat) (ha : a < 18446744073709551616) : absN a 64 < 18446744073709551616 ∧ (9223372036854775808 ≤ a → sg64 a = -(absN a 64 : Int)) ∧ (¬ 9223372036854775808 ≤ a → sg64 a = (absN a 64 : Int)) := by
  have ht : (2 : Nat) ^ (64 - 1) = 9223372036854775808 := by decide
  unfold absN sg64
  rw [ht]
  by_cases h : 9223372036854775808 ≤ a
  · rw [if_pos h, if_pos h, minus_64 a ha (by omega)]
    exact ⟨by omega, fun _ => by omega, fun x => absurd h x⟩
  · rw [if_neg h, if_neg h]
    exact ⟨ha, fun x => absurd x h, fun _ => rfl⟩
theorem abs_le64 (a : Nat) (ha : a < 18446744073709551616) : absN a 64 ≤ 9223372036854775808 ∧ (absN a 64 = 9223372036854775808 → a = 9223372036854775808) ∧ (absN a 64 = 0 → a = 0) := by
  have ht : (2 : Nat) ^ (64 - 1) = 9223372036854775808 := by decide
  unfold absN
  rw [ht]
  by_cases h : 9223372036854775808 ≤ a
  · rw [if_pos h, minus_64 a ha (by omega)]; omega
  · rw [if_neg h]; omega
theorem minus_int_64 (n : Nat) (h : n < 18446744073709551616) : ((minusN n 64 : Nat) : Int) = (-(n : Int)) % 18446744073709551616 := by
  rw [minus_val_64 n h]
  split <;> omega
/-- The signed quotient and rest, where nothing traps. -/
theorem quot_sg64 (a b : Nat) (ha : a < 18446744073709551616) (hb : b < 18446744073709551616) (h0 : b ≠ 0) (hov : ¬ (a = 9223372036854775808 ∧ b = 18446744073709551616 - 1)) :
    (((quotN a b 64 true).1 : Nat) : Int) = ((sg64 a).tdiv (sg64 b)) % 18446744073709551616 ∧ (((quotN a b 64 true).2.1 : Nat) : Int) = ((sg64 a).tmod (sg64 b)) % 18446744073709551616 ∧ (quotN a b 64 true).2.2 = (0, 0) := by
  have ht : (2 : Nat) ^ (64 - 1) = 9223372036854775808 := by decide
  obtain ⟨hA, hA1, hA2⟩ := abs_sg64 a ha
  obtain ⟨hB, hB1, hB2⟩ := abs_sg64 b hb
  have hX : absN a 64 ≤ 9223372036854775808 := (abs_le64 a ha).1
  have hXT : absN a 64 = 9223372036854775808 → a = 9223372036854775808 := (abs_le64 a ha).2.1
  have hY : absN b 64 ≠ 0 := fun h => h0 ((abs_le64 b hb).2.2 h)
  have hY1 : absN b 64 = 1 → 9223372036854775808 ≤ b → b = 18446744073709551616 - 1 := by
    intro h1 h2
    unfold absN at h1
    rw [ht, if_pos h2, minus_64 b hb (by omega)] at h1
    omega
  unfold quotN
  rw [if_neg h0, if_neg (by simp), ht]
  generalize absN a 64 = X at *
  generalize absN b 64 = Y at *
  have hq : X / Y ≤ X := Nat.div_le_self _ _
  have hr : X % Y ≤ X := Nat.mod_le _ _
  have hd : Y * (X / Y) + X % Y = X := Nat.div_add_mod X Y
  have hm : X % Y < Y := Nat.mod_lt _ (by omega)
  by_cases cA : 9223372036854775808 ≤ a
  · by_cases cB : 9223372036854775808 ≤ b
    · have hno : ¬ 9223372036854775808 ≤ X / Y := by
        intro hc
        have h1 : Y = 1 := by
          rcases Nat.lt_or_ge 1 Y with hy | hy
          · have h5 : 2 * (X / Y) ≤ Y * (X / Y) := Nat.mul_le_mul_right _ hy
            omega
          · omega
        exact hov ⟨hXT (by omega), hY1 h1 cB⟩
      rw [if_neg (by simp [cA, cB]), if_neg hno, if_pos cA, hA1 cA, hB1 cB, Int.neg_tdiv, Int.tdiv_neg, Int.neg_neg, Int.neg_tmod, Int.tmod_neg]
      rw [show (X : Int).tdiv (Y : Int) = ((X / Y : Nat) : Int) from (Int.ofNat_tdiv X Y).symm, show (X : Int).tmod (Y : Int) = ((X % Y : Nat) : Int) from (Int.ofNat_tmod X Y).symm]
      refine ⟨?_, minus_int_64 _ (by omega), rfl⟩
      show ((X / Y : Nat) : Int) = _
      generalize X / Y = Q at *
      omega
    · rw [if_pos (by simp [cA, cB]), if_pos cA, hA1 cA, hB2 cB, Int.neg_tdiv, Int.neg_tmod]
      rw [show (X : Int).tdiv (Y : Int) = ((X / Y : Nat) : Int) from (Int.ofNat_tdiv X Y).symm, show (X : Int).tmod (Y : Int) = ((X % Y : Nat) : Int) from (Int.ofNat_tmod X Y).symm]
      exact ⟨minus_int_64 _ (by omega), minus_int_64 _ (by omega), rfl⟩
  · by_cases cB : 9223372036854775808 ≤ b
    · rw [if_pos (by simp [cA, cB]), if_neg cA, hA2 cA, hB1 cB, Int.tdiv_neg, Int.tmod_neg]
      rw [show (X : Int).tdiv (Y : Int) = ((X / Y : Nat) : Int) from (Int.ofNat_tdiv X Y).symm, show (X : Int).tmod (Y : Int) = ((X % Y : Nat) : Int) from (Int.ofNat_tmod X Y).symm]
      refine ⟨minus_int_64 _ (by omega), ?_, rfl⟩
      show ((X % Y : Nat) : Int) = _
      generalize X % Y = R at *
      omega
    · have hno : ¬ 9223372036854775808 ≤ X / Y := by
        intro hc
        have h1 : X = 9223372036854775808 := by omega
        exact absurd (hXT h1) (by omega)
      rw [if_neg (by simp [cA, cB]), if_neg hno, if_neg cA, hA2 cA, hB2 cB]
      rw [show (X : Int).tdiv (Y : Int) = ((X / Y : Nat) : Int) from (Int.ofNat_tdiv X Y).symm, show (X : Int).tmod (Y : Int) = ((X % Y : Nat) : Int) from (Int.ofNat_tmod X Y).symm]
      refine ⟨?_, ?_, rfl⟩
      · show ((X / Y : Nat) : Int) = _
        generalize X / Y = Q at *
        omega
      · show ((X % Y : Nat) : Int) = _
        generalize X % Y = R at *
        omega
theorem quot_over64 : (quotN 9223372036854775808 (18446744073709551616 - 1) 64 true) = (0, 0, 7, 0) := by decide +kernel
/-- Moved down, signed. -/
theorem down_sg64 (a s : Nat) (ha : a < 18446744073709551616) (hs : s < 64) : ((downN a s 64 (bitN a 63) : Nat) : Int) = (sg64 a / 2 ^ s) % 18446744073709551616 := by
  have htop := top_bit' a 64 (by omega)
  rw [show (2 : Nat) ^ (64 - 1) = 9223372036854775808 from by decide, Nat.mod_eq_of_lt ha] at htop
  have hb := bitN_le a 63
  have hp : (0 : Nat) < 2 ^ s := Nat.pow_pos (by omega)
  have hle : a / 2 ^ s ≤ a := Nat.div_le_self _ _
  have hdn : a / 2 ^ s < 2 ^ (64 - s) := by
    rw [Nat.div_lt_iff_lt_mul hp, ← Nat.pow_add, show 64 - s + s = 64 from by omega]
    exact ha
  have hpw : (2 : Nat) ^ (64 - s) ≤ 2 ^ 64 := Nat.pow_le_pow_right (by omega) (by omega)
  have hpp : (0 : Nat) < 2 ^ (64 - s) := Nat.pow_pos (by omega)
  unfold sg64
  by_cases hc : 9223372036854775808 ≤ a
  · rw [if_pos hc, show bitN a 63 = 1 from htop.2 hc, down1_is a s 64 ha (by omega)]
    have e : ((a : Int) - 18446744073709551616) / 2 ^ s = (a : Int) / 2 ^ s - ((2 ^ (64 - s) : Nat) : Int) := by
      have e2 : (18446744073709551616 : Int) = 2 ^ s * ((2 ^ (64 - s) : Nat) : Int) := by
        have : (18446744073709551616 : Nat) = 2 ^ s * 2 ^ (64 - s) := by rw [← Nat.pow_add, show s + (64 - s) = 64 from by omega]
        have h2 := congrArg (fun x : Nat => (x : Int)) this
        simpa using h2
      rw [e2, Int.sub_eq_add_neg, ← Int.mul_neg, Int.add_mul_ediv_left _ _ (by exact_mod_cast Nat.pos_iff_ne_zero.1 hp)]
      omega
    rw [e]
    have e3 : (a : Int) / 2 ^ s = ((a / 2 ^ s : Nat) : Int) := by simp
    rw [e3]
    generalize a / 2 ^ s = D at *
    generalize (2 : Nat) ^ (64 - s) = P at *
    omega
  · have hb0 : bitN a 63 = 0 := by
      have : ¬ bitN a 63 = 1 := fun x => hc (htop.1 x)
      omega
    rw [if_neg hc, hb0, down_is a s 64 ha]
    have e3 : (a : Int) / 2 ^ s = ((a / 2 ^ s : Nat) : Int) := by simp
    rw [e3]
    generalize a / 2 ^ s = D at *
    omega
end Go.Proofs.YtbgcafkdojoilaaDoor.Num
