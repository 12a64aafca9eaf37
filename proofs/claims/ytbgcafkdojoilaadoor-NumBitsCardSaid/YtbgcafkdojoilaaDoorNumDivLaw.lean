/-
  Plain laws of division: the quotient times the divisor, and what is left, are the dividend; where it traps. No condition but those that each lemma names; nothing of the program.
-/
import Derived.Test.YtbgcafkdojoilaaDoorNumWide
namespace Go.Proofs.YtbgcafkdojoilaaDoor.Num

theorem minus_w_lt_32 (n : Nat) : minusN n 32 < 4294967296 := cut_lt _ 32
theorem minus_val_32 (n : Nat) (h : n < 4294967296) : minusN n 32 = if n = 0 then 0 else 4294967296 - n := by
  by_cases h0 : n = 0
  · rw [if_pos h0, h0]; rfl
  · rw [if_neg h0, minus_32 n h (by omega)]
theorem key_32 (N A : Nat) (K : Int) (h : (N : Int) = A + 4294967296 * K) (hA : A < 4294967296) : N % 4294967296 = A := by omega
theorem quot3_32 (A B : Nat) (s : Bool) (hA : A < 4294967296) (hB : B < 4294967296) :
    ((quotN A B 32 s).2.2.1 = 6 ∧ (quotN A B 32 s).2.2.2 = 6) ∨ ((quotN A B 32 s).2.2.1 = 7 ∧ (quotN A B 32 s).2.2.2 = 0 ∧ (quotN A B 32 s).2.1 = 0) ∨
    ((quotN A B 32 s).2.2.1 = 0 ∧ (quotN A B 32 s).2.2.2 = 0 ∧ (quotN A B 32 s).1 < 4294967296 ∧ (quotN A B 32 s).2.1 < 4294967296 ∧ ((quotN A B 32 s).1 * B + (quotN A B 32 s).2.1) % 4294967296 = A ∧ (s = false → (quotN A B 32 s).2.1 < B)) := by
  have ht : (2 : Nat) ^ (32 - 1) = 2147483648 := by decide
  unfold quotN absN
  rw [ht]
  by_cases hb0 : B = 0
  · rw [if_pos hb0]; exact .inl ⟨rfl, rfl⟩
  rw [if_neg hb0]
  cases s with
  | false =>
    rw [if_pos rfl]
    have h1 : A / B ≤ A := Nat.div_le_self _ _
    have h2 : A % B < B := Nat.mod_lt _ (by omega)
    have h3 : B * (A / B) + A % B = A := Nat.div_add_mod A B
    refine .inr (.inr ⟨rfl, rfl, ?_, ?_, ?_, fun _ => h2⟩)
    · show A / B < 4294967296; omega
    · show A % B < 4294967296; omega
    · show (A / B * B + A % B) % 4294967296 = A
      rw [Nat.mul_comm, h3, Nat.mod_eq_of_lt hA]
  | true =>
    rw [if_neg (by simp)]
    by_cases cA : 2147483648 ≤ A
    · by_cases cB : 2147483648 ≤ B
      · rw [if_neg (by simp [cA, cB]), if_pos cA, if_pos cB, if_pos cA, minus_32 A hA (by omega), minus_32 B hB (by omega)]
        obtain ⟨X, hX⟩ : ∃ X, 4294967296 - A = X := ⟨_, rfl⟩
        obtain ⟨Y, hY⟩ : ∃ Y, 4294967296 - B = Y := ⟨_, rfl⟩
        rw [hX, hY]
        have h2 : X % Y < Y := Nat.mod_lt _ (by omega)
        have h3 : Y * (X / Y) + X % Y = X := Nat.div_add_mod X Y
        have hq1 : X / Y ≤ X := Nat.div_le_self _ _
        generalize X / Y = Q at *
        generalize X % Y = R at *
        by_cases cO : 2147483648 ≤ Q
        · rw [if_pos cO]
          have hY1 : Y = 1 := by
            rcases Nat.lt_or_ge 1 Y with hy | hy
            · have h5 : 2 * Q ≤ Y * Q := Nat.mul_le_mul_right Q hy
              omega
            · omega
          subst hY1
          have hR : R = 0 := by omega
          refine .inr (.inl ⟨rfl, rfl, ?_⟩)
          rw [hR]; rfl
        · rw [if_neg cO]
          refine .inr (.inr ⟨rfl, rfl, (show Q < 4294967296 from by omega), minus_w_lt_32 R, ?_, fun h => by cases h⟩)
          show (Q * B + minusN R 32) % 4294967296 = A
          rw [minus_val_32 R (by omega)]
          have hB2 : B = 4294967296 - Y := by omega
          have e : ((Q * B : Nat) : Int) = 4294967296 * Q - (Y * Q : Nat) := by rw [hB2, Int.natCast_mul, Int.natCast_mul, Int.ofNat_sub (by omega), Int.mul_sub, Int.mul_comm (Q : Int) (Y : Int)]; omega
          generalize Y * Q = P at *
          generalize Q * B = PB at *
          by_cases hR : R = 0
          · rw [if_pos hR]; exact key_32 _ A ((Q : Int) - 1) (by omega) hA
          · rw [if_neg hR]; exact key_32 _ A (Q : Int) (by omega) hA
      · rw [if_pos (by simp [cA, cB]), if_pos cA, if_neg cB, if_pos cA, minus_32 A hA (by omega)]
        obtain ⟨X, hX⟩ : ∃ X, 4294967296 - A = X := ⟨_, rfl⟩
        rw [hX]
        have h2 : X % B < B := Nat.mod_lt _ (by omega)
        have h3 : B * (X / B) + X % B = X := Nat.div_add_mod X B
        have hq1 : X / B ≤ X := Nat.div_le_self _ _
        generalize X / B = Q at *
        generalize X % B = R at *
        refine .inr (.inr ⟨rfl, rfl, minus_w_lt_32 Q, minus_w_lt_32 R, ?_, fun h => by cases h⟩)
        show (minusN Q 32 * B + minusN R 32) % 4294967296 = A
        rw [minus_val_32 R (by omega), minus_val_32 Q (by omega)]
        by_cases hQ : Q = 0
        · rw [if_pos hQ, Nat.zero_mul]
          subst hQ
          rw [Nat.mul_zero] at h3
          rw [if_neg (by omega)]
          exact key_32 _ A 0 (by omega) hA
        · rw [if_neg hQ]
          have e : (((4294967296 - Q) * B : Nat) : Int) = 4294967296 * B - (B * Q : Nat) := by rw [Int.natCast_mul, Int.natCast_mul, Int.ofNat_sub (by omega), Int.sub_mul, Int.mul_comm (Q : Int) (B : Int)]; omega
          generalize B * Q = P at *
          generalize (4294967296 - Q) * B = PB at *
          by_cases hR : R = 0
          · rw [if_pos hR]; exact key_32 _ A ((B : Int) - 1) (by omega) hA
          · rw [if_neg hR]; exact key_32 _ A (B : Int) (by omega) hA
    · by_cases cB : 2147483648 ≤ B
      · rw [if_pos (by simp [cA, cB]), if_neg cA, if_pos cB, if_neg cA, minus_32 B hB (by omega)]
        obtain ⟨Y, hY⟩ : ∃ Y, 4294967296 - B = Y := ⟨_, rfl⟩
        rw [hY]
        have h2 : A % Y < Y := Nat.mod_lt _ (by omega)
        have h3 : Y * (A / Y) + A % Y = A := Nat.div_add_mod A Y
        have hq1 : A / Y ≤ A := Nat.div_le_self _ _
        generalize A / Y = Q at *
        generalize A % Y = R at *
        refine .inr (.inr ⟨rfl, rfl, minus_w_lt_32 Q, (show R < 4294967296 from by omega), ?_, fun h => by cases h⟩)
        show (minusN Q 32 * B + R) % 4294967296 = A
        rw [minus_val_32 Q (by omega)]
        by_cases hQ : Q = 0
        · rw [if_pos hQ, Nat.zero_mul]
          subst hQ
          rw [Nat.mul_zero] at h3
          exact key_32 _ A 0 (by omega) hA
        · rw [if_neg hQ]
          have hB2 : B = 4294967296 - Y := by omega
          have e : (((4294967296 - Q) * B : Nat) : Int) = 4294967296 * 4294967296 - 4294967296 * Y - 4294967296 * Q + (Y * Q : Nat) := by
            rw [hB2, Int.natCast_mul, Int.natCast_mul, Int.ofNat_sub (by omega), Int.ofNat_sub (by omega), Int.sub_mul, Int.mul_sub, Int.mul_sub, Int.mul_comm (Q : Int) (Y : Int)]
            omega
          generalize Y * Q = P at *
          generalize (4294967296 - Q) * B = PB at *
          exact key_32 _ A (4294967296 - (Y : Int) - (Q : Int)) (by omega) hA
      · rw [if_neg (by simp [cA, cB]), if_neg cA, if_neg cB, if_neg cA]
        have h2 : A % B < B := Nat.mod_lt _ (by omega)
        have h3 : B * (A / B) + A % B = A := Nat.div_add_mod A B
        have hq1 : A / B ≤ A := Nat.div_le_self _ _
        rw [if_neg (by omega)]
        refine .inr (.inr ⟨rfl, rfl, ?_, ?_, ?_, fun h => by cases h⟩)
        · show A / B < 4294967296; omega
        · show A % B < 4294967296; omega
        · show (A / B * B + A % B) % 4294967296 = A
          rw [Nat.mul_comm, h3, Nat.mod_eq_of_lt hA]
theorem minus_w_lt_64 (n : Nat) : minusN n 64 < 18446744073709551616 := cut_lt _ 64
theorem minus_val_64 (n : Nat) (h : n < 18446744073709551616) : minusN n 64 = if n = 0 then 0 else 18446744073709551616 - n := by
  by_cases h0 : n = 0
  · rw [if_pos h0, h0]; rfl
  · rw [if_neg h0, minus_64 n h (by omega)]
theorem key_64 (N A : Nat) (K : Int) (h : (N : Int) = A + 18446744073709551616 * K) (hA : A < 18446744073709551616) : N % 18446744073709551616 = A := by omega
theorem quot3_64 (A B : Nat) (s : Bool) (hA : A < 18446744073709551616) (hB : B < 18446744073709551616) :
    ((quotN A B 64 s).2.2.1 = 6 ∧ (quotN A B 64 s).2.2.2 = 6) ∨ ((quotN A B 64 s).2.2.1 = 7 ∧ (quotN A B 64 s).2.2.2 = 0 ∧ (quotN A B 64 s).2.1 = 0) ∨
    ((quotN A B 64 s).2.2.1 = 0 ∧ (quotN A B 64 s).2.2.2 = 0 ∧ (quotN A B 64 s).1 < 18446744073709551616 ∧ (quotN A B 64 s).2.1 < 18446744073709551616 ∧ ((quotN A B 64 s).1 * B + (quotN A B 64 s).2.1) % 18446744073709551616 = A ∧ (s = false → (quotN A B 64 s).2.1 < B)) := by
  have ht : (2 : Nat) ^ (64 - 1) = 9223372036854775808 := by decide
  unfold quotN absN
  rw [ht]
  by_cases hb0 : B = 0
  · rw [if_pos hb0]; exact .inl ⟨rfl, rfl⟩
  rw [if_neg hb0]
  cases s with
  | false =>
    rw [if_pos rfl]
    have h1 : A / B ≤ A := Nat.div_le_self _ _
    have h2 : A % B < B := Nat.mod_lt _ (by omega)
    have h3 : B * (A / B) + A % B = A := Nat.div_add_mod A B
    refine .inr (.inr ⟨rfl, rfl, ?_, ?_, ?_, fun _ => h2⟩)
    · show A / B < 18446744073709551616; omega
    · show A % B < 18446744073709551616; omega
    · show (A / B * B + A % B) % 18446744073709551616 = A
      rw [Nat.mul_comm, h3, Nat.mod_eq_of_lt hA]
  | true =>
    rw [if_neg (by simp)]
    by_cases cA : 9223372036854775808 ≤ A
    · by_cases cB : 9223372036854775808 ≤ B
      · rw [if_neg (by simp [cA, cB]), if_pos cA, if_pos cB, if_pos cA, minus_64 A hA (by omega), minus_64 B hB (by omega)]
        obtain ⟨X, hX⟩ : ∃ X, 18446744073709551616 - A = X := ⟨_, rfl⟩
        obtain ⟨Y, hY⟩ : ∃ Y, 18446744073709551616 - B = Y := ⟨_, rfl⟩
        rw [hX, hY]
        have h2 : X % Y < Y := Nat.mod_lt _ (by omega)
        have h3 : Y * (X / Y) + X % Y = X := Nat.div_add_mod X Y
        have hq1 : X / Y ≤ X := Nat.div_le_self _ _
        generalize X / Y = Q at *
        generalize X % Y = R at *
        by_cases cO : 9223372036854775808 ≤ Q
        · rw [if_pos cO]
          have hY1 : Y = 1 := by
            rcases Nat.lt_or_ge 1 Y with hy | hy
            · have h5 : 2 * Q ≤ Y * Q := Nat.mul_le_mul_right Q hy
              omega
            · omega
          subst hY1
          have hR : R = 0 := by omega
          refine .inr (.inl ⟨rfl, rfl, ?_⟩)
          rw [hR]; rfl
        · rw [if_neg cO]
          refine .inr (.inr ⟨rfl, rfl, (show Q < 18446744073709551616 from by omega), minus_w_lt_64 R, ?_, fun h => by cases h⟩)
          show (Q * B + minusN R 64) % 18446744073709551616 = A
          rw [minus_val_64 R (by omega)]
          have hB2 : B = 18446744073709551616 - Y := by omega
          have e : ((Q * B : Nat) : Int) = 18446744073709551616 * Q - (Y * Q : Nat) := by rw [hB2, Int.natCast_mul, Int.natCast_mul, Int.ofNat_sub (by omega), Int.mul_sub, Int.mul_comm (Q : Int) (Y : Int)]; omega
          generalize Y * Q = P at *
          generalize Q * B = PB at *
          by_cases hR : R = 0
          · rw [if_pos hR]; exact key_64 _ A ((Q : Int) - 1) (by omega) hA
          · rw [if_neg hR]; exact key_64 _ A (Q : Int) (by omega) hA
      · rw [if_pos (by simp [cA, cB]), if_pos cA, if_neg cB, if_pos cA, minus_64 A hA (by omega)]
        obtain ⟨X, hX⟩ : ∃ X, 18446744073709551616 - A = X := ⟨_, rfl⟩
        rw [hX]
        have h2 : X % B < B := Nat.mod_lt _ (by omega)
        have h3 : B * (X / B) + X % B = X := Nat.div_add_mod X B
        have hq1 : X / B ≤ X := Nat.div_le_self _ _
        generalize X / B = Q at *
        generalize X % B = R at *
        refine .inr (.inr ⟨rfl, rfl, minus_w_lt_64 Q, minus_w_lt_64 R, ?_, fun h => by cases h⟩)
        show (minusN Q 64 * B + minusN R 64) % 18446744073709551616 = A
        rw [minus_val_64 R (by omega), minus_val_64 Q (by omega)]
        by_cases hQ : Q = 0
        · rw [if_pos hQ, Nat.zero_mul]
          subst hQ
          rw [Nat.mul_zero] at h3
          rw [if_neg (by omega)]
          exact key_64 _ A 0 (by omega) hA
        · rw [if_neg hQ]
          have e : (((18446744073709551616 - Q) * B : Nat) : Int) = 18446744073709551616 * B - (B * Q : Nat) := by rw [Int.natCast_mul, Int.natCast_mul, Int.ofNat_sub (by omega), Int.sub_mul, Int.mul_comm (Q : Int) (B : Int)]; omega
          generalize B * Q = P at *
          generalize (18446744073709551616 - Q) * B = PB at *
          by_cases hR : R = 0
          · rw [if_pos hR]; exact key_64 _ A ((B : Int) - 1) (by omega) hA
          · rw [if_neg hR]; exact key_64 _ A (B : Int) (by omega) hA
    · by_cases cB : 9223372036854775808 ≤ B
      · rw [if_pos (by simp [cA, cB]), if_neg cA, if_pos cB, if_neg cA, minus_64 B hB (by omega)]
        obtain ⟨Y, hY⟩ : ∃ Y, 18446744073709551616 - B = Y := ⟨_, rfl⟩
        rw [hY]
        have h2 : A % Y < Y := Nat.mod_lt _ (by omega)
        have h3 : Y * (A / Y) + A % Y = A := Nat.div_add_mod A Y
        have hq1 : A / Y ≤ A := Nat.div_le_self _ _
        generalize A / Y = Q at *
        generalize A % Y = R at *
        refine .inr (.inr ⟨rfl, rfl, minus_w_lt_64 Q, (show R < 18446744073709551616 from by omega), ?_, fun h => by cases h⟩)
        show (minusN Q 64 * B + R) % 18446744073709551616 = A
        rw [minus_val_64 Q (by omega)]
        by_cases hQ : Q = 0
        · rw [if_pos hQ, Nat.zero_mul]
          subst hQ
          rw [Nat.mul_zero] at h3
          exact key_64 _ A 0 (by omega) hA
        · rw [if_neg hQ]
          have hB2 : B = 18446744073709551616 - Y := by omega
          have e : (((18446744073709551616 - Q) * B : Nat) : Int) = 18446744073709551616 * 18446744073709551616 - 18446744073709551616 * Y - 18446744073709551616 * Q + (Y * Q : Nat) := by
            rw [hB2, Int.natCast_mul, Int.natCast_mul, Int.ofNat_sub (by omega), Int.ofNat_sub (by omega), Int.sub_mul, Int.mul_sub, Int.mul_sub, Int.mul_comm (Q : Int) (Y : Int)]
            omega
          generalize Y * Q = P at *
          generalize (18446744073709551616 - Q) * B = PB at *
          exact key_64 _ A (18446744073709551616 - (Y : Int) - (Q : Int)) (by omega) hA
      · rw [if_neg (by simp [cA, cB]), if_neg cA, if_neg cB, if_neg cA]
        have h2 : A % B < B := Nat.mod_lt _ (by omega)
        have h3 : B * (A / B) + A % B = A := Nat.div_add_mod A B
        have hq1 : A / B ≤ A := Nat.div_le_self _ _
        rw [if_neg (by omega)]
        refine .inr (.inr ⟨rfl, rfl, ?_, ?_, ?_, fun h => by cases h⟩)
        · show A / B < 18446744073709551616; omega
        · show A % B < 18446744073709551616; omega
        · show (A / B * B + A % B) % 18446744073709551616 = A
          rw [Nat.mul_comm, h3, Nat.mod_eq_of_lt hA]
end Go.Proofs.YtbgcafkdojoilaaDoor.Num
