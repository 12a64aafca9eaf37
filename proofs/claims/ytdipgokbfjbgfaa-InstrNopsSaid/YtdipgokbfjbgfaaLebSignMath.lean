/-
  Plain arithmetic of the sign: what the reference's bits come to, signed, is what leb.S's extend comes to; its test of the bits beyond is leb.S's. Conditions as each lemma says; nothing of the program runs.
-/
import Derived.Test.YtdipgokbfjbgfaaLebRefMath
import Derived.Test.YtdipgokbfjbgfaaLebBackMath
namespace Go.Proofs.Ytdipgokbfjbgfaa.Leb
open Go.RowKit

theorem bitAt_test (V i : Nat) : bitAt V i = V.testBit i := by
  unfold bitAt
  rw [Nat.testBit_eq_decide_div_mod_eq, Bool.eq_iff_iff]
  simp
theorem bitAt_ones (m j : Nat) (h : j < m) : bitAt (2 ^ m - 1) j = true := by
  rw [bitAt_test, Nat.testBit_two_pow_sub_one]
  simpa using h
theorem bitAt_zero (V k i : Nat) (h : V < 2 ^ k) (hi : k ≤ i) : bitAt V i = false := by
  have h2 : (2 : Nat) ^ k ≤ 2 ^ i := Nat.pow_le_pow_right (by omega) hi
  unfold bitAt
  rw [Nat.div_eq_of_lt (by omega)]
  rfl
theorem bitAt_cut (V k i : Nat) (h : i < k) : bitAt (V % 2 ^ k) i = bitAt V i := by
  have h1 := bitAt_low (V % 2 ^ k) (V / 2 ^ k) k i h
  rw [Nat.mul_comm, Nat.mod_add_div] at h1
  exact h1.symm
/-- The number of k bits, its highest one the sign. -/
def sgn (V k : Nat) : Int := if bitAt V (k - 1) = true then (V : Int) - 2 ^ k else (V : Int)
/-- .. as 64 bits. -/
def two (V k : Nat) : Nat := (sgn V k % 18446744073709551616).toNat
theorem two_bit (V k i : Nat) (hk : 1 ≤ k) (hV : V < 2 ^ k) (hi : i < 64) : bitAt (two V k) i = if i < k then bitAt V i else bitAt V (k - 1) := by
  have h64 : (18446744073709551616 : Nat) = 2 ^ 64 := rfl
  unfold two sgn
  by_cases hs : bitAt V (k - 1) = true
  · rw [if_pos hs]
    by_cases hk64 : 64 ≤ k
    · have e : (((V : Int) - 2 ^ k) % 18446744073709551616).toNat = V % 2 ^ 64 := by
        have e1 : (2 : Int) ^ k = 18446744073709551616 * 2 ^ (k - 64) := by
          rw [show (18446744073709551616 : Int) = 2 ^ 64 from rfl, ← Int.pow_add]; congr 1; omega
        rw [e1, Int.sub_eq_add_neg, ← Int.mul_neg, Int.add_mul_emod_self_left, ← h64]
        omega
      rw [e, bitAt_cut V 64 i hi, if_pos (by omega)]
    · have hp : (2 : Nat) ^ k ≤ 2 ^ 63 := Nat.pow_le_pow_right (by omega) (by omega)
      have e2 : (2 : Nat) ^ 64 = 2 ^ (64 - k) * 2 ^ k := by rw [← Nat.pow_add]; congr 1; omega
      have hc : ((2 ^ k : Nat) : Int) = (2 : Int) ^ k := by simp
      have e : (((V : Int) - 2 ^ k) % 18446744073709551616).toNat = V + (2 ^ (64 - k) - 1) * 2 ^ k := by
        rw [Nat.sub_mul, ← e2, ← hc, Nat.one_mul]
        have : ((V : Int) - ((2 ^ k : Nat) : Int)) % 18446744073709551616 = (V : Int) - ((2 ^ k : Nat) : Int) + 18446744073709551616 := by
          generalize 2 ^ k = P at *
          omega
        rw [this]
        generalize 2 ^ k = P at *
        omega
      rw [e]
      by_cases hik : i < k
      · rw [if_pos hik, bitAt_low _ _ _ _ hik]
      · rw [if_neg hik, hs, show i = k + (i - k) from by omega, bitAt_high _ _ _ _ hV, bitAt_ones _ _ (by omega)]
  · rw [if_neg hs]
    have e : ((V : Int) % 18446744073709551616).toNat = V % 2 ^ 64 := by rw [← h64]; omega
    rw [e, bitAt_cut V 64 i hi]
    by_cases hik : i < k
    · rw [if_pos hik]
    · rw [if_neg hik, bitAt_zero V k i hV (by omega)]
      simpa using hs
theorem wrap64_more (x k : Int) : wrap64 (x + 18446744073709551616 * k) = wrap64 x := by
  simp only [wrap64_def]
  rw [show x + 18446744073709551616 * k + 9223372036854775808 = (x + 9223372036854775808) + 18446744073709551616 * k from by omega, Int.add_mul_emod_self_left]
theorem wrap64_is (x : Int) : ∃ k, wrap64 x = x + 18446744073709551616 * k := by
  refine ⟨-((x + 9223372036854775808) / 18446744073709551616), ?_⟩
  rw [wrap64_def]
  have := Int.emod_add_mul_ediv (x + 9223372036854775808) 18446744073709551616
  omega
theorem wrap64_twice (x : Int) : wrap64 (wrap64 x * 2) = wrap64 (x * 2) := by
  obtain ⟨k, hk⟩ := wrap64_is x
  rw [hk, show (x + 18446744073709551616 * k) * 2 = x * 2 + 18446744073709551616 * (k * 2) from by omega, wrap64_more]
theorem wrap64_mul (x y : Int) : wrap64 (wrap64 x * 2 + y) = wrap64 (x * 2 + y) := by
  obtain ⟨k, hk⟩ := wrap64_is x
  rw [hk, show (x + 18446744073709551616 * k) * 2 + y = x * 2 + y + 18446744073709551616 * (k * 2) from by omega, wrap64_more]
theorem wrap64_plus (x y : Int) : wrap64 (wrap64 x + y) = wrap64 (x + y) := by
  obtain ⟨k, hk⟩ := wrap64_is x
  rw [hk, show x + 18446744073709551616 * k + y = x + y + 18446744073709551616 * k from by omega, wrap64_more]
/-- What the reference has behind the bits from 63 down to j. -/
def acc (Y j : Nat) : Int := wrap64 ((Y / 2 ^ j : Nat) : Int)
theorem acc_start (Y : Nat) (h : Y < 18446744073709551616) : acc Y 64 = 0 := by
  unfold acc
  rw [Nat.div_eq_of_lt (by omega), wrap64_def]
  rfl
theorem acc_step (Y j : Nat) : acc Y j = wrap64 (wrap64 (acc Y (j + 1) * 2) + (if bitAt Y j = true then 1 else 0)) := by
  have h : Y / 2 ^ j = 2 * (Y / 2 ^ (j + 1)) + Y / 2 ^ j % 2 := by
    rw [Nat.pow_succ, ← Nat.div_div_eq_div_mul]; omega
  have h2 : ((Y / 2 ^ j % 2 : Nat) : Int) = if bitAt Y j = true then 1 else 0 := by
    unfold bitAt
    by_cases hb : Y / 2 ^ j % 2 = 1
    · simp [hb]
    · have h0 : Y / 2 ^ j % 2 = 0 := by omega
      simp [h0]
  have key : ∀ a b c : Nat, c = 2 * a + b → wrap64 (c : Int) = wrap64 (wrap64 (wrap64 (a : Int) * 2) + (b : Int)) := by
    intro a b c hc
    rw [wrap64_plus, wrap64_mul, hc]
    congr 1
    omega
  unfold acc
  rw [← h2]
  exact key _ _ _ h
theorem acc_one (Y j : Nat) (h : bitAt Y j = true) : acc Y j = wrap64 (wrap64 (acc Y (j + 1) * 2) + 1) := by rw [acc_step, if_pos h]
theorem acc_none (Y j : Nat) (h : bitAt Y j = false) : acc Y j = wrap64 (acc Y (j + 1) * 2) := by
  rw [acc_step, if_neg (by rw [h]; simp), wrap64_plus, Int.add_zero]
theorem acc_end (V k : Nat) : acc (two V k) 0 = wrap64 (sgn V k) := by
  unfold acc two
  rw [Nat.pow_zero, Nat.div_one]
  simp only [wrap64_def]
  omega
/-- leb.S's number is the reference's. -/
theorem ext_sgn (V s : Nat) (h1 : 1 ≤ s) (h10 : s ≤ 10) (hV : V < 128 ^ s) : ext (V % big : Nat) ((s : Int) * 7) = wrap64 (sgn V (7 * s)) := by
  rcases Nat.lt_or_ge s 10 with h | h
  · have hp : (128 : Nat) ^ s ≤ 128 ^ 9 := Nat.pow_le_pow_right (by omega) (by omega)
    have e : V % big = V := Nat.mod_eq_of_lt (by unfold big; omega)
    rw [e, ext_val s V h1 (by omega) hV]
    have e1 : (64 : Nat) * 128 ^ (s - 1) = 2 ^ (7 * s - 1) := by
      rw [pow7, show (64 : Nat) = 2 ^ 6 from rfl, ← Nat.pow_add]; congr 1; omega
    have e2 : (128 : Nat) ^ s = 2 ^ (7 * s - 1) * 2 := by
      rw [pow7, ← Nat.pow_succ]; congr 1; omega
    have hbit : bitAt V (7 * s - 1) = true ↔ ¬ V < 64 * 128 ^ (s - 1) := by
      rw [e1]
      unfold bitAt
      rw [e2] at hV
      generalize hP : (2 : Nat) ^ (7 * s - 1) = P at *
      have hPpos : 0 < P := by rw [← hP]; exact Nat.pow_pos (by omega)
      constructor
      · intro hb hlt
        rw [Nat.div_eq_of_lt hlt] at hb
        simp at hb
      · intro hge
        have : V / P = 1 := by
          apply Nat.div_eq_of_lt_le <;> omega
        rw [this]; rfl
    have hc : ((2 ^ (7 * s) : Nat) : Int) = (2 : Int) ^ (7 * s) := by simp
    have hc2 : ((128 ^ s : Nat) : Int) = (128 : Int) ^ s := by simp
    unfold sgn
    by_cases hv : V < 64 * 128 ^ (s - 1)
    · rw [if_pos hv, if_neg (fun hb => (hbit.1 hb) hv), wrap64_def]
      omega
    · rw [if_neg hv, if_pos (hbit.2 hv), wrap64_def, ← hc, ← hc2, ← pow7]
      omega
  · obtain rfl : s = 10 := by omega
    have := ext_ten (V % big)
    rw [this]
    unfold sgn
    simp only [wrap64_def]
    split <;> (unfold big; omega)
/-- Do all bits from n on, below k, agree with the one ahead of them? -/
def Agree (V n k : Nat) : Prop := ∀ i, n ≤ i → i < k → bitAt V i = bitAt V (n - 1)
theorem cs_bits : ∀ x : Fin 128, ∀ i : Fin 7, csB (x.val : Int) ((i.val + 1 : Nat) : Int) = (List.range 7).all fun j => j < i.val + 1 || bitAt x.val j == bitAt x.val i.val := by decide +kernel
theorem cs_agree (x i : Nat) (hx : x < 128) (h1 : 1 ≤ i) (h7 : i ≤ 7) : csB (x : Int) (i : Int) = true ↔ ∀ j, i ≤ j → j < 7 → bitAt x j = bitAt x (i - 1) := by
  obtain ⟨i, rfl⟩ : ∃ k, i = k + 1 := ⟨i - 1, by omega⟩
  have := cs_bits ⟨x, hx⟩ ⟨i, by omega⟩
  simp only at this
  rw [this, List.all_eq_true]
  constructor
  · intro h j hj hj7
    have := h j (by simpa using hj7)
    simp at this
    rcases this with h2 | h2
    · omega
    · simpa using h2
  · intro h j hj
    have hj7 : j < 7 := by simpa using hj
    by_cases hji : j < i + 1
    · simp [hji]
    · have := h j (by omega) hj7
      simp at this
      simp [this]
/-- leb.S's answer, told by the bits. -/
theorem sRes_bits (l : List Nat) (n : Nat) (h0 : 1 ≤ n) (h64 : n ≤ 64) (hm : lead l < most n) (hl : lead l < l.length) :
    (Agree (val (l.take (lead l + 1))) n (7 * (lead l + 1)) → sRes l n = (wrap64 (sgn (val (l.take (lead l + 1))) (7 * (lead l + 1))), lead l + 1, 0)) ∧
    (¬ Agree (val (l.take (lead l + 1))) n (7 * (lead l + 1)) → sRes l n = (0, 0, 2)) := by
  obtain ⟨hm1, hmi⟩ := most_inl n h0
  have hib := inl_bounds n h0
  have hg : gath l (most n) = (gv l (lead l + 1), lead l + 1, 0) := by
    unfold gath
    rw [if_neg (by omega), if_neg (by omega)]
  have hlt := val_take_lt l (lead l + 1)
  have hs10 : lead l + 1 ≤ 10 := by unfold most at hm; omega
  have hext : ext (gv l (lead l + 1) : Nat) (((lead l + 1 : Nat) : Int) * 7) = wrap64 (sgn (val (l.take (lead l + 1))) (7 * (lead l + 1))) := by
    unfold gv
    exact ext_sgn _ _ (by omega) hs10 (by rw [pow7]; exact hlt)
  have hmost : lead l + 1 = most n → (csB (l.getD (most n - 1) 0 : Nat) (inl n : Nat) = true ↔ Agree (val (l.take (lead l + 1))) n (7 * (lead l + 1))) := by
    intro hs
    have hlast : l.getD (most n - 1) 0 = l[lead l] := by
      rw [← hs, Nat.add_sub_cancel, List.getD, List.getElem?_eq_getElem hl]; rfl
    have hx := lead_lt l hl
    have hv := val_take l (lead l) hl
    have hv0 := val_take_lt l (lead l)
    rw [Nat.mod_eq_of_lt hx] at hv
    rw [hlast, cs_agree _ _ hx hib.1 hib.2]
    unfold Agree
    rw [hv]
    have e0 : n - 1 = 7 * lead l + (inl n - 1) := by omega
    rw [e0, bitAt_high _ _ _ _ hv0]
    constructor
    · intro h i hi hi7
      have := h (i - 7 * lead l) (by omega) (by omega)
      rw [show i = 7 * lead l + (i - 7 * lead l) from by omega, bitAt_high _ _ _ _ hv0]
      exact this
    · intro h j hj hj7
      have := h (7 * lead l + j) (by omega) (by omega)
      rw [bitAt_high _ _ _ _ hv0] at this
      exact this
  unfold sRes
  rw [hg, if_pos rfl]
  simp only [hext]
  constructor
  · intro ha
    rw [if_neg]
    rintro ⟨h1, h2⟩
    rw [(hmost h1).2 ha] at h2
    cases h2
  · intro ha
    by_cases hs : lead l + 1 = most n
    · rw [if_pos]
      refine ⟨hs, ?_⟩
      cases hc : csB (l.getD (most n - 1) 0 : Nat) (inl n : Nat) with
      | false => rfl
      | true => exact absurd ((hmost hs).1 hc) ha
    · exact absurd (fun i hi hi7 => by omega) ha
end Go.Proofs.Ytdipgokbfjbgfaa.Leb
