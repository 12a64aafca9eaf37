/-
  Numbers that are put together bit by bit, in closed form: moved, turned, spread, bit by bit; what is signed. No condition but those that each lemma names; nothing of the program.
-/
import Derived.Test.YtbgcafkdojoilaaDoorNumBinVal
namespace Go.Proofs.YtbgcafkdojoilaaDoor.Num

theorem asm_is (f : Nat → Nat) (n X : Nat) (hf : ∀ i, f i ≤ 1) (hX : X < 2 ^ n) (h : ∀ i, i < n → (f i = 1 ↔ X.testBit i = true)) : asm f n = X := by
  apply Nat.eq_of_testBit_eq
  intro i
  rw [asm_testBit f n i hf]
  by_cases hi : i < n
  · rw [Bool.eq_iff_iff, decide_eq_true_iff, ← h i hi]
    exact ⟨fun h => h.2, fun h => ⟨hi, h⟩⟩
  · rw [Nat.testBit_lt_two_pow (Nat.lt_of_lt_of_le hX (Nat.pow_le_pow_right (by omega) (by omega)))]
    simp [hi]
theorem bit_iff (a i : Nat) : bitN a i = 1 ↔ a.testBit i = true := by rw [bitN_testBit]; simp
theorem up_is (a s w : Nat) : upN a s w = a * 2 ^ s % 2 ^ w := by
  refine asm_is _ _ _ (fun i => ?_) (Nat.mod_lt _ (Nat.pow_pos (by omega))) (fun i hi => ?_)
  · have := bitN_le a (i - s); show (if i < s then 0 else bitN a (i - s)) ≤ 1; split <;> omega
  · show (if i < s then 0 else bitN a (i - s)) = 1 ↔ _
    rw [Nat.testBit_mod_two_pow, Nat.mul_comm a, Nat.testBit_two_pow_mul]
    by_cases h : i < s
    · rw [if_pos h]; simp [hi]; omega
    · rw [if_neg h, bit_iff]; simp [hi]; omega
theorem down_is (a s w : Nat) (ha : a < 2 ^ w) : downN a s w 0 = a / 2 ^ s := by
  refine asm_is _ _ _ (fun i => ?_) (Nat.lt_of_le_of_lt (Nat.div_le_self _ _) ha) (fun i hi => ?_)
  · have := bitN_le a (i + s); show (if i + s < w then bitN a (i + s) else 0) ≤ 1; split <;> omega
  · show (if i + s < w then bitN a (i + s) else 0) = 1 ↔ _
    rw [Nat.testBit_div_two_pow]
    by_cases h : i + s < w
    · rw [if_pos h, bit_iff]
    · rw [if_neg h, Nat.testBit_lt_two_pow (Nat.lt_of_lt_of_le ha (Nat.pow_le_pow_right (by omega) (by omega)))]; simp
theorem testBit_high (m n i : Nat) (h : n ≤ m) (hi : i < m) : (2 ^ m - 2 ^ n).testBit i = decide (n ≤ i) := by
  have e : 2 ^ m - 2 ^ n = 2 ^ n * (2 ^ (m - n) - 1) := by
    rw [Nat.mul_sub, ← Nat.pow_add, show n + (m - n) = m from by omega, Nat.mul_one]
  rw [e, Nat.testBit_two_pow_mul, Nat.testBit_two_pow_sub_one]
  by_cases hn : n ≤ i
  · simp [hn]; omega
  · simp [hn]
theorem add_high (x m n : Nat) (hx : x < 2 ^ n) (h : n ≤ m) (i : Nat) (hi : i < m) : (x + (2 ^ m - 2 ^ n)).testBit i = (if i < n then x.testBit i else true) := by
  have e : 2 ^ m - 2 ^ n = 2 ^ n * (2 ^ (m - n) - 1) := by
    rw [Nat.mul_sub, ← Nat.pow_add, show n + (m - n) = m from by omega, Nat.mul_one]
  rw [Nat.add_comm, e, Nat.testBit_two_pow_mul_add _ hx]
  by_cases hin : i < n
  · rw [if_pos hin, if_pos hin]
  · rw [if_neg hin, if_neg hin, Nat.testBit_two_pow_sub_one]
    simp; omega
/-- Moved down, what comes in is 1. -/
theorem down1_is (a s w : Nat) (ha : a < 2 ^ w) (hs : s ≤ w) : downN a s w 1 = a / 2 ^ s + (2 ^ w - 2 ^ (w - s)) := by
  have hd : a / 2 ^ s < 2 ^ (w - s) := by
    rw [Nat.div_lt_iff_lt_mul (Nat.pow_pos (by omega)), ← Nat.pow_add, show w - s + s = w from by omega]
    exact ha
  have hp : (2 : Nat) ^ (w - s) ≤ 2 ^ w := Nat.pow_le_pow_right (by omega) (by omega)
  refine asm_is _ _ _ (fun i => ?_) (by omega) (fun i hi => ?_)
  · have := bitN_le a (i + s); show (if i + s < w then bitN a (i + s) else 1) ≤ 1; split <;> omega
  · show (if i + s < w then bitN a (i + s) else 1) = 1 ↔ _
    rw [add_high _ w (w - s) hd (by omega) i hi, Nat.testBit_div_two_pow]
    by_cases h : i + s < w
    · rw [if_pos h, if_pos (by omega), bit_iff]
    · rw [if_neg h, if_neg (by omega)]; simp
/-- Turned. -/
theorem turn_is (a s w : Nat) (ha : a < 2 ^ w) (hs : s < w) : turnN a s w = a * 2 ^ s % 2 ^ w + a / 2 ^ (w - s) := by
  have hd : a / 2 ^ (w - s) < 2 ^ s := by
    rw [Nat.div_lt_iff_lt_mul (Nat.pow_pos (by omega)), ← Nat.pow_add, show s + (w - s) = w from by omega]
    exact ha
  have hm : a * 2 ^ s % 2 ^ w = 2 ^ s * (a % 2 ^ (w - s)) := by
    rw [Nat.mul_comm, show 2 ^ w = 2 ^ s * 2 ^ (w - s) from by rw [← Nat.pow_add]; congr 1; omega, Nat.mul_mod_mul_left]
  have hlt : a % 2 ^ (w - s) < 2 ^ (w - s) := Nat.mod_lt _ (Nat.pow_pos (by omega))
  have hX : a * 2 ^ s % 2 ^ w + a / 2 ^ (w - s) < 2 ^ w := by
    rw [hm]
    have h1 : 2 ^ s * (a % 2 ^ (w - s) + 1) ≤ 2 ^ s * 2 ^ (w - s) := Nat.mul_le_mul_left _ hlt
    rw [← Nat.pow_add, show s + (w - s) = w from by omega, Nat.mul_add, Nat.mul_one] at h1
    omega
  refine asm_is _ _ _ (fun i => bitN_le _ _) hX (fun i hi => ?_)
  rw [hm, Nat.testBit_two_pow_mul_add _ hd, Nat.mod_eq_of_lt hs]
  show bitN a ((i + w - s) % w) = 1 ↔ _
  rw [bit_iff]
  by_cases h : i < s
  · rw [if_pos h, Nat.testBit_div_two_pow, Nat.mod_eq_of_lt (by omega), show i + (w - s) = i + w - s from by omega]
  · have e : (i + w - s) % w = i - s := by
      rw [show i + w - s = (i - s) + w from by omega, Nat.add_mod_right, Nat.mod_eq_of_lt (by omega)]
    rw [if_neg h, Nat.testBit_mod_two_pow, e]
    simp; omega
theorem turn_0 (a n w : Nat) (hw : 0 < w) (h : n % w = 0) (ha : a < 2 ^ w) : turnN a n w = a := by
  have h1 : turnN a n w = turnN a 0 w := by unfold turnN; rw [h, Nat.zero_mod]
  rw [h1, turn_is a 0 w ha hw, Nat.pow_zero, Nat.mul_one, Nat.mod_eq_of_lt ha, Nat.sub_zero, Nat.div_eq_of_lt ha, Nat.add_zero]
theorem each_and (a b : Nat) (ha : a < 2 ^ 64) : eachN a b 0 = a &&& b := by
  refine asm_is _ _ _ (eachF_le a b 0) (Nat.lt_of_le_of_lt Nat.and_le_left ha) (fun i _ => ?_)
  have h1 := bitN_le a i
  have h2 := bitN_le b i
  rw [Nat.testBit_and, bitN_testBit, bitN_testBit]
  unfold eachF
  have hx : bitN a i = 0 ∨ bitN a i = 1 := by omega
  have hy : bitN b i = 0 ∨ bitN b i = 1 := by omega
  rcases hx with hx | hx <;> rcases hy with hy | hy <;> simp [hx, hy]
theorem each_or (a b : Nat) (ha : a < 2 ^ 64) (hb : b < 2 ^ 64) : eachN a b 1 = a ||| b := by
  refine asm_is _ _ _ (eachF_le a b 1) (Nat.or_lt_two_pow ha hb) (fun i _ => ?_)
  have h1 := bitN_le a i
  have h2 := bitN_le b i
  rw [Nat.testBit_or, bitN_testBit, bitN_testBit]
  unfold eachF
  have hx : bitN a i = 0 ∨ bitN a i = 1 := by omega
  have hy : bitN b i = 0 ∨ bitN b i = 1 := by omega
  rcases hx with hx | hx <;> rcases hy with hy | hy <;> simp [hx, hy]
theorem each_xor (a b : Nat) (ha : a < 2 ^ 64) (hb : b < 2 ^ 64) : eachN a b 2 = a ^^^ b := by
  refine asm_is _ _ _ (eachF_le a b 2) (Nat.xor_lt_two_pow ha hb) (fun i _ => ?_)
  have h1 := bitN_le a i
  have h2 := bitN_le b i
  rw [Nat.testBit_xor, bitN_testBit, bitN_testBit]
  unfold eachF
  have hx : bitN a i = 0 ∨ bitN a i = 1 := by omega
  have hy : bitN b i = 0 ∨ bitN b i = 1 := by omega
  rcases hx with hx | hx <;> rcases hy with hy | hy <;> simp [hx, hy]
/-- Spread: the highest of the lowest k bits fills what is above. -/
theorem spread_is (a k w : Nat) (hkw : k ≤ w) : spreadN a k w = if bitN a (k - 1) = 1 then a % 2 ^ k + (2 ^ w - 2 ^ k) else a % 2 ^ k := by
  have hlt : a % 2 ^ k < 2 ^ k := Nat.mod_lt _ (Nat.pow_pos (by omega))
  have hp : (2 : Nat) ^ k ≤ 2 ^ w := Nat.pow_le_pow_right (by omega) hkw
  have hb := bitN_le a (k - 1)
  by_cases h : bitN a (k - 1) = 1
  · rw [if_pos h]
    refine asm_is _ _ _ (fun i => bitN_le _ _) (by omega) (fun i hi => ?_)
    rw [add_high _ w k hlt hkw i hi, Nat.testBit_mod_two_pow]
    show bitN a (if k ≤ i then k - 1 else i) = 1 ↔ _
    by_cases hki : k ≤ i
    · rw [if_pos hki, if_neg (by omega)]; simp [h]
    · rw [if_neg hki, if_pos (by omega), bit_iff]; simp; omega
  · rw [if_neg h]
    refine asm_is _ _ _ (fun i => bitN_le _ _) (by omega) (fun i hi => ?_)
    rw [Nat.testBit_mod_two_pow]
    show bitN a (if k ≤ i then k - 1 else i) = 1 ↔ _
    by_cases hki : k ≤ i
    · rw [if_pos hki]; simp [h]; omega
    · rw [if_neg hki, bit_iff]; simp; omega
end Go.Proofs.YtbgcafkdojoilaaDoor.Num
