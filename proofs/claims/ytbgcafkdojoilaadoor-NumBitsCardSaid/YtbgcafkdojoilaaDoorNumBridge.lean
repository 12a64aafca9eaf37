/-
  The library's words on bits (how long a number is, how often 2 divides it, how many bits are 1) are ours. No condition but those that each lemma names; nothing of the program.
-/
import Derived.Test.YtbgcafkdojoilaaDoorNumBitsLaw
import Derived.Lib.BitFns
import Derived.Lib.TrailingZeros
namespace Go.Proofs.YtbgcafkdojoilaaDoor.Num

theorem bitLenAux_is (f L x : Nat) (hL : L < f) (h : x / 2 ^ L = 1) : Lib.bitLenAux f x = L + 1 := by
  induction L generalizing f x with
  | zero =>
    rw [Nat.pow_zero, Nat.div_one] at h
    subst h
    obtain ⟨g, rfl⟩ : ∃ g, f = g + 1 := ⟨f - 1, by omega⟩
    cases g with
    | zero => rfl
    | succ g => simp [Lib.bitLenAux]
  | succ L ih =>
    obtain ⟨g, rfl⟩ : ∃ g, f = g + 1 := ⟨f - 1, by omega⟩
    have hx : x ≠ 0 := by rintro rfl; simp at h
    simp only [Lib.bitLenAux]
    rw [if_neg hx, ih g (x / 2) (by omega) (by rw [Nat.div_div_eq_div_mul, Nat.mul_comm, ← Nat.pow_succ]; exact h)]
    omega
theorem lz_len (n w : Nat) (hw : w ≤ 64) (h : n < 2 ^ w) : lzF n w = w - Lib.bitLen n := by
  by_cases h0 : n = 0
  · subst h0
    rw [lz_zero]
    rfl
  · obtain ⟨h1, h2⟩ := lz_spec w n h h0
    have := bitLenAux_is 64 (w - 1 - lzF n w) n (by omega) h2
    unfold Lib.bitLen
    rw [this]
    omega
theorem len_le (n w : Nat) (hw : w ≤ 64) (h : n < 2 ^ w) : Lib.bitLen n ≤ w := by
  by_cases h0 : n = 0
  · subst h0; exact Nat.zero_le _
  · obtain ⟨h1, h2⟩ := lz_spec w n h h0
    have := bitLenAux_is 64 (w - 1 - lzF n w) n (by omega) h2
    unfold Lib.bitLen
    rw [this]
    omega
theorem tz_from (n i d : Nat) : tzF n i d = Lib.ctzFrom d (n / 2 ^ i) := by
  induction d generalizing i with
  | zero => rfl
  | succ d ih =>
    simp only [Lib.ctzFrom]
    by_cases hb : bitN n i = 0
    · rw [tzF_one n i d hb, ih, if_neg (by unfold bitN at hb; omega), Nat.div_div_eq_div_mul, show 2 ^ i * 2 = 2 ^ (i + 1) from (Nat.pow_succ ..).symm]
      omega
    · have := bitN_le n i
      rw [tzF_none n i d hb, if_pos (by unfold bitN at hb this; omega)]
theorem tz_ctz (n w : Nat) : tzF n 0 w = Lib.ctz w n := by
  unfold Lib.ctz
  by_cases h0 : n = 0
  · rw [if_pos h0, h0, tz_zero]
  · rw [if_neg h0, tz_from, Nat.pow_zero, Nat.div_one]
theorem pcF_half (n f : Nat) : pcF n (f + 1) = n % 2 + pcF (n / 2) f := by
  induction f with
  | zero => simp [pcF, bitN]
  | succ f ih =>
    have e : bitN n (f + 1) = bitN (n / 2) f := by
      unfold bitN
      rw [Nat.div_div_eq_div_mul, Nat.mul_comm 2, ← Nat.pow_succ]
    rw [pcF, ih, pcF, e]
    omega
theorem pop_is (n f : Nat) : Lib.popAux f n = pcF n f := by
  induction f generalizing n with
  | zero => rfl
  | succ f ih => rw [Lib.popAux, ih, pcF_half]
theorem pcF_more (n w d : Nat) (h : n < 2 ^ w) : pcF n (w + d) = pcF n w := by
  induction d with
  | zero => rfl
  | succ d ih =>
    have hb : bitN n (w + d) = 0 := by
      unfold bitN
      rw [Nat.div_eq_of_lt (Nat.lt_of_lt_of_le h (Nat.pow_le_pow_right (by omega) (by omega)))]
    rw [← Nat.add_assoc, pcF, ih, hb, Nat.add_zero]
theorem pc_ones (n w : Nat) (hw : w ≤ 64) (h : n < 2 ^ w) : pcF n w = Lib.onesCount n := by
  unfold Lib.onesCount
  rw [pop_is]
  obtain ⟨d, hd⟩ : ∃ d, 64 = w + d := ⟨64 - w, by omega⟩
  rw [hd, pcF_more n w d h]
end Go.Proofs.YtbgcafkdojoilaaDoor.Num
