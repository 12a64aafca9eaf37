/-
  Plain arithmetic: what leb.PutU and leb.PutS put is read back by leb.U and leb.S, and nothing shorter is read as the same. Conditions as each lemma says; nothing of the program runs.
-/
import Derived.Test.YtdipgokbfjbgfaaLebS
import Derived.Test.YtdipgokbfjbgfaaLebBackU
import Derived.Test.YtdipgokbfjbgfaaLebPutMath
namespace Go.Proofs.Ytdipgokbfjbgfaa.Leb
open Go.RowKit

theorem wrap64_def (x : Int) : wrap64 x = (x + 9223372036854775808) % 18446744073709551616 - 9223372036854775808 := by
  unfold wrap64
  omega
/-- The sign of 7 k bits, told by cases. -/
theorem ext_val (k v : Nat) (h0 : 1 ≤ k) (h9 : k ≤ 9) (hv : v < 128 ^ k) : ext v ((k : Int) * 7) = if v < 64 * 128 ^ (k - 1) then (v : Int) else (v : Int) - 128 ^ k := by
  have hk : k = 1 ∨ k = 2 ∨ k = 3 ∨ k = 4 ∨ k = 5 ∨ k = 6 ∨ k = 7 ∨ k = 8 ∨ k = 9 := by omega
  rcases hk with rfl | rfl | rfl | rfl | rfl | rfl | rfl | rfl | rfl <;>
  · have e : ∀ x : Int, IntKind.u64.wrap x = x % 18446744073709551616 := IntKind.wrap_u64
    simp [ext, e, wrap64_def] at hv ⊢
    split <;> omega
theorem ext_ten (v : Nat) : ext v ((10 : Nat) * 7 : Int) = wrap64 v := by
  unfold ext; rw [if_pos (by omega)]
/-- What is read as signed from k bytes fits into k bytes. -/
theorem ext_fits (k v : Nat) (h0 : 1 ≤ k) (h9 : k ≤ 10) (hv : v < 128 ^ k) : -(64 * 128 ^ (k - 1)) ≤ ext (v % big : Nat) ((k : Int) * 7) ∧ ext (v % big : Nat) ((k : Int) * 7) < 64 * 128 ^ (k - 1) := by
  rcases Nat.lt_or_ge k 10 with h | h
  · have hp : (128 : Nat) ^ k ≤ 128 ^ 9 := Nat.pow_le_pow_right (by omega) (by omega)
    have e : v % big = v := Nat.mod_eq_of_lt (by unfold big; omega)
    rw [e, ext_val k v h0 (by omega) hv]
    obtain ⟨j, rfl⟩ : ∃ j, k = j + 1 := ⟨k - 1, by omega⟩
    rw [Nat.pow_succ] at hv
    simp only [Nat.add_sub_cancel, Int.pow_succ]
    have hc : ((128 ^ j : Nat) : Int) = (128 : Int) ^ j := by simp
    rw [← hc]
    generalize 128 ^ j = P at *
    split <;> omega
  · obtain rfl : k = 10 := by omega
    have := ext_ten (v % big)
    rw [this, wrap64_def]
    simp
    omega
/-- A signed number that fits into k bytes, cut to their bits, is read as itself. -/
theorem ext_back (k v : Nat) (m : Int) (h0 : 1 ≤ k) (h10 : k ≤ 10) (hm : -(64 * 128 ^ (k - 1)) ≤ m ∧ m < 64 * 128 ^ (k - 1)) (h64 : -9223372036854775808 ≤ m ∧ m ≤ 9223372036854775807) (hv : (v : Int) = m % 128 ^ k) :
    ext (v % big : Nat) ((k : Int) * 7) = m := by
  rcases Nat.lt_or_ge k 10 with h | h
  · have hp : (128 : Nat) ^ k ≤ 128 ^ 9 := Nat.pow_le_pow_right (by omega) (by omega)
    have hc : ((128 ^ k : Nat) : Int) = (128 : Int) ^ k := by simp
    have hpos : (0 : Int) < 128 ^ k := Int.pow_pos (by omega)
    have hvlt : v < 128 ^ k := by have := Int.emod_lt_of_pos m hpos; omega
    have e : v % big = v := Nat.mod_eq_of_lt (by unfold big; omega)
    rw [e, ext_val k v h0 (by omega) hvlt]
    obtain ⟨j, rfl⟩ : ∃ j, k = j + 1 := ⟨k - 1, by omega⟩
    simp only [Nat.add_sub_cancel, Int.pow_succ] at *
    have hc : ((128 ^ j : Nat) : Int) = (128 : Int) ^ j := by simp
    have hjp : (0 : Int) < 128 ^ j := Int.pow_pos (by omega)
    rw [← hc] at hm hv hjp ⊢
    generalize 128 ^ j = P at *
    rcases Int.lt_or_le m 0 with hn | hn
    · have : m % ((P : Int) * 128) = m + (P : Int) * 128 := by
        rw [show m = (m + (P : Int) * 128) + ((P : Int) * 128) * (-1) from by omega, Int.add_mul_emod_self_left, Int.emod_eq_of_lt (by omega) (by omega)]; omega
      rw [this] at hv
      rw [if_neg (by omega)]; omega
    · rw [Int.emod_eq_of_lt hn (by omega)] at hv
      rw [if_pos (by omega)]; omega
  · obtain rfl : k = 10 := by omega
    have := ext_ten (v % big)
    rw [this, wrap64_def]
    unfold big
    omega
theorem last_putSf (f : Nat) (n : Int) : (putSf f n).getD ((putSf f n).length - 1) 0 = (n / 128 ^ ((putSf f n).length - 1) % 128).toNat := by
  induction f generalizing n with
  | zero => simp [putSf]
  | succ f ih =>
    simp only [putSf]
    split
    · simp
    · have h1 := ih (n / 128)
      have h2 := (putSf_len f (n / 128)).1
      obtain ⟨k, hk⟩ : ∃ k, (putSf f (n / 128)).length = k + 1 := ⟨(putSf f (n / 128)).length - 1, by omega⟩
      rw [hk] at h1
      simp only [List.length_cons, hk, Nat.add_sub_cancel] at h1 ⊢
      rw [List.getD_cons_succ, h1, Int.pow_succ, Int.mul_comm, Int.ediv_ediv_of_nonneg (by omega)]
theorem cs_fits (q : Int) (i : Nat) (h1 : 1 ≤ i) (h7 : i ≤ 7) (h : -(2 ^ (i - 1)) ≤ q ∧ q < 2 ^ (i - 1)) : csB (((q % 128).toNat : Nat) : Int) (i : Int) = true := by
  have hi : i = 1 ∨ i = 2 ∨ i = 3 ∨ i = 4 ∨ i = 5 ∨ i = 6 ∨ i = 7 := by omega
  rcases hi with rfl | rfl | rfl | rfl | rfl | rfl | rfl <;>
  · simp [csB] at h ⊢
    omega
theorem two_le {a b : Nat} (h : a ≤ b) : (2 : Int) ^ a ≤ 2 ^ b := by
  have h1 : 2 ^ a ≤ 2 ^ b := Nat.pow_le_pow_right (by omega) h
  have h2 : ((2 ^ a : Nat) : Int) ≤ ((2 ^ b : Nat) : Int) := by omega
  simpa using h2
/-- leb.S reads what leb.PutS put. -/
theorem sRes_put (m : Int) (b : Nat) (more : List Nat) (h0 : 1 ≤ b) (h64 : b ≤ 64) (hm : -(2 ^ (b - 1)) ≤ m ∧ m < 2 ^ (b - 1)) : sRes (putS m ++ more) b = (m, (putS m).length, 0) := by
  obtain ⟨hm1, hmi⟩ := most_inl b h0
  have hib := inl_bounds b h0
  have hp : (2 : Int) ^ (b - 1) ≤ 2 ^ 63 := two_le (by omega)
  have h63 : (2 : Int) ^ 63 = 9223372036854775808 := by decide
  have hr : -9223372036854775808 ≤ m ∧ m ≤ 9223372036854775807 := by omega
  have hlen := putSf_len 9 m
  have hln : 1 ≤ (putS m).length := hlen.1
  have e64 : ∀ j : Nat, (64 : Int) * 128 ^ j = 2 ^ (6 + 7 * j) := by
    intro j
    rw [Int.pow_add, Int.pow_mul]; rfl
  have hle : (putS m).length ≤ most b := putSf_least 9 m _ hm1 (by
    have : (2 : Int) ^ (b - 1) ≤ 2 ^ (6 + 7 * (most b - 1)) := two_le (by omega)
    rw [e64]; omega)
  have hfit := putSf_fits 9 m (by omega)
  have hl : lead (putS m ++ more) + 1 = (putS m).length := lead_putSf 9 m more
  have hg : gath (putS m ++ more) (most b) = (gv (putS m ++ more) (putS m).length, (putS m).length, 0) := by
    unfold gath
    rw [if_neg (by omega), if_neg (by simp; omega), hl]
  have hv : ext (gv (putS m ++ more) (putS m).length : Nat) (((putS m).length : Int) * 7) = m := by
    unfold gv
    rw [take_put]
    exact ext_back _ _ m hlen.1 hlen.2 hfit hr (val_putSf 9 m)
  unfold sRes
  rw [hg, if_pos rfl, if_neg]
  · simp only [hv]
  · rintro ⟨h1, h2⟩
    simp only at h1
    rw [← h1, getD_put _ _ hln, show (putS m).getD ((putS m).length - 1) 0 = (m / 128 ^ ((putS m).length - 1) % 128).toNat from last_putSf 9 m, h1] at h2
    rw [cs_fits _ _ hib.1 hib.2 ?_] at h2
    · cases h2
    · have e : (2 : Int) ^ (b - 1) = 128 ^ (most b - 1) * 2 ^ (inl b - 1) := by
        rw [show (128 : Int) = 2 ^ 7 from rfl, ← Int.pow_mul, ← Int.pow_add]
        congr 1; omega
      rw [e] at hm
      have hpos : (0 : Int) < 128 ^ (most b - 1) := Int.pow_pos (by omega)
      constructor
      · rw [Int.le_ediv_iff_mul_le hpos, Int.neg_mul, Int.mul_comm]; exact hm.1
      · rw [Int.ediv_lt_iff_lt_mul hpos, Int.mul_comm]; exact hm.2
end Go.Proofs.Ytdipgokbfjbgfaa.Leb
