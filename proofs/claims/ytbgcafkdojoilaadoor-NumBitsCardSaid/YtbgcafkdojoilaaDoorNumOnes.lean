/-
  Plain arithmetic of the library's OnesCount64: bits are summed up in pairs, fours, eights; then bytes. No condition but those that each lemma names; nothing of the program.
-/
import Derived.Test.YtbgcafkdojoilaaDoorNumBridge
namespace Go.Proofs.YtbgcafkdojoilaaDoor.Num

/-- The byte c, k times. -/
def mask (c : Nat) : Nat → Nat
  | 0 => 0
  | k + 1 => c + 256 * mask c k
theorem and_bytes (x y : Nat) : x &&& y = (x % 256 &&& y % 256) + 256 * (x / 256 &&& y / 256) := by
  have h1 : (x &&& y) % 2 ^ 8 = x % 2 ^ 8 &&& y % 2 ^ 8 := Nat.and_mod_two_pow ..
  have h2 : (x &&& y) / 2 ^ 8 = x / 2 ^ 8 &&& y / 2 ^ 8 := Nat.and_div_two_pow ..
  simp only [show (2 : Nat) ^ 8 = 256 by rfl] at h1 h2
  rw [← h1, ← h2]
  omega
theorem mask_mod (c k : Nat) (hc : c < 256) : mask c (k + 1) % 256 = c ∧ mask c (k + 1) / 256 = mask c k := by
  simp only [mask]; omega
theorem and_mask_step (c k x : Nat) (hc : c < 256) : x &&& mask c (k + 1) = (x % 256 &&& c) + 256 * (x / 256 &&& mask c k) := by
  rw [and_bytes, (mask_mod c k hc).1, (mask_mod c k hc).2]
/-- Pairs. -/
def f1 (k x : Nat) : Nat := (x / 2 &&& mask 85 k) + (x &&& mask 85 k)
def f2 (k x : Nat) : Nat := (x / 4 &&& mask 51 k) + (x &&& mask 51 k)
def f3 (k x : Nat) : Nat := (x / 16 + x) &&& mask 15 k
theorem low1 : ∀ b : Fin 256, ∀ t : Fin 2, (b.val / 2 + 128 * t.val) &&& 85 = (b.val / 2) &&& 85 := by decide +kernel
theorem low2 : ∀ b : Fin 256, ∀ t : Fin 4, (b.val / 4 + 64 * t.val) &&& 51 = (b.val / 4) &&& 51 := by decide +kernel
theorem f1_step (k x : Nat) : f1 (k + 1) x = f1 1 (x % 256) + 256 * f1 k (x / 256) := by
  have e1 : x / 2 % 256 = x % 256 / 2 + 128 * (x / 256 % 2) := by omega
  have e2 : x / 2 / 256 = x / 256 / 2 := by omega
  have h := low1 ⟨x % 256, Nat.mod_lt _ (by omega)⟩ ⟨x / 256 % 2, Nat.mod_lt _ (by omega)⟩
  simp only at h
  unfold f1
  rw [and_mask_step 85 k (x / 2) (by omega), and_mask_step 85 k x (by omega), e1, e2, h]
  simp only [mask, Nat.mul_zero, Nat.add_zero]
  omega
theorem f2_step (k x : Nat) : f2 (k + 1) x = f2 1 (x % 256) + 256 * f2 k (x / 256) := by
  have e1 : x / 4 % 256 = x % 256 / 4 + 64 * (x / 256 % 4) := by omega
  have e2 : x / 4 / 256 = x / 256 / 4 := by omega
  have h := low2 ⟨x % 256, Nat.mod_lt _ (by omega)⟩ ⟨x / 256 % 4, Nat.mod_lt _ (by omega)⟩
  simp only at h
  unfold f2
  rw [and_mask_step 51 k (x / 4) (by omega), and_mask_step 51 k x (by omega), e1, e2, h]
  simp only [mask, Nat.mul_zero, Nat.add_zero]
  omega
theorem f1_lt : ∀ b : Fin 256, f1 1 b.val < 256 ∧ f2 1 (f1 1 b.val) < 256 ∧ f2 1 (f1 1 b.val) / 16 ≤ 4 ∧ f2 1 (f1 1 b.val) % 16 ≤ 4 ∧ f2 1 (f1 1 b.val) / 16 + f2 1 (f1 1 b.val) % 16 = pcF b.val 8 := by decide +kernel
theorem f1_zero (x : Nat) : f1 0 x = 0 := by simp [f1, mask]
theorem f2_zero (x : Nat) : f2 0 x = 0 := by simp [f2, mask]
/-- What the two first steps make of a number's bytes. -/
def fours : Nat → Nat → Nat
  | 0, _ => 0
  | k + 1, x => f2 1 (f1 1 (x % 256)) + 256 * fours k (x / 256)
theorem f21 (k x : Nat) : f2 k (f1 k x) = fours k x := by
  induction k generalizing x with
  | zero => rw [f2_zero]; rfl
  | succ k ih =>
    have h := (f1_lt ⟨x % 256, Nat.mod_lt _ (by omega)⟩).1
    simp only at h
    rw [f2_step, f1_step]
    have e1 : (f1 1 (x % 256) + 256 * f1 k (x / 256)) % 256 = f1 1 (x % 256) := by omega
    have e2 : (f1 1 (x % 256) + 256 * f1 k (x / 256)) / 256 = f1 k (x / 256) := by omega
    rw [e1, e2, ih]
    rfl
/-- How many bits of each byte are 1. -/
def sums : Nat → Nat → Nat
  | 0, _ => 0
  | k + 1, x => pcF (x % 256) 8 + 256 * sums k (x / 256)
theorem and15 : ∀ L : Fin 256, L.val &&& 15 = L.val % 16 := by decide +kernel
theorem fours_nib (k x : Nat) : fours k x % 16 ≤ 4 := by
  cases k with
  | zero => simp [fours]
  | succ k =>
    have h := f1_lt ⟨x % 256, Nat.mod_lt _ (by omega)⟩
    simp only at h
    simp only [fours]
    omega
theorem f3_fours (k x : Nat) : f3 k (fours k x) = sums k x := by
  induction k generalizing x with
  | zero => simp [f3, mask, sums]
  | succ k ih =>
    have h := f1_lt ⟨x % 256, Nat.mod_lt _ (by omega)⟩
    simp only at h
    have hn := fours_nib k (x / 256)
    have hi := ih (x / 256)
    unfold f3 at hi ⊢
    rw [and_mask_step 15 k _ (by omega)]
    simp only [fours, sums]
    obtain ⟨h1, h2, h3, h4, h5⟩ := h
    generalize f2 1 (f1 1 (x % 256)) = B at *
    generalize fours k (x / 256) = R at *
    have e1 : ((B + 256 * R) / 16 + (B + 256 * R)) % 256 = B / 16 + 16 * (R % 16) + B := by omega
    have e2 : ((B + 256 * R) / 16 + (B + 256 * R)) / 256 = R / 16 + R := by omega
    have h15 := and15 ⟨B / 16 + 16 * (R % 16) + B, by omega⟩
    simp only at h15
    rw [e1, e2, hi, h15]
    omega
theorem ones_bytes (x : Nat) : f3 8 (f2 8 (f1 8 x)) = sums 8 x := by rw [f21, f3_fours]
theorem pcF_succ (a w : Nat) : pcF a (w + 1) = pcF a w + bitN a w := rfl
theorem pcF_byte (x k : Nat) : pcF x (k + 8) = pcF (x % 256) 8 + pcF (x / 256) k := by
  induction k with
  | zero =>
    have e : ∀ i, i < 8 → bitN x i = bitN (x % 256) i := fun i hi => by
      have h1 := bit_iff x i
      have h2 := bit_iff (x % 256) i
      rw [show x % 256 = x % 2 ^ 8 from rfl, Nat.testBit_mod_two_pow] at h2
      simp only [hi, decide_true, Bool.true_and] at h2
      have h3 := bitN_le x i
      have h4 := bitN_le (x % 256) i
      have h5 : bitN x i = 1 ↔ bitN (x % 256) i = 1 := h1.trans h2.symm
      omega
    simp only [pcF, Nat.add_zero]
    rw [e 0 (by omega), e 1 (by omega), e 2 (by omega), e 3 (by omega), e 4 (by omega), e 5 (by omega), e 6 (by omega), e 7 (by omega)]
  | succ k ih =>
    have e : bitN x (k + 8) = bitN (x / 256) k := by
      unfold bitN
      rw [Nat.div_div_eq_div_mul, show (256 : Nat) * 2 ^ k = 2 ^ (k + 8) from by rw [Nat.pow_add]; omega]
    rw [show k + 1 + 8 = (k + 8) + 1 from by omega, pcF_succ x (k + 8), ih, pcF_succ (x / 256) k, e]
    omega
/-- The bytes' sum. -/
theorem sums_all (x : Nat) : ∃ p0 p1 p2 p3 p4 p5 p6 p7, p0 ≤ 8 ∧ p1 ≤ 8 ∧ p2 ≤ 8 ∧ p3 ≤ 8 ∧ p4 ≤ 8 ∧ p5 ≤ 8 ∧ p6 ≤ 8 ∧ p7 ≤ 8 ∧
    sums 8 x = p0 + 256 * p1 + 65536 * p2 + 16777216 * p3 + 4294967296 * p4 + 1099511627776 * p5 + 281474976710656 * p6 + 72057594037927936 * p7 ∧ pcF x 64 = p0 + p1 + p2 + p3 + p4 + p5 + p6 + p7 := by
  refine ⟨pcF (x % 256) 8, pcF (x / 256 % 256) 8, pcF (x / 256 / 256 % 256) 8, pcF (x / 256 / 256 / 256 % 256) 8, pcF (x / 256 / 256 / 256 / 256 % 256) 8, pcF (x / 256 / 256 / 256 / 256 / 256 % 256) 8, pcF (x / 256 / 256 / 256 / 256 / 256 / 256 % 256) 8, pcF (x / 256 / 256 / 256 / 256 / 256 / 256 / 256 % 256) 8, pcF_le _ 8, pcF_le _ 8, pcF_le _ 8, pcF_le _ 8, pcF_le _ 8, pcF_le _ 8, pcF_le _ 8, pcF_le _ 8, ?_, ?_⟩
  · simp only [sums]; omega
  · have e7 : pcF x 64 = pcF (x % 256) 8 + pcF (x / 256) 56 := pcF_byte x 56
    have e6 : pcF (x / 256) 56 = _ := pcF_byte (x / 256) 48
    have e5 : pcF (x / 256 / 256) 48 = _ := pcF_byte (x / 256 / 256) 40
    have e4 : pcF (x / 256 / 256 / 256) 40 = _ := pcF_byte (x / 256 / 256 / 256) 32
    have e3 : pcF (x / 256 / 256 / 256 / 256) 32 = _ := pcF_byte (x / 256 / 256 / 256 / 256) 24
    have e2 : pcF (x / 256 / 256 / 256 / 256 / 256) 24 = _ := pcF_byte (x / 256 / 256 / 256 / 256 / 256) 16
    have e1 : pcF (x / 256 / 256 / 256 / 256 / 256 / 256) 16 = _ := pcF_byte (x / 256 / 256 / 256 / 256 / 256 / 256) 8
    have e0 : pcF (x / 256 / 256 / 256 / 256 / 256 / 256 / 256) 8 = _ := pcF_byte (x / 256 / 256 / 256 / 256 / 256 / 256 / 256) 0
    have z : pcF (x / 256 / 256 / 256 / 256 / 256 / 256 / 256 / 256) 0 = 0 := rfl
    rw [e7, e6, e5, e4, e3, e2, e1, e0, z]
    omega
end Go.Proofs.YtbgcafkdojoilaaDoor.Num
