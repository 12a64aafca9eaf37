/-
  Plain arithmetic of numbers as lists of bits: a number that is put together bit by bit, from the highest down; its bits. No condition but those that each lemma names; nothing of the program.
-/
import Derived.WalkKit
namespace Go.Proofs.YtbgcafkdojoilaaDoor.Num

/-- A bit of a number. -/
def bitN (a i : Nat) : Nat := a / 2 ^ i % 2
theorem bitN_le (a i : Nat) : bitN a i ≤ 1 := by unfold bitN; omega
theorem bitN_testBit (a i : Nat) : a.testBit i = decide (bitN a i = 1) := by
  unfold bitN
  rw [Nat.testBit_eq_decide_div_mod_eq]
/-- The number whose lowest n bits are f's. -/
def asm (f : Nat → Nat) : Nat → Nat
  | 0 => 0
  | n + 1 => asm f n + f n * 2 ^ n
theorem asm_cons (f : Nat → Nat) (n : Nat) : asm f (n + 1) = f 0 + 2 * asm (fun t => f (t + 1)) n := by
  induction n with
  | zero => simp [asm]
  | succ n ih =>
    rw [asm, ih, asm, Nat.pow_succ, Nat.mul_add, ← Nat.mul_assoc (f (n + 1)), Nat.mul_comm _ 2]
    omega
/-- The step of a loop from the highest bit down: behind the bits from j + 1 on comes bit j. -/
theorem asm_step (f : Nat → Nat) (j d : Nat) : asm (fun t => f (j + t)) (d + 1) = asm (fun t => f (j + 1 + t)) d * 2 + f j := by
  rw [asm_cons]
  have e : (fun t => f (j + (t + 1))) = fun t => f (j + 1 + t) := by funext t; rw [show j + (t + 1) = j + 1 + t from by omega]
  rw [e, Nat.add_zero]
  omega
theorem asm_congr (f g : Nat → Nat) (n : Nat) (h : ∀ i, i < n → f i = g i) : asm f n = asm g n := by
  induction n with
  | zero => rfl
  | succ n ih => rw [asm, asm, ih (fun i hi => h i (by omega)), h n (by omega)]
theorem asm_lt (f : Nat → Nat) (n : Nat) (h : ∀ i, f i ≤ 1) : asm f n < 2 ^ n := by
  induction n with
  | zero => simp [asm]
  | succ n ih =>
    have h1 := h n
    have h2 : f n * 2 ^ n ≤ 1 * 2 ^ n := Nat.mul_le_mul_right _ h1
    rw [asm, Nat.pow_succ]
    omega
theorem asm_testBit (f : Nat → Nat) (n i : Nat) (h : ∀ i, f i ≤ 1) : (asm f n).testBit i = decide (i < n ∧ f i = 1) := by
  induction n with
  | zero => simp [asm]
  | succ n ih =>
    have hlt := asm_lt f n h
    have h1 := h n
    rw [asm, Nat.add_comm, Nat.mul_comm, Nat.testBit_two_pow_mul_add _ hlt]
    by_cases hi : i < n
    · rw [if_pos hi, ih]
      simp [hi, show i < n + 1 by omega]
    · rw [if_neg hi]
      by_cases he : i = n
      · subst he
        have hf : f i = 0 ∨ f i = 1 := by omega
        rcases hf with hf | hf <;> simp [hf]
      · have hd : i - n = (i - n - 1) + 1 := by omega
        have hf : f n = 0 ∨ f n = 1 := by omega
        rw [hd]
        rcases hf with hf | hf <;> simp [hf, Nat.testBit_succ, show ¬ i < n + 1 by omega]
/-- The bits of a number put it together. -/
theorem asm_bits (a n : Nat) (h : a < 2 ^ n) : asm (bitN a) n = a := by
  apply Nat.eq_of_testBit_eq
  intro i
  rw [asm_testBit _ _ _ (bitN_le a), bitN_testBit]
  by_cases hi : i < n
  · simp [hi]
  · have : bitN a i = 0 := by
      unfold bitN
      rw [Nat.div_eq_of_lt (Nat.lt_of_lt_of_le h (Nat.pow_le_pow_right (by omega) (by omega)))]
    simp [hi, this]
/-- Cut to w bits. -/
def cutN (a w : Nat) : Nat := a % 2 ^ w
/-- The lowest k bits, signed, on w bits. -/
def spreadN (a k w : Nat) : Nat := asm (fun i => bitN a (if k ≤ i then k - 1 else i)) w
/-- The bits, turned up by n. -/
def turnN (a n w : Nat) : Nat := asm (fun i => bitN a ((i + w - n % w) % w)) w
/-- The bits, moved up by n. -/
def upN (a n w : Nat) : Nat := asm (fun i => if i < n then 0 else bitN a (i - n)) w
/-- The bits, moved down by n; what comes in is fill. -/
def downN (a n w fill : Nat) : Nat := asm (fun i => if i + n < w then bitN a (i + n) else fill) w
/-- A bit of and (0), or (1), exclusive or (2). -/
def eachF (a b how i : Nat) : Nat := if how = 0 ∧ bitN a i + bitN b i = 2 ∨ how = 1 ∧ 0 < bitN a i + bitN b i ∨ how = 2 ∧ bitN a i + bitN b i = 1 then 1 else 0
theorem eachF_le (a b how i : Nat) : eachF a b how i ≤ 1 := by unfold eachF; split <;> omega
/-- Bit by bit: and, or, exclusive or. -/
def eachN (a b how : Nat) : Nat := asm (eachF a b how) 64
end Go.Proofs.YtbgcafkdojoilaaDoor.Num
