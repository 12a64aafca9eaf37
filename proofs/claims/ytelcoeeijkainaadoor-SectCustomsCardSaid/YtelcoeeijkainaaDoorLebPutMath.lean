/-
  Plain arithmetic of what leb.PutU and leb.PutS put: how long it is, what it is worth, how it is read back. No condition but those that each lemma names; nothing of the program.
-/
import Derived.Test.YtelcoeeijkainaaDoorLebMath
namespace Go.Proofs.YtelcoeeijkainaaDoor.Leb

/-- The bytes that an unsigned number is put as, where it has at most f + 1 of them. -/
def putUf : Nat → Nat → List Nat
  | 0, n => [n % 128]
  | f + 1, n => if n < 128 then [n] else (n % 128 + 128) :: putUf f (n / 128)
def putU (n : Nat) : List Nat := putUf 9 n
/-- The bytes that a signed number is put as, where it has at most f + 1 of them. -/
def putSf : Nat → Int → List Nat
  | 0, n => [(n % 128).toNat]
  | f + 1, n => if -64 ≤ n ∧ n < 64 then [(n % 128).toNat] else ((n % 128).toNat + 128) :: putSf f (n / 128)
def putS (n : Int) : List Nat := putSf 9 n

theorem putUf_byte (f n : Nat) : ∀ x ∈ putUf f n, x < 256 := by
  induction f generalizing n with
  | zero => intro x hx; simp [putUf] at hx; omega
  | succ f ih =>
    intro x hx
    simp only [putUf] at hx
    split at hx
    · simp at hx; omega
    · rcases List.mem_cons.1 hx with rfl | hx
      · omega
      · exact ih _ x hx
theorem putSf_byte (f : Nat) (n : Int) : ∀ x ∈ putSf f n, x < 256 := by
  induction f generalizing n with
  | zero => intro x hx; simp [putSf] at hx; omega
  | succ f ih =>
    intro x hx
    simp only [putSf] at hx
    split at hx
    · simp at hx; omega
    · rcases List.mem_cons.1 hx with rfl | hx
      · omega
      · exact ih _ x hx
theorem putUf_len (f n : Nat) : 1 ≤ (putUf f n).length ∧ (putUf f n).length ≤ f + 1 := by
  induction f generalizing n with
  | zero => simp [putUf]
  | succ f ih => simp only [putUf]; split <;> simp; have := ih (n / 128); omega
theorem putSf_len (f : Nat) (n : Int) : 1 ≤ (putSf f n).length ∧ (putSf f n).length ≤ f + 1 := by
  induction f generalizing n with
  | zero => simp [putSf]
  | succ f ih => simp only [putSf]; split <;> simp; have := ih (n / 128); omega
/-- What was put leads up to its last byte, with anything behind it. -/
theorem lead_putUf (f n : Nat) (more : List Nat) : lead (putUf f n ++ more) + 1 = (putUf f n).length := by
  induction f generalizing n with
  | zero => simp [putUf, lead]; omega
  | succ f ih =>
    simp only [putUf]
    split
    · rename_i h; simp [lead]; omega
    · have := ih (n / 128)
      simp only [List.cons_append, lead, List.length_cons]
      rw [if_pos (by omega)]
      omega
theorem lead_putSf (f : Nat) (n : Int) (more : List Nat) : lead (putSf f n ++ more) + 1 = (putSf f n).length := by
  induction f generalizing n with
  | zero => simp [putSf, lead]; omega
  | succ f ih =>
    simp only [putSf]
    split
    · simp [lead]; omega
    · have := ih (n / 128)
      simp only [List.cons_append, lead, List.length_cons]
      rw [if_pos (by omega)]
      omega
theorem val_putUf (f n : Nat) (h : n < 128 ^ (f + 1)) : val (putUf f n) = n := by
  induction f generalizing n with
  | zero => simp [putUf, val]; simp at h; omega
  | succ f ih =>
    simp only [putUf]
    split
    · simp [val]; omega
    · have := ih (n / 128) (by rw [Nat.pow_succ] at h; omega)
      simp only [val, this]
      omega
/-- Signed: what the bytes are worth is the number, cut to their bits. -/
theorem val_putSf (f : Nat) (n : Int) : ((val (putSf f n) : Nat) : Int) = n % 128 ^ (putSf f n).length := by
  induction f generalizing n with
  | zero => simp [putSf, val]; omega
  | succ f ih =>
    simp only [putSf]
    split
    · simp [val]; omega
    · have h := ih (n / 128)
      simp only [val, List.length_cons]
      generalize (putSf f (n / 128)).length = k at *
      have hp : (0 : Int) < 128 ^ k := Int.pow_pos (by omega)
      rw [Int.pow_succ]
      have e : n % (128 ^ k * 128) = 128 * (n / 128 % 128 ^ k) + n % 128 := by
        have h1 := Int.emod_add_mul_ediv n 128
        have h2 := Int.emod_add_mul_ediv (n / 128) (128 ^ k)
        have h3 := Int.emod_nonneg (n / 128) (show (128 : Int) ^ k ≠ 0 by omega)
        have h4 := Int.emod_lt_of_pos (n / 128) hp
        have h5 : n = (128 * (n / 128 % 128 ^ k) + n % 128) + 128 ^ k * 128 * (n / 128 / 128 ^ k) := by
          rw [Int.mul_comm (128 ^ k) 128, Int.mul_assoc]
          omega
        generalize hr : 128 * (n / 128 % 128 ^ k) + n % 128 = r at *
        rw [h5, Int.add_mul_emod_self_left]
        exact Int.emod_eq_of_lt (by omega) (by omega)
      rw [e, ← h]
      omega
/-- The fewest bytes: what fits into k of them has no more. -/
theorem putUf_least (f n k : Nat) (hk : 1 ≤ k) (h : n < 128 ^ k) : (putUf f n).length ≤ k := by
  induction f generalizing n k with
  | zero => simp [putUf]; exact hk
  | succ f ih =>
    simp only [putUf]
    split
    · simp; exact hk
    · rename_i hn
      cases k with
      | zero => omega
      | succ k =>
        rcases Nat.eq_zero_or_pos k with h0 | h0
        · subst h0; simp at h; omega
        · have := ih (n / 128) k h0 (by rw [Nat.pow_succ] at h; omega)
          simp only [List.length_cons]; omega
theorem putSf_least (f : Nat) (n : Int) (k : Nat) (hk : 1 ≤ k) (h : -(64 * 128 ^ (k - 1)) ≤ n ∧ n < 64 * 128 ^ (k - 1)) : (putSf f n).length ≤ k := by
  induction f generalizing n k with
  | zero => simp [putSf]; exact hk
  | succ f ih =>
    simp only [putSf]
    split
    · simp; exact hk
    · rename_i hn
      match k, hk, h with
      | 1, _, h => simp at h; omega
      | k + 2, _, h =>
        simp only [show k + 2 - 1 = k + 1 from rfl, Int.pow_succ] at h
        have hp : (0 : Int) < 128 ^ k := Int.pow_pos (by omega)
        have := ih (n / 128) (k + 1) (by omega) (by
          simp only [Nat.add_sub_cancel]
          generalize (128 : Int) ^ k = P at *
          omega)
        simp only [List.length_cons]; omega
/-- Signed: the number fits into the bits of its bytes. -/
theorem putSf_fits (f : Nat) (n : Int) (h : -(64 * 128 ^ f) ≤ n ∧ n < 64 * 128 ^ f) : -(64 * 128 ^ ((putSf f n).length - 1)) ≤ n ∧ n < 64 * 128 ^ ((putSf f n).length - 1) := by
  induction f generalizing n with
  | zero => simpa [putSf] using h
  | succ f ih =>
    simp only [putSf]
    split
    · rename_i hn; simp; omega
    · rename_i hn
      have hl := putSf_len f (n / 128)
      have h2 := ih (n / 128) (by
        rw [Int.pow_succ] at h
        have hp : (0 : Int) < 128 ^ f := Int.pow_pos (by omega)
        generalize (128 : Int) ^ f = P at *
        omega)
      simp only [List.length_cons, Nat.add_sub_cancel]
      obtain ⟨k, hk⟩ : ∃ k, (putSf f (n / 128)).length = k + 1 := ⟨(putSf f (n / 128)).length - 1, by omega⟩
      rw [hk] at h2 ⊢
      simp only [Nat.add_sub_cancel, Int.pow_succ] at h2 ⊢
      have hp : (0 : Int) < 128 ^ k := Int.pow_pos (by omega)
      generalize (128 : Int) ^ k = P at *
      omega
theorem or80 (x : Nat) (h : x < 256) : x ||| 128 = x % 128 + 128 := by
  have : ∀ x : Fin 256, x.val ||| 128 = x.val % 128 + 128 := by decide +kernel
  exact this ⟨x, h⟩
theorem byteU (n : Nat) : bits .or .u8 (IntKind.u8.wrap (n : Int)) 128 = ((n % 128 + 128 : Nat) : Int) := by
  have e : IntKind.u8.wrap (n : Int) = ((n % 256 : Nat) : Int) := by rw [IntKind.wrap_u8']; omega
  rw [e]
  have := u8_or_nat (n % 256) 128 (by omega) (by omega)
  rw [or80 _ (by omega)] at this
  rw [show n % 128 + 128 = n % 256 % 128 + 128 from by omega]
  exact this
theorem byteS (n : Int) : bits .or .u8 (IntKind.u8.wrap n) 128 = (((n % 128).toNat + 128 : Nat) : Int) := by
  have e : IntKind.u8.wrap n = (((n % 256).toNat : Nat) : Int) := by rw [IntKind.wrap_u8']; omega
  rw [e]
  have := u8_or_nat (n % 256).toNat 128 (by omega) (by omega)
  rw [or80 _ (by omega)] at this
  rw [show (n % 128).toNat + 128 = (n % 256).toNat % 128 + 128 from by omega]
  exact this
theorem lastS (n : Int) : bits .and .u8 (IntKind.u8.wrap n) 127 = (((n % 128).toNat : Nat) : Int) := by
  have e : IntKind.u8.wrap n = (((n % 256).toNat : Nat) : Int) := by rw [IntKind.wrap_u8']; omega
  rw [e, mask7 _ (by omega)]
  omega
end Go.Proofs.YtelcoeeijkainaaDoor.Leb
