/-
  Plain arithmetic of numbers in bytes, the lowest first. No condition but those that each lemma names; nothing of the program.
-/
import Derived.WalkKit
namespace Go.Proofs.Ytaagingcjmkcdaa.Pack

/-- What bytes are worth, the lowest first. -/
def le : List Nat → Nat
  | [] => 0
  | x :: l => x + 256 * le l
theorem le_lt (l : List Nat) (h : ∀ x ∈ l, x < 256) : le l < 256 ^ l.length := by
  induction l with
  | nil => simp [le]
  | cons y l ih =>
    have h1 := h y (by simp)
    have h2 := ih (fun x hx => h x (by simp [hx]))
    simp only [le, List.length_cons, Nat.pow_succ]
    omega
theorem le_drop (l : List Nat) (j : Nat) (h : j < l.length) : le (l.drop j) = l[j] + 256 * le (l.drop (j + 1)) := by
  rw [List.drop_eq_getElem_cons h]; rfl
/-- The m lowest bytes of a number. -/
def bytesOf : Nat → Nat → List Nat
  | 0, _ => []
  | m + 1, n => n % 256 :: bytesOf m (n / 256)
theorem bytesOf_len (m n : Nat) : (bytesOf m n).length = m := by
  induction m generalizing n with
  | zero => rfl
  | succ m ih => simp [bytesOf, ih]
theorem bytesOf_byte (m n : Nat) : ∀ x ∈ bytesOf m n, x < 256 := by
  induction m generalizing n with
  | zero => simp [bytesOf]
  | succ m ih =>
    intro x hx
    simp only [bytesOf, List.mem_cons] at hx
    rcases hx with rfl | hx
    · omega
    · exact ih _ x hx
theorem le_bytesOf (m n : Nat) : le (bytesOf m n) = n % 256 ^ m := by
  induction m generalizing n with
  | zero => simp [bytesOf, le, Nat.mod_one]
  | succ m ih =>
    simp only [bytesOf, le, ih]
    rw [Nat.pow_succ, Nat.mul_comm (256 ^ m), Nat.mod_mul]
theorem bytesOf_snoc (m n : Nat) : bytesOf (m + 1) n = bytesOf m n ++ [n / 256 ^ m % 256] := by
  induction m generalizing n with
  | zero => simp [bytesOf]
  | succ m ih =>
    rw [bytesOf, ih (n / 256), bytesOf, List.cons_append, Nat.div_div_eq_div_mul, Nat.pow_succ, Nat.mul_comm 256]
theorem bytesOf_mod (m n : Nat) : bytesOf m (n % 256 ^ m) = bytesOf m n := by
  induction m generalizing n with
  | zero => rfl
  | succ m ih =>
    have e1 : n % 256 ^ (m + 1) % 256 = n % 256 := by
      rw [Nat.pow_succ, Nat.mul_comm]
      exact Nat.mod_mul_right_mod n 256 (256 ^ m)
    have e2 : n % 256 ^ (m + 1) / 256 = n / 256 % 256 ^ m := by
      rw [Nat.pow_succ, Nat.mul_comm, Nat.mod_mul_right_div_self]
    rw [bytesOf, bytesOf, e1, e2, ih]
/-- What stands above what was loaded. -/
def fill (s : Bool) (l : List Nat) : Nat := if s = true ∧ 127 < l.getD (l.length - 1) 0 then 255 else 0
theorem fill_lt (s : Bool) (l : List Nat) : fill s l < 256 := by unfold fill; split <;> omega
/-- What is loaded, on N bytes. -/
def full (s : Bool) (N : Nat) (l : List Nat) : List Nat := l ++ List.replicate (N - l.length) (fill s l)
theorem full_len (s : Bool) (N : Nat) (l : List Nat) (h : l.length ≤ N) : (full s N l).length = N := by simp [full]; omega
theorem full_byte (s : Bool) (N : Nat) (l : List Nat) (h : ∀ x ∈ l, x < 256) : ∀ x ∈ full s N l, x < 256 := by
  intro x hx
  rcases List.mem_append.1 hx with hx | hx
  · exact h x hx
  · rw [(List.mem_replicate.1 hx).2]; exact fill_lt s l
theorem full_low (s : Bool) (N : Nat) (l : List Nat) (j : Nat) (h : j < l.length) (h' : j < (full s N l).length) : (full s N l)[j] = l[j] := by
  unfold full; exact List.getElem_append_left h
theorem full_high (s : Bool) (N : Nat) (l : List Nat) (j : Nat) (h : ¬ j < l.length) (h' : j < (full s N l).length) : (full s N l)[j] = fill s l := by
  unfold full at h' ⊢
  rw [List.getElem_append_right (by omega), List.getElem_replicate]
theorem full_step (s : Bool) (N : Nat) (l : List Nat) (j x X : Nat) (hj : j < (full s N l).length) (hx : (full s N l)[j] = x) (hX : X = le ((full s N l).drop (j + 1))) : X * 256 + x = le ((full s N l).drop j) := by
  rw [le_drop _ j hj, hx, ← hX]; omega
theorem full_bound (s : Bool) (N : Nat) (l : List Nat) (j X : Nat) (hb : ∀ x ∈ l, x < 256) (hl : l.length ≤ N) (hN : N ≤ 8) (hX : X = le ((full s N l).drop (j + 1))) (hj : j < N) : X < 72057594037927936 := by
  have h1 := le_lt ((full s N l).drop (j + 1)) (fun x hx => full_byte s N l hb x (List.mem_of_mem_drop hx))
  rw [← hX, List.length_drop, full_len s N l hl] at h1
  have h2 : (256 : Nat) ^ (N - (j + 1)) ≤ 256 ^ 7 := Nat.pow_le_pow_right (by omega) (by omega)
  have h3 : (256 : Nat) ^ 7 = 72057594037927936 := by decide
  omega
end Go.Proofs.Ytaagingcjmkcdaa.Pack
