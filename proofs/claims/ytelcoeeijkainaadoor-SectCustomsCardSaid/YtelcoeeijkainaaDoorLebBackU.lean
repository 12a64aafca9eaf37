/-
  Plain arithmetic: what leb.PutU puts is read back by leb.U. Conditions as each lemma says; nothing of the program runs.
-/
import Derived.Test.YtelcoeeijkainaaDoorLebU
import Derived.Test.YtelcoeeijkainaaDoorLebPutMath
namespace Go.Proofs.YtelcoeeijkainaaDoor.Leb
open Go.RowKit

theorem take_put (l more : List Nat) : (l ++ more).take l.length = l := by simp
theorem getD_put (l more : List Nat) (h : 1 ≤ l.length) : (l ++ more).getD (l.length - 1) 0 = l.getD (l.length - 1) 0 := by
  simp [List.getD, List.getElem?_append_left (show l.length - 1 < l.length by omega)]
theorem last_putUf (f n : Nat) (h : n < 128 ^ (f + 1)) : (putUf f n).getD ((putUf f n).length - 1) 0 = n / 128 ^ ((putUf f n).length - 1) := by
  induction f generalizing n with
  | zero => simp [putUf]; simp at h; omega
  | succ f ih =>
    simp only [putUf]
    split
    · simp
    · have h1 := ih (n / 128) (by rw [Nat.pow_succ] at h; omega)
      have h2 := (putUf_len f (n / 128)).1
      obtain ⟨k, hk⟩ : ∃ k, (putUf f (n / 128)).length = k + 1 := ⟨(putUf f (n / 128)).length - 1, by omega⟩
      rw [hk] at h1
      simp only [List.length_cons, hk, Nat.add_sub_cancel] at h1 ⊢
      rw [List.getD_cons_succ, h1, Nat.pow_succ, Nat.mul_comm, Nat.div_div_eq_div_mul]
theorem most_inl (n : Nat) (h : 1 ≤ n) : 1 ≤ most n ∧ n = 7 * (most n - 1) + inl n := by unfold inl most; omega
/-- leb.U reads what leb.PutU put. -/
theorem uRes_put (n b : Nat) (more : List Nat) (h0 : 1 ≤ b) (h64 : b ≤ 64) (hn : n < 2 ^ b) : uRes (putU n ++ more) b = (n, (putU n).length, 0) := by
  obtain ⟨hm1, hmi⟩ := most_inl b h0
  have hp : (2 : Nat) ^ b ≤ 2 ^ 64 := Nat.pow_le_pow_right (by omega) h64
  have h70 : n < 128 ^ 10 := by omega
  have hlen := putUf_len 9 n
  have hln : 1 ≤ (putU n).length := hlen.1
  have hle : (putU n).length ≤ most b := putUf_least 9 n _ hm1 (by
    rw [pow7]
    exact Nat.lt_of_lt_of_le hn (Nat.pow_le_pow_right (by omega) (by have := inl_bounds b h0; omega)))
  have hl : lead (putU n ++ more) + 1 = (putU n).length := lead_putUf 9 n more
  have hg : gath (putU n ++ more) (most b) = (n, (putU n).length, 0) := by
    unfold gath
    rw [if_neg (by omega), if_neg (by simp; omega), hl]
    unfold gv
    rw [take_put, show val (putU n) = n from val_putUf 9 n h70, Nat.mod_eq_of_lt (by unfold big; omega)]
  unfold uRes
  rw [hg, if_pos rfl, if_neg]
  rintro ⟨h1, h2⟩
  simp only at h1
  apply h2
  rw [← h1, getD_put _ _ hln, show (putU n).getD ((putU n).length - 1) 0 = n / 128 ^ ((putU n).length - 1) from last_putUf 9 n h70, h1, pow7, Nat.div_div_eq_div_mul, ← Nat.pow_add, ← hmi]
  exact Nat.div_eq_of_lt hn
end Go.Proofs.YtelcoeeijkainaaDoor.Leb
