/-
  Types, limits and block types are read as they were put: plain lists. Conditions as each lemma says; nothing of the program.
-/
import Derived.Test.YthhdbjpimjkekaaTypDoes
import Derived.Test.YthhdbjpimjkekaaLebBackU
import Derived.Test.YthhdbjpimjkekaaLebBackMath
namespace Go.Proofs.Ythhdbjpimjkekaa.Typ
open Go.RowKit Leb

theorem putU_one (n : Nat) (h : n < 128) : putU n = [n] := by
  unfold putU
  simp only [putUf]
  rw [if_pos (by omega)]
theorem uRes_one (x : Nat) (l : List Nat) (h : x < 128) : uRes (x :: l) 32 = (x, 1, 0) := by
  have := uRes_put x 32 l (by omega) (by omega) (by omega)
  rw [putU_one x h] at this
  exact this
theorem takeVals_put (xs : List Int) (more : List Nat) (h : ∀ x ∈ xs, x = 127 ∨ x = 126) : takeVals xs.length (xs.map Int.toNat ++ more) = (xs, 0) := by
  induction xs with
  | nil => rfl
  | cons x xs ih =>
    have h1 := h x (by simp)
    have h2 := ih (fun y hy => h y (by simp [hy]))
    simp only [List.length_cons, List.map_cons, List.cons_append, takeVals]
    rcases h1 with rfl | rfl
    · rw [h2]; rfl
    · rw [h2]; rfl
/-- Types that were put at place p are read there. -/
theorem valsRes_put (pre more : List Nat) (xs : List Int) (h : good xs) : valsRes (pre ++ (natsOf xs ++ more)) pre.length = (xs, pre.length + (natsOf xs).length, 0) := by
  obtain ⟨h8, hx⟩ := h
  have hd : (pre ++ (natsOf xs ++ more)).drop pre.length = natsOf xs ++ more := by simp
  have hd2 : (pre ++ (natsOf xs ++ more)).drop (pre.length + 1) = xs.map Int.toNat ++ more := by
    rw [← List.drop_drop, hd]; rfl
  have hu : uRes (natsOf xs ++ more) 32 = (xs.length, 1, 0) := uRes_one _ _ (by omega)
  unfold valsRes
  rw [hd, hu]
  simp only
  rw [hd2, takeVals_put xs more hx]
  simp only [ne_eq, not_true_eq_false, if_false, if_true]
  rw [if_neg (by omega)]
  simp [natsOf]
  omega
theorem natsOf_len (xs : List Int) : (natsOf xs).length = xs.length + 1 := by simp [natsOf]
theorem funcRes_put (ps rs : List Int) (more : List Nat) (h : rightF ps rs = true) : funcRes (funcBytes ps rs ++ more) = (ps, rs, (funcBytes ps rs).length, 0) := by
  unfold rightF at h
  obtain ⟨g1, g2⟩ := of_decide_eq_true h
  have e1 : funcBytes ps rs ++ more = [96] ++ (natsOf ps ++ (natsOf rs ++ more)) := by simp [funcBytes]
  have e2 : funcBytes ps rs ++ more = ([96] ++ natsOf ps) ++ (natsOf rs ++ more) := by simp [funcBytes]
  have v1 : valsRes (funcBytes ps rs ++ more) 1 = (ps, 1 + (natsOf ps).length, 0) := by
    rw [e1]; exact valsRes_put [96] _ ps g1
  have v2 : valsRes (funcBytes ps rs ++ more) (1 + (natsOf ps).length) = (rs, 1 + (natsOf ps).length + (natsOf rs).length, 0) := by
    rw [e2]
    have hl : ([96] ++ natsOf ps).length = 1 + (natsOf ps).length := by simp; omega
    have := valsRes_put ([96] ++ natsOf ps) more rs g2
    rw [hl] at this
    exact this
  unfold funcRes
  rw [v1]
  simp only
  rw [v2]
  rw [if_neg (by simp [funcBytes]), if_neg (by simp [funcBytes])]
  simp [funcBytes]
  omega
theorem limRes_put (a b : Nat) (cap : Bool) (more : List Nat) (ha : a < 4294967296) (hb : b < 4294967296) (hc : cap = true ∨ b = 0) : limRes (limBytes a cap b ++ more) = (a, cap, b, (limBytes a cap b).length, 0) := by
  have h32 : (2 : Nat) ^ 32 = 4294967296 := by decide
  cases cap with
  | false =>
    obtain rfl : b = 0 := by simpa using hc
    have hl : limBytes a false 0 ++ more = 0 :: (putU a ++ more) := by simp [limBytes]
    have u1 : lim1 (0 :: (putU a ++ more)) = (a, (putU a).length, 0) := uRes_put a 32 more (by omega) (by omega) (by omega)
    rw [hl]
    unfold limRes
    rw [u1]
    simp [limBytes]
    omega
  | true =>
    have hl : limBytes a true b ++ more = 1 :: (putU a ++ (putU b ++ more)) := by simp [limBytes]
    have u1 : lim1 (1 :: (putU a ++ (putU b ++ more))) = (a, (putU a).length, 0) := uRes_put a 32 _ (by omega) (by omega) (by omega)
    have u2 : lim2 (1 :: (putU a ++ (putU b ++ more))) = (b, (putU b).length, 0) := by
      unfold lim2
      rw [u1]
      have : (1 :: (putU a ++ (putU b ++ more))).drop (1 + (putU a).length) = putU b ++ more := by rw [Nat.add_comm]; simp
      rw [this]
      exact uRes_put b 32 _ (by omega) (by omega) (by omega)
    rw [hl]
    unfold limRes
    rw [u1, u2]
    simp [limBytes]
    omega
theorem putS_first (t : Int) (h0 : 0 ≤ t) (more : List Nat) : ∃ x l, putS t ++ more = x :: l ∧ (x < 64 ∨ 128 ≤ x) := by
  unfold putS
  simp only [putSf]
  by_cases h : -64 ≤ t ∧ t < 64
  · rw [if_pos h]
    exact ⟨_, _, rfl, .inl (by omega)⟩
  · rw [if_neg h]
    exact ⟨_, _, rfl, .inr (by omega)⟩
theorem valOf_out (x : Nat) (h : x < 64 ∨ 128 ≤ x) : valOf x = (0, 2) := by
  unfold valOf
  rw [if_neg (by omega), if_neg (by omega)]
theorem blockRes_put (t : Int) (more : List Nat) (h : rightBlock t = true) : blockRes (putS t ++ more) = (t, (putS t).length, 0) := by
  unfold rightBlock at h
  rcases of_decide_eq_true h with rfl | rfl | rfl | ⟨h0, h1⟩
  · rfl
  · rfl
  · rfl
  · obtain ⟨x, l, hx, hr⟩ := putS_first t h0 more
    have hs := sRes_put t 33 more (by omega) (by omega) (by constructor <;> (simp only [Nat.reduceSub, Int.reducePow]; omega))
    rw [hx] at hs ⊢
    unfold blockRes
    have hd : (x :: l).getD 0 0 = x := rfl
    rw [hs, hd, valOf_out x hr]
    simp only [List.length_cons]
    rw [if_neg (by omega), if_neg (by omega), if_neg (by omega), if_neg (by omega), if_neg (by omega), if_neg (by omega)]
theorem putS_len (t : Int) : 1 ≤ (putS t).length ∧ (putS t).length ≤ 10 := by
  have := putSf_len 9 t
  unfold putS
  omega
theorem putS_lt (t : Int) : ∀ x ∈ putS t, x < 256 := putSf_byte 9 t
end Go.Proofs.Ythhdbjpimjkekaa.Typ
