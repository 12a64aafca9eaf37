/-
  Plain laws of texts of characters: two such texts are one together; a text that is cut is one just where no character is cut. No condition but those that each lemma names; nothing of the program.
-/
import Derived.Test.YteecpjaofekfdaaDoorUtfMath
namespace Go.Proofs.YteecpjaofekfdaaDoor.Utf

/-- The character at the head, of bytes that are cut. -/
theorem oneOf_cut (n a b c d m : Nat) (hm : m ≤ n) :
    oneOf n a b c d ≠ 0 → oneOf m (if 0 < m then a else 0) (if 1 < m then b else 0) (if 2 < m then c else 0) (if 3 < m then d else 0) = if oneOf n a b c d ≤ m then oneOf n a b c d else 0 := by
  intro h
  have hm5 : m = 0 ∨ m = 1 ∨ m = 2 ∨ m = 3 ∨ 3 < m := by omega
  rcases hm5 with rfl | rfl | rfl | rfl | h3
  · rw [if_neg (show ¬ oneOf n a b c d ≤ 0 by omega)]; rfl
  all_goals
    first
      | rw [if_pos (show 0 < m by omega), if_pos (show 1 < m by omega), if_pos (show 2 < m by omega), if_pos h3]
      | simp
    unfold oneOf at h ⊢
    repeat' split at h
    all_goals first
      | exact absurd rfl h
      | (repeat' split
         all_goals omega)
/-- .. and of bytes of which some are known to have one. -/
theorem oneOf_more (n a b c d m : Nat) (hm : m ≤ n) :
    oneOf m (if 0 < m then a else 0) (if 1 < m then b else 0) (if 2 < m then c else 0) (if 3 < m then d else 0) ≠ 0 →
    oneOf n a b c d = oneOf m (if 0 < m then a else 0) (if 1 < m then b else 0) (if 2 < m then c else 0) (if 3 < m then d else 0) := by
  intro h
  have hm5 : m = 0 ∨ m = 1 ∨ m = 2 ∨ m = 3 ∨ 3 < m := by omega
  rcases hm5 with rfl | rfl | rfl | rfl | h3
  · exact absurd rfl h
  all_goals
    first
      | rw [if_pos (show 0 < m by omega), if_pos (show 1 < m by omega), if_pos (show 2 < m by omega), if_pos h3] at h ⊢
      | simp at h ⊢
    unfold oneOf at h ⊢
    repeat' split at h
    all_goals first
      | exact absurd rfl h
      | (repeat' split
         all_goals omega)
theorem getD_take (l : List Nat) (m i : Nat) : (l.take m).getD i 0 = if i < m then l.getD i 0 else 0 := by
  by_cases h : i < m
  · rw [if_pos h]; simp [List.getD, h]
  · rw [if_neg h]; simp [List.getD, List.getElem?_take, h]
theorem one_take_eq (l : List Nat) (m : Nat) (hm : m ≤ l.length) : one (l.take m) = oneOf m (if 0 < m then l.getD 0 0 else 0) (if 1 < m then l.getD 1 0 else 0) (if 2 < m then l.getD 2 0 else 0) (if 3 < m then l.getD 3 0 else 0) := by
  unfold one
  rw [getD_take, getD_take, getD_take, getD_take, List.length_take, Nat.min_eq_left hm]
theorem one_take (l : List Nat) (m : Nat) (hm : m ≤ l.length) (h : one l ≠ 0) : one (l.take m) = if one l ≤ m then one l else 0 := by
  rw [one_take_eq l m hm]
  exact oneOf_cut _ _ _ _ _ m hm h
theorem one_append (a b : List Nat) (h : one a ≠ 0) : one (a ++ b) = one a := by
  have e : (a ++ b).take a.length = a := by simp
  have e1 := one_take_eq (a ++ b) a.length (by simp)
  rw [e] at e1
  rw [e1] at h ⊢
  exact oneOf_more _ _ _ _ _ _ (by simp) h
/-- A text of characters, and another text behind it. -/
theorem vld_append (n : Nat) (a b : List Nat) (hn : a.length ≤ n) (h : vld a = true) : vld (a ++ b) = vld b := by
  induction n generalizing a with
  | zero =>
    have : a = [] := List.eq_nil_of_length_eq_zero (by omega)
    subst this
    rfl
  | succ n ih =>
    cases a with
    | nil => rfl
    | cons x t =>
      have hs := vld_step (x :: t) (by simp)
      rw [h] at hs
      by_cases h1 : one (x :: t) = 0
      · rw [if_pos h1] at hs; cases hs
      · rw [if_neg h1] at hs
        have hle := one_le (x :: t)
        have ha := one_append (x :: t) b h1
        have hs2 := vld_step (x :: t ++ b) (by simp)
        rw [hs2, ha, if_neg h1, List.drop_append_of_le_length hle]
        exact ih _ (by simp only [List.length_drop, List.length_cons] at hn ⊢; omega) hs.symm
/-- What a character's bytes are. -/
theorem one_bytes (l : List Nat) (h : one l ≠ 0) : (l.getD 0 0 < 128 ∨ 192 ≤ l.getD 0 0) ∧ ∀ i, 0 < i → i < one l → 128 ≤ l.getD i 0 ∧ l.getD i 0 < 192 := by
  unfold one at h ⊢
  have h4 := (oneOf_le l.length (l.getD 0 0) (l.getD 1 0) (l.getD 2 0) (l.getD 3 0)).2
  constructor
  · unfold oneOf at h
    repeat' split at h
    all_goals first
      | exact absurd rfl h
      | omega
  · intro i hi hi1
    have hi3 : i = 1 ∨ i = 2 ∨ i = 3 := by omega
    unfold oneOf at hi1
    rcases hi3 with rfl | rfl | rfl
    all_goals
      repeat' split at hi1
      all_goals omega
/-- A text of characters that is cut is one just where no byte that goes on with a character stands behind the cut. -/
theorem vld_cut (n : Nat) (l : List Nat) (m : Nat) (hn : l.length ≤ n) (hm : m < l.length) (h : vld l = true) : vld (l.take m) = true ↔ (l.getD m 0 < 128 ∨ 192 ≤ l.getD m 0) := by
  induction n generalizing l m with
  | zero => omega
  | succ n ih =>
    have hne : l ≠ [] := by rintro rfl; simp at hm
    have hs := vld_step l hne
    rw [h] at hs
    by_cases h1 : one l = 0
    · rw [if_pos h1] at hs; cases hs
    · rw [if_neg h1] at hs
      have hle := one_le l
      obtain ⟨hb0, hbi⟩ := one_bytes l h1
      have ht := one_take l m (by omega) h1
      by_cases hm0 : m = 0
      · subst hm0
        simp only [List.take_zero]
        exact ⟨fun _ => hb0, fun _ => rfl⟩
      · have hne2 : l.take m ≠ [] := by
          intro he
          have := congrArg List.length he
          rw [List.length_take, List.length_nil] at this
          omega
        rw [vld_step (l.take m) hne2, ht]
        by_cases hk : one l ≤ m
        · rw [if_pos hk, if_neg h1, List.drop_take]
          have := ih (l.drop (one l)) (m - one l) (by simp; omega) (by simp; omega) hs.symm
          rw [this]
          have e : (l.drop (one l)).getD (m - one l) 0 = l.getD m 0 := by
            simp only [List.getD, List.getElem?_drop]
            rw [show one l + (m - one l) = m from by omega]
          rw [e]
        · rw [if_neg hk, if_pos rfl]
          have := hbi m (by omega) (by omega)
          constructor
          · intro hf; cases hf
          · intro hf; omega
end Go.Proofs.YteecpjaofekfdaaDoor.Utf
