/-
  What is read of instructions hangs on the bytes that it takes; cut, it is too short: plain lists. Conditions as each lemma says; nothing of the program.
-/
import Derived.Test.YtdipgokbfjbgfaaInsBody
import Derived.Test.YtdipgokbfjbgfaaTypPlain
namespace Go.Proofs.Ytdipgokbfjbgfaa.Ins
open Go.RowKit Leb Typ

theorem sRes_is {l : List Nat} {n s : Nat} {v : Int} (h : sRes l n = (v, s, 0)) : ∃ u, gath l (most n) = (u, s, 0) ∧ ¬ (s = most n ∧ csB (l.getD (most n - 1) 0 : Nat) (inl n : Nat) = false) ∧ v = ext u (s * 7) := by
  unfold sRes at h
  by_cases h1 : (gath l (most n)).2.2 = 0
  · rw [if_pos h1] at h
    by_cases h2 : (gath l (most n)).2.1 = most n ∧ csB (l.getD (most n - 1) 0 : Nat) (inl n : Nat) = false
    · rw [if_pos h2] at h; simp at h
    · rw [if_neg h2] at h
      simp only [Prod.mk.injEq] at h
      obtain ⟨e1, e2, _⟩ := h
      refine ⟨(gath l (most n)).1, by rw [← e2, ← h1], by rw [← e2]; exact h2, by rw [← e1, ← e2]⟩
  · rw [if_neg h1] at h
    simp only [Prod.mk.injEq] at h
    exact absurd h.2.2 h1
theorem sRes_pre {l l' : List Nat} {n s : Nat} {v : Int} (hn : 1 ≤ n) (h : sRes l n = (v, s, 0)) (ht : l.take s = l'.take s) : sRes l' n = (v, s, 0) := by
  obtain ⟨u, h1, h2, rfl⟩ := sRes_is h
  have hm : 1 ≤ most n := by unfold most; omega
  unfold sRes
  rw [gath_pre h1 ht]
  simp only [if_true]
  rw [if_neg]
  rintro ⟨h3, h4⟩
  rw [← getD_pre ht (most n - 1) (by omega)] at h4
  exact h2 ⟨h3, h4⟩
theorem sRes_cut {l : List Nat} {n s : Nat} {v : Int} (h : sRes l n = (v, s, 0)) (k : Nat) (hk : k < s) : sRes (l.take k) n = (0, 0, 1) := by
  obtain ⟨u, h1, _⟩ := sRes_is h
  unfold sRes
  rw [gath_cut h1 k hk]
  simp
theorem sRes_le {l : List Nat} {n s : Nat} {v : Int} (h : sRes l n = (v, s, 0)) : 1 ≤ s ∧ s ≤ l.length := by
  obtain ⟨u, h1, _⟩ := sRes_is h
  obtain ⟨_, h3, rfl, _⟩ := gath_is h1
  omega
theorem uRes_le {l : List Nat} {n s u : Nat} (h : uRes l n = (u, s, 0)) : 1 ≤ s ∧ s ≤ l.length := by
  obtain ⟨h1, _⟩ := uRes_is h
  obtain ⟨_, h3, rfl, _⟩ := gath_is h1
  omega
/-- A block's type: which way it was read. -/
theorem blockRes_is {l : List Nat} {s : Nat} {t : Int} (h : blockRes l = (t, s, 0)) : 1 ≤ l.length ∧ ((s = 1 ∧ ((l.getD 0 0 = 64 ∧ t = -64) ∨ (l.getD 0 0 ≠ 64 ∧ (Typ.valOf (l.getD 0 0)).2 = 0 ∧ t = (l.getD 0 0 : Int) - 128))) ∨ (l.getD 0 0 ≠ 64 ∧ (Typ.valOf (l.getD 0 0)).2 ≠ 3 ∧ (Typ.valOf (l.getD 0 0)).2 ≠ 0 ∧ sRes l 33 = (t, s, 0) ∧ 0 ≤ t)) := by
  unfold blockRes at h
  by_cases h0 : l.length < 1
  · rw [if_pos h0] at h; simp at h
  rw [if_neg h0] at h
  refine ⟨by omega, ?_⟩
  by_cases h1 : l.getD 0 0 = 64
  · rw [if_pos h1] at h
    simp only [Prod.mk.injEq] at h
    exact .inl ⟨h.2.1.symm, .inl ⟨h1, h.1.symm⟩⟩
  rw [if_neg h1] at h
  by_cases h2 : (Typ.valOf (l.getD 0 0)).2 = 3
  · rw [if_pos h2] at h; simp at h
  rw [if_neg h2] at h
  by_cases h3 : (Typ.valOf (l.getD 0 0)).2 = 0
  · rw [if_pos h3] at h
    simp only [Prod.mk.injEq] at h
    exact .inl ⟨h.2.1.symm, .inr ⟨h1, h3, h.1.symm⟩⟩
  rw [if_neg h3] at h
  by_cases h4 : (sRes l 33).2.2 ≠ 0
  · rw [if_pos h4] at h
    simp only [Prod.mk.injEq] at h
    exact absurd h.2.2 h4
  rw [if_neg h4] at h
  by_cases h5 : (sRes l 33).1 < 0
  · rw [if_pos h5] at h; simp at h
  rw [if_neg h5] at h
  simp only [Prod.mk.injEq] at h
  refine .inr ⟨h1, h2, h3, ?_, by rw [← h.1]; omega⟩
  rw [← h.1, ← h.2.1]
  have : (sRes l 33).2.2 = 0 := by omega
  rw [← this]
theorem blockRes_mk {l : List Nat} {s : Nat} {t : Int} (h0 : 1 ≤ l.length) (h : ((s = 1 ∧ ((l.getD 0 0 = 64 ∧ t = -64) ∨ (l.getD 0 0 ≠ 64 ∧ (Typ.valOf (l.getD 0 0)).2 = 0 ∧ t = (l.getD 0 0 : Int) - 128))) ∨ (l.getD 0 0 ≠ 64 ∧ (Typ.valOf (l.getD 0 0)).2 ≠ 3 ∧ (Typ.valOf (l.getD 0 0)).2 ≠ 0 ∧ sRes l 33 = (t, s, 0) ∧ 0 ≤ t))) : blockRes l = (t, s, 0) := by
  unfold blockRes
  rw [if_neg (by omega)]
  rcases h with ⟨rfl, ⟨h1, rfl⟩ | ⟨h1, h2, rfl⟩⟩ | ⟨h1, h2, h3, h4, h5⟩
  · rw [if_pos h1]
  · rw [if_neg h1, if_neg (by omega), if_pos h2]
  · rw [if_neg h1, if_neg h2, if_neg h3, h4]
    simp only [ne_eq, not_true_eq_false, if_false]
    rw [if_neg (by omega)]
theorem blockRes_le {l : List Nat} {s : Nat} {t : Int} (h : blockRes l = (t, s, 0)) : 1 ≤ s ∧ s ≤ l.length := by
  obtain ⟨h0, ⟨rfl, _⟩ | ⟨_, _, _, h4, _⟩⟩ := blockRes_is h
  · omega
  · exact sRes_le h4
theorem take_len {l l' : List Nat} {s : Nat} (ht : l.take s = l'.take s) (h : s ≤ l.length) : s ≤ l'.length := by
  have := congrArg List.length ht
  simp only [List.length_take] at this
  omega
theorem blockRes_pre {l l' : List Nat} {s : Nat} {t : Int} (h : blockRes l = (t, s, 0)) (ht : l.take s = l'.take s) : blockRes l' = (t, s, 0) := by
  have hle := blockRes_le h
  have hl' := take_len ht hle.2
  have hg := getD_pre ht 0 (by omega)
  obtain ⟨h0, h1⟩ := blockRes_is h
  rw [hg] at h1
  refine blockRes_mk (by omega) ?_
  rcases h1 with h1 | ⟨h1, h2, h3, h4, h5⟩
  · exact .inl h1
  · exact .inr ⟨h1, h2, h3, sRes_pre (by omega) h4 ht, h5⟩
theorem blockRes_cut {l : List Nat} {s : Nat} {t : Int} (h : blockRes l = (t, s, 0)) (k : Nat) (hk : k < s) : blockRes (l.take k) = (0, 0, 1) := by
  obtain ⟨h0, h1⟩ := blockRes_is h
  unfold blockRes
  by_cases hk0 : k = 0
  · subst hk0; simp
  have hl : (l.take k).length = min k l.length := List.length_take
  have hg : (l.take k).getD 0 0 = l.getD 0 0 := by simp [List.getD, show 0 < k by omega]
  rw [if_neg (by omega), hg]
  rcases h1 with ⟨h1, _⟩ | ⟨h1, h2, h3, h4, h5⟩
  · omega
  · rw [if_neg h1, if_neg h2, if_neg h3, sRes_cut h4 k hk]
    simp
/-- Labels. -/
theorem readLabels_succ (bs : List Nat) (n p u s : Nat) (h : uRes (bs.drop p) 32 = (u, s, 0)) : readLabels bs (n + 1) p = if (readLabels bs n (p + s)).2.2 ≠ 0 then ([], 0, (readLabels bs n (p + s)).2.2) else ((u : Int) :: (readLabels bs n (p + s)).1, (readLabels bs n (p + s)).2.1, 0) := by
  simp only [readLabels]
  rw [h]
  simp
theorem readLabels_is {bs : List Nat} {n p q : Nat} {xs : List Int} (h : readLabels bs (n + 1) p = (xs, q, 0)) : ∃ u s ys, uRes (bs.drop p) 32 = (u, s, 0) ∧ readLabels bs n (p + s) = (ys, q, 0) ∧ xs = (u : Int) :: ys := by
  generalize hg : uRes (bs.drop p) 32 = g
  obtain ⟨u, s, e⟩ := g
  by_cases he : e = 0
  · subst he
    rw [readLabels_succ bs n p u s hg] at h
    by_cases h2 : (readLabels bs n (p + s)).2.2 ≠ 0
    · rw [if_pos h2] at h
      simp only [Prod.mk.injEq] at h
      exact absurd h.2.2 h2
    · rw [if_neg h2] at h
      simp only [Prod.mk.injEq] at h
      have h3 : (readLabels bs n (p + s)).2.2 = 0 := by omega
      exact ⟨u, s, (readLabels bs n (p + s)).1, rfl, by rw [← h.2.1, ← h3], h.1.symm⟩
  · simp only [readLabels] at h
    rw [hg, if_pos he] at h
    simp only [Prod.mk.injEq] at h
    exact absurd h.2.2 he
theorem readLabels_le {bs : List Nat} {n p q : Nat} {xs : List Int} (h : readLabels bs n p = (xs, q, 0)) (hp : p ≤ bs.length) : p ≤ q ∧ q ≤ bs.length := by
  induction n generalizing p xs with
  | zero =>
    simp only [readLabels, Prod.mk.injEq] at h
    omega
  | succ n ih =>
    obtain ⟨u, s, ys, h1, h2, _⟩ := readLabels_is h
    have hl := uRes_le h1
    rw [List.length_drop] at hl
    have := ih h2 (by omega)
    omega
theorem readLabels_pre {bs bs' : List Nat} {n p q : Nat} {xs : List Int} (h : readLabels bs n p = (xs, q, 0)) (hp : p ≤ bs.length) (ht : bs.take q = bs'.take q) : readLabels bs' n p = (xs, q, 0) := by
  induction n generalizing p xs with
  | zero => simpa [readLabels] using h
  | succ n ih =>
    obtain ⟨u, s, ys, h1, h2, rfl⟩ := readLabels_is h
    have hl := uRes_le h1
    rw [List.length_drop] at hl
    have hq := readLabels_le h2 (by omega)
    have h3 : uRes (bs'.drop p) 32 = (u, s, 0) := uRes_pre (by omega) h1 (drop_take_pre ht p s (by omega))
    rw [readLabels_succ bs' n p u s h3, ih h2 (by omega)]
    simp
theorem readLabels_cut {bs : List Nat} {n p q : Nat} {xs : List Int} (h : readLabels bs n p = (xs, q, 0)) (hp : p ≤ bs.length) (k : Nat) (hpk : p ≤ k) (hk : k < q) : readLabels (bs.take k) n p = ([], 0, 1) := by
  induction n generalizing p xs with
  | zero =>
    simp only [readLabels, Prod.mk.injEq] at h
    omega
  | succ n ih =>
    obtain ⟨u, s, ys, h1, h2, rfl⟩ := readLabels_is h
    have hl := uRes_le h1
    rw [List.length_drop] at hl
    have hd : (bs.take k).drop p = (bs.drop p).take (k - p) := List.drop_take ..
    by_cases hs : k - p < s
    · simp only [readLabels]
      rw [hd, uRes_cut h1 (k - p) hs]
      simp
    · have h3 : uRes ((bs.take k).drop p) 32 = (u, s, 0) := by rw [hd]; exact uRes_pre (by omega) h1 (by rw [List.take_take, Nat.min_eq_left (by omega)])
      rw [readLabels_succ _ n p u s h3, ih h2 (by omega) (by omega)]
      simp
theorem readPart_l_is {bs : List Nat} {p q : Nat} {x y : Ins} (h : readPart bs p x .l = (y, q, 0)) : ∃ n s, uRes (bs.drop p) 32 = (n, s, 0) ∧ n ≤ 64 ∧ ∃ xs, readLabels bs n (p + s) = (xs, q, 0) ∧ y = { x with l := xs } := by
  generalize hg : uRes (bs.drop p) 32 = g
  obtain ⟨n, s, e⟩ := g
  by_cases he : e = 0
  · subst he
    by_cases hn : 64 < n
    · simp only [readPart] at h
      rw [hg] at h
      rw [if_neg (by simp), if_pos hn] at h
      simp at h
    · rw [readPart_l bs p n s x hg (by omega)] at h
      simp only [Prod.mk.injEq] at h
      refine ⟨n, s, rfl, by omega, (readLabels bs n (p + s)).1, ?_, h.1.symm⟩
      rw [← h.2.1, ← h.2.2]
  · simp only [readPart] at h
    rw [hg] at h
    rw [if_pos he] at h
    simp only [Prod.mk.injEq] at h
    exact absurd h.2.2 he
theorem drop_len (bs : List Nat) (p s : Nat) (hp : p ≤ bs.length) (h : s ≤ (bs.drop p).length) : p + s ≤ bs.length := by
  rw [List.length_drop] at h; omega
theorem eta3 {α β : Type} {r : α × β × Nat} (h : r.2.2 = 0) : r = (r.1, r.2.1, 0) := by rw [← h]
/-- A part that was read: where it ends; that it hangs on these bytes alone; that it is too short when it is cut. -/
theorem readPart_le {bs : List Nat} {p q : Nat} {x y : Ins} {r : Part} (h : readPart bs p x r = (y, q, 0)) (hp : p ≤ bs.length) : p < q ∧ q ≤ bs.length := by
  cases r with
  | t =>
    simp only [readPart, Prod.mk.injEq] at h
    have := blockRes_le (eta3 h.2.2)
    have := drop_len bs p _ hp this.2
    omega
  | a =>
    simp only [readPart, Prod.mk.injEq] at h
    have := uRes_le (eta3 h.2.2)
    have := drop_len bs p _ hp this.2
    omega
  | b =>
    simp only [readPart, Prod.mk.injEq] at h
    have := uRes_le (eta3 h.2.2)
    have := drop_len bs p _ hp this.2
    omega
  | l =>
    obtain ⟨n, s, h1, _, xs, h3, _⟩ := readPart_l_is h
    have h4 := uRes_le h1
    have h5 := drop_len bs p _ hp h4.2
    have := readLabels_le h3 h5
    omega
  | k =>
    simp only [readPart, Prod.mk.injEq] at h
    have := sRes_le (eta3 h.2.2)
    have := drop_len bs p _ hp this.2
    omega
  | kk =>
    simp only [readPart, Prod.mk.injEq] at h
    have := sRes_le (eta3 h.2.2)
    have := drop_len bs p _ hp this.2
    omega
  | z =>
    simp only [readPart, Prod.mk.injEq] at h
    obtain ⟨_, rfl, h3⟩ := h
    by_cases hl : bs.length ≤ p
    · rw [if_pos hl] at h3; omega
    · omega
theorem readPart_pre {bs bs' : List Nat} {p q : Nat} {x y : Ins} {r : Part} (h : readPart bs p x r = (y, q, 0)) (hp : p ≤ bs.length) (ht : bs.take q = bs'.take q) : readPart bs' p x r = (y, q, 0) := by
  have hle := readPart_le h hp
  cases r with
  | t =>
    simp only [readPart, Prod.mk.injEq] at h ⊢
    have e := blockRes_pre (eta3 h.2.2) (drop_take_pre ht p _ (by omega))
    rw [e]
    exact ⟨h.1, h.2.1, rfl⟩
  | a =>
    simp only [readPart, Prod.mk.injEq] at h ⊢
    have e := uRes_pre (by omega) (eta3 h.2.2) (drop_take_pre ht p _ (by omega))
    rw [e]
    exact ⟨h.1, h.2.1, rfl⟩
  | b =>
    simp only [readPart, Prod.mk.injEq] at h ⊢
    have e := uRes_pre (by omega) (eta3 h.2.2) (drop_take_pre ht p _ (by omega))
    rw [e]
    exact ⟨h.1, h.2.1, rfl⟩
  | l =>
    obtain ⟨n, s, h1, h2, xs, h3, rfl⟩ := readPart_l_is h
    have h4 := uRes_le h1
    have h5 := drop_len bs p _ hp h4.2
    have h6 := readLabels_le h3 h5
    have e := uRes_pre (by omega) h1 (drop_take_pre ht p s (by omega))
    rw [readPart_l bs' p n s x e h2, readLabels_pre h3 h5 ht]
  | k =>
    simp only [readPart, Prod.mk.injEq] at h ⊢
    have e := sRes_pre (by omega) (eta3 h.2.2) (drop_take_pre ht p _ (by omega))
    rw [e]
    exact ⟨h.1, h.2.1, rfl⟩
  | kk =>
    simp only [readPart, Prod.mk.injEq] at h ⊢
    have e := sRes_pre (by omega) (eta3 h.2.2) (drop_take_pre ht p _ (by omega))
    rw [e]
    exact ⟨h.1, h.2.1, rfl⟩
  | z =>
    have hl' := take_len ht hle.2
    simp only [readPart, Prod.mk.injEq] at h ⊢
    refine ⟨h.1, h.2.1, ?_⟩
    have h3 := h.2.2
    rw [if_neg (by omega)] at h3
    rw [if_neg (by omega), ← getD_pre ht p (by omega)]
    exact h3
theorem readPart_cut {bs : List Nat} {p q : Nat} {x y : Ins} {r : Part} (h : readPart bs p x r = (y, q, 0)) (hp : p ≤ bs.length) (k : Nat) (hpk : p ≤ k) (hk : k < q) : (readPart (bs.take k) p x r).2.2 = 1 := by
  have hle := readPart_le h hp
  have hd : (bs.take k).drop p = (bs.drop p).take (k - p) := List.drop_take ..
  cases r with
  | t =>
    simp only [readPart, Prod.mk.injEq] at h ⊢
    rw [hd, blockRes_cut (eta3 h.2.2) (k - p) (by omega)]
  | a =>
    simp only [readPart, Prod.mk.injEq] at h ⊢
    rw [hd, uRes_cut (eta3 h.2.2) (k - p) (by omega)]
  | b =>
    simp only [readPart, Prod.mk.injEq] at h ⊢
    rw [hd, uRes_cut (eta3 h.2.2) (k - p) (by omega)]
  | l =>
    obtain ⟨n, s, h1, h2, xs, h3, rfl⟩ := readPart_l_is h
    have h4 := uRes_le h1
    have h5 := drop_len bs p _ hp h4.2
    by_cases hs : k - p < s
    · simp only [readPart]
      rw [hd, uRes_cut h1 (k - p) hs]
      simp
    · have e : uRes ((bs.take k).drop p) 32 = (n, s, 0) := by rw [hd]; exact uRes_pre (by omega) h1 (by rw [List.take_take, Nat.min_eq_left (by omega)])
      rw [readPart_l _ p n s x e h2, readLabels_cut h3 h5 k (by omega) hk]
  | k =>
    simp only [readPart, Prod.mk.injEq] at h ⊢
    rw [hd, sRes_cut (eta3 h.2.2) (k - p) (by omega)]
  | kk =>
    simp only [readPart, Prod.mk.injEq] at h ⊢
    rw [hd, sRes_cut (eta3 h.2.2) (k - p) (by omega)]
  | z =>
    simp only [readPart, Prod.mk.injEq] at h ⊢
    rw [if_pos (by rw [List.length_take]; omega)]
theorem readParts_cons {bs : List Nat} {p q : Nat} {x y : Ins} {r : Part} (rs : List Part) (h : readPart bs p x r = (y, q, 0)) : readParts bs (r :: rs) p x = readParts bs rs q y := by
  simp only [readParts]
  rw [h]
  simp
theorem readParts_is {bs : List Nat} {p q : Nat} {x y : Ins} {r : Part} {rs : List Part} (h : readParts bs (r :: rs) p x = (y, q, 0)) : ∃ z m, readPart bs p x r = (z, m, 0) ∧ readParts bs rs m z = (y, q, 0) := by
  by_cases he : (readPart bs p x r).2.2 = 0
  · refine ⟨_, _, eta3 he, ?_⟩
    rw [readParts_cons rs (eta3 he)] at h
    exact h
  · simp only [readParts] at h
    rw [if_pos he] at h
    simp only [Prod.mk.injEq] at h
    exact absurd h.2.2 he
theorem readParts_le {bs : List Nat} {rs : List Part} {p q : Nat} {x y : Ins} (h : readParts bs rs p x = (y, q, 0)) (hp : p ≤ bs.length) : p ≤ q ∧ q ≤ bs.length := by
  induction rs generalizing p x with
  | nil => simp only [readParts, Prod.mk.injEq] at h; omega
  | cons r rs ih =>
    obtain ⟨z, m, h1, h2⟩ := readParts_is h
    have h3 := readPart_le h1 hp
    have := ih h2 (by omega)
    omega
theorem take_le {l l' : List Nat} {s k : Nat} (ht : l.take s = l'.take s) (h : k ≤ s) : l.take k = l'.take k := by
  have := drop_take_pre ht 0 k (by omega)
  simpa using this
theorem readParts_pre {bs bs' : List Nat} {rs : List Part} {p q : Nat} {x y : Ins} (h : readParts bs rs p x = (y, q, 0)) (hp : p ≤ bs.length) (ht : bs.take q = bs'.take q) : readParts bs' rs p x = (y, q, 0) := by
  induction rs generalizing p x with
  | nil => simpa [readParts] using h
  | cons r rs ih =>
    obtain ⟨z, m, h1, h2⟩ := readParts_is h
    have h3 := readPart_le h1 hp
    have h4 := readParts_le h2 (by omega)
    rw [readParts_cons rs (readPart_pre h1 hp (take_le ht (by omega)))]
    exact ih h2 (by omega)
theorem readParts_cut {bs : List Nat} {rs : List Part} {p q : Nat} {x y : Ins} (h : readParts bs rs p x = (y, q, 0)) (hp : p ≤ bs.length) (k : Nat) (hpk : p ≤ k) (hk : k < q) : readParts (bs.take k) rs p x = (zeroIns, 0, 1) := by
  induction rs generalizing p x with
  | nil => simp only [readParts, Prod.mk.injEq] at h; omega
  | cons r rs ih =>
    obtain ⟨z, m, h1, h2⟩ := readParts_is h
    have h3 := readPart_le h1 hp
    by_cases hm : k < m
    · simp only [readParts]
      rw [readPart_cut h1 hp k hpk hm]
      simp
    · rw [readParts_cons rs (readPart_pre h1 hp (by rw [List.take_take, Nat.min_eq_left (by omega)]))]
      exact ih h2 (by omega) (by omega)
theorem readRest_is {bs : List Nat} {op : Int} {p q : Nat} {y : Ins} (h : readRest bs op p = (y, q, 0)) : ∃ qs, pat op = some (some qs) ∧ readParts bs qs p { zeroIns with op := op } = (y, q, 0) := by
  unfold readRest at h
  cases hp : pat op with
  | none => rw [hp] at h; simp at h
  | some o =>
    rw [hp] at h
    cases o with
    | none => simp at h
    | some qs => exact ⟨qs, rfl, h⟩
theorem readRest_mk {bs : List Nat} {op : Int} {p : Nat} {qs : List Part} (h : pat op = some (some qs)) : readRest bs op p = readParts bs qs p { zeroIns with op := op } := by
  unfold readRest
  rw [h]
/-- An instruction that was read: how its code stands there. -/
theorem oneRes_is {bs : List Nat} {p q : Nat} {y : Ins} (h : oneRes bs p = (y, q, 0)) : p < bs.length ∧ ((bs.getD p 0 = 252 ∧ ∃ n s, uRes (bs.drop (p + 1)) 32 = (n, s, 0) ∧ n ≤ 255 ∧ readRest bs (256 + (n : Int)) (p + 1 + s) = (y, q, 0)) ∨ (bs.getD p 0 ≠ 252 ∧ readRest bs (bs.getD p 0 : Int) (p + 1) = (y, q, 0))) := by
  unfold oneRes at h
  by_cases h0 : bs.length ≤ p
  · rw [if_pos h0] at h; simp at h
  rw [if_neg h0] at h
  refine ⟨by omega, ?_⟩
  by_cases h1 : bs.getD p 0 = 252
  · rw [if_pos h1] at h
    generalize hg : uRes (bs.drop (p + 1)) 32 = g at h
    obtain ⟨n, s, e⟩ := g
    simp only at h
    by_cases he : e = 0
    · subst he
      rw [if_neg (by simp)] at h
      by_cases hn : 255 < n
      · rw [if_pos hn] at h; simp at h
      · rw [if_neg hn] at h
        exact .inl ⟨h1, n, s, rfl, by omega, h⟩
    · rw [if_pos he] at h
      simp only [Prod.mk.injEq] at h
      exact absurd h.2.2 he
  · rw [if_neg h1] at h
    exact .inr ⟨h1, h⟩
theorem oneRes_ext {bs : List Nat} {p n s : Nat} (hp : p < bs.length) (h1 : bs.getD p 0 = 252) (h2 : uRes (bs.drop (p + 1)) 32 = (n, s, 0)) (h3 : n ≤ 255) : oneRes bs p = readRest bs (256 + (n : Int)) (p + 1 + s) := by
  unfold oneRes
  rw [if_neg (by omega), if_pos h1, h2]
  simp only [ne_eq, not_true_eq_false, if_false]
  rw [if_neg (by omega)]
theorem oneRes_byte {bs : List Nat} {p : Nat} (hp : p < bs.length) (h1 : bs.getD p 0 ≠ 252) : oneRes bs p = readRest bs (bs.getD p 0 : Int) (p + 1) := by
  unfold oneRes
  rw [if_neg (by omega), if_neg h1]
theorem oneRes_le {bs : List Nat} {p q : Nat} {y : Ins} (h : oneRes bs p = (y, q, 0)) : p < q ∧ q ≤ bs.length := by
  obtain ⟨hp, ⟨_, n, s, h2, _, h4⟩ | ⟨_, h4⟩⟩ := oneRes_is h
  · obtain ⟨qs, _, h5⟩ := readRest_is h4
    have h6 := uRes_le h2
    have h7 := drop_len bs (p + 1) s (by omega) h6.2
    have := readParts_le h5 h7
    omega
  · obtain ⟨qs, _, h5⟩ := readRest_is h4
    have := readParts_le h5 (by omega)
    omega
theorem one_pre {bs bs' : List Nat} {p q : Nat} {y : Ins} (h : oneRes bs p = (y, q, 0)) (ht : bs.take q = bs'.take q) : oneRes bs' p = (y, q, 0) := by
  have hle := oneRes_le h
  have hl' := take_len ht hle.2
  have hg := getD_pre ht p (by omega)
  obtain ⟨hp, ⟨h1, n, s, h2, h3, h4⟩ | ⟨h1, h4⟩⟩ := oneRes_is h
  · obtain ⟨qs, h6, h5⟩ := readRest_is h4
    have h7 := uRes_le h2
    have h8 := drop_len bs (p + 1) s (by omega) h7.2
    have h9 := readParts_le h5 h8
    rw [oneRes_ext (by omega) (by rw [← hg]; exact h1) (uRes_pre (by omega) h2 (drop_take_pre ht (p + 1) s (by omega))) h3, readRest_mk h6]
    exact readParts_pre h5 h8 ht
  · obtain ⟨qs, h6, h5⟩ := readRest_is h4
    rw [oneRes_byte (by omega) (by rw [← hg]; exact h1), ← hg, readRest_mk h6]
    exact readParts_pre h5 (by omega) ht
theorem one_cut {bs : List Nat} {p q : Nat} {y : Ins} (h : oneRes bs p = (y, q, 0)) (k : Nat) (hpk : p ≤ k) (hk : k < q) : oneRes (bs.take k) p = (zeroIns, 0, 1) := by
  have hle := oneRes_le h
  have hlk : (bs.take k).length = k := by rw [List.length_take]; omega
  by_cases hpe : k = p
  · unfold oneRes
    rw [if_pos (by omega)]
  have hg : (bs.take k).getD p 0 = bs.getD p 0 := by simp [List.getD, show p < k by omega]
  have hd : (bs.take k).drop (p + 1) = (bs.drop (p + 1)).take (k - (p + 1)) := List.drop_take ..
  obtain ⟨hp, ⟨h1, n, s, h2, h3, h4⟩ | ⟨h1, h4⟩⟩ := oneRes_is h
  · obtain ⟨qs, h6, h5⟩ := readRest_is h4
    have h7 := uRes_le h2
    have h8 := drop_len bs (p + 1) s (by omega) h7.2
    by_cases hs : k - (p + 1) < s
    · unfold oneRes
      rw [if_neg (by omega), if_pos (by rw [hg]; exact h1), hd, uRes_cut h2 (k - (p + 1)) hs]
      simp
    · have e : uRes ((bs.take k).drop (p + 1)) 32 = (n, s, 0) := by rw [hd]; exact uRes_pre (by omega) h2 (by rw [List.take_take, Nat.min_eq_left (by omega)])
      rw [oneRes_ext (by omega) (by rw [hg]; exact h1) e h3, readRest_mk h6]
      exact readParts_cut h5 h8 k (by omega) hk
  · obtain ⟨qs, h6, h5⟩ := readRest_is h4
    rw [oneRes_byte (by omega) (by rw [hg]; exact h1), hg, readRest_mk h6]
    exact readParts_cut h5 (by omega) k (by omega) hk
/-- A body that was read: its first instruction, and the others. -/
theorem bodyF_is {bs : List Nat} {f n p q : Nat} {st : List Nat} {l : List Ins} (h : bodyF bs (f + 1) n st p = (l, q, 0)) : ∃ x m, oneRes bs p = (x, m, 0) ∧ n ≠ 2000 ∧ ((blocks x.op st = (0, none) ∧ l = [x] ∧ q = m) ∨ ∃ e st' xs, blocks x.op st = (e, some st') ∧ bodyF bs f (n + 1) st' m = (xs, q, 0) ∧ l = x :: xs) := by
  simp only [bodyF] at h
  by_cases he : (oneRes bs p).2.2 = 0
  · have h1 := eta3 he
    generalize (oneRes bs p).1 = x at h h1
    generalize (oneRes bs p).2.1 = m at h h1
    rw [if_neg (by omega)] at h
    by_cases hn : n = 2000
    · rw [if_pos hn] at h; simp at h
    · rw [if_neg hn] at h
      refine ⟨x, m, h1, hn, ?_⟩
      generalize hb : blocks x.op st = g at h
      obtain ⟨e, o⟩ := g
      cases o with
      | none =>
        simp only at h
        by_cases h2 : e = 0
        · subst h2
          rw [if_pos rfl] at h
          simp only [Prod.mk.injEq] at h
          exact .inl ⟨rfl, h.1.symm, h.2.1.symm⟩
        · rw [if_neg h2] at h
          simp only [Prod.mk.injEq] at h
          exact absurd h.2.2 h2
      | some st' =>
        simp only at h
        by_cases h2 : (bodyF bs f (n + 1) st' m).2.2 = 0
        · rw [if_pos h2] at h
          simp only [Prod.mk.injEq] at h
          refine .inr ⟨e, st', (bodyF bs f (n + 1) st' m).1, rfl, ?_, h.1.symm⟩
          rw [← h.2.1]
          exact eta3 h2
        · rw [if_neg h2] at h
          simp only [Prod.mk.injEq] at h
          exact absurd h.2.2 h2
  · rw [if_pos he] at h
    simp only [Prod.mk.injEq] at h
    exact absurd h.2.2 he
theorem body_cut {bs : List Nat} {f g n p q : Nat} {st : List Nat} {l : List Ins} (h : bodyF bs f n st p = (l, q, 0)) (hn : n ≤ 2000) (k : Nat) (hpk : p ≤ k) (hk : k < q) : bodyF (bs.take k) g n st p = ([], 0, 1) := by
  induction g generalizing f n p st l with
  | zero => rfl
  | succ g ih =>
    cases f with
    | zero => simp [bodyF] at h
    | succ f =>
      obtain ⟨x, m, h1, h2, h3⟩ := bodyF_is h
      have hm := oneRes_le h1
      by_cases hkm : k < m
      · simp only [bodyF]
        rw [one_cut h1 k hpk hkm]
        simp
      · have e := one_pre h1 (bs' := bs.take k) (by rw [List.take_take, Nat.min_eq_left (by omega)])
        rw [bodyF_step _ g n p m st x e (by omega)]
        rcases h3 with ⟨_, _, rfl⟩ | ⟨er, st', xs, hb, h4, _⟩
        · omega
        · rw [hb]
          simp only
          rw [ih h4 (by omega) (by omega)]
          simp
theorem bodyRes_cut {bs : List Nat} {l : List Ins} {q : Nat} (h : bodyRes bs = (l, q, 0)) (k : Nat) (hk : k < q) : bodyRes (bs.take k) = ([], 0, 1) := body_cut h (by omega) k (by omega) hk
end Go.Proofs.Ytdipgokbfjbgfaa.Ins
