/-
  What is read of some bytes is read of them with anything behind them; cut, it is too short: plain lists. Conditions as each lemma says; nothing of the program.
-/
import Derived.Test.YthhdbjpimjkekaaTypFunc
namespace Go.Proofs.Ythhdbjpimjkekaa.Typ
open Go.RowKit Leb

theorem lead_pre (l l' : List Nat) (j : Nat) (h : lead l = j) (hj : j < l.length) (ht : l.take (j + 1) = l'.take (j + 1)) : lead l' = j ∧ j < l'.length := by
  induction l generalizing l' j with
  | nil => simp at hj
  | cons x l ih =>
    cases l' with
    | nil => simp at ht
    | cons y l' =>
      simp only [List.take_succ_cons, List.cons.injEq] at ht
      obtain ⟨rfl, ht⟩ := ht
      simp only [lead] at h ⊢
      by_cases hx : 128 ≤ x
      · rw [if_pos hx] at h ⊢
        cases j with
        | zero => omega
        | succ j =>
          obtain ⟨h1, h2⟩ := ih l' j (by omega) (by simpa using hj) ht
          exact ⟨by omega, by simp; omega⟩
      · rw [if_neg hx] at h ⊢
        subst h
        exact ⟨rfl, by simp⟩
theorem lead_cut (l : List Nat) (k : Nat) (h : k ≤ lead l) : lead (l.take k) = k := by
  induction l generalizing k with
  | nil => simp [lead] at h; subst h; rfl
  | cons x l ih =>
    cases k with
    | zero => rfl
    | succ k =>
      simp only [lead] at h
      by_cases hx : 128 ≤ x
      · rw [if_pos hx] at h
        simp only [List.take_succ_cons, lead]
        rw [if_pos hx, ih k (by omega)]
      · rw [if_neg hx] at h; omega
/-- Numbers: what was gathered. -/
theorem gath_is {l : List Nat} {m v s : Nat} (h : gath l m = (v, s, 0)) : lead l < m ∧ lead l < l.length ∧ s = lead l + 1 ∧ v = gv l (lead l + 1) := by
  unfold gath at h
  have hl := lead_le l
  by_cases h1 : m ≤ lead l
  · rw [if_pos h1] at h; simp at h
  · rw [if_neg h1] at h
    by_cases h2 : lead l = l.length
    · rw [if_pos h2] at h; simp at h
    · rw [if_neg h2] at h
      simp only [Prod.mk.injEq] at h
      exact ⟨by omega, by omega, h.2.1.symm, h.1.symm⟩
theorem gath_pre {l l' : List Nat} {m v s : Nat} (h : gath l m = (v, s, 0)) (ht : l.take s = l'.take s) : gath l' m = (v, s, 0) := by
  obtain ⟨h1, h2, rfl, rfl⟩ := gath_is h
  obtain ⟨e1, e2⟩ := lead_pre l l' (lead l) rfl h2 ht
  unfold gath
  rw [e1, if_neg (by omega), if_neg (by omega)]
  unfold gv
  rw [ht]
theorem gath_cut {l : List Nat} {m v s : Nat} (h : gath l m = (v, s, 0)) (k : Nat) (hk : k < s) : gath (l.take k) m = (0, 0, 1) := by
  obtain ⟨h1, h2, rfl, rfl⟩ := gath_is h
  have e := lead_cut l k (by omega)
  unfold gath
  rw [e, if_neg (by omega), if_pos (by simp; omega)]
theorem getD_pre {l l' : List Nat} {s : Nat} (ht : l.take s = l'.take s) (j : Nat) (hj : j < s) : l.getD j 0 = l'.getD j 0 := by
  have h1 : l.getD j 0 = (l.take s).getD j 0 := by simp [List.getD, hj]
  have h2 : l'.getD j 0 = (l'.take s).getD j 0 := by simp [List.getD, hj]
  rw [h1, h2, ht]
theorem uRes_is {l : List Nat} {n u s : Nat} (h : uRes l n = (u, s, 0)) : gath l (most n) = (u, s, 0) ∧ ¬ (s = most n ∧ l.getD (most n - 1) 0 / 2 ^ inl n ≠ 0) := by
  unfold uRes at h
  by_cases h1 : (gath l (most n)).2.2 = 0
  · rw [if_pos h1] at h
    by_cases h2 : (gath l (most n)).2.1 = most n ∧ l.getD (most n - 1) 0 / 2 ^ inl n ≠ 0
    · rw [if_pos h2] at h; simp at h
    · rw [if_neg h2] at h
      rw [h] at h2
      exact ⟨h, h2⟩
  · rw [if_neg h1] at h
    simp only [Prod.mk.injEq] at h
    exact absurd h.2.2 h1
theorem uRes_pre {l l' : List Nat} {n u s : Nat} (hn : 1 ≤ n) (h : uRes l n = (u, s, 0)) (ht : l.take s = l'.take s) : uRes l' n = (u, s, 0) := by
  obtain ⟨h1, h2⟩ := uRes_is h
  have hm : 1 ≤ most n := by unfold most; omega
  unfold uRes
  rw [gath_pre h1 ht]
  simp only [if_true]
  rw [if_neg]
  rintro ⟨h3, h4⟩
  rw [← getD_pre ht (most n - 1) (by omega)] at h4
  exact h2 ⟨h3, h4⟩
theorem uRes_cut {l : List Nat} {n u s : Nat} (h : uRes l n = (u, s, 0)) (k : Nat) (hk : k < s) : uRes (l.take k) n = (0, 0, 1) := by
  obtain ⟨h1, _⟩ := uRes_is h
  unfold uRes
  rw [gath_cut h1 k hk]
  simp
theorem takeVals_self (n : Nat) (l : List Nat) : takeVals n l = takeVals n (l.take n) := by
  induction n generalizing l with
  | zero => rfl
  | succ n ih =>
    cases l with
    | nil => rfl
    | cons c l => simp only [List.take_succ_cons, takeVals]; rw [← ih l]
theorem takeVals_pre {n : Nat} {l l' : List Nat} (ht : l.take n = l'.take n) : takeVals n l' = takeVals n l := by
  rw [takeVals_self n l', ← ht, ← takeVals_self]
theorem takeVals_cut (n : Nat) (l : List Nat) (h : (takeVals n l).2 = 0) (k : Nat) (hk : k < n) : takeVals n (l.take k) = ([], 1) := by
  induction n generalizing l k with
  | zero => omega
  | succ n ih =>
    cases l with
    | nil => simp [takeVals] at h
    | cons c l =>
      cases k with
      | zero => rfl
      | succ k =>
        simp only [takeVals] at h
        by_cases hv : (valOf c).2 ≠ 0
        · rw [if_pos hv] at h; exact absurd h hv
        · rw [if_neg hv] at h
          by_cases h2 : (takeVals n l).2 = 0
          · simp only [List.take_succ_cons, takeVals]
            rw [if_neg hv, ih l h2 k (by omega)]
            simp
          · rw [if_neg h2] at h; exact absurd h h2
theorem drop_take_pre {l l' : List Nat} {q : Nat} (ht : l.take q = l'.take q) (p s : Nat) (h : p + s ≤ q) : (l.drop p).take s = (l'.drop p).take s := by
  have h1 : (l.drop p).take s = ((l.take q).drop p).take s := by rw [List.drop_take, List.take_take, Nat.min_eq_left (by omega)]
  have h2 : (l'.drop p).take s = ((l'.take q).drop p).take s := by rw [List.drop_take, List.take_take, Nat.min_eq_left (by omega)]
  rw [h1, h2, ht]
/-- Types: what was read of how many. -/
theorem valsRes_is {l : List Nat} {p q : Nat} {xs : List Int} (h : valsRes l p = (xs, q, 0)) : ∃ u s, uRes (l.drop p) 32 = (u, s, 0) ∧ u ≤ 8 ∧ takeVals u (l.drop (p + s)) = (xs, 0) ∧ q = p + s + u := by
  unfold valsRes at h
  generalize hg : uRes (l.drop p) 32 = g at h
  obtain ⟨u, s, e⟩ := g
  simp only at h
  by_cases he : e = 0
  · subst he
    rw [if_neg (by simp)] at h
    by_cases hu : 8 < u
    · rw [if_pos hu] at h; simp at h
    · rw [if_neg hu] at h
      by_cases ht : (takeVals u (l.drop (p + s))).2 = 0
      · rw [if_pos ht] at h
        simp only [Prod.mk.injEq] at h
        exact ⟨u, s, rfl, by omega, by rw [← h.1, ← ht], h.2.1.symm⟩
      · rw [if_neg ht] at h
        simp only [Prod.mk.injEq] at h
        exact absurd h.2.2 ht
  · rw [if_pos he] at h
    simp only [Prod.mk.injEq] at h
    exact absurd h.2.2 he
theorem valsRes_mk {l : List Nat} {p u s : Nat} {xs : List Int} (h1 : uRes (l.drop p) 32 = (u, s, 0)) (h2 : u ≤ 8) (h3 : takeVals u (l.drop (p + s)) = (xs, 0)) : valsRes l p = (xs, p + s + u, 0) := by
  unfold valsRes
  rw [h1]
  simp only
  rw [h3]
  simp only [ne_eq, not_true_eq_false, if_false, if_true]
  rw [if_neg (by omega)]
theorem valsRes_pre {l l' : List Nat} {p q : Nat} {xs : List Int} (h : valsRes l p = (xs, q, 0)) (ht : l.take q = l'.take q) : valsRes l' p = (xs, q, 0) := by
  obtain ⟨u, s, h1, h2, h3, rfl⟩ := valsRes_is h
  refine valsRes_mk (uRes_pre (by omega) h1 (drop_take_pre ht p s (by omega))) h2 ?_
  rw [takeVals_pre (drop_take_pre ht (p + s) u (by omega)), h3]
theorem valsRes_cut {l : List Nat} {p q : Nat} {xs : List Int} (h : valsRes l p = (xs, q, 0)) (k : Nat) (hp : p ≤ k) (hk : k < q) : valsRes (l.take k) p = ([], 0, 1) := by
  obtain ⟨u, s, h1, h2, h3, rfl⟩ := valsRes_is h
  have hd : (l.take k).drop p = (l.drop p).take (k - p) := List.drop_take ..
  unfold valsRes
  rw [hd]
  by_cases hs : k - p < s
  · rw [uRes_cut h1 (k - p) hs]
    simp
  · have h4 : uRes ((l.drop p).take (k - p)) 32 = (u, s, 0) := uRes_pre (by omega) h1 (by rw [List.take_take, Nat.min_eq_left (by omega)])
    have hd2 : (l.take k).drop (p + s) = (l.drop (p + s)).take (k - (p + s)) := List.drop_take ..
    rw [h4]
    simp only
    rw [hd2, takeVals_cut u _ (by rw [h3]) (k - (p + s)) (by omega)]
    simp
    omega
theorem funcRes_is {l : List Nat} {ps rs : List Int} {n : Nat} (h : funcRes l = (ps, rs, n, 0)) : 1 ≤ l.length ∧ l.getD 0 0 = 96 ∧ ∃ q, valsRes l 1 = (ps, q, 0) ∧ valsRes l q = (rs, n, 0) ∧ 1 ≤ q ∧ q ≤ n ∧ n ≤ l.length := by
  unfold funcRes at h
  by_cases h0 : l.length < 1
  · rw [if_pos h0] at h; simp at h
  · rw [if_neg h0] at h
    by_cases h1 : l.getD 0 0 ≠ 96
    · rw [if_pos h1] at h; simp at h
    · rw [if_neg h1] at h
      by_cases h2 : (valsRes l 1).2.2 ≠ 0
      · rw [if_pos h2] at h
        simp only [Prod.mk.injEq] at h
        exact absurd h.2.2.2 h2
      · rw [if_neg h2] at h
        have h2' : (valsRes l 1).2.2 = 0 := by omega
        have ok1 := valsRes_ok l 1 (by omega) h2'
        by_cases h3 : (valsRes l (valsRes l 1).2.1).2.2 ≠ 0
        · rw [if_pos h3] at h
          simp only [Prod.mk.injEq] at h
          exact absurd h.2.2.2 h3
        · rw [if_neg h3] at h
          have h3' : (valsRes l (valsRes l 1).2.1).2.2 = 0 := by omega
          have ok2 := valsRes_ok l _ ok1.2.1 h3'
          simp only [Prod.mk.injEq] at h
          obtain ⟨e1, e2, e3, _⟩ := h
          refine ⟨by omega, by omega, (valsRes l 1).2.1, ?_, ?_, ok1.1, ?_, ?_⟩
          · rw [← e1, ← h2']
          · rw [← e2, ← e3, ← h3']
          · rw [← e3]; exact ok2.1
          · rw [← e3]; exact ok2.2.1
theorem funcRes_mk {l : List Nat} {ps rs : List Int} {n q : Nat} (h0 : 1 ≤ l.length) (h1 : l.getD 0 0 = 96) (h2 : valsRes l 1 = (ps, q, 0)) (h3 : valsRes l q = (rs, n, 0)) : funcRes l = (ps, rs, n, 0) := by
  unfold funcRes
  rw [if_neg (by omega), if_neg (by omega), h2]
  simp only
  rw [h3]
  simp
theorem funcRes_pre {l l' : List Nat} {ps rs : List Int} {n : Nat} (h : funcRes l = (ps, rs, n, 0)) (ht : l.take n = l'.take n) (hl : 1 ≤ l'.length) : funcRes l' = (ps, rs, n, 0) := by
  obtain ⟨h0, h1, q, h2, h3, h4, h5, h6⟩ := funcRes_is h
  have hq : l.take q = l'.take q := by
    have := drop_take_pre ht 0 q (by omega)
    simpa using this
  exact funcRes_mk hl (by rw [← getD_pre ht 0 (by omega)]; exact h1) (valsRes_pre h2 hq) (valsRes_pre h3 ht)
theorem funcRes_app {l : List Nat} {ps rs : List Int} {n : Nat} (h : funcRes l = (ps, rs, n, 0)) (more : List Nat) : funcRes (l ++ more) = (ps, rs, n, 0) := by
  obtain ⟨h0, _, _, _, _, _, _, h6⟩ := funcRes_is h
  exact funcRes_pre h (by rw [List.take_append_of_le_length h6]) (by simp; omega)
theorem funcRes_cut {l : List Nat} {ps rs : List Int} {n : Nat} (h : funcRes l = (ps, rs, n, 0)) (k : Nat) (hk : k < n) : funcRes (l.take k) = ([], [], 0, 1) := by
  obtain ⟨h0, h1, q, h2, h3, h4, h5, h6⟩ := funcRes_is h
  unfold funcRes
  by_cases hk0 : k = 0
  · subst hk0; simp
  have hl : (l.take k).length = k := by simp; omega
  have hg : (l.take k).getD 0 0 = 96 := by
    rw [← h1]
    simp [List.getD, show 0 < k by omega]
  rw [if_neg (by omega), if_neg (by omega)]
  by_cases hkq : k < q
  · rw [valsRes_cut h2 k (by omega) hkq]
    simp
  · have hv : valsRes (l.take k) 1 = (ps, q, 0) := valsRes_pre h2 (by rw [List.take_take, Nat.min_eq_left (by omega)])
    rw [hv]
    simp only
    rw [valsRes_cut h3 k (by omega) hk]
    simp
theorem funcRes_err (l : List Nat) (h : (funcRes l).2.2.2 ≠ 0) : funcRes l = ([], [], 0, (funcRes l).2.2.2) := by
  unfold funcRes at h ⊢
  split
  · rfl
  · rename_i h0
    rw [if_neg h0] at h
    split
    · rfl
    · rename_i h1
      rw [if_neg h1] at h
      split
      · rfl
      · rename_i h2
        rw [if_neg h2] at h
        split
        · rfl
        · rename_i h3
          rw [if_neg h3] at h
          simp at h
end Go.Proofs.Ythhdbjpimjkekaa.Typ
