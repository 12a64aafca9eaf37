/-
  Sections in plain words: what is cut; what has a custom section more. Conditions as each lemma says; nothing of the program.
-/
import Derived.Test.YtelcoeeijkainaaDoorSecMath
namespace Go.Proofs.YtelcoeeijkainaaDoor.Sec
open Go.RowKit Leb

theorem uRes_in {l : List Nat} {n u s : Nat} (h : uRes l n = (u, s, 0)) : 1 ≤ s ∧ s ≤ l.length := by
  obtain ⟨h1, _⟩ := uRes_is h
  obtain ⟨_, h3, rfl, _⟩ := gath_is h1
  omega
/-- One section that is there, then the others. -/
theorem splitF_step (bs : List Nat) (f p u s : Nat) (out : List Sec) (hp : p < bs.length) (hm : may out (bs.getD p 0 : Nat) = true) (hu : uRes (bs.drop (p + 1)) 32 = (u, s, 0)) (hl : ¬ bs.length - (p + 1 + s) < u) :
    splitF bs (f + 1) out p = splitF bs f (out ++ [⟨(bs.getD p 0 : Nat), (bs.drop (p + 1 + s)).take u⟩]) (p + 1 + s + u) := by
  simp only [splitF]
  rw [if_neg (by omega), if_neg (by rw [hm]; simp), hu]
  simp only [ne_eq, not_true_eq_false, if_false]
  rw [if_neg hl]
/-- Either the end, or an error, or a section that is there. -/
theorem splitF_cases (bs : List Nat) (f p : Nat) (out : List Sec) : (bs.length ≤ p ∧ splitF bs (f + 1) out p = (out, 0)) ∨ (∃ e, e ≠ 0 ∧ splitF bs (f + 1) out p = (out, e)) ∨
    (p < bs.length ∧ may out (bs.getD p 0 : Nat) = true ∧ ∃ u s, uRes (bs.drop (p + 1)) 32 = (u, s, 0) ∧ ¬ bs.length - (p + 1 + s) < u ∧ p + 1 + s ≤ bs.length) := by
  by_cases hp : bs.length ≤ p
  · exact .inl ⟨hp, by simp only [splitF]; rw [if_pos hp]⟩
  refine .inr ?_
  by_cases hm : may out (bs.getD p 0 : Nat) = false
  · exact .inl ⟨2, by simp, by simp only [splitF]; rw [if_neg hp, if_pos hm]⟩
  obtain ⟨u, s, e, hu⟩ : ∃ u s e, uRes (bs.drop (p + 1)) 32 = (u, s, e) := ⟨_, _, _, rfl⟩
  by_cases he : e = 0
  · subst he
    have hi := uRes_in hu
    rw [List.length_drop] at hi
    by_cases hl : bs.length - (p + 1 + s) < u
    · refine .inl ⟨1, by simp, ?_⟩
      simp only [splitF]
      rw [if_neg hp, if_neg hm, hu]
      simp only [ne_eq, not_true_eq_false, if_false]
      rw [if_pos hl]
    · exact .inr ⟨by omega, by simpa using hm, u, s, hu, hl, by omega⟩
  · refine .inl ⟨e, he, ?_⟩
    simp only [splitF]
    rw [if_neg hp, if_neg hm, hu]
    simp only
    rw [if_pos he]
theorem splitF_ext (bs : List Nat) (f : Nat) (out : List Sec) (p : Nat) : ∃ l, (splitF bs f out p).1 = out ++ l := by
  induction f generalizing out p with
  | zero => exact ⟨[], by simp [splitF]⟩
  | succ f ih =>
    rcases splitF_cases bs f p out with ⟨_, h⟩ | ⟨e, _, h⟩ | ⟨hp, hm, u, s, hu, hl, _⟩
    · exact ⟨[], by rw [h]; simp⟩
    · exact ⟨[], by rw [h]; simp⟩
    · rw [splitF_step bs f p u s out hp hm hu hl]
      obtain ⟨l, h⟩ := ih (out ++ [⟨(bs.getD p 0 : Nat), (bs.drop (p + 1 + s)).take u⟩]) (p + 1 + s + u)
      exact ⟨_, by rw [h, List.append_assoc]⟩
theorem splitF_fuel (bs : List Nat) (f f' : Nat) (out : List Sec) (p : Nat) (h : bs.length - p < f) (h' : bs.length - p < f') : splitF bs f out p = splitF bs f' out p := by
  induction f generalizing f' out p with
  | zero => omega
  | succ f ih =>
    cases f' with
    | zero => omega
    | succ f' =>
      rcases splitF_cases bs f p out with ⟨hp, hh⟩ | ⟨e, he, hh⟩ | ⟨hp, hm, u, s, hu, hl, hq⟩
      · rw [hh]; simp only [splitF]; rw [if_pos hp]
      · rw [hh]
        rcases splitF_cases bs f' p out with ⟨_, h2⟩ | ⟨e2, _, h2⟩ | ⟨hp, hm, u, s, hu, hl, _⟩
        · have : splitF bs (f + 1) out p = (out, 0) := by simp only [splitF] at h2 ⊢; rw [if_pos (by assumption)]
          rw [this] at hh
          simp only [Prod.mk.injEq, true_and] at hh
          omega
        · rw [h2]
          simp only [splitF] at hh h2
          by_cases c1 : bs.length ≤ p
          · rw [if_pos c1] at hh h2; rw [← hh, h2]
          · rw [if_neg c1] at hh h2
            by_cases c2 : may out (bs.getD p 0 : Nat) = false
            · rw [if_pos c2] at hh h2; rw [← hh, h2]
            · rw [if_neg c2] at hh h2
              by_cases c3 : (uRes (bs.drop (p + 1)) 32).2.2 ≠ 0
              · rw [if_pos c3] at hh h2; rw [← hh, h2]
              · rw [if_neg c3] at hh h2
                by_cases c4 : bs.length - (p + 1 + (uRes (bs.drop (p + 1)) 32).2.1) < (uRes (bs.drop (p + 1)) 32).1
                · rw [if_pos c4] at hh h2; rw [← hh, h2]
                · rw [if_neg c4] at hh h2
                  rw [← hh, ← h2]
                  exact ih f' _ _ (by omega) (by omega)
        · rw [splitF_step bs f' p u s out hp hm hu hl, ← hh, splitF_step bs f p u s out hp hm hu hl]
          exact ih f' _ _ (by omega) (by omega)
      · rw [splitF_step bs f p u s out hp hm hu hl, splitF_step bs f' p u s out hp hm hu hl]
        exact ih f' _ _ (by omega) (by omega)
theorem splitF_cut (bs : List Nat) (k : Nat) (hk : k ≤ bs.length) (f : Nat) (out R : List Sec) (p : Nat) (h : splitF bs f out p = (R, 0)) (hf : bs.length - p < f) (hp : p ≤ k) : ∃ r e, splitF (bs.take k) f out p = (r, e) ∧ r <+: R ∧ (e = 0 ∨ e = 1 ∧ k < bs.length) := by
  have hlk : (bs.take k).length = k := by rw [List.length_take]; omega
  induction f generalizing out p with
  | zero => omega
  | succ f ih =>
    have hpre : out <+: R := by
      obtain ⟨l, hl⟩ := splitF_ext bs (f + 1) out p
      rw [h] at hl
      exact ⟨l, hl.symm⟩
    by_cases hkp : k ≤ p
    · exact ⟨out, 0, by simp only [splitF]; rw [if_pos (by omega)], hpre, .inl rfl⟩
    rcases splitF_cases bs f p out with ⟨hl, _⟩ | ⟨e, he, hh⟩ | ⟨hl, hm, u, s, hu, hlu, hq⟩
    · omega
    · rw [hh] at h
      simp only [Prod.mk.injEq] at h
      exact absurd h.2 he
    · rw [splitF_step bs f p u s out hl hm hu hlu] at h
      have hg : (bs.take k).getD p 0 = bs.getD p 0 := by simp [List.getD, show p < k by omega]
      have hd : (bs.take k).drop (p + 1) = (bs.drop (p + 1)).take (k - (p + 1)) := List.drop_take ..
      by_cases hs : k - (p + 1) < s
      · refine ⟨out, 1, ?_, hpre, .inr ⟨rfl, by omega⟩⟩
        simp only [splitF]
        rw [if_neg (by omega), hg, if_neg (by rw [hm]; simp), hd, uRes_cut hu _ hs]
        simp
      · have hu2 : uRes ((bs.take k).drop (p + 1)) 32 = (u, s, 0) := by rw [hd]; exact uRes_pre (by omega) hu (by rw [List.take_take, Nat.min_eq_left (by omega)])
        by_cases hq2 : k - (p + 1 + s) < u
        · refine ⟨out, 1, ?_, hpre, .inr ⟨rfl, by omega⟩⟩
          simp only [splitF]
          rw [if_neg (by omega), hg, if_neg (by rw [hm]; simp), hu2]
          simp only [ne_eq, not_true_eq_false, if_false]
          rw [if_pos (by omega)]
        · rw [splitF_step (bs.take k) f p u s out (by omega) (by rw [hg]; exact hm) hu2 (by omega), hg]
          have he : ((bs.take k).drop (p + 1 + s)).take u = (bs.drop (p + 1 + s)).take u := by rw [List.drop_take, List.take_take, Nat.min_eq_left (by omega)]
          rw [he]
          exact ih _ _ h (by omega) (by omega)
theorem split_cut (bs : List Nat) (k : Nat) (hk : k ≤ bs.length) (R : List Sec) (h : splitRes bs = (R, 0)) : ∃ r e, splitRes (bs.take k) = (r, e) ∧ r <+: R ∧ (e = 0 ∨ e = 1 ∧ k < bs.length) := by
  have hlk : (bs.take k).length = k := by rw [List.length_take]; omega
  unfold splitRes at h
  by_cases h1 : 65536 < bs.length
  · rw [if_pos h1] at h; simp at h
  rw [if_neg h1] at h
  by_cases h2 : headErr bs ≠ 0
  · rw [if_pos h2] at h
    simp only [Prod.mk.injEq] at h
    exact absurd h.2 h2
  rw [if_neg h2] at h
  have h2' : headErr bs = 0 := by omega
  have h8 : 8 ≤ bs.length ∧ bs.take 8 = headB := by
    unfold headErr at h2'
    split at h2'
    · rename_i h3
      split at h2'
      · omega
      · rename_i h4
        refine ⟨by omega, ?_⟩
        rw [h3, Nat.min_eq_right (by omega)]
        rfl
    · omega
  unfold splitRes
  rw [if_neg (by omega)]
  by_cases hk8 : k < 8
  · have he : headErr (bs.take k) = 1 := by
      unfold headErr
      rw [hlk, Nat.min_eq_left (by omega), if_pos, if_pos hk8]
      rw [List.take_take, Nat.min_eq_right (by omega), ← h8.2, List.take_take, Nat.min_eq_left (by omega)]
    rw [he]
    exact ⟨[], 1, rfl, List.nil_prefix, .inr ⟨rfl, by omega⟩⟩
  · have he : headErr (bs.take k) = 0 := by
      unfold headErr
      rw [hlk, Nat.min_eq_right (by omega), if_pos, if_neg (by omega)]
      rw [List.take_take, Nat.min_eq_left (by omega), h8.2]
      rfl
    rw [he]
    simp only [ne_eq, not_true_eq_false, if_false]
    rw [splitF_fuel (bs.take k) ((bs.take k).length + 1) (bs.length + 1) [] 8 (by omega) (by omega)]
    exact splitF_cut bs k hk _ [] R 8 h (by omega) (by omega)
/-- A custom section more. -/
theorem may_zero (l : List Sec) : may l 0 = true := decide_eq_true ⟨by omega, by omega, fun _ _ => .inl rfl⟩
theorem may_skip (a c : List Sec) (b : List Nat) (id : Int) : may (a ++ ⟨0, b⟩ :: c) id = may (a ++ c) id := by
  apply Bool.eq_iff_iff.2
  unfold may
  rw [decide_eq_true_iff, decide_eq_true_iff]
  constructor
  · rintro ⟨h1, h2, h3⟩
    refine ⟨h1, h2, fun s hs => h3 s ?_⟩
    rcases List.mem_append.1 hs with h | h
    · exact List.mem_append.2 (.inl h)
    · exact List.mem_append.2 (.inr (List.mem_cons_of_mem _ h))
  · rintro ⟨h1, h2, h3⟩
    refine ⟨h1, h2, fun s hs => ?_⟩
    rcases List.mem_append.1 hs with h | h
    · exact h3 s (List.mem_append.2 (.inl h))
    · rcases List.mem_cons.1 h with rfl | h
      · exact .inr (.inl rfl)
      · exact h3 s (List.mem_append.2 (.inr h))
theorem orderF_skip (a c : List Sec) (b : List Nat) (l : List Sec) : orderF (a ++ ⟨0, b⟩ :: c) l = orderF (a ++ c) l := by
  induction l generalizing c with
  | nil => rfl
  | cons s l ih =>
    simp only [orderF]
    rw [may_skip]
    have := ih (c ++ [s])
    rw [List.append_assoc, List.append_assoc, List.cons_append, this]
theorem orderF_more (out l : List Sec) (j : Nat) (b : List Nat) (hj : j ≤ l.length) : orderF out (l.take j ++ ⟨0, b⟩ :: l.drop j) = orderF out l := by
  induction l generalizing out j with
  | nil => simp [orderF, may_zero]
  | cons s l ih =>
    cases j with
    | zero =>
      simp only [List.take_zero, List.drop_zero, List.nil_append]
      rw [orderF, may_zero, Bool.true_and]
      exact orderF_skip out [] b (s :: l) |>.trans (by rw [List.append_nil])
    | succ j =>
      simp only [List.take_succ_cons, List.drop_succ_cons, List.cons_append, orderF]
      rw [ih (out ++ [s]) j (by simpa using hj)]
theorem order_more (l : List Sec) (j : Nat) (b : List Nat) (hj : j ≤ l.length) : order (l.take j ++ ⟨0, b⟩ :: l.drop j) = order l := orderF_more [] l j b hj
theorem join_more (l : List Sec) (j : Nat) (b : List Nat) : (joinBytes (l.take j ++ ⟨0, b⟩ :: l.drop j)).length = (joinBytes l).length + 1 + (putU b.length).length + b.length := by
  have h := congrArg (fun m => (secsBytes m).length) (List.take_append_drop j l)
  simp only [joinBytes, secsBytes, List.flatMap_append, List.flatMap_cons, List.length_append, secBytes, List.length_cons] at h ⊢
  omega
end Go.Proofs.YtelcoeeijkainaaDoor.Sec
