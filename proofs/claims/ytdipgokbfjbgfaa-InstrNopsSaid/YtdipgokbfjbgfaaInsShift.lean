/-
  What bytes say from a place on is what the bytes from that place on say at their beginning. No condition; nothing of the program.
-/
import Derived.Test.YtdipgokbfjbgfaaInsBody
namespace Go.Proofs.Ytdipgokbfjbgfaa.Ins
open Go.RowKit Leb Typ

/-- The place behind what was read, told from further ahead. -/
def sh {α : Type} (d : Nat) (r : α × Nat × Nat) : α × Nat × Nat := if r.2.2 = 0 then (r.1, d + r.2.1, 0) else (r.1, 0, r.2.2)
theorem dd (bs : List Nat) (d p : Nat) : (bs.drop d).drop p = bs.drop (d + p) := by rw [List.drop_drop]
theorem gg (bs : List Nat) (d p : Nat) : (bs.drop d).getD p 0 = bs.getD (d + p) 0 := by simp [List.getD]
theorem readLabels_sh (bs : List Nat) (d n p : Nat) : readLabels bs n (d + p) = sh d (readLabels (bs.drop d) n p) := by
  induction n generalizing p with
  | zero => rfl
  | succ n ih =>
    simp only [readLabels]
    rw [dd, Nat.add_assoc, ih]
    generalize uRes (bs.drop (d + p)) 32 = g
    obtain ⟨u, s, e⟩ := g
    simp only
    by_cases he : e = 0
    · subst he
      simp only [ne_eq, not_true_eq_false, if_false]
      generalize readLabels (bs.drop d) n (p + s) = h
      obtain ⟨xs, q, e2⟩ := h
      by_cases h2 : e2 = 0
      · subst h2; simp [sh]
      · simp [sh, h2]
    · simp [sh, he]
theorem readPart_sh (bs : List Nat) (d p : Nat) (x : Ins) (r : Part) : (readPart bs (d + p) x r).2.2 = (readPart (bs.drop d) p x r).2.2 ∧ ((readPart (bs.drop d) p x r).2.2 = 0 → (readPart bs (d + p) x r).1 = (readPart (bs.drop d) p x r).1 ∧ (readPart bs (d + p) x r).2.1 = d + (readPart (bs.drop d) p x r).2.1) := by
  cases r with
  | t => simp only [readPart, dd]; exact ⟨trivial, fun _ => ⟨trivial, by omega⟩⟩
  | a => simp only [readPart, dd]; exact ⟨trivial, fun _ => ⟨trivial, by omega⟩⟩
  | b => simp only [readPart, dd]; exact ⟨trivial, fun _ => ⟨trivial, by omega⟩⟩
  | k => simp only [readPart, dd]; exact ⟨trivial, fun _ => ⟨trivial, by omega⟩⟩
  | kk => simp only [readPart, dd]; exact ⟨trivial, fun _ => ⟨trivial, by omega⟩⟩
  | z =>
    simp only [readPart, gg, List.length_drop]
    by_cases h : bs.length ≤ d + p
    · have h' : bs.length - d ≤ p := by omega
      simp only [h, h', if_true]; exact ⟨trivial, fun h => absurd h (by simp)⟩
    · have h' : ¬ bs.length - d ≤ p := by omega
      simp only [h, h', if_false]; exact ⟨trivial, fun _ => ⟨trivial, by omega⟩⟩
  | l =>
    simp only [readPart]
    rw [dd, Nat.add_assoc, readLabels_sh]
    generalize uRes (bs.drop (d + p)) 32 = g
    obtain ⟨u, s, e⟩ := g
    simp only
    by_cases he : e = 0
    · subst he
      simp only [ne_eq, not_true_eq_false, if_false]
      by_cases h64 : 64 < u
      · simp [h64]
      · simp only [h64, if_false]
        generalize readLabels (bs.drop d) u (p + s) = h
        obtain ⟨xs, q, e2⟩ := h
        by_cases h2 : e2 = 0
        · subst h2; simp [sh]
        · simp [sh, h2]
    · simp [he]
theorem readParts_err (bs : List Nat) (qs : List Part) (p : Nat) (x : Ins) (h : (readParts bs qs p x).2.2 ≠ 0) : (readParts bs qs p x).1 = zeroIns ∧ (readParts bs qs p x).2.1 = 0 := by
  induction qs generalizing p x with
  | nil => exact absurd rfl h
  | cons r rs ih =>
    simp only [readParts] at h ⊢
    by_cases he : (readPart bs p x r).2.2 = 0
    · rw [if_neg (by simp [he])] at h ⊢; exact ih _ _ h
    · rw [if_pos he]; exact ⟨rfl, rfl⟩
theorem readParts_sh (bs : List Nat) (d : Nat) (qs : List Part) (p : Nat) (x : Ins) : readParts bs qs (d + p) x = sh d (readParts (bs.drop d) qs p x) := by
  induction qs generalizing p x with
  | nil => rfl
  | cons r rs ih =>
    obtain ⟨h1, h2⟩ := readPart_sh bs d p x r
    simp only [readParts]
    rw [h1]
    by_cases he : (readPart (bs.drop d) p x r).2.2 = 0
    · obtain ⟨h3, h4⟩ := h2 he
      simp only [he, ne_eq, not_true_eq_false, if_false]
      rw [h3, h4]
      exact ih _ _
    · simp [sh, he]
theorem readRest_sh (bs : List Nat) (d : Nat) (op : Int) (p : Nat) : readRest bs op (d + p) = sh d (readRest (bs.drop d) op p) := by
  unfold readRest
  cases pat op with
  | none => rfl
  | some o =>
    cases o with
    | none => rfl
    | some qs => exact readParts_sh bs d qs p _
theorem oneRes_sh (bs : List Nat) (d p : Nat) : oneRes bs (d + p) = sh d (oneRes (bs.drop d) p) := by
  unfold oneRes
  rw [gg, dd, List.length_drop, Nat.add_assoc]
  by_cases h0 : bs.length ≤ d + p
  · have h' : bs.length - d ≤ p := by omega
    simp [h0, h', sh]
  have h' : ¬ bs.length - d ≤ p := by omega
  simp only [h0, h', if_false]
  by_cases h1 : bs.getD (d + p) 0 = 252
  · simp only [h1, if_true]
    by_cases h2 : (uRes (bs.drop (d + (p + 1))) 32).2.2 = 0
    · simp only [h2, ne_eq, not_true_eq_false, if_false]
      by_cases h3 : 255 < (uRes (bs.drop (d + (p + 1))) 32).1
      · simp [h3, sh]
      · simp only [h3, if_false]
        rw [Nat.add_assoc]
        exact readRest_sh _ _ _ _
    · simp [h2, sh]
  · simp only [h1, if_false]
    exact readRest_sh _ _ _ _
theorem oneRes_from (bs : List Nat) (p : Nat) : oneRes bs p = sh p (oneRes (bs.drop p) 0) := by
  have := oneRes_sh bs p 0
  rwa [Nat.add_zero] at this
end Go.Proofs.Ytdipgokbfjbgfaa.Ins
