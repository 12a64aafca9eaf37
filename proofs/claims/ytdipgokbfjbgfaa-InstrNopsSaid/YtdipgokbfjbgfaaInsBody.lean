/-
  Bodies in plain words: what bytes say, what is closed; a body is read as it was put. Conditions as each lemma says; nothing of the program.
-/
import Derived.Test.YtdipgokbfjbgfaaInsMath
namespace Go.Proofs.Ytdipgokbfjbgfaa.Ins
open Go.RowKit Leb Typ

/-- What an instruction does to the blocks that are open (the innermost first: 2, 3, 4 as they began, 5 where the else has stood): an error; or the body's end (0, none); or the blocks behind it. -/
def blocks (op : Int) (st : List Nat) : Nat × Option (List Nat) :=
  if 2 ≤ op ∧ op ≤ 4 then (if st.length = 64 then (4, none) else (0, some (op.toNat :: st)))
  else if op = 5 then (if st.head? = some 4 then (0, some (5 :: st.tail)) else (2, none))
  else if op = 11 then (if st = [] then (0, none) else (0, some st.tail))
  else (0, some st)
/-- The instructions from place p on, n being there already; the place behind them; the error. -/
def bodyF (bs : List Nat) : Nat → Nat → List Nat → Nat → List Ins × Nat × Nat
  | 0, _, _, _ => ([], 0, 1)
  | f + 1, n, st, p =>
    if (oneRes bs p).2.2 ≠ 0 then ([], 0, (oneRes bs p).2.2)
    else if n = 2000 then ([], 0, 4)
    else match blocks (oneRes bs p).1.op st with
      | (e, none) => if e = 0 then ([(oneRes bs p).1], (oneRes bs p).2.1, 0) else ([], 0, e)
      | (_, some st') =>
        if (bodyF bs f (n + 1) st' (oneRes bs p).2.1).2.2 = 0 then ((oneRes bs p).1 :: (bodyF bs f (n + 1) st' (oneRes bs p).2.1).1, (bodyF bs f (n + 1) st' (oneRes bs p).2.1).2.1, 0)
        else ([], 0, (bodyF bs f (n + 1) st' (oneRes bs p).2.1).2.2)
def bodyRes (bs : List Nat) : List Ins × Nat × Nat := bodyF bs (bs.length + 1) 0 [] 0
def allBytes (l : List Ins) : List Nat := l.flatMap insBytes
/-- Instructions that are a body from here on: n are there already, st is open. -/
def closedF : Nat → List Nat → List Ins → Prop
  | _, _, [] => False
  | n, st, x :: l => formedI x ∧ n < 2000 ∧
    match blocks x.op st with
    | (e, none) => e = 0 ∧ l = []
    | (_, some st') => closedF (n + 1) st' l
def closedI (l : List Ins) : Prop := closedF 0 [] l
/-- One instruction that is there, then the others. -/
theorem bodyF_step (bs : List Nat) (f n p q : Nat) (st : List Nat) (x : Ins) (h : oneRes bs p = (x, q, 0)) (hn : n < 2000) :
    bodyF bs (f + 1) n st p = match blocks x.op st with
      | (e, none) => if e = 0 then ([x], q, 0) else ([], 0, e)
      | (_, some st') => if (bodyF bs f (n + 1) st' q).2.2 = 0 then (x :: (bodyF bs f (n + 1) st' q).1, (bodyF bs f (n + 1) st' q).2.1, 0) else ([], 0, (bodyF bs f (n + 1) st' q).2.2) := by
  simp only [bodyF]
  rw [h]
  simp only [ne_eq, not_true_eq_false, if_false]
  rw [if_neg (by omega)]
theorem body_put (l : List Ins) (n : Nat) (st pre more : List Nat) (f : Nat) (h : closedF n st l) (hf : l.length ≤ f) : bodyF (pre ++ (allBytes l ++ more)) f n st pre.length = (l, pre.length + (allBytes l).length, 0) := by
  induction l generalizing n st pre f with
  | nil => exact absurd h (by simp [closedF])
  | cons x l ih =>
    cases f with
    | zero => simp at hf
    | succ f =>
      simp only [closedF] at h
      obtain ⟨h1, h2, h3⟩ := h
      have e : pre ++ (allBytes (x :: l) ++ more) = pre ++ (insBytes x ++ (allBytes l ++ more)) := by simp [allBytes]
      have ho := one_put pre (allBytes l ++ more) x h1
      rw [e, bodyF_step _ f n pre.length _ st x ho h2]
      generalize hb : blocks x.op st = g at h3
      obtain ⟨er, o⟩ := g
      cases o with
      | none =>
        simp only at h3
        obtain ⟨rfl, rfl⟩ := h3
        simp [allBytes]
      | some st' =>
        simp only at h3
        have ih2 := ih (n + 1) st' (pre ++ insBytes x) f h3 (by simpa using hf)
        rw [List.append_assoc, List.length_append] at ih2
        simp only
        rw [ih2]
        simp [allBytes, Nat.add_assoc]
theorem headBytes_len (op : Int) : 1 ≤ (headBytes op).length := by
  unfold headBytes
  split <;> simp
theorem insBytes_len (x : Ins) : 1 ≤ (insBytes x).length := by
  have := headBytes_len x.op
  unfold insBytes
  rw [List.length_append]
  omega
theorem allBytes_len (l : List Ins) : l.length ≤ (allBytes l).length := by
  induction l with
  | nil => simp
  | cons x l ih =>
    have := insBytes_len x
    simp only [allBytes, List.flatMap_cons, List.length_append, List.length_cons] at ih ⊢
    omega
theorem bodyRes_put (l : List Ins) (more : List Nat) (h : closedI l) : bodyRes (allBytes l ++ more) = (l, (allBytes l).length, 0) := by
  have hl := allBytes_len l
  have := body_put l 0 [] [] more ((allBytes l ++ more).length + 1) h (by rw [List.length_append]; omega)
  simpa [bodyRes] using this
/-- A nop more, anywhere ahead of the end, leaves it closed, and what isn't stays so. -/
theorem nop_formed : formedI { zeroIns with op := 1 } := ⟨[], by decide, by simp, rfl⟩
theorem nop_blocks (st : List Nat) : blocks 1 st = (0, some st) := by
  unfold blocks
  rw [if_neg (by omega), if_neg (by omega), if_neg (by omega)]
theorem closed_room (l : List Ins) (n : Nat) (st : List Nat) (m : Nat) (h : closedF n st l) (hm : m + l.length ≤ 2000) : closedF m st l := by
  induction l generalizing n st m with
  | nil => exact h
  | cons x l ih =>
    simp only [closedF, List.length_cons] at h hm ⊢
    obtain ⟨h1, h2, h3⟩ := h
    refine ⟨h1, by omega, ?_⟩
    generalize blocks x.op st = g at h3 ⊢
    obtain ⟨er, o⟩ := g
    cases o with
    | none => exact h3
    | some st' => exact ih (n + 1) st' (m + 1) h3 (by omega)
theorem closed_nop (l : List Ins) (j n : Nat) (st : List Nat) (hj : j < l.length) (hn : n + l.length < 2000) : closedF n st (l.take j ++ { zeroIns with op := 1 } :: l.drop j) ↔ closedF n st l := by
  induction l generalizing j n st with
  | nil => simp at hj
  | cons x l ih =>
    cases j with
    | zero =>
      simp only [List.take_zero, List.drop_zero, List.nil_append]
      rw [closedF]
      simp only [nop_blocks]
      simp only [List.length_cons] at hn
      constructor
      · rintro ⟨_, _, h⟩
        exact closed_room (x :: l) (n + 1) st n h (by simp; omega)
      · intro h
        exact ⟨nop_formed, by omega, closed_room (x :: l) n st (n + 1) h (by simp; omega)⟩
    | succ j =>
      simp only [List.take_succ_cons, List.drop_succ_cons, List.cons_append, closedF, List.length_cons] at hj hn ⊢
      generalize blocks x.op st = g
      obtain ⟨er, o⟩ := g
      cases o with
      | none =>
        simp only
        constructor
        · rintro ⟨_, _, _, h⟩
          simp at h
        · rintro ⟨_, _, _, h⟩
          subst h
          simp at hj
      | some st' =>
        simp only
        rw [ih j (n + 1) st' (by omega) (by omega)]
theorem allBytes_nop (l : List Ins) (j : Nat) : (allBytes (l.take j ++ { zeroIns with op := 1 } :: l.drop j)).length = (allBytes l).length + 1 := by
  have e : insBytes { zeroIns with op := 1 } = [1] := by decide
  have h := congrArg (fun m => (allBytes m).length) (List.take_append_drop j l)
  simp only [allBytes, List.flatMap_append, List.flatMap_cons, List.length_append, e, List.length_singleton] at h ⊢
  omega
theorem allBytes_in (l : List Ins) : (allBytes ({ zeroIns with op := 2, a := -64 } :: (l ++ [{ zeroIns with op := 11 }]))).length = (allBytes l).length + 3 := by
  have e1 : insBytes { zeroIns with op := 2, a := -64 } = [2, 64] := by decide
  have e2 : insBytes { zeroIns with op := 11 } = [11] := by decide
  simp only [allBytes, List.flatMap_append, List.flatMap_cons, List.flatMap_nil, List.length_append, e1, e2, List.length_cons, List.length_nil, List.append_nil]
  omega
end Go.Proofs.Ytdipgokbfjbgfaa.Ins
