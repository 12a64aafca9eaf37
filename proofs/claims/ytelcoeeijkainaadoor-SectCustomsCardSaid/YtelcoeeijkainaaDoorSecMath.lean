/-
  Sections in plain words: what bytes say, what is joined; what was joined is split as it was; what is cut, what has a custom section more. Conditions as each lemma says; nothing of the program.
-/
import Derived.Test.YtelcoeeijkainaaDoorLebBackU
namespace Go.Proofs.YtelcoeeijkainaaDoor.Sec
open Go.RowKit Leb

theorem lead_pre (l l' : List Nat) (j : Nat) (h : lead l = j) (hj : j < l.length) (ht : l.take (j + 1) = l'.take (j + 1)) : lead l' = j ∧ j < l'.length := by
  induction l generalizing l' j with
  | nil => simp at hj
  | cons x l ih =>
    cases l' with
    | nil => simp at ht
    | cons y l' =>
      simp only [List.take_succ_cons, List.cons.injEq] at ht
      obtain ⟨rfl, ht⟩ := ht
      simp only [lead] at h ⊢
      by_cases hx : 128 ≤ x
      · rw [if_pos hx] at h ⊢
        cases j with
        | zero => omega
        | succ j =>
          obtain ⟨h1, h2⟩ := ih l' j (by omega) (by simpa using hj) ht
          exact ⟨by omega, by simp; omega⟩
      · rw [if_neg hx] at h ⊢
        subst h
        exact ⟨rfl, by simp⟩
theorem lead_cut (l : List Nat) (k : Nat) (h : k ≤ lead l) : lead (l.take k) = k := by
  induction l generalizing k with
  | nil => simp [lead] at h; subst h; rfl
  | cons x l ih =>
    cases k with
    | zero => rfl
    | succ k =>
      simp only [lead] at h
      by_cases hx : 128 ≤ x
      · rw [if_pos hx] at h
        simp only [List.take_succ_cons, lead]
        rw [if_pos hx, ih k (by omega)]
      · rw [if_neg hx] at h; omega
/-- Numbers: what was gathered. -/
theorem gath_is {l : List Nat} {m v s : Nat} (h : gath l m = (v, s, 0)) : lead l < m ∧ lead l < l.length ∧ s = lead l + 1 ∧ v = gv l (lead l + 1) := by
  unfold gath at h
  have hl := lead_le l
  by_cases h1 : m ≤ lead l
  · rw [if_pos h1] at h; simp at h
  · rw [if_neg h1] at h
    by_cases h2 : lead l = l.length
    · rw [if_pos h2] at h; simp at h
    · rw [if_neg h2] at h
      simp only [Prod.mk.injEq] at h
      exact ⟨by omega, by omega, h.2.1.symm, h.1.symm⟩
theorem gath_pre {l l' : List Nat} {m v s : Nat} (h : gath l m = (v, s, 0)) (ht : l.take s = l'.take s) : gath l' m = (v, s, 0) := by
  obtain ⟨h1, h2, rfl, rfl⟩ := gath_is h
  obtain ⟨e1, e2⟩ := lead_pre l l' (lead l) rfl h2 ht
  unfold gath
  rw [e1, if_neg (by omega), if_neg (by omega)]
  unfold gv
  rw [ht]
theorem gath_cut {l : List Nat} {m v s : Nat} (h : gath l m = (v, s, 0)) (k : Nat) (hk : k < s) : gath (l.take k) m = (0, 0, 1) := by
  obtain ⟨h1, h2, rfl, rfl⟩ := gath_is h
  have e := lead_cut l k (by omega)
  unfold gath
  rw [e, if_neg (by omega), if_pos (by simp; omega)]
theorem getD_pre {l l' : List Nat} {s : Nat} (ht : l.take s = l'.take s) (j : Nat) (hj : j < s) : l.getD j 0 = l'.getD j 0 := by
  have h1 : l.getD j 0 = (l.take s).getD j 0 := by simp [List.getD, hj]
  have h2 : l'.getD j 0 = (l'.take s).getD j 0 := by simp [List.getD, hj]
  rw [h1, h2, ht]
theorem uRes_is {l : List Nat} {n u s : Nat} (h : uRes l n = (u, s, 0)) : gath l (most n) = (u, s, 0) ∧ ¬ (s = most n ∧ l.getD (most n - 1) 0 / 2 ^ inl n ≠ 0) := by
  unfold uRes at h
  by_cases h1 : (gath l (most n)).2.2 = 0
  · rw [if_pos h1] at h
    by_cases h2 : (gath l (most n)).2.1 = most n ∧ l.getD (most n - 1) 0 / 2 ^ inl n ≠ 0
    · rw [if_pos h2] at h; simp at h
    · rw [if_neg h2] at h
      rw [h] at h2
      exact ⟨h, h2⟩
  · rw [if_neg h1] at h
    simp only [Prod.mk.injEq] at h
    exact absurd h.2.2 h1
theorem uRes_pre {l l' : List Nat} {n u s : Nat} (hn : 1 ≤ n) (h : uRes l n = (u, s, 0)) (ht : l.take s = l'.take s) : uRes l' n = (u, s, 0) := by
  obtain ⟨h1, h2⟩ := uRes_is h
  have hm : 1 ≤ most n := by unfold most; omega
  unfold uRes
  rw [gath_pre h1 ht]
  simp only [if_true]
  rw [if_neg]
  rintro ⟨h3, h4⟩
  rw [← getD_pre ht (most n - 1) (by omega)] at h4
  exact h2 ⟨h3, h4⟩
theorem uRes_cut {l : List Nat} {n u s : Nat} (h : uRes l n = (u, s, 0)) (k : Nat) (hk : k < s) : uRes (l.take k) n = (0, 0, 1) := by
  obtain ⟨h1, _⟩ := uRes_is h
  unfold uRes
  rw [gath_cut h1 k hk]
  simp
theorem drop_take_pre {l l' : List Nat} {q : Nat} (ht : l.take q = l'.take q) (p s : Nat) (h : p + s ≤ q) : (l.drop p).take s = (l'.drop p).take s := by
  have h1 : (l.drop p).take s = ((l.take q).drop p).take s := by rw [List.drop_take, List.take_take, Nat.min_eq_left (by omega)]
  have h2 : (l'.drop p).take s = ((l'.take q).drop p).take s := by rw [List.drop_take, List.take_take, Nat.min_eq_left (by omega)]
  rw [h1, h2, ht]
/-- A section: its number, its bytes. -/
structure Sec where
  id : Int
  b : List Nat
  deriving DecidableEq
def placeOf (id : Int) : Int := if id = 12 then 95 else id * 10
/-- May a section of this number stand behind others? -/
def may (l : List Sec) (id : Int) : Bool := decide (0 ≤ id ∧ id ≤ 12 ∧ ∀ s ∈ l, id = 0 ∨ s.id = 0 ∨ placeOf s.id < placeOf id)
def headB : List Nat := [0, 97, 115, 109, 1, 0, 0, 0]
/-- The first bytes: what is wrong with them. -/
def headErr (bs : List Nat) : Nat := if bs.take 8 = headB.take (min bs.length 8) then (if bs.length < 8 then 1 else 0) else 2
/-- The sections from place p on, 'out' being there already. -/
def splitF (bs : List Nat) : Nat → List Sec → Nat → List Sec × Nat
  | 0, out, _ => (out, 0)
  | f + 1, out, p =>
    if bs.length ≤ p then (out, 0)
    else if may out (bs.getD p 0 : Nat) = false then (out, 2)
    else if (uRes (bs.drop (p + 1)) 32).2.2 ≠ 0 then (out, (uRes (bs.drop (p + 1)) 32).2.2)
    else if bs.length - (p + 1 + (uRes (bs.drop (p + 1)) 32).2.1) < (uRes (bs.drop (p + 1)) 32).1 then (out, 1)
    else splitF bs f (out ++ [⟨(bs.getD p 0 : Nat), (bs.drop (p + 1 + (uRes (bs.drop (p + 1)) 32).2.1)).take (uRes (bs.drop (p + 1)) 32).1⟩]) (p + 1 + (uRes (bs.drop (p + 1)) 32).2.1 + (uRes (bs.drop (p + 1)) 32).1)
def splitRes (bs : List Nat) : List Sec × Nat :=
  if 65536 < bs.length then ([], 4)
  else if headErr bs ≠ 0 then ([], headErr bs)
  else splitF bs (bs.length + 1) [] 8
def secBytes (s : Sec) : List Nat := s.id.toNat :: (putU s.b.length ++ s.b)
def secsBytes (l : List Sec) : List Nat := l.flatMap secBytes
def joinBytes (l : List Sec) : List Nat := headB ++ secsBytes l
/-- Are their numbers in order, behind those that are there? -/
def orderF : List Sec → List Sec → Bool
  | _, [] => true
  | out, s :: l => may out s.id && orderF (out ++ [s]) l
def order (l : List Sec) : Bool := orderF [] l
def joinRes (l : List Sec) : List Nat × Nat := if order l = false then ([], 2) else if 65536 < (joinBytes l).length then ([], 4) else (joinBytes l, 0)
theorem may_range {l : List Sec} {id : Int} (h : may l id = true) : 0 ≤ id ∧ id ≤ 12 := by
  have := of_decide_eq_true h
  exact ⟨this.1, this.2.1⟩
theorem secBytes_pos (s : Sec) : 1 ≤ (secBytes s).length := by simp [secBytes]
theorem secsBytes_len (l : List Sec) : l.length ≤ (secsBytes l).length := by
  induction l with
  | nil => simp
  | cons s l ih =>
    have := secBytes_pos s
    simp only [secsBytes, List.flatMap_cons, List.length_append, List.length_cons] at ih ⊢
    omega
/-- What was joined is split as it was. -/
theorem split_put (l out : List Sec) (pre : List Nat) (f : Nat) (h : orderF out l = true) (hf : l.length < f) (hb : ∀ s ∈ l, s.b.length < 4294967296) : splitF (pre ++ secsBytes l) f out pre.length = (out ++ l, 0) := by
  induction l generalizing out pre f with
  | nil =>
    cases f with
    | zero => simp at hf
    | succ f => simp [splitF, secsBytes]
  | cons s l ih =>
    cases f with
    | zero => simp at hf
    | succ f =>
      simp only [orderF, Bool.and_eq_true] at h
      obtain ⟨hm, ho⟩ := h
      have hr := may_range hm
      have e : pre ++ secsBytes (s :: l) = pre ++ (s.id.toNat :: (putU s.b.length ++ (s.b ++ secsBytes l))) := by simp [secsBytes, secBytes]
      rw [e]
      have hg : (pre ++ (s.id.toNat :: (putU s.b.length ++ (s.b ++ secsBytes l)))).getD pre.length 0 = s.id.toNat := by simp [List.getD]
      have hd : (pre ++ (s.id.toNat :: (putU s.b.length ++ (s.b ++ secsBytes l)))).drop (pre.length + 1) = putU s.b.length ++ (s.b ++ secsBytes l) := by
        rw [← List.drop_drop, List.drop_left]; rfl
      have hu := uRes_put s.b.length 32 (s.b ++ secsBytes l) (by omega) (by omega) (by have := hb s (by simp); omega)
      have hid : ((s.id.toNat : Nat) : Int) = s.id := by omega
      have hd2 : (pre ++ (s.id.toNat :: (putU s.b.length ++ (s.b ++ secsBytes l)))).drop (pre.length + 1 + (putU s.b.length).length) = s.b ++ secsBytes l := by
        rw [← List.drop_drop, hd, List.drop_left]
      simp only [splitF]
      rw [hg, hd, hu, hid, hm]
      simp only [ne_eq, not_true_eq_false, if_false, Bool.true_eq_false]
      rw [if_neg (by simp), hd2, List.take_left, if_neg (by simp; omega)]
      have ih2 := ih (out ++ [s]) (pre ++ secBytes s) f ho (by simpa using hf) (fun s' hs' => hb s' (by simp [hs']))
      have e2 : pre ++ (s.id.toNat :: (putU s.b.length ++ (s.b ++ secsBytes l))) = pre ++ secBytes s ++ secsBytes l := by simp [secBytes]
      have e3 : (pre ++ secBytes s).length = pre.length + 1 + (putU s.b.length).length + s.b.length := by simp [secBytes]; omega
      rw [e2, ← e3, ih2]
      simp
theorem head_join (l : List Sec) : headErr (joinBytes l) = 0 := by
  have h8 : headB.length = 8 := rfl
  have hl : 8 ≤ (joinBytes l).length := by unfold joinBytes; rw [List.length_append]; omega
  unfold headErr
  rw [Nat.min_eq_right hl, if_pos, if_neg (by omega)]
  unfold joinBytes
  rw [List.take_append_of_le_length (by omega)]
theorem split_join (l : List Sec) (h : order l = true) (hlen : (joinBytes l).length ≤ 65536) (hb : ∀ s ∈ l, s.b.length < 4294967296) : splitRes (joinBytes l) = (l, 0) := by
  unfold splitRes
  rw [if_neg (by omega), head_join, if_neg (by simp)]
  have hn := secsBytes_len l
  have := split_put l [] headB ((joinBytes l).length + 1) h (by unfold joinBytes; rw [List.length_append]; omega) hb
  simpa [joinBytes, headB] using this
end Go.Proofs.YtelcoeeijkainaaDoor.Sec
