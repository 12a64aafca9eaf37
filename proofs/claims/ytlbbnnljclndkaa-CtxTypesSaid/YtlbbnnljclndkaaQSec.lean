/-
  SecMath: Sections in plain words: what bytes say, what is joined; what was joined is split as it was; what is cut, what has a custom section more. Conditions as each lemma says; nothing of the program.
  SecMem: Sections in memory; trammelref07.place, may. Conditions as each lemma says.
  SecOwn: Sections that a call made itself: a slice value that owns their cells; a list under way, whose sections' bytes lie elsewhere; append of one. Conditions as each lemma says; nothing of the program but its types.
  SecSlc: A slice cut at a place, as one fact: of bytes, of sections. Conditions: as each lemma says; nothing of the program but its types.
  SecCut: Sections in plain words: what is cut; what has a custom section more. Conditions as each lemma says; nothing of the program.
-/
import Derived.Test.YtlbbnnljclndkaaQLeb
import Derived.BigQuiet
namespace Go.Proofs.Ytlbbnnljclndkaa.Sec
open Go.RowKit Leb

theorem lead_pre (l l' : List Nat) (j : Nat) (h : lead l = j) (hj : j < l.length) (ht : l.take (j + 1) = l'.take (j + 1)) : lead l' = j ∧ j < l'.length := by
  induction l generalizing l' j with
  | nil => simp at hj
  | cons x l ih =>
    cases l' with
    | nil => simp at ht
    | cons y l' =>
      simp only [List.take_succ_cons, List.cons.injEq] at ht
      obtain ⟨rfl, ht⟩ := ht
      simp only [lead] at h ⊢
      by_cases hx : 128 ≤ x
      · rw [if_pos hx] at h ⊢
        cases j with
        | zero => omega
        | succ j =>
          obtain ⟨h1, h2⟩ := ih l' j (by omega) (by simpa using hj) ht
          exact ⟨by omega, by simp; omega⟩
      · rw [if_neg hx] at h ⊢
        subst h
        exact ⟨rfl, by simp⟩
theorem lead_cut (l : List Nat) (k : Nat) (h : k ≤ lead l) : lead (l.take k) = k := by
  induction l generalizing k with
  | nil => simp [lead] at h; subst h; rfl
  | cons x l ih =>
    cases k with
    | zero => rfl
    | succ k =>
      simp only [lead] at h
      by_cases hx : 128 ≤ x
      · rw [if_pos hx] at h
        simp only [List.take_succ_cons, lead]
        rw [if_pos hx, ih k (by omega)]
      · rw [if_neg hx] at h; omega
/-- Numbers: what was gathered. -/
theorem gath_is {l : List Nat} {m v s : Nat} (h : gath l m = (v, s, 0)) : lead l < m ∧ lead l < l.length ∧ s = lead l + 1 ∧ v = gv l (lead l + 1) := by
  unfold gath at h
  have hl := lead_le l
  by_cases h1 : m ≤ lead l
  · rw [if_pos h1] at h; simp at h
  · rw [if_neg h1] at h
    by_cases h2 : lead l = l.length
    · rw [if_pos h2] at h; simp at h
    · rw [if_neg h2] at h
      simp only [Prod.mk.injEq] at h
      exact ⟨by omega, by omega, h.2.1.symm, h.1.symm⟩
theorem gath_pre {l l' : List Nat} {m v s : Nat} (h : gath l m = (v, s, 0)) (ht : l.take s = l'.take s) : gath l' m = (v, s, 0) := by
  obtain ⟨h1, h2, rfl, rfl⟩ := gath_is h
  obtain ⟨e1, e2⟩ := lead_pre l l' (lead l) rfl h2 ht
  unfold gath
  rw [e1, if_neg (by omega), if_neg (by omega)]
  unfold gv
  rw [ht]
theorem gath_cut {l : List Nat} {m v s : Nat} (h : gath l m = (v, s, 0)) (k : Nat) (hk : k < s) : gath (l.take k) m = (0, 0, 1) := by
  obtain ⟨h1, h2, rfl, rfl⟩ := gath_is h
  have e := lead_cut l k (by omega)
  unfold gath
  rw [e, if_neg (by omega), if_pos (by simp; omega)]
theorem getD_pre {l l' : List Nat} {s : Nat} (ht : l.take s = l'.take s) (j : Nat) (hj : j < s) : l.getD j 0 = l'.getD j 0 := by
  have h1 : l.getD j 0 = (l.take s).getD j 0 := by simp [List.getD, hj]
  have h2 : l'.getD j 0 = (l'.take s).getD j 0 := by simp [List.getD, hj]
  rw [h1, h2, ht]
theorem uRes_is {l : List Nat} {n u s : Nat} (h : uRes l n = (u, s, 0)) : gath l (most n) = (u, s, 0) ∧ ¬ (s = most n ∧ l.getD (most n - 1) 0 / 2 ^ inl n ≠ 0) := by
  unfold uRes at h
  by_cases h1 : (gath l (most n)).2.2 = 0
  · rw [if_pos h1] at h
    by_cases h2 : (gath l (most n)).2.1 = most n ∧ l.getD (most n - 1) 0 / 2 ^ inl n ≠ 0
    · rw [if_pos h2] at h; simp at h
    · rw [if_neg h2] at h
      rw [h] at h2
      exact ⟨h, h2⟩
  · rw [if_neg h1] at h
    simp only [Prod.mk.injEq] at h
    exact absurd h.2.2 h1
theorem uRes_pre {l l' : List Nat} {n u s : Nat} (hn : 1 ≤ n) (h : uRes l n = (u, s, 0)) (ht : l.take s = l'.take s) : uRes l' n = (u, s, 0) := by
  obtain ⟨h1, h2⟩ := uRes_is h
  have hm : 1 ≤ most n := by unfold most; omega
  unfold uRes
  rw [gath_pre h1 ht]
  simp only [if_true]
  rw [if_neg]
  rintro ⟨h3, h4⟩
  rw [← getD_pre ht (most n - 1) (by omega)] at h4
  exact h2 ⟨h3, h4⟩
theorem uRes_cut {l : List Nat} {n u s : Nat} (h : uRes l n = (u, s, 0)) (k : Nat) (hk : k < s) : uRes (l.take k) n = (0, 0, 1) := by
  obtain ⟨h1, _⟩ := uRes_is h
  unfold uRes
  rw [gath_cut h1 k hk]
  simp
theorem drop_take_pre {l l' : List Nat} {q : Nat} (ht : l.take q = l'.take q) (p s : Nat) (h : p + s ≤ q) : (l.drop p).take s = (l'.drop p).take s := by
  have h1 : (l.drop p).take s = ((l.take q).drop p).take s := by rw [List.drop_take, List.take_take, Nat.min_eq_left (by omega)]
  have h2 : (l'.drop p).take s = ((l'.take q).drop p).take s := by rw [List.drop_take, List.take_take, Nat.min_eq_left (by omega)]
  rw [h1, h2, ht]
/-- A section: its number, its bytes. -/
structure Sec where
  id : Int
  b : List Nat
  deriving DecidableEq
def placeOf (id : Int) : Int := if id = 12 then 95 else id * 10
/-- May a section of this number stand behind others? -/
def may (l : List Sec) (id : Int) : Bool := decide (0 ≤ id ∧ id ≤ 12 ∧ ∀ s ∈ l, id = 0 ∨ s.id = 0 ∨ placeOf s.id < placeOf id)
def headB : List Nat := [0, 97, 115, 109, 1, 0, 0, 0]
/-- The first bytes: what is wrong with them. -/
def headErr (bs : List Nat) : Nat := if bs.take 8 = headB.take (min bs.length 8) then (if bs.length < 8 then 1 else 0) else 2
/-- The sections from place p on, 'out' being there already. -/
def splitF (bs : List Nat) : Nat → List Sec → Nat → List Sec × Nat
  | 0, out, _ => (out, 0)
  | f + 1, out, p =>
    if bs.length ≤ p then (out, 0)
    else if may out (bs.getD p 0 : Nat) = false then (out, 2)
    else if (uRes (bs.drop (p + 1)) 32).2.2 ≠ 0 then (out, (uRes (bs.drop (p + 1)) 32).2.2)
    else if bs.length - (p + 1 + (uRes (bs.drop (p + 1)) 32).2.1) < (uRes (bs.drop (p + 1)) 32).1 then (out, 1)
    else splitF bs f (out ++ [⟨(bs.getD p 0 : Nat), (bs.drop (p + 1 + (uRes (bs.drop (p + 1)) 32).2.1)).take (uRes (bs.drop (p + 1)) 32).1⟩]) (p + 1 + (uRes (bs.drop (p + 1)) 32).2.1 + (uRes (bs.drop (p + 1)) 32).1)
def splitRes (bs : List Nat) : List Sec × Nat :=
  if 65536 < bs.length then ([], 4)
  else if headErr bs ≠ 0 then ([], headErr bs)
  else splitF bs (bs.length + 1) [] 8
def secBytes (s : Sec) : List Nat := s.id.toNat :: (putU s.b.length ++ s.b)
def secsBytes (l : List Sec) : List Nat := l.flatMap secBytes
def joinBytes (l : List Sec) : List Nat := headB ++ secsBytes l
/-- Are their numbers in order, behind those that are there? -/
def orderF : List Sec → List Sec → Bool
  | _, [] => true
  | out, s :: l => may out s.id && orderF (out ++ [s]) l
def order (l : List Sec) : Bool := orderF [] l
def joinRes (l : List Sec) : List Nat × Nat := if order l = false then ([], 2) else if 65536 < (joinBytes l).length then ([], 4) else (joinBytes l, 0)
theorem may_range {l : List Sec} {id : Int} (h : may l id = true) : 0 ≤ id ∧ id ≤ 12 := by
  have := of_decide_eq_true h
  exact ⟨this.1, this.2.1⟩
theorem secBytes_pos (s : Sec) : 1 ≤ (secBytes s).length := by simp [secBytes]
theorem secsBytes_len (l : List Sec) : l.length ≤ (secsBytes l).length := by
  induction l with
  | nil => simp
  | cons s l ih =>
    have := secBytes_pos s
    simp only [secsBytes, List.flatMap_cons, List.length_append, List.length_cons] at ih ⊢
    omega
/-- What was joined is split as it was. -/
theorem split_put (l out : List Sec) (pre : List Nat) (f : Nat) (h : orderF out l = true) (hf : l.length < f) (hb : ∀ s ∈ l, s.b.length < 4294967296) : splitF (pre ++ secsBytes l) f out pre.length = (out ++ l, 0) := by
  induction l generalizing out pre f with
  | nil =>
    cases f with
    | zero => simp at hf
    | succ f => simp [splitF, secsBytes]
  | cons s l ih =>
    cases f with
    | zero => simp at hf
    | succ f =>
      simp only [orderF, Bool.and_eq_true] at h
      obtain ⟨hm, ho⟩ := h
      have hr := may_range hm
      have e : pre ++ secsBytes (s :: l) = pre ++ (s.id.toNat :: (putU s.b.length ++ (s.b ++ secsBytes l))) := by simp [secsBytes, secBytes]
      rw [e]
      have hg : (pre ++ (s.id.toNat :: (putU s.b.length ++ (s.b ++ secsBytes l)))).getD pre.length 0 = s.id.toNat := by simp [List.getD]
      have hd : (pre ++ (s.id.toNat :: (putU s.b.length ++ (s.b ++ secsBytes l)))).drop (pre.length + 1) = putU s.b.length ++ (s.b ++ secsBytes l) := by
        rw [← List.drop_drop, List.drop_left]; rfl
      have hu := uRes_put s.b.length 32 (s.b ++ secsBytes l) (by omega) (by omega) (by have := hb s (by simp); omega)
      have hid : ((s.id.toNat : Nat) : Int) = s.id := by omega
      have hd2 : (pre ++ (s.id.toNat :: (putU s.b.length ++ (s.b ++ secsBytes l)))).drop (pre.length + 1 + (putU s.b.length).length) = s.b ++ secsBytes l := by
        rw [← List.drop_drop, hd, List.drop_left]
      simp only [splitF]
      rw [hg, hd, hu, hid, hm]
      simp only [ne_eq, not_true_eq_false, if_false, Bool.true_eq_false]
      rw [if_neg (by simp), hd2, List.take_left, if_neg (by simp; omega)]
      have ih2 := ih (out ++ [s]) (pre ++ secBytes s) f ho (by simpa using hf) (fun s' hs' => hb s' (by simp [hs']))
      have e2 : pre ++ (s.id.toNat :: (putU s.b.length ++ (s.b ++ secsBytes l))) = pre ++ secBytes s ++ secsBytes l := by simp [secBytes]
      have e3 : (pre ++ secBytes s).length = pre.length + 1 + (putU s.b.length).length + s.b.length := by simp [secBytes]; omega
      rw [e2, ← e3, ih2]
      simp
theorem head_join (l : List Sec) : headErr (joinBytes l) = 0 := by
  have h8 : headB.length = 8 := rfl
  have hl : 8 ≤ (joinBytes l).length := by unfold joinBytes; rw [List.length_append]; omega
  unfold headErr
  rw [Nat.min_eq_right hl, if_pos, if_neg (by omega)]
  unfold joinBytes
  rw [List.take_append_of_le_length (by omega)]
theorem split_join (l : List Sec) (h : order l = true) (hlen : (joinBytes l).length ≤ 65536) (hb : ∀ s ∈ l, s.b.length < 4294967296) : splitRes (joinBytes l) = (l, 0) := by
  unfold splitRes
  rw [if_neg (by omega), head_join, if_neg (by simp)]
  have hn := secsBytes_len l
  have := split_put l [] headB ((joinBytes l).length + 1) h (by unfold joinBytes; rw [List.length_append]; omega) hb
  simpa [joinBytes, headB] using this
end Go.Proofs.Ytlbbnnljclndkaa.Sec
namespace Go.Proofs.Ytlbbnnljclndkaa.Sec
open Go.RowKit Leb

/-- The two cells of a section. -/
def SecAt (w : World) (B b off : Nat) (s : Sec) : Prop :=
  ∃ A c, w.cell? ⟨b, off, none⟩ = some (.int .i64 s.id) ∧ w.cell? ⟨b, off + 1, none⟩ = some (.slice A s.b.length c) ∧ Bytes w B A s.b ∧ s.b.length ≤ c ∧ (A = none → c = 0)
theorem SecAt.below {w w' : World} {B b off : Nat} {s : Sec} (h : SecAt w B b off s) (hb : Below B w w') (hlt : b < B) : SecAt w' B b off s := by
  obtain ⟨A, c, h1, h2, h3, h4, h5⟩ := h
  have C : ∀ p : Addr, p.block = b → w'.cell? p = w.cell? p := fun p hp => hb.cell (by omega)
  exact ⟨A, c, (C _ rfl).trans h1, (C _ rfl).trans h2, h3.below hb, h4, h5⟩
theorem SecAt.more {w : World} {B B' b off : Nat} {s : Sec} (h : SecAt w B b off s) (hB : B ≤ B') : SecAt w B' b off s := by
  obtain ⟨A, c, h1, h2, h3, h4, h5⟩ := h
  exact ⟨A, c, h1, h2, h3.more hB, h4, h5⟩
/-- Sections that a slice leads to. -/
def Secs (w : World) (B : Nat) (A : Option Addr) (l : List Sec) : Prop :=
  0 < l.length → ∃ b off, A = some ⟨b, off, none⟩ ∧ b < B ∧ ∀ (j : Nat) (h : j < l.length), SecAt w B b (off + j * 2) l[j]
theorem Secs.below {w w' : World} {B : Nat} {A : Option Addr} {l : List Sec} (h : Secs w B A l) (hb : Below B w w') : Secs w' B A l := by
  intro hl
  obtain ⟨b, off, e, hB, hc⟩ := h hl
  exact ⟨b, off, e, hB, fun j hj => (hc j hj).below hb hB⟩
theorem Secs.more {w : World} {B B' : Nat} {A : Option Addr} {l : List Sec} (h : Secs w B A l) (hB : B ≤ B') : Secs w B' A l := by
  intro hl
  obtain ⟨b, off, e, hb, hc⟩ := h hl
  exact ⟨b, off, e, by omega, fun j hj => (hc j hj).more hB⟩
theorem Secs.nil (w : World) (B : Nat) (A : Option Addr) : Secs w B A [] := fun h => absurd h (by simp)
theorem Secs.take {w : World} {B : Nat} {A : Option Addr} {l : List Sec} (h : Secs w B A l) (k : Nat) : Secs w B A (l.take k) := by
  intro hl
  obtain ⟨b, off, e, hB, hc⟩ := h (by simp at hl; omega)
  refine ⟨b, off, e, hB, fun j hj => ?_⟩
  have := hc j (by simp at hj; omega)
  rw [List.getElem_take]
  exact this
/-- A function that leaves the world alone. -/
def Still (w : World) (v : Value) (e : Ending) (w' : World) : Prop := e = .returned v ∧ w = w'
theorem may_next {l : List Sec} {id : Int} (j : Nat) (hj : j < l.length) : may (l.take (j + 1)) id = (may (l.take j) id && decide (id = 0 ∨ l[j].id = 0 ∨ placeOf l[j].id < placeOf id)) := by
  apply Bool.eq_iff_iff.2
  rw [Bool.and_eq_true]
  unfold may
  rw [decide_eq_true_iff, decide_eq_true_iff, decide_eq_true_iff, List.take_succ_eq_append_getElem hj]
  constructor
  · rintro ⟨h1, h2, h3⟩
    exact ⟨⟨h1, h2, fun s hs => h3 s (List.mem_append.2 (.inl hs))⟩, h3 _ (List.mem_append.2 (.inr (List.mem_singleton.2 rfl)))⟩
  · rintro ⟨⟨h1, h2, h3⟩, h4⟩
    refine ⟨h1, h2, fun s hs => ?_⟩
    rcases List.mem_append.1 hs with h | h
    · exact h3 s h
    · rw [List.mem_singleton.1 h]; exact h4
theorem may_fail {l : List Sec} {id : Int} (j : Nat) (hj : j < l.length) (h : ¬ (id = 0 ∨ l[j].id = 0 ∨ placeOf l[j].id < placeOf id)) : may l id = false :=
  decide_eq_false fun h2 => h (h2.2.2 _ (List.getElem_mem hj))
end Go.Proofs.Ytlbbnnljclndkaa.Sec
namespace Go.Proofs.Ytlbbnnljclndkaa.Sec
open Go.RowKit Leb

/-- A section with the place of its bytes, and their room; its cells. -/
abbrev Ent : Type := Sec × Option Addr × Nat
def el (e : Ent) : List Value := [.int .i64 e.1.id, .slice e.2.1 e.1.b.length e.2.2]
def lab (w : World) (B : Nat) (e : Ent) : Prop := Bytes w B e.2.1 e.1.b ∧ e.1.b.length ≤ e.2.2 ∧ (e.2.1 = none → e.2.2 = 0)
theorem lab.below {w w' : World} {B : Nat} {e : Ent} (h : lab w B e) (hb : Below B w w') : lab w' B e := ⟨h.1.below hb, h.2.1, h.2.2⟩
theorem lab.more {w : World} {B B' : Nat} {e : Ent} (h : lab w B e) (hB : B ≤ B') : lab w B' e := ⟨h.1.more hB, h.2.1, h.2.2⟩
theorem el_len (e : Ent) : (el e).length = 2 := rfl
/-- Their cells, one behind the other. -/
def els (es : List Ent) : List Value := es.flatMap el
theorem els_len (es : List Ent) : (els es).length = es.length * 2 := by
  induction es with
  | nil => rfl
  | cons e es ih => simp only [els, List.flatMap_cons, List.length_append, el_len, List.length_cons] at ih ⊢; omega
theorem els_app (es es' : List Ent) : els (es ++ es') = els es ++ els es' := by simp [els]
theorem els_at (es : List Ent) (j i : Nat) (hj : j < es.length) (hi : i < 2) : (els es)[j * 2 + i]? = some ((el es[j])[i]'(by rw [el_len]; exact hi)) := by
  induction es generalizing j with
  | nil => simp at hj
  | cons e es ih =>
    have e1 : els (e :: es) = el e ++ els es := by simp [els]
    rw [e1]
    cases j with
    | zero =>
      rw [Nat.zero_mul, Nat.zero_add, List.getElem?_append_left (by rw [el_len]; exact hi), List.getElem?_eq_getElem]
      rfl
    | succ j =>
      rw [List.getElem?_append_right (by rw [el_len]; omega), el_len, show (j + 1) * 2 + i - 2 = j * 2 + i from by omega, ih j (by simpa using hj)]
      rfl
theorem el_one (e : Ent) : ∀ u ∈ el e, u.oneCell' = true := by
  intro u hu
  simp only [el, List.mem_cons, List.not_mem_nil, or_false] at hu
  rcases hu with rfl | rfl <;> rfl
theorem els_one (es : List Ent) : ∀ u ∈ els es, u.oneCell' = true := by
  intro u hu
  obtain ⟨e, _, he⟩ := List.mem_flatMap.1 hu
  exact el_one e u he
/-- Cells of sections in memory. -/
def RowE (w : World) (B : Nat) (A : Option Addr) (es : List Ent) : Prop :=
  0 < es.length → ∃ b off, A = some ⟨b, off, none⟩ ∧ b < B ∧ ∀ (j : Nat) (h : j < es.length) (i : Nat) (hi : i < 2), w.cell? ⟨b, off + j * 2 + i, none⟩ = some ((el es[j])[i]'(by rw [el_len]; exact hi))
theorem RowE.below {w w' : World} {B : Nat} {A : Option Addr} {es : List Ent} (h : RowE w B A es) (hb : Below B w w') : RowE w' B A es := by
  intro hl
  obtain ⟨b, off, e, hB, hc⟩ := h hl
  exact ⟨b, off, e, hB, fun j hj i hi => (hb.cell hB).trans (hc j hj i hi)⟩
theorem RowE.more {w : World} {B B' : Nat} {A : Option Addr} {es : List Ent} (h : RowE w B A es) (hB : B ≤ B') : RowE w B' A es := by
  intro hl
  obtain ⟨b, off, e, hb, hc⟩ := h hl
  exact ⟨b, off, e, by omega, hc⟩
theorem at_ents {w : World} {B b off : Nat} (xs : List Sec) (h : ∀ (j : Nat) (h : j < xs.length), SecAt w B b (off + j * 2) xs[j]) :
    ∃ es : List Ent, es.map (fun e => e.1) = xs ∧ (∀ (j : Nat) (h : j < es.length) (i : Nat) (hi : i < 2), w.cell? ⟨b, off + j * 2 + i, none⟩ = some ((el es[j])[i]'(by rw [el_len]; exact hi))) ∧ ∀ e ∈ es, lab w B e := by
  induction xs generalizing off with
  | nil => exact ⟨[], rfl, by simp, by simp⟩
  | cons x xs ih =>
    obtain ⟨es, h1, h2, h3⟩ := ih (off := off + 2) (fun j hj => by
      have := h (j + 1) (by simpa using hj)
      rw [show off + 2 + j * 2 = off + (j + 1) * 2 from by omega]
      simpa using this)
    obtain ⟨A, c, q0, q1, q5, q6, q7⟩ := h 0 (by simp)
    rw [Nat.zero_mul, Nat.add_zero] at q0 q1
    refine ⟨(x, A, c) :: es, by simp [h1], fun j hj i hi => ?_, fun e he => ?_⟩
    · cases j with
      | zero =>
        rw [Nat.zero_mul, Nat.add_zero]
        match i, hi with
        | 0, _ => exact q0
        | 1, _ => exact q1
      | succ j =>
        have := h2 j (by simpa using hj) i hi
        rw [show off + (j + 1) * 2 + i = off + 2 + j * 2 + i from by omega, this]
        rfl
    · rcases List.mem_cons.1 he with rfl | he
      · exact ⟨q5, q6, q7⟩
      · exact h3 e he
theorem Secs.ents {w : World} {B : Nat} {A : Option Addr} {xs : List Sec} (h : Secs w B A xs) : ∃ es : List Ent, es.map (fun e => e.1) = xs ∧ RowE w B A es ∧ ∀ e ∈ es, lab w B e := by
  rcases Nat.eq_zero_or_pos xs.length with h0 | h0
  · have : xs = [] := List.eq_nil_of_length_eq_zero h0
    subst this
    exact ⟨[], rfl, fun h => absurd h (by simp), by simp⟩
  · obtain ⟨b, off, rfl, hB, hc⟩ := h h0
    obtain ⟨es, h1, h2, h3⟩ := at_ents xs hc
    exact ⟨es, h1, fun _ => ⟨b, off, rfl, hB, h2⟩, h3⟩
theorem secs_of {w : World} {B : Nat} {A : Option Addr} {es : List Ent} (h : RowE w B A es) (hl : ∀ e ∈ es, lab w B e) : Secs w B A (es.map fun e => e.1) := by
  intro h0
  obtain ⟨b, off, rfl, hB, hc⟩ := h (by simpa using h0)
  refine ⟨b, off, rfl, hB, fun j hj => ?_⟩
  have hj' : j < es.length := by simpa using hj
  obtain ⟨l1, l2, l3⟩ := hl _ (List.getElem_mem hj')
  have q0 := hc j hj' 0 (by omega)
  have q1 := hc j hj' 1 (by omega)
  rw [List.getElem_map]
  exact ⟨es[j].2.1, es[j].2.2, q0, q1, l1, l2, l3⟩
/-- A slice of sections, with its room. -/
structure Sli (w : World) (B : Nat) (A : Option Addr) (c : Nat) (l : List Sec) : Prop where
  secs : Secs w B A l
  room : l.length ≤ c
  nil : A = none → c = 0
theorem Sli.below {w w' : World} {B : Nat} {A : Option Addr} {c : Nat} {l : List Sec} (h : Sli w B A c l) (hb : Below B w w') : Sli w' B A c l := ⟨h.secs.below hb, h.room, h.nil⟩
theorem Sli.more {w : World} {B B' : Nat} {A : Option Addr} {c : Nat} {l : List Sec} (h : Sli w B A c l) (hB : B ≤ B') : Sli w B' A c l := ⟨h.secs.more hB, h.room, h.nil⟩
/-- The slice value v owns the cells of the sections es, in a block from 'base' on; et: their type. -/
def OwnX (w : World) (et : TypeId) (base : Nat) (v : Value) (es : List Ent) : Prop := w.ownsRow base et 2 v es.length (els es)
theorem OwnX.lt {w : World} {et : TypeId} {base : Nat} {v : Value} {es : List Ent} (h : OwnX w et base v es) : ∀ k, v.ownBlock = some k → k < w.heap.size := fun k hk => (World.ownsRow.lt h k hk).2
theorem OwnX.nil (w : World) (et : TypeId) (base : Nat) : OwnX w et base (.slice none 0 0) [] := World.ownsRow_nil _ _ _ _
theorem OwnX.row {w : World} {et : TypeId} {base : Nat} {v : Value} {es : List Ent} (h : OwnX w et base v es) :
    ∃ A cap, v = .slice A es.length cap ∧ RowE w w.heap.size A es ∧ es.length ≤ cap ∧ (A = none → cap = 0) := by
  have hlt := h.lt
  rcases h.2 with ⟨rfl, h0⟩ | ⟨g, cap, cur, rfl, h1, h2, h3, h4, h5⟩
  · refine ⟨none, 0, by rw [h0], fun h => by omega, by omega, fun _ => rfl⟩
  · refine ⟨some ⟨g, 0, none⟩, cap, rfl, fun _ => ⟨g, 0, rfl, hlt g rfl, fun j hj i hi => ?_⟩, h3, fun h => by cases h⟩
    have hc := World.ownsRow.cellAt h (j * 2 + i) (by omega)
    rw [show 0 + j * 2 + i = j * 2 + i from by omega, hc, els_at es j i hj hi]
theorem ownX_lit (w : World) (et : TypeId) (es : List Ent) (vs : Array Value) (n : Nat) (hv : vs = (els es).toArray) (hn : es.length = n) (hm : n ≤ maxLen) : OwnX (w.alloc (.cells vs et)) et w.heap.size (.slice (some ⟨w.heap.size, 0, none⟩) n n) es := by
  subst hv hn
  have := World.ownsRow_lit (e := et) (size := 2) (base := w.heap.size) w (els es).toArray es.length (Nat.le_refl _) hm (by simp [els_len])
  simpa [OwnX] using this
theorem rowE_lit (w : World) (et : TypeId) (es : List Ent) (vs : Array Value) (n : Nat) (hv : vs = (els es).toArray) (hn : es.length = n) (hm : n ≤ maxLen) : RowE (w.alloc (.cells vs et)) (w.heap.size + 1) (some ⟨w.heap.size, 0, none⟩) es := by
  obtain ⟨A, cap, hA, h, _, _⟩ := (ownX_lit w et es vs n hv hn hm).row
  injection hA with hA _ _
  subst hA
  simpa using h
theorem rowSame {w w' : World} {base e size n : Nat} {v : Value} {xs : List Value} (h : w.ownsRow base e size v n xs) (hb : ∀ b, v.ownBlock = some b → w'.heap[b]? = w.heap[b]?) : w'.ownsRow base e size v n xs := by
  refine ⟨h.1, ?_⟩
  rcases h.2 with ⟨rfl, h0⟩ | ⟨g, cap, cur, rfl, h1, h2, h3, h4, h5⟩
  · exact .inl ⟨rfl, h0⟩
  · exact .inr ⟨g, cap, cur, rfl, h1, (hb g rfl).trans h2, h3, h4, h5⟩
theorem by_refl (w : World) (o : Option Nat) : w.grownBy w o := ⟨rfl, rfl, rfl, Nat.le_refl _, fun _ _ _ => rfl⟩
theorem by_set (w : World) (r i : Nat) (u : Value) : w.grownBy (w.setCell ⟨r, i, none⟩ u) (some r) :=
  ⟨rfl, rfl, rfl, by simp, fun k _ hne => Below.heap_setCell _ _ _ _ (fun e => hne (by rw [e]))⟩
theorem by_below {w w' : World} (h : Below w.heap.size w w') (o : Option Nat) : w.grownBy w' o := ⟨h.os, h.tape, h.output, h.size, fun k hk _ => h.block k hk⟩
theorem by_trans {a b c : World} {o : Option Nat} (h : a.grownBy b o) (k : b.grownBy c o) : a.grownBy c o :=
  ⟨k.os.trans h.os, k.tape.trans h.tape, k.output.trans h.output, Nat.le_trans h.size k.size, fun i hi hn => (k.block i (Nat.lt_of_lt_of_le hi h.size) hn).trans (h.block i hi hn)⟩
/-- A section's bytes are not in this block. -/
def OffB (o : Option Nat) (e : Ent) : Prop := 0 < e.1.b.length → ∀ a, e.2.1 = some a → o ≠ some a.block
theorem lab.lt {w : World} {B : Nat} {e : Ent} (h : lab w B e) (hl : 0 < e.1.b.length) : ∀ a, e.2.1 = some a → a.block < B := by
  intro a ha
  obtain ⟨b, off, e1, hb, _⟩ := h.1.2 hl
  rw [ha] at e1
  injection e1 with e1
  subst e1
  exact hb
theorem lab.same {w w' : World} {B : Nat} {e : Ent} (h : lab w B e) (hh : 0 < e.1.b.length → ∀ a, e.2.1 = some a → w'.heap[a.block]? = w.heap[a.block]?) : lab w' B e := by
  refine ⟨⟨h.1.1, fun hl => ?_⟩, h.2.1, h.2.2⟩
  obtain ⟨b, off, e1, hb, hc⟩ := h.1.2 hl
  have h2 := hh hl _ e1
  refine ⟨b, off, e1, hb, fun j hj => ?_⟩
  have h3 : w'.cell? ⟨b, off + j, none⟩ = w.cell? ⟨b, off + j, none⟩ := World.cell?_of_block h2
  exact h3.trans (hc j hj)
/-- The list under way, r a block besides that is written. -/
structure LS (w W : World) (et : TypeId) (r : Option Nat) (lv : Value) (es : List Ent) : Prop where
  below : Below w.heap.size w W
  own : OwnX W et w.heap.size lv es
  labs : ∀ e ∈ es, lab W W.heap.size e
  offs : ∀ e ∈ es, OffB lv.ownBlock e
  offR : ∀ k, r = some k → k < W.heap.size ∧ w.heap.size ≤ k ∧ lv.ownBlock ≠ some k ∧ ∀ e ∈ es, OffB (some k) e
theorem ls_nil (w W : World) (et : TypeId) (r : Option Nat) (hb : Below w.heap.size w W) (hr : ∀ k, r = some k → k < W.heap.size ∧ w.heap.size ≤ k) : LS w W et r (.slice none 0 0) [] :=
  ⟨hb, OwnX.nil _ _ _, by simp, by simp, fun k hk => ⟨(hr k hk).1, (hr k hk).2, by simp [Value.ownBlock], by simp⟩⟩
theorem LS.keepG {w W W' : World} {et : TypeId} {r : Option Nat} {lv : Value} {es : List Ent} (h : LS w W et r lv es) (hg : W.grownBy W' r) : LS w W' et r lv es :=
  ⟨h.below.grown hg h.below.size fun i hi => (h.offR i hi).2.1,
   rowSame h.own fun b e => hg.block b (h.own.lt b e) fun e2 => (h.offR b e2.symm).2.2.1 e,
   fun e he => ((h.labs e he).same fun hl a ha => hg.block _ ((h.labs e he).lt hl a ha) fun e2 => (h.offR _ e2.symm).2.2.2 e he hl a ha rfl).more hg.size,
   h.offs, fun k hk => ⟨Nat.lt_of_lt_of_le (h.offR k hk).1 hg.size, (h.offR k hk).2⟩⟩
theorem LS.keep {w W W' : World} {et : TypeId} {r : Option Nat} {lv : Value} {es : List Ent} (h : LS w W et r lv es) (hb : Below W.heap.size W W') : LS w W' et r lv es := h.keepG (by_below hb r)
theorem LS.more {w W W' : World} {et : TypeId} {r : Option Nat} {lv : Value} {es : List Ent} (h : LS w W et r lv es) {e : Ent} {A' : Option Addr} {m c' : Nat} (hl : lab W W.heap.size e) (hoff : OffB lv.ownBlock e) (hoffr : ∀ k, r = some k → OffB (some k) e)
    (ho : OwnX W' et w.heap.size (.slice A' m c') (es ++ [e])) (hg : W.grownBy W' lv.ownBlock) (hb' : (Value.slice A' m c').ownBlock = lv.ownBlock ∨ (Value.slice A' m c').ownBlock = some W.heap.size) : LS w W' et r (.slice A' m c') (es ++ [e]) := by
  have hall : ∀ e' ∈ es ++ [e], lab W W.heap.size e' ∧ OffB lv.ownBlock e' := by
    intro e' he
    rcases List.mem_append.1 he with he | he
    · exact ⟨h.labs e' he, h.offs e' he⟩
    · rw [List.mem_singleton.1 he]; exact ⟨hl, hoff⟩
  refine ⟨h.below.grown hg h.below.size (fun i hi => (World.ownsRow.lt h.own i hi).1), ho, fun e' he => ?_, fun e' he hl' a ha => ?_, fun k hk => ?_⟩
  · exact ((hall e' he).1.same fun hl' a ha => hg.block _ ((hall e' he).1.lt hl' a ha) fun e3 => (hall e' he).2 hl' a ha e3.symm).more hg.size
  · rcases hb' with e2 | e2
    · rw [e2]; exact (hall e' he).2 hl' a ha
    · rw [e2]; intro e3
      injection e3 with e3
      have := (hall e' he).1.lt hl' a ha
      omega
  · obtain ⟨h1, h2, h3, h4⟩ := h.offR k hk
    refine ⟨Nat.lt_of_lt_of_le h1 hg.size, h2, ?_, fun e' he => ?_⟩
    · rcases hb' with e2 | e2
      · rw [e2]; exact h3
      · rw [e2]; intro e3
        injection e3 with e3
        omega
    · rcases List.mem_append.1 he with he | he
      · exact h4 e' he
      · rw [List.mem_singleton.1 he]; exact hoffr k hk
theorem LS.sli {w W : World} {et : TypeId} {r : Option Nat} {lv : Value} {es : List Ent} (h : LS w W et r lv es) : ∃ A c, lv = .slice A es.length c ∧ Sli W W.heap.size A c (es.map fun e => e.1) := by
  obtain ⟨A, c, rfl, h1, h2, h3⟩ := h.own.row
  exact ⟨A, c, rfl, secs_of h1 h.labs, by simpa using h2, h3⟩
theorem cells_of {w : World} {B b off : Nat} {es : List Ent} (hr : RowE w B (some ⟨b, off, none⟩) es) : ∀ j u, (els es)[j]? = some u → w.cell? ((⟨b, off, none⟩ : Addr).add j) = some u := by
  intro j u hu
  have hj : j < es.length * 2 := by
    rcases Nat.lt_or_ge j (es.length * 2) with hj | hj
    · exact hj
    · rw [List.getElem?_eq_none (by rw [els_len]; omega)] at hu; cases hu
  obtain ⟨b', off', he, _, hc⟩ := hr (by omega)
  injection he with he
  injection he with e1 e2 _
  subst e1 e2
  have h1 := hc (j / 2) (by omega) (j % 2) (by omega)
  have h2 := els_at es (j / 2) (j % 2) (by omega) (by omega)
  rw [show j / 2 * 2 + j % 2 = j from by omega, hu] at h2
  injection h2 with h2
  rw [← h2, show off + j / 2 * 2 + j % 2 = off + j from by omega] at h1
  by_cases h0 : j = 0
  · subst h0; simpa [Addr.add] using h1
  · simpa [Addr.add, h0] using h1
/-- A type of sections, and of slices of them. -/
structure Ty (t et : TypeId) : Prop where
  und : Try.prog.underlying t = some (.slice et)
  info : (Try.prog.info? et).map (fun i => (i.zero, i.size, i.bytes)) = some (some (.agg #[.int .i64 0, .slice none 0 0]), 2, 32)
section
variable {w : World} {ops : Array Oper} {rest : List Oper} {o : Oper} {a : Act} {Q : Exit → Act → World → Prop} {t et : TypeId} (T : Ty t et)
include T
set_option maxRecDepth 100000 in
theorem app_sec (hgd : o.guard = none) (s x : Operand) (ho : o.op = .call { callee := .builtin .append, args := #[s, x], argTypes := #[t, t] })
    (base : Nat) (v : Value) (es : List Ent) (hs : a.eval s = v) (hown : OwnX w et base v es) (b off : Nat) (es' : List Ent) (m c B k : Nat) (hm : es'.length = m) (hx : a.eval x = .slice (some ⟨b, off, none⟩) m c) (hr : RowE w B (some ⟨b, off, none⟩) es')
    (hk : (es ++ es').length = k) (hlen : k ≤ 1000000) (hbase : base ≤ w.heap.size)
    (h : ∀ A' c' w', OwnX w' et base (.slice A' k c') (es ++ es') → w.grownBy w' v.ownBlock → ((Value.slice A' k c').ownBlock = v.ownBlock ∨ (Value.slice A' k c').ownBlock = some w.heap.size) → wpList Try.prog ops Q rest (a.put o.dst (.slice A' k c')) w') : wpList Try.prog ops Q (o :: rest) a w := by
  obtain ⟨i0, hi0, hz0, hz1, hz2⟩ := info_parts T.info
  subst hm hk
  simp only [List.length_append] at hlen
  refine wpList_append_own_at w hgd s x _ ho base et i0 _ 2 32 T.und hi0 hz0 hz1 hz2 rfl (by omega) v es.length (els es) hs hown ⟨b, off, none⟩ es'.length c (els es') hx (els_len es') (cells_of hr) (els_one es') (by simp only [maxLen]; omega) (by omega) hbase ?_
  intro v' w' h1 h2 _ h4
  have ho' : OwnX w' et base v' (es ++ es') := by
    unfold OwnX
    rw [List.length_append, els_app]
    exact h1
  obtain ⟨A', c', rfl, _, _, _⟩ := ho'.row
  exact h A' c' w' ho' h2 h4
end
end Go.Proofs.Ytlbbnnljclndkaa.Sec
namespace Go.Proofs.Ytlbbnnljclndkaa.Sec
open Go.RowKit Leb

/-- A slice of bytes, with its room. -/
structure Slc (w : World) (B : Nat) (A : Option Addr) (c : Nat) (l : List Nat) : Prop where
  bytes : Bytes w B A l
  nil : A = none → c = 0
  room : l.length ≤ c
theorem Slc.below {w w' : World} {B : Nat} {A : Option Addr} {c : Nat} {l : List Nat} (h : Slc w B A c l) (hb : Below B w w') : Slc w' B A c l := ⟨h.bytes.below hb, h.nil, h.room⟩
theorem Slc.more {w : World} {B B' : Nat} {A : Option Addr} {c : Nat} {l : List Nat} (h : Slc w B A c l) (hB : B ≤ B') : Slc w B' A c l := ⟨h.bytes.more hB, h.nil, h.room⟩
theorem bytes_from {w : World} {B b off : Nat} {l : List Nat} (h : Bytes w B (some ⟨b, off, none⟩) l) (k : Nat) : Bytes w B (some ⟨b, off + k, none⟩) (l.drop k) := by
  refine ⟨fun x hx => h.1 x (List.mem_of_mem_drop hx), fun hl => ?_⟩
  have hl' : k < l.length := by simp at hl; omega
  obtain ⟨b', off', e, hb, hc⟩ := h.2 (by omega)
  injection e with e
  injection e with e1 e2 _
  subst e1 e2
  refine ⟨b, off + k, rfl, hb, fun j hj => ?_⟩
  have := hc (k + j) (by simp at hj; omega)
  rw [List.getElem_drop, show off + k + j = off + (k + j) from by omega]
  exact this
set_option maxRecDepth 100000 in
/-- 'b[p:q]', p ≤ q ≤ len(b). -/
theorem slice_to (A : Option Addr) (l : List Nat) (c p q B : Nat) (w : World) (hs : Slc w B A c l) (hp : p ≤ q) (hq : q ≤ l.length) :
    ∃ A' c', (∀ W, (Instr.slice 50 (.slice A l.length c) (some (.int .i64 (p : Int))) (some (.int .i64 (q : Int))) none).run Try.prog W = .ok (.slice A' (q - p) c') W) ∧ (∀ W, Slc W B A c l → Slc W B A' c' ((l.drop p).take (q - p))) := by
  have hn := hs.nil
  have hr := hs.room
  have hsz : ∀ W, (sizeOf (Try.prog.elem 50)).run Try.prog W = .ok 1 W := fun W => by kernel_rfl
  have key : ∀ W, (Instr.slice 50 (.slice A l.length c) (some (.int .i64 (p : Int))) (some (.int .i64 (q : Int))) none).run Try.prog W = .ok (sliced A p q c 1) W := fun W => by
    rw [run_slice_lh W 50 A l.length c (show Try.prog.underlying 50 = some (.slice (Try.prog.elem 50)) from by kernel_rfl) .i64 .i64 (p : Int) (q : Int) (by omega) (by omega) (by omega), hsz W]
    simp [Result.andThen]
  have hlen : ((l.drop p).take (q - p)).length = q - p := by simp; omega
  have hmem : ∀ W, Slc W B A c l → ∀ x ∈ (l.drop p).take (q - p), x < 256 := fun W h x hx => h.bytes.1 x (List.mem_of_mem_drop (List.mem_of_mem_take hx))
  by_cases hc : c = p
  · refine ⟨A, c - p, fun W => ?_, fun W hW => ⟨⟨hmem W hW, fun h => ?_⟩, fun h => by rw [hn h]; omega, by omega⟩⟩
    · rw [key W]; simp [sliced, hc]
    · omega
  · refine ⟨A.map (·.add p), c - p, fun W => ?_, fun W hW => ⟨?_, fun h => ?_, by omega⟩⟩
    · rw [key W]; simp [sliced, hc]
    · by_cases hl : l.length = 0
      · obtain rfl : l = [] := List.eq_nil_of_length_eq_zero hl
        simp only [List.drop_nil, List.take_nil]
        exact ⟨by simp, by simp⟩
      · obtain ⟨b, off, rfl, h2, h3⟩ := hW.bytes.2 (by omega)
        have := (bytes_from hW.bytes p).take (q - p)
        by_cases h0 : p = 0
        · subst h0; simpa [Addr.add] using this
        · simpa [Addr.add, h0] using this
    · cases A with
      | none => rw [hn rfl]; omega
      | some ad => simp at h
set_option maxRecDepth 100000 in
/-- 'b[p:]', p ≤ len(b). -/
theorem slice_at (A : Option Addr) (l : List Nat) (c p B : Nat) (w : World) (hs : Slc w B A c l) (hp : p ≤ l.length) :
    ∃ A' c', (∀ W, (Instr.slice 50 (.slice A l.length c) (some (.int .i64 (p : Int))) none none).run Try.prog W = .ok (.slice A' (l.length - p) c') W) ∧ (∀ W, Slc W B A c l → Slc W B A' c' (l.drop p)) := by
  obtain ⟨A', c', h1, h2⟩ := slice_to A l c p l.length B w hs hp (Nat.le_refl _)
  refine ⟨A', c', fun W => ?_, fun W hW => ?_⟩
  · rw [← h1 W, run_slice_l W 50 A l.length c (show Try.prog.underlying 50 = some (.slice (Try.prog.elem 50)) from by kernel_rfl) .i64 (p : Int) (by omega) (by omega), run_slice_lh W 50 A l.length c (show Try.prog.underlying 50 = some (.slice (Try.prog.elem 50)) from by kernel_rfl) .i64 .i64 (p : Int) (l.length : Int) (by omega) (by omega) (by have := hs.room; omega)]
    simp
  · have := h2 W hW
    rwa [List.take_of_length_le (by simp)] at this
set_option maxRecDepth 100000 in
/-- 'b[:q]'. -/
theorem slice_hi (A : Option Addr) (l : List Nat) (c q B : Nat) (w : World) (hs : Slc w B A c l) (hq : q ≤ l.length) :
    (∀ W, (Instr.slice 50 (.slice A l.length c) none (some (.int .i64 (q : Int))) none).run Try.prog W = .ok (.slice A q c) W) ∧ (∀ W, Slc W B A c l → Slc W B A c (l.take q)) := by
  have hr := hs.room
  have hsz : ∀ W, (sizeOf (Try.prog.elem 50)).run Try.prog W = .ok 1 W := fun W => by kernel_rfl
  refine ⟨fun W => ?_, fun W hW => ⟨hW.bytes.take q, hW.nil, by simp; omega⟩⟩
  rw [run_slice_h W 50 A l.length c (show Try.prog.underlying 50 = some (.slice (Try.prog.elem 50)) from by kernel_rfl) .i64 (q : Int) (by omega) (by omega), hsz W]
  cases A <;> simp [Result.andThen, sliced, Addr.add]
set_option maxRecDepth 100000 in
/-- 'l[:q]' of sections. -/
theorem secs_hi {t et : TypeId} (T : Ty t et) (A : Option Addr) (n c q : Nat) (hr : n ≤ c) (hq : q ≤ n) :
    ∀ W, (Instr.slice t (.slice A n c) none (some (.int .i64 (q : Int))) none).run Try.prog W = .ok (.slice A q c) W := by
  intro W
  have he : Try.prog.elem t = et := by simp [Program.elem, T.und]
  obtain ⟨i0, hi0, hz0, hz1, hz2⟩ := info_parts T.info
  have hsz : (sizeOf (Try.prog.elem t)).run Try.prog W = .ok 2 W := by rw [he, run_sizeOf W hi0]; simp [Program.cellsOf, hi0, hz1]
  rw [run_slice_h W t A n c (by rw [he]; exact T.und) .i64 (q : Int) (by omega) (by omega), hsz]
  cases A <;> simp [Result.andThen, sliced, Addr.add]
end Go.Proofs.Ytlbbnnljclndkaa.Sec
namespace Go.Proofs.Ytlbbnnljclndkaa.Sec
open Go.RowKit Leb

theorem uRes_in {l : List Nat} {n u s : Nat} (h : uRes l n = (u, s, 0)) : 1 ≤ s ∧ s ≤ l.length := by
  obtain ⟨h1, _⟩ := uRes_is h
  obtain ⟨_, h3, rfl, _⟩ := gath_is h1
  omega
/-- One section that is there, then the others. -/
theorem splitF_step (bs : List Nat) (f p u s : Nat) (out : List Sec) (hp : p < bs.length) (hm : may out (bs.getD p 0 : Nat) = true) (hu : uRes (bs.drop (p + 1)) 32 = (u, s, 0)) (hl : ¬ bs.length - (p + 1 + s) < u) :
    splitF bs (f + 1) out p = splitF bs f (out ++ [⟨(bs.getD p 0 : Nat), (bs.drop (p + 1 + s)).take u⟩]) (p + 1 + s + u) := by
  simp only [splitF]
  rw [if_neg (by omega), if_neg (by rw [hm]; simp), hu]
  simp only [ne_eq, not_true_eq_false, if_false]
  rw [if_neg hl]
/-- Either the end, or an error, or a section that is there. -/
theorem splitF_cases (bs : List Nat) (f p : Nat) (out : List Sec) : (bs.length ≤ p ∧ splitF bs (f + 1) out p = (out, 0)) ∨ (∃ e, e ≠ 0 ∧ splitF bs (f + 1) out p = (out, e)) ∨
    (p < bs.length ∧ may out (bs.getD p 0 : Nat) = true ∧ ∃ u s, uRes (bs.drop (p + 1)) 32 = (u, s, 0) ∧ ¬ bs.length - (p + 1 + s) < u ∧ p + 1 + s ≤ bs.length) := by
  by_cases hp : bs.length ≤ p
  · exact .inl ⟨hp, by simp only [splitF]; rw [if_pos hp]⟩
  refine .inr ?_
  by_cases hm : may out (bs.getD p 0 : Nat) = false
  · exact .inl ⟨2, by simp, by simp only [splitF]; rw [if_neg hp, if_pos hm]⟩
  obtain ⟨u, s, e, hu⟩ : ∃ u s e, uRes (bs.drop (p + 1)) 32 = (u, s, e) := ⟨_, _, _, rfl⟩
  by_cases he : e = 0
  · subst he
    have hi := uRes_in hu
    rw [List.length_drop] at hi
    by_cases hl : bs.length - (p + 1 + s) < u
    · refine .inl ⟨1, by simp, ?_⟩
      simp only [splitF]
      rw [if_neg hp, if_neg hm, hu]
      simp only [ne_eq, not_true_eq_false, if_false]
      rw [if_pos hl]
    · exact .inr ⟨by omega, by simpa using hm, u, s, hu, hl, by omega⟩
  · refine .inl ⟨e, he, ?_⟩
    simp only [splitF]
    rw [if_neg hp, if_neg hm, hu]
    simp only
    rw [if_pos he]
theorem splitF_ext (bs : List Nat) (f : Nat) (out : List Sec) (p : Nat) : ∃ l, (splitF bs f out p).1 = out ++ l := by
  induction f generalizing out p with
  | zero => exact ⟨[], by simp [splitF]⟩
  | succ f ih =>
    rcases splitF_cases bs f p out with ⟨_, h⟩ | ⟨e, _, h⟩ | ⟨hp, hm, u, s, hu, hl, _⟩
    · exact ⟨[], by rw [h]; simp⟩
    · exact ⟨[], by rw [h]; simp⟩
    · rw [splitF_step bs f p u s out hp hm hu hl]
      obtain ⟨l, h⟩ := ih (out ++ [⟨(bs.getD p 0 : Nat), (bs.drop (p + 1 + s)).take u⟩]) (p + 1 + s + u)
      exact ⟨_, by rw [h, List.append_assoc]⟩
theorem splitF_fuel (bs : List Nat) (f f' : Nat) (out : List Sec) (p : Nat) (h : bs.length - p < f) (h' : bs.length - p < f') : splitF bs f out p = splitF bs f' out p := by
  induction f generalizing f' out p with
  | zero => omega
  | succ f ih =>
    cases f' with
    | zero => omega
    | succ f' =>
      rcases splitF_cases bs f p out with ⟨hp, hh⟩ | ⟨e, he, hh⟩ | ⟨hp, hm, u, s, hu, hl, hq⟩
      · rw [hh]; simp only [splitF]; rw [if_pos hp]
      · rw [hh]
        rcases splitF_cases bs f' p out with ⟨_, h2⟩ | ⟨e2, _, h2⟩ | ⟨hp, hm, u, s, hu, hl, _⟩
        · have : splitF bs (f + 1) out p = (out, 0) := by simp only [splitF] at h2 ⊢; rw [if_pos (by assumption)]
          rw [this] at hh
          simp only [Prod.mk.injEq, true_and] at hh
          omega
        · rw [h2]
          simp only [splitF] at hh h2
          by_cases c1 : bs.length ≤ p
          · rw [if_pos c1] at hh h2; rw [← hh, h2]
          · rw [if_neg c1] at hh h2
            by_cases c2 : may out (bs.getD p 0 : Nat) = false
            · rw [if_pos c2] at hh h2; rw [← hh, h2]
            · rw [if_neg c2] at hh h2
              by_cases c3 : (uRes (bs.drop (p + 1)) 32).2.2 ≠ 0
              · rw [if_pos c3] at hh h2; rw [← hh, h2]
              · rw [if_neg c3] at hh h2
                by_cases c4 : bs.length - (p + 1 + (uRes (bs.drop (p + 1)) 32).2.1) < (uRes (bs.drop (p + 1)) 32).1
                · rw [if_pos c4] at hh h2; rw [← hh, h2]
                · rw [if_neg c4] at hh h2
                  rw [← hh, ← h2]
                  exact ih f' _ _ (by omega) (by omega)
        · rw [splitF_step bs f' p u s out hp hm hu hl, ← hh, splitF_step bs f p u s out hp hm hu hl]
          exact ih f' _ _ (by omega) (by omega)
      · rw [splitF_step bs f p u s out hp hm hu hl, splitF_step bs f' p u s out hp hm hu hl]
        exact ih f' _ _ (by omega) (by omega)
theorem splitF_cut (bs : List Nat) (k : Nat) (hk : k ≤ bs.length) (f : Nat) (out R : List Sec) (p : Nat) (h : splitF bs f out p = (R, 0)) (hf : bs.length - p < f) (hp : p ≤ k) : ∃ r e, splitF (bs.take k) f out p = (r, e) ∧ r <+: R ∧ (e = 0 ∨ e = 1 ∧ k < bs.length) := by
  have hlk : (bs.take k).length = k := by rw [List.length_take]; omega
  induction f generalizing out p with
  | zero => omega
  | succ f ih =>
    have hpre : out <+: R := by
      obtain ⟨l, hl⟩ := splitF_ext bs (f + 1) out p
      rw [h] at hl
      exact ⟨l, hl.symm⟩
    by_cases hkp : k ≤ p
    · exact ⟨out, 0, by simp only [splitF]; rw [if_pos (by omega)], hpre, .inl rfl⟩
    rcases splitF_cases bs f p out with ⟨hl, _⟩ | ⟨e, he, hh⟩ | ⟨hl, hm, u, s, hu, hlu, hq⟩
    · omega
    · rw [hh] at h
      simp only [Prod.mk.injEq] at h
      exact absurd h.2 he
    · rw [splitF_step bs f p u s out hl hm hu hlu] at h
      have hg : (bs.take k).getD p 0 = bs.getD p 0 := by simp [List.getD, show p < k by omega]
      have hd : (bs.take k).drop (p + 1) = (bs.drop (p + 1)).take (k - (p + 1)) := List.drop_take ..
      by_cases hs : k - (p + 1) < s
      · refine ⟨out, 1, ?_, hpre, .inr ⟨rfl, by omega⟩⟩
        simp only [splitF]
        rw [if_neg (by omega), hg, if_neg (by rw [hm]; simp), hd, uRes_cut hu _ hs]
        simp
      · have hu2 : uRes ((bs.take k).drop (p + 1)) 32 = (u, s, 0) := by rw [hd]; exact uRes_pre (by omega) hu (by rw [List.take_take, Nat.min_eq_left (by omega)])
        by_cases hq2 : k - (p + 1 + s) < u
        · refine ⟨out, 1, ?_, hpre, .inr ⟨rfl, by omega⟩⟩
          simp only [splitF]
          rw [if_neg (by omega), hg, if_neg (by rw [hm]; simp), hu2]
          simp only [ne_eq, not_true_eq_false, if_false]
          rw [if_pos (by omega)]
        · rw [splitF_step (bs.take k) f p u s out (by omega) (by rw [hg]; exact hm) hu2 (by omega), hg]
          have he : ((bs.take k).drop (p + 1 + s)).take u = (bs.drop (p + 1 + s)).take u := by rw [List.drop_take, List.take_take, Nat.min_eq_left (by omega)]
          rw [he]
          exact ih _ _ h (by omega) (by omega)
theorem split_cut (bs : List Nat) (k : Nat) (hk : k ≤ bs.length) (R : List Sec) (h : splitRes bs = (R, 0)) : ∃ r e, splitRes (bs.take k) = (r, e) ∧ r <+: R ∧ (e = 0 ∨ e = 1 ∧ k < bs.length) := by
  have hlk : (bs.take k).length = k := by rw [List.length_take]; omega
  unfold splitRes at h
  by_cases h1 : 65536 < bs.length
  · rw [if_pos h1] at h; simp at h
  rw [if_neg h1] at h
  by_cases h2 : headErr bs ≠ 0
  · rw [if_pos h2] at h
    simp only [Prod.mk.injEq] at h
    exact absurd h.2 h2
  rw [if_neg h2] at h
  have h2' : headErr bs = 0 := by omega
  have h8 : 8 ≤ bs.length ∧ bs.take 8 = headB := by
    unfold headErr at h2'
    split at h2'
    · rename_i h3
      split at h2'
      · omega
      · rename_i h4
        refine ⟨by omega, ?_⟩
        rw [h3, Nat.min_eq_right (by omega)]
        rfl
    · omega
  unfold splitRes
  rw [if_neg (by omega)]
  by_cases hk8 : k < 8
  · have he : headErr (bs.take k) = 1 := by
      unfold headErr
      rw [hlk, Nat.min_eq_left (by omega), if_pos, if_pos hk8]
      rw [List.take_take, Nat.min_eq_right (by omega), ← h8.2, List.take_take, Nat.min_eq_left (by omega)]
    rw [he]
    exact ⟨[], 1, rfl, List.nil_prefix, .inr ⟨rfl, by omega⟩⟩
  · have he : headErr (bs.take k) = 0 := by
      unfold headErr
      rw [hlk, Nat.min_eq_right (by omega), if_pos, if_neg (by omega)]
      rw [List.take_take, Nat.min_eq_left (by omega), h8.2]
      rfl
    rw [he]
    simp only [ne_eq, not_true_eq_false, if_false]
    rw [splitF_fuel (bs.take k) ((bs.take k).length + 1) (bs.length + 1) [] 8 (by omega) (by omega)]
    exact splitF_cut bs k hk _ [] R 8 h (by omega) (by omega)
/-- A custom section more. -/
theorem may_zero (l : List Sec) : may l 0 = true := decide_eq_true ⟨by omega, by omega, fun _ _ => .inl rfl⟩
theorem may_skip (a c : List Sec) (b : List Nat) (id : Int) : may (a ++ ⟨0, b⟩ :: c) id = may (a ++ c) id := by
  apply Bool.eq_iff_iff.2
  unfold may
  rw [decide_eq_true_iff, decide_eq_true_iff]
  constructor
  · rintro ⟨h1, h2, h3⟩
    refine ⟨h1, h2, fun s hs => h3 s ?_⟩
    rcases List.mem_append.1 hs with h | h
    · exact List.mem_append.2 (.inl h)
    · exact List.mem_append.2 (.inr (List.mem_cons_of_mem _ h))
  · rintro ⟨h1, h2, h3⟩
    refine ⟨h1, h2, fun s hs => ?_⟩
    rcases List.mem_append.1 hs with h | h
    · exact h3 s (List.mem_append.2 (.inl h))
    · rcases List.mem_cons.1 h with rfl | h
      · exact .inr (.inl rfl)
      · exact h3 s (List.mem_append.2 (.inr h))
theorem orderF_skip (a c : List Sec) (b : List Nat) (l : List Sec) : orderF (a ++ ⟨0, b⟩ :: c) l = orderF (a ++ c) l := by
  induction l generalizing c with
  | nil => rfl
  | cons s l ih =>
    simp only [orderF]
    rw [may_skip]
    have := ih (c ++ [s])
    rw [List.append_assoc, List.append_assoc, List.cons_append, this]
theorem orderF_more (out l : List Sec) (j : Nat) (b : List Nat) (hj : j ≤ l.length) : orderF out (l.take j ++ ⟨0, b⟩ :: l.drop j) = orderF out l := by
  induction l generalizing out j with
  | nil => simp [orderF, may_zero]
  | cons s l ih =>
    cases j with
    | zero =>
      simp only [List.take_zero, List.drop_zero, List.nil_append]
      rw [orderF, may_zero, Bool.true_and]
      exact orderF_skip out [] b (s :: l) |>.trans (by rw [List.append_nil])
    | succ j =>
      simp only [List.take_succ_cons, List.drop_succ_cons, List.cons_append, orderF]
      rw [ih (out ++ [s]) j (by simpa using hj)]
theorem order_more (l : List Sec) (j : Nat) (b : List Nat) (hj : j ≤ l.length) : order (l.take j ++ ⟨0, b⟩ :: l.drop j) = order l := orderF_more [] l j b hj
theorem join_more (l : List Sec) (j : Nat) (b : List Nat) : (joinBytes (l.take j ++ ⟨0, b⟩ :: l.drop j)).length = (joinBytes l).length + 1 + (putU b.length).length + b.length := by
  have h := congrArg (fun m => (secsBytes m).length) (List.take_append_drop j l)
  simp only [joinBytes, secsBytes, List.flatMap_append, List.flatMap_cons, List.length_append, secBytes, List.length_cons] at h ⊢
  omega
end Go.Proofs.Ytlbbnnljclndkaa.Sec
