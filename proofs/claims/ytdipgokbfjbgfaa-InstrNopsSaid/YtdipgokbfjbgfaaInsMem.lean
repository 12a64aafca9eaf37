/-
  Instructions in memory: as values, as the cells of a slice. Conditions as each lemma says; nothing of the program but its types.
-/
import Derived.Test.YtdipgokbfjbgfaaInsTaken
namespace Go.Proofs.Ytdipgokbfjbgfaa.Ins
open Go.RowKit Leb Typ

instance (x : Ins) (r : Part) : Decidable (partFits x r) := by cases r <;> (unfold partFits; infer_instance)
/-- formedI and closedI, as Bools. -/
def formedB (x : Ins) : Bool :=
  match pat x.op with
  | some (some qs) => decide ((∀ r ∈ qs, partFits x r) ∧ setParts x qs { zeroIns with op := x.op } = x)
  | _ => false
theorem formedB_iff (x : Ins) : formedB x = true ↔ formedI x := by
  unfold formedB formedI
  generalize pat x.op = g
  match g with
  | some (some qs) =>
    simp only [decide_eq_true_eq]
    constructor
    · intro h; exact ⟨qs, rfl, h⟩
    · rintro ⟨qs', h1, h2⟩
      obtain rfl : qs = qs' := by simpa using h1
      exact h2
  | some none => simp
  | none => simp
def closedB : Nat → List Nat → List Ins → Bool
  | _, _, [] => false
  | n, st, x :: l => formedB x && decide (n < 2000) &&
    match blocks x.op st with
    | (e, none) => decide (e = 0) && l.isEmpty
    | (_, some st') => closedB (n + 1) st' l
theorem closedB_iff (n : Nat) (st : List Nat) (l : List Ins) : closedB n st l = true ↔ closedF n st l := by
  induction l generalizing n st with
  | nil => simp [closedB, closedF]
  | cons x l ih =>
    simp only [closedB, closedF, Bool.and_eq_true, formedB_iff, decide_eq_true_eq, and_assoc]
    refine and_congr_right fun _ => and_congr_right fun _ => ?_
    generalize blocks x.op st = g
    match g with
    | (e, none) => simp
    | (e, some st') => exact ih _ _
def shutB (l : List Ins) : Bool := closedB 0 [] l
theorem shutB_iff (l : List Ins) : shutB l = true ↔ closedI l := closedB_iff 0 [] l
/-- Numbers of 64 bits throughout. -/
def wide (x : Ins) : Prop := I64 x.op ∧ I64 x.a ∧ I64 x.b ∧ I64 x.k ∧ ∀ n ∈ x.l, I64 n
/-- An instruction as a value. -/
def InsV (w : World) (v : Value) (x : Ins) : Prop :=
  ∃ A c, v = .agg #[.int .i64 x.op, .int .i64 x.a, .int .i64 x.b, .int .i64 x.k, .slice A x.l.length c] ∧ Ints w w.heap.size A x.l ∧ x.l.length ≤ c ∧ (A = none → c = 0)
theorem InsV.below {w w' : World} {v : Value} {x : Ins} (h : InsV w v x) (hb : Below w.heap.size w w') : InsV w' v x := by
  obtain ⟨A, c, rfl, h1, h2, h3⟩ := h
  exact ⟨A, c, rfl, (h1.below hb).more hb.size, h2, h3⟩
/-- The five cells of an instruction. -/
def InsAt (w : World) (B b off : Nat) (x : Ins) : Prop :=
  ∃ A c, w.cell? ⟨b, off, none⟩ = some (.int .i64 x.op) ∧ w.cell? ⟨b, off + 1, none⟩ = some (.int .i64 x.a) ∧ w.cell? ⟨b, off + 2, none⟩ = some (.int .i64 x.b) ∧ w.cell? ⟨b, off + 3, none⟩ = some (.int .i64 x.k) ∧
    w.cell? ⟨b, off + 4, none⟩ = some (.slice A x.l.length c) ∧ Ints w B A x.l ∧ x.l.length ≤ c ∧ (A = none → c = 0)
theorem InsAt.below {w w' : World} {B b off : Nat} {x : Ins} (h : InsAt w B b off x) (hb : Below B w w') (hlt : b < B) : InsAt w' B b off x := by
  obtain ⟨A, c, h1, h2, h3, h4, h5, h6, h7, h8⟩ := h
  have C : ∀ p : Addr, p.block = b → w'.cell? p = w.cell? p := fun p hp => hb.cell (by omega)
  exact ⟨A, c, (C _ rfl).trans h1, (C _ rfl).trans h2, (C _ rfl).trans h3, (C _ rfl).trans h4, (C _ rfl).trans h5, h6.below hb, h7, h8⟩
theorem InsAt.more {w : World} {B B' b off : Nat} {x : Ins} (h : InsAt w B b off x) (hB : B ≤ B') : InsAt w B' b off x := by
  obtain ⟨A, c, h1, h2, h3, h4, h5, h6, h7, h8⟩ := h
  exact ⟨A, c, h1, h2, h3, h4, h5, h6.more hB, h7, h8⟩
/-- Instructions that a slice leads to: five cells each, in a block below B. -/
def Inss (w : World) (B : Nat) (A : Option Addr) (xs : List Ins) : Prop :=
  0 < xs.length → ∃ b off, A = some ⟨b, off, none⟩ ∧ b < B ∧ ∀ (j : Nat) (h : j < xs.length), InsAt w B b (off + j * 5) xs[j]
theorem Inss.below {w w' : World} {B : Nat} {A : Option Addr} {xs : List Ins} (h : Inss w B A xs) (hb : Below B w w') : Inss w' B A xs := by
  intro hl
  obtain ⟨b, off, e, hB, hc⟩ := h hl
  exact ⟨b, off, e, hB, fun j hj => (hc j hj).below hb hB⟩
theorem Inss.more {w : World} {B B' : Nat} {A : Option Addr} {xs : List Ins} (h : Inss w B A xs) (hB : B ≤ B') : Inss w B' A xs := by
  intro hl
  obtain ⟨b, off, e, hb, hc⟩ := h hl
  exact ⟨b, off, e, by omega, fun j hj => (hc j hj).more hB⟩
theorem Inss.nil (w : World) (B : Nat) (A : Option Addr) : Inss w B A [] := fun h => absurd h (by simp)
/-- A slice of instructions: where it leads, how much room it has. -/
structure Sli (w : World) (A : Option Addr) (c : Nat) (xs : List Ins) : Prop where
  ins : Inss w w.heap.size A xs
  nil : A = none → c = 0
  room : xs.length ≤ c
theorem Sli.below {w w' : World} {A : Option Addr} {c : Nat} {xs : List Ins} (h : Sli w A c xs) (hb : Below w.heap.size w w') : Sli w' A c xs := ⟨(h.ins.below hb).more hb.size, h.nil, h.room⟩
/-- What One answers; what Body answers. -/
def One3 (w : World) (r : Ins × Nat × Nat) (e : Ending) (w' : World) : Prop :=
  ∃ v, e = .returned (.tuple #[v, .int .i64 (r.2.1 : Int), .int .i64 (r.2.2 : Int)]) ∧ InsV w' v r.1 ∧ Below w.heap.size w w'
def Body3 (w : World) (r : List Ins × Nat × Nat) (e : Ending) (w' : World) : Prop :=
  ∃ A c, e = .returned (.tuple #[.slice A r.1.length c, .int .i64 (r.2.1 : Int), .int .i64 (r.2.2 : Int)]) ∧ Sli w' A c r.1 ∧ Below w.heap.size w w'
def Tells (w : World) (b : Bool) (e : Ending) (w' : World) : Prop := e = .returned (.bool b) ∧ Below w.heap.size w w'
/-- Instructions that are not too long for a look. -/
def short (xs : List Ins) : Prop := xs.length ≤ 2100 ∧ ∀ x ∈ xs, wide x ∧ x.l.length ≤ 100
theorem wide_setPart (x y : Ins) (r : Part) (h : partFits x r) (hy : wide y ∧ y.l.length ≤ 64) : wide (setPart x y r) ∧ (setPart x y r).l.length ≤ 64 := by
  obtain ⟨⟨h1, h2, h3, h4, h5⟩, h6⟩ := hy
  have fit : ∀ n, fitsU n → I64 n := fun n hn => by unfold fitsU at hn; unfold I64; omega
  cases r with
  | t => exact ⟨⟨h1, (by have := of_decide_eq_true h; simp only [setPart]; unfold I64; omega), h3, h4, h5⟩, h6⟩
  | a => exact ⟨⟨h1, fit _ h, h3, h4, h5⟩, h6⟩
  | b => exact ⟨⟨h1, h2, fit _ h, h4, h5⟩, h6⟩
  | l => exact ⟨⟨h1, h2, h3, h4, fun n hn => fit n (h.2 n hn)⟩, h.1⟩
  | k => exact ⟨⟨h1, h2, h3, (by simp only [partFits] at h; simp only [setPart]; unfold I64; omega), h5⟩, h6⟩
  | kk => exact ⟨⟨h1, h2, h3, h, h5⟩, h6⟩
  | z => exact ⟨⟨h1, h2, h3, h4, h5⟩, h6⟩
theorem wide_setParts (x : Ins) (qs : List Part) (y : Ins) (h : ∀ r ∈ qs, partFits x r) (hy : wide y ∧ y.l.length ≤ 64) : wide (setParts x qs y) ∧ (setParts x qs y).l.length ≤ 64 := by
  induction qs generalizing y with
  | nil => exact hy
  | cons q qs ih => exact ih (setPart x y q) (fun r hr => h r (by simp [hr])) (wide_setPart x y q (h q (by simp)) hy)
theorem formed_wide (x : Ins) (h : formedI x) : wide x ∧ x.l.length ≤ 64 := by
  obtain ⟨qs, h1, h2, h3⟩ := h
  have hr := pat_range _ _ h1
  have := wide_setParts x qs { zeroIns with op := x.op } h2 ⟨⟨by unfold I64; simp only; omega, by simp [zeroIns, I64], by simp [zeroIns, I64], by simp [zeroIns, I64], by simp [zeroIns]⟩, by simp [zeroIns]⟩
  rw [h3] at this
  exact this
theorem closed_short (n : Nat) (st : List Nat) (l : List Ins) (h : closedF n st l) : n + l.length ≤ 2000 ∧ ∀ x ∈ l, formedI x := by
  induction l generalizing n st with
  | nil => exact absurd h (by simp [closedF])
  | cons x l ih =>
    simp only [closedF] at h
    obtain ⟨h1, h2, h3⟩ := h
    have key : (l = [] ∨ (n + 1 + l.length ≤ 2000 ∧ ∀ y ∈ l, formedI y)) := by
      generalize blocks x.op st = g at h3
      match g, h3 with
      | (e, none), h3 => exact .inl h3.2
      | (e, some st'), h3 => exact .inr (ih _ _ h3)
    rcases key with rfl | ⟨h4, h5⟩
    · exact ⟨by simp; omega, fun y hy => by rw [List.mem_singleton.1 hy]; exact h1⟩
    · refine ⟨by simp; omega, fun y hy => ?_⟩
      rcases List.mem_cons.1 hy with rfl | hy
      · exact h1
      · exact h5 y hy
theorem closed_is_short (l : List Ins) (h : closedI l) : short l := by
  obtain ⟨h1, h2⟩ := closed_short 0 [] l h
  exact ⟨by omega, fun x hx => by have := formed_wide x (h2 x hx); exact ⟨this.1, by omega⟩⟩
theorem Slc.cutTo {w : World} {A : Option Addr} {c : Nat} {l : List Nat} (h : Slc w A c l) (k : Nat) : Slc w A c (l.take k) := by
  refine ⟨⟨fun x hx => h.bytes.1 x (List.mem_of_mem_take hx), fun hl => ?_⟩, h.nil, by have := h.room; simp; omega⟩
  obtain ⟨b, off, e, hb, hc⟩ := h.bytes.2 (by simp at hl; omega)
  refine ⟨b, off, e, hb, fun j hj => ?_⟩
  rw [hc j (by simp at hj; omega)]
  simp
theorem body_le {bs : List Nat} {f n p q : Nat} {st : List Nat} {l : List Ins} (h : bodyF bs f n st p = (l, q, 0)) : p ≤ q ∧ q ≤ bs.length := by
  induction f generalizing n p st l with
  | zero => simp [bodyF] at h
  | succ f ih =>
    obtain ⟨x, m, h1, _, h2⟩ := bodyF_is h
    have := oneRes_le h1
    rcases h2 with ⟨_, _, rfl⟩ | ⟨e, st', xs, _, h3, _⟩
    · omega
    · have := ih h3; omega
theorem bodyRes_le {bs : List Nat} {l : List Ins} {q : Nat} (h : bodyRes bs = (l, q, 0)) : q ≤ bs.length := (body_le h).2
theorem body_err (bs : List Nat) (f n p : Nat) (st : List Nat) (h : (bodyF bs f n st p).2.2 ≠ 0) : (bodyF bs f n st p).1 = [] ∧ (bodyF bs f n st p).2.1 = 0 := by
  cases f with
  | zero => exact ⟨rfl, rfl⟩
  | succ f =>
    simp only [bodyF] at h ⊢
    split
    · exact ⟨rfl, rfl⟩
    · rename_i h1
      rw [if_neg h1] at h
      split
      · exact ⟨rfl, rfl⟩
      · rename_i h2
        rw [if_neg h2] at h
        generalize blocks (oneRes bs p).1.op st = g at h ⊢
        match g, h with
        | (e, none), h =>
          simp only at h ⊢
          split
          · rename_i h3; rw [if_pos h3] at h; exact absurd rfl h
          · exact ⟨rfl, rfl⟩
        | (e, some st'), h =>
          simp only at h ⊢
          split
          · rename_i h3; rw [if_pos h3] at h; exact absurd rfl h
          · exact ⟨rfl, rfl⟩
theorem bodyRes_err (bs : List Nat) (h : (bodyRes bs).2.2 ≠ 0) : (bodyRes bs).1 = [] ∧ (bodyRes bs).2.1 = 0 := body_err _ _ _ _ _ h
theorem put_get {w : World} {l : List Nat} {k er : Nat} {e : Ending} {w' : World} (h : PutIs w l k er e w') : ∃ A c, e = .returned (.tuple #[.slice A k c, .int .i64 (er : Int)]) ∧ Own w' w.heap.size (.slice A k c) l ∧ Bytes w' w'.heap.size A l ∧ (A = none → c = 0) ∧ k ≤ c ∧ Below w.heap.size w w' := h
theorem labelBytes_byte (l : List Int) : ∀ y ∈ labelBytes l, y < 256 := by
  intro y hy
  unfold labelBytes at hy
  obtain ⟨n, _, hn⟩ := List.mem_flatMap.1 hy
  exact putU_lt _ y hn
theorem labelBytes_len (l : List Int) : (labelBytes l).length ≤ 10 * l.length := by
  induction l with
  | nil => simp [labelBytes]
  | cons n l ih =>
    have e : labelBytes (n :: l) = putU n.toNat ++ labelBytes l := by simp [labelBytes]
    have := (putU_len n.toNat).2
    rw [e, List.length_append, List.length_cons]
    omega
theorem partBytes_byte (x : Ins) (r : Part) : ∀ y ∈ partBytes x r, y < 256 := by
  intro y hy
  cases r with
  | t => exact putS_lt _ y hy
  | a => exact putU_lt _ y hy
  | b => exact putU_lt _ y hy
  | l => exact (List.mem_append.1 hy).elim (putU_lt _ y) (labelBytes_byte _ y)
  | k => exact putS_lt _ y hy
  | kk => exact putS_lt _ y hy
  | z => have : y = 0 := by simpa [partBytes] using hy
         omega
theorem putS_length (n : Int) : (putS n).length ≤ 10 := (putSf_len 9 n).2
theorem partBytes_len (x : Ins) (r : Part) (h : partFits x r) : (partBytes x r).length ≤ 650 := by
  cases r with
  | t => have := putS_length x.a; simp only [partBytes]; omega
  | a => have := (putU_len x.a.toNat).2; simp only [partBytes]; omega
  | b => have := (putU_len x.b.toNat).2; simp only [partBytes]; omega
  | l =>
    have h1 := (putU_len x.l.length).2
    have h2 := labelBytes_len x.l
    have h3 := h.1
    simp only [partBytes, List.length_append]
    omega
  | k => have := putS_length x.k; simp only [partBytes]; omega
  | kk => have := putS_length x.k; simp only [partBytes]; omega
  | z => simp [partBytes]
theorem named_len (op : Int) (qs : List Part) (h : named op = some qs) : qs.length ≤ 2 := by
  unfold named at h
  repeat' split at h
  all_goals first
    | (simp only [Option.some.injEq] at h; subst h; simp)
    | (exfalso; simp at h)
theorem pat_len (op : Int) (qs : List Part) (h : pat op = some (some qs)) : qs.length ≤ 2 := by
  unfold pat at h
  cases hn : named op with
  | some p =>
    rw [hn] at h
    simp only [Option.some.injEq] at h
    subst h
    exact named_len op p hn
  | none =>
    rw [hn] at h
    simp only at h
    by_cases h1 : wideOp op = true
    · rw [if_pos h1] at h; simp at h
    · rw [if_neg h1] at h
      by_cases h2 : accOp op = true
      · rw [if_pos h2] at h
        simp only [Option.some.injEq] at h
        subst h
        simp
      · rw [if_neg h2] at h
        by_cases h3 : numOp op = true
        · rw [if_pos h3] at h
          simp only [Option.some.injEq] at h
          subst h
          simp
        · rw [if_neg h3] at h; simp at h
theorem parts_len (x : Ins) (qs : List Part) (h : ∀ r ∈ qs, partFits x r) : (qs.flatMap (partBytes x)).length ≤ 650 * qs.length := by
  induction qs with
  | nil => simp
  | cons q qs ih =>
    have h1 := partBytes_len x q (h q (by simp))
    have h2 := ih (fun r hr => h r (by simp [hr]))
    rw [List.flatMap_cons, List.length_append, List.length_cons]
    omega
/-- The bytes of an instruction that may be put. -/
theorem formed_bytes (x : Ins) (h : formedI x) : (∀ y ∈ insBytes x, y < 256) ∧ (insBytes x).length ≤ 1400 := by
  obtain ⟨qs, h1, h2, h3⟩ := h
  have hr := pat_range _ _ h1
  have hl := pat_len _ _ h1
  have hi : insBytes x = headBytes x.op ++ qs.flatMap (partBytes x) := by unfold insBytes; rw [h1]; rfl
  rw [hi]
  constructor
  · intro y hy
    rcases List.mem_append.1 hy with hy | hy
    · unfold headBytes at hy
      split at hy
      · rcases List.mem_cons.1 hy with rfl | hy
        · omega
        · exact putU_lt _ y hy
      · have : y = x.op.toNat := by simpa using hy
        omega
    · obtain ⟨r, _, hyr⟩ := List.mem_flatMap.1 hy
      exact partBytes_byte x r y hyr
  · have hp := parts_len x qs h2
    have hh : (headBytes x.op).length ≤ 11 := by
      unfold headBytes
      split
      · have := (putU_len (x.op - 256).toNat).2; simp; omega
      · simp
    rw [List.length_append]
    have : 650 * qs.length ≤ 1300 := by omega
    omega
theorem all_bytes (l : List Ins) (h : ∀ x ∈ l, formedI x) : (∀ y ∈ allBytes l, y < 256) ∧ (allBytes l).length ≤ 1400 * l.length := by
  induction l with
  | nil => simp [allBytes]
  | cons x l ih =>
    have e : allBytes (x :: l) = insBytes x ++ allBytes l := by simp [allBytes]
    have h1 := formed_bytes x (h x (by simp))
    have h2 := ih (fun y hy => h y (by simp [hy]))
    rw [e]
    refine ⟨fun y hy => (List.mem_append.1 hy).elim (h1.1 y) (h2.1 y), ?_⟩
    rw [List.length_append, List.length_cons]
    have := h1.2
    have := h2.2
    omega
theorem closed_bytes (l : List Ins) (h : closedI l) : (∀ y ∈ allBytes l, y < 256) ∧ (allBytes l).length ≤ 2800000 := by
  obtain ⟨h1, h2⟩ := closed_short 0 [] l h
  have h3 := all_bytes l h2
  exact ⟨h3.1, by have := h3.2; omega⟩
theorem oneRes_put (x : Ins) (more : List Nat) (h : formedI x) : oneRes (insBytes x ++ more) 0 = (x, (insBytes x).length, 0) := by
  have := one_put [] more x h
  simpa using this
theorem slc_none (w : World) : Slc w none 0 [] := ⟨⟨by simp, by simp⟩, fun _ => rfl, Nat.le_refl _⟩
end Go.Proofs.Ytdipgokbfjbgfaa.Ins
