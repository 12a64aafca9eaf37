/-
  What instr's reader reads, in plain words: its first error stays; at the end it is what bytes say. No condition but those of each lemma; nothing of the program.
-/
import Derived.Test.YtdipgokbfjbgfaaInsMem
import Derived.Test.YtdipgokbfjbgfaaTypPlainOwn
namespace Go.Proofs.Ytdipgokbfjbgfaa.Ins
open Go.RowKit Leb Typ

/-- The first error of two. -/
def fst2 (e e' : Nat) : Nat := if e = 0 then e' else e
theorem fst2_0 (e : Nat) : fst2 e 0 = e := by unfold fst2; split <;> omega
theorem fst2_z (e : Nat) : fst2 0 e = e := rfl
theorem fst2_n {e : Nat} (h : e ≠ 0) (e' : Nat) : fst2 e e' = e := by unfold fst2; rw [if_neg h]
theorem fst2_b (e e' : Nat) (h : e ≤ 4) (h' : e' ≤ 4) : fst2 e e' ≤ 4 := by unfold fst2; split <;> omega
/-- What a byte says, and whether there is one. -/
def byteRes (l : List Nat) (p : Nat) : Nat × Nat × Nat := if l.length ≤ p then (0, p, 1) else (l.getD p 0, p + 1, 0)
/-- Labels, one behind the other, whatever the error. -/
def labRun (l : List Nat) : Nat → Nat → Nat → List Int × Nat × Nat
  | 0, p, e => ([], p, e)
  | n + 1, p, e => (((uRes (l.drop p) 32).1 : Int) :: (labRun l n (p + (uRes (l.drop p) 32).2.1) (fst2 e (uRes (l.drop p) 32).2.2)).1, (labRun l n (p + (uRes (l.drop p) 32).2.1) (fst2 e (uRes (l.drop p) 32).2.2)).2)
/-- What labels reads. -/
def labsRes (l : List Nat) (p e : Nat) : List Int × Nat × Nat :=
  if 64 < (uRes (l.drop p) 32).1 then ([], p + (uRes (l.drop p) 32).2.1, fst2 (fst2 e (uRes (l.drop p) 32).2.2) 4)
  else labRun l (uRes (l.drop p) 32).1 (p + (uRes (l.drop p) 32).2.1) (fst2 e (uRes (l.drop p) 32).2.2)
/-- What zero does. -/
def zeroRes (l : List Nat) (p e : Nat) : Nat × Nat := ((byteRes l p).2.1, fst2 (fst2 e (byteRes l p).2.2) (if (byteRes l p).1 ≠ 0 then 2 else 0))
/-- One part, whatever the error. -/
def stepR (l : List Nat) (x : Ins) (p e : Nat) : Part → Ins × Nat × Nat
  | .t => ({ x with a := (blockRes (l.drop p)).1 }, p + (blockRes (l.drop p)).2.1, fst2 e (blockRes (l.drop p)).2.2)
  | .a => ({ x with a := ((uRes (l.drop p) 32).1 : Int) }, p + (uRes (l.drop p) 32).2.1, fst2 e (uRes (l.drop p) 32).2.2)
  | .b => ({ x with b := ((uRes (l.drop p) 32).1 : Int) }, p + (uRes (l.drop p) 32).2.1, fst2 e (uRes (l.drop p) 32).2.2)
  | .l => ({ x with l := (labsRes l p e).1 }, (labsRes l p e).2)
  | .k => ({ x with k := (sRes (l.drop p) 32).1 }, p + (sRes (l.drop p) 32).2.1, fst2 e (sRes (l.drop p) 32).2.2)
  | .kk => ({ x with k := (sRes (l.drop p) 64).1 }, p + (sRes (l.drop p) 64).2.1, fst2 e (sRes (l.drop p) 64).2.2)
  | .z => (x, zeroRes l p e)
def stepsR (l : List Nat) : List Part → Ins → Nat → Nat → Ins × Nat × Nat
  | [], x, p, e => (x, p, e)
  | r :: rs, x, p, e => stepsR l rs (stepR l x p e r).1 (stepR l x p e r).2.1 (stepR l x p e r).2.2
/-- What One makes of it. -/
def endR (r : Ins × Nat × Nat) : Ins × Nat × Nat := if r.2.2 ≠ 0 then (zeroIns, 0, r.2.2) else r
theorem labRun_err (l : List Nat) (n p e : Nat) (h : e ≠ 0) : (labRun l n p e).2.2 = e := by
  induction n generalizing p with
  | zero => rfl
  | succ n ih => simp only [labRun]; rw [fst2_n h]; exact ih _
theorem stepR_err (l : List Nat) (x : Ins) (p e : Nat) (r : Part) (h : e ≠ 0) : (stepR l x p e r).2.2 = e := by
  cases r with
  | t => exact fst2_n h _
  | a => exact fst2_n h _
  | b => exact fst2_n h _
  | k => exact fst2_n h _
  | kk => exact fst2_n h _
  | z => simp only [stepR, zeroRes]; rw [fst2_n h, fst2_n h]
  | l =>
    simp only [stepR, labsRes]
    rw [fst2_n h]
    split
    · exact fst2_n h _
    · exact labRun_err _ _ _ _ h
theorem stepsR_err (l : List Nat) (rs : List Part) (x : Ins) (p e : Nat) (h : e ≠ 0) : (stepsR l rs x p e).2.2 = e := by
  induction rs generalizing x p with
  | nil => rfl
  | cons r rs ih => simp only [stepsR]; rw [stepR_err l x p e r h]; exact ih _ _
theorem labRun_is (l : List Nat) (n p : Nat) : ((readLabels l n p).2.2 ≠ 0 → (labRun l n p 0).2.2 = (readLabels l n p).2.2) ∧ ((readLabels l n p).2.2 = 0 → labRun l n p 0 = readLabels l n p) := by
  induction n generalizing p with
  | zero => exact ⟨fun h => absurd rfl h, fun _ => rfl⟩
  | succ n ih =>
    simp only [readLabels, labRun, fst2_z]
    generalize uRes (l.drop p) 32 = g
    obtain ⟨u, s, e⟩ := g
    simp only
    by_cases he : e = 0
    · subst he
      obtain ⟨i1, i2⟩ := ih (p + s)
      rw [if_neg (by simp)]
      by_cases h2 : (readLabels l n (p + s)).2.2 = 0
      · rw [if_neg (by simp [h2])]
        refine ⟨fun h => absurd rfl h, fun _ => ?_⟩
        rw [i2 h2]
        generalize readLabels l n (p + s) = g2 at h2
        obtain ⟨a, b, c⟩ := g2
        simp only at h2
        subst h2
        rfl
      · rw [if_pos h2]
        refine ⟨fun _ => i1 h2, fun h => absurd h h2⟩
    · rw [if_pos he]
      exact ⟨fun _ => labRun_err _ _ _ _ he, fun h => absurd h he⟩
theorem stepR_is (l : List Nat) (x : Ins) (p : Nat) (r : Part) : ((readPart l p x r).2.2 ≠ 0 → (stepR l x p 0 r).2.2 = (readPart l p x r).2.2) ∧ ((readPart l p x r).2.2 = 0 → stepR l x p 0 r = readPart l p x r) := by
  cases r with
  | t => exact ⟨fun _ => rfl, fun _ => rfl⟩
  | a => exact ⟨fun _ => rfl, fun _ => rfl⟩
  | b => exact ⟨fun _ => rfl, fun _ => rfl⟩
  | k => exact ⟨fun _ => rfl, fun _ => rfl⟩
  | kk => exact ⟨fun _ => rfl, fun _ => rfl⟩
  | z =>
    by_cases h : l.length ≤ p
    · have hb : byteRes l p = (0, p, 1) := by unfold byteRes; rw [if_pos h]
      simp only [stepR, readPart, zeroRes, hb, if_pos h]
      exact ⟨fun _ => rfl, fun h => absurd h (by simp)⟩
    · have hb : byteRes l p = (l.getD p 0, p + 1, 0) := by unfold byteRes; rw [if_neg h]
      simp only [stepR, readPart, zeroRes, hb, if_neg h, fst2_z]
      exact ⟨fun _ => trivial, fun _ => trivial⟩
  | l =>
    simp only [stepR, readPart, labsRes, fst2_z]
    generalize uRes (l.drop p) 32 = g
    obtain ⟨u, s, e⟩ := g
    simp only
    by_cases he : e = 0
    · subst he
      rw [if_neg (by simp)]
      by_cases h64 : 64 < u
      · rw [if_pos h64, if_pos h64]
        exact ⟨fun _ => rfl, fun h => absurd h (by simp)⟩
      · rw [if_neg h64, if_neg h64]
        obtain ⟨i1, i2⟩ := labRun_is l u (p + s)
        simp only
        exact ⟨i1, fun h => by rw [i2 h]⟩
    · rw [if_pos he]
      refine ⟨fun _ => ?_, fun h => absurd h he⟩
      split
      · exact fst2_n he _
      · exact labRun_err _ _ _ _ he
theorem stepsR_is (l : List Nat) (rs : List Part) (x : Ins) (p : Nat) : endR (stepsR l rs x p 0) = readParts l rs p x := by
  induction rs generalizing x p with
  | nil => rfl
  | cons r rs ih =>
    simp only [stepsR, readParts]
    obtain ⟨k1, k2⟩ := stepR_is l x p r
    by_cases h : (readPart l p x r).2.2 = 0
    · rw [if_neg (by simp [h]), k2 h, h]
      exact ih _ _
    · rw [if_pos h, k1 h]
      unfold endR
      rw [stepsR_err l rs _ _ _ h, if_pos h]
/-- The code. -/
def codeRes (l : List Nat) : Int × Nat × Nat :=
  if l.length ≤ 0 then (0, 0, 1)
  else if l.getD 0 0 = 252 then (256 + ((uRes (l.drop 1) 32).1 : Int), 1 + (uRes (l.drop 1) 32).2.1, (uRes (l.drop 1) 32).2.2)
  else ((l.getD 0 0 : Int), 1, 0)
/-- What instr has read at its end. -/
def instrRes (l : List Nat) : Ins × Nat × Nat :=
  match pat (codeRes l).1 with
  | none => ({ zeroIns with op := (codeRes l).1 }, (codeRes l).2.1, fst2 (codeRes l).2.2 2)
  | some none => ({ zeroIns with op := (codeRes l).1 }, (codeRes l).2.1, fst2 (codeRes l).2.2 3)
  | some (some qs) => stepsR l qs { zeroIns with op := (codeRes l).1 } (codeRes l).2.1 (codeRes l).2.2
theorem pat_mem (op : Int) (qs : List Part) (h : pat op = some (some qs)) : qs ∈ [[], [Part.t], [.a], [.l, .a], [.a, .b], [.z], [.z, .z], [.k], [.kk], [.a, .z]] := by
  unfold pat at h
  cases hn : named op with
  | some p =>
    rw [hn] at h
    simp only [Option.some.injEq] at h
    subst h
    unfold named at hn
    repeat' split at hn
    all_goals first
      | (simp only [Option.some.injEq] at hn; subst hn; decide)
      | (exfalso; simp at hn)
  | none =>
    rw [hn] at h
    simp only at h
    by_cases h1 : wideOp op = true
    · rw [if_pos h1] at h; simp at h
    · rw [if_neg h1] at h
      by_cases h2 : accOp op = true
      · rw [if_pos h2] at h
        simp only [Option.some.injEq] at h
        subst h
        decide
      · rw [if_neg h2] at h
        by_cases h3 : numOp op = true
        · rw [if_pos h3] at h
          simp only [Option.some.injEq] at h
          subst h
          decide
        · rw [if_neg h3] at h; simp at h
theorem pat_great (op : Int) (h : 511 < op) : pat op = none := by
  cases hp : pat op with
  | none => rfl
  | some o =>
    cases o with
    | some qs => have := pat_range op qs hp; omega
    | none =>
      unfold pat at hp
      cases hn : named op with
      | some p => rw [hn] at hp; simp at hp
      | none =>
        rw [hn] at hp
        simp only at hp
        have h1 : wideOp op = false := decide_eq_false (by omega)
        have h2 : accOp op = false := decide_eq_false (by omega)
        have h3 : numOp op = false := decide_eq_false (by omega)
        rw [h1, h2, h3] at hp
        simp at hp
theorem instr_is (l : List Nat) : endR (instrRes l) = oneRes l 0 := by
  have rest : ∀ op p, endR (match pat op with
      | none => ({ zeroIns with op := op }, p, fst2 0 2)
      | some none => ({ zeroIns with op := op }, p, fst2 0 3)
      | some (some qs) => stepsR l qs { zeroIns with op := op } p 0) = readRest l op p := by
    intro op p
    unfold readRest
    cases hp : pat op with
    | none => rfl
    | some o =>
      cases o with
      | none => rfl
      | some qs => exact stepsR_is l qs _ p
  have err : ∀ op p e, e ≠ 0 → endR (match pat op with
      | none => ({ zeroIns with op := op }, p, fst2 e 2)
      | some none => ({ zeroIns with op := op }, p, fst2 e 3)
      | some (some qs) => stepsR l qs { zeroIns with op := op } p e) = (zeroIns, 0, e) := by
    intro op p e he
    unfold endR
    cases hp : pat op with
    | none => simp only; rw [fst2_n he, if_pos he]
    | some o =>
      cases o with
      | none => simp only; rw [fst2_n he, if_pos he]
      | some qs => simp only; rw [stepsR_err _ _ _ _ _ he, if_pos he]
  unfold instrRes oneRes codeRes
  by_cases h0 : l.length ≤ 0
  · rw [if_pos h0, if_pos h0]
    exact err 0 0 1 (by simp)
  · rw [if_neg h0, if_neg h0]
    by_cases h1 : l.getD 0 0 = 252
    · rw [if_pos h1, if_pos h1]
      simp only [Nat.zero_add]
      by_cases he : (uRes (l.drop 1) 32).2.2 = 0
      · rw [he, if_neg (by simp)]
        by_cases hn : 255 < (uRes (l.drop 1) 32).1
        · rw [if_pos hn, pat_great _ (by omega)]
          rfl
        · rw [if_neg hn]
          exact rest _ _
      · rw [if_pos he]
        exact err _ _ _ he
    · rw [if_neg h1, if_neg h1]
      exact rest _ _
end Go.Proofs.Ytdipgokbfjbgfaa.Ins
