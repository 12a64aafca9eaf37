/-
  Instructions in plain words: what follows a code, what bytes say, what is put; an instruction is read as it was put. Conditions as each lemma says; nothing of the program.
-/
import Derived.Test.YtdipgokbfjbgfaaTypPlain
namespace Go.Proofs.Ytdipgokbfjbgfaa.Ins
open Go.RowKit Leb Typ

/-- An instruction. -/
structure Ins where
  op : Int
  a : Int
  b : Int
  k : Int
  l : List Int
  deriving DecidableEq
/-- What may follow a code: a block's type, a number, a second one, labels, signed numbers of 32 and of 64 bits, a byte 0. -/
inductive Part
  | t | a | b | l | k | kk | z
  deriving DecidableEq
def named (op : Int) : Option (List Part) :=
  if op = 0 ∨ op = 1 ∨ op = 5 ∨ op = 11 ∨ op = 15 ∨ op = 26 ∨ op = 27 then some []
  else if op = 2 ∨ op = 3 ∨ op = 4 then some [.t]
  else if op = 12 ∨ op = 13 ∨ op = 16 ∨ op = 32 ∨ op = 33 ∨ op = 34 ∨ op = 35 ∨ op = 36 ∨ op = 265 ∨ op = 269 then some [.a]
  else if op = 14 then some [.l, .a]
  else if op = 17 ∨ op = 268 ∨ op = 270 then some [.a, .b]
  else if op = 63 ∨ op = 64 ∨ op = 267 then some [.z]
  else if op = 266 then some [.z, .z]
  else if op = 65 then some [.k]
  else if op = 66 then some [.kk]
  else if op = 264 then some [.a, .z]
  else none
def wideOp (op : Int) : Bool := decide (op = 28 ∨ (37 ≤ op ∧ op ≤ 38) ∨ (42 ≤ op ∧ op ≤ 43) ∨ (56 ≤ op ∧ op ≤ 57) ∨ (67 ≤ op ∧ op ≤ 68) ∨ (91 ≤ op ∧ op ≤ 102) ∨ (139 ≤ op ∧ op ≤ 166) ∨ (168 ≤ op ∧ op ≤ 171) ∨ (174 ≤ op ∧ op ≤ 191) ∨ (208 ≤ op ∧ op ≤ 210) ∨ op = 253 ∨ (256 ≤ op ∧ op ≤ 263) ∨ (271 ≤ op ∧ op ≤ 273))
def accOp (op : Int) : Bool := decide ((40 ≤ op ∧ op ≤ 41) ∨ (44 ≤ op ∧ op ≤ 55) ∨ (58 ≤ op ∧ op ≤ 62))
def numOp (op : Int) : Bool := decide ((69 ≤ op ∧ op ≤ 90) ∨ (103 ≤ op ∧ op ≤ 138) ∨ op = 167 ∨ (172 ≤ op ∧ op ≤ 173) ∨ (192 ≤ op ∧ op ≤ 196))
/-- What follows a code; 'some none': known, but not done here; 'none': there is no such code. -/
def pat (op : Int) : Option (Option (List Part)) :=
  match named op with
  | some p => some (some p)
  | none => if wideOp op then some none else if accOp op then some (some [.a, .b]) else if numOp op then some (some []) else none
/-- So many labels at place p of the bytes, or the first error. -/
def readLabels (bs : List Nat) : Nat → Nat → List Int × Nat × Nat
  | 0, p => ([], p, 0)
  | n + 1, p =>
    if (uRes (bs.drop p) 32).2.2 ≠ 0 then ([], 0, (uRes (bs.drop p) 32).2.2)
    else if (readLabels bs n (p + (uRes (bs.drop p) 32).2.1)).2.2 ≠ 0 then ([], 0, (readLabels bs n (p + (uRes (bs.drop p) 32).2.1)).2.2)
    else (((uRes (bs.drop p) 32).1 : Int) :: (readLabels bs n (p + (uRes (bs.drop p) 32).2.1)).1, (readLabels bs n (p + (uRes (bs.drop p) 32).2.1)).2.1, 0)
/-- One part at place p: the instruction with it, the place behind it, the error. -/
def readPart (bs : List Nat) (p : Nat) (x : Ins) : Part → Ins × Nat × Nat
  | .t => ({ x with a := (blockRes (bs.drop p)).1 }, p + (blockRes (bs.drop p)).2.1, (blockRes (bs.drop p)).2.2)
  | .a => ({ x with a := ((uRes (bs.drop p) 32).1 : Int) }, p + (uRes (bs.drop p) 32).2.1, (uRes (bs.drop p) 32).2.2)
  | .b => ({ x with b := ((uRes (bs.drop p) 32).1 : Int) }, p + (uRes (bs.drop p) 32).2.1, (uRes (bs.drop p) 32).2.2)
  | .l =>
    if (uRes (bs.drop p) 32).2.2 ≠ 0 then (x, p, (uRes (bs.drop p) 32).2.2)
    else if 64 < (uRes (bs.drop p) 32).1 then (x, p, 4)
    else ({ x with l := (readLabels bs (uRes (bs.drop p) 32).1 (p + (uRes (bs.drop p) 32).2.1)).1 }, (readLabels bs (uRes (bs.drop p) 32).1 (p + (uRes (bs.drop p) 32).2.1)).2.1, (readLabels bs (uRes (bs.drop p) 32).1 (p + (uRes (bs.drop p) 32).2.1)).2.2)
  | .k => ({ x with k := (sRes (bs.drop p) 32).1 }, p + (sRes (bs.drop p) 32).2.1, (sRes (bs.drop p) 32).2.2)
  | .kk => ({ x with k := (sRes (bs.drop p) 64).1 }, p + (sRes (bs.drop p) 64).2.1, (sRes (bs.drop p) 64).2.2)
  | .z => (x, p + 1, if bs.length ≤ p then 1 else if bs.getD p 0 ≠ 0 then 2 else 0)
def zeroIns : Ins := ⟨0, 0, 0, 0, []⟩
def readParts (bs : List Nat) : List Part → Nat → Ins → Ins × Nat × Nat
  | [], p, x => (x, p, 0)
  | r :: rs, p, x =>
    if (readPart bs p x r).2.2 ≠ 0 then (zeroIns, 0, (readPart bs p x r).2.2)
    else readParts bs rs (readPart bs p x r).2.1 (readPart bs p x r).1
/-- What follows a code, read at place p. -/
def readRest (bs : List Nat) (op : Int) (p : Nat) : Ins × Nat × Nat :=
  match pat op with
  | none => (zeroIns, 0, 2)
  | some none => (zeroIns, 0, 3)
  | some (some qs) => readParts bs qs p { zeroIns with op := op }
/-- The instruction at place p, the place behind it, the error. -/
def oneRes (bs : List Nat) (p : Nat) : Ins × Nat × Nat :=
  if bs.length ≤ p then (zeroIns, 0, 1)
  else if bs.getD p 0 = 252 then
    if (uRes (bs.drop (p + 1)) 32).2.2 ≠ 0 then (zeroIns, 0, (uRes (bs.drop (p + 1)) 32).2.2)
    else if 255 < (uRes (bs.drop (p + 1)) 32).1 then (zeroIns, 0, 2)
    else readRest bs (256 + ((uRes (bs.drop (p + 1)) 32).1 : Int)) (p + 1 + (uRes (bs.drop (p + 1)) 32).2.1)
  else readRest bs (bs.getD p 0 : Int) (p + 1)
/-- What is put. -/
def labelBytes (l : List Int) : List Nat := l.flatMap fun n => putU n.toNat
def partBytes (x : Ins) : Part → List Nat
  | .t => putS x.a
  | .a => putU x.a.toNat
  | .b => putU x.b.toNat
  | .l => putU x.l.length ++ labelBytes x.l
  | .k => putS x.k
  | .kk => putS x.k
  | .z => [0]
def headBytes (op : Int) : List Nat := if 256 ≤ op then 252 :: putU (op - 256).toNat else [op.toNat]
def insBytes (x : Ins) : List Nat := headBytes x.op ++ (((pat x.op).getD none).getD []).flatMap (partBytes x)
/-- What a part may be. -/
def fitsU (n : Int) : Prop := 0 ≤ n ∧ n ≤ 4294967295
instance (n : Int) : Decidable (fitsU n) := by unfold fitsU; infer_instance
def partFits (x : Ins) : Part → Prop
  | .t => rightBlock x.a = true
  | .a => fitsU x.a
  | .b => fitsU x.b
  | .l => x.l.length ≤ 64 ∧ ∀ n ∈ x.l, fitsU n
  | .k => -2147483648 ≤ x.k ∧ x.k ≤ 2147483647
  | .kk => -9223372036854775808 ≤ x.k ∧ x.k ≤ 9223372036854775807
  | .z => True
/-- The instruction with one part of x. -/
def setPart (x y : Ins) : Part → Ins
  | .t => { y with a := x.a }
  | .a => { y with a := x.a }
  | .b => { y with b := x.b }
  | .l => { y with l := x.l }
  | .k => { y with k := x.k }
  | .kk => { y with k := x.k }
  | .z => y
theorem drop_app (pre l : List Nat) : (pre ++ l).drop pre.length = l := by simp
theorem uRes_fit (n : Int) (h : fitsU n) (more : List Nat) : uRes (putU n.toNat ++ more) 32 = (n.toNat, (putU n.toNat).length, 0) :=
  uRes_put n.toNat 32 more (by omega) (by omega) (by unfold fitsU at h; omega)
theorem readLabels_put (pre more : List Nat) (l : List Int) (h : ∀ n ∈ l, fitsU n) : readLabels (pre ++ (labelBytes l ++ more)) l.length pre.length = (l, pre.length + (labelBytes l).length, 0) := by
  induction l generalizing pre with
  | nil => simp [readLabels, labelBytes]
  | cons n l ih =>
    have hn := h n (by simp)
    have e : labelBytes (n :: l) = putU n.toNat ++ labelBytes l := by simp [labelBytes]
    have hd : (pre ++ (labelBytes (n :: l) ++ more)).drop pre.length = putU n.toNat ++ (labelBytes l ++ more) := by rw [drop_app, e, List.append_assoc]
    have hu := uRes_fit n hn (labelBytes l ++ more)
    have ih2 := ih (pre ++ putU n.toNat) (fun m hm => h m (by simp [hm]))
    rw [List.append_assoc, ← List.append_assoc (putU n.toNat), ← e, List.length_append] at ih2
    simp only [List.length_cons, readLabels]
    rw [hd, hu]
    simp only [not_true_eq_false, if_false, ne_eq]
    rw [ih2]
    simp only [not_true_eq_false, if_false]
    have hz : ((n.toNat : Nat) : Int) = n := by unfold fitsU at hn; omega
    rw [hz, e, List.length_append]
    simp only [Nat.add_assoc]
theorem readPart_l (bs : List Nat) (p n s : Nat) (y : Ins) (hu : uRes (bs.drop p) 32 = (n, s, 0)) (hn : n ≤ 64) : readPart bs p y .l = ({ y with l := (readLabels bs n (p + s)).1 }, (readLabels bs n (p + s)).2.1, (readLabels bs n (p + s)).2.2) := by
  simp only [readPart]
  rw [hu]
  rw [if_neg (by simp), if_neg (by omega)]
theorem readPart_put (pre more : List Nat) (x y : Ins) (q : Part) (h : partFits x q) : readPart (pre ++ (partBytes x q ++ more)) pre.length y q = (setPart x y q, pre.length + (partBytes x q).length, 0) := by
  cases q with
  | t =>
    simp only [readPart, partBytes, setPart]
    rw [drop_app, blockRes_put x.a more h]
  | a =>
    have hz : ((x.a.toNat : Nat) : Int) = x.a := by simp only [partFits] at h; unfold fitsU at h; omega
    simp only [readPart, partBytes, setPart]
    rw [drop_app, uRes_fit x.a h]
    simp only [hz]
  | b =>
    have hz : ((x.b.toNat : Nat) : Int) = x.b := by simp only [partFits] at h; unfold fitsU at h; omega
    simp only [readPart, partBytes, setPart]
    rw [drop_app, uRes_fit x.b h]
    simp only [hz]
  | l =>
    obtain ⟨h1, h2⟩ := h
    have hu : uRes (putU x.l.length ++ (labelBytes x.l ++ more)) 32 = (x.l.length, (putU x.l.length).length, 0) := uRes_put _ 32 _ (by omega) (by omega) (by omega)
    have hl := readLabels_put (pre ++ putU x.l.length) more x.l h2
    rw [List.append_assoc, List.length_append] at hl
    have e : pre ++ (partBytes x .l ++ more) = pre ++ (putU x.l.length ++ (labelBytes x.l ++ more)) := by simp [partBytes]
    rw [e, readPart_l _ pre.length x.l.length (putU x.l.length).length y (by rw [drop_app]; exact hu) h1, hl]
    simp [setPart, partBytes, Nat.add_assoc]
  | k =>
    simp only [readPart, partBytes, setPart]
    rw [drop_app, sRes_put x.k 32 more (by omega) (by omega) (by simp only [partFits] at h; constructor <;> (simp only [Nat.reduceSub, Int.reducePow]; omega))]
  | kk =>
    simp only [readPart, partBytes, setPart]
    rw [drop_app, sRes_put x.k 64 more (by omega) (by omega) (by simp only [partFits] at h; constructor <;> (simp only [Nat.reduceSub, Int.reducePow]; omega))]
  | z =>
    simp [readPart, partBytes, setPart]
def setParts (x : Ins) (qs : List Part) (y : Ins) : Ins := qs.foldl (setPart x) y
theorem readParts_put (qs : List Part) (pre more : List Nat) (x y : Ins) (h : ∀ q ∈ qs, partFits x q) : readParts (pre ++ (qs.flatMap (partBytes x) ++ more)) qs pre.length y = (setParts x qs y, pre.length + (qs.flatMap (partBytes x)).length, 0) := by
  induction qs generalizing pre y with
  | nil => simp [readParts, setParts]
  | cons q qs ih =>
    have hr := readPart_put pre (qs.flatMap (partBytes x) ++ more) x y q (h q (by simp))
    have ih2 := ih (pre ++ partBytes x q) (setPart x y q) (fun m hm => h m (by simp [hm]))
    have e : (q :: qs).flatMap (partBytes x) ++ more = partBytes x q ++ (qs.flatMap (partBytes x) ++ more) := by simp
    rw [List.append_assoc, List.length_append] at ih2
    simp only [readParts]
    rw [e, hr]
    simp only [ne_eq, not_true_eq_false, if_false]
    rw [ih2]
    simp [setParts, Nat.add_assoc]
theorem named_range (op : Int) (qs : List Part) (h : named op = some qs) : 0 ≤ op ∧ op ≤ 270 ∧ op ≠ 252 := by
  unfold named at h
  repeat' split at h
  all_goals first
    | omega
    | (exfalso; simp at h)
theorem pat_range (op : Int) (qs : List Part) (h : pat op = some (some qs)) : 0 ≤ op ∧ op ≤ 270 ∧ op ≠ 252 := by
  unfold pat at h
  cases hn : named op with
  | some p => exact named_range op p hn
  | none =>
    rw [hn] at h
    simp only at h
    by_cases h1 : wideOp op = true
    · rw [if_pos h1] at h; simp at h
    · rw [if_neg h1] at h
      by_cases h2 : accOp op = true
      · unfold accOp at h2; have := of_decide_eq_true h2; omega
      · rw [if_neg h2] at h
        by_cases h3 : numOp op = true
        · unfold numOp at h3; have := of_decide_eq_true h3; omega
        · rw [if_neg h3] at h; simp at h
/-- An instruction that may be put: its code is known, all that belongs to it fits, and nothing else is there. -/
def formedI (x : Ins) : Prop := ∃ qs, pat x.op = some (some qs) ∧ (∀ r ∈ qs, partFits x r) ∧ setParts x qs { zeroIns with op := x.op } = x
theorem readRest_put (pre more : List Nat) (x : Ins) (qs : List Part) (h1 : pat x.op = some (some qs)) (h2 : ∀ r ∈ qs, partFits x r) (h3 : setParts x qs { zeroIns with op := x.op } = x) :
    readRest (pre ++ (qs.flatMap (partBytes x) ++ more)) x.op pre.length = (x, pre.length + (qs.flatMap (partBytes x)).length, 0) := by
  unfold readRest
  rw [h1]
  simp only
  rw [readParts_put qs pre more x _ h2, h3]
theorem one_put (pre more : List Nat) (x : Ins) (h : formedI x) : oneRes (pre ++ (insBytes x ++ more)) pre.length = (x, pre.length + (insBytes x).length, 0) := by
  obtain ⟨qs, h1, h2, h3⟩ := h
  obtain ⟨r1, r2, r3⟩ := pat_range x.op qs h1
  have hi : insBytes x = headBytes x.op ++ qs.flatMap (partBytes x) := by unfold insBytes; rw [h1]; rfl
  rw [hi]
  unfold headBytes
  by_cases hc : 256 ≤ x.op
  · rw [if_pos hc]
    obtain ⟨m, hm⟩ : ∃ m : Nat, x.op = 256 + (m : Int) := ⟨(x.op - 256).toNat, by omega⟩
    have hm2 : (x.op - 256).toNat = m := by omega
    rw [hm2]
    have hd : (pre ++ (252 :: putU m ++ qs.flatMap (partBytes x) ++ more)).drop (pre.length + 1) = putU m ++ (qs.flatMap (partBytes x) ++ more) := by
      rw [← List.drop_drop, drop_app]; simp
    have hg : (pre ++ (252 :: putU m ++ qs.flatMap (partBytes x) ++ more)).getD pre.length 0 = 252 := by simp [List.getD]
    have hu : uRes (putU m ++ (qs.flatMap (partBytes x) ++ more)) 32 = (m, (putU m).length, 0) := uRes_put m 32 _ (by omega) (by omega) (by omega)
    have hr := readRest_put (pre ++ 252 :: putU m) more x qs h1 h2 h3
    rw [show pre ++ 252 :: putU m ++ (qs.flatMap (partBytes x) ++ more) = pre ++ (252 :: putU m ++ qs.flatMap (partBytes x) ++ more) from by simp] at hr
    rw [show (pre ++ 252 :: putU m).length = pre.length + 1 + (putU m).length from by simp; omega] at hr
    unfold oneRes
    rw [if_neg (by simp), if_pos hg, hd, hu]
    simp only
    rw [if_neg (by simp), if_neg (by omega), ← hm, hr]
    simp
    omega
  · rw [if_neg hc]
    obtain ⟨m, hm⟩ : ∃ m : Nat, x.op = (m : Int) := ⟨x.op.toNat, by omega⟩
    have hm2 : x.op.toNat = m := by omega
    rw [hm2]
    have hg : (pre ++ ([m] ++ qs.flatMap (partBytes x) ++ more)).getD pre.length 0 = m := by simp [List.getD]
    have hr := readRest_put (pre ++ [m]) more x qs h1 h2 h3
    rw [show pre ++ [m] ++ (qs.flatMap (partBytes x) ++ more) = pre ++ ([m] ++ qs.flatMap (partBytes x) ++ more) from by simp] at hr
    rw [show (pre ++ [m]).length = pre.length + 1 from by simp] at hr
    unfold oneRes
    rw [if_neg (by simp), if_neg (by rw [hg]; omega), hg, ← hm, hr]
    simp
    omega
end Go.Proofs.Ytdipgokbfjbgfaa.Ins
