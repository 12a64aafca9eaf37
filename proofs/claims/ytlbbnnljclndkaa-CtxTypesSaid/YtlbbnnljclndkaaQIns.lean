/-
  InsMath: Instructions in plain words: what follows a code, what bytes say, what is put; an instruction is read as it was put. Conditions as each lemma says; nothing of the program.
  InsBody: Bodies in plain words: what bytes say, what is closed; a body is read as it was put. Conditions as each lemma says; nothing of the program.
  InsCut: What is read of instructions hangs on the bytes that it takes; cut, it is too short: plain lists. Conditions as each lemma says; nothing of the program.
  InsTaken: What is read is formed, and put again it has no more bytes than it had: plain lists. Conditions as each lemma says; nothing of the program.
  InsMem: Instructions in memory: as values, as the cells of a slice. Conditions as each lemma says; nothing of the program but its types.
  InsOwn: Instructions that a call made itself: a slice value that owns them; append onto them. Conditions as each lemma says; nothing of the program but its types.
  InsLs: A list of instructions that a call makes, each with labels of its own: what stays apart; append of ints. Conditions as each lemma says; nothing of the program but its types.
  InsSame: trammelref06.Same, SameAll, Short: what each comes to. Conditions: instructions lie in memory as values or as a slice's cells; their lists of labels are fewer than 2^47.
  InsShort: trammelref06.Short: what it comes to. Condition: the slice leads to instructions.
-/
import Derived.Test.YtlbbnnljclndkaaQTyp
import Derived.Deep.RegionHeldLaw
import Derived.Deep.DeepCutAuto
namespace Go.Proofs.Ytlbbnnljclndkaa.Ins
open Go.RowKit Leb Typ

/-- An instruction. -/
structure Ins where
  op : Int
  a : Int
  b : Int
  k : Int
  l : List Int
  deriving DecidableEq
/-- What may follow a code: a block's type, a number, a second one, labels, signed numbers of 32 and of 64 bits, a byte 0. -/
inductive Part
  | t | a | b | l | k | kk | z
  deriving DecidableEq
def named (op : Int) : Option (List Part) :=
  if op = 0 ∨ op = 1 ∨ op = 5 ∨ op = 11 ∨ op = 15 ∨ op = 26 ∨ op = 27 then some []
  else if op = 2 ∨ op = 3 ∨ op = 4 then some [.t]
  else if op = 12 ∨ op = 13 ∨ op = 16 ∨ op = 32 ∨ op = 33 ∨ op = 34 ∨ op = 35 ∨ op = 36 ∨ op = 265 ∨ op = 269 then some [.a]
  else if op = 14 then some [.l, .a]
  else if op = 17 ∨ op = 268 ∨ op = 270 then some [.a, .b]
  else if op = 63 ∨ op = 64 ∨ op = 267 then some [.z]
  else if op = 266 then some [.z, .z]
  else if op = 65 then some [.k]
  else if op = 66 then some [.kk]
  else if op = 264 then some [.a, .z]
  else none
def wideOp (op : Int) : Bool := decide (op = 28 ∨ (37 ≤ op ∧ op ≤ 38) ∨ (42 ≤ op ∧ op ≤ 43) ∨ (56 ≤ op ∧ op ≤ 57) ∨ (67 ≤ op ∧ op ≤ 68) ∨ (91 ≤ op ∧ op ≤ 102) ∨ (139 ≤ op ∧ op ≤ 166) ∨ (168 ≤ op ∧ op ≤ 171) ∨ (174 ≤ op ∧ op ≤ 191) ∨ (208 ≤ op ∧ op ≤ 210) ∨ op = 253 ∨ (256 ≤ op ∧ op ≤ 263) ∨ (271 ≤ op ∧ op ≤ 273))
def accOp (op : Int) : Bool := decide ((40 ≤ op ∧ op ≤ 41) ∨ (44 ≤ op ∧ op ≤ 55) ∨ (58 ≤ op ∧ op ≤ 62))
def numOp (op : Int) : Bool := decide ((69 ≤ op ∧ op ≤ 90) ∨ (103 ≤ op ∧ op ≤ 138) ∨ op = 167 ∨ (172 ≤ op ∧ op ≤ 173) ∨ (192 ≤ op ∧ op ≤ 196))
/-- What follows a code; 'some none': known, but not done here; 'none': there is no such code. -/
def pat (op : Int) : Option (Option (List Part)) :=
  match named op with
  | some p => some (some p)
  | none => if wideOp op then some none else if accOp op then some (some [.a, .b]) else if numOp op then some (some []) else none
/-- So many labels at place p of the bytes, or the first error. -/
def readLabels (bs : List Nat) : Nat → Nat → List Int × Nat × Nat
  | 0, p => ([], p, 0)
  | n + 1, p =>
    if (uRes (bs.drop p) 32).2.2 ≠ 0 then ([], 0, (uRes (bs.drop p) 32).2.2)
    else if (readLabels bs n (p + (uRes (bs.drop p) 32).2.1)).2.2 ≠ 0 then ([], 0, (readLabels bs n (p + (uRes (bs.drop p) 32).2.1)).2.2)
    else (((uRes (bs.drop p) 32).1 : Int) :: (readLabels bs n (p + (uRes (bs.drop p) 32).2.1)).1, (readLabels bs n (p + (uRes (bs.drop p) 32).2.1)).2.1, 0)
/-- One part at place p: the instruction with it, the place behind it, the error. -/
def readPart (bs : List Nat) (p : Nat) (x : Ins) : Part → Ins × Nat × Nat
  | .t => ({ x with a := (blockRes (bs.drop p)).1 }, p + (blockRes (bs.drop p)).2.1, (blockRes (bs.drop p)).2.2)
  | .a => ({ x with a := ((uRes (bs.drop p) 32).1 : Int) }, p + (uRes (bs.drop p) 32).2.1, (uRes (bs.drop p) 32).2.2)
  | .b => ({ x with b := ((uRes (bs.drop p) 32).1 : Int) }, p + (uRes (bs.drop p) 32).2.1, (uRes (bs.drop p) 32).2.2)
  | .l =>
    if (uRes (bs.drop p) 32).2.2 ≠ 0 then (x, p, (uRes (bs.drop p) 32).2.2)
    else if 64 < (uRes (bs.drop p) 32).1 then (x, p, 4)
    else ({ x with l := (readLabels bs (uRes (bs.drop p) 32).1 (p + (uRes (bs.drop p) 32).2.1)).1 }, (readLabels bs (uRes (bs.drop p) 32).1 (p + (uRes (bs.drop p) 32).2.1)).2.1, (readLabels bs (uRes (bs.drop p) 32).1 (p + (uRes (bs.drop p) 32).2.1)).2.2)
  | .k => ({ x with k := (sRes (bs.drop p) 32).1 }, p + (sRes (bs.drop p) 32).2.1, (sRes (bs.drop p) 32).2.2)
  | .kk => ({ x with k := (sRes (bs.drop p) 64).1 }, p + (sRes (bs.drop p) 64).2.1, (sRes (bs.drop p) 64).2.2)
  | .z => (x, p + 1, if bs.length ≤ p then 1 else if bs.getD p 0 ≠ 0 then 2 else 0)
def zeroIns : Ins := ⟨0, 0, 0, 0, []⟩
def readParts (bs : List Nat) : List Part → Nat → Ins → Ins × Nat × Nat
  | [], p, x => (x, p, 0)
  | r :: rs, p, x =>
    if (readPart bs p x r).2.2 ≠ 0 then (zeroIns, 0, (readPart bs p x r).2.2)
    else readParts bs rs (readPart bs p x r).2.1 (readPart bs p x r).1
/-- What follows a code, read at place p. -/
def readRest (bs : List Nat) (op : Int) (p : Nat) : Ins × Nat × Nat :=
  match pat op with
  | none => (zeroIns, 0, 2)
  | some none => (zeroIns, 0, 3)
  | some (some qs) => readParts bs qs p { zeroIns with op := op }
/-- The instruction at place p, the place behind it, the error. -/
def oneRes (bs : List Nat) (p : Nat) : Ins × Nat × Nat :=
  if bs.length ≤ p then (zeroIns, 0, 1)
  else if bs.getD p 0 = 252 then
    if (uRes (bs.drop (p + 1)) 32).2.2 ≠ 0 then (zeroIns, 0, (uRes (bs.drop (p + 1)) 32).2.2)
    else if 255 < (uRes (bs.drop (p + 1)) 32).1 then (zeroIns, 0, 2)
    else readRest bs (256 + ((uRes (bs.drop (p + 1)) 32).1 : Int)) (p + 1 + (uRes (bs.drop (p + 1)) 32).2.1)
  else readRest bs (bs.getD p 0 : Int) (p + 1)
/-- What is put. -/
def labelBytes (l : List Int) : List Nat := l.flatMap fun n => putU n.toNat
def partBytes (x : Ins) : Part → List Nat
  | .t => putS x.a
  | .a => putU x.a.toNat
  | .b => putU x.b.toNat
  | .l => putU x.l.length ++ labelBytes x.l
  | .k => putS x.k
  | .kk => putS x.k
  | .z => [0]
def headBytes (op : Int) : List Nat := if 256 ≤ op then 252 :: putU (op - 256).toNat else [op.toNat]
def insBytes (x : Ins) : List Nat := headBytes x.op ++ (((pat x.op).getD none).getD []).flatMap (partBytes x)
/-- What a part may be. -/
def fitsU (n : Int) : Prop := 0 ≤ n ∧ n ≤ 4294967295
instance (n : Int) : Decidable (fitsU n) := by unfold fitsU; infer_instance
def partFits (x : Ins) : Part → Prop
  | .t => rightBlock x.a = true
  | .a => fitsU x.a
  | .b => fitsU x.b
  | .l => x.l.length ≤ 64 ∧ ∀ n ∈ x.l, fitsU n
  | .k => -2147483648 ≤ x.k ∧ x.k ≤ 2147483647
  | .kk => -9223372036854775808 ≤ x.k ∧ x.k ≤ 9223372036854775807
  | .z => True
/-- The instruction with one part of x. -/
def setPart (x y : Ins) : Part → Ins
  | .t => { y with a := x.a }
  | .a => { y with a := x.a }
  | .b => { y with b := x.b }
  | .l => { y with l := x.l }
  | .k => { y with k := x.k }
  | .kk => { y with k := x.k }
  | .z => y
theorem drop_app (pre l : List Nat) : (pre ++ l).drop pre.length = l := by simp
theorem uRes_fit (n : Int) (h : fitsU n) (more : List Nat) : uRes (putU n.toNat ++ more) 32 = (n.toNat, (putU n.toNat).length, 0) :=
  uRes_put n.toNat 32 more (by omega) (by omega) (by unfold fitsU at h; omega)
theorem readLabels_put (pre more : List Nat) (l : List Int) (h : ∀ n ∈ l, fitsU n) : readLabels (pre ++ (labelBytes l ++ more)) l.length pre.length = (l, pre.length + (labelBytes l).length, 0) := by
  induction l generalizing pre with
  | nil => simp [readLabels, labelBytes]
  | cons n l ih =>
    have hn := h n (by simp)
    have e : labelBytes (n :: l) = putU n.toNat ++ labelBytes l := by simp [labelBytes]
    have hd : (pre ++ (labelBytes (n :: l) ++ more)).drop pre.length = putU n.toNat ++ (labelBytes l ++ more) := by rw [drop_app, e, List.append_assoc]
    have hu := uRes_fit n hn (labelBytes l ++ more)
    have ih2 := ih (pre ++ putU n.toNat) (fun m hm => h m (by simp [hm]))
    rw [List.append_assoc, ← List.append_assoc (putU n.toNat), ← e, List.length_append] at ih2
    simp only [List.length_cons, readLabels]
    rw [hd, hu]
    simp only [not_true_eq_false, if_false, ne_eq]
    rw [ih2]
    simp only [not_true_eq_false, if_false]
    have hz : ((n.toNat : Nat) : Int) = n := by unfold fitsU at hn; omega
    rw [hz, e, List.length_append]
    simp only [Nat.add_assoc]
theorem readPart_l (bs : List Nat) (p n s : Nat) (y : Ins) (hu : uRes (bs.drop p) 32 = (n, s, 0)) (hn : n ≤ 64) : readPart bs p y .l = ({ y with l := (readLabels bs n (p + s)).1 }, (readLabels bs n (p + s)).2.1, (readLabels bs n (p + s)).2.2) := by
  simp only [readPart]
  rw [hu]
  rw [if_neg (by simp), if_neg (by omega)]
theorem readPart_put (pre more : List Nat) (x y : Ins) (q : Part) (h : partFits x q) : readPart (pre ++ (partBytes x q ++ more)) pre.length y q = (setPart x y q, pre.length + (partBytes x q).length, 0) := by
  cases q with
  | t =>
    simp only [readPart, partBytes, setPart]
    rw [drop_app, blockRes_put x.a more h]
  | a =>
    have hz : ((x.a.toNat : Nat) : Int) = x.a := by simp only [partFits] at h; unfold fitsU at h; omega
    simp only [readPart, partBytes, setPart]
    rw [drop_app, uRes_fit x.a h]
    simp only [hz]
  | b =>
    have hz : ((x.b.toNat : Nat) : Int) = x.b := by simp only [partFits] at h; unfold fitsU at h; omega
    simp only [readPart, partBytes, setPart]
    rw [drop_app, uRes_fit x.b h]
    simp only [hz]
  | l =>
    obtain ⟨h1, h2⟩ := h
    have hu : uRes (putU x.l.length ++ (labelBytes x.l ++ more)) 32 = (x.l.length, (putU x.l.length).length, 0) := uRes_put _ 32 _ (by omega) (by omega) (by omega)
    have hl := readLabels_put (pre ++ putU x.l.length) more x.l h2
    rw [List.append_assoc, List.length_append] at hl
    have e : pre ++ (partBytes x .l ++ more) = pre ++ (putU x.l.length ++ (labelBytes x.l ++ more)) := by simp [partBytes]
    rw [e, readPart_l _ pre.length x.l.length (putU x.l.length).length y (by rw [drop_app]; exact hu) h1, hl]
    simp [setPart, partBytes, Nat.add_assoc]
  | k =>
    simp only [readPart, partBytes, setPart]
    rw [drop_app, sRes_put x.k 32 more (by omega) (by omega) (by simp only [partFits] at h; constructor <;> (simp only [Nat.reduceSub, Int.reducePow]; omega))]
  | kk =>
    simp only [readPart, partBytes, setPart]
    rw [drop_app, sRes_put x.k 64 more (by omega) (by omega) (by simp only [partFits] at h; constructor <;> (simp only [Nat.reduceSub, Int.reducePow]; omega))]
  | z =>
    simp [readPart, partBytes, setPart]
def setParts (x : Ins) (qs : List Part) (y : Ins) : Ins := qs.foldl (setPart x) y
theorem readParts_put (qs : List Part) (pre more : List Nat) (x y : Ins) (h : ∀ q ∈ qs, partFits x q) : readParts (pre ++ (qs.flatMap (partBytes x) ++ more)) qs pre.length y = (setParts x qs y, pre.length + (qs.flatMap (partBytes x)).length, 0) := by
  induction qs generalizing pre y with
  | nil => simp [readParts, setParts]
  | cons q qs ih =>
    have hr := readPart_put pre (qs.flatMap (partBytes x) ++ more) x y q (h q (by simp))
    have ih2 := ih (pre ++ partBytes x q) (setPart x y q) (fun m hm => h m (by simp [hm]))
    have e : (q :: qs).flatMap (partBytes x) ++ more = partBytes x q ++ (qs.flatMap (partBytes x) ++ more) := by simp
    rw [List.append_assoc, List.length_append] at ih2
    simp only [readParts]
    rw [e, hr]
    simp only [ne_eq, not_true_eq_false, if_false]
    rw [ih2]
    simp [setParts, Nat.add_assoc]
theorem named_range (op : Int) (qs : List Part) (h : named op = some qs) : 0 ≤ op ∧ op ≤ 270 ∧ op ≠ 252 := by
  unfold named at h
  repeat' split at h
  all_goals first
    | omega
    | (exfalso; simp at h)
theorem pat_range (op : Int) (qs : List Part) (h : pat op = some (some qs)) : 0 ≤ op ∧ op ≤ 270 ∧ op ≠ 252 := by
  unfold pat at h
  cases hn : named op with
  | some p => exact named_range op p hn
  | none =>
    rw [hn] at h
    simp only at h
    by_cases h1 : wideOp op = true
    · rw [if_pos h1] at h; simp at h
    · rw [if_neg h1] at h
      by_cases h2 : accOp op = true
      · unfold accOp at h2; have := of_decide_eq_true h2; omega
      · rw [if_neg h2] at h
        by_cases h3 : numOp op = true
        · unfold numOp at h3; have := of_decide_eq_true h3; omega
        · rw [if_neg h3] at h; simp at h
/-- An instruction that may be put: its code is known, all that belongs to it fits, and nothing else is there. -/
def formedI (x : Ins) : Prop := ∃ qs, pat x.op = some (some qs) ∧ (∀ r ∈ qs, partFits x r) ∧ setParts x qs { zeroIns with op := x.op } = x
theorem readRest_put (pre more : List Nat) (x : Ins) (qs : List Part) (h1 : pat x.op = some (some qs)) (h2 : ∀ r ∈ qs, partFits x r) (h3 : setParts x qs { zeroIns with op := x.op } = x) :
    readRest (pre ++ (qs.flatMap (partBytes x) ++ more)) x.op pre.length = (x, pre.length + (qs.flatMap (partBytes x)).length, 0) := by
  unfold readRest
  rw [h1]
  simp only
  rw [readParts_put qs pre more x _ h2, h3]
theorem one_put (pre more : List Nat) (x : Ins) (h : formedI x) : oneRes (pre ++ (insBytes x ++ more)) pre.length = (x, pre.length + (insBytes x).length, 0) := by
  obtain ⟨qs, h1, h2, h3⟩ := h
  obtain ⟨r1, r2, r3⟩ := pat_range x.op qs h1
  have hi : insBytes x = headBytes x.op ++ qs.flatMap (partBytes x) := by unfold insBytes; rw [h1]; rfl
  rw [hi]
  unfold headBytes
  by_cases hc : 256 ≤ x.op
  · rw [if_pos hc]
    obtain ⟨m, hm⟩ : ∃ m : Nat, x.op = 256 + (m : Int) := ⟨(x.op - 256).toNat, by omega⟩
    have hm2 : (x.op - 256).toNat = m := by omega
    rw [hm2]
    have hd : (pre ++ (252 :: putU m ++ qs.flatMap (partBytes x) ++ more)).drop (pre.length + 1) = putU m ++ (qs.flatMap (partBytes x) ++ more) := by
      rw [← List.drop_drop, drop_app]; simp
    have hg : (pre ++ (252 :: putU m ++ qs.flatMap (partBytes x) ++ more)).getD pre.length 0 = 252 := by simp [List.getD]
    have hu : uRes (putU m ++ (qs.flatMap (partBytes x) ++ more)) 32 = (m, (putU m).length, 0) := uRes_put m 32 _ (by omega) (by omega) (by omega)
    have hr := readRest_put (pre ++ 252 :: putU m) more x qs h1 h2 h3
    rw [show pre ++ 252 :: putU m ++ (qs.flatMap (partBytes x) ++ more) = pre ++ (252 :: putU m ++ qs.flatMap (partBytes x) ++ more) from by simp] at hr
    rw [show (pre ++ 252 :: putU m).length = pre.length + 1 + (putU m).length from by simp; omega] at hr
    unfold oneRes
    rw [if_neg (by simp), if_pos hg, hd, hu]
    simp only
    rw [if_neg (by simp), if_neg (by omega), ← hm, hr]
    simp
    omega
  · rw [if_neg hc]
    obtain ⟨m, hm⟩ : ∃ m : Nat, x.op = (m : Int) := ⟨x.op.toNat, by omega⟩
    have hm2 : x.op.toNat = m := by omega
    rw [hm2]
    have hg : (pre ++ ([m] ++ qs.flatMap (partBytes x) ++ more)).getD pre.length 0 = m := by simp [List.getD]
    have hr := readRest_put (pre ++ [m]) more x qs h1 h2 h3
    rw [show pre ++ [m] ++ (qs.flatMap (partBytes x) ++ more) = pre ++ ([m] ++ qs.flatMap (partBytes x) ++ more) from by simp] at hr
    rw [show (pre ++ [m]).length = pre.length + 1 from by simp] at hr
    unfold oneRes
    rw [if_neg (by simp), if_neg (by rw [hg]; omega), hg, ← hm, hr]
    simp
    omega
end Go.Proofs.Ytlbbnnljclndkaa.Ins
namespace Go.Proofs.Ytlbbnnljclndkaa.Ins
open Go.RowKit Leb Typ

/-- What an instruction does to the blocks that are open (the innermost first: 2, 3, 4 as they began, 5 where the else has stood): an error; or the body's end (0, none); or the blocks behind it. -/
def blocks (op : Int) (st : List Nat) : Nat × Option (List Nat) :=
  if 2 ≤ op ∧ op ≤ 4 then (if st.length = 64 then (4, none) else (0, some (op.toNat :: st)))
  else if op = 5 then (if st.head? = some 4 then (0, some (5 :: st.tail)) else (2, none))
  else if op = 11 then (if st = [] then (0, none) else (0, some st.tail))
  else (0, some st)
/-- The instructions from place p on, n being there already; the place behind them; the error. -/
def bodyF (bs : List Nat) : Nat → Nat → List Nat → Nat → List Ins × Nat × Nat
  | 0, _, _, _ => ([], 0, 1)
  | f + 1, n, st, p =>
    if (oneRes bs p).2.2 ≠ 0 then ([], 0, (oneRes bs p).2.2)
    else if n = 2000 then ([], 0, 4)
    else match blocks (oneRes bs p).1.op st with
      | (e, none) => if e = 0 then ([(oneRes bs p).1], (oneRes bs p).2.1, 0) else ([], 0, e)
      | (_, some st') =>
        if (bodyF bs f (n + 1) st' (oneRes bs p).2.1).2.2 = 0 then ((oneRes bs p).1 :: (bodyF bs f (n + 1) st' (oneRes bs p).2.1).1, (bodyF bs f (n + 1) st' (oneRes bs p).2.1).2.1, 0)
        else ([], 0, (bodyF bs f (n + 1) st' (oneRes bs p).2.1).2.2)
def bodyRes (bs : List Nat) : List Ins × Nat × Nat := bodyF bs (bs.length + 1) 0 [] 0
def allBytes (l : List Ins) : List Nat := l.flatMap insBytes
/-- Instructions that are a body from here on: n are there already, st is open. -/
def closedF : Nat → List Nat → List Ins → Prop
  | _, _, [] => False
  | n, st, x :: l => formedI x ∧ n < 2000 ∧
    match blocks x.op st with
    | (e, none) => e = 0 ∧ l = []
    | (_, some st') => closedF (n + 1) st' l
def closedI (l : List Ins) : Prop := closedF 0 [] l
/-- One instruction that is there, then the others. -/
theorem bodyF_step (bs : List Nat) (f n p q : Nat) (st : List Nat) (x : Ins) (h : oneRes bs p = (x, q, 0)) (hn : n < 2000) :
    bodyF bs (f + 1) n st p = match blocks x.op st with
      | (e, none) => if e = 0 then ([x], q, 0) else ([], 0, e)
      | (_, some st') => if (bodyF bs f (n + 1) st' q).2.2 = 0 then (x :: (bodyF bs f (n + 1) st' q).1, (bodyF bs f (n + 1) st' q).2.1, 0) else ([], 0, (bodyF bs f (n + 1) st' q).2.2) := by
  simp only [bodyF]
  rw [h]
  simp only [ne_eq, not_true_eq_false, if_false]
  rw [if_neg (by omega)]
theorem body_put (l : List Ins) (n : Nat) (st pre more : List Nat) (f : Nat) (h : closedF n st l) (hf : l.length ≤ f) : bodyF (pre ++ (allBytes l ++ more)) f n st pre.length = (l, pre.length + (allBytes l).length, 0) := by
  induction l generalizing n st pre f with
  | nil => exact absurd h (by simp [closedF])
  | cons x l ih =>
    cases f with
    | zero => simp at hf
    | succ f =>
      simp only [closedF] at h
      obtain ⟨h1, h2, h3⟩ := h
      have e : pre ++ (allBytes (x :: l) ++ more) = pre ++ (insBytes x ++ (allBytes l ++ more)) := by simp [allBytes]
      have ho := one_put pre (allBytes l ++ more) x h1
      rw [e, bodyF_step _ f n pre.length _ st x ho h2]
      generalize hb : blocks x.op st = g at h3
      obtain ⟨er, o⟩ := g
      cases o with
      | none =>
        simp only at h3
        obtain ⟨rfl, rfl⟩ := h3
        simp [allBytes]
      | some st' =>
        simp only at h3
        have ih2 := ih (n + 1) st' (pre ++ insBytes x) f h3 (by simpa using hf)
        rw [List.append_assoc, List.length_append] at ih2
        simp only
        rw [ih2]
        simp [allBytes, Nat.add_assoc]
theorem headBytes_len (op : Int) : 1 ≤ (headBytes op).length := by
  unfold headBytes
  split <;> simp
theorem insBytes_len (x : Ins) : 1 ≤ (insBytes x).length := by
  have := headBytes_len x.op
  unfold insBytes
  rw [List.length_append]
  omega
theorem allBytes_len (l : List Ins) : l.length ≤ (allBytes l).length := by
  induction l with
  | nil => simp
  | cons x l ih =>
    have := insBytes_len x
    simp only [allBytes, List.flatMap_cons, List.length_append, List.length_cons] at ih ⊢
    omega
theorem bodyRes_put (l : List Ins) (more : List Nat) (h : closedI l) : bodyRes (allBytes l ++ more) = (l, (allBytes l).length, 0) := by
  have hl := allBytes_len l
  have := body_put l 0 [] [] more ((allBytes l ++ more).length + 1) h (by rw [List.length_append]; omega)
  simpa [bodyRes] using this
/-- A nop more, anywhere ahead of the end, leaves it closed, and what isn't stays so. -/
theorem nop_formed : formedI { zeroIns with op := 1 } := ⟨[], by decide, by simp, rfl⟩
theorem nop_blocks (st : List Nat) : blocks 1 st = (0, some st) := by
  unfold blocks
  rw [if_neg (by omega), if_neg (by omega), if_neg (by omega)]
theorem closed_room (l : List Ins) (n : Nat) (st : List Nat) (m : Nat) (h : closedF n st l) (hm : m + l.length ≤ 2000) : closedF m st l := by
  induction l generalizing n st m with
  | nil => exact h
  | cons x l ih =>
    simp only [closedF, List.length_cons] at h hm ⊢
    obtain ⟨h1, h2, h3⟩ := h
    refine ⟨h1, by omega, ?_⟩
    generalize blocks x.op st = g at h3 ⊢
    obtain ⟨er, o⟩ := g
    cases o with
    | none => exact h3
    | some st' => exact ih (n + 1) st' (m + 1) h3 (by omega)
theorem closed_nop (l : List Ins) (j n : Nat) (st : List Nat) (hj : j < l.length) (hn : n + l.length < 2000) : closedF n st (l.take j ++ { zeroIns with op := 1 } :: l.drop j) ↔ closedF n st l := by
  induction l generalizing j n st with
  | nil => simp at hj
  | cons x l ih =>
    cases j with
    | zero =>
      simp only [List.take_zero, List.drop_zero, List.nil_append]
      rw [closedF]
      simp only [nop_blocks]
      simp only [List.length_cons] at hn
      constructor
      · rintro ⟨_, _, h⟩
        exact closed_room (x :: l) (n + 1) st n h (by simp; omega)
      · intro h
        exact ⟨nop_formed, by omega, closed_room (x :: l) n st (n + 1) h (by simp; omega)⟩
    | succ j =>
      simp only [List.take_succ_cons, List.drop_succ_cons, List.cons_append, closedF, List.length_cons] at hj hn ⊢
      generalize blocks x.op st = g
      obtain ⟨er, o⟩ := g
      cases o with
      | none =>
        simp only
        constructor
        · rintro ⟨_, _, _, h⟩
          simp at h
        · rintro ⟨_, _, _, h⟩
          subst h
          simp at hj
      | some st' =>
        simp only
        rw [ih j (n + 1) st' (by omega) (by omega)]
theorem allBytes_nop (l : List Ins) (j : Nat) : (allBytes (l.take j ++ { zeroIns with op := 1 } :: l.drop j)).length = (allBytes l).length + 1 := by
  have e : insBytes { zeroIns with op := 1 } = [1] := by decide
  have h := congrArg (fun m => (allBytes m).length) (List.take_append_drop j l)
  simp only [allBytes, List.flatMap_append, List.flatMap_cons, List.length_append, e, List.length_singleton] at h ⊢
  omega
theorem allBytes_in (l : List Ins) : (allBytes ({ zeroIns with op := 2, a := -64 } :: (l ++ [{ zeroIns with op := 11 }]))).length = (allBytes l).length + 3 := by
  have e1 : insBytes { zeroIns with op := 2, a := -64 } = [2, 64] := by decide
  have e2 : insBytes { zeroIns with op := 11 } = [11] := by decide
  simp only [allBytes, List.flatMap_append, List.flatMap_cons, List.flatMap_nil, List.length_append, e1, e2, List.length_cons, List.length_nil, List.append_nil]
  omega
end Go.Proofs.Ytlbbnnljclndkaa.Ins
namespace Go.Proofs.Ytlbbnnljclndkaa.Ins
open Go.RowKit Leb Typ

theorem sRes_is {l : List Nat} {n s : Nat} {v : Int} (h : sRes l n = (v, s, 0)) : ∃ u, gath l (most n) = (u, s, 0) ∧ ¬ (s = most n ∧ csB (l.getD (most n - 1) 0 : Nat) (inl n : Nat) = false) ∧ v = ext u (s * 7) := by
  unfold sRes at h
  by_cases h1 : (gath l (most n)).2.2 = 0
  · rw [if_pos h1] at h
    by_cases h2 : (gath l (most n)).2.1 = most n ∧ csB (l.getD (most n - 1) 0 : Nat) (inl n : Nat) = false
    · rw [if_pos h2] at h; simp at h
    · rw [if_neg h2] at h
      simp only [Prod.mk.injEq] at h
      obtain ⟨e1, e2, _⟩ := h
      refine ⟨(gath l (most n)).1, by rw [← e2, ← h1], by rw [← e2]; exact h2, by rw [← e1, ← e2]⟩
  · rw [if_neg h1] at h
    simp only [Prod.mk.injEq] at h
    exact absurd h.2.2 h1
theorem sRes_pre {l l' : List Nat} {n s : Nat} {v : Int} (hn : 1 ≤ n) (h : sRes l n = (v, s, 0)) (ht : l.take s = l'.take s) : sRes l' n = (v, s, 0) := by
  obtain ⟨u, h1, h2, rfl⟩ := sRes_is h
  have hm : 1 ≤ most n := by unfold most; omega
  unfold sRes
  rw [gath_pre h1 ht]
  simp only [if_true]
  rw [if_neg]
  rintro ⟨h3, h4⟩
  rw [← getD_pre ht (most n - 1) (by omega)] at h4
  exact h2 ⟨h3, h4⟩
theorem sRes_cut {l : List Nat} {n s : Nat} {v : Int} (h : sRes l n = (v, s, 0)) (k : Nat) (hk : k < s) : sRes (l.take k) n = (0, 0, 1) := by
  obtain ⟨u, h1, _⟩ := sRes_is h
  unfold sRes
  rw [gath_cut h1 k hk]
  simp
theorem sRes_le {l : List Nat} {n s : Nat} {v : Int} (h : sRes l n = (v, s, 0)) : 1 ≤ s ∧ s ≤ l.length := by
  obtain ⟨u, h1, _⟩ := sRes_is h
  obtain ⟨_, h3, rfl, _⟩ := gath_is h1
  omega
theorem uRes_le {l : List Nat} {n s u : Nat} (h : uRes l n = (u, s, 0)) : 1 ≤ s ∧ s ≤ l.length := by
  obtain ⟨h1, _⟩ := uRes_is h
  obtain ⟨_, h3, rfl, _⟩ := gath_is h1
  omega
/-- A block's type: which way it was read. -/
theorem blockRes_is {l : List Nat} {s : Nat} {t : Int} (h : blockRes l = (t, s, 0)) : 1 ≤ l.length ∧ ((s = 1 ∧ ((l.getD 0 0 = 64 ∧ t = -64) ∨ (l.getD 0 0 ≠ 64 ∧ (Typ.valOf (l.getD 0 0)).2 = 0 ∧ t = (l.getD 0 0 : Int) - 128))) ∨ (l.getD 0 0 ≠ 64 ∧ (Typ.valOf (l.getD 0 0)).2 ≠ 3 ∧ (Typ.valOf (l.getD 0 0)).2 ≠ 0 ∧ sRes l 33 = (t, s, 0) ∧ 0 ≤ t)) := by
  unfold blockRes at h
  by_cases h0 : l.length < 1
  · rw [if_pos h0] at h; simp at h
  rw [if_neg h0] at h
  refine ⟨by omega, ?_⟩
  by_cases h1 : l.getD 0 0 = 64
  · rw [if_pos h1] at h
    simp only [Prod.mk.injEq] at h
    exact .inl ⟨h.2.1.symm, .inl ⟨h1, h.1.symm⟩⟩
  rw [if_neg h1] at h
  by_cases h2 : (Typ.valOf (l.getD 0 0)).2 = 3
  · rw [if_pos h2] at h; simp at h
  rw [if_neg h2] at h
  by_cases h3 : (Typ.valOf (l.getD 0 0)).2 = 0
  · rw [if_pos h3] at h
    simp only [Prod.mk.injEq] at h
    exact .inl ⟨h.2.1.symm, .inr ⟨h1, h3, h.1.symm⟩⟩
  rw [if_neg h3] at h
  by_cases h4 : (sRes l 33).2.2 ≠ 0
  · rw [if_pos h4] at h
    simp only [Prod.mk.injEq] at h
    exact absurd h.2.2 h4
  rw [if_neg h4] at h
  by_cases h5 : (sRes l 33).1 < 0
  · rw [if_pos h5] at h; simp at h
  rw [if_neg h5] at h
  simp only [Prod.mk.injEq] at h
  refine .inr ⟨h1, h2, h3, ?_, by rw [← h.1]; omega⟩
  rw [← h.1, ← h.2.1]
  have : (sRes l 33).2.2 = 0 := by omega
  rw [← this]
theorem blockRes_mk {l : List Nat} {s : Nat} {t : Int} (h0 : 1 ≤ l.length) (h : ((s = 1 ∧ ((l.getD 0 0 = 64 ∧ t = -64) ∨ (l.getD 0 0 ≠ 64 ∧ (Typ.valOf (l.getD 0 0)).2 = 0 ∧ t = (l.getD 0 0 : Int) - 128))) ∨ (l.getD 0 0 ≠ 64 ∧ (Typ.valOf (l.getD 0 0)).2 ≠ 3 ∧ (Typ.valOf (l.getD 0 0)).2 ≠ 0 ∧ sRes l 33 = (t, s, 0) ∧ 0 ≤ t))) : blockRes l = (t, s, 0) := by
  unfold blockRes
  rw [if_neg (by omega)]
  rcases h with ⟨rfl, ⟨h1, rfl⟩ | ⟨h1, h2, rfl⟩⟩ | ⟨h1, h2, h3, h4, h5⟩
  · rw [if_pos h1]
  · rw [if_neg h1, if_neg (by omega), if_pos h2]
  · rw [if_neg h1, if_neg h2, if_neg h3, h4]
    simp only [ne_eq, not_true_eq_false, if_false]
    rw [if_neg (by omega)]
theorem blockRes_le {l : List Nat} {s : Nat} {t : Int} (h : blockRes l = (t, s, 0)) : 1 ≤ s ∧ s ≤ l.length := by
  obtain ⟨h0, ⟨rfl, _⟩ | ⟨_, _, _, h4, _⟩⟩ := blockRes_is h
  · omega
  · exact sRes_le h4
theorem take_len {l l' : List Nat} {s : Nat} (ht : l.take s = l'.take s) (h : s ≤ l.length) : s ≤ l'.length := by
  have := congrArg List.length ht
  simp only [List.length_take] at this
  omega
theorem blockRes_pre {l l' : List Nat} {s : Nat} {t : Int} (h : blockRes l = (t, s, 0)) (ht : l.take s = l'.take s) : blockRes l' = (t, s, 0) := by
  have hle := blockRes_le h
  have hl' := take_len ht hle.2
  have hg := getD_pre ht 0 (by omega)
  obtain ⟨h0, h1⟩ := blockRes_is h
  rw [hg] at h1
  refine blockRes_mk (by omega) ?_
  rcases h1 with h1 | ⟨h1, h2, h3, h4, h5⟩
  · exact .inl h1
  · exact .inr ⟨h1, h2, h3, sRes_pre (by omega) h4 ht, h5⟩
theorem blockRes_cut {l : List Nat} {s : Nat} {t : Int} (h : blockRes l = (t, s, 0)) (k : Nat) (hk : k < s) : blockRes (l.take k) = (0, 0, 1) := by
  obtain ⟨h0, h1⟩ := blockRes_is h
  unfold blockRes
  by_cases hk0 : k = 0
  · subst hk0; simp
  have hl : (l.take k).length = min k l.length := List.length_take
  have hg : (l.take k).getD 0 0 = l.getD 0 0 := by simp [List.getD, show 0 < k by omega]
  rw [if_neg (by omega), hg]
  rcases h1 with ⟨h1, _⟩ | ⟨h1, h2, h3, h4, h5⟩
  · omega
  · rw [if_neg h1, if_neg h2, if_neg h3, sRes_cut h4 k hk]
    simp
/-- Labels. -/
theorem readLabels_succ (bs : List Nat) (n p u s : Nat) (h : uRes (bs.drop p) 32 = (u, s, 0)) : readLabels bs (n + 1) p = if (readLabels bs n (p + s)).2.2 ≠ 0 then ([], 0, (readLabels bs n (p + s)).2.2) else ((u : Int) :: (readLabels bs n (p + s)).1, (readLabels bs n (p + s)).2.1, 0) := by
  simp only [readLabels]
  rw [h]
  simp
theorem readLabels_is {bs : List Nat} {n p q : Nat} {xs : List Int} (h : readLabels bs (n + 1) p = (xs, q, 0)) : ∃ u s ys, uRes (bs.drop p) 32 = (u, s, 0) ∧ readLabels bs n (p + s) = (ys, q, 0) ∧ xs = (u : Int) :: ys := by
  generalize hg : uRes (bs.drop p) 32 = g
  obtain ⟨u, s, e⟩ := g
  by_cases he : e = 0
  · subst he
    rw [readLabels_succ bs n p u s hg] at h
    by_cases h2 : (readLabels bs n (p + s)).2.2 ≠ 0
    · rw [if_pos h2] at h
      simp only [Prod.mk.injEq] at h
      exact absurd h.2.2 h2
    · rw [if_neg h2] at h
      simp only [Prod.mk.injEq] at h
      have h3 : (readLabels bs n (p + s)).2.2 = 0 := by omega
      exact ⟨u, s, (readLabels bs n (p + s)).1, rfl, by rw [← h.2.1, ← h3], h.1.symm⟩
  · simp only [readLabels] at h
    rw [hg, if_pos he] at h
    simp only [Prod.mk.injEq] at h
    exact absurd h.2.2 he
theorem readLabels_le {bs : List Nat} {n p q : Nat} {xs : List Int} (h : readLabels bs n p = (xs, q, 0)) (hp : p ≤ bs.length) : p ≤ q ∧ q ≤ bs.length := by
  induction n generalizing p xs with
  | zero =>
    simp only [readLabels, Prod.mk.injEq] at h
    omega
  | succ n ih =>
    obtain ⟨u, s, ys, h1, h2, _⟩ := readLabels_is h
    have hl := uRes_le h1
    rw [List.length_drop] at hl
    have := ih h2 (by omega)
    omega
theorem readLabels_pre {bs bs' : List Nat} {n p q : Nat} {xs : List Int} (h : readLabels bs n p = (xs, q, 0)) (hp : p ≤ bs.length) (ht : bs.take q = bs'.take q) : readLabels bs' n p = (xs, q, 0) := by
  induction n generalizing p xs with
  | zero => simpa [readLabels] using h
  | succ n ih =>
    obtain ⟨u, s, ys, h1, h2, rfl⟩ := readLabels_is h
    have hl := uRes_le h1
    rw [List.length_drop] at hl
    have hq := readLabels_le h2 (by omega)
    have h3 : uRes (bs'.drop p) 32 = (u, s, 0) := uRes_pre (by omega) h1 (drop_take_pre ht p s (by omega))
    rw [readLabels_succ bs' n p u s h3, ih h2 (by omega)]
    simp
theorem readLabels_cut {bs : List Nat} {n p q : Nat} {xs : List Int} (h : readLabels bs n p = (xs, q, 0)) (hp : p ≤ bs.length) (k : Nat) (hpk : p ≤ k) (hk : k < q) : readLabels (bs.take k) n p = ([], 0, 1) := by
  induction n generalizing p xs with
  | zero =>
    simp only [readLabels, Prod.mk.injEq] at h
    omega
  | succ n ih =>
    obtain ⟨u, s, ys, h1, h2, rfl⟩ := readLabels_is h
    have hl := uRes_le h1
    rw [List.length_drop] at hl
    have hd : (bs.take k).drop p = (bs.drop p).take (k - p) := List.drop_take ..
    by_cases hs : k - p < s
    · simp only [readLabels]
      rw [hd, uRes_cut h1 (k - p) hs]
      simp
    · have h3 : uRes ((bs.take k).drop p) 32 = (u, s, 0) := by rw [hd]; exact uRes_pre (by omega) h1 (by rw [List.take_take, Nat.min_eq_left (by omega)])
      rw [readLabels_succ _ n p u s h3, ih h2 (by omega) (by omega)]
      simp
theorem readPart_l_is {bs : List Nat} {p q : Nat} {x y : Ins} (h : readPart bs p x .l = (y, q, 0)) : ∃ n s, uRes (bs.drop p) 32 = (n, s, 0) ∧ n ≤ 64 ∧ ∃ xs, readLabels bs n (p + s) = (xs, q, 0) ∧ y = { x with l := xs } := by
  generalize hg : uRes (bs.drop p) 32 = g
  obtain ⟨n, s, e⟩ := g
  by_cases he : e = 0
  · subst he
    by_cases hn : 64 < n
    · simp only [readPart] at h
      rw [hg] at h
      rw [if_neg (by simp), if_pos hn] at h
      simp at h
    · rw [readPart_l bs p n s x hg (by omega)] at h
      simp only [Prod.mk.injEq] at h
      refine ⟨n, s, rfl, by omega, (readLabels bs n (p + s)).1, ?_, h.1.symm⟩
      rw [← h.2.1, ← h.2.2]
  · simp only [readPart] at h
    rw [hg] at h
    rw [if_pos he] at h
    simp only [Prod.mk.injEq] at h
    exact absurd h.2.2 he
theorem drop_len (bs : List Nat) (p s : Nat) (hp : p ≤ bs.length) (h : s ≤ (bs.drop p).length) : p + s ≤ bs.length := by
  rw [List.length_drop] at h; omega
theorem eta3 {α β : Type} {r : α × β × Nat} (h : r.2.2 = 0) : r = (r.1, r.2.1, 0) := by rw [← h]
/-- A part that was read: where it ends; that it hangs on these bytes alone; that it is too short when it is cut. -/
theorem readPart_le {bs : List Nat} {p q : Nat} {x y : Ins} {r : Part} (h : readPart bs p x r = (y, q, 0)) (hp : p ≤ bs.length) : p < q ∧ q ≤ bs.length := by
  cases r with
  | t =>
    simp only [readPart, Prod.mk.injEq] at h
    have := blockRes_le (eta3 h.2.2)
    have := drop_len bs p _ hp this.2
    omega
  | a =>
    simp only [readPart, Prod.mk.injEq] at h
    have := uRes_le (eta3 h.2.2)
    have := drop_len bs p _ hp this.2
    omega
  | b =>
    simp only [readPart, Prod.mk.injEq] at h
    have := uRes_le (eta3 h.2.2)
    have := drop_len bs p _ hp this.2
    omega
  | l =>
    obtain ⟨n, s, h1, _, xs, h3, _⟩ := readPart_l_is h
    have h4 := uRes_le h1
    have h5 := drop_len bs p _ hp h4.2
    have := readLabels_le h3 h5
    omega
  | k =>
    simp only [readPart, Prod.mk.injEq] at h
    have := sRes_le (eta3 h.2.2)
    have := drop_len bs p _ hp this.2
    omega
  | kk =>
    simp only [readPart, Prod.mk.injEq] at h
    have := sRes_le (eta3 h.2.2)
    have := drop_len bs p _ hp this.2
    omega
  | z =>
    simp only [readPart, Prod.mk.injEq] at h
    obtain ⟨_, rfl, h3⟩ := h
    by_cases hl : bs.length ≤ p
    · rw [if_pos hl] at h3; omega
    · omega
theorem readPart_pre {bs bs' : List Nat} {p q : Nat} {x y : Ins} {r : Part} (h : readPart bs p x r = (y, q, 0)) (hp : p ≤ bs.length) (ht : bs.take q = bs'.take q) : readPart bs' p x r = (y, q, 0) := by
  have hle := readPart_le h hp
  cases r with
  | t =>
    simp only [readPart, Prod.mk.injEq] at h ⊢
    have e := blockRes_pre (eta3 h.2.2) (drop_take_pre ht p _ (by omega))
    rw [e]
    exact ⟨h.1, h.2.1, rfl⟩
  | a =>
    simp only [readPart, Prod.mk.injEq] at h ⊢
    have e := uRes_pre (by omega) (eta3 h.2.2) (drop_take_pre ht p _ (by omega))
    rw [e]
    exact ⟨h.1, h.2.1, rfl⟩
  | b =>
    simp only [readPart, Prod.mk.injEq] at h ⊢
    have e := uRes_pre (by omega) (eta3 h.2.2) (drop_take_pre ht p _ (by omega))
    rw [e]
    exact ⟨h.1, h.2.1, rfl⟩
  | l =>
    obtain ⟨n, s, h1, h2, xs, h3, rfl⟩ := readPart_l_is h
    have h4 := uRes_le h1
    have h5 := drop_len bs p _ hp h4.2
    have h6 := readLabels_le h3 h5
    have e := uRes_pre (by omega) h1 (drop_take_pre ht p s (by omega))
    rw [readPart_l bs' p n s x e h2, readLabels_pre h3 h5 ht]
  | k =>
    simp only [readPart, Prod.mk.injEq] at h ⊢
    have e := sRes_pre (by omega) (eta3 h.2.2) (drop_take_pre ht p _ (by omega))
    rw [e]
    exact ⟨h.1, h.2.1, rfl⟩
  | kk =>
    simp only [readPart, Prod.mk.injEq] at h ⊢
    have e := sRes_pre (by omega) (eta3 h.2.2) (drop_take_pre ht p _ (by omega))
    rw [e]
    exact ⟨h.1, h.2.1, rfl⟩
  | z =>
    have hl' := take_len ht hle.2
    simp only [readPart, Prod.mk.injEq] at h ⊢
    refine ⟨h.1, h.2.1, ?_⟩
    have h3 := h.2.2
    rw [if_neg (by omega)] at h3
    rw [if_neg (by omega), ← getD_pre ht p (by omega)]
    exact h3
theorem readPart_cut {bs : List Nat} {p q : Nat} {x y : Ins} {r : Part} (h : readPart bs p x r = (y, q, 0)) (hp : p ≤ bs.length) (k : Nat) (hpk : p ≤ k) (hk : k < q) : (readPart (bs.take k) p x r).2.2 = 1 := by
  have hle := readPart_le h hp
  have hd : (bs.take k).drop p = (bs.drop p).take (k - p) := List.drop_take ..
  cases r with
  | t =>
    simp only [readPart, Prod.mk.injEq] at h ⊢
    rw [hd, blockRes_cut (eta3 h.2.2) (k - p) (by omega)]
  | a =>
    simp only [readPart, Prod.mk.injEq] at h ⊢
    rw [hd, uRes_cut (eta3 h.2.2) (k - p) (by omega)]
  | b =>
    simp only [readPart, Prod.mk.injEq] at h ⊢
    rw [hd, uRes_cut (eta3 h.2.2) (k - p) (by omega)]
  | l =>
    obtain ⟨n, s, h1, h2, xs, h3, rfl⟩ := readPart_l_is h
    have h4 := uRes_le h1
    have h5 := drop_len bs p _ hp h4.2
    by_cases hs : k - p < s
    · simp only [readPart]
      rw [hd, uRes_cut h1 (k - p) hs]
      simp
    · have e : uRes ((bs.take k).drop p) 32 = (n, s, 0) := by rw [hd]; exact uRes_pre (by omega) h1 (by rw [List.take_take, Nat.min_eq_left (by omega)])
      rw [readPart_l _ p n s x e h2, readLabels_cut h3 h5 k (by omega) hk]
  | k =>
    simp only [readPart, Prod.mk.injEq] at h ⊢
    rw [hd, sRes_cut (eta3 h.2.2) (k - p) (by omega)]
  | kk =>
    simp only [readPart, Prod.mk.injEq] at h ⊢
    rw [hd, sRes_cut (eta3 h.2.2) (k - p) (by omega)]
  | z =>
    simp only [readPart, Prod.mk.injEq] at h ⊢
    rw [if_pos (by rw [List.length_take]; omega)]
theorem readParts_cons {bs : List Nat} {p q : Nat} {x y : Ins} {r : Part} (rs : List Part) (h : readPart bs p x r = (y, q, 0)) : readParts bs (r :: rs) p x = readParts bs rs q y := by
  simp only [readParts]
  rw [h]
  simp
theorem readParts_is {bs : List Nat} {p q : Nat} {x y : Ins} {r : Part} {rs : List Part} (h : readParts bs (r :: rs) p x = (y, q, 0)) : ∃ z m, readPart bs p x r = (z, m, 0) ∧ readParts bs rs m z = (y, q, 0) := by
  by_cases he : (readPart bs p x r).2.2 = 0
  · refine ⟨_, _, eta3 he, ?_⟩
    rw [readParts_cons rs (eta3 he)] at h
    exact h
  · simp only [readParts] at h
    rw [if_pos he] at h
    simp only [Prod.mk.injEq] at h
    exact absurd h.2.2 he
theorem readParts_le {bs : List Nat} {rs : List Part} {p q : Nat} {x y : Ins} (h : readParts bs rs p x = (y, q, 0)) (hp : p ≤ bs.length) : p ≤ q ∧ q ≤ bs.length := by
  induction rs generalizing p x with
  | nil => simp only [readParts, Prod.mk.injEq] at h; omega
  | cons r rs ih =>
    obtain ⟨z, m, h1, h2⟩ := readParts_is h
    have h3 := readPart_le h1 hp
    have := ih h2 (by omega)
    omega
theorem take_le {l l' : List Nat} {s k : Nat} (ht : l.take s = l'.take s) (h : k ≤ s) : l.take k = l'.take k := by
  have := drop_take_pre ht 0 k (by omega)
  simpa using this
theorem readParts_pre {bs bs' : List Nat} {rs : List Part} {p q : Nat} {x y : Ins} (h : readParts bs rs p x = (y, q, 0)) (hp : p ≤ bs.length) (ht : bs.take q = bs'.take q) : readParts bs' rs p x = (y, q, 0) := by
  induction rs generalizing p x with
  | nil => simpa [readParts] using h
  | cons r rs ih =>
    obtain ⟨z, m, h1, h2⟩ := readParts_is h
    have h3 := readPart_le h1 hp
    have h4 := readParts_le h2 (by omega)
    rw [readParts_cons rs (readPart_pre h1 hp (take_le ht (by omega)))]
    exact ih h2 (by omega)
theorem readParts_cut {bs : List Nat} {rs : List Part} {p q : Nat} {x y : Ins} (h : readParts bs rs p x = (y, q, 0)) (hp : p ≤ bs.length) (k : Nat) (hpk : p ≤ k) (hk : k < q) : readParts (bs.take k) rs p x = (zeroIns, 0, 1) := by
  induction rs generalizing p x with
  | nil => simp only [readParts, Prod.mk.injEq] at h; omega
  | cons r rs ih =>
    obtain ⟨z, m, h1, h2⟩ := readParts_is h
    have h3 := readPart_le h1 hp
    by_cases hm : k < m
    · simp only [readParts]
      rw [readPart_cut h1 hp k hpk hm]
      simp
    · rw [readParts_cons rs (readPart_pre h1 hp (by rw [List.take_take, Nat.min_eq_left (by omega)]))]
      exact ih h2 (by omega) (by omega)
theorem readRest_is {bs : List Nat} {op : Int} {p q : Nat} {y : Ins} (h : readRest bs op p = (y, q, 0)) : ∃ qs, pat op = some (some qs) ∧ readParts bs qs p { zeroIns with op := op } = (y, q, 0) := by
  unfold readRest at h
  cases hp : pat op with
  | none => rw [hp] at h; simp at h
  | some o =>
    rw [hp] at h
    cases o with
    | none => simp at h
    | some qs => exact ⟨qs, rfl, h⟩
theorem readRest_mk {bs : List Nat} {op : Int} {p : Nat} {qs : List Part} (h : pat op = some (some qs)) : readRest bs op p = readParts bs qs p { zeroIns with op := op } := by
  unfold readRest
  rw [h]
/-- An instruction that was read: how its code stands there. -/
theorem oneRes_is {bs : List Nat} {p q : Nat} {y : Ins} (h : oneRes bs p = (y, q, 0)) : p < bs.length ∧ ((bs.getD p 0 = 252 ∧ ∃ n s, uRes (bs.drop (p + 1)) 32 = (n, s, 0) ∧ n ≤ 255 ∧ readRest bs (256 + (n : Int)) (p + 1 + s) = (y, q, 0)) ∨ (bs.getD p 0 ≠ 252 ∧ readRest bs (bs.getD p 0 : Int) (p + 1) = (y, q, 0))) := by
  unfold oneRes at h
  by_cases h0 : bs.length ≤ p
  · rw [if_pos h0] at h; simp at h
  rw [if_neg h0] at h
  refine ⟨by omega, ?_⟩
  by_cases h1 : bs.getD p 0 = 252
  · rw [if_pos h1] at h
    generalize hg : uRes (bs.drop (p + 1)) 32 = g at h
    obtain ⟨n, s, e⟩ := g
    simp only at h
    by_cases he : e = 0
    · subst he
      rw [if_neg (by simp)] at h
      by_cases hn : 255 < n
      · rw [if_pos hn] at h; simp at h
      · rw [if_neg hn] at h
        exact .inl ⟨h1, n, s, rfl, by omega, h⟩
    · rw [if_pos he] at h
      simp only [Prod.mk.injEq] at h
      exact absurd h.2.2 he
  · rw [if_neg h1] at h
    exact .inr ⟨h1, h⟩
theorem oneRes_ext {bs : List Nat} {p n s : Nat} (hp : p < bs.length) (h1 : bs.getD p 0 = 252) (h2 : uRes (bs.drop (p + 1)) 32 = (n, s, 0)) (h3 : n ≤ 255) : oneRes bs p = readRest bs (256 + (n : Int)) (p + 1 + s) := by
  unfold oneRes
  rw [if_neg (by omega), if_pos h1, h2]
  simp only [ne_eq, not_true_eq_false, if_false]
  rw [if_neg (by omega)]
theorem oneRes_byte {bs : List Nat} {p : Nat} (hp : p < bs.length) (h1 : bs.getD p 0 ≠ 252) : oneRes bs p = readRest bs (bs.getD p 0 : Int) (p + 1) := by
  unfold oneRes
  rw [if_neg (by omega), if_neg h1]
theorem oneRes_le {bs : List Nat} {p q : Nat} {y : Ins} (h : oneRes bs p = (y, q, 0)) : p < q ∧ q ≤ bs.length := by
  obtain ⟨hp, ⟨_, n, s, h2, _, h4⟩ | ⟨_, h4⟩⟩ := oneRes_is h
  · obtain ⟨qs, _, h5⟩ := readRest_is h4
    have h6 := uRes_le h2
    have h7 := drop_len bs (p + 1) s (by omega) h6.2
    have := readParts_le h5 h7
    omega
  · obtain ⟨qs, _, h5⟩ := readRest_is h4
    have := readParts_le h5 (by omega)
    omega
theorem one_pre {bs bs' : List Nat} {p q : Nat} {y : Ins} (h : oneRes bs p = (y, q, 0)) (ht : bs.take q = bs'.take q) : oneRes bs' p = (y, q, 0) := by
  have hle := oneRes_le h
  have hl' := take_len ht hle.2
  have hg := getD_pre ht p (by omega)
  obtain ⟨hp, ⟨h1, n, s, h2, h3, h4⟩ | ⟨h1, h4⟩⟩ := oneRes_is h
  · obtain ⟨qs, h6, h5⟩ := readRest_is h4
    have h7 := uRes_le h2
    have h8 := drop_len bs (p + 1) s (by omega) h7.2
    have h9 := readParts_le h5 h8
    rw [oneRes_ext (by omega) (by rw [← hg]; exact h1) (uRes_pre (by omega) h2 (drop_take_pre ht (p + 1) s (by omega))) h3, readRest_mk h6]
    exact readParts_pre h5 h8 ht
  · obtain ⟨qs, h6, h5⟩ := readRest_is h4
    rw [oneRes_byte (by omega) (by rw [← hg]; exact h1), ← hg, readRest_mk h6]
    exact readParts_pre h5 (by omega) ht
theorem one_cut {bs : List Nat} {p q : Nat} {y : Ins} (h : oneRes bs p = (y, q, 0)) (k : Nat) (hpk : p ≤ k) (hk : k < q) : oneRes (bs.take k) p = (zeroIns, 0, 1) := by
  have hle := oneRes_le h
  have hlk : (bs.take k).length = k := by rw [List.length_take]; omega
  by_cases hpe : k = p
  · unfold oneRes
    rw [if_pos (by omega)]
  have hg : (bs.take k).getD p 0 = bs.getD p 0 := by simp [List.getD, show p < k by omega]
  have hd : (bs.take k).drop (p + 1) = (bs.drop (p + 1)).take (k - (p + 1)) := List.drop_take ..
  obtain ⟨hp, ⟨h1, n, s, h2, h3, h4⟩ | ⟨h1, h4⟩⟩ := oneRes_is h
  · obtain ⟨qs, h6, h5⟩ := readRest_is h4
    have h7 := uRes_le h2
    have h8 := drop_len bs (p + 1) s (by omega) h7.2
    by_cases hs : k - (p + 1) < s
    · unfold oneRes
      rw [if_neg (by omega), if_pos (by rw [hg]; exact h1), hd, uRes_cut h2 (k - (p + 1)) hs]
      simp
    · have e : uRes ((bs.take k).drop (p + 1)) 32 = (n, s, 0) := by rw [hd]; exact uRes_pre (by omega) h2 (by rw [List.take_take, Nat.min_eq_left (by omega)])
      rw [oneRes_ext (by omega) (by rw [hg]; exact h1) e h3, readRest_mk h6]
      exact readParts_cut h5 h8 k (by omega) hk
  · obtain ⟨qs, h6, h5⟩ := readRest_is h4
    rw [oneRes_byte (by omega) (by rw [hg]; exact h1), hg, readRest_mk h6]
    exact readParts_cut h5 (by omega) k (by omega) hk
/-- A body that was read: its first instruction, and the others. -/
theorem bodyF_is {bs : List Nat} {f n p q : Nat} {st : List Nat} {l : List Ins} (h : bodyF bs (f + 1) n st p = (l, q, 0)) : ∃ x m, oneRes bs p = (x, m, 0) ∧ n ≠ 2000 ∧ ((blocks x.op st = (0, none) ∧ l = [x] ∧ q = m) ∨ ∃ e st' xs, blocks x.op st = (e, some st') ∧ bodyF bs f (n + 1) st' m = (xs, q, 0) ∧ l = x :: xs) := by
  simp only [bodyF] at h
  by_cases he : (oneRes bs p).2.2 = 0
  · have h1 := eta3 he
    generalize (oneRes bs p).1 = x at h h1
    generalize (oneRes bs p).2.1 = m at h h1
    rw [if_neg (by omega)] at h
    by_cases hn : n = 2000
    · rw [if_pos hn] at h; simp at h
    · rw [if_neg hn] at h
      refine ⟨x, m, h1, hn, ?_⟩
      generalize hb : blocks x.op st = g at h
      obtain ⟨e, o⟩ := g
      cases o with
      | none =>
        simp only at h
        by_cases h2 : e = 0
        · subst h2
          rw [if_pos rfl] at h
          simp only [Prod.mk.injEq] at h
          exact .inl ⟨rfl, h.1.symm, h.2.1.symm⟩
        · rw [if_neg h2] at h
          simp only [Prod.mk.injEq] at h
          exact absurd h.2.2 h2
      | some st' =>
        simp only at h
        by_cases h2 : (bodyF bs f (n + 1) st' m).2.2 = 0
        · rw [if_pos h2] at h
          simp only [Prod.mk.injEq] at h
          refine .inr ⟨e, st', (bodyF bs f (n + 1) st' m).1, rfl, ?_, h.1.symm⟩
          rw [← h.2.1]
          exact eta3 h2
        · rw [if_neg h2] at h
          simp only [Prod.mk.injEq] at h
          exact absurd h.2.2 h2
  · rw [if_pos he] at h
    simp only [Prod.mk.injEq] at h
    exact absurd h.2.2 he
theorem body_cut {bs : List Nat} {f g n p q : Nat} {st : List Nat} {l : List Ins} (h : bodyF bs f n st p = (l, q, 0)) (hn : n ≤ 2000) (k : Nat) (hpk : p ≤ k) (hk : k < q) : bodyF (bs.take k) g n st p = ([], 0, 1) := by
  induction g generalizing f n p st l with
  | zero => rfl
  | succ g ih =>
    cases f with
    | zero => simp [bodyF] at h
    | succ f =>
      obtain ⟨x, m, h1, h2, h3⟩ := bodyF_is h
      have hm := oneRes_le h1
      by_cases hkm : k < m
      · simp only [bodyF]
        rw [one_cut h1 k hpk hkm]
        simp
      · have e := one_pre h1 (bs' := bs.take k) (by rw [List.take_take, Nat.min_eq_left (by omega)])
        rw [bodyF_step _ g n p m st x e (by omega)]
        rcases h3 with ⟨_, _, rfl⟩ | ⟨er, st', xs, hb, h4, _⟩
        · omega
        · rw [hb]
          simp only
          rw [ih h4 (by omega) (by omega)]
          simp
theorem bodyRes_cut {bs : List Nat} {l : List Ins} {q : Nat} (h : bodyRes bs = (l, q, 0)) (k : Nat) (hk : k < q) : bodyRes (bs.take k) = ([], 0, 1) := body_cut h (by omega) k (by omega) hk
end Go.Proofs.Ytlbbnnljclndkaa.Ins
namespace Go.Proofs.Ytlbbnnljclndkaa.Ins
open Go.RowKit Leb Typ

theorem uTaken {l : List Nat} {u s : Nat} (h : uRes l 32 = (u, s, 0)) : (putU u).length ≤ s ∧ u < 4294967296 := by
  obtain ⟨h1, _⟩ := uRes_is h
  obtain ⟨_, h3, rfl, h5⟩ := gath_is h1
  have h6 := uRes_32 l (by rw [h])
  rw [h] at h6
  refine ⟨?_, h6.1⟩
  have hv : u < 128 ^ (lead l + 1) := by
    rw [h5]
    unfold gv
    have := val_lt (l.take (lead l + 1))
    rw [List.length_take, Nat.min_eq_left (by omega)] at this
    exact Nat.lt_of_le_of_lt (Nat.mod_le _ _) this
  exact putUf_least 9 u _ (by omega) hv
/-- A signed number that was read: what its bytes are worth. -/
theorem sTaken {l : List Nat} {n s : Nat} {v : Int} (h10 : most n ≤ 10) (h : sRes l n = (v, s, 0)) : s = lead l + 1 ∧ s ≤ most n ∧ s ≤ l.length ∧ v = ext (val (l.take s) % big : Nat) ((s : Int) * 7) ∧ val (l.take s) < 128 ^ s ∧ (putS v).length ≤ s ∧ ¬ (s = most n ∧ csB (l.getD (most n - 1) 0 : Nat) (inl n : Nat) = false) := by
  obtain ⟨u, h1, h2, h3⟩ := sRes_is h
  obtain ⟨h4, h5, rfl, h7⟩ := gath_is h1
  have hv := val_lt (l.take (lead l + 1))
  rw [List.length_take, Nat.min_eq_left (by omega)] at hv
  unfold gv at h7
  subst h7
  have hf := ext_fits (lead l + 1) (val (l.take (lead l + 1))) (by omega) (by omega) hv
  refine ⟨rfl, by omega, by omega, ?_, hv, ?_, h2⟩
  · rw [h3]
  · rw [h3]
    exact putSf_least 9 _ _ (by omega) hf
theorem sTaken_small {l : List Nat} {n s : Nat} {v : Int} (hn : most n = 5) (h : sRes l n = (v, s, 0)) (hs : s < 5) : -134217728 ≤ v ∧ v < 134217728 := by
  obtain ⟨h1, h2, h3, h4, h5, _, _⟩ := sTaken (by omega) h
  have hf := ext_fits s (val (l.take s)) (by omega) (by omega) h5
  rw [← h4] at hf
  have : s = 1 ∨ s = 2 ∨ s = 3 ∨ s = 4 := by omega
  rcases this with rfl | rfl | rfl | rfl
  · have e : (64 : Int) * 128 ^ (1 - 1) = 64 := by decide
    rw [e] at hf; omega
  · have e : (64 : Int) * 128 ^ (2 - 1) = 8192 := by decide
    rw [e] at hf; omega
  · have e : (64 : Int) * 128 ^ (3 - 1) = 1048576 := by decide
    rw [e] at hf; omega
  · have e : (64 : Int) * 128 ^ (4 - 1) = 134217728 := by decide
    rw [e] at hf; omega
/-- Five bytes: the last one, and what the first four are worth. -/
theorem sTaken_five {l : List Nat} {n : Nat} {v : Int} (hn : most n = 5) (h : sRes l n = (v, 5, 0)) : ∃ x y : Nat, x < 128 ∧ y < 268435456 ∧ l.getD 4 0 = x ∧ csB (x : Nat) (inl n : Nat) = true ∧ v = if y + x * 268435456 < 17179869184 then ((y + x * 268435456 : Nat) : Int) else ((y + x * 268435456 : Nat) : Int) - 34359738368 := by
  obtain ⟨h1, h2, h3, h4, h5, _, h7⟩ := sTaken (by omega) h
  have hl4 : lead l = 4 := by omega
  have hx : l[4]'(by omega) < 128 := by
    have := lead_lt l (by omega)
    simp only [hl4] at this
    exact this
  have hd : l.getD 4 0 = l[4]'(by omega) := by simp [List.getD, List.getElem?_eq_getElem (show 4 < l.length by omega)]
  have hv4 := val_lt (l.take 4)
  rw [List.length_take, Nat.min_eq_left (by omega)] at hv4
  have hvt := val_take l 4 (by omega)
  rw [Nat.mod_eq_of_lt hx] at hvt
  have e28 : (2 : Nat) ^ (7 * 4) = 268435456 := by decide
  have e4 : (128 : Nat) ^ 4 = 268435456 := by decide
  have e5 : (128 : Nat) ^ 5 = 34359738368 := by decide
  rw [e28] at hvt
  rw [e4] at hv4
  refine ⟨l[4]'(by omega), val (l.take 4), hx, hv4, hd, ?_, ?_⟩
  · rw [hn, ← hd] at *
    have h8 : ¬ csB (l.getD 4 0 : Nat) (inl n : Nat) = false := fun h => h7 ⟨rfl, h⟩
    simpa using h8
  · rw [h4]
    have hb : val (l.take 5) % big = val (l.take 5) := Nat.mod_eq_of_lt (by unfold big; omega)
    rw [hb, ext_val 5 (val (l.take 5)) (by omega) (by omega) h5, hvt]
    have e6 : (64 : Nat) * 128 ^ (5 - 1) = 17179869184 := by decide
    have e7 : ((128 : Int)) ^ 5 = 34359738368 := by decide
    rw [e6, e7]
theorem csB_32 (x : Nat) (hx : x < 128) (h : csB (x : Nat) (inl 32 : Nat) = true) : x < 8 ∨ 120 ≤ x := by
  have hi : inl 32 = 4 := by decide
  rw [hi] at h
  unfold csB at h
  simp only [Bool.or_eq_true, beq_iff_eq] at h
  have e : ((4 : Nat) : Int).toNat - 1 = 3 := by decide
  rw [e] at h
  have e2 : (2 : Int) ^ 3 = 8 := by decide
  rw [e2] at h
  omega
theorem csB_33 (x : Nat) (hx : x < 128) (h : csB (x : Nat) (inl 33 : Nat) = true) : x < 16 ∨ 112 ≤ x := by
  have hi : inl 33 = 5 := by decide
  rw [hi] at h
  unfold csB at h
  simp only [Bool.or_eq_true, beq_iff_eq] at h
  have e : ((5 : Nat) : Int).toNat - 1 = 4 := by decide
  rw [e] at h
  have e2 : (2 : Int) ^ 4 = 16 := by decide
  rw [e2] at h
  omega
theorem sTaken_32 {l : List Nat} {s : Nat} {v : Int} (h : sRes l 32 = (v, s, 0)) : -2147483648 ≤ v ∧ v ≤ 2147483647 := by
  have hm : most 32 = 5 := by decide
  obtain ⟨_, h2, _, _⟩ := sTaken (by omega) h
  by_cases hs : s < 5
  · have := sTaken_small hm h hs
    omega
  · obtain rfl : s = 5 := by omega
    obtain ⟨x, y, hx, hy, _, hc, rfl⟩ := sTaken_five hm h
    have := csB_32 x hx hc
    split <;> omega
theorem sTaken_33 {l : List Nat} {s : Nat} {v : Int} (h : sRes l 33 = (v, s, 0)) : -4294967296 ≤ v ∧ v ≤ 4294967295 := by
  have hm : most 33 = 5 := by decide
  obtain ⟨_, h2, _, _⟩ := sTaken (by omega) h
  by_cases hs : s < 5
  · have := sTaken_small hm h hs
    omega
  · obtain rfl : s = 5 := by omega
    obtain ⟨x, y, hx, hy, _, hc, rfl⟩ := sTaken_five hm h
    have := csB_33 x hx hc
    split <;> omega
theorem sTaken_64 {l : List Nat} {s : Nat} {v : Int} (h : sRes l 64 = (v, s, 0)) : -9223372036854775808 ≤ v ∧ v ≤ 9223372036854775807 := by
  have hm : most 64 = 10 := by decide
  obtain ⟨h1, h2, _, h4, h5, _, _⟩ := sTaken (by omega) h
  by_cases hs : s < 10
  · have hf := ext_fits s (val (l.take s)) (by omega) (by omega) h5
    rw [← h4] at hf
    have hp : (128 : Nat) ^ (s - 1) ≤ 128 ^ 8 := Nat.pow_le_pow_right (by omega) (by omega)
    have hp2 : (128 : Int) ^ (s - 1) ≤ 72057594037927936 := by
      have e : (128 : Nat) ^ 8 = 72057594037927936 := by decide
      have e2 : (128 : Int) ^ (s - 1) = ((128 ^ (s - 1) : Nat) : Int) := by rw [Int.natCast_pow]; rfl
      rw [e] at hp
      rw [e2]
      omega
    omega
  · obtain rfl : s = 10 := by omega
    rw [h4]
    have := ext_ten (val (l.take 10) % big)
    rw [this]
    unfold wrap64
    omega
theorem valOf_0 (x : Nat) (h : (Typ.valOf x).2 = 0) : x = 127 ∨ x = 126 := by
  rcases valOf_cases x with h1 | h1 | h1
  · exact h1.2
  · rw [h1] at h; simp at h
  · rw [h1] at h; simp at h
theorem blockTaken {l : List Nat} {t : Int} {s : Nat} (h : blockRes l = (t, s, 0)) : rightBlock t = true ∧ (putS t).length ≤ s := by
  obtain ⟨h0, ⟨rfl, ⟨_, rfl⟩ | ⟨_, h2, rfl⟩⟩ | ⟨_, _, _, h4, h5⟩⟩ := blockRes_is h
  · exact ⟨by decide, by decide⟩
  · rcases valOf_0 _ h2 with e | e
    · rw [e]; exact ⟨by decide, by decide⟩
    · rw [e]; exact ⟨by decide, by decide⟩
  · have h6 := sTaken_33 h4
    obtain ⟨_, _, _, _, _, h7, _⟩ := sTaken (by decide) h4
    exact ⟨by unfold rightBlock; exact decide_eq_true (.inr (.inr (.inr ⟨h5, h6.2⟩))), h7⟩
theorem labelsTaken {bs : List Nat} {n p q : Nat} {xs : List Int} (h : readLabels bs n p = (xs, q, 0)) : xs.length = n ∧ (∀ x ∈ xs, fitsU x) ∧ p + (labelBytes xs).length ≤ q := by
  induction n generalizing p xs with
  | zero =>
    simp only [readLabels, Prod.mk.injEq] at h
    obtain ⟨rfl, rfl, _⟩ := h
    simp [labelBytes]
  | succ n ih =>
    obtain ⟨u, s, ys, h1, h2, rfl⟩ := readLabels_is h
    obtain ⟨i1, i2, i3⟩ := ih h2
    obtain ⟨u1, u2⟩ := uTaken h1
    have e : labelBytes ((u : Int) :: ys) = putU u ++ labelBytes ys := by simp [labelBytes]
    refine ⟨by simp [i1], ?_, ?_⟩
    · intro x hx
      rcases List.mem_cons.1 hx with rfl | hx
      · unfold fitsU; omega
      · exact i2 x hx
    · rw [e, List.length_append]; omega
/-- Which field a part is. -/
def fld : Part → Nat
  | .t => 0
  | .a => 0
  | .b => 1
  | .l => 2
  | .k => 3
  | .kk => 3
  | .z => 4
/-- A part that was read fits, and put again it is no longer; what else there was has stayed. -/
theorem partTaken {bs : List Nat} {p q : Nat} {x y : Ins} {r : Part} (h : readPart bs p x r = (y, q, 0)) : partFits y r ∧ p + (partBytes y r).length ≤ q ∧ setPart y x r = y ∧ y.op = x.op := by
  cases r with
  | t =>
    simp only [readPart, Prod.mk.injEq] at h
    have := blockTaken (eta3 h.2.2)
    obtain ⟨rfl, rfl, _⟩ := h
    exact ⟨this.1, Nat.add_le_add_left this.2 _, rfl, rfl⟩
  | a =>
    simp only [readPart, Prod.mk.injEq] at h
    have := uTaken (eta3 h.2.2)
    obtain ⟨rfl, rfl, _⟩ := h
    exact ⟨⟨Int.natCast_nonneg _, by show ((uRes (bs.drop p) 32).1 : Int) ≤ 4294967295; omega⟩, Nat.add_le_add_left this.1 _, rfl, rfl⟩
  | b =>
    simp only [readPart, Prod.mk.injEq] at h
    have := uTaken (eta3 h.2.2)
    obtain ⟨rfl, rfl, _⟩ := h
    exact ⟨⟨Int.natCast_nonneg _, by show ((uRes (bs.drop p) 32).1 : Int) ≤ 4294967295; omega⟩, Nat.add_le_add_left this.1 _, rfl, rfl⟩
  | l =>
    obtain ⟨n, s, h1, h2, xs, h3, rfl⟩ := readPart_l_is h
    obtain ⟨l1, l2, l3⟩ := labelsTaken h3
    obtain ⟨u1, _⟩ := uTaken h1
    refine ⟨⟨by simp only [l1]; exact h2, l2⟩, ?_, rfl, rfl⟩
    simp only [partBytes, List.length_append, l1]
    omega
  | k =>
    simp only [readPart, Prod.mk.injEq] at h
    have h1 := sTaken_32 (eta3 h.2.2)
    obtain ⟨_, _, _, _, _, h7, _⟩ := sTaken (by decide) (eta3 h.2.2)
    obtain ⟨rfl, rfl, _⟩ := h
    exact ⟨h1, Nat.add_le_add_left h7 _, rfl, rfl⟩
  | kk =>
    simp only [readPart, Prod.mk.injEq] at h
    have h1 := sTaken_64 (eta3 h.2.2)
    obtain ⟨_, _, _, _, _, h7, _⟩ := sTaken (by decide) (eta3 h.2.2)
    obtain ⟨rfl, rfl, _⟩ := h
    exact ⟨h1, Nat.add_le_add_left h7 _, rfl, rfl⟩
  | z =>
    simp only [readPart, Prod.mk.injEq] at h
    obtain ⟨rfl, rfl, _⟩ := h
    exact ⟨trivial, by simp [partBytes], rfl, rfl⟩
/-- Parts of other fields stay as they were. -/
theorem part_stays {bs : List Nat} {p q : Nat} {x y : Ins} {r r' : Part} (h : readPart bs p x r' = (y, q, 0)) (hr : fld r ≠ fld r' ∨ r = .z) : (partFits x r → partFits y r) ∧ partBytes y r = partBytes x r ∧ ∀ z, setPart y z r = setPart x z r := by
  obtain ⟨_, _, hs, _⟩ := partTaken h
  clear h
  have e1 := congrArg Ins.a hs
  have e2 := congrArg Ins.b hs
  have e3 := congrArg Ins.k hs
  have e4 := congrArg Ins.l hs
  clear hs
  cases r <;> cases r' <;> simp_all [fld, setPart, partFits, partBytes]
theorem parts_stay {bs : List Nat} {rs : List Part} {p q : Nat} {x y : Ins} {r : Part} (h : readParts bs rs p x = (y, q, 0)) (hr : ∀ r' ∈ rs, fld r ≠ fld r' ∨ r = .z) : (partFits x r → partFits y r) ∧ partBytes y r = partBytes x r ∧ ∀ z, setPart y z r = setPart x z r := by
  induction rs generalizing p x with
  | nil =>
    simp only [readParts, Prod.mk.injEq] at h
    obtain ⟨rfl, _⟩ := h
    exact ⟨id, rfl, fun _ => rfl⟩
  | cons r1 rs ih =>
    obtain ⟨z, m, h1, h2⟩ := readParts_is h
    obtain ⟨a1, a2, a3⟩ := part_stays (r := r) h1 (hr r1 (by simp))
    obtain ⟨b1, b2, b3⟩ := ih h2 (fun r' h' => hr r' (by simp [h']))
    exact ⟨fun h => b1 (a1 h), b2.trans a2, fun u => (b3 u).trans (a3 u)⟩
theorem partsTaken {bs : List Nat} {rs : List Part} {p q : Nat} {x y : Ins} (h : readParts bs rs p x = (y, q, 0)) (hp : rs.Pairwise fun r r' => fld r ≠ fld r' ∨ r = .z) : (∀ r ∈ rs, partFits y r) ∧ p + (rs.flatMap (partBytes y)).length ≤ q ∧ setParts y rs x = y ∧ y.op = x.op := by
  induction rs generalizing p x with
  | nil =>
    simp only [readParts, Prod.mk.injEq] at h
    obtain ⟨rfl, rfl, _⟩ := h
    simp [setParts]
  | cons r rs ih =>
    obtain ⟨z, m, h1, h2⟩ := readParts_is h
    obtain ⟨hp1, hp2⟩ := List.pairwise_cons.1 hp
    obtain ⟨a1, a2, a3, a4⟩ := partTaken h1
    obtain ⟨b1, b2, b3, b4⟩ := ih h2 hp2
    obtain ⟨c1, c2, c3⟩ := parts_stay h2 hp1
    refine ⟨?_, ?_, ?_, b4.trans a4⟩
    · intro r' hr'
      rcases List.mem_cons.1 hr' with rfl | hr'
      · exact c1 a1
      · exact b1 r' hr'
    · rw [List.flatMap_cons, List.length_append, c2]; omega
    · show setParts y rs (setPart y x r) = y
      rw [c3 x, a3]
      exact b3
theorem named_apart (op : Int) (qs : List Part) (h : named op = some qs) : qs.Pairwise fun r r' => fld r ≠ fld r' ∨ r = .z := by
  unfold named at h
  repeat' split at h
  all_goals first
    | (simp only [Option.some.injEq] at h; subst h; simp [fld])
    | (exfalso; simp at h)
theorem pat_apart (op : Int) (qs : List Part) (h : pat op = some (some qs)) : qs.Pairwise fun r r' => fld r ≠ fld r' ∨ r = .z := by
  unfold pat at h
  cases hn : named op with
  | some p =>
    rw [hn] at h
    simp only [Option.some.injEq] at h
    subst h
    exact named_apart op p hn
  | none =>
    rw [hn] at h
    simp only at h
    by_cases h1 : wideOp op = true
    · rw [if_pos h1] at h; simp at h
    · rw [if_neg h1] at h
      by_cases h2 : accOp op = true
      · rw [if_pos h2] at h
        simp only [Option.some.injEq] at h
        subst h
        simp [fld]
      · rw [if_neg h2] at h
        by_cases h3 : numOp op = true
        · rw [if_pos h3] at h
          simp only [Option.some.injEq] at h
          subst h
          simp
        · rw [if_neg h3] at h; simp at h
theorem restTaken {bs : List Nat} {op : Int} {p q : Nat} {x : Ins} (h : readRest bs op p = (x, q, 0)) : x.op = op ∧ formedI x ∧ p + ((insBytes x).length - (headBytes op).length) ≤ q ∧ 0 ≤ op ∧ op ≤ 270 ∧ op ≠ 252 := by
  obtain ⟨qs, h1, h2⟩ := readRest_is h
  obtain ⟨a1, a2, a3, a4⟩ := partsTaken h2 (pat_apart op qs h1)
  have ho : x.op = op := a4
  have hr := pat_range op qs h1
  refine ⟨ho, ⟨qs, by rw [ho]; exact h1, a1, by rw [ho]; exact a3⟩, ?_, hr⟩
  have hi : insBytes x = headBytes op ++ qs.flatMap (partBytes x) := by unfold insBytes; rw [ho, h1]; rfl
  rw [hi, List.length_append]
  omega
theorem insBytes_head (x : Ins) : (headBytes x.op).length ≤ (insBytes x).length := by
  unfold insBytes
  rw [List.length_append]
  omega
theorem oneTaken {bs : List Nat} {p q : Nat} {x : Ins} (hby : ∀ y ∈ bs, y < 256) (h : oneRes bs p = (x, q, 0)) : formedI x ∧ p + (insBytes x).length ≤ q := by
  obtain ⟨hp, ⟨h1, n, s, h2, h3, h4⟩ | ⟨h1, h4⟩⟩ := oneRes_is h
  · obtain ⟨a1, a2, a3, a4, a5, a6⟩ := restTaken h4
    have hu := (uTaken h2).1
    have hh : (headBytes (256 + (n : Int))).length = 1 + (putU n).length := by
      unfold headBytes
      rw [if_pos (by omega), show (256 + (n : Int) - 256).toNat = n from by omega]
      simp
      omega
    have hb := insBytes_head x
    rw [a1] at hb
    exact ⟨a2, by omega⟩
  · obtain ⟨a1, a2, a3, a4, a5, a6⟩ := restTaken h4
    have hb := insBytes_head x
    rw [a1] at hb
    refine ⟨a2, ?_⟩
    have hlt : bs.getD p 0 < 256 := by
      have e : bs.getD p 0 = bs[p] := by simp [List.getD, List.getElem?_eq_getElem hp]
      rw [e]
      exact hby _ (List.getElem_mem hp)
    have hc : ¬ 256 ≤ (bs.getD p 0 : Int) := by omega
    have hh : (headBytes (bs.getD p 0 : Int)).length = 1 := by
      unfold headBytes
      rw [if_neg hc]
      rfl
    omega
theorem bodyTaken {bs : List Nat} {f n p q : Nat} {st : List Nat} {l : List Ins} (hby : ∀ y ∈ bs, y < 256) (h : bodyF bs f n st p = (l, q, 0)) (hn : n ≤ 2000) : closedF n st l ∧ p + (allBytes l).length ≤ q := by
  induction f generalizing n p st l with
  | zero => simp [bodyF] at h
  | succ f ih =>
    obtain ⟨x, m, h1, h2, h3⟩ := bodyF_is h
    obtain ⟨a1, a2⟩ := oneTaken hby h1
    rcases h3 with ⟨hb, rfl, rfl⟩ | ⟨e, st', xs, hb, h4, rfl⟩
    · refine ⟨?_, by simp [allBytes]; omega⟩
      simp only [closedF]
      rw [hb]
      exact ⟨a1, by omega, rfl, trivial⟩
    · obtain ⟨b1, b2⟩ := ih h4 (by omega)
      refine ⟨?_, ?_⟩
      · simp only [closedF]
        rw [hb]
        exact ⟨a1, by omega, b1⟩
      · simp only [allBytes, List.flatMap_cons, List.length_append] at b2 ⊢
        omega
theorem bodyRes_taken {bs : List Nat} {l : List Ins} {q : Nat} (hby : ∀ y ∈ bs, y < 256) (h : bodyRes bs = (l, q, 0)) : closedI l ∧ (allBytes l).length ≤ q ∧ l.length ≤ q := by
  obtain ⟨h1, h2⟩ := bodyTaken hby h (by omega)
  have := allBytes_len l
  exact ⟨h1, by omega, by omega⟩
/-- What may be put is just what is read out of its own bytes. -/
theorem formed_iff (x : Ins) (hby : ∀ y ∈ insBytes x, y < 256) : formedI x ↔ ∃ q, oneRes (insBytes x) 0 = (x, q, 0) := by
  constructor
  · intro h
    have := one_put [] [] x h
    simp at this
    exact ⟨_, this⟩
  · rintro ⟨q, h⟩
    exact (oneTaken hby h).1
end Go.Proofs.Ytlbbnnljclndkaa.Ins
namespace Go.Proofs.Ytlbbnnljclndkaa.Ins
open Go.RowKit Leb Typ

instance (x : Ins) (r : Part) : Decidable (partFits x r) := by cases r <;> (unfold partFits; infer_instance)
/-- formedI and closedI, as Bools. -/
def formedB (x : Ins) : Bool :=
  match pat x.op with
  | some (some qs) => decide ((∀ r ∈ qs, partFits x r) ∧ setParts x qs { zeroIns with op := x.op } = x)
  | _ => false
theorem formedB_iff (x : Ins) : formedB x = true ↔ formedI x := by
  unfold formedB formedI
  generalize pat x.op = g
  match g with
  | some (some qs) =>
    simp only [decide_eq_true_eq]
    constructor
    · intro h; exact ⟨qs, rfl, h⟩
    · rintro ⟨qs', h1, h2⟩
      obtain rfl : qs = qs' := by simpa using h1
      exact h2
  | some none => simp
  | none => simp
def closedB : Nat → List Nat → List Ins → Bool
  | _, _, [] => false
  | n, st, x :: l => formedB x && decide (n < 2000) &&
    match blocks x.op st with
    | (e, none) => decide (e = 0) && l.isEmpty
    | (_, some st') => closedB (n + 1) st' l
theorem closedB_iff (n : Nat) (st : List Nat) (l : List Ins) : closedB n st l = true ↔ closedF n st l := by
  induction l generalizing n st with
  | nil => simp [closedB, closedF]
  | cons x l ih =>
    simp only [closedB, closedF, Bool.and_eq_true, formedB_iff, decide_eq_true_eq, and_assoc]
    refine and_congr_right fun _ => and_congr_right fun _ => ?_
    generalize blocks x.op st = g
    match g with
    | (e, none) => simp
    | (e, some st') => exact ih _ _
def shutB (l : List Ins) : Bool := closedB 0 [] l
theorem shutB_iff (l : List Ins) : shutB l = true ↔ closedI l := closedB_iff 0 [] l
/-- Numbers of 64 bits throughout. -/
def wide (x : Ins) : Prop := I64 x.op ∧ I64 x.a ∧ I64 x.b ∧ I64 x.k ∧ ∀ n ∈ x.l, I64 n
/-- An instruction as a value. -/
def InsV (w : World) (v : Value) (x : Ins) : Prop :=
  ∃ A c, v = .agg #[.int .i64 x.op, .int .i64 x.a, .int .i64 x.b, .int .i64 x.k, .slice A x.l.length c] ∧ Ints w w.heap.size A x.l ∧ x.l.length ≤ c ∧ (A = none → c = 0)
theorem InsV.below {w w' : World} {v : Value} {x : Ins} (h : InsV w v x) (hb : Below w.heap.size w w') : InsV w' v x := by
  obtain ⟨A, c, rfl, h1, h2, h3⟩ := h
  exact ⟨A, c, rfl, (h1.below hb).more hb.size, h2, h3⟩
/-- The five cells of an instruction. -/
def InsAt (w : World) (B b off : Nat) (x : Ins) : Prop :=
  ∃ A c, w.cell? ⟨b, off, none⟩ = some (.int .i64 x.op) ∧ w.cell? ⟨b, off + 1, none⟩ = some (.int .i64 x.a) ∧ w.cell? ⟨b, off + 2, none⟩ = some (.int .i64 x.b) ∧ w.cell? ⟨b, off + 3, none⟩ = some (.int .i64 x.k) ∧
    w.cell? ⟨b, off + 4, none⟩ = some (.slice A x.l.length c) ∧ Ints w B A x.l ∧ x.l.length ≤ c ∧ (A = none → c = 0)
theorem InsAt.below {w w' : World} {B b off : Nat} {x : Ins} (h : InsAt w B b off x) (hb : Below B w w') (hlt : b < B) : InsAt w' B b off x := by
  obtain ⟨A, c, h1, h2, h3, h4, h5, h6, h7, h8⟩ := h
  have C : ∀ p : Addr, p.block = b → w'.cell? p = w.cell? p := fun p hp => hb.cell (by omega)
  exact ⟨A, c, (C _ rfl).trans h1, (C _ rfl).trans h2, (C _ rfl).trans h3, (C _ rfl).trans h4, (C _ rfl).trans h5, h6.below hb, h7, h8⟩
theorem InsAt.more {w : World} {B B' b off : Nat} {x : Ins} (h : InsAt w B b off x) (hB : B ≤ B') : InsAt w B' b off x := by
  obtain ⟨A, c, h1, h2, h3, h4, h5, h6, h7, h8⟩ := h
  exact ⟨A, c, h1, h2, h3, h4, h5, h6.more hB, h7, h8⟩
/-- Instructions that a slice leads to: five cells each, in a block below B. -/
def Inss (w : World) (B : Nat) (A : Option Addr) (xs : List Ins) : Prop :=
  0 < xs.length → ∃ b off, A = some ⟨b, off, none⟩ ∧ b < B ∧ ∀ (j : Nat) (h : j < xs.length), InsAt w B b (off + j * 5) xs[j]
theorem Inss.below {w w' : World} {B : Nat} {A : Option Addr} {xs : List Ins} (h : Inss w B A xs) (hb : Below B w w') : Inss w' B A xs := by
  intro hl
  obtain ⟨b, off, e, hB, hc⟩ := h hl
  exact ⟨b, off, e, hB, fun j hj => (hc j hj).below hb hB⟩
theorem Inss.more {w : World} {B B' : Nat} {A : Option Addr} {xs : List Ins} (h : Inss w B A xs) (hB : B ≤ B') : Inss w B' A xs := by
  intro hl
  obtain ⟨b, off, e, hb, hc⟩ := h hl
  exact ⟨b, off, e, by omega, fun j hj => (hc j hj).more hB⟩
theorem Inss.nil (w : World) (B : Nat) (A : Option Addr) : Inss w B A [] := fun h => absurd h (by simp)
/-- A slice of instructions: where it leads, how much room it has. -/
structure Sli (w : World) (A : Option Addr) (c : Nat) (xs : List Ins) : Prop where
  ins : Inss w w.heap.size A xs
  nil : A = none → c = 0
  room : xs.length ≤ c
theorem Sli.below {w w' : World} {A : Option Addr} {c : Nat} {xs : List Ins} (h : Sli w A c xs) (hb : Below w.heap.size w w') : Sli w' A c xs := ⟨(h.ins.below hb).more hb.size, h.nil, h.room⟩
/-- What One answers; what Body answers. -/
def One3 (w : World) (r : Ins × Nat × Nat) (e : Ending) (w' : World) : Prop :=
  ∃ v, e = .returned (.tuple #[v, .int .i64 (r.2.1 : Int), .int .i64 (r.2.2 : Int)]) ∧ InsV w' v r.1 ∧ Below w.heap.size w w'
def Body3 (w : World) (r : List Ins × Nat × Nat) (e : Ending) (w' : World) : Prop :=
  ∃ A c, e = .returned (.tuple #[.slice A r.1.length c, .int .i64 (r.2.1 : Int), .int .i64 (r.2.2 : Int)]) ∧ Sli w' A c r.1 ∧ Below w.heap.size w w'
def Tells (w : World) (b : Bool) (e : Ending) (w' : World) : Prop := e = .returned (.bool b) ∧ Below w.heap.size w w'
/-- Instructions that are not too long for a look. -/
def short (xs : List Ins) : Prop := xs.length ≤ 3100 ∧ ∀ x ∈ xs, wide x ∧ x.l.length ≤ 3100
theorem wide_setPart (x y : Ins) (r : Part) (h : partFits x r) (hy : wide y ∧ y.l.length ≤ 64) : wide (setPart x y r) ∧ (setPart x y r).l.length ≤ 64 := by
  obtain ⟨⟨h1, h2, h3, h4, h5⟩, h6⟩ := hy
  have fit : ∀ n, fitsU n → I64 n := fun n hn => by unfold fitsU at hn; unfold I64; omega
  cases r with
  | t => exact ⟨⟨h1, (by have := of_decide_eq_true h; simp only [setPart]; unfold I64; omega), h3, h4, h5⟩, h6⟩
  | a => exact ⟨⟨h1, fit _ h, h3, h4, h5⟩, h6⟩
  | b => exact ⟨⟨h1, h2, fit _ h, h4, h5⟩, h6⟩
  | l => exact ⟨⟨h1, h2, h3, h4, fun n hn => fit n (h.2 n hn)⟩, h.1⟩
  | k => exact ⟨⟨h1, h2, h3, (by simp only [partFits] at h; simp only [setPart]; unfold I64; omega), h5⟩, h6⟩
  | kk => exact ⟨⟨h1, h2, h3, h, h5⟩, h6⟩
  | z => exact ⟨⟨h1, h2, h3, h4, h5⟩, h6⟩
theorem wide_setParts (x : Ins) (qs : List Part) (y : Ins) (h : ∀ r ∈ qs, partFits x r) (hy : wide y ∧ y.l.length ≤ 64) : wide (setParts x qs y) ∧ (setParts x qs y).l.length ≤ 64 := by
  induction qs generalizing y with
  | nil => exact hy
  | cons q qs ih => exact ih (setPart x y q) (fun r hr => h r (by simp [hr])) (wide_setPart x y q (h q (by simp)) hy)
theorem formed_wide (x : Ins) (h : formedI x) : wide x ∧ x.l.length ≤ 64 := by
  obtain ⟨qs, h1, h2, h3⟩ := h
  have hr := pat_range _ _ h1
  have := wide_setParts x qs { zeroIns with op := x.op } h2 ⟨⟨by unfold I64; simp only; omega, by simp [zeroIns, I64], by simp [zeroIns, I64], by simp [zeroIns, I64], by simp [zeroIns]⟩, by simp [zeroIns]⟩
  rw [h3] at this
  exact this
theorem closed_short (n : Nat) (st : List Nat) (l : List Ins) (h : closedF n st l) : n + l.length ≤ 2000 ∧ ∀ x ∈ l, formedI x := by
  induction l generalizing n st with
  | nil => exact absurd h (by simp [closedF])
  | cons x l ih =>
    simp only [closedF] at h
    obtain ⟨h1, h2, h3⟩ := h
    have key : (l = [] ∨ (n + 1 + l.length ≤ 2000 ∧ ∀ y ∈ l, formedI y)) := by
      generalize blocks x.op st = g at h3
      match g, h3 with
      | (e, none), h3 => exact .inl h3.2
      | (e, some st'), h3 => exact .inr (ih _ _ h3)
    rcases key with rfl | ⟨h4, h5⟩
    · exact ⟨by simp; omega, fun y hy => by rw [List.mem_singleton.1 hy]; exact h1⟩
    · refine ⟨by simp; omega, fun y hy => ?_⟩
      rcases List.mem_cons.1 hy with rfl | hy
      · exact h1
      · exact h5 y hy
theorem closed_is_short (l : List Ins) (h : closedI l) : short l := by
  obtain ⟨h1, h2⟩ := closed_short 0 [] l h
  exact ⟨by omega, fun x hx => by have := formed_wide x (h2 x hx); exact ⟨this.1, by omega⟩⟩
theorem Slc.cutTo {w : World} {A : Option Addr} {c : Nat} {l : List Nat} (h : Slc w A c l) (k : Nat) : Slc w A c (l.take k) := by
  refine ⟨⟨fun x hx => h.bytes.1 x (List.mem_of_mem_take hx), fun hl => ?_⟩, h.nil, by have := h.room; simp; omega⟩
  obtain ⟨b, off, e, hb, hc⟩ := h.bytes.2 (by simp at hl; omega)
  refine ⟨b, off, e, hb, fun j hj => ?_⟩
  rw [hc j (by simp at hj; omega)]
  simp
theorem body_le {bs : List Nat} {f n p q : Nat} {st : List Nat} {l : List Ins} (h : bodyF bs f n st p = (l, q, 0)) : p ≤ q ∧ q ≤ bs.length := by
  induction f generalizing n p st l with
  | zero => simp [bodyF] at h
  | succ f ih =>
    obtain ⟨x, m, h1, _, h2⟩ := bodyF_is h
    have := oneRes_le h1
    rcases h2 with ⟨_, _, rfl⟩ | ⟨e, st', xs, _, h3, _⟩
    · omega
    · have := ih h3; omega
theorem bodyRes_le {bs : List Nat} {l : List Ins} {q : Nat} (h : bodyRes bs = (l, q, 0)) : q ≤ bs.length := (body_le h).2
theorem body_err (bs : List Nat) (f n p : Nat) (st : List Nat) (h : (bodyF bs f n st p).2.2 ≠ 0) : (bodyF bs f n st p).1 = [] ∧ (bodyF bs f n st p).2.1 = 0 := by
  cases f with
  | zero => exact ⟨rfl, rfl⟩
  | succ f =>
    simp only [bodyF] at h ⊢
    split
    · exact ⟨rfl, rfl⟩
    · rename_i h1
      rw [if_neg h1] at h
      split
      · exact ⟨rfl, rfl⟩
      · rename_i h2
        rw [if_neg h2] at h
        generalize blocks (oneRes bs p).1.op st = g at h ⊢
        match g, h with
        | (e, none), h =>
          simp only at h ⊢
          split
          · rename_i h3; rw [if_pos h3] at h; exact absurd rfl h
          · exact ⟨rfl, rfl⟩
        | (e, some st'), h =>
          simp only at h ⊢
          split
          · rename_i h3; rw [if_pos h3] at h; exact absurd rfl h
          · exact ⟨rfl, rfl⟩
theorem bodyRes_err (bs : List Nat) (h : (bodyRes bs).2.2 ≠ 0) : (bodyRes bs).1 = [] ∧ (bodyRes bs).2.1 = 0 := body_err _ _ _ _ _ h
theorem put_get {w : World} {l : List Nat} {k er : Nat} {e : Ending} {w' : World} (h : PutIs w l k er e w') : ∃ A c, e = .returned (.tuple #[.slice A k c, .int .i64 (er : Int)]) ∧ Own w' w.heap.size (.slice A k c) l ∧ Bytes w' w'.heap.size A l ∧ (A = none → c = 0) ∧ k ≤ c ∧ Below w.heap.size w w' := h
theorem labelBytes_byte (l : List Int) : ∀ y ∈ labelBytes l, y < 256 := by
  intro y hy
  unfold labelBytes at hy
  obtain ⟨n, _, hn⟩ := List.mem_flatMap.1 hy
  exact putU_lt _ y hn
theorem labelBytes_len (l : List Int) : (labelBytes l).length ≤ 10 * l.length := by
  induction l with
  | nil => simp [labelBytes]
  | cons n l ih =>
    have e : labelBytes (n :: l) = putU n.toNat ++ labelBytes l := by simp [labelBytes]
    have := (putU_len n.toNat).2
    rw [e, List.length_append, List.length_cons]
    omega
theorem partBytes_byte (x : Ins) (r : Part) : ∀ y ∈ partBytes x r, y < 256 := by
  intro y hy
  cases r with
  | t => exact putS_lt _ y hy
  | a => exact putU_lt _ y hy
  | b => exact putU_lt _ y hy
  | l => exact (List.mem_append.1 hy).elim (putU_lt _ y) (labelBytes_byte _ y)
  | k => exact putS_lt _ y hy
  | kk => exact putS_lt _ y hy
  | z => have : y = 0 := by simpa [partBytes] using hy
         omega
theorem putS_length (n : Int) : (putS n).length ≤ 10 := (putSf_len 9 n).2
theorem partBytes_len (x : Ins) (r : Part) (h : partFits x r) : (partBytes x r).length ≤ 650 := by
  cases r with
  | t => have := putS_length x.a; simp only [partBytes]; omega
  | a => have := (putU_len x.a.toNat).2; simp only [partBytes]; omega
  | b => have := (putU_len x.b.toNat).2; simp only [partBytes]; omega
  | l =>
    have h1 := (putU_len x.l.length).2
    have h2 := labelBytes_len x.l
    have h3 := h.1
    simp only [partBytes, List.length_append]
    omega
  | k => have := putS_length x.k; simp only [partBytes]; omega
  | kk => have := putS_length x.k; simp only [partBytes]; omega
  | z => simp [partBytes]
theorem named_len (op : Int) (qs : List Part) (h : named op = some qs) : qs.length ≤ 2 := by
  unfold named at h
  repeat' split at h
  all_goals first
    | (simp only [Option.some.injEq] at h; subst h; simp)
    | (exfalso; simp at h)
theorem pat_len (op : Int) (qs : List Part) (h : pat op = some (some qs)) : qs.length ≤ 2 := by
  unfold pat at h
  cases hn : named op with
  | some p =>
    rw [hn] at h
    simp only [Option.some.injEq] at h
    subst h
    exact named_len op p hn
  | none =>
    rw [hn] at h
    simp only at h
    by_cases h1 : wideOp op = true
    · rw [if_pos h1] at h; simp at h
    · rw [if_neg h1] at h
      by_cases h2 : accOp op = true
      · rw [if_pos h2] at h
        simp only [Option.some.injEq] at h
        subst h
        simp
      · rw [if_neg h2] at h
        by_cases h3 : numOp op = true
        · rw [if_pos h3] at h
          simp only [Option.some.injEq] at h
          subst h
          simp
        · rw [if_neg h3] at h; simp at h
theorem parts_len (x : Ins) (qs : List Part) (h : ∀ r ∈ qs, partFits x r) : (qs.flatMap (partBytes x)).length ≤ 650 * qs.length := by
  induction qs with
  | nil => simp
  | cons q qs ih =>
    have h1 := partBytes_len x q (h q (by simp))
    have h2 := ih (fun r hr => h r (by simp [hr]))
    rw [List.flatMap_cons, List.length_append, List.length_cons]
    omega
/-- The bytes of an instruction that may be put. -/
theorem formed_bytes (x : Ins) (h : formedI x) : (∀ y ∈ insBytes x, y < 256) ∧ (insBytes x).length ≤ 1400 := by
  obtain ⟨qs, h1, h2, h3⟩ := h
  have hr := pat_range _ _ h1
  have hl := pat_len _ _ h1
  have hi : insBytes x = headBytes x.op ++ qs.flatMap (partBytes x) := by unfold insBytes; rw [h1]; rfl
  rw [hi]
  constructor
  · intro y hy
    rcases List.mem_append.1 hy with hy | hy
    · unfold headBytes at hy
      split at hy
      · rcases List.mem_cons.1 hy with rfl | hy
        · omega
        · exact putU_lt _ y hy
      · have : y = x.op.toNat := by simpa using hy
        omega
    · obtain ⟨r, _, hyr⟩ := List.mem_flatMap.1 hy
      exact partBytes_byte x r y hyr
  · have hp := parts_len x qs h2
    have hh : (headBytes x.op).length ≤ 11 := by
      unfold headBytes
      split
      · have := (putU_len (x.op - 256).toNat).2; simp; omega
      · simp
    rw [List.length_append]
    have : 650 * qs.length ≤ 1300 := by omega
    omega
theorem all_bytes (l : List Ins) (h : ∀ x ∈ l, formedI x) : (∀ y ∈ allBytes l, y < 256) ∧ (allBytes l).length ≤ 1400 * l.length := by
  induction l with
  | nil => simp [allBytes]
  | cons x l ih =>
    have e : allBytes (x :: l) = insBytes x ++ allBytes l := by simp [allBytes]
    have h1 := formed_bytes x (h x (by simp))
    have h2 := ih (fun y hy => h y (by simp [hy]))
    rw [e]
    refine ⟨fun y hy => (List.mem_append.1 hy).elim (h1.1 y) (h2.1 y), ?_⟩
    rw [List.length_append, List.length_cons]
    have := h1.2
    have := h2.2
    omega
theorem closed_bytes (l : List Ins) (h : closedI l) : (∀ y ∈ allBytes l, y < 256) ∧ (allBytes l).length ≤ 2800000 := by
  obtain ⟨h1, h2⟩ := closed_short 0 [] l h
  have h3 := all_bytes l h2
  exact ⟨h3.1, by have := h3.2; omega⟩
theorem oneRes_put (x : Ins) (more : List Nat) (h : formedI x) : oneRes (insBytes x ++ more) 0 = (x, (insBytes x).length, 0) := by
  have := one_put [] more x h
  simpa using this
theorem slc_none (w : World) : Slc w none 0 [] := ⟨⟨by simp, by simp⟩, fun _ => rfl, Nat.le_refl _⟩
end Go.Proofs.Ytlbbnnljclndkaa.Ins
namespace Go.Proofs.Ytlbbnnljclndkaa.Ins
open Go.RowKit Leb Typ

/-- An instruction with the place of its labels, and their room; its cells; where its labels are. -/
abbrev Ent : Type := Ins × Option Addr × Nat
def el (e : Ent) : List Value := [.int .i64 e.1.op, .int .i64 e.1.a, .int .i64 e.1.b, .int .i64 e.1.k, .slice e.2.1 e.1.l.length e.2.2]
def lab (w : World) (B : Nat) (e : Ent) : Prop := Ints w B e.2.1 e.1.l ∧ e.1.l.length ≤ e.2.2 ∧ (e.2.1 = none → e.2.2 = 0)
theorem lab.below {w w' : World} {B : Nat} {e : Ent} (h : lab w B e) (hb : Below B w w') : lab w' B e := ⟨h.1.below hb, h.2.1, h.2.2⟩
theorem lab.more {w : World} {B B' : Nat} {e : Ent} (h : lab w B e) (hB : B ≤ B') : lab w B' e := ⟨h.1.more hB, h.2.1, h.2.2⟩
theorem el_len (e : Ent) : (el e).length = 5 := rfl
/-- Their cells, one behind the other. -/
def els (es : List Ent) : List Value := es.flatMap el
theorem els_len (es : List Ent) : (els es).length = es.length * 5 := by
  induction es with
  | nil => rfl
  | cons e es ih => simp only [els, List.flatMap_cons, List.length_append, el_len, List.length_cons] at ih ⊢; omega
theorem els_app (es es' : List Ent) : els (es ++ es') = els es ++ els es' := by simp [els]
theorem els_at (es : List Ent) (j i : Nat) (hj : j < es.length) (hi : i < 5) : (els es)[j * 5 + i]? = some ((el es[j])[i]'(by rw [el_len]; exact hi)) := by
  induction es generalizing j with
  | nil => simp at hj
  | cons e es ih =>
    have e1 : els (e :: es) = el e ++ els es := by simp [els]
    rw [e1]
    cases j with
    | zero =>
      rw [Nat.zero_mul, Nat.zero_add, List.getElem?_append_left (by rw [el_len]; exact hi), List.getElem?_eq_getElem]
      rfl
    | succ j =>
      rw [List.getElem?_append_right (by rw [el_len]; omega), el_len, show (j + 1) * 5 + i - 5 = j * 5 + i from by omega, ih j (by simpa using hj)]
      rfl
theorem el_one (e : Ent) : ∀ u ∈ el e, u.oneCell' = true := by
  intro u hu
  simp only [el, List.mem_cons, List.not_mem_nil, or_false] at hu
  rcases hu with rfl | rfl | rfl | rfl | rfl <;> rfl
theorem els_one (es : List Ent) : ∀ u ∈ els es, u.oneCell' = true := by
  intro u hu
  obtain ⟨e, _, he⟩ := List.mem_flatMap.1 hu
  exact el_one e u he
/-- Cells of instructions in memory. -/
def RowE (w : World) (B : Nat) (A : Option Addr) (es : List Ent) : Prop :=
  0 < es.length → ∃ b off, A = some ⟨b, off, none⟩ ∧ b < B ∧ ∀ (j : Nat) (h : j < es.length) (i : Nat) (hi : i < 5), w.cell? ⟨b, off + j * 5 + i, none⟩ = some ((el es[j])[i]'(by rw [el_len]; exact hi))
theorem RowE.below {w w' : World} {B : Nat} {A : Option Addr} {es : List Ent} (h : RowE w B A es) (hb : Below B w w') : RowE w' B A es := by
  intro hl
  obtain ⟨b, off, e, hB, hc⟩ := h hl
  exact ⟨b, off, e, hB, fun j hj i hi => (hb.cell hB).trans (hc j hj i hi)⟩
theorem RowE.more {w : World} {B B' : Nat} {A : Option Addr} {es : List Ent} (h : RowE w B A es) (hB : B ≤ B') : RowE w B' A es := by
  intro hl
  obtain ⟨b, off, e, hb, hc⟩ := h hl
  exact ⟨b, off, e, by omega, hc⟩
theorem RowE.take {w : World} {B : Nat} {A : Option Addr} {es : List Ent} (h : RowE w B A es) (p : Nat) : RowE w B A (es.take p) := by
  intro hl
  obtain ⟨b, off, e, hB, hc⟩ := h (by simp at hl; omega)
  refine ⟨b, off, e, hB, fun j hj i hi => ?_⟩
  rw [hc j (by simp at hj; omega) i hi]
  simp
theorem RowE.drop {w : World} {B b off : Nat} {es : List Ent} (h : RowE w B (some ⟨b, off, none⟩) es) (p : Nat) : RowE w B (some ⟨b, off + p * 5, none⟩) (es.drop p) := by
  intro hl
  obtain ⟨b', off', e, hB, hc⟩ := h (by simp at hl; omega)
  injection e with e
  injection e with e1 e2 _
  subst e1 e2
  refine ⟨b, off + p * 5, rfl, hB, fun j hj i hi => ?_⟩
  have hj' : p + j < es.length := by simp at hj; omega
  have := hc (p + j) hj' i hi
  rw [show off + p * 5 + j * 5 + i = off + (p + j) * 5 + i from by omega, this]
  simp
theorem at_ents {w : World} {B b off : Nat} (xs : List Ins) (h : ∀ (j : Nat) (h : j < xs.length), InsAt w B b (off + j * 5) xs[j]) :
    ∃ es : List Ent, es.map (fun e => e.1) = xs ∧ (∀ (j : Nat) (h : j < es.length) (i : Nat) (hi : i < 5), w.cell? ⟨b, off + j * 5 + i, none⟩ = some ((el es[j])[i]'(by rw [el_len]; exact hi))) ∧ ∀ e ∈ es, lab w B e := by
  induction xs generalizing off with
  | nil => exact ⟨[], rfl, by simp, by simp⟩
  | cons x xs ih =>
    obtain ⟨es, h1, h2, h3⟩ := ih (off := off + 5) (fun j hj => by
      have := h (j + 1) (by simpa using hj)
      rw [show off + 5 + j * 5 = off + (j + 1) * 5 from by omega]
      simpa using this)
    obtain ⟨A, c, q0, q1, q2, q3, q4, q5, q6, q7⟩ := h 0 (by simp)
    rw [Nat.zero_mul, Nat.add_zero] at q0 q1 q2 q3 q4
    refine ⟨(x, A, c) :: es, by simp [h1], fun j hj i hi => ?_, fun e he => ?_⟩
    · cases j with
      | zero =>
        rw [Nat.zero_mul, Nat.add_zero]
        match i, hi with
        | 0, _ => exact q0
        | 1, _ => exact q1
        | 2, _ => exact q2
        | 3, _ => exact q3
        | 4, _ => exact q4
      | succ j =>
        have := h2 j (by simpa using hj) i hi
        rw [show off + (j + 1) * 5 + i = off + 5 + j * 5 + i from by omega, this]
        rfl
    · rcases List.mem_cons.1 he with rfl | he
      · exact ⟨q5, q6, q7⟩
      · exact h3 e he
theorem Inss.ents {w : World} {B : Nat} {A : Option Addr} {xs : List Ins} (h : Inss w B A xs) : ∃ es : List Ent, es.map (fun e => e.1) = xs ∧ RowE w B A es ∧ ∀ e ∈ es, lab w B e := by
  rcases Nat.eq_zero_or_pos xs.length with h0 | h0
  · have : xs = [] := List.eq_nil_of_length_eq_zero h0
    subst this
    exact ⟨[], rfl, fun h => absurd h (by simp), by simp⟩
  · obtain ⟨b, off, rfl, hB, hc⟩ := h h0
    obtain ⟨es, h1, h2, h3⟩ := at_ents xs hc
    exact ⟨es, h1, fun _ => ⟨b, off, rfl, hB, h2⟩, h3⟩
theorem inss_of {w : World} {B : Nat} {A : Option Addr} {es : List Ent} (h : RowE w B A es) (hl : ∀ e ∈ es, lab w B e) : Inss w B A (es.map fun e => e.1) := by
  intro h0
  obtain ⟨b, off, rfl, hB, hc⟩ := h (by simpa using h0)
  refine ⟨b, off, rfl, hB, fun j hj => ?_⟩
  have hj' : j < es.length := by simpa using hj
  obtain ⟨l1, l2, l3⟩ := hl _ (List.getElem_mem hj')
  have q0 := hc j hj' 0 (by omega)
  have q1 := hc j hj' 1 (by omega)
  have q2 := hc j hj' 2 (by omega)
  have q3 := hc j hj' 3 (by omega)
  have q4 := hc j hj' 4 (by omega)
  rw [List.getElem_map]
  exact ⟨es[j].2.1, es[j].2.2, q0, q1, q2, q3, q4, l1, l2, l3⟩
/-- The slice value v owns the instructions es, in a block from 'base' on. -/
def OwnX (w : World) (base : Nat) (v : Value) (es : List Ent) : Prop := w.ownsRow base 81 5 v es.length (els es)
theorem OwnX.lt {w : World} {base : Nat} {v : Value} {es : List Ent} (h : OwnX w base v es) : ∀ k, v.ownBlock = some k → k < w.heap.size := fun k hk => (World.ownsRow.lt h k hk).2
theorem OwnX.alloc {w : World} {base : Nat} {v : Value} {es : List Ent} (h : OwnX w base v es) (o : Obj) : OwnX (w.alloc o) base v es := World.ownsRow.alloc h o
theorem OwnX.nil (w : World) (base : Nat) : OwnX w base (.slice none 0 0) [] := World.ownsRow_nil _ _ _ _
theorem OwnX.keep {w w' : World} {base B : Nat} {v : Value} {es : List Ent} (h : OwnX w base v es) (hb : Below B w w') (hB : ∀ k, v.ownBlock = some k → k < B) : OwnX w' base v es := by
  refine ⟨h.1, ?_⟩
  rcases h.2 with ⟨rfl, h0⟩ | ⟨g, cap, cur, rfl, h1, h2, h3, h4, h5⟩
  · exact .inl ⟨rfl, h0⟩
  · exact .inr ⟨g, cap, cur, rfl, h1, (hb.block g (hB g rfl)).trans h2, h3, h4, h5⟩
theorem OwnX.row {w : World} {base : Nat} {v : Value} {es : List Ent} (h : OwnX w base v es) :
    ∃ A cap, v = .slice A es.length cap ∧ RowE w w.heap.size A es ∧ es.length ≤ cap ∧ (A = none → cap = 0) := by
  have hlt := h.lt
  rcases h.2 with ⟨rfl, h0⟩ | ⟨g, cap, cur, rfl, h1, h2, h3, h4, h5⟩
  · refine ⟨none, 0, by rw [h0], fun h => by omega, by omega, fun _ => rfl⟩
  · refine ⟨some ⟨g, 0, none⟩, cap, rfl, fun _ => ⟨g, 0, rfl, hlt g rfl, fun j hj i hi => ?_⟩, h3, fun h => by cases h⟩
    have hc := World.ownsRow.cellAt h (j * 5 + i) (by omega)
    rw [show 0 + j * 5 + i = j * 5 + i from by omega, hc, els_at es j i hj hi]
theorem ownX_lit (w : World) (es : List Ent) (vs : Array Value) (n : Nat) (hv : vs = (els es).toArray) (hn : es.length = n) (hm : n ≤ maxLen) : OwnX (w.alloc (.cells vs 81)) w.heap.size (.slice (some ⟨w.heap.size, 0, none⟩) n n) es := by
  subst hv hn
  have := World.ownsRow_lit (e := 81) (size := 5) (base := w.heap.size) w (els es).toArray es.length (Nat.le_refl _) hm (by simp [els_len])
  simpa [OwnX] using this
theorem rowE_lit (w : World) (es : List Ent) (vs : Array Value) (n : Nat) (hv : vs = (els es).toArray) (hn : es.length = n) (hm : n ≤ maxLen) : RowE (w.alloc (.cells vs 81)) (w.heap.size + 1) (some ⟨w.heap.size, 0, none⟩) es := by
  obtain ⟨A, cap, hA, h, _, _⟩ := (ownX_lit w es vs n hv hn hm).row
  injection hA with hA _ _
  subst hA
  simpa using h
theorem ins_info : (Try.prog.info? 81).map (fun i => (i.zero, i.size, i.bytes)) = some (some (.agg #[.int .i64 0, .int .i64 0, .int .i64 0, .int .i64 0, .slice none 0 0]), 5, 56) := by kernel_rfl
theorem belowX_own {w w' : World} {base : Nat} {v : Value} {es : List Ent} (h : OwnX w base v es) (hb : base ≤ w.heap.size) (hg : w.grownBy w' v.ownBlock) : Below base w w' :=
  (Below.refl _ _).grown hg hb (fun k hk => (World.ownsRow.lt h k hk).1)
theorem ents_cells {w : World} {B : Nat} {b off : Nat} {es : List Ent} (h : RowE w B (some ⟨b, off, none⟩) es) : ∀ j u, (els es)[j]? = some u → w.cell? (Addr.add ⟨b, off, none⟩ j) = some u := by
  intro j u hu
  have hj : j < (els es).length := by
    rcases Nat.lt_or_ge j (els es).length with hj | hj
    · exact hj
    · rw [List.getElem?_eq_none hj] at hu; cases hu
  rw [els_len] at hj
  obtain ⟨b', off', e, _, hc⟩ := h (by omega)
  injection e with e
  injection e with e1 e2 _
  subst e1 e2
  have hq := hc (j / 5) (by omega) (j % 5) (Nat.mod_lt _ (by omega))
  rw [show off + j / 5 * 5 + j % 5 = off + j from by omega] at hq
  have hs := els_at es (j / 5) (j % 5) (by omega) (Nat.mod_lt _ (by omega))
  rw [show j / 5 * 5 + j % 5 = j from by omega, hu] at hs
  injection hs with hs
  rw [hs]
  by_cases h0 : j = 0
  · subst h0; simpa [Addr.add] using hq
  · simpa [Addr.add, h0] using hq
section
variable {w : World} {ops : Array Oper} {rest : List Oper} {o : Oper} {a : Act} {Q : Exit → Act → World → Prop}
set_option maxRecDepth 100000 in
/-- 'append(s, x...)': s is owned, x leads to instructions. -/
theorem app_ins (hgd : o.guard = none) (s x : Operand) (ho : o.op = .call { callee := .builtin .append, args := #[s, x], argTypes := #[47, 47] })
    (base : Nat) (v : Value) (es : List Ent) (hs : a.eval s = v) (hown : OwnX w base v es) (b off : Nat) (es' : List Ent) (m c B k : Nat) (hm : es'.length = m) (hx : a.eval x = .slice (some ⟨b, off, none⟩) m c) (hr : RowE w B (some ⟨b, off, none⟩) es')
    (hk : (es ++ es').length = k) (hlen : k ≤ 1000000) (hbase : base ≤ w.heap.size)
    (h : ∀ A' c' w', OwnX w' base (.slice A' k c') (es ++ es') → RowE w' w'.heap.size A' (es ++ es') → k ≤ c' → (A' = none → c' = 0) → Below base w w' → wpList Try.prog ops Q rest (a.put o.dst (.slice A' k c')) w') : wpList Try.prog ops Q (o :: rest) a w := by
  obtain ⟨i0, hi0, hz0, hz1, hz2⟩ := info_parts ins_info
  subst hm hk
  simp only [List.length_append] at hlen
  refine wpList_append_own_at w hgd s x _ ho base 81 i0 _ 5 56 Try.underlying47 hi0 hz0 hz1 hz2 rfl (by omega) v es.length (els es) hs hown ⟨b, off, none⟩ es'.length c (els es') hx (els_len es') (ents_cells hr) (els_one es') (by simp only [maxLen]; omega) (by omega) hbase ?_
  intro v' w' h1 h2 _ _
  have ho' : OwnX w' base v' (es ++ es') := by
    unfold OwnX
    rw [List.length_append, els_app]
    exact h1
  obtain ⟨A', c', rfl, h3, h4, h5⟩ := ho'.row
  exact h A' c' w' ho' h3 h4 h5 (belowX_own hown hbase h2)
end
set_option maxRecDepth 100000 in
/-- The same, as a step of a drawn region. -/
theorem app_ins_step {w : World} {ops : Array Oper} {o : Oper} {a : Act} {K : Act → World → Prop} {Q : Exit → Act → World → Prop} {E : Prop} (hg : o.guard = none) (s x : Operand) (ho : o.op = .call { callee := .builtin .append, args := #[s, x], argTypes := #[47, 47] })
    (base : Nat) (v : Value) (es : List Ent) (hs : a.eval s = v) (hown : OwnX w base v es) (b off : Nat) (es' : List Ent) (m c B k : Nat) (hm : es'.length = m) (hx : a.eval x = .slice (some ⟨b, off, none⟩) m c) (hr : RowE w B (some ⟨b, off, none⟩) es')
    (hk : (es ++ es').length = k) (hlen : k ≤ 1000000) (hbase : base ≤ w.heap.size)
    (h : ∀ A' c' w', OwnX w' base (.slice A' k c') (es ++ es') → RowE w' w'.heap.size A' (es ++ es') → k ≤ c' → (A' = none → c' = 0) → Below base w w' → w.grownBy w' v.ownBlock → K (a.put o.dst (.slice A' k c')) w') :
    if Region.wanted o (yielded ops a.tmps) = true then Oper.wp Try.prog o a w K Q else E := by
  have hw : Region.wanted o (yielded ops a.tmps) = true := by simp [Region.wanted, hg]
  rw [if_pos hw]
  obtain ⟨i0, hi0, hz0, hz1, hz2⟩ := info_parts ins_info
  subst hm hk
  simp only [List.length_append] at hlen
  refine wp_append_own w s x _ ho base 81 i0 _ 5 56 Try.underlying47 hi0 hz0 hz1 hz2 rfl (by omega) v es.length (els es) hs hown ⟨b, off, none⟩ es'.length c (els es') hx (els_len es') (ents_cells hr) (els_one es') (by simp only [maxLen]; omega) (by omega) hbase ?_
  intro v' w' h1 h2 _
  have ho' : OwnX w' base v' (es ++ es') := by
    unfold OwnX
    rw [List.length_append, els_app]
    exact h1
  obtain ⟨A', c', rfl, h3, h4, h5⟩ := ho'.row
  exact h A' c' w' ho' h3 h4 h5 (belowX_own hown hbase h2) h2
end Go.Proofs.Ytlbbnnljclndkaa.Ins
namespace Go.Proofs.Ytlbbnnljclndkaa.Ins
open Go.RowKit Leb Typ

/-- What two values own is apart. -/
def Apart (v v' : Value) : Prop := ∀ b, v.ownBlock = some b → v'.ownBlock ≠ some b
def slV (e : Ent) : Value := .slice e.2.1 e.1.l.length e.2.2
theorem rowSame {w w' : World} {base e size n : Nat} {v : Value} {xs : List Value} (h : w.ownsRow base e size v n xs) (hb : ∀ b, v.ownBlock = some b → w'.heap[b]? = w.heap[b]?) : w'.ownsRow base e size v n xs := by
  refine ⟨h.1, ?_⟩
  rcases h.2 with ⟨rfl, h0⟩ | ⟨g, cap, cur, rfl, h1, h2, h3, h4, h5⟩
  · exact .inl ⟨rfl, h0⟩
  · exact .inr ⟨g, cap, cur, rfl, h1, (hb g rfl).trans h2, h3, h4, h5⟩
theorem rowFrom {w : World} {base base' e size n : Nat} {v : Value} {xs : List Value} (h : w.ownsRow base e size v n xs) (hb : base' ≤ base) : w.ownsRow base' e size v n xs := by
  refine ⟨h.1, ?_⟩
  rcases h.2 with ⟨rfl, h0⟩ | ⟨g, cap, cur, rfl, h1, h2, h3, h4, h5⟩
  · exact .inl ⟨rfl, h0⟩
  · exact .inr ⟨g, cap, cur, rfl, Nat.le_trans hb h1, h2, h3, h4, h5⟩
theorem apart_new {W : World} {base e size n : Nat} {v v' : Value} {xs : List Value} (h : W.ownsRow base e size v n xs) (hn : ∀ b, v'.ownBlock = some b → W.heap.size ≤ b) : Apart v v' ∧ Apart v' v := by
  refine ⟨fun b hb e => ?_, fun b hb e => ?_⟩
  · have := (World.ownsRow.lt h b hb).2; have := hn b e; omega
  · have := (World.ownsRow.lt h b e).2; have := hn b hb; omega
theorem apart_next {W : World} {base e size n : Nat} {u v v' : Value} {xs : List Value} (h : Apart u v) (hu : W.ownsRow base e size u n xs) (hv : v'.ownBlock = v.ownBlock ∨ v'.ownBlock = some W.heap.size) : Apart u v' := by
  rcases hv with e | e
  · intro b hb; rw [e]; exact h b hb
  · refine (apart_new hu fun b hb => ?_).1
    rw [e] at hb
    injection hb with hb
    omega
/-- The list under way. -/
structure LS (w W : World) (lv : Value) (es : List Ent) : Prop where
  below : Below w.heap.size w W
  own : OwnX W w.heap.size lv es
  labs : ∀ e ∈ es, OwnI W w.heap.size (slV e) e.1.l
  offs : ∀ e ∈ es, Apart (slV e) lv
theorem ls_nil (w : World) : LS w w (.slice none 0 0) [] := ⟨Below.refl _ _, OwnX.nil _ _, by simp, by simp⟩
theorem LS.keep {w W W' : World} {lv : Value} {es : List Ent} (h : LS w W lv es) (hb : Below W.heap.size W W') : LS w W' lv es :=
  ⟨h.below.trans (hb.mono h.below.size), rowSame h.own fun b e => hb.block b (World.ownsRow.lt h.own b e).2, fun e he => rowSame (h.labs e he) fun b e' => hb.block b (World.ownsRow.lt (h.labs e he) b e').2, h.offs⟩
theorem LS.more {w W W' : World} {lv : Value} {es : List Ent} (h : LS w W lv es) {e : Ent} {A' : Option Addr} {m c' : Nat} (hbe : OwnI W w.heap.size (slV e) e.1.l) (hev : Apart (slV e) lv) (ho : OwnX W' w.heap.size (.slice A' m c') (es ++ [e])) (hg : W.grownBy W' lv.ownBlock) (hb' : (Value.slice A' m c').ownBlock = lv.ownBlock ∨ (Value.slice A' m c').ownBlock = some W.heap.size) : LS w W' (.slice A' m c') (es ++ [e]) := by
  have hall : ∀ e' ∈ es ++ [e], OwnI W w.heap.size (slV e') e'.1.l ∧ Apart (slV e') lv := by
    intro e' he
    rcases List.mem_append.1 he with he | he
    · exact ⟨h.labs e' he, h.offs e' he⟩
    · rw [List.mem_singleton.1 he]; exact ⟨hbe, hev⟩
  exact ⟨h.below.grown hg h.below.size (fun i hi => (World.ownsRow.lt h.own i hi).1), ho, fun e' he => rowSame (hall e' he).1 fun b e2 => hg.block b (World.ownsRow.lt (hall e' he).1 b e2).2 (fun e3 => (hall e' he).2 b e2 e3.symm), fun e' he => apart_next (hall e' he).2 (hall e' he).1 hb'⟩
theorem LS.sli {w W : World} {lv : Value} {es : List Ent} (h : LS w W lv es) : ∃ A c, lv = .slice A es.length c ∧ Sli W A c (es.map fun e => e.1) := by
  obtain ⟨A, c, rfl, h1, h2, h3⟩ := h.own.row
  refine ⟨A, c, rfl, inss_of h1 fun e he => ?_, h3, by simpa using h2⟩
  obtain ⟨A', c', e1, h4, h5, h6⟩ := (h.labs e he).ints
  simp only [slV, Value.slice.injEq] at e1
  obtain ⟨e2, _, e3⟩ := e1
  exact ⟨by rw [e2]; exact h4, by rw [e3]; exact h5, by rw [e2, e3]; exact h6⟩
set_option maxRecDepth 100000 in
theorem app_insG {w : World} {ops : Array Oper} {rest : List Oper} {o : Oper} {a : Act} {Q : Exit → Act → World → Prop} (hgd : o.guard = none) (s x : Operand) (ho : o.op = .call { callee := .builtin .append, args := #[s, x], argTypes := #[47, 47] })
    (base : Nat) (v : Value) (es : List Ent) (hs : a.eval s = v) (hown : OwnX w base v es) (b off : Nat) (es' : List Ent) (m c B k : Nat) (hm : es'.length = m) (hx : a.eval x = .slice (some ⟨b, off, none⟩) m c) (hr : RowE w B (some ⟨b, off, none⟩) es')
    (hk : (es ++ es').length = k) (hlen : k ≤ 1000000) (hbase : base ≤ w.heap.size)
    (h : ∀ A' c' w', OwnX w' base (.slice A' k c') (es ++ es') → w.grownBy w' v.ownBlock → ((Value.slice A' k c').ownBlock = v.ownBlock ∨ (Value.slice A' k c').ownBlock = some w.heap.size) → wpList Try.prog ops Q rest (a.put o.dst (.slice A' k c')) w') : wpList Try.prog ops Q (o :: rest) a w := by
  obtain ⟨i0, hi0, hz0, hz1, hz2⟩ := info_parts ins_info
  subst hm hk
  simp only [List.length_append] at hlen
  refine wpList_append_own_at w hgd s x _ ho base 81 i0 _ 5 56 Try.underlying47 hi0 hz0 hz1 hz2 rfl (by omega) v es.length (els es) hs hown ⟨b, off, none⟩ es'.length c (els es') hx (els_len es') (ents_cells hr) (els_one es') (by simp only [maxLen]; omega) (by omega) hbase ?_
  intro v' w' h1 h2 _ h4
  have ho' : OwnX w' base v' (es ++ es') := by
    unfold OwnX
    rw [List.length_append, els_app]
    exact h1
  obtain ⟨A', c', rfl, _, _, _⟩ := ho'.row
  exact h A' c' w' ho' h2 h4
theorem int_none (w : World) : OwnI (w.alloc (.cells #[] 3)) w.heap.size (.slice (some ⟨w.heap.size, 0, none⟩) 0 0) [] :=
  World.ownsRow_lit w #[] 0 (Nat.le_refl _) (by simp [maxLen]) rfl
set_option maxRecDepth 100000 in
/-- 'append(s, x...)': s is owned, x leads to ints. -/
theorem app_ints {w : World} {ops : Array Oper} {rest : List Oper} {o : Oper} {a : Act} {Q : Exit → Act → World → Prop} (hgd : o.guard = none) (s x : Operand) (ho : o.op = .call { callee := .builtin .append, args := #[s, x], argTypes := #[28, 28] })
    (base : Nat) (v : Value) (l : List Int) (hs : a.eval s = v) (hown : OwnI w base v l) (A : Option Addr) (l' : List Int) (n c B k : Nat) (hn : l'.length = n) (hx : a.eval x = .slice A n c) (hr : Ints w B A l') (hc : A = none → c = 0)
    (hk : (l ++ l').length = k) (hlen : k ≤ 1000000) (hbase : base ≤ w.heap.size)
    (h : ∀ A' c' w', OwnI w' base (.slice A' k c') (l ++ l') → Below base w w' → wpList Try.prog ops Q rest (a.put o.dst (.slice A' k c')) w') : wpList Try.prog ops Q (o :: rest) a w := by
  obtain ⟨i0, hi0, hz0, hz1, hz2⟩ := info_parts int_info
  subst hn hk
  simp only [List.length_append] at hlen
  have fin : ∀ v' w', OwnI w' base v' (l ++ l') → Below base w w' → wpList Try.prog ops Q rest (a.put o.dst v') w' := fun v' w' h1 h2 => by
    obtain ⟨A', c', rfl, _, _, _⟩ := h1.ints
    exact h A' c' w' h1 h2
  cases A with
  | none =>
    have hl0 : l' = [] := by
      rcases Nat.eq_zero_or_pos l'.length with h0 | h0
      · exact List.eq_nil_of_length_eq_zero h0
      · obtain ⟨b, off, he, _⟩ := hr h0
        cases he
    subst hl0
    have hc0 := hc rfl
    subst hc0
    exact wpList_append_own_none hgd s x _ ho base 3 i0 1 Try.underlying28 hi0 v l.length (l.map iv) hs hown hx (fin v w (by rw [List.append_nil]; exact hown) (Below.refl _ _))
  | some ad =>
    refine wpList_append_own_at w hgd s x _ ho base 3 i0 (.int .i64 0) 1 8 Try.underlying28 hi0 hz0 hz1 hz2 rfl (by omega) v l.length (l.map iv) hs hown ad l'.length c (l'.map iv) hx (by simp) ?_ ?_ (by simp only [maxLen]; omega) (by omega) hbase ?_
    · intro j u hu
      have hj : j < l'.length := by
        rcases Nat.lt_or_ge j l'.length with hj | hj
        · exact hj
        · rw [List.getElem?_eq_none (by simpa using hj)] at hu; cases hu
      obtain ⟨b, off, he, _, hcell⟩ := hr (by omega)
      injection he with he
      subst he
      have := hcell j hj
      rw [List.getElem?_map, List.getElem?_eq_getElem hj] at hu
      simp at hu
      subst hu
      by_cases h0 : j = 0
      · subst h0; simpa [Addr.add, iv] using this
      · simpa [Addr.add, h0, iv] using this
    · intro u hu
      obtain ⟨y, _, rfl⟩ := List.mem_map.1 hu
      rfl
    · intro v' w' h1 h2 _ _
      refine fin v' w' ?_ (belowI_own hown hbase h2)
      unfold OwnI
      rw [List.length_append, List.map_append]
      exact h1
end Go.Proofs.Ytlbbnnljclndkaa.Ins
namespace Go.Proofs.Ytlbbnnljclndkaa.Ins
open Go.RowKit Leb Typ

/-- Two boxes of five cells. -/
structure Ten (w W : World) (g h : Nat) (p q : Ins) (A A' : Option Addr) (n n' c c' : Nat) : Prop where
  below : Below w.heap.size w W
  x0 : W.cell? ⟨g, 0, none⟩ = some (.int .i64 p.op)
  x1 : W.cell? ⟨g, 1, none⟩ = some (.int .i64 p.a)
  x2 : W.cell? ⟨g, 2, none⟩ = some (.int .i64 p.b)
  x3 : W.cell? ⟨g, 3, none⟩ = some (.int .i64 p.k)
  x4 : W.cell? ⟨g, 4, none⟩ = some (.slice A n c)
  y0 : W.cell? ⟨h, 0, none⟩ = some (.int .i64 q.op)
  y1 : W.cell? ⟨h, 1, none⟩ = some (.int .i64 q.a)
  y2 : W.cell? ⟨h, 2, none⟩ = some (.int .i64 q.b)
  y3 : W.cell? ⟨h, 3, none⟩ = some (.int .i64 q.k)
  y4 : W.cell? ⟨h, 4, none⟩ = some (.slice A' n' c')
theorem ten_of (w : World) (p q : Ins) (A A' : Option Addr) (n n' c c' : Nat) (t t' : TypeId) :
    Ten w ((w.alloc (.cells #[.int .i64 p.op, .int .i64 p.a, .int .i64 p.b, .int .i64 p.k, .slice A n c] t)).alloc (.cells #[.int .i64 q.op, .int .i64 q.a, .int .i64 q.b, .int .i64 q.k, .slice A' n' c'] t')) w.heap.size (w.heap.size + 1) p q A A' n n' c c' := by
  have hs1 : (w.alloc (.cells #[.int .i64 p.op, .int .i64 p.a, .int .i64 p.b, .int .i64 p.k, .slice A n c] t)).heap.size = w.heap.size + 1 := by simp
  have hh := (MapKept.heap_alloc (w.alloc (.cells #[.int .i64 p.op, .int .i64 p.a, .int .i64 p.b, .int .i64 p.k, .slice A n c] t)) (.cells #[.int .i64 q.op, .int .i64 q.a, .int .i64 q.b, .int .i64 q.k, .slice A' n' c'] t')).1
  have hr := (MapKept.heap_alloc (w.alloc (.cells #[.int .i64 p.op, .int .i64 p.a, .int .i64 p.b, .int .i64 p.k, .slice A n c] t)) (.cells #[.int .i64 q.op, .int .i64 q.a, .int .i64 q.b, .int .i64 q.k, .slice A' n' c'] t')).2 w.heap.size (by omega)
  rw [hs1] at hh
  rw [(MapKept.heap_alloc w _).1] at hr
  exact ⟨((Below.refl _ _).alloc (Nat.le_refl _) _).alloc (by simp) _, by simp only [World.cell?, hr]; rfl, by simp only [World.cell?, hr]; rfl, by simp only [World.cell?, hr]; rfl, by simp only [World.cell?, hr]; rfl, by simp only [World.cell?, hr]; rfl,
    by simp only [World.cell?, hh]; rfl, by simp only [World.cell?, hh]; rfl, by simp only [World.cell?, hh]; rfl, by simp only [World.cell?, hh]; rfl, by simp only [World.cell?, hh]; rfl⟩
section
variable (A A' : Option Addr) (n n' c c' : Nat) (p q : Ins) (w : World)
end
/-- An instruction's five cells. -/
def Five (W : World) (b off : Nat) (op a bb k : Int) (A : Option Addr) (n c : Nat) : Prop :=
  W.cell? ⟨b, off, none⟩ = some (.int .i64 op) ∧ W.cell? ⟨b, off + 1, none⟩ = some (.int .i64 a) ∧ W.cell? ⟨b, off + 2, none⟩ = some (.int .i64 bb) ∧ W.cell? ⟨b, off + 3, none⟩ = some (.int .i64 k) ∧ W.cell? ⟨b, off + 4, none⟩ = some (.slice A n c)
theorem InsAt.five {w : World} {B b off : Nat} {x : Ins} (h : InsAt w B b off x) : ∃ A c, Five w b off x.op x.a x.b x.k A x.l.length c ∧ Ints w B A x.l ∧ x.l.length ≤ c ∧ (A = none → c = 0) := by
  obtain ⟨A, c, h1, h2, h3, h4, h5, h6, h7, h8⟩ := h
  exact ⟨A, c, ⟨h1, h2, h3, h4, h5⟩, h6, h7, h8⟩
theorem take_nextX {l l' : List Ins} {k : Nat} (h : k < l.length) (h' : k < l'.length) (ht : l.take k = l'.take k) (he : l[k] = l'[k]) : l.take (k + 1) = l'.take (k + 1) := by
  rw [List.take_succ_eq_append_getElem h, List.take_succ_eq_append_getElem h', ht, he]
end Go.Proofs.Ytlbbnnljclndkaa.Ins
namespace Go.Proofs.Ytlbbnnljclndkaa.Ins
open Go.RowKit Leb Typ

def sumL (xs : List Ins) : Nat := (xs.map fun x => x.l.length).sum
def lens (xs : List Ins) : Prop := xs.length ≤ 2100 ∧ ∀ x ∈ xs, x.l.length ≤ 100
instance (xs : List Ins) : Decidable (lens xs) := by unfold lens; infer_instance
/-- What Short answers. -/
def shortB (xs : List Ins) : Bool := decide (lens xs ∧ sumL xs ≤ 2000)
theorem shortB_lens (xs : List Ins) (h : shortB xs = true) : lens xs := (of_decide_eq_true h).1
theorem sumL_next (xs : List Ins) (j : Nat) (h : j < xs.length) : sumL (xs.take (j + 1)) = sumL (xs.take j) + xs[j].l.length := by
  unfold sumL
  rw [List.take_succ_eq_append_getElem h, List.map_append, List.sum_append]
  simp
end Go.Proofs.Ytlbbnnljclndkaa.Ins
