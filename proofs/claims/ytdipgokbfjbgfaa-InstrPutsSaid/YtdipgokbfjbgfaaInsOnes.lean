/-
  InsOneMem: What trammelref06.One has in memory; what it reads, character by character of the pattern. Conditions as each lemma says; nothing of the program but its types.
  InsOneMath: What trammelref06.One's parts come to, in plain words; a text's characters. Conditions as each lemma says.
-/
import Derived.Test.YtdipgokbfjbgfaaInsPats
import Derived.Test.YtdipgokbfjbgfaaInsOwn
import Derived.Test.YtdipgokbfjbgfaaTypAll
namespace Go.Proofs.Ytdipgokbfjbgfaa.Ins
open Go.RowKit Leb Typ

def partOf (c : UInt8) : Option Part :=
  if c = 116 then some .t else if c = 97 then some .a else if c = 98 then some .b else if c = 108 then some .l else if c = 107 then some .k else if c = 113 then some .kk else if c = 122 then some .z else none
theorem partOf_chr (r : Part) : partOf (chr r) = some r := by cases r <;> rfl
/-- One character's part. -/
def stepC (bs : List Nat) (p : Nat) (x : Ins) (c : UInt8) : Ins × Nat × Nat :=
  match partOf c with
  | some r => readPart bs p x r
  | none => (x, p, 0)
def readChars (bs : List Nat) : List UInt8 → Nat → Ins → Ins × Nat × Nat
  | [], p, x => (x, p, 0)
  | c :: cs, p, x => if (stepC bs p x c).2.2 ≠ 0 then (zeroIns, 0, (stepC bs p x c).2.2) else readChars bs cs (stepC bs p x c).2.1 (stepC bs p x c).1
theorem readChars_map (bs : List Nat) (qs : List Part) (p : Nat) (x : Ins) : readChars bs (qs.map chr) p x = readParts bs qs p x := by
  induction qs generalizing p x with
  | nil => rfl
  | cons q qs ih =>
    simp only [List.map_cons, readChars, readParts, stepC, partOf_chr, ih]
theorem readChars_parts (bs : List Nat) (qs : List Part) (p : Nat) (x : Ins) : readChars bs (partChars qs) p x = readParts bs qs p x := by
  unfold partChars
  split
  · rename_i h; subst h; rfl
  · exact readChars_map bs qs p x
theorem readChars_step (bs : List Nat) (cs : List UInt8) (i p : Nat) (x : Ins) (R : Ins × Nat × Nat) (hi : i < cs.length) (h : readChars bs (cs.drop i) p x = R) :
    ((stepC bs p x cs[i]).2.2 ≠ 0 → R = (zeroIns, 0, (stepC bs p x cs[i]).2.2)) ∧ ((stepC bs p x cs[i]).2.2 = 0 → readChars bs (cs.drop (i + 1)) (stepC bs p x cs[i]).2.1 (stepC bs p x cs[i]).1 = R) := by
  rw [List.drop_eq_getElem_cons hi] at h
  simp only [readChars] at h
  constructor
  · intro he; rw [if_pos he] at h; exact h.symm
  · intro he; rw [if_neg (by simpa using he)] at h; exact h
/-- The result's cells, laid and not written since. -/
structure OR (w W : World) : Prop where
  below : Below w.heap.size w W
  size : w.heap.size < W.heap.size
  r0 : W.cell? ⟨w.heap.size, 0, none⟩ = some (.int .i64 0)
  r1 : W.cell? ⟨w.heap.size, 1, none⟩ = some (.int .i64 0)
  r2 : W.cell? ⟨w.heap.size, 2, none⟩ = some (.int .i64 0)
  r3 : W.cell? ⟨w.heap.size, 3, none⟩ = some (.int .i64 0)
  r4 : W.cell? ⟨w.heap.size, 4, none⟩ = some (.slice none 0 0)
  z0 : W.frozen? ⟨w.heap.size, 0, none⟩ = false
  z1 : W.frozen? ⟨w.heap.size, 1, none⟩ = false
  z2 : W.frozen? ⟨w.heap.size, 2, none⟩ = false
  z3 : W.frozen? ⟨w.heap.size, 3, none⟩ = false
  z4 : W.frozen? ⟨w.heap.size, 4, none⟩ = false
theorem OR.step {w W W' : World} (h : OR w W) (hb : Below w.heap.size w W') (hs : W.heap.size ≤ W'.heap.size) (hh : W'.heap[w.heap.size]? = W.heap[w.heap.size]?) : OR w W' := by
  have C : ∀ p : Addr, p.block = w.heap.size → W'.cell? p = W.cell? p := fun p hp => World.cell?_of_block (by rw [hp]; exact hh)
  have F : ∀ p : Addr, p.block = w.heap.size → W'.frozen? p = W.frozen? p := fun p hp => World.frozen?_of_block (by rw [hp]; exact hh)
  exact ⟨hb, Nat.lt_of_lt_of_le h.size hs, (C _ rfl).trans h.r0, (C _ rfl).trans h.r1, (C _ rfl).trans h.r2, (C _ rfl).trans h.r3, (C _ rfl).trans h.r4, (F _ rfl).trans h.z0, (F _ rfl).trans h.z1, (F _ rfl).trans h.z2, (F _ rfl).trans h.z3, (F _ rfl).trans h.z4⟩
theorem OR.keep {w W W' : World} (h : OR w W) (h' : Below W.heap.size W W') : OR w W' :=
  h.step (h.below.trans (h'.mono h.below.size)) h'.size (h'.block _ h.size)
theorem or_of (w : World) (t : TypeId) : OR w (w.alloc (.cells #[.int .i64 0, .int .i64 0, .int .i64 0, .int .i64 0, .slice none 0 0] t)) := by
  have hr := (MapKept.heap_alloc w (.cells #[.int .i64 0, .int .i64 0, .int .i64 0, .int .i64 0, .slice none 0 0] t)).1
  refine ⟨(Below.refl _ _).alloc (Nat.le_refl _) _, by simp, ?_, ?_, ?_, ?_, ?_, ?_, ?_, ?_, ?_, ?_⟩
  · simp only [World.cell?, hr]; rfl
  · simp only [World.cell?, hr]; rfl
  · simp only [World.cell?, hr]; rfl
  · simp only [World.cell?, hr]; rfl
  · simp only [World.cell?, hr]; rfl
  · simp only [World.frozen?, hr]; rfl
  · simp only [World.frozen?, hr]; rfl
  · simp only [World.frozen?, hr]; rfl
  · simp only [World.frozen?, hr]; rfl
  · simp only [World.frozen?, hr]; rfl
/-- The instruction that is read, in its box g. -/
structure OX (w W : World) (g : Nat) (y : Ins) (v : Value) : Prop where
  res : OR w W
  lo : w.heap.size < g
  hi : g < W.heap.size
  x0 : W.cell? ⟨g, 0, none⟩ = some (.int .i64 y.op)
  x1 : W.cell? ⟨g, 1, none⟩ = some (.int .i64 y.a)
  x2 : W.cell? ⟨g, 2, none⟩ = some (.int .i64 y.b)
  x3 : W.cell? ⟨g, 3, none⟩ = some (.int .i64 y.k)
  x4 : W.cell? ⟨g, 4, none⟩ = some v
  f0 : W.frozen? ⟨g, 0, none⟩ = false
  f1 : W.frozen? ⟨g, 1, none⟩ = false
  f2 : W.frozen? ⟨g, 2, none⟩ = false
  f3 : W.frozen? ⟨g, 3, none⟩ = false
  f4 : W.frozen? ⟨g, 4, none⟩ = false
  own : OwnI W (g + 1) v y.l
theorem OX.grow {w W W' : World} {g : Nat} {y : Ins} {v : Value} (h : OX w W g y v) (hb : Below (g + 1) W W') (ho : OwnI W' (g + 1) v y.l) : OX w W' g y v := by
  have hg := h.lo
  have hw : Below w.heap.size w W' := h.res.below.trans (hb.mono (by omega))
  have C : ∀ p : Addr, p.block = g → W'.cell? p = W.cell? p := fun p hp => hb.cell (by omega)
  have F : ∀ p : Addr, p.block = g → W'.frozen? p = W.frozen? p := fun p hp => hb.frozen (by omega)
  exact ⟨h.res.step hw hb.size (hb.block _ (by omega)), h.lo, Nat.lt_of_lt_of_le h.hi hb.size, (C _ rfl).trans h.x0, (C _ rfl).trans h.x1, (C _ rfl).trans h.x2, (C _ rfl).trans h.x3, (C _ rfl).trans h.x4,
    (F _ rfl).trans h.f0, (F _ rfl).trans h.f1, (F _ rfl).trans h.f2, (F _ rfl).trans h.f3, (F _ rfl).trans h.f4, ho⟩
theorem OX.keep {w W W' : World} {g : Nat} {y : Ins} {v : Value} (h : OX w W g y v) (h' : Below W.heap.size W W') : OX w W' g y v :=
  h.grow (h'.mono h.hi) (h.own.keep h' h.own.lt)
theorem OX.below {w W : World} {g : Nat} {y : Ins} {v : Value} (h : OX w W g y v) : Below w.heap.size w W := h.res.below
theorem OX.setRes {w W : World} {g i : Nat} {y : Ins} {v : Value} (h : OX w W g y v) (u : Value) : OR w (W.setCell ⟨g, i, none⟩ u) :=
  h.res.step (h.res.below.setCell (by simp; have := h.lo; omega) _) (by simp) (Below.heap_setCell _ _ _ _ (by simp; have := h.lo; omega))
theorem own_setBox {W : World} {g i : Nat} {v u : Value} {l : List Int} (h : OwnI W (g + 1) v l) : OwnI (W.setCell ⟨g, i, none⟩ u) (g + 1) v l := ownsRow_setCell_below h (by simp) u
theorem OX.setA {w W : World} {g : Nat} {y : Ins} {v : Value} (h : OX w W g y v) (n : Int) : OX w (W.setCell ⟨g, 1, none⟩ (.int .i64 n)) g { y with a := n } v :=
  ⟨h.setRes _, h.lo, by simpa using h.hi, (World.cell?_setCell_other _ _ _ _ (by simp)).trans h.x0, World.cell?_setCell_same _ _ _ h.x1, (World.cell?_setCell_other _ _ _ _ (by simp)).trans h.x2, (World.cell?_setCell_other _ _ _ _ (by simp)).trans h.x3, (World.cell?_setCell_other _ _ _ _ (by simp)).trans h.x4,
    by simpa using h.f0, by simpa using h.f1, by simpa using h.f2, by simpa using h.f3, by simpa using h.f4, own_setBox h.own⟩
theorem OX.setB {w W : World} {g : Nat} {y : Ins} {v : Value} (h : OX w W g y v) (n : Int) : OX w (W.setCell ⟨g, 2, none⟩ (.int .i64 n)) g { y with b := n } v :=
  ⟨h.setRes _, h.lo, by simpa using h.hi, (World.cell?_setCell_other _ _ _ _ (by simp)).trans h.x0, (World.cell?_setCell_other _ _ _ _ (by simp)).trans h.x1, World.cell?_setCell_same _ _ _ h.x2, (World.cell?_setCell_other _ _ _ _ (by simp)).trans h.x3, (World.cell?_setCell_other _ _ _ _ (by simp)).trans h.x4,
    by simpa using h.f0, by simpa using h.f1, by simpa using h.f2, by simpa using h.f3, by simpa using h.f4, own_setBox h.own⟩
theorem OX.setK {w W : World} {g : Nat} {y : Ins} {v : Value} (h : OX w W g y v) (n : Int) : OX w (W.setCell ⟨g, 3, none⟩ (.int .i64 n)) g { y with k := n } v :=
  ⟨h.setRes _, h.lo, by simpa using h.hi, (World.cell?_setCell_other _ _ _ _ (by simp)).trans h.x0, (World.cell?_setCell_other _ _ _ _ (by simp)).trans h.x1, (World.cell?_setCell_other _ _ _ _ (by simp)).trans h.x2, World.cell?_setCell_same _ _ _ h.x3, (World.cell?_setCell_other _ _ _ _ (by simp)).trans h.x4,
    by simpa using h.f0, by simpa using h.f1, by simpa using h.f2, by simpa using h.f3, by simpa using h.f4, own_setBox h.own⟩
/-- The labels are others now. -/
theorem OX.setL {w W W' : World} {g : Nat} {y : Ins} {v v' : Value} {l : List Int} (h : OX w W g y v) (hb : Below (g + 1) W W') (ho : OwnI W' (g + 1) v' l) : OX w (W'.setCell ⟨g, 4, none⟩ v') g { y with l := l } v' := by
  have hg := h.lo
  have hw : Below w.heap.size w W' := h.res.below.trans (hb.mono (by omega))
  have C : ∀ p : Addr, p.block = g → W'.cell? p = W.cell? p := fun p hp => hb.cell (by omega)
  have F : ∀ p : Addr, p.block = g → W'.frozen? p = W.frozen? p := fun p hp => hb.frozen (by omega)
  have hr : OR w W' := h.res.step hw hb.size (hb.block _ (by omega))
  refine ⟨hr.step (hr.below.setCell (by simp; omega) _) (by simp) (Below.heap_setCell _ _ _ _ (by simp; omega)), h.lo, ?_, ?_, ?_, ?_, ?_, ?_, ?_, ?_, ?_, ?_, ?_, own_setBox ho⟩
  · simpa using Nat.lt_of_lt_of_le h.hi hb.size
  · exact (World.cell?_setCell_other _ _ _ _ (by simp)).trans ((C _ rfl).trans h.x0)
  · exact (World.cell?_setCell_other _ _ _ _ (by simp)).trans ((C _ rfl).trans h.x1)
  · exact (World.cell?_setCell_other _ _ _ _ (by simp)).trans ((C _ rfl).trans h.x2)
  · exact (World.cell?_setCell_other _ _ _ _ (by simp)).trans ((C _ rfl).trans h.x3)
  · exact World.cell?_setCell_same _ _ _ ((C _ rfl).trans h.x4)
  · simpa using (F _ rfl).trans h.f0
  · simpa using (F _ rfl).trans h.f1
  · simpa using (F _ rfl).trans h.f2
  · simpa using (F _ rfl).trans h.f3
  · simpa using (F _ rfl).trans h.f4
theorem ox_of {w W : World} (h : OR w W) (op : Int) (t : TypeId) : OX w (W.alloc (.cells #[.int .i64 op, .int .i64 0, .int .i64 0, .int .i64 0, .slice none 0 0] t)) W.heap.size { zeroIns with op := op } (.slice none 0 0) := by
  have hr := (MapKept.heap_alloc W (.cells #[.int .i64 op, .int .i64 0, .int .i64 0, .int .i64 0, .slice none 0 0] t)).1
  refine ⟨h.keep ((Below.refl _ _).alloc (Nat.le_refl _) _), h.size, by simp, ?_, ?_, ?_, ?_, ?_, ?_, ?_, ?_, ?_, ?_, OwnI.nil _ _⟩
  · simp only [World.cell?, hr]; rfl
  · simp only [World.cell?, hr]; rfl
  · simp only [World.cell?, hr]; rfl
  · simp only [World.cell?, hr]; rfl
  · simp only [World.cell?, hr]; rfl
  · simp only [World.frozen?, hr]; rfl
  · simp only [World.frozen?, hr]; rfl
  · simp only [World.frozen?, hr]; rfl
  · simp only [World.frozen?, hr]; rfl
  · simp only [World.frozen?, hr]; rfl
end Go.Proofs.Ytdipgokbfjbgfaa.Ins
namespace Go.Proofs.Ytdipgokbfjbgfaa.Ins
open Go.RowKit Leb Typ

/-- What One answers: the labels are its own. -/
def OneW (w : World) (r : Ins × Nat × Nat) (e : Ending) (w' : World) : Prop :=
  ∃ A c ln, ln = r.1.l.length ∧ e = .returned (.tuple #[.agg #[.int .i64 r.1.op, .int .i64 r.1.a, .int .i64 r.1.b, .int .i64 r.1.k, .slice A ln c], .int .i64 (r.2.1 : Int), .int .i64 (r.2.2 : Int)]) ∧ OwnI w' w.heap.size (.slice A ln c) r.1.l ∧ Below w.heap.size w w'
theorem ownI_le {w : World} {b b' : Nat} {v : Value} {l : List Int} (h : OwnI w b v l) (hb : b' ≤ b) : OwnI w b' v l := by
  refine ⟨h.1, ?_⟩
  rcases h.2 with ⟨rfl, h0⟩ | ⟨g, cap, cur, rfl, h1, h2, h3, h4, h5⟩
  · exact .inl ⟨rfl, h0⟩
  · exact .inr ⟨g, cap, cur, rfl, by omega, h2, h3, h4, h5⟩
theorem OneW.three {w w' : World} {r : Ins × Nat × Nat} {e : Ending} (h : OneW w r e w') : One3 w r e w' := by
  obtain ⟨A, c, ln, rfl, rfl, ho, hb⟩ := h
  obtain ⟨A', cap, he, hi, hl, hn⟩ := ho.ints
  simp only [Value.slice.injEq] at he
  obtain ⟨rfl, _, rfl⟩ := he
  exact ⟨_, rfl, ⟨_, _, rfl, hi, hl, hn⟩, hb⟩
theorem zero_v (w : World) : InsV w (.agg #[.int .i64 0, .int .i64 0, .int .i64 0, .int .i64 0, .slice none 0 0]) zeroIns := ⟨none, 0, rfl, Ints.nil _ _ _, Nat.le_refl _, fun _ => rfl⟩
theorem add_facts {q1 s n : Nat} (h3 : s ≤ n - q1) (h : q1 ≤ n) (hn : n ≤ 10000000) : ∃ q2 : Nat, q1 + s = q2 ∧ (q1 : Int) + (s : Int) = (q2 : Int) ∧ wrap64 (q2 : Int) = (q2 : Int) ∧ q2 ≤ n :=
  ⟨q1 + s, rfl, by omega, IntWalk.wrap64_in _ (by omega), by omega⟩
theorem op_facts {n : Nat} (h : ¬ 255 < n) : ∃ ov : Int, 256 + (n : Int) = ov ∧ wrap64 ov = ov ∧ 0 ≤ ov ∧ ov ≤ 511 :=
  ⟨256 + (n : Int), rfl, IntWalk.wrap64_in _ (by omega), by omega, by omega⟩
theorem partChars_in (qs : List Part) : ∀ c ∈ partChars qs, c = 46 ∨ ∃ r, c = chr r := by
  intro c hc
  unfold partChars at hc
  split at hc
  · exact .inl (by simpa using hc)
  · obtain ⟨r, _, rfl⟩ := List.mem_map.1 hc
    exact .inr ⟨r, rfl⟩
theorem partChars_len (qs : List Part) (h : qs.length ≤ 2) : 1 ≤ (partChars qs).length ∧ (partChars qs).length ≤ 2 := by
  unfold partChars
  split
  · simp
  · rename_i h0
    rw [List.length_map]
    have : 0 < qs.length := List.length_pos_iff.2 h0
    omega
theorem str_ne1 (cs : List UInt8) (h : 1 ≤ cs.length) : (cs == []) = false := by
  cases cs with
  | nil => simp at h
  | cons c cs => rfl
theorem str_ne2 (cs : List UInt8) (h : ∀ c ∈ cs, c = 46 ∨ ∃ r, c = chr r) : (cs == [63]) = false := by
  rw [beq_eq_false_iff_ne]
  intro e
  subst e
  rcases h 63 (by simp) with h | ⟨r, h⟩
  · revert h; decide
  · cases r <;> revert h <;> decide
theorem str_index {t : TypeId} (ht : Try.prog.underlying t = some .string) (cs : List UInt8) (i : Nat) (h : i < cs.length) (W : World) : (Instr.index t (.string ⟨cs.toArray⟩) (.int .i64 (i : Int))).run Try.prog W = .ok (.int .u8 ((cs[i].toNat : Nat) : Int)) W := by
  have hs : (⟨cs.toArray⟩ : ByteArray).size = cs.length := by simp [ByteArray.size]
  refine (run_index_string _ _ _ _ _ ht).trans ?_
  rw [dif_pos ⟨by omega, by rw [hs]; omega⟩]
  rfl
/-- What one character's part comes to. -/
def StepIs (l : List Nat) (q : Nat) (y : Ins) (ch : UInt8) (y' : Ins) (sz er : Nat) : Prop := (er ≠ 0 → (stepC l q y ch).2.2 = er) ∧ (er = 0 → stepC l q y ch = (y', q + sz, 0) ∧ q + sz ≤ l.length)
theorem step_dot (l : List Nat) (q : Nat) (y : Ins) (hq : q ≤ l.length) : StepIs l q y 46 y 0 0 := ⟨fun h => absurd rfl h, fun _ => ⟨rfl, by omega⟩⟩
theorem step_t {l : List Nat} {q : Nat} (y : Ins) {t : Int} {sz er : Nat} (h : blockRes (l.drop q) = (t, sz, er)) (hq : q ≤ l.length) : StepIs l q y 116 { y with a := t } sz er := by
  have e : stepC l q y 116 = readPart l q y .t := rfl
  rw [StepIs, e]
  simp only [readPart, h]
  refine ⟨fun _ => by first | rfl | trivial, fun h0 => ?_⟩
  subst h0
  have := (blockRes_le h).2
  exact ⟨rfl, drop_len l q sz hq this⟩
theorem step_a {l : List Nat} {q : Nat} (y : Ins) {n sz er : Nat} (h : uRes (l.drop q) 32 = (n, sz, er)) (hq : q ≤ l.length) : StepIs l q y 97 { y with a := (n : Int) } sz er := by
  have e : stepC l q y 97 = readPart l q y .a := rfl
  rw [StepIs, e]
  simp only [readPart, h]
  refine ⟨fun _ => by first | rfl | trivial, fun h0 => ?_⟩
  subst h0
  have := (uRes_le h).2
  exact ⟨rfl, drop_len l q sz hq this⟩
theorem step_b {l : List Nat} {q : Nat} (y : Ins) {n sz er : Nat} (h : uRes (l.drop q) 32 = (n, sz, er)) (hq : q ≤ l.length) : StepIs l q y 98 { y with b := (n : Int) } sz er := by
  have e : stepC l q y 98 = readPart l q y .b := rfl
  rw [StepIs, e]
  simp only [readPart, h]
  refine ⟨fun _ => by first | rfl | trivial, fun h0 => ?_⟩
  subst h0
  have := (uRes_le h).2
  exact ⟨rfl, drop_len l q sz hq this⟩
theorem step_k {l : List Nat} {q : Nat} (y : Ins) {n : Int} {sz er : Nat} (h : sRes (l.drop q) 32 = (n, sz, er)) (hq : q ≤ l.length) : StepIs l q y 107 { y with k := n } sz er := by
  have e : stepC l q y 107 = readPart l q y .k := rfl
  rw [StepIs, e]
  simp only [readPart, h]
  refine ⟨fun _ => by first | rfl | trivial, fun h0 => ?_⟩
  subst h0
  have := (sRes_le h).2
  exact ⟨rfl, drop_len l q sz hq this⟩
theorem step_q {l : List Nat} {q : Nat} (y : Ins) {n : Int} {sz er : Nat} (h : sRes (l.drop q) 64 = (n, sz, er)) (hq : q ≤ l.length) : StepIs l q y 113 { y with k := n } sz er := by
  have e : stepC l q y 113 = readPart l q y .kk := rfl
  rw [StepIs, e]
  simp only [readPart, h]
  refine ⟨fun _ => by first | rfl | trivial, fun h0 => ?_⟩
  subst h0
  have := (sRes_le h).2
  exact ⟨rfl, drop_len l q sz hq this⟩
theorem step_z1 {l : List Nat} {q : Nat} (y : Ins) (h : l.length ≤ q) : StepIs l q y 122 y 1 1 := by
  have e : stepC l q y 122 = readPart l q y .z := rfl
  rw [StepIs, e]
  simp only [readPart]
  refine ⟨fun _ => ?_, fun h0 => absurd h0 (by omega)⟩
  rw [if_pos h]
theorem step_z2 {l : List Nat} {q : Nat} (y : Ins) (h : ¬ l.length ≤ q) (hz : l.getD q 0 ≠ 0) : StepIs l q y 122 y 1 2 := by
  have e : stepC l q y 122 = readPart l q y .z := rfl
  rw [StepIs, e]
  simp only [readPart]
  refine ⟨fun _ => ?_, fun h0 => absurd h0 (by omega)⟩
  rw [if_neg h, if_pos hz]
theorem step_z0 {l : List Nat} {q : Nat} (y : Ins) (h : ¬ l.length ≤ q) (hz : l.getD q 0 = 0) : StepIs l q y 122 y 1 0 := by
  have e : stepC l q y 122 = readPart l q y .z := rfl
  rw [StepIs, e]
  simp only [readPart]
  refine ⟨fun h0 => absurd rfl h0, fun _ => ⟨?_, by omega⟩⟩
  rw [if_neg h, if_neg (by rw [hz]; simp)]
theorem uRes_lt (l : List Nat) : (uRes l 32).1 < 4294967296 := by
  by_cases h : (uRes l 32).2.2 = 0
  · exact (uRes_32 l h).1
  · unfold uRes at h ⊢
    split
    · rename_i h1
      rw [if_pos h1] at h
      split
      · simp
      · rename_i h2
        rw [if_neg h2] at h
        exact absurd h1 h
    · simp
theorem step_l1 {l : List Nat} {q : Nat} (y : Ins) {n sz er : Nat} (h : uRes (l.drop q) 32 = (n, sz, er)) (he : er ≠ 0) : StepIs l q y 108 y sz er := by
  have e : stepC l q y 108 = readPart l q y .l := rfl
  rw [StepIs, e]
  simp only [readPart, h]
  refine ⟨fun _ => ?_, fun h0 => absurd h0 he⟩
  rw [if_pos he]
theorem step_l4 {l : List Nat} {q : Nat} (y : Ins) {n sz : Nat} (h : uRes (l.drop q) 32 = (n, sz, 0)) (hn : 64 < n) : StepIs l q y 108 y sz 4 := by
  have e : stepC l q y 108 = readPart l q y .l := rfl
  rw [StepIs, e]
  simp only [readPart, h]
  refine ⟨fun _ => ?_, fun h0 => absurd h0 (by omega)⟩
  rw [if_neg (by simp), if_pos hn]
/-- Labels that were read, and those that are still to be read. -/
def joinL (ls : List Int) (r : List Int × Nat × Nat) : List Int × Nat × Nat := if r.2.2 ≠ 0 then ([], 0, r.2.2) else (ls ++ r.1, r.2.1, 0)
/-- What is known ahead of a round of the labels' loop. -/
def LabIs (l : List Nat) (q s0 n : Nat) (ls : List Int) (sz er : Nat) : Prop :=
  (er ≠ 0 ∧ (readLabels l n (q + s0)).2.2 = er) ∨ (er = 0 ∧ ls.length ≤ n ∧ joinL ls (readLabels l (n - ls.length) (q + sz)) = readLabels l n (q + s0))
theorem readLabels_err (l : List Nat) (n p : Nat) (h : (readLabels l n p).2.2 ≠ 0) : readLabels l n p = ([], 0, (readLabels l n p).2.2) := by
  cases n with
  | zero => simp [readLabels] at h
  | succ n =>
    simp only [readLabels] at h ⊢
    split
    · rfl
    · rename_i h1
      rw [if_neg h1] at h
      split
      · rfl
      · rename_i h2; rw [if_neg h2] at h; simp at h
theorem lab_start (l : List Nat) (q s0 n : Nat) : LabIs l q s0 n [] s0 0 := by
  refine .inr ⟨rfl, Nat.zero_le _, ?_⟩
  unfold joinL
  rw [List.length_nil, Nat.sub_zero]
  split
  · rename_i h; exact (readLabels_err _ _ _ h).symm
  · rename_i h
    have h0 : (readLabels l n (q + s0)).2.2 = 0 := by omega
    rw [List.nil_append, ← h0]
theorem lab_next {l : List Nat} {q s0 n : Nat} {ls : List Int} {sz : Nat} (h : LabIs l q s0 n ls sz 0) (hj : ls.length < n) {k m er : Nat} (hu : uRes (l.drop (q + sz)) 32 = (k, m, er)) : LabIs l q s0 n (ls ++ [(k : Int)]) (sz + m) er := by
  rcases h with ⟨h, _⟩ | ⟨_, _, h⟩
  · exact absurd rfl h
  rw [show n - ls.length = (n - (ls.length + 1)) + 1 from by omega] at h
  by_cases he : er = 0
  · subst he
    rw [readLabels_succ _ _ _ _ _ hu] at h
    refine .inr ⟨rfl, by simp; omega, ?_⟩
    rw [List.length_append, List.length_singleton, ← Nat.add_assoc, ← h]
    unfold joinL
    split
    · simp
    · simp
  · refine .inl ⟨he, ?_⟩
    rw [← h]
    have : readLabels l (n - (ls.length + 1) + 1) (q + sz) = ([], 0, er) := by
      simp only [readLabels]
      rw [hu]
      simp only
      rw [if_pos he]
    rw [this]
    unfold joinL
    rw [if_pos he]
theorem lab_end {l : List Nat} {q s0 n : Nat} (y : Ins) {ls : List Int} {sz er : Nat} (hu : uRes (l.drop q) 32 = (n, s0, 0)) (hn : ¬ 64 < n) (h : LabIs l q s0 n ls sz er) (hj : er ≠ 0 ∨ n ≤ ls.length) (hle : q + sz ≤ l.length) : StepIs l q y 108 { y with l := ls } sz er := by
  have e : stepC l q y 108 = readPart l q y .l := rfl
  rw [StepIs, e, readPart_l l q n s0 y hu (by omega)]
  rcases h with ⟨h0, h1⟩ | ⟨h0, h1, h2⟩
  · exact ⟨fun _ => h1, fun h => absurd h h0⟩
  · subst h0
    have hl : ls.length = n := by omega
    refine ⟨fun h => absurd rfl h, fun _ => ?_⟩
    rw [hl, Nat.sub_self] at h2
    have h3 : readLabels l n (q + s0) = (ls, q + sz, 0) := by rw [← h2]; simp [joinL, readLabels]
    rw [h3]
    exact ⟨rfl, hle⟩
/-- How long the labels in the box are. -/
def boxLen (w : World) (g : Nat) : Nat := match w.cell? ⟨g, 4, none⟩ with
  | some (.slice _ n _) => n
  | _ => 0
theorem boxLen_is {w W : World} {g : Nat} {y : Ins} {A : Option Addr} {n c : Nat} (h : OX w W g y (.slice A n c)) : boxLen W g = n := by
  unfold boxLen
  rw [h.x4]
theorem chr_first (op : Int) (qs : List Part) (h : pat op = some (some qs)) : ∀ (i : Nat) (hi : i < (partChars qs).length), (partChars qs)[i] = 108 → i = 0 := by
  have key : ∀ r ∈ qs.drop 1, r ≠ Part.l := by
    unfold pat at h
    cases hn : named op with
    | some p =>
      rw [hn] at h
      simp only [Option.some.injEq] at h
      subst h
      unfold named at hn
      repeat' split at hn
      all_goals first
        | (simp only [Option.some.injEq] at hn; subst hn; simp)
        | (exfalso; simp at hn)
    | none =>
      rw [hn] at h
      simp only at h
      by_cases h1 : wideOp op = true
      · rw [if_pos h1] at h; simp at h
      · rw [if_neg h1] at h
        by_cases h2 : accOp op = true
        · rw [if_pos h2] at h
          simp only [Option.some.injEq] at h
          subst h
          simp
        · rw [if_neg h2] at h
          by_cases h3 : numOp op = true
          · rw [if_pos h3] at h
            simp only [Option.some.injEq] at h
            subst h
            simp
          · rw [if_neg h3] at h; simp at h
  intro i hi hc
  unfold partChars at hi hc
  by_cases h0 : qs = []
  · simp only [h0, if_true] at hi
    simp at hi
    exact hi
  · simp only [h0, if_false, List.getElem_map] at hi hc
    cases i with
    | zero => rfl
    | succ i =>
      exfalso
      have hi' : i + 1 < qs.length := by simpa using hi
      have hm : qs[i + 1] ∈ qs.drop 1 := by
        rw [List.mem_iff_getElem]
        exact ⟨i, by simp; omega, by simp⟩
      have hr := key _ hm
      generalize qs[i + 1] = r at *
      cases r with
      | l => exact hr rfl
      | t => exact absurd hc (by decide)
      | a => exact absurd hc (by decide)
      | b => exact absurd hc (by decide)
      | k => exact absurd hc (by decide)
      | kk => exact absurd hc (by decide)
      | z => exact absurd hc (by decide)
theorem uRes_in (l : List Nat) : (uRes l 32).2.1 ≤ l.length := by
  by_cases h : (uRes l 32).2.2 = 0
  · exact (uRes_32 l h).2.2
  · unfold uRes at h ⊢
    split
    · rename_i h1
      rw [if_pos h1] at h
      split
      · simp
      · rename_i h2
        rw [if_neg h2] at h
        exact absurd h1 h
    · simp
/-- b[p:], of bytes: where it leads. -/
theorem bytes_cut {w : World} {B b off p c : Nat} {l : List Nat} (hb : Bytes w B (some ⟨b, off, none⟩) l) (hlc : l.length ≤ c) (A : Option Addr) (hA : p ≠ c → A = some ⟨b, off + p, none⟩) : Bytes w B A (l.drop p) := by
  by_cases h : p = c
  · have : l.drop p = [] := List.drop_of_length_le (by omega)
    rw [this]
    exact ⟨by simp, by simp⟩
  · rw [hA h]
    exact bytes_from hb p
/-- The code at place p. -/
def opOf (l : List Nat) (p : Nat) : Int := if l.getD p 0 = 252 then 256 + ((uRes (l.drop (p + 1)) 32).1 : Int) else (l.getD p 0 : Int)
theorem sum_wrap (a b : Nat) (h : a + b ≤ 20000000) : wrap64 ((a : Int) + (b : Int)) = ((a + b : Nat) : Int) := by
  rw [IntWalk.wrap64_in _ (by omega)]
  omega
theorem partChars_in2 (qs : List Part) : ∀ c ∈ partChars qs, c = 46 ∨ ∃ r, r ∈ qs ∧ c = chr r := by
  intro c hc
  unfold partChars at hc
  split at hc
  · exact .inl (by simpa using hc)
  · obtain ⟨r, hr, rfl⟩ := List.mem_map.1 hc
    exact .inr ⟨r, hr, rfl⟩
theorem pat_class (op : Int) (qs : List Part) (h : pat op = some (some qs)) : (∀ r ∈ qs, r = Part.t ∨ r = Part.k ∨ r = Part.kk) ∨ (∀ r ∈ qs, r = Part.a ∨ r = Part.z) ∨ (∀ r ∈ qs, r = Part.l ∨ r = Part.a) ∨ (∀ r ∈ qs, r = Part.a ∨ r = Part.b) := by
  have key : qs ∈ [[], [Part.t], [.a], [.l, .a], [.a, .b], [.z], [.z, .z], [.k], [.kk], [.a, .z]] := by
    unfold pat at h
    cases hn : named op with
    | some p =>
      rw [hn] at h
      simp only [Option.some.injEq] at h
      subst h
      unfold named at hn
      repeat' split at hn
      all_goals first
        | (simp only [Option.some.injEq] at hn; subst hn; decide)
        | (exfalso; simp at hn)
    | none =>
      rw [hn] at h
      simp only at h
      by_cases h1 : wideOp op = true
      · rw [if_pos h1] at h; simp at h
      · rw [if_neg h1] at h
        by_cases h2 : accOp op = true
        · rw [if_pos h2] at h
          simp only [Option.some.injEq] at h
          subst h
          decide
        · rw [if_neg h2] at h
          by_cases h3 : numOp op = true
          · rw [if_pos h3] at h
            simp only [Option.some.injEq] at h
            subst h
            decide
          · rw [if_neg h3] at h; simp at h
  simp only [List.mem_cons, List.not_mem_nil, or_false] at key
  rcases key with rfl | rfl | rfl | rfl | rfl | rfl | rfl | rfl | rfl | rfl
  all_goals decide
end Go.Proofs.Ytdipgokbfjbgfaa.Ins
