/-
  TypPlain: TypPlain: what names no function of the program. Conditions as each lemma says.
  TypPlainOwn: TypPlainOwn: what names no function of the program. Conditions as each lemma says.
  TypVal: trammelref05.Val, RightBlock: what each comes to. No condition.
  TypInts: Slices of ints in memory: what they lead to; what a call made itself; append of one onto them; SameInts. Conditions as each lemma says.
  TypVals: trammelref05.vals: types, and the place behind them. Conditions: the bytes lie in memory as a slice's cells; the place is not beyond them.
  TypFunc: trammelref05.Func: a function's type. Condition: the bytes lie in memory as a slice's cells, and are fewer than 2^47.
  TypSame: trammelref05.Same, RightLimits: what each comes to. Conditions as each lemma says.
-/
import Derived.Test.YtlbbnnljclndkaaQLeb
import Derived.Handy
import Derived.Deep.RegionHeldLaw
import Derived.Lib.SliceRun
import Derived.OwnWalk
namespace Go.Proofs.Ytlbbnnljclndkaa.Typ
open Go.RowKit Leb

/-- The type of a byte, and its error. -/
def valOf (c : Nat) : Nat × Nat :=
  if c = 127 ∨ c = 126 then (c, 0)
  else if c = 125 ∨ c = 124 ∨ c = 123 ∨ c = 112 ∨ c = 111 then (0, 3)
  else (0, 2)
def Val2 (w : World) (r : Nat × Nat) (e : Ending) (w' : World) : Prop := e = .returned (.tuple #[.int .i64 (r.1 : Int), .int .i64 (r.2 : Int)]) ∧ w = w'
theorem valOf_cases (c : Nat) : (valOf c = (c, 0) ∧ (c = 127 ∨ c = 126)) ∨ valOf c = (0, 3) ∨ valOf c = (0, 2) := by
  unfold valOf
  split
  · exact .inl ⟨rfl, by assumption⟩
  · split
    · exact .inr (.inl rfl)
    · exact .inr (.inr rfl)
/-- May a block's type be put? -/
def rightBlock (t : Int) : Bool := decide (t = -64 ∨ t = -1 ∨ t = -2 ∨ (0 ≤ t ∧ t ≤ 4294967295))
def Bool1 (w : World) (b : Bool) (e : Ending) (w' : World) : Prop := e = .returned (.bool b) ∧ w = w'
/-- Ints that a slice leads to: each a cell of its own, in a block below B. -/
def Ints (w : World) (B : Nat) (A : Option Addr) (l : List Int) : Prop :=
  0 < l.length → ∃ b off, A = some ⟨b, off, none⟩ ∧ b < B ∧ ∀ (j : Nat) (h : j < l.length), w.cell? ⟨b, off + j, none⟩ = some (.int .i64 l[j])
theorem Ints.below {w w' : World} {B : Nat} {A : Option Addr} {l : List Int} (h : Ints w B A l) (hb : Below B w w') : Ints w' B A l := by
  intro hl
  obtain ⟨b, off, e, hB, hc⟩ := h hl
  exact ⟨b, off, e, hB, fun j hj => (hb.cell hB).trans (hc j hj)⟩
theorem Ints.more {w : World} {B B' : Nat} {A : Option Addr} {l : List Int} (h : Ints w B A l) (hB : B ≤ B') : Ints w B' A l := by
  intro hl
  obtain ⟨b, off, e, hb, hc⟩ := h hl
  exact ⟨b, off, e, by omega, hc⟩
theorem Ints.drewN {w : World} {B : Nat} {A : Option Addr} {l : List Int} (h : Ints w B A l) (n : Nat) : Ints (w.drewN n) B A l := h
theorem Ints.nil (w : World) (B : Nat) (A : Option Addr) : Ints w B A [] := fun h => absurd h (by simp)
theorem ints_of_row {w : World} {a : Option Addr} {len cap : Nat} {zs : List Int} (h : RowIn .i64 w a len cap zs) :
    ∃ l : List Int, l.length = len ∧ Ints w w.heap.size a l ∧ (∀ x ∈ l, -9223372036854775808 ≤ x ∧ x ≤ 9223372036854775807) ∧ len ≤ cap ∧ cap ≤ maxLen := by
  rcases h with ⟨rfl, rfl, rfl, rfl⟩ | ⟨x, rfl, hl, hm, hz, hcell, hwf⟩
  · exact ⟨[], rfl, Ints.nil _ _ _, by simp, Nat.le_refl _, by simp [maxLen]⟩
  · refine ⟨zs.take len, by simp; omega, ?_, fun y hy => bounds_i64 (hwf y (List.mem_of_mem_take hy)), hl, hm⟩
    intro hlen
    have hlen' : 0 < len := by simp at hlen; omega
    have h0 := hcell 0 (by omega)
    obtain ⟨b, off, spot⟩ := x
    have hspot : spot = none := by simpa [Addr.add] using World.cell?_spot h0
    subst hspot
    have hblk : b < w.heap.size := by
      have := World.block_lt_of_cell? w _ h0
      simpa [Addr.add] using this
    refine ⟨b, off, rfl, hblk, ?_⟩
    intro j hj
    have hj' : j < len ∧ j < zs.length := by simp at hj; omega
    have hc := hcell j hj'.2
    have e1 : zs.getD j 0 = zs[j] := by simp [List.getD, List.getElem?_eq_getElem hj'.2]
    rw [e1] at hc
    have e2 : (zs.take len)[j] = zs[j] := by simp
    rw [e2]
    by_cases h0 : j = 0
    · subst h0; simpa [Addr.add] using hc
    · simpa [Addr.add, h0] using hc
def iv (x : Int) : Value := .int .i64 x
theorem int_info : (Try.prog.info? 3).map (fun i => (i.zero, i.size, i.bytes)) = some (some (.int .i64 0), 1, 8) := by kernel_rfl
/-- The slice value v owns the ints l, in a block from 'base' on. -/
def OwnI (w : World) (base : Nat) (v : Value) (l : List Int) : Prop := w.ownsRow base 3 1 v l.length (l.map iv)
theorem OwnI.alloc {w : World} {base : Nat} {v : Value} {l : List Int} (h : OwnI w base v l) (o : Obj) : OwnI (w.alloc o) base v l := World.ownsRow.alloc h o
theorem OwnI.nil (w : World) (base : Nat) : OwnI w base (.slice none 0 0) [] := World.ownsRow_nil _ _ _ _
theorem OwnI.lt {w : World} {base : Nat} {v : Value} {l : List Int} (h : OwnI w base v l) : ∀ k, v.ownBlock = some k → k < w.heap.size := fun k hk => (World.ownsRow.lt h k hk).2
theorem OwnI.keep {w w' : World} {base B : Nat} {v : Value} {l : List Int} (h : OwnI w base v l) (hb : Below B w w') (hB : ∀ k, v.ownBlock = some k → k < B) : OwnI w' base v l := by
  refine ⟨h.1, ?_⟩
  rcases h.2 with ⟨rfl, h0⟩ | ⟨g, cap, cur, rfl, h1, h2, h3, h4, h5⟩
  · exact .inl ⟨rfl, h0⟩
  · exact .inr ⟨g, cap, cur, rfl, h1, (hb.block g (hB g rfl)).trans h2, h3, h4, h5⟩
/-- What is owned, as a slice that leads to ints. -/
theorem OwnI.ints {w : World} {base : Nat} {v : Value} {l : List Int} (h : OwnI w base v l) :
    ∃ A cap, v = .slice A l.length cap ∧ Ints w w.heap.size A l ∧ l.length ≤ cap ∧ (A = none → cap = 0) := by
  have hlt := h.lt
  rcases h.2 with ⟨rfl, h0⟩ | ⟨g, cap, cur, rfl, h1, h2, h3, h4, h5⟩
  · refine ⟨none, 0, by rw [h0], fun h => by omega, by omega, fun _ => rfl⟩
  · refine ⟨some ⟨g, 0, none⟩, cap, rfl, fun _ => ⟨g, 0, rfl, hlt g rfl, fun j hj => ?_⟩, h3, fun h => by cases h⟩
    have hc := World.ownsRow.cellAt h j (by omega)
    rw [Nat.zero_add, hc]
    simp [iv, hj]
theorem belowI_own {w w' : World} {base : Nat} {v : Value} {l : List Int} (h : OwnI w base v l) (hb : base ≤ w.heap.size) (hg : w.grownBy w' v.ownBlock) : Below base w w' :=
  (Below.refl _ _).grown hg hb (fun k hk => (World.ownsRow.lt h k hk).1)
/-- 'append(s, x)': s is owned. -/
theorem app_int {w : World} {ops : Array Oper} {rest : List Oper} {o : Oper} {a : Act} {Q : Exit → Act → World → Prop} (hgd : o.guard = none) (s x : Operand) (ho : o.op = .call { callee := .builtin .append, args := #[s, x], argTypes := #[28, 28] })
    (base : Nat) (v : Value) (l : List Int) (hs : a.eval s = v) (hown : OwnI w base v l) (g : Nat) (y : Int) (hx : a.eval x = .slice (some ⟨g, 0, none⟩) 1 1) (hy : w.cell? ⟨g, 0, none⟩ = some (.int .i64 y))
    (hlen : l.length ≤ 1000000) (hbase : base ≤ w.heap.size)
    (h : ∀ v' w', OwnI w' base v' (l ++ [y]) → Below base w w' → wpList Try.prog ops Q rest (a.put o.dst v') w') : wpList Try.prog ops Q (o :: rest) a w := by
  obtain ⟨i0, hi0, hz0, hz1, hz2⟩ := info_parts int_info
  refine wpList_append_own_at w hgd s x _ ho base 3 i0 (.int .i64 0) 1 8 Try.underlying28 hi0 hz0 hz1 hz2 rfl (by omega) v l.length (l.map iv) hs hown ⟨g, 0, none⟩ 1 1 [iv y] hx (by simp) ?_ ?_ (by simp only [maxLen]; omega) (by omega) hbase ?_
  · intro j u hu
    match j, hu with
    | 0, hu => simp at hu; subst hu; simpa [Addr.add, iv] using hy
  · intro u hu
    have : u = iv y := by simpa using hu
    subst this
    rfl
  · intro v' w' h1 h2 _ _
    refine h v' w' ?_ (belowI_own hown hbase h2)
    unfold OwnI
    rw [List.length_append, List.map_append]
    exact h1
theorem take_nextI {l l' : List Int} {k : Nat} (h : k < l.length) (h' : k < l'.length) (ht : l.take k = l'.take k) (he : l[k] = l'[k]) : l.take (k + 1) = l'.take (k + 1) := by
  rw [List.take_succ_eq_append_getElem h, List.take_succ_eq_append_getElem h', ht, he]
/-- So many types of the bytes' beginning, or the first error. -/
def takeVals : Nat → List Nat → List Int × Nat
  | 0, _ => ([], 0)
  | _ + 1, [] => ([], 1)
  | n + 1, c :: l => if (valOf c).2 ≠ 0 then ([], (valOf c).2) else if (takeVals n l).2 = 0 then ((c : Int) :: (takeVals n l).1, 0) else ([], (takeVals n l).2)
/-- What was read and what is still read, together. -/
def joined (xs : List Int) (r : List Int × Nat) : List Int × Nat := if r.2 = 0 then (xs ++ r.1, 0) else ([], r.2)
/-- What vals answers: the types, the place behind them, the error. -/
def valsRes (l : List Nat) (p : Nat) : List Int × Nat × Nat :=
  if (uRes (l.drop p) 32).2.2 ≠ 0 then ([], 0, (uRes (l.drop p) 32).2.2)
  else if 8 < (uRes (l.drop p) 32).1 then ([], 0, 4)
  else if (takeVals (uRes (l.drop p) 32).1 (l.drop (p + (uRes (l.drop p) 32).2.1))).2 = 0 then ((takeVals (uRes (l.drop p) 32).1 (l.drop (p + (uRes (l.drop p) 32).2.1))).1, p + (uRes (l.drop p) 32).2.1 + (uRes (l.drop p) 32).1, 0)
  else ([], 0, (takeVals (uRes (l.drop p) 32).1 (l.drop (p + (uRes (l.drop p) 32).2.1))).2)
theorem joined_nil (r : List Int × Nat) : (r.2 ≠ 0 → r.1 = []) → joined [] r = r := by
  intro h
  unfold joined
  split
  · rename_i h0; rw [List.nil_append, ← h0]
  · rename_i h0; rw [← h h0]
theorem takeVals_err (n : Nat) (l : List Nat) : (takeVals n l).2 ≠ 0 → (takeVals n l).1 = [] := by
  intro h
  cases n with
  | zero => simp [takeVals] at h
  | succ n =>
    cases l with
    | nil => rfl
    | cons c l =>
      simp only [takeVals] at h ⊢
      split
      · rfl
      · rename_i h1
        rw [if_neg h1] at h
        split
        · rename_i h2; rw [if_pos h2] at h; simp at h
        · rfl
theorem joined_end (xs : List Int) (n : Nat) (l : List Nat) (h : l = []) : joined xs (takeVals (n + 1) l) = ([], 1) := by
  subst h; simp [takeVals, joined]
theorem joined_err (xs : List Int) (n c : Nat) (l : List Nat) (h : (valOf c).2 ≠ 0) : joined xs (takeVals (n + 1) (c :: l)) = ([], (valOf c).2) := by
  simp only [takeVals, if_pos h, joined, if_neg h]
theorem joined_next (xs : List Int) (n c : Nat) (l : List Nat) (h : (valOf c).2 = 0) : joined xs (takeVals (n + 1) (c :: l)) = joined (xs ++ [(c : Int)]) (takeVals n l) := by
  simp only [takeVals, h, ne_eq, not_true_eq_false, if_false]
  unfold joined
  by_cases h2 : (takeVals n l).2 = 0
  · simp [h2]
  · simp [h2]
def Vals3 (w : World) (r : List Int × Nat × Nat) (e : Ending) (w' : World) : Prop :=
  ∃ v, e = .returned (.tuple #[v, .int .i64 (r.2.1 : Int), .int .i64 (r.2.2 : Int)]) ∧ OwnI w' w.heap.size v r.1 ∧ Below w.heap.size w w'
theorem takeVals_ok (n : Nat) (l : List Nat) (h : (takeVals n l).2 = 0) : n ≤ l.length ∧ (takeVals n l).1 = (l.take n).map (fun x : Nat => (x : Int)) ∧ ∀ x ∈ l.take n, x = 127 ∨ x = 126 := by
  induction n generalizing l with
  | zero => simp [takeVals]
  | succ n ih =>
    cases l with
    | nil => simp [takeVals] at h
    | cons c l =>
      simp only [takeVals] at h ⊢
      by_cases hv : (valOf c).2 ≠ 0
      · rw [if_pos hv] at h; exact absurd h hv
      · rw [if_neg hv] at h ⊢
        have hc : c = 127 ∨ c = 126 := by
          rcases valOf_cases c with h1 | h1 | h1
          · exact h1.2
          · rw [h1] at hv; simp at hv
          · rw [h1] at hv; simp at hv
        by_cases h2 : (takeVals n l).2 = 0
        · obtain ⟨i1, i2, i3⟩ := ih l h2
          rw [if_pos h2]
          refine ⟨by simp; omega, by simp [i2], ?_⟩
          intro x hx
          simp only [List.take_succ_cons, List.mem_cons] at hx
          rcases hx with rfl | hx
          · exact hc
          · exact i3 x hx
        · rw [if_neg h2] at h; exact absurd h h2
theorem valsRes_ok (l : List Nat) (p : Nat) (hp : p ≤ l.length) (h : (valsRes l p).2.2 = 0) : p ≤ (valsRes l p).2.1 ∧ (valsRes l p).2.1 ≤ l.length ∧ (valsRes l p).1.length ≤ 8 ∧ ∀ x ∈ (valsRes l p).1, x = 127 ∨ x = 126 := by
  unfold valsRes at h ⊢
  have h32 := uRes_32 (l.drop p)
  generalize uRes (l.drop p) 32 = g at *
  obtain ⟨u, s, e⟩ := g
  simp only at h32 h ⊢
  by_cases he : e = 0
  · subst he
    obtain ⟨h1, h2, h3⟩ := h32 rfl
    rw [if_neg (by simp)] at h ⊢
    by_cases hu : 8 < u
    · rw [if_pos hu] at h; simp at h
    · rw [if_neg hu] at h ⊢
      by_cases ht : (takeVals u (l.drop (p + s))).2 = 0
      · obtain ⟨t1, t2, t3⟩ := takeVals_ok _ _ ht
        rw [if_pos ht]
        simp only [List.length_drop] at t1 h3
        refine ⟨by simp only; omega, by simp only; omega, by simp only; rw [t2]; simp; omega, ?_⟩
        intro x hx
        simp only at hx
        rw [t2] at hx
        obtain ⟨y, hy, rfl⟩ := List.mem_map.1 hx
        have := t3 y hy
        omega
      · rw [if_neg ht] at h; exact absurd h ht
  · rw [if_pos he] at h; exact absurd h he
/-- What Func answers: the parameters' types, the results', how many bytes, the error. -/
def funcRes (l : List Nat) : List Int × List Int × Nat × Nat :=
  if l.length < 1 then ([], [], 0, 1)
  else if l.getD 0 0 ≠ 96 then ([], [], 0, 2)
  else if (valsRes l 1).2.2 ≠ 0 then ([], [], 0, (valsRes l 1).2.2)
  else if (valsRes l (valsRes l 1).2.1).2.2 ≠ 0 then ([], [], 0, (valsRes l (valsRes l 1).2.1).2.2)
  else ((valsRes l 1).1, (valsRes l (valsRes l 1).2.1).1, (valsRes l (valsRes l 1).2.1).2.1, 0)
/-- A function's type as a value: its two slices lead to these ints. -/
def FType (w : World) (v : Value) (ps rs : List Int) : Prop :=
  ∃ A c A' c', v = .agg #[.slice A ps.length c, .slice A' rs.length c'] ∧ Ints w w.heap.size A ps ∧ Ints w w.heap.size A' rs ∧ ps.length ≤ c ∧ rs.length ≤ c' ∧ (A = none → c = 0) ∧ (A' = none → c' = 0)
def Func3 (w : World) (r : List Int × List Int × Nat × Nat) (e : Ending) (w' : World) : Prop :=
  ∃ v, e = .returned (.tuple #[v, .int .i64 (r.2.2.1 : Int), .int .i64 (r.2.2.2 : Int)]) ∧ FType w' v r.1 r.2.1 ∧ Below w.heap.size w w'
theorem ftype_nil (w : World) : FType w (.agg #[.slice none 0 0, .slice none 0 0]) [] [] := ⟨none, 0, none, 0, rfl, Ints.nil _ _ _, Ints.nil _ _ _, Nat.le_refl _, Nat.le_refl _, fun _ => rfl, fun _ => rfl⟩
theorem OwnI.setBelow {w : World} {base : Nat} {v : Value} {l : List Int} (h : OwnI w base v l) {a : Addr} (ha : a.block < base) (u : Value) : OwnI (w.setCell a u) base v l := ownsRow_setCell_below h ha u
theorem ftype_of {w : World} {b1 b3 : Nat} {v1 v3 : Value} {xs ys : List Int} (h1 : OwnI w b1 v1 xs) (h3 : OwnI w b3 v3 ys) : FType w (.agg #[v1, v3]) xs ys := by
  obtain ⟨A1, k1, rfl, i1, j1, n1⟩ := h1.ints
  obtain ⟨A3, k3, rfl, i3, j3, n3⟩ := h3.ints
  exact ⟨A1, k1, A3, k3, rfl, i1, i3, j1, j3, n1, n3⟩
/-- A result's cell that was laid and not written since. -/
structure ResAt (w : World) (r : Nat) : Prop where
  c0 : w.cell? ⟨r, 0, none⟩ = some (.slice none 0 0)
  c1 : w.cell? ⟨r, 1, none⟩ = some (.slice none 0 0)
  z0 : w.frozen? ⟨r, 0, none⟩ = false
  z1 : w.frozen? ⟨r, 1, none⟩ = false
theorem ResAt.below {w w' : World} {r : Nat} (h : ResAt w r) (hr : r < w.heap.size) (hb : Below w.heap.size w w') : ResAt w' r :=
  ⟨(hb.cell (p := ⟨r, 0, none⟩) hr).trans h.c0, (hb.cell (p := ⟨r, 1, none⟩) hr).trans h.c1, (hb.frozen (p := ⟨r, 0, none⟩) hr).trans h.z0, (hb.frozen (p := ⟨r, 1, none⟩) hr).trans h.z1⟩
theorem res_at (w : World) (t : TypeId) : ResAt (w.alloc (.cells #[.slice none 0 0, .slice none 0 0] t)) w.heap.size :=
  ⟨by simp, by simp, by simp only [World.frozen?, (MapKept.heap_alloc w _).1]; rfl, by simp only [World.frozen?, (MapKept.heap_alloc w _).1]; rfl⟩
/-- What Block answers: the type, how many bytes, the error. -/
def blockRes (l : List Nat) : Int × Nat × Nat :=
  if l.length < 1 then (0, 0, 1)
  else if l.getD 0 0 = 64 then (-64, 1, 0)
  else if (valOf (l.getD 0 0)).2 = 3 then (0, 0, 3)
  else if (valOf (l.getD 0 0)).2 = 0 then ((l.getD 0 0 : Int) - 128, 1, 0)
  else if (sRes l 33).2.2 ≠ 0 then (0, 0, (sRes l 33).2.2)
  else if (sRes l 33).1 < 0 then (0, 0, 2)
  else ((sRes l 33).1, (sRes l 33).2.1, 0)
def Block3 (w : World) (r : Int × Nat × Nat) (e : Ending) (w' : World) : Prop := e = .returned (.tuple #[.int .i64 r.1, .int .i64 (r.2.1 : Int), .int .i64 (r.2.2 : Int)]) ∧ Below w.heap.size w w'
/-- May limits be put? -/
def rightLim (a : Int) (cap : Bool) (b : Int) : Bool := decide (0 ≤ a ∧ a ≤ 4294967295 ∧ 0 ≤ b ∧ b ≤ 4294967295 ∧ (cap = true ∨ b = 0))
def good (xs : List Int) : Prop := xs.length ≤ 8 ∧ ∀ x ∈ xs, x = 127 ∨ x = 126
instance (xs : List Int) : Decidable (good xs) := by unfold good; infer_instance
def rightF (ps rs : List Int) : Bool := decide (good ps ∧ good rs)
def pick (ps rs : List Int) (j : Nat) : List Int := if j = 0 then ps else rs
/-- What Right has laid when its loop begins: the two slices in a list, and where each leads. -/
structure Two (W : World) (B : Nat) (ps rs : List Int) : Prop where
  cell : ∀ j, j < 2 → ∃ A c, W.cell? ⟨B, j, none⟩ = some (.slice A (pick ps rs j).length c) ∧ Ints W W.heap.size A (pick ps rs j)
theorem two_of (w : World) (A A' : Option Addr) (c c' : Nat) (ps rs : List Int) (t t' : TypeId) (h1 : Ints w w.heap.size A ps) (h2 : Ints w w.heap.size A' rs) :
    Two ((w.alloc (.cells #[.slice A ps.length c, .slice A' rs.length c'] t)).alloc (.cells #[.slice A ps.length c, .slice A' rs.length c'] t')) (w.heap.size + 1) ps rs ∧
      Below w.heap.size w ((w.alloc (.cells #[.slice A ps.length c, .slice A' rs.length c'] t)).alloc (.cells #[.slice A ps.length c, .slice A' rs.length c'] t')) := by
  have hb : Below w.heap.size w ((w.alloc (.cells #[.slice A ps.length c, .slice A' rs.length c'] t)).alloc (.cells #[.slice A ps.length c, .slice A' rs.length c'] t')) := ((Below.refl _ _).alloc (Nat.le_refl _) _).alloc (by simp) _
  have hh := (MapKept.heap_alloc (w.alloc (.cells #[.slice A ps.length c, .slice A' rs.length c'] t)) (.cells #[.slice A ps.length c, .slice A' rs.length c'] t')).1
  rw [show (w.alloc (.cells #[.slice A ps.length c, .slice A' rs.length c'] t)).heap.size = w.heap.size + 1 from by simp] at hh
  refine ⟨⟨fun j hj => ?_⟩, hb⟩
  match j, hj with
  | 0, _ => exact ⟨A, c, by simp only [World.cell?, hh]; rfl, (h1.below hb).more hb.size⟩
  | 1, _ => exact ⟨A', c', by simp only [World.cell?, hh]; rfl, (h2.below hb).more hb.size⟩
theorem right_false (ps rs : List Int) (j : Nat) (h : ¬ good (pick ps rs j)) : rightF ps rs = false := by
  unfold rightF
  apply decide_eq_false
  rintro ⟨h1, h2⟩
  unfold pick at h
  split at h
  · exact h h1
  · exact h h2
/-- The bytes of a function's type. -/
def natsOf (xs : List Int) : List Nat := xs.length :: xs.map Int.toNat
def funcBytes (ps rs : List Int) : List Nat := 96 :: (natsOf ps ++ natsOf rs)
/-- What was there when the loop began is there, but for the block of the bytes; these lie in it, or in a new one. -/
structure Free (W wr : World) (g : Nat) (v : Value) : Prop where
  os : wr.os = W.os
  tape : wr.tape = W.tape
  output : wr.output = W.output
  size : W.heap.size ≤ wr.heap.size
  block : ∀ k, k < W.heap.size → k ≠ g → wr.heap[k]? = W.heap[k]?
  own : v.ownBlock = some g ∨ ∃ k, v.ownBlock = some k ∧ W.heap.size ≤ k
theorem Free.alloc {W wr : World} {g : Nat} {v : Value} (h : Free W wr g v) (o : Obj) : Free W (wr.alloc o) g v :=
  ⟨h.os, h.tape, h.output, by have := h.size; simp; omega, fun k hk hg => by rw [Below.heap_alloc _ _ _ (by have := h.size; omega)]; exact h.block k hk hg, h.own⟩
theorem Free.grown {W wr w' : World} {g : Nat} {v v' : Value} (h : Free W wr g v) (hg : wr.grownBy w' v.ownBlock) (ho : v'.ownBlock = v.ownBlock ∨ v'.ownBlock = some wr.heap.size) : Free W w' g v' := by
  refine ⟨hg.os.trans h.os, hg.tape.trans h.tape, hg.output.trans h.output, Nat.le_trans h.size hg.size, fun k hk hkg => ?_, ?_⟩
  · rw [hg.block k (Nat.lt_of_lt_of_le hk h.size) ?_]
    · exact h.block k hk hkg
    · intro e
      rcases h.own with h1 | ⟨k', h1, h2⟩
      · rw [h1] at e; injection e with e; exact hkg e
      · rw [h1] at e; injection e with e; omega
  · rcases ho with ho | ho
    · rw [ho]; exact h.own
    · exact .inr ⟨_, ho, h.size⟩
theorem Free.below {w W wr : World} {g : Nat} {v : Value} (h : Free W wr g v) (hb : Below w.heap.size w W) (hg : w.heap.size ≤ g) : Below w.heap.size w wr :=
  ⟨h.os.trans hb.os, h.tape.trans hb.tape, h.output.trans hb.output, Nat.le_trans hb.size h.size, fun k hk => (h.block k (Nat.lt_of_lt_of_le hk hb.size) (by omega)).trans (hb.block k hk)⟩
/-- 'append(s, x)', one byte: s is owned; what else there is stays. -/
theorem app_free {w : World} {ops : Array Oper} {rest : List Oper} {o : Oper} {a : Act} {Q : Exit → Act → World → Prop} (hgd : o.guard = none) (s x : Operand) (ho : o.op = .call { callee := .builtin .append, args := #[s, x], argTypes := #[50, 50] })
    (base : Nat) (v : Value) (l : List Nat) (hs : a.eval s = v) (hown : Own w base v l) (gx y : Nat) (hx : a.eval x = .slice (some ⟨gx, 0, none⟩) 1 1) (hy : w.cell? ⟨gx, 0, none⟩ = some (.int .u8 (y : Int)))
    (hlen : l.length ≤ 1000000) (hbase : base ≤ w.heap.size)
    (h : ∀ v' w', Own w' base v' (l ++ [y]) → w.grownBy w' v.ownBlock → (v'.ownBlock = v.ownBlock ∨ v'.ownBlock = some w.heap.size) → wpList Try.prog ops Q rest (a.put o.dst v') w') : wpList Try.prog ops Q (o :: rest) a w := by
  obtain ⟨i0, hi0, hz0, hz1, hz2⟩ := info_parts u8_info
  refine wpList_append_own_at w hgd s x _ ho base 5 i0 (.int .u8 0) 1 1 Try.underlying50 hi0 hz0 hz1 hz2 rfl (by omega) v l.length (l.map bv) hs hown ⟨gx, 0, none⟩ 1 1 [bv y] hx (by simp) ?_ ?_ (by simp only [maxLen]; omega) (by omega) hbase ?_
  · intro j u hu
    match j, hu with
    | 0, hu => simp at hu; subst hu; simpa [Addr.add, bv] using hy
  · intro u hu
    have : u = bv y := by simpa using hu
    subst this
    rfl
  · intro v' w' h1 h2 _ h4
    refine h v' w' ?_ h2 h4
    unfold Own
    rw [List.length_append, List.map_append]
    exact h1
theorem own_lit (w : World) (x : Nat) : Own (w.alloc (.cells #[.int .u8 (x : Int)] 5)) w.heap.size (.slice (some ⟨w.heap.size, 0, none⟩) 1 1) [x] :=
  World.ownsRow_lit w #[.int .u8 (x : Int)] 1 (Nat.le_refl _) (by simp [maxLen]) rfl
theorem own_from {w : World} {base base' : Nat} {v : Value} {l : List Nat} (h : Own w base v l) (hb : base' ≤ base) : Own w base' v l := by
  refine ⟨h.1, ?_⟩
  rcases h.2 with ⟨rfl, h0⟩ | ⟨g, cap, cur, rfl, h1, h2, h3, h4, h5⟩
  · exact .inl ⟨rfl, h0⟩
  · exact .inr ⟨g, cap, cur, rfl, Nat.le_trans hb h1, h2, h3, h4, h5⟩
/-- What stands ahead of list j. -/
def ahead (ps rs : List Int) (j : Nat) : List Nat := if j = 0 then [96] else if j = 1 then 96 :: natsOf ps else funcBytes ps rs
theorem ahead_next (ps rs : List Int) (j : Nat) (hj : j < 2) : ahead ps rs (j + 1) = ahead ps rs j ++ [(pick ps rs j).length] ++ (pick ps rs j).map Int.toNat := by
  match j, hj with
  | 0, _ => simp [ahead, pick, natsOf]
  | 1, _ => simp [ahead, pick, natsOf, funcBytes]
theorem ahead_len (ps rs : List Int) (j : Nat) (g1 : good ps) (g2 : good rs) : (ahead ps rs j).length ≤ 100 := by
  have := g1.1
  have := g2.1
  unfold ahead
  split
  · simp
  · split
    · simp [natsOf]; omega
    · simp [natsOf, funcBytes]; omega
/-- What FuncBytes has laid when its loop begins. -/
structure Laid (w W : World) (ps rs : List Int) : Prop where
  below : Below w.heap.size w W
  size : W.heap.size = w.heap.size + 3
  own : Own W w.heap.size (.slice (some ⟨w.heap.size + 1, 0, none⟩) 1 1) [96]
  cell : ∀ j, j < 2 → ∃ A c, W.cell? ⟨w.heap.size + 1 + 1, j, none⟩ = some (.slice A (pick ps rs j).length c) ∧ Ints w w.heap.size A (pick ps rs j)
theorem laid_of (w : World) (A A' : Option Addr) (c c' : Nat) (ps rs : List Int) (t t' : TypeId) (h1 : Ints w w.heap.size A ps) (h2 : Ints w w.heap.size A' rs) :
    Laid w (((w.alloc (.cells #[.slice A ps.length c, .slice A' rs.length c'] t)).alloc (.cells #[.int .u8 96] 5)).alloc (.cells #[.slice A ps.length c, .slice A' rs.length c'] t')) ps rs := by
  have hs1 : (w.alloc (.cells #[.slice A ps.length c, .slice A' rs.length c'] t)).heap.size = w.heap.size + 1 := by simp
  have hs2 : ((w.alloc (.cells #[.slice A ps.length c, .slice A' rs.length c'] t)).alloc (.cells #[.int .u8 96] 5)).heap.size = w.heap.size + 1 + 1 := by simp
  have hh := (MapKept.heap_alloc ((w.alloc (.cells #[.slice A ps.length c, .slice A' rs.length c'] t)).alloc (.cells #[.int .u8 96] 5)) (.cells #[.slice A ps.length c, .slice A' rs.length c'] t')).1
  rw [hs2] at hh
  refine ⟨(((Below.refl _ _).alloc (Nat.le_refl _) _).alloc (by simp) _).alloc (by simp; omega) _, by simp, ?_, fun j hj => ?_⟩
  · have := (own_lit (w.alloc (.cells #[.slice A ps.length c, .slice A' rs.length c'] t)) 96).alloc (.cells #[.slice A ps.length c, .slice A' rs.length c'] t')
    rw [hs1] at this
    exact own_from this (by omega)
  · match j, hj with
    | 0, _ => exact ⟨A, c, by simp only [World.cell?, hh]; rfl, h1⟩
    | 1, _ => exact ⟨A', c', by simp only [World.cell?, hh]; rfl, h2⟩
/-- A limits' value. -/
def limV (a : Int) (cap : Bool) (b : Int) : Value := .agg #[.int .i64 a, .bool cap, .int .i64 b]
def Lim3 (w : World) (a : Int) (cap : Bool) (b : Int) (n er : Nat) (e : Ending) (w' : World) : Prop := e = .returned (.tuple #[limV a cap b, .int .i64 (n : Int), .int .i64 (er : Int)]) ∧ Below w.heap.size w w'
/-- What Limits has in memory: the first byte, the result, the two numbers. -/
structure LAt (w W : World) (b off k : Nat) (x0 x1 : Int) : Prop where
  below : Below w.heap.size w W
  size : w.heap.size + 1 < W.heap.size
  first : W.cell? ⟨b, off, none⟩ = some (.int .u8 (k : Int))
  r0 : W.cell? ⟨w.heap.size, 0, none⟩ = some (.int .i64 0)
  r1 : W.cell? ⟨w.heap.size, 1, none⟩ = some (.bool false)
  r2 : W.cell? ⟨w.heap.size, 2, none⟩ = some (.int .i64 0)
  z0 : W.frozen? ⟨w.heap.size, 0, none⟩ = false
  z1 : W.frozen? ⟨w.heap.size, 1, none⟩ = false
  z2 : W.frozen? ⟨w.heap.size, 2, none⟩ = false
  n0 : W.cell? ⟨w.heap.size + 1, 0, none⟩ = some (.int .i64 x0)
  n1 : W.cell? ⟨w.heap.size + 1, 1, none⟩ = some (.int .i64 x1)
  y0 : W.frozen? ⟨w.heap.size + 1, 0, none⟩ = false
  y1 : W.frozen? ⟨w.heap.size + 1, 1, none⟩ = false
theorem LAt.keep {w W W' : World} {b off k : Nat} {x0 x1 : Int} (h : LAt w W b off k x0 x1) (hb : b < w.heap.size) (h' : Below W.heap.size W W') : LAt w W' b off k x0 x1 := by
  have hs := h.size
  have C : ∀ p : Addr, p.block ≤ w.heap.size + 1 → W'.cell? p = W.cell? p := fun p hp => h'.cell (by omega)
  have F : ∀ p : Addr, p.block ≤ w.heap.size + 1 → W'.frozen? p = W.frozen? p := fun p hp => h'.frozen (by omega)
  exact ⟨h.below.trans (h'.mono h.below.size), by have := h'.size; omega, (C _ (by simp; omega)).trans h.first, (C _ (by simp)).trans h.r0, (C _ (by simp)).trans h.r1, (C _ (by simp)).trans h.r2, (F _ (by simp)).trans h.z0, (F _ (by simp)).trans h.z1, (F _ (by simp)).trans h.z2,
    (C _ (by simp)).trans h.n0, (C _ (by simp)).trans h.n1, (F _ (by simp)).trans h.y0, (F _ (by simp)).trans h.y1⟩
theorem LAt.set {w W : World} {b off k : Nat} {x0 x1 : Int} (h : LAt w W b off k x0 x1) (hb : b < w.heap.size) (j : Nat) (v : Int) (hj : j < 2) : LAt w (W.setCell ⟨w.heap.size + 1, j, none⟩ (.int .i64 v)) b off k (if j = 0 then v else x0) (if j = 0 then x1 else v) := by
  have H : ∀ q, q ≠ w.heap.size + 1 → (W.setCell ⟨w.heap.size + 1, j, none⟩ (.int .i64 v)).heap[q]? = W.heap[q]? := fun q hq => Below.heap_setCell _ _ _ _ hq
  have C : ∀ p : Addr, p.block ≠ w.heap.size + 1 → (W.setCell ⟨w.heap.size + 1, j, none⟩ (.int .i64 v)).cell? p = W.cell? p := fun p hp => World.cell?_of_block (H _ hp)
  have F : ∀ p : Addr, p.block ≠ w.heap.size + 1 → (W.setCell ⟨w.heap.size + 1, j, none⟩ (.int .i64 v)).frozen? p = W.frozen? p := fun p hp => World.frozen?_of_block (H _ hp)
  have hs := h.size
  refine ⟨h.below.setCell (by simp) _, by simpa using hs, (C _ (by simp; omega)).trans h.first, (C _ (by simp)).trans h.r0, (C _ (by simp)).trans h.r1, (C _ (by simp)).trans h.r2, (F _ (by simp)).trans h.z0, (F _ (by simp)).trans h.z1, (F _ (by simp)).trans h.z2, ?_, ?_, ?_, ?_⟩
  · match j, hj with
    | 0, _ => exact World.cell?_setCell_same _ _ _ h.n0
    | 1, _ => exact (World.cell?_setCell_other _ _ _ _ (by simp)).trans h.n0
  · match j, hj with
    | 0, _ => exact (World.cell?_setCell_other _ _ _ _ (by simp)).trans h.n1
    | 1, _ => exact World.cell?_setCell_same _ _ _ h.n1
  · simpa using h.y0
  · simpa using h.y1
theorem lat_of (w : World) (b off k : Nat) (t t' : TypeId) (hb : b < w.heap.size) (hc : w.cell? ⟨b, off, none⟩ = some (.int .u8 (k : Int))) :
    LAt w ((w.alloc (.cells #[.int .i64 0, .bool false, .int .i64 0] t)).alloc (.cells #[.int .i64 0, .int .i64 0] t')) b off k 0 0 := by
  have hbel : Below w.heap.size w ((w.alloc (.cells #[.int .i64 0, .bool false, .int .i64 0] t)).alloc (.cells #[.int .i64 0, .int .i64 0] t')) := ((Below.refl _ _).alloc (Nat.le_refl _) _).alloc (by simp) _
  have hs1 : (w.alloc (.cells #[.int .i64 0, .bool false, .int .i64 0] t)).heap.size = w.heap.size + 1 := by simp
  have hh := (MapKept.heap_alloc (w.alloc (.cells #[.int .i64 0, .bool false, .int .i64 0] t)) (.cells #[.int .i64 0, .int .i64 0] t')).1
  have hr := (MapKept.heap_alloc (w.alloc (.cells #[.int .i64 0, .bool false, .int .i64 0] t)) (.cells #[.int .i64 0, .int .i64 0] t')).2 w.heap.size (by omega)
  rw [hs1] at hh
  rw [(MapKept.heap_alloc w _).1] at hr
  refine ⟨hbel, by simp, (hbel.cell (p := ⟨b, off, none⟩) hb).trans hc, ?_, ?_, ?_, ?_, ?_, ?_, ?_, ?_, ?_, ?_⟩
  · simp only [World.cell?, hr]; rfl
  · simp only [World.cell?, hr]; rfl
  · simp only [World.cell?, hr]; rfl
  · simp only [World.frozen?, hr]; rfl
  · simp only [World.frozen?, hr]; rfl
  · simp only [World.frozen?, hr]; rfl
  · simp only [World.cell?, hh]; rfl
  · simp only [World.cell?, hh]; rfl
  · simp only [World.frozen?, hh]; rfl
  · simp only [World.frozen?, hh]; rfl
theorem LAt.at {w W : World} {b off k : Nat} {x0 x1 : Int} (h : LAt w W b off k x0 x1) (j : Nat) (hj : j < 2) : (∃ v, W.cell? ⟨w.heap.size + 1, j, none⟩ = some v) ∧ W.frozen? ⟨w.heap.size + 1, j, none⟩ = false := by
  match j, hj with
  | 0, _ => exact ⟨⟨_, h.n0⟩, h.y0⟩
  | 1, _ => exact ⟨⟨_, h.n1⟩, h.y1⟩
/-- The first number, the second one. -/
def lim1 (l : List Nat) : Nat × Nat × Nat := uRes (l.drop 1) 32
def lim2 (l : List Nat) : Nat × Nat × Nat := uRes (l.drop (1 + (lim1 l).2.1)) 32
/-- What Limits answers: the least, whether there is a most, the most, how many bytes, the error. -/
def limRes (l : List Nat) : Nat × Bool × Nat × Nat × Nat :=
  if l.length < 1 then (0, false, 0, 0, 1)
  else if l.getD 0 0 ≠ 0 ∧ l.getD 0 0 ≠ 1 then (0, false, 0, 0, 2)
  else if (lim1 l).2.2 ≠ 0 then (0, false, 0, 0, (lim1 l).2.2)
  else if l.getD 0 0 = 0 then ((lim1 l).1, false, 0, 1 + (lim1 l).2.1, 0)
  else if (lim2 l).2.2 ≠ 0 then (0, false, 0, 0, (lim2 l).2.2)
  else ((lim1 l).1, true, (lim2 l).1, 1 + (lim1 l).2.1 + (lim2 l).2.1, 0)
/-- What is known ahead of round j: the place, the two numbers. -/
def limAt (l : List Nat) (j p x0 x1 : Nat) : Prop :=
  (j = 0 ∧ p = 1 ∧ x0 = 0 ∧ x1 = 0) ∨ (j = 1 ∧ (lim1 l).2.2 = 0 ∧ p = 1 + (lim1 l).2.1 ∧ x0 = (lim1 l).1 ∧ x1 = 0) ∨
    (j = 2 ∧ (lim1 l).2.2 = 0 ∧ (lim2 l).2.2 = 0 ∧ p = 1 + (lim1 l).2.1 + (lim2 l).2.1 ∧ x0 = (lim1 l).1 ∧ x1 = (lim2 l).1)
/-- One number more is read at place p, ahead of round j. -/
theorem limAt_read {l : List Nat} {j p x0 x1 k : Nat} (h : limAt l j p x0 x1) (hj : j ≤ k) (hk : k ≤ 1) (hl : ¬ l.length < 1) (hf : l.getD 0 0 = k) :
    ((uRes (l.drop p) 32).2.2 ≠ 0 → limRes l = (0, false, 0, 0, (uRes (l.drop p) 32).2.2)) ∧
      ((uRes (l.drop p) 32).2.2 = 0 → limAt l (j + 1) (p + (uRes (l.drop p) 32).2.1) (if j = 0 then (uRes (l.drop p) 32).1 else x0) (if j = 0 then x1 else (uRes (l.drop p) 32).1)) := by
  rcases h with ⟨rfl, rfl, rfl, rfl⟩ | ⟨rfl, h1, rfl, rfl, rfl⟩ | ⟨rfl, _⟩
  · have e : uRes (l.drop 1) 32 = lim1 l := rfl
    rw [e]
    refine ⟨fun h => ?_, fun h => .inr (.inl ⟨rfl, h, rfl, rfl, rfl⟩)⟩
    unfold limRes
    rw [if_neg hl, if_neg (by omega), if_pos h]
  · have e : uRes (l.drop (1 + (lim1 l).2.1)) 32 = lim2 l := rfl
    rw [e]
    refine ⟨fun h => ?_, fun h => .inr (.inr ⟨rfl, h1, h, rfl, rfl, rfl⟩)⟩
    unfold limRes
    rw [if_neg hl, if_neg (by omega), if_neg (by omega), if_neg (by omega), if_pos h]
  · omega
theorem limAt_end {l : List Nat} {j p x0 x1 k : Nat} (h : limAt l j p x0 x1) (hj : j = k + 1) (hk : k ≤ 1) (hl : ¬ l.length < 1) (hf : l.getD 0 0 = k) : limRes l = (x0, decide (k = 1), x1, p, 0) := by
  unfold limRes
  rcases h with ⟨rfl, _⟩ | ⟨rfl, h1, rfl, rfl, rfl⟩ | ⟨rfl, h1, h2, rfl, rfl, rfl⟩
  · omega
  · obtain rfl : k = 0 := by omega
    rw [if_neg hl, if_neg (by omega), if_neg (by omega), if_pos hf]; rfl
  · obtain rfl : k = 1 := by omega
    rw [if_neg hl, if_neg (by omega), if_neg (by omega), if_neg (by omega), if_neg (by omega)]; rfl
theorem bytes_from {w : World} {B : Nat} {b off : Nat} {l : List Nat} (hb : Bytes w B (some ⟨b, off, none⟩) l) (p : Nat) : Bytes w B (some ⟨b, off + p, none⟩) (l.drop p) := by
  refine ⟨fun x hx => hb.1 x (List.mem_of_mem_drop hx), fun hl => ?_⟩
  obtain ⟨b', off', e, hbb, hc⟩ := hb.2 (by simp at hl; omega)
  injection e with e
  injection e with e1 e2 _
  subst e1 e2
  refine ⟨b, off + p, rfl, hbb, fun j hj => ?_⟩
  have hj' : p + j < l.length := by simp at hj; omega
  rw [Nat.add_assoc, hc (p + j) hj']
  simp
/-- The bytes of limits. -/
def limBytes (a : Nat) (cap : Bool) (b : Nat) : List Nat := if cap then 1 :: (putU a ++ putU b) else 0 :: putU a
theorem app_step {w : World} {ops : Array Oper} {o : Oper} {a : Act} {K : Act → World → Prop} {Q : Exit → Act → World → Prop} {E : Prop} (hg : o.guard = none) (s x : Operand) (ho : o.op = .call { callee := .builtin .append, args := #[s, x], argTypes := #[50, 50] })
    (base : Nat) (v : Value) (l : List Nat) (hs : a.eval s = v) (hown : Own w base v l) (hb : ∀ y ∈ l, y < 256) (A : Option Addr) (l' : List Nat) (m c B k : Nat) (hm : l'.length = m) (hx : a.eval x = .slice A m c) (hr : Bytes w B A l') (h0 : 0 < m)
    (hk : (l ++ l').length = k) (hlen : k ≤ 140737488355328) (hbase : base ≤ w.heap.size)
    (h : ∀ A' c' w', Own w' base (.slice A' k c') (l ++ l') → Bytes w' w'.heap.size A' (l ++ l') → k ≤ c' → (A' = none → c' = 0) → Below base w w' → K (a.put o.dst (.slice A' k c')) w') :
    if Region.wanted o (yielded ops a.tmps) = true then Oper.wp Try.prog o a w K Q else E := by
  have hw : Region.wanted o (yielded ops a.tmps) = true := by simp [Region.wanted, hg]
  rw [if_pos hw]
  obtain ⟨i0, hi0, hz0, hz1, hz2⟩ := info_parts u8_info
  subst hm
  have hlen' : l.length + l'.length ≤ 140737488355328 := by simp at hk; omega
  obtain ⟨b, off, rfl, _, hcell⟩ := hr.2 h0
  refine wp_append_own w s x _ ho base 5 i0 (.int .u8 0) 1 1 Try.underlying50 hi0 hz0 hz1 hz2 rfl (by omega) v l.length (l.map bv) hs hown ⟨b, off, none⟩ l'.length c (l'.map bv) hx (by simp) ?_ (bv_oneCell l') (by simp only [maxLen]; omega) (by omega) hbase ?_
  · intro j u hu
    have hj : j < l'.length := by
      rcases Nat.lt_or_ge j l'.length with hj | hj
      · exact hj
      · rw [List.getElem?_eq_none (by simpa using hj)] at hu; cases hu
    have := hcell j hj
    rw [List.getElem?_map, List.getElem?_eq_getElem hj] at hu
    simp at hu
    subst hu
    by_cases h0 : j = 0
    · subst h0; simpa [Addr.add, bv] using this
    · simpa [Addr.add, h0, bv] using this
  · intro v' w' h1 h2 _
    have ho' : Own w' base v' (l ++ l') := by
      unfold Own
      rw [List.length_append, List.map_append]
      exact h1
    subst hk
    obtain ⟨A', c', hv, h3, h4, h5⟩ := ho'.bytes (fun y hy => (List.mem_append.1 hy).elim (hb y) (hr.1 y))
    subst hv
    exact h A' c' w' ho' h3 h4 h5 (below_own hown hbase h2)
theorem putU_lt (n : Nat) : ∀ x ∈ putU n, x < 256 := putUf_byte 9 n
theorem putU_len (n : Nat) : 1 ≤ (putU n).length ∧ (putU n).length ≤ 10 := by
  have := putUf_len 9 n
  unfold putU
  omega
/-- What Val answers: the type, how many bytes, the error. -/
def valRes (l : List Nat) : Nat × Nat × Nat :=
  if l.length < 1 then (0, 0, 1)
  else if (valOf (l.getD 0 0)).2 = 0 then (l.getD 0 0, 1, 0)
  else (0, 0, (valOf (l.getD 0 0)).2)
def Val3 (w : World) (r : Nat × Nat × Nat) (e : Ending) (w' : World) : Prop := e = .returned (.tuple #[.int .i64 (r.1 : Int), .int .i64 (r.2.1 : Int), .int .i64 (r.2.2 : Int)]) ∧ Below w.heap.size w w'
def I64 (n : Int) : Prop := -9223372036854775808 ≤ n ∧ n ≤ 9223372036854775807
/-- New bytes and an error, told as a slice; nothing that was there has changed. -/
def PutIs (w : World) (l : List Nat) (k er : Nat) (e : Ending) (w' : World) : Prop :=
  ∃ A c, e = .returned (.tuple #[.slice A k c, .int .i64 (er : Int)]) ∧ Own w' w.heap.size (.slice A k c) l ∧ Bytes w' w'.heap.size A l ∧ (A = none → c = 0) ∧ k ≤ c ∧ Below w.heap.size w w'
/-- What PutFunc, PutLimits, PutBlock put: bytes, or the error. -/
def putRes (ok : Bool) (l m : List Nat) : List Nat × Nat := if ok then (l ++ m, 0) else ([], 2)
/-- A slice that came in, or was made: where it leads, how much room it has. -/
structure Slc (w : World) (A : Option Addr) (c : Nat) (l : List Nat) : Prop where
  bytes : Bytes w w.heap.size A l
  nil : A = none → c = 0
  room : l.length ≤ c
theorem Slc.below {w w' : World} {A : Option Addr} {c : Nat} {l : List Nat} (h : Slc w A c l) (hb : Below w.heap.size w w') : Slc w' A c l := ⟨(h.bytes.below hb).more hb.size, h.nil, h.room⟩
theorem bytes_lit (w : World) (l : List Nat) (hl : ∀ x ∈ l, x < 256) (t : TypeId) (vs : Array Value) (hv : vs = (l.map bv).toArray) : Bytes (w.alloc (.cells vs t)) (w.heap.size + 1) (some ⟨w.heap.size, 0, none⟩) l := by
  refine ⟨hl, fun _ => ⟨w.heap.size, 0, rfl, by omega, fun j hj => ?_⟩⟩
  subst hv
  simp [hj, bv]
theorem slc_lit (w : World) (l : List Nat) (hl : ∀ x ∈ l, x < 256) (t : TypeId) (vs : Array Value) (c : Nat) (hv : vs = (l.map bv).toArray) (hc : l.length ≤ c) : Slc (w.alloc (.cells vs t)) (some ⟨w.heap.size, 0, none⟩) c l :=
  ⟨by simpa using bytes_lit w l hl t vs hv, (fun h => by cases h), hc⟩
theorem awake_func : funcRes [96, 2, 127, 126, 1, 127, 9] = ([127, 126], [127], 6, 0) := by decide
theorem awake_block : blockRes [64] = (-64, 1, 0) := by decide
theorem putU_one (n : Nat) (h : n < 128) : putU n = [n] := by
  unfold putU
  simp only [putUf]
  rw [if_pos (by omega)]
theorem uRes_one (x : Nat) (l : List Nat) (h : x < 128) : uRes (x :: l) 32 = (x, 1, 0) := by
  have := uRes_put x 32 l (by omega) (by omega) (by omega)
  rw [putU_one x h] at this
  exact this
theorem takeVals_put (xs : List Int) (more : List Nat) (h : ∀ x ∈ xs, x = 127 ∨ x = 126) : takeVals xs.length (xs.map Int.toNat ++ more) = (xs, 0) := by
  induction xs with
  | nil => rfl
  | cons x xs ih =>
    have h1 := h x (by simp)
    have h2 := ih (fun y hy => h y (by simp [hy]))
    simp only [List.length_cons, List.map_cons, List.cons_append, takeVals]
    rcases h1 with rfl | rfl
    · rw [h2]; rfl
    · rw [h2]; rfl
/-- Types that were put at place p are read there. -/
theorem valsRes_put (pre more : List Nat) (xs : List Int) (h : good xs) : valsRes (pre ++ (natsOf xs ++ more)) pre.length = (xs, pre.length + (natsOf xs).length, 0) := by
  obtain ⟨h8, hx⟩ := h
  have hd : (pre ++ (natsOf xs ++ more)).drop pre.length = natsOf xs ++ more := by simp
  have hd2 : (pre ++ (natsOf xs ++ more)).drop (pre.length + 1) = xs.map Int.toNat ++ more := by
    rw [← List.drop_drop, hd]; rfl
  have hu : uRes (natsOf xs ++ more) 32 = (xs.length, 1, 0) := uRes_one _ _ (by omega)
  unfold valsRes
  rw [hd, hu]
  simp only
  rw [hd2, takeVals_put xs more hx]
  simp only [ne_eq, not_true_eq_false, if_false, if_true]
  rw [if_neg (by omega)]
  simp [natsOf]
  omega
theorem natsOf_len (xs : List Int) : (natsOf xs).length = xs.length + 1 := by simp [natsOf]
theorem funcRes_put (ps rs : List Int) (more : List Nat) (h : rightF ps rs = true) : funcRes (funcBytes ps rs ++ more) = (ps, rs, (funcBytes ps rs).length, 0) := by
  unfold rightF at h
  obtain ⟨g1, g2⟩ := of_decide_eq_true h
  have e1 : funcBytes ps rs ++ more = [96] ++ (natsOf ps ++ (natsOf rs ++ more)) := by simp [funcBytes]
  have e2 : funcBytes ps rs ++ more = ([96] ++ natsOf ps) ++ (natsOf rs ++ more) := by simp [funcBytes]
  have v1 : valsRes (funcBytes ps rs ++ more) 1 = (ps, 1 + (natsOf ps).length, 0) := by
    rw [e1]; exact valsRes_put [96] _ ps g1
  have v2 : valsRes (funcBytes ps rs ++ more) (1 + (natsOf ps).length) = (rs, 1 + (natsOf ps).length + (natsOf rs).length, 0) := by
    rw [e2]
    have hl : ([96] ++ natsOf ps).length = 1 + (natsOf ps).length := by simp; omega
    have := valsRes_put ([96] ++ natsOf ps) more rs g2
    rw [hl] at this
    exact this
  unfold funcRes
  rw [v1]
  simp only
  rw [v2]
  rw [if_neg (by simp [funcBytes]), if_neg (by simp [funcBytes])]
  simp [funcBytes]
  omega
theorem limRes_put (a b : Nat) (cap : Bool) (more : List Nat) (ha : a < 4294967296) (hb : b < 4294967296) (hc : cap = true ∨ b = 0) : limRes (limBytes a cap b ++ more) = (a, cap, b, (limBytes a cap b).length, 0) := by
  have h32 : (2 : Nat) ^ 32 = 4294967296 := by decide
  cases cap with
  | false =>
    obtain rfl : b = 0 := by simpa using hc
    have hl : limBytes a false 0 ++ more = 0 :: (putU a ++ more) := by simp [limBytes]
    have u1 : lim1 (0 :: (putU a ++ more)) = (a, (putU a).length, 0) := uRes_put a 32 more (by omega) (by omega) (by omega)
    rw [hl]
    unfold limRes
    rw [u1]
    simp [limBytes]
    omega
  | true =>
    have hl : limBytes a true b ++ more = 1 :: (putU a ++ (putU b ++ more)) := by simp [limBytes]
    have u1 : lim1 (1 :: (putU a ++ (putU b ++ more))) = (a, (putU a).length, 0) := uRes_put a 32 _ (by omega) (by omega) (by omega)
    have u2 : lim2 (1 :: (putU a ++ (putU b ++ more))) = (b, (putU b).length, 0) := by
      unfold lim2
      rw [u1]
      have : (1 :: (putU a ++ (putU b ++ more))).drop (1 + (putU a).length) = putU b ++ more := by rw [Nat.add_comm]; simp
      rw [this]
      exact uRes_put b 32 _ (by omega) (by omega) (by omega)
    rw [hl]
    unfold limRes
    rw [u1, u2]
    simp [limBytes]
    omega
theorem putS_first (t : Int) (h0 : 0 ≤ t) (more : List Nat) : ∃ x l, putS t ++ more = x :: l ∧ (x < 64 ∨ 128 ≤ x) := by
  unfold putS
  simp only [putSf]
  by_cases h : -64 ≤ t ∧ t < 64
  · rw [if_pos h]
    exact ⟨_, _, rfl, .inl (by omega)⟩
  · rw [if_neg h]
    exact ⟨_, _, rfl, .inr (by omega)⟩
theorem valOf_out (x : Nat) (h : x < 64 ∨ 128 ≤ x) : valOf x = (0, 2) := by
  unfold valOf
  rw [if_neg (by omega), if_neg (by omega)]
theorem blockRes_put (t : Int) (more : List Nat) (h : rightBlock t = true) : blockRes (putS t ++ more) = (t, (putS t).length, 0) := by
  unfold rightBlock at h
  rcases of_decide_eq_true h with rfl | rfl | rfl | ⟨h0, h1⟩
  · rfl
  · rfl
  · rfl
  · obtain ⟨x, l, hx, hr⟩ := putS_first t h0 more
    have hs := sRes_put t 33 more (by omega) (by omega) (by constructor <;> (simp only [Nat.reduceSub, Int.reducePow]; omega))
    rw [hx] at hs ⊢
    unfold blockRes
    have hd : (x :: l).getD 0 0 = x := rfl
    rw [hs, hd, valOf_out x hr]
    simp only [List.length_cons]
    rw [if_neg (by omega), if_neg (by omega), if_neg (by omega), if_neg (by omega), if_neg (by omega), if_neg (by omega)]
theorem putS_len (t : Int) : 1 ≤ (putS t).length ∧ (putS t).length ≤ 10 := by
  have := putSf_len 9 t
  unfold putS
  omega
theorem putS_lt (t : Int) : ∀ x ∈ putS t, x < 256 := putSf_byte 9 t
theorem lead_pre (l l' : List Nat) (j : Nat) (h : lead l = j) (hj : j < l.length) (ht : l.take (j + 1) = l'.take (j + 1)) : lead l' = j ∧ j < l'.length := by
  induction l generalizing l' j with
  | nil => simp at hj
  | cons x l ih =>
    cases l' with
    | nil => simp at ht
    | cons y l' =>
      simp only [List.take_succ_cons, List.cons.injEq] at ht
      obtain ⟨rfl, ht⟩ := ht
      simp only [lead] at h ⊢
      by_cases hx : 128 ≤ x
      · rw [if_pos hx] at h ⊢
        cases j with
        | zero => omega
        | succ j =>
          obtain ⟨h1, h2⟩ := ih l' j (by omega) (by simpa using hj) ht
          exact ⟨by omega, by simp; omega⟩
      · rw [if_neg hx] at h ⊢
        subst h
        exact ⟨rfl, by simp⟩
theorem lead_cut (l : List Nat) (k : Nat) (h : k ≤ lead l) : lead (l.take k) = k := by
  induction l generalizing k with
  | nil => simp [lead] at h; subst h; rfl
  | cons x l ih =>
    cases k with
    | zero => rfl
    | succ k =>
      simp only [lead] at h
      by_cases hx : 128 ≤ x
      · rw [if_pos hx] at h
        simp only [List.take_succ_cons, lead]
        rw [if_pos hx, ih k (by omega)]
      · rw [if_neg hx] at h; omega
/-- Numbers: what was gathered. -/
theorem gath_is {l : List Nat} {m v s : Nat} (h : gath l m = (v, s, 0)) : lead l < m ∧ lead l < l.length ∧ s = lead l + 1 ∧ v = gv l (lead l + 1) := by
  unfold gath at h
  have hl := lead_le l
  by_cases h1 : m ≤ lead l
  · rw [if_pos h1] at h; simp at h
  · rw [if_neg h1] at h
    by_cases h2 : lead l = l.length
    · rw [if_pos h2] at h; simp at h
    · rw [if_neg h2] at h
      simp only [Prod.mk.injEq] at h
      exact ⟨by omega, by omega, h.2.1.symm, h.1.symm⟩
theorem gath_pre {l l' : List Nat} {m v s : Nat} (h : gath l m = (v, s, 0)) (ht : l.take s = l'.take s) : gath l' m = (v, s, 0) := by
  obtain ⟨h1, h2, rfl, rfl⟩ := gath_is h
  obtain ⟨e1, e2⟩ := lead_pre l l' (lead l) rfl h2 ht
  unfold gath
  rw [e1, if_neg (by omega), if_neg (by omega)]
  unfold gv
  rw [ht]
theorem gath_cut {l : List Nat} {m v s : Nat} (h : gath l m = (v, s, 0)) (k : Nat) (hk : k < s) : gath (l.take k) m = (0, 0, 1) := by
  obtain ⟨h1, h2, rfl, rfl⟩ := gath_is h
  have e := lead_cut l k (by omega)
  unfold gath
  rw [e, if_neg (by omega), if_pos (by simp; omega)]
theorem getD_pre {l l' : List Nat} {s : Nat} (ht : l.take s = l'.take s) (j : Nat) (hj : j < s) : l.getD j 0 = l'.getD j 0 := by
  have h1 : l.getD j 0 = (l.take s).getD j 0 := by simp [List.getD, hj]
  have h2 : l'.getD j 0 = (l'.take s).getD j 0 := by simp [List.getD, hj]
  rw [h1, h2, ht]
theorem uRes_is {l : List Nat} {n u s : Nat} (h : uRes l n = (u, s, 0)) : gath l (most n) = (u, s, 0) ∧ ¬ (s = most n ∧ l.getD (most n - 1) 0 / 2 ^ inl n ≠ 0) := by
  unfold uRes at h
  by_cases h1 : (gath l (most n)).2.2 = 0
  · rw [if_pos h1] at h
    by_cases h2 : (gath l (most n)).2.1 = most n ∧ l.getD (most n - 1) 0 / 2 ^ inl n ≠ 0
    · rw [if_pos h2] at h; simp at h
    · rw [if_neg h2] at h
      rw [h] at h2
      exact ⟨h, h2⟩
  · rw [if_neg h1] at h
    simp only [Prod.mk.injEq] at h
    exact absurd h.2.2 h1
theorem uRes_pre {l l' : List Nat} {n u s : Nat} (hn : 1 ≤ n) (h : uRes l n = (u, s, 0)) (ht : l.take s = l'.take s) : uRes l' n = (u, s, 0) := by
  obtain ⟨h1, h2⟩ := uRes_is h
  have hm : 1 ≤ most n := by unfold most; omega
  unfold uRes
  rw [gath_pre h1 ht]
  simp only [if_true]
  rw [if_neg]
  rintro ⟨h3, h4⟩
  rw [← getD_pre ht (most n - 1) (by omega)] at h4
  exact h2 ⟨h3, h4⟩
theorem uRes_cut {l : List Nat} {n u s : Nat} (h : uRes l n = (u, s, 0)) (k : Nat) (hk : k < s) : uRes (l.take k) n = (0, 0, 1) := by
  obtain ⟨h1, _⟩ := uRes_is h
  unfold uRes
  rw [gath_cut h1 k hk]
  simp
theorem takeVals_self (n : Nat) (l : List Nat) : takeVals n l = takeVals n (l.take n) := by
  induction n generalizing l with
  | zero => rfl
  | succ n ih =>
    cases l with
    | nil => rfl
    | cons c l => simp only [List.take_succ_cons, takeVals]; rw [← ih l]
theorem takeVals_pre {n : Nat} {l l' : List Nat} (ht : l.take n = l'.take n) : takeVals n l' = takeVals n l := by
  rw [takeVals_self n l', ← ht, ← takeVals_self]
theorem takeVals_cut (n : Nat) (l : List Nat) (h : (takeVals n l).2 = 0) (k : Nat) (hk : k < n) : takeVals n (l.take k) = ([], 1) := by
  induction n generalizing l k with
  | zero => omega
  | succ n ih =>
    cases l with
    | nil => simp [takeVals] at h
    | cons c l =>
      cases k with
      | zero => rfl
      | succ k =>
        simp only [takeVals] at h
        by_cases hv : (valOf c).2 ≠ 0
        · rw [if_pos hv] at h; exact absurd h hv
        · rw [if_neg hv] at h
          by_cases h2 : (takeVals n l).2 = 0
          · simp only [List.take_succ_cons, takeVals]
            rw [if_neg hv, ih l h2 k (by omega)]
            simp
          · rw [if_neg h2] at h; exact absurd h h2
theorem drop_take_pre {l l' : List Nat} {q : Nat} (ht : l.take q = l'.take q) (p s : Nat) (h : p + s ≤ q) : (l.drop p).take s = (l'.drop p).take s := by
  have h1 : (l.drop p).take s = ((l.take q).drop p).take s := by rw [List.drop_take, List.take_take, Nat.min_eq_left (by omega)]
  have h2 : (l'.drop p).take s = ((l'.take q).drop p).take s := by rw [List.drop_take, List.take_take, Nat.min_eq_left (by omega)]
  rw [h1, h2, ht]
/-- Types: what was read of how many. -/
theorem valsRes_is {l : List Nat} {p q : Nat} {xs : List Int} (h : valsRes l p = (xs, q, 0)) : ∃ u s, uRes (l.drop p) 32 = (u, s, 0) ∧ u ≤ 8 ∧ takeVals u (l.drop (p + s)) = (xs, 0) ∧ q = p + s + u := by
  unfold valsRes at h
  generalize hg : uRes (l.drop p) 32 = g at h
  obtain ⟨u, s, e⟩ := g
  simp only at h
  by_cases he : e = 0
  · subst he
    rw [if_neg (by simp)] at h
    by_cases hu : 8 < u
    · rw [if_pos hu] at h; simp at h
    · rw [if_neg hu] at h
      by_cases ht : (takeVals u (l.drop (p + s))).2 = 0
      · rw [if_pos ht] at h
        simp only [Prod.mk.injEq] at h
        exact ⟨u, s, rfl, by omega, by rw [← h.1, ← ht], h.2.1.symm⟩
      · rw [if_neg ht] at h
        simp only [Prod.mk.injEq] at h
        exact absurd h.2.2 ht
  · rw [if_pos he] at h
    simp only [Prod.mk.injEq] at h
    exact absurd h.2.2 he
theorem valsRes_mk {l : List Nat} {p u s : Nat} {xs : List Int} (h1 : uRes (l.drop p) 32 = (u, s, 0)) (h2 : u ≤ 8) (h3 : takeVals u (l.drop (p + s)) = (xs, 0)) : valsRes l p = (xs, p + s + u, 0) := by
  unfold valsRes
  rw [h1]
  simp only
  rw [h3]
  simp only [ne_eq, not_true_eq_false, if_false, if_true]
  rw [if_neg (by omega)]
theorem valsRes_pre {l l' : List Nat} {p q : Nat} {xs : List Int} (h : valsRes l p = (xs, q, 0)) (ht : l.take q = l'.take q) : valsRes l' p = (xs, q, 0) := by
  obtain ⟨u, s, h1, h2, h3, rfl⟩ := valsRes_is h
  refine valsRes_mk (uRes_pre (by omega) h1 (drop_take_pre ht p s (by omega))) h2 ?_
  rw [takeVals_pre (drop_take_pre ht (p + s) u (by omega)), h3]
theorem valsRes_cut {l : List Nat} {p q : Nat} {xs : List Int} (h : valsRes l p = (xs, q, 0)) (k : Nat) (hp : p ≤ k) (hk : k < q) : valsRes (l.take k) p = ([], 0, 1) := by
  obtain ⟨u, s, h1, h2, h3, rfl⟩ := valsRes_is h
  have hd : (l.take k).drop p = (l.drop p).take (k - p) := List.drop_take ..
  unfold valsRes
  rw [hd]
  by_cases hs : k - p < s
  · rw [uRes_cut h1 (k - p) hs]
    simp
  · have h4 : uRes ((l.drop p).take (k - p)) 32 = (u, s, 0) := uRes_pre (by omega) h1 (by rw [List.take_take, Nat.min_eq_left (by omega)])
    have hd2 : (l.take k).drop (p + s) = (l.drop (p + s)).take (k - (p + s)) := List.drop_take ..
    rw [h4]
    simp only
    rw [hd2, takeVals_cut u _ (by rw [h3]) (k - (p + s)) (by omega)]
    simp
    omega
theorem funcRes_is {l : List Nat} {ps rs : List Int} {n : Nat} (h : funcRes l = (ps, rs, n, 0)) : 1 ≤ l.length ∧ l.getD 0 0 = 96 ∧ ∃ q, valsRes l 1 = (ps, q, 0) ∧ valsRes l q = (rs, n, 0) ∧ 1 ≤ q ∧ q ≤ n ∧ n ≤ l.length := by
  unfold funcRes at h
  by_cases h0 : l.length < 1
  · rw [if_pos h0] at h; simp at h
  · rw [if_neg h0] at h
    by_cases h1 : l.getD 0 0 ≠ 96
    · rw [if_pos h1] at h; simp at h
    · rw [if_neg h1] at h
      by_cases h2 : (valsRes l 1).2.2 ≠ 0
      · rw [if_pos h2] at h
        simp only [Prod.mk.injEq] at h
        exact absurd h.2.2.2 h2
      · rw [if_neg h2] at h
        have h2' : (valsRes l 1).2.2 = 0 := by omega
        have ok1 := valsRes_ok l 1 (by omega) h2'
        by_cases h3 : (valsRes l (valsRes l 1).2.1).2.2 ≠ 0
        · rw [if_pos h3] at h
          simp only [Prod.mk.injEq] at h
          exact absurd h.2.2.2 h3
        · rw [if_neg h3] at h
          have h3' : (valsRes l (valsRes l 1).2.1).2.2 = 0 := by omega
          have ok2 := valsRes_ok l _ ok1.2.1 h3'
          simp only [Prod.mk.injEq] at h
          obtain ⟨e1, e2, e3, _⟩ := h
          refine ⟨by omega, by omega, (valsRes l 1).2.1, ?_, ?_, ok1.1, ?_, ?_⟩
          · rw [← e1, ← h2']
          · rw [← e2, ← e3, ← h3']
          · rw [← e3]; exact ok2.1
          · rw [← e3]; exact ok2.2.1
theorem funcRes_mk {l : List Nat} {ps rs : List Int} {n q : Nat} (h0 : 1 ≤ l.length) (h1 : l.getD 0 0 = 96) (h2 : valsRes l 1 = (ps, q, 0)) (h3 : valsRes l q = (rs, n, 0)) : funcRes l = (ps, rs, n, 0) := by
  unfold funcRes
  rw [if_neg (by omega), if_neg (by omega), h2]
  simp only
  rw [h3]
  simp
theorem funcRes_pre {l l' : List Nat} {ps rs : List Int} {n : Nat} (h : funcRes l = (ps, rs, n, 0)) (ht : l.take n = l'.take n) (hl : 1 ≤ l'.length) : funcRes l' = (ps, rs, n, 0) := by
  obtain ⟨h0, h1, q, h2, h3, h4, h5, h6⟩ := funcRes_is h
  have hq : l.take q = l'.take q := by
    have := drop_take_pre ht 0 q (by omega)
    simpa using this
  exact funcRes_mk hl (by rw [← getD_pre ht 0 (by omega)]; exact h1) (valsRes_pre h2 hq) (valsRes_pre h3 ht)
theorem funcRes_app {l : List Nat} {ps rs : List Int} {n : Nat} (h : funcRes l = (ps, rs, n, 0)) (more : List Nat) : funcRes (l ++ more) = (ps, rs, n, 0) := by
  obtain ⟨h0, _, _, _, _, _, _, h6⟩ := funcRes_is h
  exact funcRes_pre h (by rw [List.take_append_of_le_length h6]) (by simp; omega)
theorem funcRes_cut {l : List Nat} {ps rs : List Int} {n : Nat} (h : funcRes l = (ps, rs, n, 0)) (k : Nat) (hk : k < n) : funcRes (l.take k) = ([], [], 0, 1) := by
  obtain ⟨h0, h1, q, h2, h3, h4, h5, h6⟩ := funcRes_is h
  unfold funcRes
  by_cases hk0 : k = 0
  · subst hk0; simp
  have hl : (l.take k).length = k := by simp; omega
  have hg : (l.take k).getD 0 0 = 96 := by
    rw [← h1]
    simp [List.getD, show 0 < k by omega]
  rw [if_neg (by omega), if_neg (by omega)]
  by_cases hkq : k < q
  · rw [valsRes_cut h2 k (by omega) hkq]
    simp
  · have hv : valsRes (l.take k) 1 = (ps, q, 0) := valsRes_pre h2 (by rw [List.take_take, Nat.min_eq_left (by omega)])
    rw [hv]
    simp only
    rw [valsRes_cut h3 k (by omega) hk]
    simp
theorem funcRes_err (l : List Nat) (h : (funcRes l).2.2.2 ≠ 0) : funcRes l = ([], [], 0, (funcRes l).2.2.2) := by
  unfold funcRes at h ⊢
  split
  · rfl
  · rename_i h0
    rw [if_neg h0] at h
    split
    · rfl
    · rename_i h1
      rw [if_neg h1] at h
      split
      · rfl
      · rename_i h2
        rw [if_neg h2] at h
        split
        · rfl
        · rename_i h3
          rw [if_neg h3] at h
          simp at h
end Go.Proofs.Ytlbbnnljclndkaa.Typ
namespace Go.Proofs.Ytlbbnnljclndkaa.Typ
open Go.RowKit Leb

def Same1 (w : World) (v : Value) (e : Ending) (w' : World) : Prop := e = .returned v ∧ w = w'
/-- What begins answers. -/
def bgRes (l fs : List Nat) : Nat := if l.length < 1 then 1 else if l.getD 0 0 ∈ fs then 0 else 2
theorem own_none (w : World) : Own (w.alloc (.cells #[] 5)) w.heap.size (.slice (some ⟨w.heap.size, 0, none⟩) 0 0) [] :=
  World.ownsRow_lit w #[] 0 (Nat.le_refl _) (by simp [maxLen]) rfl
def ValS (w : World) (r : Nat × Nat × Nat) (e : Ending) (w' : World) : Prop := e = .returned (.tuple #[.int .i64 (r.1 : Int), .int .i64 (r.2.1 : Int), .int .i64 (r.2.2 : Int)]) ∧ w = w'
def partI (u : Nat) (xs : List Int) : List Int := xs ++ List.replicate (u - xs.length) 0
theorem partI_len (u : Nat) (xs : List Int) (h : xs.length ≤ u) : (partI u xs).length = u := by simp [partI]; omega
theorem partI_set (u : Nat) (xs : List Int) (y : Int) (h : xs.length < u) : (partI u xs).set xs.length y = partI u (xs ++ [y]) := by
  unfold partI
  rw [List.set_append_right _ _ (Nat.le_refl _), Nat.sub_self, List.length_append, show u - xs.length = (u - (xs.length + [y].length)) + 1 from by simp; omega, List.replicate_succ, List.set_cons_zero]
  simp
theorem partI_end (xs : List Int) : partI xs.length xs = xs := by simp [partI]
theorem made_i64 (n : Nat) : (madeCells (Value.int .i64 0).cells n).toList = (partI n []).map iv := by
  have hz : (Value.int .i64 0).cells = #[.int .i64 0] := by simp [Value.cells]
  rw [hz, toList_madeCells_one]
  simp [partI, iv]
theorem bytes_drop {w : World} {B : Nat} {b off : Nat} {l : List Nat} (hb : Bytes w B (some ⟨b, off, none⟩) l) (p : Nat) : Bytes w B (some ⟨b, off + p, none⟩) (l.drop p) := bytes_from hb p
theorem valsRes_drop (l : List Nat) (p : Nat) : valsRes l p = if (valsRes (l.drop p) 0).2.2 = 0 then ((valsRes (l.drop p) 0).1, p + (valsRes (l.drop p) 0).2.1, 0) else ([], 0, (valsRes (l.drop p) 0).2.2) := by
  unfold valsRes
  simp only [Nat.zero_add, List.drop_drop]
  generalize uRes (l.drop p) 32 = g
  obtain ⟨u, s, e⟩ := g
  simp only
  by_cases he : e = 0
  · subst he
    by_cases hu : 8 < u
    · simp [hu]
    · simp only [hu, ne_eq, not_true_eq_false, if_false]
      by_cases ht : (takeVals u (l.drop (p + s))).2 = 0
      · simp [ht]; omega
      · simp [ht]
  · simp [he]
/-- What Func has laid when it reads: the result, untouched; all that was there. -/
structure FAt (w W : World) : Prop where
  below : Below w.heap.size w W
  size : w.heap.size < W.heap.size
  res : ResAt W w.heap.size
theorem FAt.keep {w W W' : World} (h : FAt w W) (h' : Below W.heap.size W W') : FAt w W' :=
  ⟨h.below.trans (h'.mono h.below.size), Nat.lt_of_lt_of_le h.size h'.size, h.res.below h.size h'⟩
theorem fat_of (w : World) (t : TypeId) (o : Obj) : FAt w ((w.alloc (.cells #[.slice none 0 0, .slice none 0 0] t)).alloc o) := by
  have h1 : FAt w (w.alloc (.cells #[.slice none 0 0, .slice none 0 0] t)) := ⟨(Below.refl _ _).alloc (Nat.le_refl _) _, by simp, res_at w t⟩
  exact h1.keep ((Below.refl _ _).alloc (Nat.le_refl _) _)
/-- What Limits has laid when it reads: the result, untouched; all that was there. -/
structure LmAt (w W : World) : Prop where
  below : Below w.heap.size w W
  size : w.heap.size < W.heap.size
  r0 : W.cell? ⟨w.heap.size, 0, none⟩ = some (.int .i64 0)
  r1 : W.cell? ⟨w.heap.size, 1, none⟩ = some (.bool false)
  r2 : W.cell? ⟨w.heap.size, 2, none⟩ = some (.int .i64 0)
  z0 : W.frozen? ⟨w.heap.size, 0, none⟩ = false
  z1 : W.frozen? ⟨w.heap.size, 1, none⟩ = false
  z2 : W.frozen? ⟨w.heap.size, 2, none⟩ = false
theorem LmAt.keep {w W W' : World} (h : LmAt w W) (h' : Below W.heap.size W W') : LmAt w W' := by
  have hs := h.size
  have C : ∀ p : Addr, p.block = w.heap.size → W'.cell? p = W.cell? p := fun p hp => h'.cell (by omega)
  have F : ∀ p : Addr, p.block = w.heap.size → W'.frozen? p = W.frozen? p := fun p hp => h'.frozen (by omega)
  exact ⟨h.below.trans (h'.mono h.below.size), Nat.lt_of_lt_of_le h.size h'.size, (C _ rfl).trans h.r0, (C _ rfl).trans h.r1, (C _ rfl).trans h.r2, (F _ rfl).trans h.z0, (F _ rfl).trans h.z1, (F _ rfl).trans h.z2⟩
theorem lmat_of (w : World) (t : TypeId) (o : Obj) : LmAt w ((w.alloc (.cells #[.int .i64 0, .bool false, .int .i64 0] t)).alloc o) := by
  have hr := (MapKept.heap_alloc w (.cells #[.int .i64 0, .bool false, .int .i64 0] t)).1
  have h1 : LmAt w (w.alloc (.cells #[.int .i64 0, .bool false, .int .i64 0] t)) := by
    refine ⟨(Below.refl _ _).alloc (Nat.le_refl _) _, by simp, ?_, ?_, ?_, ?_, ?_, ?_⟩
    · simp only [World.cell?, hr]; rfl
    · simp only [World.cell?, hr]; rfl
    · simp only [World.cell?, hr]; rfl
    · simp only [World.frozen?, hr]; rfl
    · simp only [World.frozen?, hr]; rfl
    · simp only [World.frozen?, hr]; rfl
  exact h1.keep ((Below.refl _ _).alloc (Nat.le_refl _) _)
/-- What blockNumber answers. -/
def numRes (l : List Nat) : Int × Nat × Nat :=
  if (sRes l 33).2.2 ≠ 0 then (0, 0, (sRes l 33).2.2)
  else if (sRes l 33).1 < 0 then (0, 0, 2)
  else ((sRes l 33).1, (sRes l 33).2.1, 0)
theorem gives_bb {w : World} {l : List Nat} {k : Nat} {e : Ending} {w' : World} (h : Gives w l e w') (hl : ∀ x ∈ l, x < 256) (hk : l.length = k) : GivesB w l k e w' := by
  obtain ⟨v, rfl, hown, hbel⟩ := h
  subst hk
  obtain ⟨A, c, rfl, hb, hc, h0⟩ := hown.bytes hl
  exact ⟨A, c, rfl, hown, hb, h0, hc, hbel⟩
theorem natsOf_byte (xs : List Int) (hg : good xs) : ∀ x ∈ natsOf xs, x < 256 := by
  intro x hx
  unfold natsOf at hx
  rcases List.mem_cons.1 hx with rfl | hx
  · have := hg.1; omega
  · obtain ⟨y, hy, rfl⟩ := List.mem_map.1 hx
    rcases hg.2 y hy with rfl | rfl <;> decide
theorem putIs_nil {w w' : World} (hb : Below w.heap.size w w') : PutIs w [] 0 2 (.returned (.tuple #[.slice none 0 0, .int .i64 2])) w' :=
  ⟨none, 0, rfl, Own.nil _ _, ⟨by simp, by simp⟩, fun _ => rfl, Nat.le_refl _, hb⟩
theorem putIs_of {w w0 w' : World} {A : Option Addr} {k c : Nat} {l : List Nat} (hown : Own w' w0.heap.size (.slice A k c) l) (h0 : w.heap.size ≤ w0.heap.size) (hb : Bytes w' w'.heap.size A l) (hn : A = none → c = 0) (hk : k ≤ c) (hbel : Below w.heap.size w w') : PutIs w l k 0 (.returned (.tuple #[.slice A k c, .int .i64 0])) w' :=
  ⟨A, c, rfl, own_from hown h0, hb, hn, hk, hbel⟩
/-- A struct parameter's box of two, three cells, kept. -/
structure B2 (w W : World) (x0 x1 : Value) : Prop where
  below : Below w.heap.size w W
  size : w.heap.size < W.heap.size
  c0 : W.cell? ⟨w.heap.size, 0, none⟩ = some x0
  c1 : W.cell? ⟨w.heap.size, 1, none⟩ = some x1
theorem B2.keep {w W W' : World} {x0 x1 : Value} (h : B2 w W x0 x1) (h' : Below W.heap.size W W') : B2 w W' x0 x1 := by
  have hs := h.size
  have C : ∀ p : Addr, p.block = w.heap.size → W'.cell? p = W.cell? p := fun p hp => h'.cell (by omega)
  exact ⟨h.below.trans (h'.mono h.below.size), Nat.lt_of_lt_of_le hs h'.size, (C _ rfl).trans h.c0, (C _ rfl).trans h.c1⟩
theorem b2_of (w : World) (x0 x1 : Value) (t : TypeId) : B2 w (w.alloc (.cells #[x0, x1] t)) x0 x1 := by
  have hr := (MapKept.heap_alloc w (.cells #[x0, x1] t)).1
  exact ⟨(Below.refl _ _).alloc (Nat.le_refl _) _, by simp, by simp only [World.cell?, hr]; rfl, by simp only [World.cell?, hr]; rfl⟩
structure B3 (w W : World) (x0 x1 x2 : Value) : Prop where
  below : Below w.heap.size w W
  size : w.heap.size < W.heap.size
  c0 : W.cell? ⟨w.heap.size, 0, none⟩ = some x0
  c1 : W.cell? ⟨w.heap.size, 1, none⟩ = some x1
  c2 : W.cell? ⟨w.heap.size, 2, none⟩ = some x2
theorem B3.keep {w W W' : World} {x0 x1 x2 : Value} (h : B3 w W x0 x1 x2) (h' : Below W.heap.size W W') : B3 w W' x0 x1 x2 := by
  have hs := h.size
  have C : ∀ p : Addr, p.block = w.heap.size → W'.cell? p = W.cell? p := fun p hp => h'.cell (by omega)
  exact ⟨h.below.trans (h'.mono h.below.size), Nat.lt_of_lt_of_le hs h'.size, (C _ rfl).trans h.c0, (C _ rfl).trans h.c1, (C _ rfl).trans h.c2⟩
theorem B3.drew {w W : World} {x0 x1 x2 : Value} (h : B3 w W x0 x1 x2) : B3 w W.drew x0 x1 x2 := ⟨h.below.drew, h.size, h.c0, h.c1, h.c2⟩
theorem b3_of (w : World) (x0 x1 x2 : Value) (t : TypeId) : B3 w (w.alloc (.cells #[x0, x1, x2] t)) x0 x1 x2 := by
  have hr := (MapKept.heap_alloc w (.cells #[x0, x1, x2] t)).1
  exact ⟨(Below.refl _ _).alloc (Nat.le_refl _) _, by simp, by simp only [World.cell?, hr]; rfl, by simp only [World.cell?, hr]; rfl, by simp only [World.cell?, hr]; rfl⟩
end Go.Proofs.Ytlbbnnljclndkaa.Typ
namespace Go.Proofs.Ytlbbnnljclndkaa.Typ
open Go.RowKit Leb

end Go.Proofs.Ytlbbnnljclndkaa.Typ
namespace Go.Proofs.Ytlbbnnljclndkaa.Typ
open Go.RowKit Leb

set_option maxHeartbeats 1000000 in
theorem sameInts_any (A A' : Option Addr) (l l' : List Int) (c c' B B' : Nat) (w : World) (hb : Ints w B A l) (hb' : Ints w B' A' l') (hlen : l.length ≤ 140737488355328) (hlen' : l'.length ≤ 140737488355328) :
    Calls Try.prog 22 #[.slice A l.length c, .slice A' l'.length c'] w fun e w' => e = .returned (.bool (decide (l = l'))) ∧ ∃ m, w' = w.drewN m := by
  by_cases hll : l.length = l'.length
  · have hne : ((l.length : Int) != (l'.length : Int)) = false := by simp; omega
    have HLL := Lib.hid hll
    clear hll
    go_enter Try.func22, Try.ntmps22
    go_wp2
    go_loopw [5] (fun i wr => ∃ (k m : Nat), k ≤ l.length ∧ i = .int .i64 (k : Int) ∧ Hid (l.take k = l'.take k) ∧ wr = w.drewN m) (fun i _ => l.length - (intOf i).toNat)
    case atStart => exact ⟨0, 0, Nat.zero_le _, rfl, Lib.hid rfl, rfl⟩
    case round =>
      obtain ⟨k, m, hk, rfl, ht, rfl⟩ := hrel
      by_cases hl : k < l.length
      · have hl' : k < l'.length := by have := HLL.out; omega
        obtain ⟨b, off, rfl, _, hcs⟩ := hb (by omega)
        obtain ⟨b', off', rfl, _, hcs'⟩ := hb' (by omega)
        have hc1 := hcs k hl
        have hc2 := hcs' k hl'
        have hli : (k : Int) < (l.length : Int) := by omega
        have hli' : (k : Int) < (l'.length : Int) := by omega
        obtain ⟨x, hx⟩ : ∃ x, x = l[k] := ⟨_, rfl⟩
        obtain ⟨y, hy⟩ : ∃ y, y = l'[k] := ⟨_, rfl⟩
        rw [← hx] at hc1
        rw [← hy] at hc2
        have HX := Lib.hid hx
        have HY := Lib.hid hy
        clear hcs hcs' hb hb' hx hy
        by_cases hxy : x = y
        · subst hxy
          go_wp2
          go_quiet (fail)
          go_wp2
          go_roundw
          case rel => exact ⟨k + 1, _, by omega, by go_num, Lib.hid (take_nextI hl hl' ht.out (by rw [← HX.out, ← HY.out])), rfl⟩
          case measure => simp [intOf]; omega
        · have hxb : (x != y) = true := by simp; omega
          have HXY := Lib.hid hxy
          clear hxy
          go_wp2
          go_quiet (fail)
          go_wp2
          go_ret
          refine ⟨ret_bool (decide_eq_false fun h => HXY.out ?_).symm, _, World.drewN_drewN _ _ _⟩
          subst h
          rw [HX.out, HY.out]
      · have hli : ¬ (k : Int) < (l.length : Int) := by omega
        clear hb hb'
        go_wp2
        go_ret
        refine ⟨ret_bool (decide_eq_true ?_).symm, m, rfl⟩
        have h1 := ht.out
        have h2 := HLL.out
        rw [List.take_of_length_le (by omega), List.take_of_length_le (by omega)] at h1
        exact h1
  · have hne : ((l.length : Int) != (l'.length : Int)) = true := by simp; omega
    have HLL := Lib.hid hll
    clear hll
    go_enter Try.func22, Try.ntmps22
    go_wp2
    go_ret
    exact ⟨ret_bool (decide_eq_false fun h => HLL.out (by rw [h])).symm, 0, rfl⟩
end Go.Proofs.Ytlbbnnljclndkaa.Typ
namespace Go.Proofs.Ytlbbnnljclndkaa.Typ
open Go.RowKit Leb

section
variable (b off p len c s u : Nat) (w : World) (hp : p ≤ len) (hpc : p < c)
include hp hpc
end
end Go.Proofs.Ytlbbnnljclndkaa.Typ
namespace Go.Proofs.Ytlbbnnljclndkaa.Typ
open Go.RowKit Leb

section
variable (b off len c : Nat) (w : World) (hl : 1 ≤ len) (hc : w.cell? ⟨b, off, none⟩ = some (.int .u8 96)) (hb : b < w.heap.size) (xs : List Int) (q : Nat)
include hl hc hb
end
end Go.Proofs.Ytlbbnnljclndkaa.Typ
namespace Go.Proofs.Ytlbbnnljclndkaa.Typ
open Go.RowKit Leb

set_option maxHeartbeats 1000000 in
set_option maxRecDepth 100000 in
theorem same_no (A1 A2 A3 A4 : Option Addr) (n1 n2 n3 n4 c1 c2 c3 c4 : Nat) (w : World)
    (H1 : Hid (∀ W, Below w.heap.size w W → Calls Try.prog 22 #[.slice A1 n1 c1, .slice A3 n3 c3] W fun e w' => e = .returned (.bool false) ∧ ∃ m, w' = W.drewN m)) :
    Calls Try.prog 23 #[.agg #[.slice A1 n1 c1, .slice A2 n2 c2], .agg #[.slice A3 n3 c3, .slice A4 n4 c4]] w fun e w' => e = .returned (.bool false) ∧ Below w.heap.size w w' := by
  have hb : Below w.heap.size w ((w.alloc (.cells #[.slice A1 n1 c1, .slice A2 n2 c2] 46)).alloc (.cells #[.slice A3 n3 c3, .slice A4 n4 c4] 46)) := ((Below.refl _ _).alloc (Nat.le_refl _) _).alloc (by simp) _
  go_enter Try.func23, Try.ntmps23
  go_wp2_with fail
  refine (H1.out _ hb).mono ?_
  rintro e w1 ⟨rfl, m, rfl⟩
  go_wp2
  go_ret
  exact ⟨rfl, below_drewN hb m⟩
set_option maxHeartbeats 1000000 in
set_option maxRecDepth 100000 in
theorem same_then (A1 A2 A3 A4 : Option Addr) (n1 n2 n3 n4 c1 c2 c3 c4 : Nat) (r : Bool) (w : World)
    (H1 : Hid (∀ W, Below w.heap.size w W → Calls Try.prog 22 #[.slice A1 n1 c1, .slice A3 n3 c3] W fun e w' => e = .returned (.bool true) ∧ ∃ m, w' = W.drewN m))
    (H2 : Hid (∀ W, Below w.heap.size w W → Calls Try.prog 22 #[.slice A2 n2 c2, .slice A4 n4 c4] W fun e w' => e = .returned (.bool r) ∧ ∃ m, w' = W.drewN m)) :
    Calls Try.prog 23 #[.agg #[.slice A1 n1 c1, .slice A2 n2 c2], .agg #[.slice A3 n3 c3, .slice A4 n4 c4]] w fun e w' => e = .returned (.bool r) ∧ Below w.heap.size w w' := by
  have hb : Below w.heap.size w ((w.alloc (.cells #[.slice A1 n1 c1, .slice A2 n2 c2] 46)).alloc (.cells #[.slice A3 n3 c3, .slice A4 n4 c4] 46)) := ((Below.refl _ _).alloc (Nat.le_refl _) _).alloc (by simp) _
  go_enter Try.func23, Try.ntmps23
  go_wp2_with fail
  refine (H1.out _ hb).mono ?_
  rintro e w1 ⟨rfl, m, rfl⟩
  go_wp2_with fail
  refine (H2.out _ (below_drewN hb m)).mono ?_
  rintro e w1 ⟨rfl, m2, rfl⟩
  go_wp2
  go_ret
  exact ⟨rfl, below_drewN hb _⟩
theorem rsame_any (v v' : Value) (ps rs ps' rs' : List Int) (w : World) (h : FType w v ps rs) (h' : FType w v' ps' rs') (l1 : ps.length ≤ 140737488355328) (l2 : rs.length ≤ 140737488355328) (l3 : ps'.length ≤ 140737488355328) (l4 : rs'.length ≤ 140737488355328) :
    Calls Try.prog 23 #[v, v'] w fun e w' => e = .returned (.bool (decide (ps = ps' ∧ rs = rs'))) ∧ Below w.heap.size w w' := by
  obtain ⟨A1, c1, A2, c2, rfl, i1, i2, _, _, _, _⟩ := h
  obtain ⟨A3, c3, A4, c4, rfl, i3, i4, _, _, _, _⟩ := h'
  have H1 := Lib.hid (fun W (hW : Below w.heap.size w W) => sameInts_any A1 A3 ps ps' c1 c3 w.heap.size w.heap.size W (i1.below hW) (i3.below hW) l1 l3)
  have H2 := Lib.hid (fun W (hW : Below w.heap.size w W) => sameInts_any A2 A4 rs rs' c2 c4 w.heap.size w.heap.size W (i2.below hW) (i4.below hW) l2 l4)
  by_cases hp : ps = ps'
  · rw [decide_eq_true hp] at H1
    have e : decide (ps = ps' ∧ rs = rs') = decide (rs = rs') := by simp [hp]
    rw [e]
    exact same_then _ _ _ _ _ _ _ _ _ _ _ _ _ w H1 H2
  · rw [decide_eq_false hp] at H1
    have e : decide (ps = ps' ∧ rs = rs') = false := by simp [hp]
    rw [e]
    exact same_no _ _ _ _ _ _ _ _ _ _ _ _ w H1
end Go.Proofs.Ytlbbnnljclndkaa.Typ
