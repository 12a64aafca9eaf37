/-
  TypPlainOwn: what names no function of the program. Conditions as each lemma says.
-/
import Derived.Test.YtdipgokbfjbgfaaTypPlain
import Derived.Lib.SliceRun
import Derived.OwnWalk
import Derived.Deep.RegionHeldLaw
namespace Go.Proofs.Ytdipgokbfjbgfaa.Typ
open Go.RowKit Leb

def Same1 (w : World) (v : Value) (e : Ending) (w' : World) : Prop := e = .returned v ∧ w = w'
/-- What begins answers. -/
def bgRes (l fs : List Nat) : Nat := if l.length < 1 then 1 else if l.getD 0 0 ∈ fs then 0 else 2
theorem own_none (w : World) : Own (w.alloc (.cells #[] 5)) w.heap.size (.slice (some ⟨w.heap.size, 0, none⟩) 0 0) [] :=
  World.ownsRow_lit w #[] 0 (Nat.le_refl _) (by simp [maxLen]) rfl
def ValS (w : World) (r : Nat × Nat × Nat) (e : Ending) (w' : World) : Prop := e = .returned (.tuple #[.int .i64 (r.1 : Int), .int .i64 (r.2.1 : Int), .int .i64 (r.2.2 : Int)]) ∧ w = w'
def partI (u : Nat) (xs : List Int) : List Int := xs ++ List.replicate (u - xs.length) 0
theorem partI_len (u : Nat) (xs : List Int) (h : xs.length ≤ u) : (partI u xs).length = u := by simp [partI]; omega
theorem partI_set (u : Nat) (xs : List Int) (y : Int) (h : xs.length < u) : (partI u xs).set xs.length y = partI u (xs ++ [y]) := by
  unfold partI
  rw [List.set_append_right _ _ (Nat.le_refl _), Nat.sub_self, List.length_append, show u - xs.length = (u - (xs.length + [y].length)) + 1 from by simp; omega, List.replicate_succ, List.set_cons_zero]
  simp
theorem partI_end (xs : List Int) : partI xs.length xs = xs := by simp [partI]
theorem made_i64 (n : Nat) : (madeCells (Value.int .i64 0).cells n).toList = (partI n []).map iv := by
  have hz : (Value.int .i64 0).cells = #[.int .i64 0] := by simp [Value.cells]
  rw [hz, toList_madeCells_one]
  simp [partI, iv]
theorem bytes_drop {w : World} {B : Nat} {b off : Nat} {l : List Nat} (hb : Bytes w B (some ⟨b, off, none⟩) l) (p : Nat) : Bytes w B (some ⟨b, off + p, none⟩) (l.drop p) := bytes_from hb p
theorem valsRes_drop (l : List Nat) (p : Nat) : valsRes l p = if (valsRes (l.drop p) 0).2.2 = 0 then ((valsRes (l.drop p) 0).1, p + (valsRes (l.drop p) 0).2.1, 0) else ([], 0, (valsRes (l.drop p) 0).2.2) := by
  unfold valsRes
  simp only [Nat.zero_add, List.drop_drop]
  generalize uRes (l.drop p) 32 = g
  obtain ⟨u, s, e⟩ := g
  simp only
  by_cases he : e = 0
  · subst he
    by_cases hu : 8 < u
    · simp [hu]
    · simp only [hu, ne_eq, not_true_eq_false, if_false]
      by_cases ht : (takeVals u (l.drop (p + s))).2 = 0
      · simp [ht]; omega
      · simp [ht]
  · simp [he]
/-- What Func has laid when it reads: the result, untouched; all that was there. -/
structure FAt (w W : World) : Prop where
  below : Below w.heap.size w W
  size : w.heap.size < W.heap.size
  res : ResAt W w.heap.size
theorem FAt.keep {w W W' : World} (h : FAt w W) (h' : Below W.heap.size W W') : FAt w W' :=
  ⟨h.below.trans (h'.mono h.below.size), Nat.lt_of_lt_of_le h.size h'.size, h.res.below h.size h'⟩
theorem fat_of (w : World) (t : TypeId) (o : Obj) : FAt w ((w.alloc (.cells #[.slice none 0 0, .slice none 0 0] t)).alloc o) := by
  have h1 : FAt w (w.alloc (.cells #[.slice none 0 0, .slice none 0 0] t)) := ⟨(Below.refl _ _).alloc (Nat.le_refl _) _, by simp, res_at w t⟩
  exact h1.keep ((Below.refl _ _).alloc (Nat.le_refl _) _)
/-- What Limits has laid when it reads: the result, untouched; all that was there. -/
structure LmAt (w W : World) : Prop where
  below : Below w.heap.size w W
  size : w.heap.size < W.heap.size
  r0 : W.cell? ⟨w.heap.size, 0, none⟩ = some (.int .i64 0)
  r1 : W.cell? ⟨w.heap.size, 1, none⟩ = some (.bool false)
  r2 : W.cell? ⟨w.heap.size, 2, none⟩ = some (.int .i64 0)
  z0 : W.frozen? ⟨w.heap.size, 0, none⟩ = false
  z1 : W.frozen? ⟨w.heap.size, 1, none⟩ = false
  z2 : W.frozen? ⟨w.heap.size, 2, none⟩ = false
theorem LmAt.keep {w W W' : World} (h : LmAt w W) (h' : Below W.heap.size W W') : LmAt w W' := by
  have hs := h.size
  have C : ∀ p : Addr, p.block = w.heap.size → W'.cell? p = W.cell? p := fun p hp => h'.cell (by omega)
  have F : ∀ p : Addr, p.block = w.heap.size → W'.frozen? p = W.frozen? p := fun p hp => h'.frozen (by omega)
  exact ⟨h.below.trans (h'.mono h.below.size), Nat.lt_of_lt_of_le h.size h'.size, (C _ rfl).trans h.r0, (C _ rfl).trans h.r1, (C _ rfl).trans h.r2, (F _ rfl).trans h.z0, (F _ rfl).trans h.z1, (F _ rfl).trans h.z2⟩
theorem lmat_of (w : World) (t : TypeId) (o : Obj) : LmAt w ((w.alloc (.cells #[.int .i64 0, .bool false, .int .i64 0] t)).alloc o) := by
  have hr := (MapKept.heap_alloc w (.cells #[.int .i64 0, .bool false, .int .i64 0] t)).1
  have h1 : LmAt w (w.alloc (.cells #[.int .i64 0, .bool false, .int .i64 0] t)) := by
    refine ⟨(Below.refl _ _).alloc (Nat.le_refl _) _, by simp, ?_, ?_, ?_, ?_, ?_, ?_⟩
    · simp only [World.cell?, hr]; rfl
    · simp only [World.cell?, hr]; rfl
    · simp only [World.cell?, hr]; rfl
    · simp only [World.frozen?, hr]; rfl
    · simp only [World.frozen?, hr]; rfl
    · simp only [World.frozen?, hr]; rfl
  exact h1.keep ((Below.refl _ _).alloc (Nat.le_refl _) _)
/-- What blockNumber answers. -/
def numRes (l : List Nat) : Int × Nat × Nat :=
  if (sRes l 33).2.2 ≠ 0 then (0, 0, (sRes l 33).2.2)
  else if (sRes l 33).1 < 0 then (0, 0, 2)
  else ((sRes l 33).1, (sRes l 33).2.1, 0)
theorem gives_bb {w : World} {l : List Nat} {k : Nat} {e : Ending} {w' : World} (h : Gives w l e w') (hl : ∀ x ∈ l, x < 256) (hk : l.length = k) : GivesB w l k e w' := by
  obtain ⟨v, rfl, hown, hbel⟩ := h
  subst hk
  obtain ⟨A, c, rfl, hb, hc, h0⟩ := hown.bytes hl
  exact ⟨A, c, rfl, hown, hb, h0, hc, hbel⟩
theorem natsOf_byte (xs : List Int) (hg : good xs) : ∀ x ∈ natsOf xs, x < 256 := by
  intro x hx
  unfold natsOf at hx
  rcases List.mem_cons.1 hx with rfl | hx
  · have := hg.1; omega
  · obtain ⟨y, hy, rfl⟩ := List.mem_map.1 hx
    rcases hg.2 y hy with rfl | rfl <;> decide
theorem putIs_nil {w w' : World} (hb : Below w.heap.size w w') : PutIs w [] 0 2 (.returned (.tuple #[.slice none 0 0, .int .i64 2])) w' :=
  ⟨none, 0, rfl, Own.nil _ _, ⟨by simp, by simp⟩, fun _ => rfl, Nat.le_refl _, hb⟩
theorem putIs_of {w w0 w' : World} {A : Option Addr} {k c : Nat} {l : List Nat} (hown : Own w' w0.heap.size (.slice A k c) l) (h0 : w.heap.size ≤ w0.heap.size) (hb : Bytes w' w'.heap.size A l) (hn : A = none → c = 0) (hk : k ≤ c) (hbel : Below w.heap.size w w') : PutIs w l k 0 (.returned (.tuple #[.slice A k c, .int .i64 0])) w' :=
  ⟨A, c, rfl, own_from hown h0, hb, hn, hk, hbel⟩
/-- A struct parameter's box of two, three cells, kept. -/
structure B2 (w W : World) (x0 x1 : Value) : Prop where
  below : Below w.heap.size w W
  size : w.heap.size < W.heap.size
  c0 : W.cell? ⟨w.heap.size, 0, none⟩ = some x0
  c1 : W.cell? ⟨w.heap.size, 1, none⟩ = some x1
theorem B2.keep {w W W' : World} {x0 x1 : Value} (h : B2 w W x0 x1) (h' : Below W.heap.size W W') : B2 w W' x0 x1 := by
  have hs := h.size
  have C : ∀ p : Addr, p.block = w.heap.size → W'.cell? p = W.cell? p := fun p hp => h'.cell (by omega)
  exact ⟨h.below.trans (h'.mono h.below.size), Nat.lt_of_lt_of_le hs h'.size, (C _ rfl).trans h.c0, (C _ rfl).trans h.c1⟩
theorem b2_of (w : World) (x0 x1 : Value) (t : TypeId) : B2 w (w.alloc (.cells #[x0, x1] t)) x0 x1 := by
  have hr := (MapKept.heap_alloc w (.cells #[x0, x1] t)).1
  exact ⟨(Below.refl _ _).alloc (Nat.le_refl _) _, by simp, by simp only [World.cell?, hr]; rfl, by simp only [World.cell?, hr]; rfl⟩
structure B3 (w W : World) (x0 x1 x2 : Value) : Prop where
  below : Below w.heap.size w W
  size : w.heap.size < W.heap.size
  c0 : W.cell? ⟨w.heap.size, 0, none⟩ = some x0
  c1 : W.cell? ⟨w.heap.size, 1, none⟩ = some x1
  c2 : W.cell? ⟨w.heap.size, 2, none⟩ = some x2
theorem B3.keep {w W W' : World} {x0 x1 x2 : Value} (h : B3 w W x0 x1 x2) (h' : Below W.heap.size W W') : B3 w W' x0 x1 x2 := by
  have hs := h.size
  have C : ∀ p : Addr, p.block = w.heap.size → W'.cell? p = W.cell? p := fun p hp => h'.cell (by omega)
  exact ⟨h.below.trans (h'.mono h.below.size), Nat.lt_of_lt_of_le hs h'.size, (C _ rfl).trans h.c0, (C _ rfl).trans h.c1, (C _ rfl).trans h.c2⟩
theorem B3.drew {w W : World} {x0 x1 x2 : Value} (h : B3 w W x0 x1 x2) : B3 w W.drew x0 x1 x2 := ⟨h.below.drew, h.size, h.c0, h.c1, h.c2⟩
theorem b3_of (w : World) (x0 x1 x2 : Value) (t : TypeId) : B3 w (w.alloc (.cells #[x0, x1, x2] t)) x0 x1 x2 := by
  have hr := (MapKept.heap_alloc w (.cells #[x0, x1, x2] t)).1
  exact ⟨(Below.refl _ _).alloc (Nat.le_refl _) _, by simp, by simp only [World.cell?, hr]; rfl, by simp only [World.cell?, hr]; rfl, by simp only [World.cell?, hr]; rfl⟩
end Go.Proofs.Ytdipgokbfjbgfaa.Typ
