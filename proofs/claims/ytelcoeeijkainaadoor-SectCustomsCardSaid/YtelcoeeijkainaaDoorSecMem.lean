/-
  Sections in memory; trammelref07.place, may. Conditions as each lemma says.
-/
import Derived.Test.YtelcoeeijkainaaDoorSecMath
import Derived.Test.YtelcoeeijkainaaDoorLebOwn
import Derived.BigQuiet
namespace Go.Proofs.YtelcoeeijkainaaDoor.Sec
open Go.RowKit Leb

/-- The two cells of a section. -/
def SecAt (w : World) (B b off : Nat) (s : Sec) : Prop :=
  ∃ A c, w.cell? ⟨b, off, none⟩ = some (.int .i64 s.id) ∧ w.cell? ⟨b, off + 1, none⟩ = some (.slice A s.b.length c) ∧ Bytes w B A s.b ∧ s.b.length ≤ c ∧ (A = none → c = 0)
theorem SecAt.below {w w' : World} {B b off : Nat} {s : Sec} (h : SecAt w B b off s) (hb : Below B w w') (hlt : b < B) : SecAt w' B b off s := by
  obtain ⟨A, c, h1, h2, h3, h4, h5⟩ := h
  have C : ∀ p : Addr, p.block = b → w'.cell? p = w.cell? p := fun p hp => hb.cell (by omega)
  exact ⟨A, c, (C _ rfl).trans h1, (C _ rfl).trans h2, h3.below hb, h4, h5⟩
theorem SecAt.more {w : World} {B B' b off : Nat} {s : Sec} (h : SecAt w B b off s) (hB : B ≤ B') : SecAt w B' b off s := by
  obtain ⟨A, c, h1, h2, h3, h4, h5⟩ := h
  exact ⟨A, c, h1, h2, h3.more hB, h4, h5⟩
/-- Sections that a slice leads to. -/
def Secs (w : World) (B : Nat) (A : Option Addr) (l : List Sec) : Prop :=
  0 < l.length → ∃ b off, A = some ⟨b, off, none⟩ ∧ b < B ∧ ∀ (j : Nat) (h : j < l.length), SecAt w B b (off + j * 2) l[j]
theorem Secs.below {w w' : World} {B : Nat} {A : Option Addr} {l : List Sec} (h : Secs w B A l) (hb : Below B w w') : Secs w' B A l := by
  intro hl
  obtain ⟨b, off, e, hB, hc⟩ := h hl
  exact ⟨b, off, e, hB, fun j hj => (hc j hj).below hb hB⟩
theorem Secs.more {w : World} {B B' : Nat} {A : Option Addr} {l : List Sec} (h : Secs w B A l) (hB : B ≤ B') : Secs w B' A l := by
  intro hl
  obtain ⟨b, off, e, hb, hc⟩ := h hl
  exact ⟨b, off, e, by omega, fun j hj => (hc j hj).more hB⟩
theorem Secs.nil (w : World) (B : Nat) (A : Option Addr) : Secs w B A [] := fun h => absurd h (by simp)
theorem Secs.take {w : World} {B : Nat} {A : Option Addr} {l : List Sec} (h : Secs w B A l) (k : Nat) : Secs w B A (l.take k) := by
  intro hl
  obtain ⟨b, off, e, hB, hc⟩ := h (by simp at hl; omega)
  refine ⟨b, off, e, hB, fun j hj => ?_⟩
  have := hc j (by simp at hj; omega)
  rw [List.getElem_take]
  exact this
/-- A function that leaves the world alone. -/
def Still (w : World) (v : Value) (e : Ending) (w' : World) : Prop := e = .returned v ∧ w = w'
theorem may_next {l : List Sec} {id : Int} (j : Nat) (hj : j < l.length) : may (l.take (j + 1)) id = (may (l.take j) id && decide (id = 0 ∨ l[j].id = 0 ∨ placeOf l[j].id < placeOf id)) := by
  apply Bool.eq_iff_iff.2
  rw [Bool.and_eq_true]
  unfold may
  rw [decide_eq_true_iff, decide_eq_true_iff, decide_eq_true_iff, List.take_succ_eq_append_getElem hj]
  constructor
  · rintro ⟨h1, h2, h3⟩
    exact ⟨⟨h1, h2, fun s hs => h3 s (List.mem_append.2 (.inl hs))⟩, h3 _ (List.mem_append.2 (.inr (List.mem_singleton.2 rfl)))⟩
  · rintro ⟨⟨h1, h2, h3⟩, h4⟩
    refine ⟨h1, h2, fun s hs => ?_⟩
    rcases List.mem_append.1 hs with h | h
    · exact h3 s h
    · rw [List.mem_singleton.1 h]; exact h4
theorem may_fail {l : List Sec} {id : Int} (j : Nat) (hj : j < l.length) (h : ¬ (id = 0 ∨ l[j].id = 0 ∨ placeOf l[j].id < placeOf id)) : may l id = false :=
  decide_eq_false fun h2 => h (h2.2.2 _ (List.getElem_mem hj))
end Go.Proofs.YtelcoeeijkainaaDoor.Sec
