/-
  StoDoes: What inst's functions are held to (given as premises 'Does T': under what T says of the world they answer in plain words), and the plain words: bytes put, functions laid, a memory that grows. Conditions as each lemma says.
-/
import Derived.Test.YtdcolpmmojiffaaQStoSame
import Derived.Test.YtdcolpmmojiffaaQStoSlc
import Derived.Test.YtdcolpmmojiffaaQStoRoom
namespace Go.Proofs.Ytdcolpmmojiffaa.Sto
open Go.RowKit Leb Typ

structure Rooms (p : PSt) (g : GSt) : Prop where
  m : g.mem.length ≤ p.c0
  t : g.tab.length ≤ p.c2
  n : g.glo.length ≤ p.c3
  e : g.els.length ≤ p.c4
  d : g.dat.length ≤ p.c5
  m0 : p.A0 = none → p.c0 = 0
  t0 : p.A2 = none → p.c2 = 0
  n0 : p.A3 = none → p.c3 = 0
  e0 : p.A4 = none → p.c4 = 0
  d0 : p.A5 = none → p.c5 = 0
structure StF (w : World) (B : Nat) (p : PSt) (g : GSt) : Prop where
  l : StL w B p g
  r : Rooms p g
theorem StF.below {w w' : World} {B : Nat} {p : PSt} {g : GSt} (h : StF w B p g) (hb : Below B w w') : StF w' B p g := ⟨h.l.below hb, h.r⟩
theorem StF.slc {w : World} {B : Nat} {p : PSt} {g : GSt} (h : StF w B p g) : Slc w B p.A0 p.c0 g.mem := ⟨h.l.mem, h.r.m0, h.r.m⟩
def overL {α : Type} (t f : List α) (a fr n : Nat) : List α := t.take a ++ ((f.drop fr).take n ++ t.drop (a + n))
def zeroG : GSt := ⟨[], 0, [], [], [], []⟩
def putG (g : GSt) (b : List Nat) (a fr n : Nat) : GSt × Bool := if fr + n ≤ b.length ∧ a + n ≤ g.mem.length then ({ g with mem := overL g.mem b a fr n }, true) else (zeroG, false)
def layG (g : GSt) (f : List Int) (a fr n : Nat) : GSt × Bool := if fr + n ≤ f.length ∧ a + n ≤ g.tab.length then ({ g with tab := overL g.tab f a fr n }, true) else (zeroG, false)
def growG (g : GSt) (n : Nat) (ok : Bool) : GSt × Nat := if ok = false ∨ 4 < n ∨ g.cap < ((g.mem.length / 65536 + n : Nat) : Int) ∨ 4 < g.mem.length / 65536 + n then (g, 4294967295) else ({ g with mem := g.mem ++ List.replicate (65536 * n) 0 }, g.mem.length / 65536)
theorem overL_length {α : Type} {t f : List α} {a fr n : Nat} (h1 : fr + n ≤ f.length) (h2 : a + n ≤ t.length) : (overL t f a fr n).length = t.length := by
  unfold overL
  simp
  omega
theorem overL_get {α : Type} {t f : List α} {a fr n i : Nat} (h1 : fr + n ≤ f.length) (h2 : a + n ≤ t.length) (hi : i < t.length) (hi' : i < (overL t f a fr n).length) : (∀ h : a ≤ i ∧ i < a + n, (overL t f a fr n)[i] = f[i - a + fr]'(by omega)) ∧ (¬ (a ≤ i ∧ i < a + n) → (overL t f a fr n)[i] = t[i]) := by
  have e : (t.take a).length = a := by simp; omega
  have e2 : ((f.drop fr).take n).length = n := by simp; omega
  unfold overL at hi' ⊢
  constructor
  · rintro ⟨h3, h4⟩
    rw [List.getElem_append_right (by omega), List.getElem_append_left (by omega), List.getElem_take, List.getElem_drop]
    congr 1
    omega
  · intro h3
    by_cases h4 : i < a
    · rw [List.getElem_append_left (by omega), List.getElem_take]
    · rw [List.getElem_append_right (by omega), List.getElem_append_right (by omega), List.getElem_drop]
      congr 1
      omega
def GSt.tiny (g : GSt) : Prop := g.mem.length ≤ 196608 ∧ g.tab.length ≤ 100 ∧ g.glo.length ≤ 100 ∧ g.els.length ≤ 100 ∧ g.dat.length ≤ 100
end Go.Proofs.Ytdcolpmmojiffaa.Sto
