/-
  An argument that is a slice of sections, opened: what the row hands over. Conditions as each lemma says.
-/
import Derived.Test.YtelcoeeijkainaaSecSlc
import Derived.Lib.SmallJoins
import Derived.ProofKit
import Derived.OpenShut
import Derived.Deep.Slices
import Derived.Deep.Fields
import Derived.ChangeSame
namespace Go.Proofs.Ytelcoeeijkainaa.Sec
open Go.RowKit Leb Go.Joins Go.ChangeShapes Go.WideShapes Go.Deep

/-- Sections that came in. -/
def ListIn (w : World) (v : Value) : Prop := ∃ A c xs, v = .slice A xs.length c ∧ Sli w w.heap.size A c xs
theorem list2 {α : Type} {l : List α} (h : l.length = 2) : ∃ a b, l = [a, b] := by
  match l, h with
  | [a, b], _ => exact ⟨a, b, rfl⟩
section
variable {H : Type} {enc : TypeId × Value → H} {w : World} {base : Nat} {held : Bool}
theorem row_of8 {n : Nat} {u : Value} {y : DataW H × List MemPlace} (h : DataW.trod enc Try.prog w base (fun _ => true) held n 22 [u] = some y) : ∃ A len c zs, u = .slice A len c ∧ RowIn .u8 w A len c zs := by
  rcases open_ints Try.underlying22 Try.underlying5 (by kernel_rfl) h with ⟨hcs, _⟩ | ⟨x, l, c, zs, hcs, _, hl, hm, hz, _, hcell, hwz⟩
  · simp only [List.cons.injEq, and_true] at hcs
    exact ⟨none, 0, 0, [], hcs, .inl ⟨rfl, rfl, rfl, rfl⟩⟩
  · simp only [List.cons.injEq, and_true] at hcs
    exact ⟨some x, l, c, zs, hcs, .inr ⟨_, rfl, hl, hm, by simpa using hz, hcell, hwz⟩⟩
set_option maxRecDepth 100000 in
/-- The cells that are read as a section. -/
theorem cells_sec {n : Nat} {cs : List Value} {y : DataW H × List MemPlace} (h : DataW.trod enc Try.prog w base (fun _ => true) held n 36 cs = some y) :
    ∃ (x : Sec) (A : Option Addr) (c : Nat), cs = [.int .i64 x.id, .slice A x.b.length c] ∧ Bytes w w.heap.size A x.b ∧ x.b.length ≤ c ∧ (A = none → c = 0) := by
  obtain ⟨ys, m, _, _, hlen, hyl, hf⟩ := DataW.trod_struct Try.underlying36 h
  have h2 : cs.length = 2 := hlen.trans (by kernel_rfl)
  have hy2 : ys.length = 2 := hyl.trans rfl
  have e1 : Try.prog.cellsOf 3 = 1 := by kernel_rfl
  have e3 : Try.prog.cellsOf 22 = 1 := by kernel_rfl
  obtain ⟨c0, c1, rfl⟩ := list2 h2
  obtain ⟨y0, y1, rfl⟩ := list2 hy2
  have g0 : DataW.trod enc Try.prog w base (fun _ => true) held m 3 ((([c0, c1] : List Value).drop 0).take (Try.prog.cellsOf 3)) = some y0 := hf 0 _ rfl
  rw [e1] at g0
  replace g0 : DataW.trod enc Try.prog w base (fun _ => true) held m 3 [c0] = some y0 := g0
  have g1 : DataW.trod enc Try.prog w base (fun _ => true) held m 22 ((([c0, c1] : List Value).drop 1).take (Try.prog.cellsOf 22)) = some y1 := hf 1 _ rfl
  rw [e3] at g1
  replace g1 : DataW.trod enc Try.prog w base (fun _ => true) held m 22 [c1] = some y1 := g1
  clear hf h
  obtain ⟨a, q0, _, w0⟩ := DataW.trod_int Try.underlying3 g0
  obtain ⟨A, len, c, zs, rfl, hr⟩ := row_of8 g1
  obtain ⟨l, rfl, hi, hl, _⟩ := bytes_of_row hr
  simp only [List.cons.injEq, and_true] at q0
  subst q0
  exact ⟨⟨a, l⟩, A, c, rfl, hi, hl, row_nil hr⟩
variable {r : Reach} {b0 : Nat} {v : Value} {d : DataW H} {p : List MemPlace}
set_option maxRecDepth 100000 in
theorem listIn_of (hv : Value.okWide Try.prog w r b0 28 v) (h : DataW.Trod enc Try.prog w base (fun _ => true) held 28 v d p) : ListIn w v := by
  obtain ⟨A, len, c, rfl⟩ := okWide_slice Try.underlying28 hv
  obtain ⟨fuel, hf⟩ := h
  have e5 : Try.prog.cellsOf 36 = 2 := by kernel_rfl
  rcases open_slice Try.underlying28 hf with ⟨hcs, _⟩ | ⟨ad, len', cap, m, n, D, Pl, hcs, _, hl, hm, hmm, _, hi⟩
  · simp only [Value.cells, List.cons.injEq, and_true, Value.slice.injEq] at hcs
    obtain ⟨rfl, rfl, rfl⟩ := hcs
    exact ⟨none, 0, [], rfl, ⟨Secs.nil _ _ _, Nat.le_refl _, fun _ => rfl⟩⟩
  · simp only [Value.cells, List.cons.injEq, and_true, Value.slice.injEq] at hcs
    obtain ⟨rfl, rfl, rfl⟩ := hcs
    simp only [if_true] at hmm
    subst hmm
    rw [e5] at hi
    have key : ∀ i, i < len → ∃ (x : Sec), ∃ (A : Option Addr) (c : Nat), (∀ j, j < 2 → w.cell? ((ad.add (i * 2)).add j) = [.int .i64 x.id, .slice A x.b.length c][j]?) ∧ Bytes w w.heap.size A x.b ∧ x.b.length ≤ c ∧ (A = none → c = 0) := by
      intro i hlt
      obtain ⟨cs', hc, ht⟩ := hi i (by omega)
      obtain ⟨x, A, c, hcs, h1, h2, h3⟩ := cells_sec ht
      obtain ⟨_, _, hat⟩ := World.cells?_some hc
      subst hcs
      exact ⟨x, A, c, hat, h1, h2, h3⟩
    refine ⟨some ad, m, (List.range len).map fun i => if h : i < len then Classical.choose (key i h) else ⟨0, []⟩, by simp, ⟨?_, by simpa using hl, fun h => by cases h⟩⟩
    intro h0
    have h0' : 0 < len := by simpa using h0
    obtain ⟨b, off, spot⟩ := ad
    have hs0 : (⟨b, off, spot⟩ : Addr).add (0 * 2) = ⟨b, off, spot⟩ := by simp [Addr.add]
    obtain ⟨x0, A0, c0, hc0, _⟩ := key 0 h0'
    have hcc := hc0 0 (by omega)
    rw [hs0] at hcc
    simp only [List.getElem?_cons_zero] at hcc
    have hspot : spot = none := by
      have := World.cell?_spot hcc
      simpa [Addr.add] using this
    subst hspot
    have hblk : b < w.heap.size := by
      have := World.block_lt_of_cell? w _ hcc
      simpa [Addr.add] using this
    refine ⟨b, off, rfl, hblk, fun j hj => ?_⟩
    have hj' : j < len := by simpa using hj
    simp only [List.getElem_map, List.getElem_range, hj', dite_true]
    obtain ⟨A1, c1, hc1, h1, h2, h3⟩ := Classical.choose_spec (key j hj')
    generalize Classical.choose (key j hj') = x at *
    have C : ∀ i, i < 2 → w.cell? ⟨b, off + j * 2 + i, none⟩ = [.int .i64 x.id, .slice A1 x.b.length c1][i]? := fun i hi => by
      have := hc1 i hi
      have e : (Addr.add (Addr.add ⟨b, off, none⟩ (j * 2)) i) = ⟨b, off + j * 2 + i, none⟩ := by
        unfold Addr.add
        by_cases q1 : j * 2 = 0 <;> by_cases q2 : i = 0 <;> simp [q1, q2]
      rw [e] at this
      exact this
    exact ⟨A1, c1, C 0 (by omega), C 1 (by omega), h1, h2, h3⟩
end
end Go.Proofs.Ytelcoeeijkainaa.Sec
