/-
  InsOpen: Arguments that are an instruction, or a slice of instructions, opened: what the row hands over. Conditions as each lemma says.
-/
import Derived.Test.YtdipgokbfjbgfaaInsPlain
import Derived.Test.YtdipgokbfjbgfaaTypAll
import Derived.Deep.Slices
import Derived.Deep.Fields
import Derived.ChangeSame
namespace Go.Proofs.Ytdipgokbfjbgfaa.Ins
open Go.RowKit Leb Typ Go.Joins Go.ChangeShapes Go.WideShapes Go.Deep

/-- An instruction that came in. -/
def InsIn (w : World) (v : Value) : Prop := ∃ x, InsV w v x ∧ wide x
/-- Instructions that came in. -/
def ListIn (w : World) (v : Value) : Prop := ∃ A c xs, v = .slice A xs.length c ∧ Sli w A c xs ∧ ∀ x ∈ xs, wide x
theorem list5 {α : Type} {l : List α} (h : l.length = 5) : ∃ a b c d e, l = [a, b, c, d, e] := by
  match l, h with
  | [a, b, c, d, e], _ => exact ⟨a, b, c, d, e, rfl⟩
section
variable {H : Type} {enc : TypeId × Value → H} {w : World} {base : Nat} {held : Bool}
theorem wf_i64 {a : Int} (h : (Lit.int .i64 a).wf = true) : I64 a := bounds_i64 h
set_option maxRecDepth 100000 in
/-- The cells that are read as an instruction. -/
theorem cells_ins {n : Nat} {cs : List Value} {y : DataW H × List MemPlace} (h : DataW.trod enc Try.prog w base (fun _ => true) held n 25 cs = some y) :
    ∃ (x : Ins) (A : Option Addr) (c : Nat), wide x ∧ cs = [.int .i64 x.op, .int .i64 x.a, .int .i64 x.b, .int .i64 x.k, .slice A x.l.length c] ∧ Ints w w.heap.size A x.l ∧ x.l.length ≤ c ∧ (A = none → c = 0) := by
  obtain ⟨ys, m, _, _, hlen, hyl, hf⟩ := DataW.trod_struct Try.underlying25 h
  have h5 : cs.length = 5 := hlen.trans (by kernel_rfl)
  have hy5 : ys.length = 5 := hyl.trans rfl
  have e1 : Try.prog.cellsOf 3 = 1 := by kernel_rfl
  have e2 : Try.prog.cellsOf 2 = 1 := by kernel_rfl
  have e3 : Try.prog.cellsOf 23 = 1 := by kernel_rfl
  obtain ⟨c0, c1, c2, c3, c4, rfl⟩ := list5 h5
  obtain ⟨y0, y1, y2, y3, y4, rfl⟩ := list5 hy5
  have g0 : DataW.trod enc Try.prog w base (fun _ => true) held m 3 ((([c0, c1, c2, c3, c4] : List Value).drop 0).take (Try.prog.cellsOf 3)) = some y0 := hf 0 _ rfl
  rw [e1] at g0
  replace g0 : DataW.trod enc Try.prog w base (fun _ => true) held m 3 [c0] = some y0 := g0
  have g1 : DataW.trod enc Try.prog w base (fun _ => true) held m 3 ((([c0, c1, c2, c3, c4] : List Value).drop 1).take (Try.prog.cellsOf 3)) = some y1 := hf 1 _ rfl
  rw [e1] at g1
  replace g1 : DataW.trod enc Try.prog w base (fun _ => true) held m 3 [c1] = some y1 := g1
  have g2 : DataW.trod enc Try.prog w base (fun _ => true) held m 3 ((([c0, c1, c2, c3, c4] : List Value).drop 2).take (Try.prog.cellsOf 3)) = some y2 := hf 2 _ rfl
  rw [e1] at g2
  replace g2 : DataW.trod enc Try.prog w base (fun _ => true) held m 3 [c2] = some y2 := g2
  have g3 : DataW.trod enc Try.prog w base (fun _ => true) held m 2 ((([c0, c1, c2, c3, c4] : List Value).drop 3).take (Try.prog.cellsOf 2)) = some y3 := hf 3 _ rfl
  rw [e2] at g3
  replace g3 : DataW.trod enc Try.prog w base (fun _ => true) held m 2 [c3] = some y3 := g3
  have g4 : DataW.trod enc Try.prog w base (fun _ => true) held m 23 ((([c0, c1, c2, c3, c4] : List Value).drop 4).take (Try.prog.cellsOf 23)) = some y4 := hf 4 _ rfl
  rw [e3] at g4
  replace g4 : DataW.trod enc Try.prog w base (fun _ => true) held m 23 [c4] = some y4 := g4
  clear hf h
  obtain ⟨op, q0, _, w0⟩ := DataW.trod_int Try.underlying3 g0
  obtain ⟨a, q1, _, w1⟩ := DataW.trod_int Try.underlying3 g1
  obtain ⟨b, q2, _, w2⟩ := DataW.trod_int Try.underlying3 g2
  obtain ⟨k, q3, _, w3⟩ := DataW.trod_int Try.underlying2 g3
  obtain ⟨A, len, c, zs, rfl, hr⟩ := row_of g4
  obtain ⟨l, rfl, hi, hb, hl, _⟩ := ints_of_row hr
  simp only [List.cons.injEq, and_true] at q0 q1 q2 q3
  subst q0 q1 q2 q3
  exact ⟨⟨op, a, b, k, l⟩, A, c, ⟨wf_i64 w0, wf_i64 w1, wf_i64 w2, wf_i64 w3, hb⟩, rfl, hi, hl, row_nil hr⟩
variable {r : Reach} {b0 : Nat} {v : Value} {d : DataW H} {p : List MemPlace}
set_option maxRecDepth 100000 in
theorem insIn_of (hv : Value.okWide Try.prog w r b0 25 v) (h : DataW.Trod enc Try.prog w base (fun _ => true) held 25 v d p) : InsIn w v := by
  obtain ⟨cs, rfl, hsz⟩ := okWide_struct Try.underlying25 hv
  obtain ⟨fuel, hf⟩ := h
  obtain ⟨x, A, c, hw, hcs, hi, hl, hn⟩ := cells_ins hf
  refine ⟨x, ⟨A, c, ?_, hi, hl, hn⟩, hw⟩
  simp only [Value.cells] at hcs
  rw [← hcs]
set_option maxRecDepth 100000 in
theorem listIn_of (hv : Value.okWide Try.prog w r b0 26 v) (h : DataW.Trod enc Try.prog w base (fun _ => true) held 26 v d p) : ListIn w v := by
  obtain ⟨A, len, c, rfl⟩ := okWide_slice Try.underlying26 hv
  obtain ⟨fuel, hf⟩ := h
  have e5 : Try.prog.cellsOf 25 = 5 := by kernel_rfl
  rcases open_slice Try.underlying26 hf with ⟨hcs, _⟩ | ⟨ad, len', cap, m, n, D, Pl, hcs, _, hl, hm, hmm, _, hi⟩
  · simp only [Value.cells, List.cons.injEq, and_true, Value.slice.injEq] at hcs
    obtain ⟨rfl, rfl, rfl⟩ := hcs
    exact ⟨none, 0, [], rfl, ⟨Inss.nil _ _ _, fun _ => rfl, Nat.le_refl _⟩, by simp⟩
  · simp only [Value.cells, List.cons.injEq, and_true, Value.slice.injEq] at hcs
    obtain ⟨rfl, rfl, rfl⟩ := hcs
    simp only [if_true] at hmm
    subst hmm
    rw [e5] at hi
    have key : ∀ i, i < len → ∃ (x : Ins), wide x ∧ ∃ (A : Option Addr) (c : Nat), (∀ j, j < 5 → w.cell? ((ad.add (i * 5)).add j) = [.int .i64 x.op, .int .i64 x.a, .int .i64 x.b, .int .i64 x.k, .slice A x.l.length c][j]?) ∧ Ints w w.heap.size A x.l ∧ x.l.length ≤ c ∧ (A = none → c = 0) := by
      intro i hlt
      obtain ⟨cs', hc, ht⟩ := hi i (by omega)
      obtain ⟨x, A, c, hw, hcs, h1, h2, h3⟩ := cells_ins ht
      obtain ⟨_, _, hat⟩ := World.cells?_some hc
      subst hcs
      exact ⟨x, hw, A, c, hat, h1, h2, h3⟩
    refine ⟨some ad, m, (List.range len).map fun i => if h : i < len then Classical.choose (key i h) else zeroIns, by simp, ⟨?_, (fun h => by cases h), by simpa using hl⟩, ?_⟩
    · intro h0
      have h0' : 0 < len := by simpa using h0
      obtain ⟨b, off, spot⟩ := ad
      have hs0 : (⟨b, off, spot⟩ : Addr).add (0 * 5) = ⟨b, off, spot⟩ := by simp [Addr.add]
      obtain ⟨x0, _, A0, c0, hc0, _⟩ := key 0 h0'
      have hcc := hc0 0 (by omega)
      rw [hs0] at hcc
      simp only [List.getElem?_cons_zero] at hcc
      have hspot : spot = none := by
        have := World.cell?_spot hcc
        simpa [Addr.add] using this
      subst hspot
      have hblk : b < w.heap.size := by
        have := World.block_lt_of_cell? w _ hcc
        simpa [Addr.add] using this
      refine ⟨b, off, rfl, hblk, fun j hj => ?_⟩
      have hj' : j < len := by simpa using hj
      simp only [List.getElem_map, List.getElem_range, hj', dite_true]
      obtain ⟨_, A1, c1, hc1, h1, h2, h3⟩ := Classical.choose_spec (key j hj')
      generalize Classical.choose (key j hj') = x at *
      have C : ∀ i, i < 5 → w.cell? ⟨b, off + j * 5 + i, none⟩ = [.int .i64 x.op, .int .i64 x.a, .int .i64 x.b, .int .i64 x.k, .slice A1 x.l.length c1][i]? := fun i hi => by
        have := hc1 i hi
        have e : (Addr.add (Addr.add ⟨b, off, none⟩ (j * 5)) i) = ⟨b, off + j * 5 + i, none⟩ := by
          unfold Addr.add
          by_cases q1 : j * 5 = 0 <;> by_cases q2 : i = 0 <;> simp [q1, q2]
        rw [e] at this
        exact this
      exact ⟨A1, c1, C 0 (by omega), C 1 (by omega), C 2 (by omega), C 3 (by omega), C 4 (by omega), h1, h2, h3⟩
    · intro x hx
      obtain ⟨i, hi, rfl⟩ := List.mem_map.1 hx
      have hi' : i < len := by simpa using hi
      simp only [hi', dite_true]
      exact (Classical.choose_spec (key i hi')).1
end
end Go.Proofs.Ytdipgokbfjbgfaa.Ins
