/-
  Arguments that are a function's type, or limits, opened: what the row hands over. Conditions as each lemma says.
-/
import Derived.Test.YthhdbjpimjkekaaTypFunc
import Derived.Test.YthhdbjpimjkekaaTypLimits
import Derived.Lib.SmallJoins
import Derived.ProofKit
import Derived.OpenShut
namespace Go.Proofs.Ythhdbjpimjkekaa.Typ
open Go.RowKit Leb Go.Joins Go.ChangeShapes Go.WideShapes

/-- A function's type that came in: two rows of ints. -/
def FuncIn (w : World) (v : Value) : Prop := ∃ A len c zs A' len' c' zs', v = .agg #[.slice A len c, .slice A' len' c'] ∧ RowIn .i64 w A len c zs ∧ RowIn .i64 w A' len' c' zs'
/-- Limits that came in. -/
def LimIn (_ : World) (v : Value) : Prop := ∃ (a : Int) (cap : Bool) (b : Int), v = limV a cap b ∧ (Lit.int .i64 a).wf = true ∧ (Lit.int .i64 b).wf = true
section
variable {H : Type} {enc : TypeId × Value → H} {w : World} {base : Nat} {held : Bool} {r : Reach} {b0 : Nat} {v : Value} {d : DataW H} {p : List MemPlace}
theorem row_of {n : Nat} {u : Value} {y : DataW H × List MemPlace} (h : DataW.trod enc Try.prog w base (fun _ => true) held n 24 [u] = some y) : ∃ A len c zs, u = .slice A len c ∧ RowIn .i64 w A len c zs := by
  rcases open_ints Try.underlying24 Try.underlying3 (by kernel_rfl) h with ⟨hcs, _⟩ | ⟨x, l, c, zs, hcs, _, hl, hm, hz, _, hcell, hwz⟩
  · simp only [List.cons.injEq, and_true] at hcs
    exact ⟨none, 0, 0, [], hcs, .inl ⟨rfl, rfl, rfl, rfl⟩⟩
  · simp only [List.cons.injEq, and_true] at hcs
    exact ⟨some x, l, c, zs, hcs, .inr ⟨_, rfl, hl, hm, by simpa using hz, hcell, hwz⟩⟩
theorem funcIn_of (hv : Value.okWide Try.prog w r b0 26 v) (h : DataW.Trod enc Try.prog w base (fun _ => true) held 26 v d p) : FuncIn w v := by
  obtain ⟨c0, c1, y0, y1, m, rfl, rfl, rfl, hy0, hy1⟩ := open_agg2 Try.underlying26 (by kernel_rfl) (by kernel_rfl) hv h
  obtain ⟨A, len, c, zs, rfl, h1⟩ := row_of hy0
  obtain ⟨A', len', c', zs', rfl, h2⟩ := row_of hy1
  exact ⟨A, len, c, zs, A', len', c', zs', rfl, h1, h2⟩
theorem limIn_of {spare : Nat → Bool} (hv : Value.okWide Try.prog w r b0 34 v) (h : DataW.Trod enc Try.prog w base spare held 34 v d p) : LimIn w v := by
  obtain ⟨c0, c1, c2, y0, y1, y2, m, rfl, rfl, rfl, hy0, hy1, hy2⟩ := open_agg3 Try.underlying34 (by kernel_rfl) (by kernel_rfl) hv h
  obtain ⟨a, e0, _, w0⟩ := DataW.trod_int Try.underlying3 hy0
  obtain ⟨cap, e1, _⟩ := DataW.trod_bool Try.underlying4 hy1
  obtain ⟨b, e2, _, w2⟩ := DataW.trod_int Try.underlying3 hy2
  simp only [List.cons.injEq, and_true] at e0 e1 e2
  subst e0 e1 e2
  exact ⟨a, cap, b, rfl, w0, w2⟩
end
/-- What the laws ask of it. -/
theorem FuncIn.ftype {w : World} {v : Value} (h : FuncIn w v) : ∃ ps rs, FType w v ps rs ∧ ps.length ≤ maxLen ∧ rs.length ≤ maxLen := by
  obtain ⟨A, len, c, zs, A', len', c', zs', rfl, h1, h2⟩ := h
  obtain ⟨ps, rfl, i1, _, l1, m1⟩ := ints_of_row h1
  obtain ⟨rs, rfl, i2, _, l2, m2⟩ := ints_of_row h2
  exact ⟨ps, rs, ⟨A, c, A', c', rfl, i1, i2, l1, l2, row_nil h1, row_nil h2⟩, by omega, by omega⟩
end Go.Proofs.Ythhdbjpimjkekaa.Typ
