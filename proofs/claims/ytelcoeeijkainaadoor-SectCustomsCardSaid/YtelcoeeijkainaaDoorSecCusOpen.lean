/-
  An argument that is a custom section, opened: what the row hands over. Conditions as the lemma says.
-/
import Derived.Test.YtelcoeeijkainaaDoorSecOpen
namespace Go.Proofs.YtelcoeeijkainaaDoor.Sec
open Go.RowKit Leb Go.Joins Go.ChangeShapes Go.WideShapes Go.Deep

/-- A custom section that came in. -/
def CusIn (w : World) (v : Value) : Prop := ∃ s A n c zs, v = .agg #[.string s, .slice A n c] ∧ RowIn .u8 w A n c zs
section
variable {H : Type} {enc : TypeId × Value → H} {w : World} {base : Nat} {held : Bool} {r : Reach} {b0 : Nat} {v : Value} {d : DataW H} {p : List MemPlace}
theorem cusIn_of (hv : Value.okWide Tryd.prog w r b0 24 v) (h : DataW.Trod enc Tryd.prog w base (fun _ => true) held 24 v d p) : CusIn w v := by
  obtain ⟨c0, c1, y0, y1, m, rfl, rfl, rfl, hy0, hy1⟩ := open_agg2 Tryd.underlying24 (by kernel_rfl) (by kernel_rfl) hv h
  obtain ⟨s, e0, _, _⟩ := DataW.trod_string Tryd.underlying9 hy0
  obtain ⟨A, n, c, zs, rfl, h1⟩ := row_of8 hy1
  simp only [List.cons.injEq, and_true] at e0
  subst e0
  exact ⟨s, A, n, c, zs, rfl, h1⟩
end
end Go.Proofs.YtelcoeeijkainaaDoor.Sec
