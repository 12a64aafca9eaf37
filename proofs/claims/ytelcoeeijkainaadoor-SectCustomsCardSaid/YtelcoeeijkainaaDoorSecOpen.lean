/-
  An argument that is a slice of sections, opened: what the row hands over. Conditions as each lemma says.
-/
import Derived.Test.YtelcoeeijkainaaDoorSecSlc
import Derived.Lib.SmallJoins
import Derived.ProofKit
import Derived.OpenShut
import Derived.Deep.Slices
import Derived.Deep.Fields
import Derived.ChangeSame
namespace Go.Proofs.YtelcoeeijkainaaDoor.Sec
open Go.RowKit Leb Go.Joins Go.ChangeShapes Go.WideShapes Go.Deep

/-- Sections that came in. -/
def ListIn (w : World) (v : Value) : Prop := ∃ A c xs, v = .slice A xs.length c ∧ Sli w w.heap.size A c xs
theorem list2 {α : Type} {l : List α} (h : l.length = 2) : ∃ a b, l = [a, b] := by
  match l, h with
  | [a, b], _ => exact ⟨a, b, rfl⟩
section
variable {H : Type} {enc : TypeId × Value → H} {w : World} {base : Nat} {held : Bool}
theorem row_of8 {n : Nat} {u : Value} {y : DataW H × List MemPlace} (h : DataW.trod enc Tryd.prog w base (fun _ => true) held n 22 [u] = some y) : ∃ A len c zs, u = .slice A len c ∧ RowIn .u8 w A len c zs := by
  rcases open_ints Tryd.underlying22 Tryd.underlying5 (by kernel_rfl) h with ⟨hcs, _⟩ | ⟨x, l, c, zs, hcs, _, hl, hm, hz, _, hcell, hwz⟩
  · simp only [List.cons.injEq, and_true] at hcs
    exact ⟨none, 0, 0, [], hcs, .inl ⟨rfl, rfl, rfl, rfl⟩⟩
  · simp only [List.cons.injEq, and_true] at hcs
    exact ⟨some x, l, c, zs, hcs, .inr ⟨_, rfl, hl, hm, by simpa using hz, hcell, hwz⟩⟩
variable {r : Reach} {b0 : Nat} {v : Value} {d : DataW H} {p : List MemPlace}
end
end Go.Proofs.YtelcoeeijkainaaDoor.Sec
