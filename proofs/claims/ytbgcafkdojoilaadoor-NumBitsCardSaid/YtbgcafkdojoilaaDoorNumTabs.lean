/-
  What the rows lay in the library's table of math/bits.TrailingZeros64 is what the library's contract asks for. No condition.
-/
import Derived.Test.YtbgcafkdojoilaaDoorRows
import Derived.Test.YtbgcafkdojoilaaDoorNumOwnTypes
import Derived.Lib.LaidTab
import Derived.Lay
import Derived.ProofKit
import Derived.LaidOnce
import Derived.SevenTiedAt
namespace Go.Proofs.YtbgcafkdojoilaaDoor.Num
open Go.RowKit Go.Shelf Go.Lib

def laid : List (String × DataW Unit) := [("math/bits.deBruijn64tab", Rows.laid_math_bits_deBruijn64tab)]
theorem tab_eq : (Rows.laid_math_bits_deBruijn64tab : DataW Unit) = tabData .u8 (Lib.deBruijn64tab.map Int.ofNat) := by kernel_rfl
/-- Where a cell can be read there is a block. -/
theorem there {w : World} {b o : Nat} {v : Value} (h : w.cell? ⟨b, o, none⟩ = some v) : b < w.heap.size := by
  rcases Nat.lt_or_ge b w.heap.size with hb | hb
  · exact hb
  · simp [World.cell?, Array.getElem?_eq_none hb] at h
theorem tabs_of {w : World} (hL : laidMetH Tryd.prog laid w) : Tab w := by
  rw [MakeChecks.laidMetH_plain _ _ _ (by kernel_rfl)] at hL
  obtain ⟨ps, ⟨g, t, cs, fuel, p, q, hg, hty, hvar, hd, _, _⟩, _⟩ := hL
  rw [tab_eq] at hd
  obtain rfl : Tryd.lays29_ren.g 1 = g := Option.some.inj ((show Tryd.prog.globalNamed "math/bits.deBruijn64tab" = some (Tryd.lays29_ren.g 1) by kernel_rfl).symm.trans hg)
  obtain rfl : Tryd.lays29_ren.t 54 = t := Option.some.inj ((show (Tryd.prog.globals[Tryd.lays29_ren.g 1]?).map (·.type) = some (Tryd.lays29_ren.t 54) by kernel_rfl).symm.trans hty)
  have hcs := cells_of_tab Tryd.lays29.t54 Tryd.lays29.t5 (by kernel_rfl) (by kernel_rfl) hd
  have hc : ∀ j, j < Lib.deBruijn64tab.length → w.cell? ⟨Tryd.lays29_ren.g 1, j, none⟩ = some (.int .u8 (Lib.deBruijn64tab.getD j 0)) := by
    intro j hj
    rw [World.var?_cell hg hvar j, ← Array.getElem?_toList, hcs]
    simp [hj]
  exact ⟨hc, there (hc 0 (by decide))⟩
end Go.Proofs.YtbgcafkdojoilaaDoor.Num
