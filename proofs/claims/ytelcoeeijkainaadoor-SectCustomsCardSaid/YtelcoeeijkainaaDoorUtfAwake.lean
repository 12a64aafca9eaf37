/-
  trammellaw02.awake: it answers true, and changes nothing that was there. Condition: the library's two tables of utf8 hold what they were laid with.
-/
import Derived.Test.YtelcoeeijkainaaDoorUtfOwnName
import Derived.Test.YtelcoeeijkainaaDoorUtfOwnPut
namespace Go.Proofs.YtelcoeeijkainaaDoor.Utf
open Go.RowKit Go.Proofs.YtelcoeeijkainaaDoor.Leb

theorem awake_name : nameRes [2, 195, 169, 7] = (⟨#[195, 169]⟩, 3, 0) := by decide +kernel
theorem awake_yes : vld (bl ⟨#[97]⟩) = true := by decide +kernel
theorem awake_no : vld (bl ⟨#[192, 128]⟩) = false := by decide +kernel
theorem bytes4 (w : World) (b x y z u : Nat) (hx : x < 256) (hy : y < 256) (hz : z < 256) (hu : u < 256)
    (h0 : w.cell? ⟨b, 0, none⟩ = some (.int .u8 (x : Int))) (h1 : w.cell? ⟨b, 1, none⟩ = some (.int .u8 (y : Int))) (h2 : w.cell? ⟨b, 2, none⟩ = some (.int .u8 (z : Int)))
    (h3 : w.cell? ⟨b, 3, none⟩ = some (.int .u8 (u : Int))) : Bytes w (b + 1) (some ⟨b, 0, none⟩) [x, y, z, u] := by
  refine ⟨by simp; omega, fun _ => ⟨b, 0, rfl, by omega, ?_⟩⟩
  intro j h
  match j, h with
  | 0, _ => exact h0
  | 1, _ => exact h1
  | 2, _ => exact h2
  | 3, _ => exact h3
theorem awake_N (w : World) (t : TypeId) (hT : Tabs w) :
    Calls Tryd.prog 12 #[.slice (some ⟨w.heap.size, 0, none⟩) 4 4] (w.alloc (.cells #[.int .u8 2, .int .u8 195, .int .u8 169, .int .u8 7] t)) fun e w' => e = .returned (.tuple #[.string ⟨#[195, 169]⟩, .int .i64 3, .int .i64 0]) ∧ Below w.heap.size w w' := by
  have hal : Below w.heap.size w (w.alloc (.cells #[.int .u8 2, .int .u8 195, .int .u8 169, .int .u8 7] t)) := (Below.refl _ _).alloc (Nat.le_refl _) _
  have h := uname_any (some ⟨w.heap.size, 0, none⟩) [2, 195, 169, 7] 4 _ (hT.below hal)
    ((bytes4 _ w.heap.size 2 195 169 7 (by omega) (by omega) (by omega) (by omega) (by simp [go_sem]) (by simp [go_sem]) (by simp [go_sem]) (by simp [go_sem])).more (by simp)) (by simp) (by simp)
  rw [awake_name] at h
  refine h.mono ?_
  rintro e w' ⟨rfl, hb⟩
  exact ⟨rfl, hal.trans (hb.mono hal.size)⟩
end Go.Proofs.YtelcoeeijkainaaDoor.Utf
