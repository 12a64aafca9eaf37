/-
  trammellaw02.awake: it answers true, and changes nothing that was there. Condition: the library's two tables of utf8 hold what they were laid with.
-/
import Derived.Test.YteecpjaofekfdaaDoorUtfOwnName
import Derived.Test.YteecpjaofekfdaaDoorUtfOwnPut
namespace Go.Proofs.YteecpjaofekfdaaDoor.Utf
open Go.RowKit Go.Proofs.YteecpjaofekfdaaDoor.Leb

theorem awake_name : nameRes [2, 195, 169, 7] = (⟨#[195, 169]⟩, 3, 0) := by decide +kernel
theorem awake_yes : vld (bl ⟨#[97]⟩) = true := by decide +kernel
theorem awake_no : vld (bl ⟨#[192, 128]⟩) = false := by decide +kernel
theorem bytes4 (w : World) (b x y z u : Nat) (hx : x < 256) (hy : y < 256) (hz : z < 256) (hu : u < 256)
    (h0 : w.cell? ⟨b, 0, none⟩ = some (.int .u8 (x : Int))) (h1 : w.cell? ⟨b, 1, none⟩ = some (.int .u8 (y : Int))) (h2 : w.cell? ⟨b, 2, none⟩ = some (.int .u8 (z : Int)))
    (h3 : w.cell? ⟨b, 3, none⟩ = some (.int .u8 (u : Int))) : Bytes w (b + 1) (some ⟨b, 0, none⟩) [x, y, z, u] := by
  refine ⟨by simp; omega, fun _ => ⟨b, 0, rfl, by omega, ?_⟩⟩
  intro j h
  match j, h with
  | 0, _ => exact h0
  | 1, _ => exact h1
  | 2, _ => exact h2
  | 3, _ => exact h3
theorem awake_N (w : World) (t : TypeId) (hT : Tabs w) :
    Calls Tryd.prog 11 #[.slice (some ⟨w.heap.size, 0, none⟩) 4 4] (w.alloc (.cells #[.int .u8 2, .int .u8 195, .int .u8 169, .int .u8 7] t)) fun e w' => e = .returned (.tuple #[.string ⟨#[195, 169]⟩, .int .i64 3, .int .i64 0]) ∧ Below w.heap.size w w' := by
  have hal : Below w.heap.size w (w.alloc (.cells #[.int .u8 2, .int .u8 195, .int .u8 169, .int .u8 7] t)) := (Below.refl _ _).alloc (Nat.le_refl _) _
  have h := uname_any (some ⟨w.heap.size, 0, none⟩) [2, 195, 169, 7] 4 _ (hT.below hal)
    ((bytes4 _ w.heap.size 2 195 169 7 (by omega) (by omega) (by omega) (by omega) (by simp [go_sem]) (by simp [go_sem]) (by simp [go_sem]) (by simp [go_sem])).more (by simp)) (by simp) (by simp)
  rw [awake_name] at h
  refine h.mono ?_
  rintro e w' ⟨rfl, hb⟩
  exact ⟨rfl, hal.trans (hb.mono hal.size)⟩
theorem awake_any (w : World) (hT : Tabs w) : Calls Tryd.prog 8 #[] w fun e w' => e = .returned (.bool true) ∧ Below w.heap.size w w' := by
  have HN := Lib.hid (fun t => awake_N w t hT)
  have HY : Hid (∀ W, Tabs W → Calls Tryd.prog 9 #[.string ⟨#[97]⟩] W fun e w' => e = .returned (.bool true) ∧ Below W.heap.size W w') := Lib.hid (fun W hW => by
    have := uvalid_any ⟨#[97]⟩ W (by decide) hW
    rw [awake_yes] at this
    exact this)
  have HZ : Hid (∀ W, Tabs W → Calls Tryd.prog 9 #[.string ⟨#[192, 128]⟩] W fun e w' => e = .returned (.bool false) ∧ Below W.heap.size W w') := Lib.hid (fun W hW => by
    have := uvalid_any ⟨#[192, 128]⟩ W (by decide) hW
    rw [awake_no] at this
    exact this)
  go_enter Tryd.func8, Tryd.ntmps8
  go_wp2_with fail
  refine (HN.out _).mono ?_
  rintro e w1 ⟨rfl, hb1⟩
  go_wp2_with fail
  refine (HY.out _ (hT.below hb1)).mono ?_
  rintro e w2 ⟨rfl, hb2⟩
  have hb3 := hb1.trans (hb2.mono hb1.size)
  go_wp2_with fail
  refine (HZ.out _ (hT.below hb3)).mono ?_
  rintro e w4 ⟨rfl, hb4⟩
  have hb5 := hb3.trans (hb4.mono hb3.size)
  go_wp2
  go_ret
  exact ⟨rfl, hb5⟩
end Go.Proofs.YteecpjaofekfdaaDoor.Utf
