/-
  trammellaw01.awake: it answers true, and changes nothing that was there. No condition.
-/
import Derived.Test.YtjillijkbmncmaaLebS
import Derived.Test.YtjillijkbmncmaaLebBytes
namespace Go.Proofs.Ytjillijkbmncmaa.Leb
open Go.RowKit

theorem awake_u : uRes [229, 142, 38, 9] 32 = (624485, 3, 0) := by decide +kernel
theorem awake_s : sRes [192, 187, 120] 32 = (-123456, 3, 0) := by decide +kernel
theorem bytes4 (w : World) (b x y z u : Nat) (hx : x < 256) (hy : y < 256) (hz : z < 256) (hu : u < 256)
    (h0 : w.cell? ⟨b, 0, none⟩ = some (.int .u8 (x : Int))) (h1 : w.cell? ⟨b, 1, none⟩ = some (.int .u8 (y : Int))) (h2 : w.cell? ⟨b, 2, none⟩ = some (.int .u8 (z : Int)))
    (h3 : w.cell? ⟨b, 3, none⟩ = some (.int .u8 (u : Int))) : Bytes w (b + 1) (some ⟨b, 0, none⟩) [x, y, z, u] := by
  refine ⟨by simp; omega, fun _ => ⟨b, 0, rfl, by omega, ?_⟩⟩
  intro j h
  match j, h with
  | 0, _ => exact h0
  | 1, _ => exact h1
  | 2, _ => exact h2
  | 3, _ => exact h3
theorem bytes3 (w : World) (b x y z : Nat) (hx : x < 256) (hy : y < 256) (hz : z < 256)
    (h0 : w.cell? ⟨b, 0, none⟩ = some (.int .u8 (x : Int))) (h1 : w.cell? ⟨b, 1, none⟩ = some (.int .u8 (y : Int))) (h2 : w.cell? ⟨b, 2, none⟩ = some (.int .u8 (z : Int))) :
    Bytes w (b + 1) (some ⟨b, 0, none⟩) [x, y, z] := by
  refine ⟨by simp; omega, fun _ => ⟨b, 0, rfl, by omega, ?_⟩⟩
  intro j h
  match j, h with
  | 0, _ => exact h0
  | 1, _ => exact h1
  | 2, _ => exact h2
theorem awake_U (w : World) (b cap : Nat) (h0 : w.cell? ⟨b, 0, none⟩ = some (.int .u8 229)) (h1 : w.cell? ⟨b, 1, none⟩ = some (.int .u8 142)) (h2 : w.cell? ⟨b, 2, none⟩ = some (.int .u8 38)) (h3 : w.cell? ⟨b, 3, none⟩ = some (.int .u8 9)) :
    Calls Try.prog 10 #[.slice (some ⟨b, 0, none⟩) 4 cap, .int .i64 32] w fun e w' => e = .returned (.tuple #[.int .u64 624485, .int .i64 3, .int .i64 0]) ∧ ∃ m, w' = w.drewN m := by
  have h := U_any _ _ cap _ 32 w (bytes4 w b 229 142 38 9 (by omega) (by omega) (by omega) (by omega) h0 h1 h2 h3) (by omega) (by omega)
  rw [awake_u] at h
  exact h
theorem awake_S (w : World) (b cap : Nat) (h0 : w.cell? ⟨b, 0, none⟩ = some (.int .u8 192)) (h1 : w.cell? ⟨b, 1, none⟩ = some (.int .u8 187)) (h2 : w.cell? ⟨b, 2, none⟩ = some (.int .u8 120)) :
    Calls Try.prog 12 #[.slice (some ⟨b, 0, none⟩) 3 cap, .int .i64 32] w fun e w' => e = .returned (.tuple #[.int .i64 (-123456), .int .i64 3, .int .i64 0]) ∧ ∃ m, w' = w.drewN m := by
  have h := S_any _ _ cap _ 32 w (bytes3 w b 192 187 120 (by omega) (by omega) (by omega) h0 h1 h2) (by omega) (by omega)
  rw [awake_s] at h
  exact h
theorem awake_any (w : World) : Calls Try.prog 9 #[] w fun e w' => e = .returned (.bool true) ∧ Below w.heap.size w w' := by
  go_enter Try.func9, Try.ntmps9
  go_wp2_with fail
  refine (awake_U _ _ _ (by simp [go_sem]) (by simp [go_sem]) (by simp [go_sem]) (by simp [go_sem])).mono ?_
  rintro e w' ⟨rfl, m, rfl⟩
  go_wp2_with fail
  refine (awake_S _ _ _ (by simp [go_sem]) (by simp [go_sem]) (by simp [go_sem])).mono ?_
  rintro e w' ⟨rfl, m', rfl⟩
  go_wp2
  go_ret
  exact ⟨rfl, below_drewN (Below.alloc (below_drewN (Below.alloc (Below.refl _ _) (Nat.le_refl _) _) _) (by simp) _) _⟩
end Go.Proofs.Ytjillijkbmncmaa.Leb
