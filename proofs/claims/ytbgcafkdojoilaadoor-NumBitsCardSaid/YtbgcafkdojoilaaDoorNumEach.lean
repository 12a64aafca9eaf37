/-
  trammelref03's each: and, or, exclusive or, bit by bit. No condition.
-/
import Derived.Test.YtbgcafkdojoilaaDoorNumSpread
namespace Go.Proofs.YtbgcafkdojoilaaDoor.Num
open Go.RowKit

theorem each_0 (a b : Nat) (wo : World) :
    Calls Tryd.prog 33 #[.int .u64 (a : Int), .int .u64 (b : Int), .int .i64 0] wo fun e w' => e = .returned (.int .u64 ((eachN a b 0 : Nat) : Int)) ∧ wo = w' := by
  go_enter Tryd.func33, Tryd.ntmps33
  go_wp2
  go_loop [7, 8] (fun m i => ∃ (I : Int) (X : Nat), -1 ≤ I ∧ I < 64 ∧ i = .int .i64 I ∧ m = .int .u64 (X : Int) ∧ Hid (Down (eachF a b 0) 64 I X)) (fun _ i => (intOf i + 1).toNat)
  case atStart => exact ⟨63, 0, by omega, by omega, rfl, rfl, Lib.hid (Down.start _ 64)⟩
  case round =>
    obtain ⟨I, X, hI1, hI2, rfl, rfl, hD⟩ := hrel
    by_cases hI : 0 ≤ I
    · obtain ⟨q, rfl⟩ := Int.eq_ofNat_of_zero_le hI
      have hX := hD.out.bound (eachF_le a b 0) (by omega)
      have HN := Lib.hid (hD.out.next (by omega))
      have hF : eachF a b 0 q = if 0 = 0 ∧ bitN a q + bitN b q = 2 ∨ 0 = 1 ∧ 0 < bitN a q + bitN b q ∨ 0 = 2 ∧ bitN a q + bitN b q = 1 then 1 else 0 := rfl
      clear hD
      have HA := Lib.hid (fun W => bit_any a q W (by omega))
      have HB := Lib.hid (fun W => bit_any b q W (by omega))
      have hA1 := bitN_le a q
      have hB1 := bitN_le b q
      generalize bitN a q = x at *
      generalize bitN b q = y at *
      by_cases hc : x + y = 2
      · rw [if_pos (by omega)] at hF
        rw [hF] at HN
        clear hF
        have ht : ((x : Int) + (y : Int) == 2) = true := by simp; omega
        go_wp2_with fail
        refine (HA.out _).mono ?_
        rintro e w' ⟨rfl, rfl⟩
        go_wp2_with fail
        refine (HB.out _).mono ?_
        rintro e w' ⟨rfl, rfl⟩
        go_wp2
        go_round
        case rel => exact ⟨(q : Int) - 1, X * 2 + 1, by omega, by omega, rfl, int_u64 (by omega), HN⟩
        case measure => simp [intOf]
      · rw [if_neg (by omega)] at hF
        rw [hF] at HN
        clear hF
        have ht : ((x : Int) + (y : Int) == 2) = false := by simp; omega
        go_wp2_with fail
        refine (HA.out _).mono ?_
        rintro e w' ⟨rfl, rfl⟩
        go_wp2_with fail
        refine (HB.out _).mono ?_
        rintro e w' ⟨rfl, rfl⟩
        go_wp2
        go_round
        case rel => exact ⟨(q : Int) - 1, X * 2 + 0, by omega, by omega, rfl, int_u64 (by omega), HN⟩
        case measure => simp [intOf]
    · have HE := Lib.hid (hD.out.ends hI1 hI)
      clear hD
      go_wp2
      go_ret
      exact ⟨ret_u64 (by rw [HE.out]; rfl), rfl⟩
theorem each_1 (a b : Nat) (wo : World) :
    Calls Tryd.prog 33 #[.int .u64 (a : Int), .int .u64 (b : Int), .int .i64 1] wo fun e w' => e = .returned (.int .u64 ((eachN a b 1 : Nat) : Int)) ∧ wo = w' := by
  go_enter Tryd.func33, Tryd.ntmps33
  go_wp2
  go_loop [7, 8] (fun m i => ∃ (I : Int) (X : Nat), -1 ≤ I ∧ I < 64 ∧ i = .int .i64 I ∧ m = .int .u64 (X : Int) ∧ Hid (Down (eachF a b 1) 64 I X)) (fun _ i => (intOf i + 1).toNat)
  case atStart => exact ⟨63, 0, by omega, by omega, rfl, rfl, Lib.hid (Down.start _ 64)⟩
  case round =>
    obtain ⟨I, X, hI1, hI2, rfl, rfl, hD⟩ := hrel
    by_cases hI : 0 ≤ I
    · obtain ⟨q, rfl⟩ := Int.eq_ofNat_of_zero_le hI
      have hX := hD.out.bound (eachF_le a b 1) (by omega)
      have HN := Lib.hid (hD.out.next (by omega))
      have hF : eachF a b 1 q = if 1 = 0 ∧ bitN a q + bitN b q = 2 ∨ 1 = 1 ∧ 0 < bitN a q + bitN b q ∨ 1 = 2 ∧ bitN a q + bitN b q = 1 then 1 else 0 := rfl
      clear hD
      have HA := Lib.hid (fun W => bit_any a q W (by omega))
      have HB := Lib.hid (fun W => bit_any b q W (by omega))
      have hA1 := bitN_le a q
      have hB1 := bitN_le b q
      generalize bitN a q = x at *
      generalize bitN b q = y at *
      by_cases hc : 0 < x + y
      · rw [if_pos (by omega)] at hF
        rw [hF] at HN
        clear hF
        have ht : (0 : Int) < (x : Int) + (y : Int) := by omega
        go_wp2_with fail
        refine (HA.out _).mono ?_
        rintro e w' ⟨rfl, rfl⟩
        go_wp2_with fail
        refine (HB.out _).mono ?_
        rintro e w' ⟨rfl, rfl⟩
        go_wp2
        go_round
        case rel => exact ⟨(q : Int) - 1, X * 2 + 1, by omega, by omega, rfl, int_u64 (by omega), HN⟩
        case measure => simp [intOf]
      · rw [if_neg (by omega)] at hF
        rw [hF] at HN
        clear hF
        have ht : ¬ (0 : Int) < (x : Int) + (y : Int) := by omega
        go_wp2_with fail
        refine (HA.out _).mono ?_
        rintro e w' ⟨rfl, rfl⟩
        go_wp2_with fail
        refine (HB.out _).mono ?_
        rintro e w' ⟨rfl, rfl⟩
        go_wp2
        go_round
        case rel => exact ⟨(q : Int) - 1, X * 2 + 0, by omega, by omega, rfl, int_u64 (by omega), HN⟩
        case measure => simp [intOf]
    · have HE := Lib.hid (hD.out.ends hI1 hI)
      clear hD
      go_wp2
      go_ret
      exact ⟨ret_u64 (by rw [HE.out]; rfl), rfl⟩
theorem each_2 (a b : Nat) (wo : World) :
    Calls Tryd.prog 33 #[.int .u64 (a : Int), .int .u64 (b : Int), .int .i64 2] wo fun e w' => e = .returned (.int .u64 ((eachN a b 2 : Nat) : Int)) ∧ wo = w' := by
  go_enter Tryd.func33, Tryd.ntmps33
  go_wp2
  go_loop [7, 8] (fun m i => ∃ (I : Int) (X : Nat), -1 ≤ I ∧ I < 64 ∧ i = .int .i64 I ∧ m = .int .u64 (X : Int) ∧ Hid (Down (eachF a b 2) 64 I X)) (fun _ i => (intOf i + 1).toNat)
  case atStart => exact ⟨63, 0, by omega, by omega, rfl, rfl, Lib.hid (Down.start _ 64)⟩
  case round =>
    obtain ⟨I, X, hI1, hI2, rfl, rfl, hD⟩ := hrel
    by_cases hI : 0 ≤ I
    · obtain ⟨q, rfl⟩ := Int.eq_ofNat_of_zero_le hI
      have hX := hD.out.bound (eachF_le a b 2) (by omega)
      have HN := Lib.hid (hD.out.next (by omega))
      have hF : eachF a b 2 q = if 2 = 0 ∧ bitN a q + bitN b q = 2 ∨ 2 = 1 ∧ 0 < bitN a q + bitN b q ∨ 2 = 2 ∧ bitN a q + bitN b q = 1 then 1 else 0 := rfl
      clear hD
      have HA := Lib.hid (fun W => bit_any a q W (by omega))
      have HB := Lib.hid (fun W => bit_any b q W (by omega))
      have hA1 := bitN_le a q
      have hB1 := bitN_le b q
      generalize bitN a q = x at *
      generalize bitN b q = y at *
      by_cases hc : x + y = 1
      · rw [if_pos (by omega)] at hF
        rw [hF] at HN
        clear hF
        have ht : ((x : Int) + (y : Int) == 1) = true := by simp; omega
        go_wp2_with fail
        refine (HA.out _).mono ?_
        rintro e w' ⟨rfl, rfl⟩
        go_wp2_with fail
        refine (HB.out _).mono ?_
        rintro e w' ⟨rfl, rfl⟩
        go_wp2
        go_round
        case rel => exact ⟨(q : Int) - 1, X * 2 + 1, by omega, by omega, rfl, int_u64 (by omega), HN⟩
        case measure => simp [intOf]
      · rw [if_neg (by omega)] at hF
        rw [hF] at HN
        clear hF
        have ht : ((x : Int) + (y : Int) == 1) = false := by simp; omega
        go_wp2_with fail
        refine (HA.out _).mono ?_
        rintro e w' ⟨rfl, rfl⟩
        go_wp2_with fail
        refine (HB.out _).mono ?_
        rintro e w' ⟨rfl, rfl⟩
        go_wp2
        go_round
        case rel => exact ⟨(q : Int) - 1, X * 2 + 0, by omega, by omega, rfl, int_u64 (by omega), HN⟩
        case measure => simp [intOf]
    · have HE := Lib.hid (hD.out.ends hI1 hI)
      clear hD
      go_wp2
      go_ret
      exact ⟨ret_u64 (by rw [HE.out]; rfl), rfl⟩
end Go.Proofs.YtbgcafkdojoilaaDoor.Num
