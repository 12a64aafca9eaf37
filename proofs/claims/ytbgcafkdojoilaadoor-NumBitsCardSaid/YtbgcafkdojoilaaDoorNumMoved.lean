/-
  trammelref03's moved and each: numbers that are put together bit by bit. Conditions as each lemma says.
-/
import Derived.Test.YtbgcafkdojoilaaDoorNumSpread
namespace Go.Proofs.YtbgcafkdojoilaaDoor.Num
open Go.RowKit

theorem up_32 (a s : Nat) (wo : World) (hs : s < 32) :
    Calls Tryd.prog 34 #[.int .u64 (a : Int), .int .i64 (s : Int), .int .i64 32, .int .u64 0] wo fun e w' => e = .returned (.int .u64 ((upN a s 32 : Nat) : Int)) ∧ wo = w' := by
  have hf : ∀ i, (fun i => if i < s then 0 else bitN a (i - s)) i ≤ 1 := fun i => by
    have := bitN_le a (i - s)
    show (if i < s then 0 else bitN a (i - s)) ≤ 1
    split <;> omega
  go_enter Tryd.func34, Tryd.ntmps34
  go_wp2
  go_loop [9, 10] (fun m i => ∃ (I : Int) (X : Nat), -1 ≤ I ∧ I < 32 ∧ i = .int .i64 I ∧ m = .int .u64 (X : Int) ∧ Hid (Down (fun i => if i < s then 0 else bitN a (i - s)) 32 I X)) (fun _ i => (intOf i + 1).toNat)
  case atStart => exact ⟨31, 0, by omega, by omega, rfl, rfl, Lib.hid (Down.start _ 32)⟩
  case round =>
    obtain ⟨I, X, hI1, hI2, rfl, rfl, hD⟩ := hrel
    by_cases hI : 0 ≤ I
    · obtain ⟨q, rfl⟩ := Int.eq_ofNat_of_zero_le hI
      have hX := hD.out.bound hf (by omega)
      have HN : Hid (Down (fun i => if i < s then 0 else bitN a (i - s)) 32 ((q : Int) - 1) (X * 2 + if q < s then 0 else bitN a (q - s))) := Lib.hid (hD.out.next (by omega))
      clear hD hf
      by_cases hq : q < s
      · have hqi : ¬ (0 : Int) ≤ (q : Int) - (s : Int) := by omega
        have hqj : ¬ (s : Int) ≤ (q : Int) := by omega
        have hqk : (q : Int) - (s : Int) < 0 := by omega
        have hql : (q : Int) < (s : Int) := by omega
        rw [if_pos hq] at HN
        go_wp2
        go_round
        case rel => exact ⟨(q : Int) - 1, X * 2 + 0, by omega, by omega, rfl, int_u64 (by omega), HN⟩
        case measure => simp [intOf]
      · rw [if_neg hq] at HN
        have HB := Lib.hid (fun W => bit_any a (q - s) W (by omega))
        have HQ : Hid ((q : Int) - (s : Int) = ((q - s : Nat) : Int)) := Lib.hid (by omega)
        have hB1 := bitN_le a (q - s)
        have hqi : (0 : Int) ≤ (q : Int) - (s : Int) := by omega
        have hqj : (s : Int) ≤ (q : Int) := by omega
        have hqk : ¬ (q : Int) - (s : Int) < 0 := by omega
        have hql : ¬ (q : Int) < (s : Int) := by omega
        have hqw : (q : Int) - (s : Int) < 32 := by omega
        generalize bitN a (q - s) = b at *
        generalize q - s = p at *
        go_wp2_with fail
        rw [HQ.out]
        refine (HB.out _).mono ?_
        rintro e w' ⟨rfl, rfl⟩
        go_wp2
        go_round
        case rel => exact ⟨(q : Int) - 1, X * 2 + b, by omega, by omega, rfl, int_u64 (by omega), HN⟩
        case measure => simp [intOf]
    · have HE := Lib.hid (hD.out.ends hI1 hI)
      clear hD
      go_wp2
      go_ret
      exact ⟨ret_u64 (by rw [HE.out]; rfl), rfl⟩
theorem up_64 (a s : Nat) (wo : World) (hs : s < 64) :
    Calls Tryd.prog 34 #[.int .u64 (a : Int), .int .i64 (s : Int), .int .i64 64, .int .u64 0] wo fun e w' => e = .returned (.int .u64 ((upN a s 64 : Nat) : Int)) ∧ wo = w' := by
  have hf : ∀ i, (fun i => if i < s then 0 else bitN a (i - s)) i ≤ 1 := fun i => by
    have := bitN_le a (i - s)
    show (if i < s then 0 else bitN a (i - s)) ≤ 1
    split <;> omega
  go_enter Tryd.func34, Tryd.ntmps34
  go_wp2
  go_loop [9, 10] (fun m i => ∃ (I : Int) (X : Nat), -1 ≤ I ∧ I < 64 ∧ i = .int .i64 I ∧ m = .int .u64 (X : Int) ∧ Hid (Down (fun i => if i < s then 0 else bitN a (i - s)) 64 I X)) (fun _ i => (intOf i + 1).toNat)
  case atStart => exact ⟨63, 0, by omega, by omega, rfl, rfl, Lib.hid (Down.start _ 64)⟩
  case round =>
    obtain ⟨I, X, hI1, hI2, rfl, rfl, hD⟩ := hrel
    by_cases hI : 0 ≤ I
    · obtain ⟨q, rfl⟩ := Int.eq_ofNat_of_zero_le hI
      have hX := hD.out.bound hf (by omega)
      have HN : Hid (Down (fun i => if i < s then 0 else bitN a (i - s)) 64 ((q : Int) - 1) (X * 2 + if q < s then 0 else bitN a (q - s))) := Lib.hid (hD.out.next (by omega))
      clear hD hf
      by_cases hq : q < s
      · have hqi : ¬ (0 : Int) ≤ (q : Int) - (s : Int) := by omega
        have hqj : ¬ (s : Int) ≤ (q : Int) := by omega
        have hqk : (q : Int) - (s : Int) < 0 := by omega
        have hql : (q : Int) < (s : Int) := by omega
        rw [if_pos hq] at HN
        go_wp2
        go_round
        case rel => exact ⟨(q : Int) - 1, X * 2 + 0, by omega, by omega, rfl, int_u64 (by omega), HN⟩
        case measure => simp [intOf]
      · rw [if_neg hq] at HN
        have HB := Lib.hid (fun W => bit_any a (q - s) W (by omega))
        have HQ : Hid ((q : Int) - (s : Int) = ((q - s : Nat) : Int)) := Lib.hid (by omega)
        have hB1 := bitN_le a (q - s)
        have hqi : (0 : Int) ≤ (q : Int) - (s : Int) := by omega
        have hqj : (s : Int) ≤ (q : Int) := by omega
        have hqk : ¬ (q : Int) - (s : Int) < 0 := by omega
        have hql : ¬ (q : Int) < (s : Int) := by omega
        have hqw : (q : Int) - (s : Int) < 64 := by omega
        generalize bitN a (q - s) = b at *
        generalize q - s = p at *
        go_wp2_with fail
        rw [HQ.out]
        refine (HB.out _).mono ?_
        rintro e w' ⟨rfl, rfl⟩
        go_wp2
        go_round
        case rel => exact ⟨(q : Int) - 1, X * 2 + b, by omega, by omega, rfl, int_u64 (by omega), HN⟩
        case measure => simp [intOf]
    · have HE := Lib.hid (hD.out.ends hI1 hI)
      clear hD
      go_wp2
      go_ret
      exact ⟨ret_u64 (by rw [HE.out]; rfl), rfl⟩
theorem down_32 (a s fill : Nat) (wo : World) (hs : s < 32) (hfill : fill ≤ 1) :
    Calls Tryd.prog 34 #[.int .u64 (a : Int), .int .i64 (-(s : Int)), .int .i64 32, .int .u64 (fill : Int)] wo fun e w' => e = .returned (.int .u64 ((downN a s 32 fill : Nat) : Int)) ∧ wo = w' := by
  have hf : ∀ i, (fun i => if i + s < 32 then bitN a (i + s) else fill) i ≤ 1 := fun i => by
    have := bitN_le a (i + s)
    show (if i + s < 32 then bitN a (i + s) else fill) ≤ 1
    split <;> omega
  go_enter Tryd.func34, Tryd.ntmps34
  go_wp2
  go_loop [9, 10] (fun m i => ∃ (I : Int) (X : Nat), -1 ≤ I ∧ I < 32 ∧ i = .int .i64 I ∧ m = .int .u64 (X : Int) ∧ Hid (Down (fun i => if i + s < 32 then bitN a (i + s) else fill) 32 I X)) (fun _ i => (intOf i + 1).toNat)
  case atStart => exact ⟨31, 0, by omega, by omega, rfl, rfl, Lib.hid (Down.start _ 32)⟩
  case round =>
    obtain ⟨I, X, hI1, hI2, rfl, rfl, hD⟩ := hrel
    by_cases hI : 0 ≤ I
    · obtain ⟨q, rfl⟩ := Int.eq_ofNat_of_zero_le hI
      have hX := hD.out.bound hf (by omega)
      have HN : Hid (Down (fun i => if i + s < 32 then bitN a (i + s) else fill) 32 ((q : Int) - 1) (X * 2 + if q + s < 32 then bitN a (q + s) else fill)) := Lib.hid (hD.out.next (by omega))
      clear hD hf
      have hq0 : (0 : Int) ≤ (q : Int) + (s : Int) := by omega
      have hq1 : ¬ (q : Int) + (s : Int) < 0 := by omega
      by_cases hq : q + s < 32
      · rw [if_pos hq] at HN
        have hqi : (q : Int) + (s : Int) < 32 := by omega
        have HB := Lib.hid (fun W => bit_any a (q + s) W (by omega))
        have HQ : Hid ((q : Int) + (s : Int) = ((q + s : Nat) : Int)) := Lib.hid (by omega)
        have hB1 := bitN_le a (q + s)
        generalize bitN a (q + s) = b at *
        generalize q + s = p at *
        go_wp2_with fail
        rw [HQ.out]
        refine (HB.out _).mono ?_
        rintro e w' ⟨rfl, rfl⟩
        go_wp2
        go_round
        case rel => exact ⟨(q : Int) - 1, X * 2 + b, by omega, by omega, rfl, int_u64 (by omega), HN⟩
        case measure => simp [intOf]
      · rw [if_neg hq] at HN
        have hqi : ¬ (q : Int) + (s : Int) < 32 := by omega
        go_wp2
        go_round
        case rel => exact ⟨(q : Int) - 1, X * 2 + fill, by omega, by omega, rfl, int_u64 (by omega), HN⟩
        case measure => simp [intOf]
    · have HE := Lib.hid (hD.out.ends hI1 hI)
      clear hD
      go_wp2
      go_ret
      exact ⟨ret_u64 (by rw [HE.out]; rfl), rfl⟩
theorem down_64 (a s fill : Nat) (wo : World) (hs : s < 64) (hfill : fill ≤ 1) :
    Calls Tryd.prog 34 #[.int .u64 (a : Int), .int .i64 (-(s : Int)), .int .i64 64, .int .u64 (fill : Int)] wo fun e w' => e = .returned (.int .u64 ((downN a s 64 fill : Nat) : Int)) ∧ wo = w' := by
  have hf : ∀ i, (fun i => if i + s < 64 then bitN a (i + s) else fill) i ≤ 1 := fun i => by
    have := bitN_le a (i + s)
    show (if i + s < 64 then bitN a (i + s) else fill) ≤ 1
    split <;> omega
  go_enter Tryd.func34, Tryd.ntmps34
  go_wp2
  go_loop [9, 10] (fun m i => ∃ (I : Int) (X : Nat), -1 ≤ I ∧ I < 64 ∧ i = .int .i64 I ∧ m = .int .u64 (X : Int) ∧ Hid (Down (fun i => if i + s < 64 then bitN a (i + s) else fill) 64 I X)) (fun _ i => (intOf i + 1).toNat)
  case atStart => exact ⟨63, 0, by omega, by omega, rfl, rfl, Lib.hid (Down.start _ 64)⟩
  case round =>
    obtain ⟨I, X, hI1, hI2, rfl, rfl, hD⟩ := hrel
    by_cases hI : 0 ≤ I
    · obtain ⟨q, rfl⟩ := Int.eq_ofNat_of_zero_le hI
      have hX := hD.out.bound hf (by omega)
      have HN : Hid (Down (fun i => if i + s < 64 then bitN a (i + s) else fill) 64 ((q : Int) - 1) (X * 2 + if q + s < 64 then bitN a (q + s) else fill)) := Lib.hid (hD.out.next (by omega))
      clear hD hf
      have hq0 : (0 : Int) ≤ (q : Int) + (s : Int) := by omega
      have hq1 : ¬ (q : Int) + (s : Int) < 0 := by omega
      by_cases hq : q + s < 64
      · rw [if_pos hq] at HN
        have hqi : (q : Int) + (s : Int) < 64 := by omega
        have HB := Lib.hid (fun W => bit_any a (q + s) W (by omega))
        have HQ : Hid ((q : Int) + (s : Int) = ((q + s : Nat) : Int)) := Lib.hid (by omega)
        have hB1 := bitN_le a (q + s)
        generalize bitN a (q + s) = b at *
        generalize q + s = p at *
        go_wp2_with fail
        rw [HQ.out]
        refine (HB.out _).mono ?_
        rintro e w' ⟨rfl, rfl⟩
        go_wp2
        go_round
        case rel => exact ⟨(q : Int) - 1, X * 2 + b, by omega, by omega, rfl, int_u64 (by omega), HN⟩
        case measure => simp [intOf]
      · rw [if_neg hq] at HN
        have hqi : ¬ (q : Int) + (s : Int) < 64 := by omega
        go_wp2
        go_round
        case rel => exact ⟨(q : Int) - 1, X * 2 + fill, by omega, by omega, rfl, int_u64 (by omega), HN⟩
        case measure => simp [intOf]
    · have HE := Lib.hid (hD.out.ends hI1 hI)
      clear hD
      go_wp2
      go_ret
      exact ⟨ret_u64 (by rw [HE.out]; rfl), rfl⟩
end Go.Proofs.YtbgcafkdojoilaaDoor.Num
