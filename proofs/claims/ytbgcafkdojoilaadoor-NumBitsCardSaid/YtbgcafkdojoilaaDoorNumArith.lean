/-
  trammelref03's Bin: sums, differences, products, code by code. Condition: both numbers are of 64 bits.
-/
import Derived.Test.YtbgcafkdojoilaaDoorNumCmp
namespace Go.Proofs.YtbgcafkdojoilaaDoor.Num
open Go.RowKit

theorem mod_step (y j : Nat) : y % 2 ^ (j + 1) = y % 2 ^ j + bitN y j * 2 ^ j := by
  unfold bitN
  rw [Nat.pow_succ, Nat.mod_mul, Nat.mul_comm (2 ^ j)]
theorem mul_step (x y j X : Nat) (hX : X = (x * (y % 2 ^ j)) % 18446744073709551616) (hb : bitN y j = 1) :
    IntKind.u64.wrap ((X : Int) + IntKind.u64.wrap ((x : Int) * 2 ^ j)) = (((x * (y % 2 ^ (j + 1))) % 18446744073709551616 : Nat) : Int) := by
  have e : (x : Int) * 2 ^ j = ((x * 2 ^ j : Nat) : Int) := by simp
  rw [mod_step, hb, Nat.one_mul, Nat.mul_add, IntKind.wrap_u64, IntKind.wrap_u64, e, hX]
  generalize x * (y % 2 ^ j) = A
  generalize x * 2 ^ j = B
  omega
set_option maxRecDepth 100000 in
theorem bin_106 (a b : Nat) (wo : World) (ha : a < 18446744073709551616) (hb : b < 18446744073709551616) :
    Calls Tryd.prog 13 #[.int .i64 106, .int .u64 (a : Int), .int .u64 (b : Int)] wo (Is3 wo (binVal 10 32 (cutN a 32) (cutN b 32)).1 (binVal 10 32 (cutN a 32) (cutN b 32)).2 true) := by
  have HCA := Lib.hid (fun W => cut_any a 32 32 wide32 ha W)
  have HCB := Lib.hid (fun W => cut_any b 32 32 wide32 hb W)
  have hx : cutN a 32 < 4294967296 := cut_lt a 32
  have hy : cutN b 32 < 4294967296 := cut_lt b 32
  clear ha hb
  generalize cutN a 32 = x at *
  generalize cutN b 32 = y at *
  have HX := Lib.hid hx
  have HY := Lib.hid hy
  clear hx hy
  go_enter Tryd.func13, Tryd.ntmps13
  go_wp2_with fail
  refine (HCA.out _).mono ?_
  rintro e w' ⟨rfl, rfl⟩
  go_wp2_with fail
  refine (HCB.out _).mono ?_
  rintro e w' ⟨rfl, rfl⟩
  go_wp2_with fail
  rw [show IntKind.u64.wrap ((x : Int) + (y : Int)) = (((x + y) % 18446744073709551616 : Nat) : Int) from by rw [IntKind.wrap_u64]; omega]
  refine (cut_any _ 32 32 wide32 (by omega) _).mono ?_
  rintro e w' ⟨rfl, rfl⟩
  go_wp2
  go_ret3
  exact ⟨ret_3 (cut_cut _ 32 (by omega)), rfl⟩
set_option maxRecDepth 100000 in
theorem bin_107 (a b : Nat) (wo : World) (ha : a < 18446744073709551616) (hb : b < 18446744073709551616) :
    Calls Tryd.prog 13 #[.int .i64 107, .int .u64 (a : Int), .int .u64 (b : Int)] wo (Is3 wo (binVal 11 32 (cutN a 32) (cutN b 32)).1 (binVal 11 32 (cutN a 32) (cutN b 32)).2 true) := by
  have HCA := Lib.hid (fun W => cut_any a 32 32 wide32 ha W)
  have HCB := Lib.hid (fun W => cut_any b 32 32 wide32 hb W)
  have hx : cutN a 32 < 4294967296 := cut_lt a 32
  have hy : cutN b 32 < 4294967296 := cut_lt b 32
  clear ha hb
  generalize cutN a 32 = x at *
  generalize cutN b 32 = y at *
  have HX := Lib.hid hx
  have HY := Lib.hid hy
  clear hx hy
  have HM := Lib.hid (fun W => minus_any y 32 32 wide32 (by have := HY.out; omega) W)
  obtain ⟨m, hm⟩ : ∃ m, minusN y 32 = m := ⟨_, rfl⟩
  rw [hm] at HM
  have HMM := Lib.hid hm
  clear hm
  go_enter Tryd.func13, Tryd.ntmps13
  go_wp2_with fail
  refine (HCA.out _).mono ?_
  rintro e w' ⟨rfl, rfl⟩
  go_wp2_with fail
  refine (HCB.out _).mono ?_
  rintro e w' ⟨rfl, rfl⟩
  go_wp2_with fail
  refine (HM.out _).mono ?_
  rintro e w' ⟨rfl, rfl⟩
  go_wp2_with fail
  rw [show IntKind.u64.wrap ((x : Int) + (m : Int)) = (((x + m) % 18446744073709551616 : Nat) : Int) from by rw [IntKind.wrap_u64]; omega]
  refine (cut_any _ 32 32 wide32 (by omega) _).mono ?_
  rintro e w' ⟨rfl, rfl⟩
  go_wp2
  go_ret3
  exact ⟨ret_3 (by rw [cut_cut _ 32 (by omega), ← HMM.out]; rfl), rfl⟩
set_option maxRecDepth 100000 in
theorem bin_124 (a b : Nat) (wo : World) (ha : a < 18446744073709551616) (hb : b < 18446744073709551616) :
    Calls Tryd.prog 13 #[.int .i64 124, .int .u64 (a : Int), .int .u64 (b : Int)] wo (Is3 wo (binVal 10 64 (cutN a 64) (cutN b 64)).1 (binVal 10 64 (cutN a 64) (cutN b 64)).2 true) := by
  have HCA := Lib.hid (fun W => cut_any a 64 64 wide64 ha W)
  have HCB := Lib.hid (fun W => cut_any b 64 64 wide64 hb W)
  have hx : cutN a 64 < 18446744073709551616 := cut_lt a 64
  have hy : cutN b 64 < 18446744073709551616 := cut_lt b 64
  clear ha hb
  generalize cutN a 64 = x at *
  generalize cutN b 64 = y at *
  have HX := Lib.hid hx
  have HY := Lib.hid hy
  clear hx hy
  go_enter Tryd.func13, Tryd.ntmps13
  go_wp2_with fail
  refine (HCA.out _).mono ?_
  rintro e w' ⟨rfl, rfl⟩
  go_wp2_with fail
  refine (HCB.out _).mono ?_
  rintro e w' ⟨rfl, rfl⟩
  go_wp2_with fail
  rw [show IntKind.u64.wrap ((x : Int) + (y : Int)) = (((x + y) % 18446744073709551616 : Nat) : Int) from by rw [IntKind.wrap_u64]; omega]
  refine (cut_any _ 64 64 wide64 (by omega) _).mono ?_
  rintro e w' ⟨rfl, rfl⟩
  go_wp2
  go_ret3
  exact ⟨ret_3 (cut_cut _ 64 (by omega)), rfl⟩
set_option maxRecDepth 100000 in
theorem bin_125 (a b : Nat) (wo : World) (ha : a < 18446744073709551616) (hb : b < 18446744073709551616) :
    Calls Tryd.prog 13 #[.int .i64 125, .int .u64 (a : Int), .int .u64 (b : Int)] wo (Is3 wo (binVal 11 64 (cutN a 64) (cutN b 64)).1 (binVal 11 64 (cutN a 64) (cutN b 64)).2 true) := by
  have HCA := Lib.hid (fun W => cut_any a 64 64 wide64 ha W)
  have HCB := Lib.hid (fun W => cut_any b 64 64 wide64 hb W)
  have hx : cutN a 64 < 18446744073709551616 := cut_lt a 64
  have hy : cutN b 64 < 18446744073709551616 := cut_lt b 64
  clear ha hb
  generalize cutN a 64 = x at *
  generalize cutN b 64 = y at *
  have HX := Lib.hid hx
  have HY := Lib.hid hy
  clear hx hy
  have HM := Lib.hid (fun W => minus_any y 64 64 wide64 (by have := HY.out; omega) W)
  obtain ⟨m, hm⟩ : ∃ m, minusN y 64 = m := ⟨_, rfl⟩
  rw [hm] at HM
  have HMM := Lib.hid hm
  clear hm
  go_enter Tryd.func13, Tryd.ntmps13
  go_wp2_with fail
  refine (HCA.out _).mono ?_
  rintro e w' ⟨rfl, rfl⟩
  go_wp2_with fail
  refine (HCB.out _).mono ?_
  rintro e w' ⟨rfl, rfl⟩
  go_wp2_with fail
  refine (HM.out _).mono ?_
  rintro e w' ⟨rfl, rfl⟩
  go_wp2_with fail
  rw [show IntKind.u64.wrap ((x : Int) + (m : Int)) = (((x + m) % 18446744073709551616 : Nat) : Int) from by rw [IntKind.wrap_u64]; omega]
  refine (cut_any _ 64 64 wide64 (by omega) _).mono ?_
  rintro e w' ⟨rfl, rfl⟩
  go_wp2
  go_ret3
  exact ⟨ret_3 (by rw [cut_cut _ 64 (by omega), ← HMM.out]; rfl), rfl⟩
set_option maxRecDepth 100000 in
theorem bin_108 (a b : Nat) (wo : World) (ha : a < 18446744073709551616) (hb : b < 18446744073709551616) :
    Calls Tryd.prog 13 #[.int .i64 108, .int .u64 (a : Int), .int .u64 (b : Int)] wo (Is3 wo (binVal 12 32 (cutN a 32) (cutN b 32)).1 (binVal 12 32 (cutN a 32) (cutN b 32)).2 true) := by
  have HCA := Lib.hid (fun W => cut_any a 32 32 wide32 ha W)
  have HCB := Lib.hid (fun W => cut_any b 32 32 wide32 hb W)
  have hx : cutN a 32 < 4294967296 := cut_lt a 32
  have hy : cutN b 32 < 4294967296 := cut_lt b 32
  clear ha hb
  generalize cutN a 32 = x at *
  generalize cutN b 32 = y at *
  have HX := Lib.hid hx
  have HY := Lib.hid hy
  clear hx hy
  go_enter Tryd.func13, Tryd.ntmps13
  go_wp2_with fail
  refine (HCA.out _).mono ?_
  rintro e w' ⟨rfl, rfl⟩
  go_wp2_with fail
  refine (HCB.out _).mono ?_
  rintro e w' ⟨rfl, rfl⟩
  go_wp2
  go_loop [12, 13] (fun n i => ∃ (j X : Nat), j ≤ 32 ∧ i = .int .i64 (j : Int) ∧ n = .int .u64 (X : Int) ∧ Hid (X = (x * (y % 2 ^ j)) % 18446744073709551616)) (fun _ i => 32 - (intOf i).toNat)
  case atStart => exact ⟨0, 0, by omega, rfl, rfl, Lib.hid (by rw [Nat.pow_zero, Nat.mod_one, Nat.mul_zero])⟩
  case round =>
    obtain ⟨j, X, hj, rfl, rfl, hD⟩ := hrel
    by_cases hlt : j < 32
    · have hlti : (j : Int) < 32 := by omega
      have HB := Lib.hid (fun W => bit_any y j W (by omega))
      have hB1 := bitN_le y j
      by_cases hbit : bitN y j = 1
      · have hbz : ((bitN y j : Int) == 1) = true := by simp [hbit]
        have HN := Lib.hid (mul_step x y j X hD.out hbit)
        clear hD hbit
        generalize bitN y j = b at *
        go_wp2_with fail
        refine (HB.out _).mono ?_
        rintro e w' ⟨rfl, rfl⟩
        go_wp2
        go_round
        case rel => exact ⟨j + 1, _, by omega, by go_num, int_u64 HN.out, Lib.hid rfl⟩
        case measure => simp [intOf]; omega
      · have hbz : ((bitN y j : Int) == 1) = false := by simp; omega
        have HN : Hid (X = (x * (y % 2 ^ (j + 1))) % 18446744073709551616) := Lib.hid (by rw [hD.out, mod_step y j, show bitN y j = 0 from by omega, Nat.zero_mul, Nat.add_zero])
        clear hD hbit
        generalize bitN y j = b at *
        go_wp2_with fail
        refine (HB.out _).mono ?_
        rintro e w' ⟨rfl, rfl⟩
        go_wp2
        go_round
        case rel => exact ⟨j + 1, X, by omega, by go_num, rfl, HN⟩
        case measure => simp [intOf]; omega
    · have hlti : ¬ (j : Int) < 32 := by omega
      have HX2 : Hid (X < 18446744073709551616) := Lib.hid (by rw [hD.out]; omega)
      have HE : Hid (cutN X 32 = (binVal 12 32 x y).1) := Lib.hid (by
        rw [hD.out, show j = 32 from by omega, Nat.mod_eq_of_lt HY.out, cut_cut _ 32 (by omega)]
        rfl)
      clear hD
      go_wp2_with fail
      refine (cut_any X 32 32 wide32 HX2.out _).mono ?_
      rintro e w' ⟨rfl, rfl⟩
      go_wp2
      go_ret3
      exact ⟨ret_3 HE.out, rfl⟩
set_option maxRecDepth 100000 in
theorem bin_126 (a b : Nat) (wo : World) (ha : a < 18446744073709551616) (hb : b < 18446744073709551616) :
    Calls Tryd.prog 13 #[.int .i64 126, .int .u64 (a : Int), .int .u64 (b : Int)] wo (Is3 wo (binVal 12 64 (cutN a 64) (cutN b 64)).1 (binVal 12 64 (cutN a 64) (cutN b 64)).2 true) := by
  have HCA := Lib.hid (fun W => cut_any a 64 64 wide64 ha W)
  have HCB := Lib.hid (fun W => cut_any b 64 64 wide64 hb W)
  have hx : cutN a 64 < 18446744073709551616 := cut_lt a 64
  have hy : cutN b 64 < 18446744073709551616 := cut_lt b 64
  clear ha hb
  generalize cutN a 64 = x at *
  generalize cutN b 64 = y at *
  have HX := Lib.hid hx
  have HY := Lib.hid hy
  clear hx hy
  go_enter Tryd.func13, Tryd.ntmps13
  go_wp2_with fail
  refine (HCA.out _).mono ?_
  rintro e w' ⟨rfl, rfl⟩
  go_wp2_with fail
  refine (HCB.out _).mono ?_
  rintro e w' ⟨rfl, rfl⟩
  go_wp2
  go_loop [12, 13] (fun n i => ∃ (j X : Nat), j ≤ 64 ∧ i = .int .i64 (j : Int) ∧ n = .int .u64 (X : Int) ∧ Hid (X = (x * (y % 2 ^ j)) % 18446744073709551616)) (fun _ i => 64 - (intOf i).toNat)
  case atStart => exact ⟨0, 0, by omega, rfl, rfl, Lib.hid (by rw [Nat.pow_zero, Nat.mod_one, Nat.mul_zero])⟩
  case round =>
    obtain ⟨j, X, hj, rfl, rfl, hD⟩ := hrel
    by_cases hlt : j < 64
    · have hlti : (j : Int) < 64 := by omega
      have HB := Lib.hid (fun W => bit_any y j W (by omega))
      have hB1 := bitN_le y j
      by_cases hbit : bitN y j = 1
      · have hbz : ((bitN y j : Int) == 1) = true := by simp [hbit]
        have HN := Lib.hid (mul_step x y j X hD.out hbit)
        clear hD hbit
        generalize bitN y j = b at *
        go_wp2_with fail
        refine (HB.out _).mono ?_
        rintro e w' ⟨rfl, rfl⟩
        go_wp2
        go_round
        case rel => exact ⟨j + 1, _, by omega, by go_num, int_u64 HN.out, Lib.hid rfl⟩
        case measure => simp [intOf]; omega
      · have hbz : ((bitN y j : Int) == 1) = false := by simp; omega
        have HN : Hid (X = (x * (y % 2 ^ (j + 1))) % 18446744073709551616) := Lib.hid (by rw [hD.out, mod_step y j, show bitN y j = 0 from by omega, Nat.zero_mul, Nat.add_zero])
        clear hD hbit
        generalize bitN y j = b at *
        go_wp2_with fail
        refine (HB.out _).mono ?_
        rintro e w' ⟨rfl, rfl⟩
        go_wp2
        go_round
        case rel => exact ⟨j + 1, X, by omega, by go_num, rfl, HN⟩
        case measure => simp [intOf]; omega
    · have hlti : ¬ (j : Int) < 64 := by omega
      have HX2 : Hid (X < 18446744073709551616) := Lib.hid (by rw [hD.out]; omega)
      have HE : Hid (cutN X 64 = (binVal 12 64 x y).1) := Lib.hid (by
        rw [hD.out, show j = 64 from by omega, Nat.mod_eq_of_lt HY.out, cut_cut _ 64 (by omega)]
        rfl)
      clear hD
      go_wp2_with fail
      refine (cut_any X 64 64 wide64 HX2.out _).mono ?_
      rintro e w' ⟨rfl, rfl⟩
      go_wp2
      go_ret3
      exact ⟨ret_3 HE.out, rfl⟩
end Go.Proofs.YtbgcafkdojoilaaDoor.Num
