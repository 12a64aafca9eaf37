/-
  trammelref03's Bin: the comparisons, code by code. Condition: both numbers are of 64 bits.
-/
import Derived.Test.YtbgcafkdojoilaaDoorNumBinVal
namespace Go.Proofs.YtbgcafkdojoilaaDoor.Num
open Go.RowKit

theorem ret_3 {a b : Nat} {t : Int} {c : Bool} (h : a = b) : Ending.returned (.tuple #[.int .u64 (a : Int), .int .i64 t, .bool c]) = .returned (.tuple #[.int .u64 (b : Int), .int .i64 t, .bool c]) := by rw [h]
theorem one_eq (x y : Nat) : ((x : Int) == (y : Int)).toNat = (decide (x = y)).toNat := by
  congr 1
  rw [Bool.eq_iff_iff]; simp; omega
theorem one_ne (x y : Nat) : ((x : Int) != (y : Int)).toNat = (!decide (x = y)).toNat := by
  congr 1
  rw [Bool.eq_iff_iff]; simp; omega
set_option maxRecDepth 100000 in
theorem bin_70 (a b : Nat) (wo : World) (ha : a < 18446744073709551616) (hb : b < 18446744073709551616) :
    Calls Tryd.prog 13 #[.int .i64 70, .int .u64 (a : Int), .int .u64 (b : Int)] wo (Is3 wo (binVal 0 32 (cutN a 32) (cutN b 32)).1 (binVal 0 32 (cutN a 32) (cutN b 32)).2 true) := by
  have HCA := Lib.hid (fun W => cut_any a 32 32 wide32 ha W)
  have HCB := Lib.hid (fun W => cut_any b 32 32 wide32 hb W)
  have hx : cutN a 32 < 4294967296 := cut_lt a 32
  have hy : cutN b 32 < 4294967296 := cut_lt b 32
  clear ha hb
  generalize cutN a 32 = x at *
  generalize cutN b 32 = y at *
  have HX := Lib.hid hx
  have HY := Lib.hid hy
  clear hx hy
  go_enter Tryd.func13, Tryd.ntmps13
  go_wp2_with fail
  refine (HCA.out _).mono ?_
  rintro e w' ⟨rfl, rfl⟩
  go_wp2_with fail
  refine (HCB.out _).mono ?_
  rintro e w' ⟨rfl, rfl⟩
  go_wp2_with fail
  refine (one_any _ _).mono ?_
  rintro e w' ⟨rfl, rfl⟩
  go_wp2
  go_ret3
  exact ⟨ret_3 (one_eq x y), rfl⟩
set_option maxRecDepth 100000 in
theorem bin_71 (a b : Nat) (wo : World) (ha : a < 18446744073709551616) (hb : b < 18446744073709551616) :
    Calls Tryd.prog 13 #[.int .i64 71, .int .u64 (a : Int), .int .u64 (b : Int)] wo (Is3 wo (binVal 1 32 (cutN a 32) (cutN b 32)).1 (binVal 1 32 (cutN a 32) (cutN b 32)).2 true) := by
  have HCA := Lib.hid (fun W => cut_any a 32 32 wide32 ha W)
  have HCB := Lib.hid (fun W => cut_any b 32 32 wide32 hb W)
  have hx : cutN a 32 < 4294967296 := cut_lt a 32
  have hy : cutN b 32 < 4294967296 := cut_lt b 32
  clear ha hb
  generalize cutN a 32 = x at *
  generalize cutN b 32 = y at *
  have HX := Lib.hid hx
  have HY := Lib.hid hy
  clear hx hy
  go_enter Tryd.func13, Tryd.ntmps13
  go_wp2_with fail
  refine (HCA.out _).mono ?_
  rintro e w' ⟨rfl, rfl⟩
  go_wp2_with fail
  refine (HCB.out _).mono ?_
  rintro e w' ⟨rfl, rfl⟩
  go_wp2_with fail
  refine (one_any _ _).mono ?_
  rintro e w' ⟨rfl, rfl⟩
  go_wp2
  go_ret3
  exact ⟨ret_3 (one_ne x y), rfl⟩
set_option maxRecDepth 100000 in
theorem bin_72 (a b : Nat) (wo : World) (ha : a < 18446744073709551616) (hb : b < 18446744073709551616) :
    Calls Tryd.prog 13 #[.int .i64 72, .int .u64 (a : Int), .int .u64 (b : Int)] wo (Is3 wo (binVal 2 32 (cutN a 32) (cutN b 32)).1 (binVal 2 32 (cutN a 32) (cutN b 32)).2 true) := by
  have HCA := Lib.hid (fun W => cut_any a 32 32 wide32 ha W)
  have HCB := Lib.hid (fun W => cut_any b 32 32 wide32 hb W)
  have hx : cutN a 32 < 4294967296 := cut_lt a 32
  have hy : cutN b 32 < 4294967296 := cut_lt b 32
  clear ha hb
  generalize cutN a 32 = x at *
  generalize cutN b 32 = y at *
  have HX := Lib.hid hx
  have HY := Lib.hid hy
  clear hx hy
  have HL := Lib.hid (fun W => less_any x y 32 32 true wide32 (by have := HX.out; have := HY.out; omega) (by have := HX.out; have := HY.out; omega) W)
  obtain ⟨L, hL⟩ : ∃ L, lessN x y 32 true = L := ⟨_, rfl⟩
  rw [hL] at HL
  have HLL := Lib.hid hL
  clear hL
  go_enter Tryd.func13, Tryd.ntmps13
  go_wp2_with fail
  refine (HCA.out _).mono ?_
  rintro e w' ⟨rfl, rfl⟩
  go_wp2_with fail
  refine (HCB.out _).mono ?_
  rintro e w' ⟨rfl, rfl⟩
  go_wp2_with fail
  refine (HL.out _).mono ?_
  rintro e w' ⟨rfl, rfl⟩
  go_wp2_with fail
  refine (one_any _ _).mono ?_
  rintro e w' ⟨rfl, rfl⟩
  go_wp2
  go_ret3
  refine ⟨ret_3 ?_, rfl⟩
  rw [← HLL.out]
  rfl
set_option maxRecDepth 100000 in
theorem bin_73 (a b : Nat) (wo : World) (ha : a < 18446744073709551616) (hb : b < 18446744073709551616) :
    Calls Tryd.prog 13 #[.int .i64 73, .int .u64 (a : Int), .int .u64 (b : Int)] wo (Is3 wo (binVal 3 32 (cutN a 32) (cutN b 32)).1 (binVal 3 32 (cutN a 32) (cutN b 32)).2 true) := by
  have HCA := Lib.hid (fun W => cut_any a 32 32 wide32 ha W)
  have HCB := Lib.hid (fun W => cut_any b 32 32 wide32 hb W)
  have hx : cutN a 32 < 4294967296 := cut_lt a 32
  have hy : cutN b 32 < 4294967296 := cut_lt b 32
  clear ha hb
  generalize cutN a 32 = x at *
  generalize cutN b 32 = y at *
  have HX := Lib.hid hx
  have HY := Lib.hid hy
  clear hx hy
  have HL := Lib.hid (fun W => less_any x y 32 32 false wide32 (by have := HX.out; have := HY.out; omega) (by have := HX.out; have := HY.out; omega) W)
  obtain ⟨L, hL⟩ : ∃ L, lessN x y 32 false = L := ⟨_, rfl⟩
  rw [hL] at HL
  have HLL := Lib.hid hL
  clear hL
  go_enter Tryd.func13, Tryd.ntmps13
  go_wp2_with fail
  refine (HCA.out _).mono ?_
  rintro e w' ⟨rfl, rfl⟩
  go_wp2_with fail
  refine (HCB.out _).mono ?_
  rintro e w' ⟨rfl, rfl⟩
  go_wp2_with fail
  refine (HL.out _).mono ?_
  rintro e w' ⟨rfl, rfl⟩
  go_wp2_with fail
  refine (one_any _ _).mono ?_
  rintro e w' ⟨rfl, rfl⟩
  go_wp2
  go_ret3
  refine ⟨ret_3 ?_, rfl⟩
  rw [← HLL.out]
  rfl
set_option maxRecDepth 100000 in
theorem bin_74 (a b : Nat) (wo : World) (ha : a < 18446744073709551616) (hb : b < 18446744073709551616) :
    Calls Tryd.prog 13 #[.int .i64 74, .int .u64 (a : Int), .int .u64 (b : Int)] wo (Is3 wo (binVal 4 32 (cutN a 32) (cutN b 32)).1 (binVal 4 32 (cutN a 32) (cutN b 32)).2 true) := by
  have HCA := Lib.hid (fun W => cut_any a 32 32 wide32 ha W)
  have HCB := Lib.hid (fun W => cut_any b 32 32 wide32 hb W)
  have hx : cutN a 32 < 4294967296 := cut_lt a 32
  have hy : cutN b 32 < 4294967296 := cut_lt b 32
  clear ha hb
  generalize cutN a 32 = x at *
  generalize cutN b 32 = y at *
  have HX := Lib.hid hx
  have HY := Lib.hid hy
  clear hx hy
  have HL := Lib.hid (fun W => less_any y x 32 32 true wide32 (by have := HX.out; have := HY.out; omega) (by have := HX.out; have := HY.out; omega) W)
  obtain ⟨L, hL⟩ : ∃ L, lessN y x 32 true = L := ⟨_, rfl⟩
  rw [hL] at HL
  have HLL := Lib.hid hL
  clear hL
  go_enter Tryd.func13, Tryd.ntmps13
  go_wp2_with fail
  refine (HCA.out _).mono ?_
  rintro e w' ⟨rfl, rfl⟩
  go_wp2_with fail
  refine (HCB.out _).mono ?_
  rintro e w' ⟨rfl, rfl⟩
  go_wp2_with fail
  refine (HL.out _).mono ?_
  rintro e w' ⟨rfl, rfl⟩
  go_wp2_with fail
  refine (one_any _ _).mono ?_
  rintro e w' ⟨rfl, rfl⟩
  go_wp2
  go_ret3
  refine ⟨ret_3 ?_, rfl⟩
  rw [← HLL.out]
  rfl
set_option maxRecDepth 100000 in
theorem bin_75 (a b : Nat) (wo : World) (ha : a < 18446744073709551616) (hb : b < 18446744073709551616) :
    Calls Tryd.prog 13 #[.int .i64 75, .int .u64 (a : Int), .int .u64 (b : Int)] wo (Is3 wo (binVal 5 32 (cutN a 32) (cutN b 32)).1 (binVal 5 32 (cutN a 32) (cutN b 32)).2 true) := by
  have HCA := Lib.hid (fun W => cut_any a 32 32 wide32 ha W)
  have HCB := Lib.hid (fun W => cut_any b 32 32 wide32 hb W)
  have hx : cutN a 32 < 4294967296 := cut_lt a 32
  have hy : cutN b 32 < 4294967296 := cut_lt b 32
  clear ha hb
  generalize cutN a 32 = x at *
  generalize cutN b 32 = y at *
  have HX := Lib.hid hx
  have HY := Lib.hid hy
  clear hx hy
  have HL := Lib.hid (fun W => less_any y x 32 32 false wide32 (by have := HX.out; have := HY.out; omega) (by have := HX.out; have := HY.out; omega) W)
  obtain ⟨L, hL⟩ : ∃ L, lessN y x 32 false = L := ⟨_, rfl⟩
  rw [hL] at HL
  have HLL := Lib.hid hL
  clear hL
  go_enter Tryd.func13, Tryd.ntmps13
  go_wp2_with fail
  refine (HCA.out _).mono ?_
  rintro e w' ⟨rfl, rfl⟩
  go_wp2_with fail
  refine (HCB.out _).mono ?_
  rintro e w' ⟨rfl, rfl⟩
  go_wp2_with fail
  refine (HL.out _).mono ?_
  rintro e w' ⟨rfl, rfl⟩
  go_wp2_with fail
  refine (one_any _ _).mono ?_
  rintro e w' ⟨rfl, rfl⟩
  go_wp2
  go_ret3
  refine ⟨ret_3 ?_, rfl⟩
  rw [← HLL.out]
  rfl
set_option maxRecDepth 100000 in
theorem bin_76 (a b : Nat) (wo : World) (ha : a < 18446744073709551616) (hb : b < 18446744073709551616) :
    Calls Tryd.prog 13 #[.int .i64 76, .int .u64 (a : Int), .int .u64 (b : Int)] wo (Is3 wo (binVal 6 32 (cutN a 32) (cutN b 32)).1 (binVal 6 32 (cutN a 32) (cutN b 32)).2 true) := by
  have HCA := Lib.hid (fun W => cut_any a 32 32 wide32 ha W)
  have HCB := Lib.hid (fun W => cut_any b 32 32 wide32 hb W)
  have hx : cutN a 32 < 4294967296 := cut_lt a 32
  have hy : cutN b 32 < 4294967296 := cut_lt b 32
  clear ha hb
  generalize cutN a 32 = x at *
  generalize cutN b 32 = y at *
  have HX := Lib.hid hx
  have HY := Lib.hid hy
  clear hx hy
  have HL := Lib.hid (fun W => less_any y x 32 32 true wide32 (by have := HX.out; have := HY.out; omega) (by have := HX.out; have := HY.out; omega) W)
  obtain ⟨L, hL⟩ : ∃ L, lessN y x 32 true = L := ⟨_, rfl⟩
  rw [hL] at HL
  have HLL := Lib.hid hL
  clear hL
  go_enter Tryd.func13, Tryd.ntmps13
  go_wp2_with fail
  refine (HCA.out _).mono ?_
  rintro e w' ⟨rfl, rfl⟩
  go_wp2_with fail
  refine (HCB.out _).mono ?_
  rintro e w' ⟨rfl, rfl⟩
  go_wp2_with fail
  refine (HL.out _).mono ?_
  rintro e w' ⟨rfl, rfl⟩
  go_wp2_with fail
  refine (one_any _ _).mono ?_
  rintro e w' ⟨rfl, rfl⟩
  go_wp2
  go_ret3
  refine ⟨ret_3 ?_, rfl⟩
  rw [← HLL.out]
  rfl
set_option maxRecDepth 100000 in
theorem bin_77 (a b : Nat) (wo : World) (ha : a < 18446744073709551616) (hb : b < 18446744073709551616) :
    Calls Tryd.prog 13 #[.int .i64 77, .int .u64 (a : Int), .int .u64 (b : Int)] wo (Is3 wo (binVal 7 32 (cutN a 32) (cutN b 32)).1 (binVal 7 32 (cutN a 32) (cutN b 32)).2 true) := by
  have HCA := Lib.hid (fun W => cut_any a 32 32 wide32 ha W)
  have HCB := Lib.hid (fun W => cut_any b 32 32 wide32 hb W)
  have hx : cutN a 32 < 4294967296 := cut_lt a 32
  have hy : cutN b 32 < 4294967296 := cut_lt b 32
  clear ha hb
  generalize cutN a 32 = x at *
  generalize cutN b 32 = y at *
  have HX := Lib.hid hx
  have HY := Lib.hid hy
  clear hx hy
  have HL := Lib.hid (fun W => less_any y x 32 32 false wide32 (by have := HX.out; have := HY.out; omega) (by have := HX.out; have := HY.out; omega) W)
  obtain ⟨L, hL⟩ : ∃ L, lessN y x 32 false = L := ⟨_, rfl⟩
  rw [hL] at HL
  have HLL := Lib.hid hL
  clear hL
  go_enter Tryd.func13, Tryd.ntmps13
  go_wp2_with fail
  refine (HCA.out _).mono ?_
  rintro e w' ⟨rfl, rfl⟩
  go_wp2_with fail
  refine (HCB.out _).mono ?_
  rintro e w' ⟨rfl, rfl⟩
  go_wp2_with fail
  refine (HL.out _).mono ?_
  rintro e w' ⟨rfl, rfl⟩
  go_wp2_with fail
  refine (one_any _ _).mono ?_
  rintro e w' ⟨rfl, rfl⟩
  go_wp2
  go_ret3
  refine ⟨ret_3 ?_, rfl⟩
  rw [← HLL.out]
  rfl
set_option maxRecDepth 100000 in
theorem bin_78 (a b : Nat) (wo : World) (ha : a < 18446744073709551616) (hb : b < 18446744073709551616) :
    Calls Tryd.prog 13 #[.int .i64 78, .int .u64 (a : Int), .int .u64 (b : Int)] wo (Is3 wo (binVal 8 32 (cutN a 32) (cutN b 32)).1 (binVal 8 32 (cutN a 32) (cutN b 32)).2 true) := by
  have HCA := Lib.hid (fun W => cut_any a 32 32 wide32 ha W)
  have HCB := Lib.hid (fun W => cut_any b 32 32 wide32 hb W)
  have hx : cutN a 32 < 4294967296 := cut_lt a 32
  have hy : cutN b 32 < 4294967296 := cut_lt b 32
  clear ha hb
  generalize cutN a 32 = x at *
  generalize cutN b 32 = y at *
  have HX := Lib.hid hx
  have HY := Lib.hid hy
  clear hx hy
  have HL := Lib.hid (fun W => less_any x y 32 32 true wide32 (by have := HX.out; have := HY.out; omega) (by have := HX.out; have := HY.out; omega) W)
  obtain ⟨L, hL⟩ : ∃ L, lessN x y 32 true = L := ⟨_, rfl⟩
  rw [hL] at HL
  have HLL := Lib.hid hL
  clear hL
  go_enter Tryd.func13, Tryd.ntmps13
  go_wp2_with fail
  refine (HCA.out _).mono ?_
  rintro e w' ⟨rfl, rfl⟩
  go_wp2_with fail
  refine (HCB.out _).mono ?_
  rintro e w' ⟨rfl, rfl⟩
  go_wp2_with fail
  refine (HL.out _).mono ?_
  rintro e w' ⟨rfl, rfl⟩
  go_wp2_with fail
  refine (one_any _ _).mono ?_
  rintro e w' ⟨rfl, rfl⟩
  go_wp2
  go_ret3
  refine ⟨ret_3 ?_, rfl⟩
  rw [← HLL.out]
  rfl
set_option maxRecDepth 100000 in
theorem bin_79 (a b : Nat) (wo : World) (ha : a < 18446744073709551616) (hb : b < 18446744073709551616) :
    Calls Tryd.prog 13 #[.int .i64 79, .int .u64 (a : Int), .int .u64 (b : Int)] wo (Is3 wo (binVal 9 32 (cutN a 32) (cutN b 32)).1 (binVal 9 32 (cutN a 32) (cutN b 32)).2 true) := by
  have HCA := Lib.hid (fun W => cut_any a 32 32 wide32 ha W)
  have HCB := Lib.hid (fun W => cut_any b 32 32 wide32 hb W)
  have hx : cutN a 32 < 4294967296 := cut_lt a 32
  have hy : cutN b 32 < 4294967296 := cut_lt b 32
  clear ha hb
  generalize cutN a 32 = x at *
  generalize cutN b 32 = y at *
  have HX := Lib.hid hx
  have HY := Lib.hid hy
  clear hx hy
  have HL := Lib.hid (fun W => less_any x y 32 32 false wide32 (by have := HX.out; have := HY.out; omega) (by have := HX.out; have := HY.out; omega) W)
  obtain ⟨L, hL⟩ : ∃ L, lessN x y 32 false = L := ⟨_, rfl⟩
  rw [hL] at HL
  have HLL := Lib.hid hL
  clear hL
  go_enter Tryd.func13, Tryd.ntmps13
  go_wp2_with fail
  refine (HCA.out _).mono ?_
  rintro e w' ⟨rfl, rfl⟩
  go_wp2_with fail
  refine (HCB.out _).mono ?_
  rintro e w' ⟨rfl, rfl⟩
  go_wp2_with fail
  refine (HL.out _).mono ?_
  rintro e w' ⟨rfl, rfl⟩
  go_wp2_with fail
  refine (one_any _ _).mono ?_
  rintro e w' ⟨rfl, rfl⟩
  go_wp2
  go_ret3
  refine ⟨ret_3 ?_, rfl⟩
  rw [← HLL.out]
  rfl
set_option maxRecDepth 100000 in
theorem bin_81 (a b : Nat) (wo : World) (ha : a < 18446744073709551616) (hb : b < 18446744073709551616) :
    Calls Tryd.prog 13 #[.int .i64 81, .int .u64 (a : Int), .int .u64 (b : Int)] wo (Is3 wo (binVal 0 64 (cutN a 64) (cutN b 64)).1 (binVal 0 64 (cutN a 64) (cutN b 64)).2 true) := by
  have HCA := Lib.hid (fun W => cut_any a 64 64 wide64 ha W)
  have HCB := Lib.hid (fun W => cut_any b 64 64 wide64 hb W)
  have hx : cutN a 64 < 18446744073709551616 := cut_lt a 64
  have hy : cutN b 64 < 18446744073709551616 := cut_lt b 64
  clear ha hb
  generalize cutN a 64 = x at *
  generalize cutN b 64 = y at *
  have HX := Lib.hid hx
  have HY := Lib.hid hy
  clear hx hy
  go_enter Tryd.func13, Tryd.ntmps13
  go_wp2_with fail
  refine (HCA.out _).mono ?_
  rintro e w' ⟨rfl, rfl⟩
  go_wp2_with fail
  refine (HCB.out _).mono ?_
  rintro e w' ⟨rfl, rfl⟩
  go_wp2_with fail
  refine (one_any _ _).mono ?_
  rintro e w' ⟨rfl, rfl⟩
  go_wp2
  go_ret3
  exact ⟨ret_3 (one_eq x y), rfl⟩
set_option maxRecDepth 100000 in
theorem bin_82 (a b : Nat) (wo : World) (ha : a < 18446744073709551616) (hb : b < 18446744073709551616) :
    Calls Tryd.prog 13 #[.int .i64 82, .int .u64 (a : Int), .int .u64 (b : Int)] wo (Is3 wo (binVal 1 64 (cutN a 64) (cutN b 64)).1 (binVal 1 64 (cutN a 64) (cutN b 64)).2 true) := by
  have HCA := Lib.hid (fun W => cut_any a 64 64 wide64 ha W)
  have HCB := Lib.hid (fun W => cut_any b 64 64 wide64 hb W)
  have hx : cutN a 64 < 18446744073709551616 := cut_lt a 64
  have hy : cutN b 64 < 18446744073709551616 := cut_lt b 64
  clear ha hb
  generalize cutN a 64 = x at *
  generalize cutN b 64 = y at *
  have HX := Lib.hid hx
  have HY := Lib.hid hy
  clear hx hy
  go_enter Tryd.func13, Tryd.ntmps13
  go_wp2_with fail
  refine (HCA.out _).mono ?_
  rintro e w' ⟨rfl, rfl⟩
  go_wp2_with fail
  refine (HCB.out _).mono ?_
  rintro e w' ⟨rfl, rfl⟩
  go_wp2_with fail
  refine (one_any _ _).mono ?_
  rintro e w' ⟨rfl, rfl⟩
  go_wp2
  go_ret3
  exact ⟨ret_3 (one_ne x y), rfl⟩
set_option maxRecDepth 100000 in
theorem bin_83 (a b : Nat) (wo : World) (ha : a < 18446744073709551616) (hb : b < 18446744073709551616) :
    Calls Tryd.prog 13 #[.int .i64 83, .int .u64 (a : Int), .int .u64 (b : Int)] wo (Is3 wo (binVal 2 64 (cutN a 64) (cutN b 64)).1 (binVal 2 64 (cutN a 64) (cutN b 64)).2 true) := by
  have HCA := Lib.hid (fun W => cut_any a 64 64 wide64 ha W)
  have HCB := Lib.hid (fun W => cut_any b 64 64 wide64 hb W)
  have hx : cutN a 64 < 18446744073709551616 := cut_lt a 64
  have hy : cutN b 64 < 18446744073709551616 := cut_lt b 64
  clear ha hb
  generalize cutN a 64 = x at *
  generalize cutN b 64 = y at *
  have HX := Lib.hid hx
  have HY := Lib.hid hy
  clear hx hy
  have HL := Lib.hid (fun W => less_any x y 64 64 true wide64 (by have := HX.out; have := HY.out; omega) (by have := HX.out; have := HY.out; omega) W)
  obtain ⟨L, hL⟩ : ∃ L, lessN x y 64 true = L := ⟨_, rfl⟩
  rw [hL] at HL
  have HLL := Lib.hid hL
  clear hL
  go_enter Tryd.func13, Tryd.ntmps13
  go_wp2_with fail
  refine (HCA.out _).mono ?_
  rintro e w' ⟨rfl, rfl⟩
  go_wp2_with fail
  refine (HCB.out _).mono ?_
  rintro e w' ⟨rfl, rfl⟩
  go_wp2_with fail
  refine (HL.out _).mono ?_
  rintro e w' ⟨rfl, rfl⟩
  go_wp2_with fail
  refine (one_any _ _).mono ?_
  rintro e w' ⟨rfl, rfl⟩
  go_wp2
  go_ret3
  refine ⟨ret_3 ?_, rfl⟩
  rw [← HLL.out]
  rfl
set_option maxRecDepth 100000 in
theorem bin_84 (a b : Nat) (wo : World) (ha : a < 18446744073709551616) (hb : b < 18446744073709551616) :
    Calls Tryd.prog 13 #[.int .i64 84, .int .u64 (a : Int), .int .u64 (b : Int)] wo (Is3 wo (binVal 3 64 (cutN a 64) (cutN b 64)).1 (binVal 3 64 (cutN a 64) (cutN b 64)).2 true) := by
  have HCA := Lib.hid (fun W => cut_any a 64 64 wide64 ha W)
  have HCB := Lib.hid (fun W => cut_any b 64 64 wide64 hb W)
  have hx : cutN a 64 < 18446744073709551616 := cut_lt a 64
  have hy : cutN b 64 < 18446744073709551616 := cut_lt b 64
  clear ha hb
  generalize cutN a 64 = x at *
  generalize cutN b 64 = y at *
  have HX := Lib.hid hx
  have HY := Lib.hid hy
  clear hx hy
  have HL := Lib.hid (fun W => less_any x y 64 64 false wide64 (by have := HX.out; have := HY.out; omega) (by have := HX.out; have := HY.out; omega) W)
  obtain ⟨L, hL⟩ : ∃ L, lessN x y 64 false = L := ⟨_, rfl⟩
  rw [hL] at HL
  have HLL := Lib.hid hL
  clear hL
  go_enter Tryd.func13, Tryd.ntmps13
  go_wp2_with fail
  refine (HCA.out _).mono ?_
  rintro e w' ⟨rfl, rfl⟩
  go_wp2_with fail
  refine (HCB.out _).mono ?_
  rintro e w' ⟨rfl, rfl⟩
  go_wp2_with fail
  refine (HL.out _).mono ?_
  rintro e w' ⟨rfl, rfl⟩
  go_wp2_with fail
  refine (one_any _ _).mono ?_
  rintro e w' ⟨rfl, rfl⟩
  go_wp2
  go_ret3
  refine ⟨ret_3 ?_, rfl⟩
  rw [← HLL.out]
  rfl
set_option maxRecDepth 100000 in
theorem bin_85 (a b : Nat) (wo : World) (ha : a < 18446744073709551616) (hb : b < 18446744073709551616) :
    Calls Tryd.prog 13 #[.int .i64 85, .int .u64 (a : Int), .int .u64 (b : Int)] wo (Is3 wo (binVal 4 64 (cutN a 64) (cutN b 64)).1 (binVal 4 64 (cutN a 64) (cutN b 64)).2 true) := by
  have HCA := Lib.hid (fun W => cut_any a 64 64 wide64 ha W)
  have HCB := Lib.hid (fun W => cut_any b 64 64 wide64 hb W)
  have hx : cutN a 64 < 18446744073709551616 := cut_lt a 64
  have hy : cutN b 64 < 18446744073709551616 := cut_lt b 64
  clear ha hb
  generalize cutN a 64 = x at *
  generalize cutN b 64 = y at *
  have HX := Lib.hid hx
  have HY := Lib.hid hy
  clear hx hy
  have HL := Lib.hid (fun W => less_any y x 64 64 true wide64 (by have := HX.out; have := HY.out; omega) (by have := HX.out; have := HY.out; omega) W)
  obtain ⟨L, hL⟩ : ∃ L, lessN y x 64 true = L := ⟨_, rfl⟩
  rw [hL] at HL
  have HLL := Lib.hid hL
  clear hL
  go_enter Tryd.func13, Tryd.ntmps13
  go_wp2_with fail
  refine (HCA.out _).mono ?_
  rintro e w' ⟨rfl, rfl⟩
  go_wp2_with fail
  refine (HCB.out _).mono ?_
  rintro e w' ⟨rfl, rfl⟩
  go_wp2_with fail
  refine (HL.out _).mono ?_
  rintro e w' ⟨rfl, rfl⟩
  go_wp2_with fail
  refine (one_any _ _).mono ?_
  rintro e w' ⟨rfl, rfl⟩
  go_wp2
  go_ret3
  refine ⟨ret_3 ?_, rfl⟩
  rw [← HLL.out]
  rfl
set_option maxRecDepth 100000 in
theorem bin_86 (a b : Nat) (wo : World) (ha : a < 18446744073709551616) (hb : b < 18446744073709551616) :
    Calls Tryd.prog 13 #[.int .i64 86, .int .u64 (a : Int), .int .u64 (b : Int)] wo (Is3 wo (binVal 5 64 (cutN a 64) (cutN b 64)).1 (binVal 5 64 (cutN a 64) (cutN b 64)).2 true) := by
  have HCA := Lib.hid (fun W => cut_any a 64 64 wide64 ha W)
  have HCB := Lib.hid (fun W => cut_any b 64 64 wide64 hb W)
  have hx : cutN a 64 < 18446744073709551616 := cut_lt a 64
  have hy : cutN b 64 < 18446744073709551616 := cut_lt b 64
  clear ha hb
  generalize cutN a 64 = x at *
  generalize cutN b 64 = y at *
  have HX := Lib.hid hx
  have HY := Lib.hid hy
  clear hx hy
  have HL := Lib.hid (fun W => less_any y x 64 64 false wide64 (by have := HX.out; have := HY.out; omega) (by have := HX.out; have := HY.out; omega) W)
  obtain ⟨L, hL⟩ : ∃ L, lessN y x 64 false = L := ⟨_, rfl⟩
  rw [hL] at HL
  have HLL := Lib.hid hL
  clear hL
  go_enter Tryd.func13, Tryd.ntmps13
  go_wp2_with fail
  refine (HCA.out _).mono ?_
  rintro e w' ⟨rfl, rfl⟩
  go_wp2_with fail
  refine (HCB.out _).mono ?_
  rintro e w' ⟨rfl, rfl⟩
  go_wp2_with fail
  refine (HL.out _).mono ?_
  rintro e w' ⟨rfl, rfl⟩
  go_wp2_with fail
  refine (one_any _ _).mono ?_
  rintro e w' ⟨rfl, rfl⟩
  go_wp2
  go_ret3
  refine ⟨ret_3 ?_, rfl⟩
  rw [← HLL.out]
  rfl
set_option maxRecDepth 100000 in
theorem bin_87 (a b : Nat) (wo : World) (ha : a < 18446744073709551616) (hb : b < 18446744073709551616) :
    Calls Tryd.prog 13 #[.int .i64 87, .int .u64 (a : Int), .int .u64 (b : Int)] wo (Is3 wo (binVal 6 64 (cutN a 64) (cutN b 64)).1 (binVal 6 64 (cutN a 64) (cutN b 64)).2 true) := by
  have HCA := Lib.hid (fun W => cut_any a 64 64 wide64 ha W)
  have HCB := Lib.hid (fun W => cut_any b 64 64 wide64 hb W)
  have hx : cutN a 64 < 18446744073709551616 := cut_lt a 64
  have hy : cutN b 64 < 18446744073709551616 := cut_lt b 64
  clear ha hb
  generalize cutN a 64 = x at *
  generalize cutN b 64 = y at *
  have HX := Lib.hid hx
  have HY := Lib.hid hy
  clear hx hy
  have HL := Lib.hid (fun W => less_any y x 64 64 true wide64 (by have := HX.out; have := HY.out; omega) (by have := HX.out; have := HY.out; omega) W)
  obtain ⟨L, hL⟩ : ∃ L, lessN y x 64 true = L := ⟨_, rfl⟩
  rw [hL] at HL
  have HLL := Lib.hid hL
  clear hL
  go_enter Tryd.func13, Tryd.ntmps13
  go_wp2_with fail
  refine (HCA.out _).mono ?_
  rintro e w' ⟨rfl, rfl⟩
  go_wp2_with fail
  refine (HCB.out _).mono ?_
  rintro e w' ⟨rfl, rfl⟩
  go_wp2_with fail
  refine (HL.out _).mono ?_
  rintro e w' ⟨rfl, rfl⟩
  go_wp2_with fail
  refine (one_any _ _).mono ?_
  rintro e w' ⟨rfl, rfl⟩
  go_wp2
  go_ret3
  refine ⟨ret_3 ?_, rfl⟩
  rw [← HLL.out]
  rfl
set_option maxRecDepth 100000 in
theorem bin_88 (a b : Nat) (wo : World) (ha : a < 18446744073709551616) (hb : b < 18446744073709551616) :
    Calls Tryd.prog 13 #[.int .i64 88, .int .u64 (a : Int), .int .u64 (b : Int)] wo (Is3 wo (binVal 7 64 (cutN a 64) (cutN b 64)).1 (binVal 7 64 (cutN a 64) (cutN b 64)).2 true) := by
  have HCA := Lib.hid (fun W => cut_any a 64 64 wide64 ha W)
  have HCB := Lib.hid (fun W => cut_any b 64 64 wide64 hb W)
  have hx : cutN a 64 < 18446744073709551616 := cut_lt a 64
  have hy : cutN b 64 < 18446744073709551616 := cut_lt b 64
  clear ha hb
  generalize cutN a 64 = x at *
  generalize cutN b 64 = y at *
  have HX := Lib.hid hx
  have HY := Lib.hid hy
  clear hx hy
  have HL := Lib.hid (fun W => less_any y x 64 64 false wide64 (by have := HX.out; have := HY.out; omega) (by have := HX.out; have := HY.out; omega) W)
  obtain ⟨L, hL⟩ : ∃ L, lessN y x 64 false = L := ⟨_, rfl⟩
  rw [hL] at HL
  have HLL := Lib.hid hL
  clear hL
  go_enter Tryd.func13, Tryd.ntmps13
  go_wp2_with fail
  refine (HCA.out _).mono ?_
  rintro e w' ⟨rfl, rfl⟩
  go_wp2_with fail
  refine (HCB.out _).mono ?_
  rintro e w' ⟨rfl, rfl⟩
  go_wp2_with fail
  refine (HL.out _).mono ?_
  rintro e w' ⟨rfl, rfl⟩
  go_wp2_with fail
  refine (one_any _ _).mono ?_
  rintro e w' ⟨rfl, rfl⟩
  go_wp2
  go_ret3
  refine ⟨ret_3 ?_, rfl⟩
  rw [← HLL.out]
  rfl
set_option maxRecDepth 100000 in
theorem bin_89 (a b : Nat) (wo : World) (ha : a < 18446744073709551616) (hb : b < 18446744073709551616) :
    Calls Tryd.prog 13 #[.int .i64 89, .int .u64 (a : Int), .int .u64 (b : Int)] wo (Is3 wo (binVal 8 64 (cutN a 64) (cutN b 64)).1 (binVal 8 64 (cutN a 64) (cutN b 64)).2 true) := by
  have HCA := Lib.hid (fun W => cut_any a 64 64 wide64 ha W)
  have HCB := Lib.hid (fun W => cut_any b 64 64 wide64 hb W)
  have hx : cutN a 64 < 18446744073709551616 := cut_lt a 64
  have hy : cutN b 64 < 18446744073709551616 := cut_lt b 64
  clear ha hb
  generalize cutN a 64 = x at *
  generalize cutN b 64 = y at *
  have HX := Lib.hid hx
  have HY := Lib.hid hy
  clear hx hy
  have HL := Lib.hid (fun W => less_any x y 64 64 true wide64 (by have := HX.out; have := HY.out; omega) (by have := HX.out; have := HY.out; omega) W)
  obtain ⟨L, hL⟩ : ∃ L, lessN x y 64 true = L := ⟨_, rfl⟩
  rw [hL] at HL
  have HLL := Lib.hid hL
  clear hL
  go_enter Tryd.func13, Tryd.ntmps13
  go_wp2_with fail
  refine (HCA.out _).mono ?_
  rintro e w' ⟨rfl, rfl⟩
  go_wp2_with fail
  refine (HCB.out _).mono ?_
  rintro e w' ⟨rfl, rfl⟩
  go_wp2_with fail
  refine (HL.out _).mono ?_
  rintro e w' ⟨rfl, rfl⟩
  go_wp2_with fail
  refine (one_any _ _).mono ?_
  rintro e w' ⟨rfl, rfl⟩
  go_wp2
  go_ret3
  refine ⟨ret_3 ?_, rfl⟩
  rw [← HLL.out]
  rfl
set_option maxRecDepth 100000 in
theorem bin_90 (a b : Nat) (wo : World) (ha : a < 18446744073709551616) (hb : b < 18446744073709551616) :
    Calls Tryd.prog 13 #[.int .i64 90, .int .u64 (a : Int), .int .u64 (b : Int)] wo (Is3 wo (binVal 9 64 (cutN a 64) (cutN b 64)).1 (binVal 9 64 (cutN a 64) (cutN b 64)).2 true) := by
  have HCA := Lib.hid (fun W => cut_any a 64 64 wide64 ha W)
  have HCB := Lib.hid (fun W => cut_any b 64 64 wide64 hb W)
  have hx : cutN a 64 < 18446744073709551616 := cut_lt a 64
  have hy : cutN b 64 < 18446744073709551616 := cut_lt b 64
  clear ha hb
  generalize cutN a 64 = x at *
  generalize cutN b 64 = y at *
  have HX := Lib.hid hx
  have HY := Lib.hid hy
  clear hx hy
  have HL := Lib.hid (fun W => less_any x y 64 64 false wide64 (by have := HX.out; have := HY.out; omega) (by have := HX.out; have := HY.out; omega) W)
  obtain ⟨L, hL⟩ : ∃ L, lessN x y 64 false = L := ⟨_, rfl⟩
  rw [hL] at HL
  have HLL := Lib.hid hL
  clear hL
  go_enter Tryd.func13, Tryd.ntmps13
  go_wp2_with fail
  refine (HCA.out _).mono ?_
  rintro e w' ⟨rfl, rfl⟩
  go_wp2_with fail
  refine (HCB.out _).mono ?_
  rintro e w' ⟨rfl, rfl⟩
  go_wp2_with fail
  refine (HL.out _).mono ?_
  rintro e w' ⟨rfl, rfl⟩
  go_wp2_with fail
  refine (one_any _ _).mono ?_
  rintro e w' ⟨rfl, rfl⟩
  go_wp2
  go_ret3
  refine ⟨ret_3 ?_, rfl⟩
  rw [← HLL.out]
  rfl
end Go.Proofs.YtbgcafkdojoilaaDoor.Num
