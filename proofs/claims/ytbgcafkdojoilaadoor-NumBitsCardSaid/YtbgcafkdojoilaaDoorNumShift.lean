/-
  trammelref03's Bin: bits, moves and turns, code by code. Condition: both numbers are of 64 bits.
-/
import Derived.Test.YtbgcafkdojoilaaDoorNumCmp
import Derived.Test.YtbgcafkdojoilaaDoorNumMoved
import Derived.Test.YtbgcafkdojoilaaDoorNumEach
namespace Go.Proofs.YtbgcafkdojoilaaDoor.Num
open Go.RowKit

set_option maxRecDepth 100000 in
theorem bin_113 (a b : Nat) (wo : World) (ha : a < 18446744073709551616) (hb : b < 18446744073709551616) :
    Calls Tryd.prog 13 #[.int .i64 113, .int .u64 (a : Int), .int .u64 (b : Int)] wo (Is3 wo (binVal 17 32 (cutN a 32) (cutN b 32)).1 (binVal 17 32 (cutN a 32) (cutN b 32)).2 true) := by
  have HCA := Lib.hid (fun W => cut_any a 32 32 wide32 ha W)
  have HCB := Lib.hid (fun W => cut_any b 32 32 wide32 hb W)
  have hx : cutN a 32 < 4294967296 := cut_lt a 32
  have hy : cutN b 32 < 4294967296 := cut_lt b 32
  clear ha hb
  generalize cutN a 32 = x at *
  generalize cutN b 32 = y at *
  have HX := Lib.hid hx
  have HY := Lib.hid hy
  clear hx hy
  go_enter Tryd.func13, Tryd.ntmps13
  go_wp2_with fail
  refine (HCA.out _).mono ?_
  rintro e w' ⟨rfl, rfl⟩
  go_wp2_with fail
  refine (HCB.out _).mono ?_
  rintro e w' ⟨rfl, rfl⟩
  go_wp2_with fail
  refine (each_0 x y _).mono ?_
  rintro e w' ⟨rfl, rfl⟩
  go_wp2
  go_ret3
  exact ⟨rfl, rfl⟩
set_option maxRecDepth 100000 in
theorem bin_114 (a b : Nat) (wo : World) (ha : a < 18446744073709551616) (hb : b < 18446744073709551616) :
    Calls Tryd.prog 13 #[.int .i64 114, .int .u64 (a : Int), .int .u64 (b : Int)] wo (Is3 wo (binVal 18 32 (cutN a 32) (cutN b 32)).1 (binVal 18 32 (cutN a 32) (cutN b 32)).2 true) := by
  have HCA := Lib.hid (fun W => cut_any a 32 32 wide32 ha W)
  have HCB := Lib.hid (fun W => cut_any b 32 32 wide32 hb W)
  have hx : cutN a 32 < 4294967296 := cut_lt a 32
  have hy : cutN b 32 < 4294967296 := cut_lt b 32
  clear ha hb
  generalize cutN a 32 = x at *
  generalize cutN b 32 = y at *
  have HX := Lib.hid hx
  have HY := Lib.hid hy
  clear hx hy
  go_enter Tryd.func13, Tryd.ntmps13
  go_wp2_with fail
  refine (HCA.out _).mono ?_
  rintro e w' ⟨rfl, rfl⟩
  go_wp2_with fail
  refine (HCB.out _).mono ?_
  rintro e w' ⟨rfl, rfl⟩
  go_wp2_with fail
  refine (each_1 x y _).mono ?_
  rintro e w' ⟨rfl, rfl⟩
  go_wp2
  go_ret3
  exact ⟨rfl, rfl⟩
set_option maxRecDepth 100000 in
theorem bin_115 (a b : Nat) (wo : World) (ha : a < 18446744073709551616) (hb : b < 18446744073709551616) :
    Calls Tryd.prog 13 #[.int .i64 115, .int .u64 (a : Int), .int .u64 (b : Int)] wo (Is3 wo (binVal 19 32 (cutN a 32) (cutN b 32)).1 (binVal 19 32 (cutN a 32) (cutN b 32)).2 true) := by
  have HCA := Lib.hid (fun W => cut_any a 32 32 wide32 ha W)
  have HCB := Lib.hid (fun W => cut_any b 32 32 wide32 hb W)
  have hx : cutN a 32 < 4294967296 := cut_lt a 32
  have hy : cutN b 32 < 4294967296 := cut_lt b 32
  clear ha hb
  generalize cutN a 32 = x at *
  generalize cutN b 32 = y at *
  have HX := Lib.hid hx
  have HY := Lib.hid hy
  clear hx hy
  go_enter Tryd.func13, Tryd.ntmps13
  go_wp2_with fail
  refine (HCA.out _).mono ?_
  rintro e w' ⟨rfl, rfl⟩
  go_wp2_with fail
  refine (HCB.out _).mono ?_
  rintro e w' ⟨rfl, rfl⟩
  go_wp2_with fail
  refine (each_2 x y _).mono ?_
  rintro e w' ⟨rfl, rfl⟩
  go_wp2
  go_ret3
  exact ⟨rfl, rfl⟩
set_option maxRecDepth 100000 in
theorem bin_116 (a b : Nat) (wo : World) (ha : a < 18446744073709551616) (hb : b < 18446744073709551616) :
    Calls Tryd.prog 13 #[.int .i64 116, .int .u64 (a : Int), .int .u64 (b : Int)] wo (Is3 wo (binVal 20 32 (cutN a 32) (cutN b 32)).1 (binVal 20 32 (cutN a 32) (cutN b 32)).2 true) := by
  have HCA := Lib.hid (fun W => cut_any a 32 32 wide32 ha W)
  have HCB := Lib.hid (fun W => cut_any b 32 32 wide32 hb W)
  have hx : cutN a 32 < 4294967296 := cut_lt a 32
  have hy : cutN b 32 < 4294967296 := cut_lt b 32
  clear ha hb
  generalize cutN a 32 = x at *
  generalize cutN b 32 = y at *
  have HX := Lib.hid hx
  have HY := Lib.hid hy
  clear hx hy
  obtain ⟨s, hs⟩ : ∃ s, y % 32 = s := ⟨_, rfl⟩
  have hsl : s < 32 := by omega
  have HS : Hid ((y : Int) % 32 = (s : Int)) := Lib.hid (by omega)
  have HSS := Lib.hid hs
  clear hs
  go_enter Tryd.func13, Tryd.ntmps13
  go_wp2_with fail
  refine (HCA.out _).mono ?_
  rintro e w' ⟨rfl, rfl⟩
  go_wp2_with fail
  refine (HCB.out _).mono ?_
  rintro e w' ⟨rfl, rfl⟩
  go_wp2_with fail
  rw [HS.out]
  refine (up_32 x s _ hsl).mono ?_
  rintro e w' ⟨rfl, rfl⟩
  go_wp2
  go_ret3
  exact ⟨ret_3 (by rw [← HSS.out]; rfl), rfl⟩
set_option maxRecDepth 100000 in
theorem bin_117 (a b : Nat) (wo : World) (ha : a < 18446744073709551616) (hb : b < 18446744073709551616) :
    Calls Tryd.prog 13 #[.int .i64 117, .int .u64 (a : Int), .int .u64 (b : Int)] wo (Is3 wo (binVal 21 32 (cutN a 32) (cutN b 32)).1 (binVal 21 32 (cutN a 32) (cutN b 32)).2 true) := by
  have HCA := Lib.hid (fun W => cut_any a 32 32 wide32 ha W)
  have HCB := Lib.hid (fun W => cut_any b 32 32 wide32 hb W)
  have hx : cutN a 32 < 4294967296 := cut_lt a 32
  have hy : cutN b 32 < 4294967296 := cut_lt b 32
  clear ha hb
  generalize cutN a 32 = x at *
  generalize cutN b 32 = y at *
  have HX := Lib.hid hx
  have HY := Lib.hid hy
  clear hx hy
  obtain ⟨s, hs⟩ : ∃ s, y % 32 = s := ⟨_, rfl⟩
  have hsl : s < 32 := by omega
  have HS : Hid ((y : Int) % 32 = (s : Int)) := Lib.hid (by omega)
  have HSS := Lib.hid hs
  clear hs
  have HB := Lib.hid (fun W => bit_any x 31 W (by omega))
  have hB1 := bitN_le x 31
  obtain ⟨f, hf⟩ : ∃ f, bitN x 31 = f := ⟨_, rfl⟩
  rw [hf] at HB hB1
  have HF := Lib.hid hf
  clear hf
  go_enter Tryd.func13, Tryd.ntmps13
  go_wp2_with fail
  refine (HCA.out _).mono ?_
  rintro e w' ⟨rfl, rfl⟩
  go_wp2_with fail
  refine (HCB.out _).mono ?_
  rintro e w' ⟨rfl, rfl⟩
  go_wp2_with fail
  refine (HB.out _).mono ?_
  rintro e w' ⟨rfl, rfl⟩
  go_wp2_with fail
  rw [HS.out]
  refine (down_32 x s f _ hsl hB1).mono ?_
  rintro e w' ⟨rfl, rfl⟩
  go_wp2
  go_ret3
  exact ⟨ret_3 (by rw [← HSS.out, ← HF.out]; rfl), rfl⟩
set_option maxRecDepth 100000 in
theorem bin_118 (a b : Nat) (wo : World) (ha : a < 18446744073709551616) (hb : b < 18446744073709551616) :
    Calls Tryd.prog 13 #[.int .i64 118, .int .u64 (a : Int), .int .u64 (b : Int)] wo (Is3 wo (binVal 22 32 (cutN a 32) (cutN b 32)).1 (binVal 22 32 (cutN a 32) (cutN b 32)).2 true) := by
  have HCA := Lib.hid (fun W => cut_any a 32 32 wide32 ha W)
  have HCB := Lib.hid (fun W => cut_any b 32 32 wide32 hb W)
  have hx : cutN a 32 < 4294967296 := cut_lt a 32
  have hy : cutN b 32 < 4294967296 := cut_lt b 32
  clear ha hb
  generalize cutN a 32 = x at *
  generalize cutN b 32 = y at *
  have HX := Lib.hid hx
  have HY := Lib.hid hy
  clear hx hy
  obtain ⟨s, hs⟩ : ∃ s, y % 32 = s := ⟨_, rfl⟩
  have hsl : s < 32 := by omega
  have HS : Hid ((y : Int) % 32 = (s : Int)) := Lib.hid (by omega)
  have HSS := Lib.hid hs
  clear hs
  go_enter Tryd.func13, Tryd.ntmps13
  go_wp2_with fail
  refine (HCA.out _).mono ?_
  rintro e w' ⟨rfl, rfl⟩
  go_wp2_with fail
  refine (HCB.out _).mono ?_
  rintro e w' ⟨rfl, rfl⟩
  go_wp2_with fail
  rw [HS.out]
  refine (down_32 x s 0 _ hsl (by omega)).mono ?_
  rintro e w' ⟨rfl, rfl⟩
  go_wp2
  go_ret3
  exact ⟨ret_3 (by rw [← HSS.out]; rfl), rfl⟩
set_option maxRecDepth 100000 in
theorem bin_119 (a b : Nat) (wo : World) (ha : a < 18446744073709551616) (hb : b < 18446744073709551616) :
    Calls Tryd.prog 13 #[.int .i64 119, .int .u64 (a : Int), .int .u64 (b : Int)] wo (Is3 wo (binVal 23 32 (cutN a 32) (cutN b 32)).1 (binVal 23 32 (cutN a 32) (cutN b 32)).2 true) := by
  have HCA := Lib.hid (fun W => cut_any a 32 32 wide32 ha W)
  have HCB := Lib.hid (fun W => cut_any b 32 32 wide32 hb W)
  have hx : cutN a 32 < 4294967296 := cut_lt a 32
  have hy : cutN b 32 < 4294967296 := cut_lt b 32
  clear ha hb
  generalize cutN a 32 = x at *
  generalize cutN b 32 = y at *
  have HX := Lib.hid hx
  have HY := Lib.hid hy
  clear hx hy
  obtain ⟨s, hs⟩ : ∃ s, y % 32 = s := ⟨_, rfl⟩
  have hsl : s < 32 := by omega
  have HS : Hid ((y : Int) % 32 = (s : Int)) := Lib.hid (by omega)
  have HSS := Lib.hid hs
  clear hs
  go_enter Tryd.func13, Tryd.ntmps13
  go_wp2_with fail
  refine (HCA.out _).mono ?_
  rintro e w' ⟨rfl, rfl⟩
  go_wp2_with fail
  refine (HCB.out _).mono ?_
  rintro e w' ⟨rfl, rfl⟩
  go_wp2_with fail
  rw [HS.out]
  refine (turned_32 x s _ (by omega)).mono ?_
  rintro e w' ⟨rfl, rfl⟩
  go_wp2
  go_ret3
  exact ⟨ret_3 (by rw [← HSS.out]; rfl), rfl⟩
set_option maxRecDepth 100000 in
theorem bin_120 (a b : Nat) (wo : World) (ha : a < 18446744073709551616) (hb : b < 18446744073709551616) :
    Calls Tryd.prog 13 #[.int .i64 120, .int .u64 (a : Int), .int .u64 (b : Int)] wo (Is3 wo (binVal 24 32 (cutN a 32) (cutN b 32)).1 (binVal 24 32 (cutN a 32) (cutN b 32)).2 true) := by
  have HCA := Lib.hid (fun W => cut_any a 32 32 wide32 ha W)
  have HCB := Lib.hid (fun W => cut_any b 32 32 wide32 hb W)
  have hx : cutN a 32 < 4294967296 := cut_lt a 32
  have hy : cutN b 32 < 4294967296 := cut_lt b 32
  clear ha hb
  generalize cutN a 32 = x at *
  generalize cutN b 32 = y at *
  have HX := Lib.hid hx
  have HY := Lib.hid hy
  clear hx hy
  obtain ⟨s, hs⟩ : ∃ s, y % 32 = s := ⟨_, rfl⟩
  have hsl : s < 32 := by omega
  have HS : Hid ((y : Int) % 32 = (s : Int)) := Lib.hid (by omega)
  have HSS := Lib.hid hs
  clear hs
  go_enter Tryd.func13, Tryd.ntmps13
  go_wp2_with fail
  refine (HCA.out _).mono ?_
  rintro e w' ⟨rfl, rfl⟩
  go_wp2_with fail
  refine (HCB.out _).mono ?_
  rintro e w' ⟨rfl, rfl⟩
  go_wp2_with fail
  rw [HS.out, show ((32 : Int) - (s : Int)) = ((32 - s : Nat) : Int) from by omega]
  refine (turned_32 x (32 - s) _ (by omega)).mono ?_
  rintro e w' ⟨rfl, rfl⟩
  go_wp2
  go_ret3
  exact ⟨ret_3 (by rw [← HSS.out]; rfl), rfl⟩
set_option maxRecDepth 100000 in
theorem bin_131 (a b : Nat) (wo : World) (ha : a < 18446744073709551616) (hb : b < 18446744073709551616) :
    Calls Tryd.prog 13 #[.int .i64 131, .int .u64 (a : Int), .int .u64 (b : Int)] wo (Is3 wo (binVal 17 64 (cutN a 64) (cutN b 64)).1 (binVal 17 64 (cutN a 64) (cutN b 64)).2 true) := by
  have HCA := Lib.hid (fun W => cut_any a 64 64 wide64 ha W)
  have HCB := Lib.hid (fun W => cut_any b 64 64 wide64 hb W)
  have hx : cutN a 64 < 18446744073709551616 := cut_lt a 64
  have hy : cutN b 64 < 18446744073709551616 := cut_lt b 64
  clear ha hb
  generalize cutN a 64 = x at *
  generalize cutN b 64 = y at *
  have HX := Lib.hid hx
  have HY := Lib.hid hy
  clear hx hy
  go_enter Tryd.func13, Tryd.ntmps13
  go_wp2_with fail
  refine (HCA.out _).mono ?_
  rintro e w' ⟨rfl, rfl⟩
  go_wp2_with fail
  refine (HCB.out _).mono ?_
  rintro e w' ⟨rfl, rfl⟩
  go_wp2_with fail
  refine (each_0 x y _).mono ?_
  rintro e w' ⟨rfl, rfl⟩
  go_wp2
  go_ret3
  exact ⟨rfl, rfl⟩
set_option maxRecDepth 100000 in
theorem bin_132 (a b : Nat) (wo : World) (ha : a < 18446744073709551616) (hb : b < 18446744073709551616) :
    Calls Tryd.prog 13 #[.int .i64 132, .int .u64 (a : Int), .int .u64 (b : Int)] wo (Is3 wo (binVal 18 64 (cutN a 64) (cutN b 64)).1 (binVal 18 64 (cutN a 64) (cutN b 64)).2 true) := by
  have HCA := Lib.hid (fun W => cut_any a 64 64 wide64 ha W)
  have HCB := Lib.hid (fun W => cut_any b 64 64 wide64 hb W)
  have hx : cutN a 64 < 18446744073709551616 := cut_lt a 64
  have hy : cutN b 64 < 18446744073709551616 := cut_lt b 64
  clear ha hb
  generalize cutN a 64 = x at *
  generalize cutN b 64 = y at *
  have HX := Lib.hid hx
  have HY := Lib.hid hy
  clear hx hy
  go_enter Tryd.func13, Tryd.ntmps13
  go_wp2_with fail
  refine (HCA.out _).mono ?_
  rintro e w' ⟨rfl, rfl⟩
  go_wp2_with fail
  refine (HCB.out _).mono ?_
  rintro e w' ⟨rfl, rfl⟩
  go_wp2_with fail
  refine (each_1 x y _).mono ?_
  rintro e w' ⟨rfl, rfl⟩
  go_wp2
  go_ret3
  exact ⟨rfl, rfl⟩
set_option maxRecDepth 100000 in
theorem bin_133 (a b : Nat) (wo : World) (ha : a < 18446744073709551616) (hb : b < 18446744073709551616) :
    Calls Tryd.prog 13 #[.int .i64 133, .int .u64 (a : Int), .int .u64 (b : Int)] wo (Is3 wo (binVal 19 64 (cutN a 64) (cutN b 64)).1 (binVal 19 64 (cutN a 64) (cutN b 64)).2 true) := by
  have HCA := Lib.hid (fun W => cut_any a 64 64 wide64 ha W)
  have HCB := Lib.hid (fun W => cut_any b 64 64 wide64 hb W)
  have hx : cutN a 64 < 18446744073709551616 := cut_lt a 64
  have hy : cutN b 64 < 18446744073709551616 := cut_lt b 64
  clear ha hb
  generalize cutN a 64 = x at *
  generalize cutN b 64 = y at *
  have HX := Lib.hid hx
  have HY := Lib.hid hy
  clear hx hy
  go_enter Tryd.func13, Tryd.ntmps13
  go_wp2_with fail
  refine (HCA.out _).mono ?_
  rintro e w' ⟨rfl, rfl⟩
  go_wp2_with fail
  refine (HCB.out _).mono ?_
  rintro e w' ⟨rfl, rfl⟩
  go_wp2_with fail
  refine (each_2 x y _).mono ?_
  rintro e w' ⟨rfl, rfl⟩
  go_wp2
  go_ret3
  exact ⟨rfl, rfl⟩
set_option maxRecDepth 100000 in
theorem bin_134 (a b : Nat) (wo : World) (ha : a < 18446744073709551616) (hb : b < 18446744073709551616) :
    Calls Tryd.prog 13 #[.int .i64 134, .int .u64 (a : Int), .int .u64 (b : Int)] wo (Is3 wo (binVal 20 64 (cutN a 64) (cutN b 64)).1 (binVal 20 64 (cutN a 64) (cutN b 64)).2 true) := by
  have HCA := Lib.hid (fun W => cut_any a 64 64 wide64 ha W)
  have HCB := Lib.hid (fun W => cut_any b 64 64 wide64 hb W)
  have hx : cutN a 64 < 18446744073709551616 := cut_lt a 64
  have hy : cutN b 64 < 18446744073709551616 := cut_lt b 64
  clear ha hb
  generalize cutN a 64 = x at *
  generalize cutN b 64 = y at *
  have HX := Lib.hid hx
  have HY := Lib.hid hy
  clear hx hy
  obtain ⟨s, hs⟩ : ∃ s, y % 64 = s := ⟨_, rfl⟩
  have hsl : s < 64 := by omega
  have HS : Hid ((y : Int) % 64 = (s : Int)) := Lib.hid (by omega)
  have HSS := Lib.hid hs
  clear hs
  go_enter Tryd.func13, Tryd.ntmps13
  go_wp2_with fail
  refine (HCA.out _).mono ?_
  rintro e w' ⟨rfl, rfl⟩
  go_wp2_with fail
  refine (HCB.out _).mono ?_
  rintro e w' ⟨rfl, rfl⟩
  go_wp2_with fail
  rw [HS.out]
  refine (up_64 x s _ hsl).mono ?_
  rintro e w' ⟨rfl, rfl⟩
  go_wp2
  go_ret3
  exact ⟨ret_3 (by rw [← HSS.out]; rfl), rfl⟩
set_option maxRecDepth 100000 in
theorem bin_135 (a b : Nat) (wo : World) (ha : a < 18446744073709551616) (hb : b < 18446744073709551616) :
    Calls Tryd.prog 13 #[.int .i64 135, .int .u64 (a : Int), .int .u64 (b : Int)] wo (Is3 wo (binVal 21 64 (cutN a 64) (cutN b 64)).1 (binVal 21 64 (cutN a 64) (cutN b 64)).2 true) := by
  have HCA := Lib.hid (fun W => cut_any a 64 64 wide64 ha W)
  have HCB := Lib.hid (fun W => cut_any b 64 64 wide64 hb W)
  have hx : cutN a 64 < 18446744073709551616 := cut_lt a 64
  have hy : cutN b 64 < 18446744073709551616 := cut_lt b 64
  clear ha hb
  generalize cutN a 64 = x at *
  generalize cutN b 64 = y at *
  have HX := Lib.hid hx
  have HY := Lib.hid hy
  clear hx hy
  obtain ⟨s, hs⟩ : ∃ s, y % 64 = s := ⟨_, rfl⟩
  have hsl : s < 64 := by omega
  have HS : Hid ((y : Int) % 64 = (s : Int)) := Lib.hid (by omega)
  have HSS := Lib.hid hs
  clear hs
  have HB := Lib.hid (fun W => bit_any x 63 W (by omega))
  have hB1 := bitN_le x 63
  obtain ⟨f, hf⟩ : ∃ f, bitN x 63 = f := ⟨_, rfl⟩
  rw [hf] at HB hB1
  have HF := Lib.hid hf
  clear hf
  go_enter Tryd.func13, Tryd.ntmps13
  go_wp2_with fail
  refine (HCA.out _).mono ?_
  rintro e w' ⟨rfl, rfl⟩
  go_wp2_with fail
  refine (HCB.out _).mono ?_
  rintro e w' ⟨rfl, rfl⟩
  go_wp2_with fail
  refine (HB.out _).mono ?_
  rintro e w' ⟨rfl, rfl⟩
  go_wp2_with fail
  rw [HS.out]
  refine (down_64 x s f _ hsl hB1).mono ?_
  rintro e w' ⟨rfl, rfl⟩
  go_wp2
  go_ret3
  exact ⟨ret_3 (by rw [← HSS.out, ← HF.out]; rfl), rfl⟩
set_option maxRecDepth 100000 in
theorem bin_136 (a b : Nat) (wo : World) (ha : a < 18446744073709551616) (hb : b < 18446744073709551616) :
    Calls Tryd.prog 13 #[.int .i64 136, .int .u64 (a : Int), .int .u64 (b : Int)] wo (Is3 wo (binVal 22 64 (cutN a 64) (cutN b 64)).1 (binVal 22 64 (cutN a 64) (cutN b 64)).2 true) := by
  have HCA := Lib.hid (fun W => cut_any a 64 64 wide64 ha W)
  have HCB := Lib.hid (fun W => cut_any b 64 64 wide64 hb W)
  have hx : cutN a 64 < 18446744073709551616 := cut_lt a 64
  have hy : cutN b 64 < 18446744073709551616 := cut_lt b 64
  clear ha hb
  generalize cutN a 64 = x at *
  generalize cutN b 64 = y at *
  have HX := Lib.hid hx
  have HY := Lib.hid hy
  clear hx hy
  obtain ⟨s, hs⟩ : ∃ s, y % 64 = s := ⟨_, rfl⟩
  have hsl : s < 64 := by omega
  have HS : Hid ((y : Int) % 64 = (s : Int)) := Lib.hid (by omega)
  have HSS := Lib.hid hs
  clear hs
  go_enter Tryd.func13, Tryd.ntmps13
  go_wp2_with fail
  refine (HCA.out _).mono ?_
  rintro e w' ⟨rfl, rfl⟩
  go_wp2_with fail
  refine (HCB.out _).mono ?_
  rintro e w' ⟨rfl, rfl⟩
  go_wp2_with fail
  rw [HS.out]
  refine (down_64 x s 0 _ hsl (by omega)).mono ?_
  rintro e w' ⟨rfl, rfl⟩
  go_wp2
  go_ret3
  exact ⟨ret_3 (by rw [← HSS.out]; rfl), rfl⟩
set_option maxRecDepth 100000 in
theorem bin_137 (a b : Nat) (wo : World) (ha : a < 18446744073709551616) (hb : b < 18446744073709551616) :
    Calls Tryd.prog 13 #[.int .i64 137, .int .u64 (a : Int), .int .u64 (b : Int)] wo (Is3 wo (binVal 23 64 (cutN a 64) (cutN b 64)).1 (binVal 23 64 (cutN a 64) (cutN b 64)).2 true) := by
  have HCA := Lib.hid (fun W => cut_any a 64 64 wide64 ha W)
  have HCB := Lib.hid (fun W => cut_any b 64 64 wide64 hb W)
  have hx : cutN a 64 < 18446744073709551616 := cut_lt a 64
  have hy : cutN b 64 < 18446744073709551616 := cut_lt b 64
  clear ha hb
  generalize cutN a 64 = x at *
  generalize cutN b 64 = y at *
  have HX := Lib.hid hx
  have HY := Lib.hid hy
  clear hx hy
  obtain ⟨s, hs⟩ : ∃ s, y % 64 = s := ⟨_, rfl⟩
  have hsl : s < 64 := by omega
  have HS : Hid ((y : Int) % 64 = (s : Int)) := Lib.hid (by omega)
  have HSS := Lib.hid hs
  clear hs
  go_enter Tryd.func13, Tryd.ntmps13
  go_wp2_with fail
  refine (HCA.out _).mono ?_
  rintro e w' ⟨rfl, rfl⟩
  go_wp2_with fail
  refine (HCB.out _).mono ?_
  rintro e w' ⟨rfl, rfl⟩
  go_wp2_with fail
  rw [HS.out]
  refine (turned_64 x s _ (by omega)).mono ?_
  rintro e w' ⟨rfl, rfl⟩
  go_wp2
  go_ret3
  exact ⟨ret_3 (by rw [← HSS.out]; rfl), rfl⟩
set_option maxRecDepth 100000 in
theorem bin_138 (a b : Nat) (wo : World) (ha : a < 18446744073709551616) (hb : b < 18446744073709551616) :
    Calls Tryd.prog 13 #[.int .i64 138, .int .u64 (a : Int), .int .u64 (b : Int)] wo (Is3 wo (binVal 24 64 (cutN a 64) (cutN b 64)).1 (binVal 24 64 (cutN a 64) (cutN b 64)).2 true) := by
  have HCA := Lib.hid (fun W => cut_any a 64 64 wide64 ha W)
  have HCB := Lib.hid (fun W => cut_any b 64 64 wide64 hb W)
  have hx : cutN a 64 < 18446744073709551616 := cut_lt a 64
  have hy : cutN b 64 < 18446744073709551616 := cut_lt b 64
  clear ha hb
  generalize cutN a 64 = x at *
  generalize cutN b 64 = y at *
  have HX := Lib.hid hx
  have HY := Lib.hid hy
  clear hx hy
  obtain ⟨s, hs⟩ : ∃ s, y % 64 = s := ⟨_, rfl⟩
  have hsl : s < 64 := by omega
  have HS : Hid ((y : Int) % 64 = (s : Int)) := Lib.hid (by omega)
  have HSS := Lib.hid hs
  clear hs
  go_enter Tryd.func13, Tryd.ntmps13
  go_wp2_with fail
  refine (HCA.out _).mono ?_
  rintro e w' ⟨rfl, rfl⟩
  go_wp2_with fail
  refine (HCB.out _).mono ?_
  rintro e w' ⟨rfl, rfl⟩
  go_wp2_with fail
  rw [HS.out, show ((64 : Int) - (s : Int)) = ((64 - s : Nat) : Int) from by omega]
  refine (turned_64 x (64 - s) _ (by omega)).mono ?_
  rintro e w' ⟨rfl, rfl⟩
  go_wp2
  go_ret3
  exact ⟨ret_3 (by rw [← HSS.out]; rfl), rfl⟩
end Go.Proofs.YtbgcafkdojoilaaDoor.Num
