/-
  trammelref03's Bin: quotients and rests, code by code. Condition: both numbers are of 64 bits.
-/
import Derived.Test.YtbgcafkdojoilaaDoorNumCmp
namespace Go.Proofs.YtbgcafkdojoilaaDoor.Num
open Go.RowKit

set_option maxRecDepth 100000 in
theorem bin_109 (a b : Nat) (wo : World) (ha : a < 18446744073709551616) (hb : b < 18446744073709551616) :
    Calls Tryd.prog 13 #[.int .i64 109, .int .u64 (a : Int), .int .u64 (b : Int)] wo (Is3 wo (binVal 13 32 (cutN a 32) (cutN b 32)).1 (binVal 13 32 (cutN a 32) (cutN b 32)).2 true) := by
  have HCA := Lib.hid (fun W => cut_any a 32 32 wide32 ha W)
  have HCB := Lib.hid (fun W => cut_any b 32 32 wide32 hb W)
  have hx : cutN a 32 < 4294967296 := cut_lt a 32
  have hy : cutN b 32 < 4294967296 := cut_lt b 32
  clear ha hb
  generalize cutN a 32 = x at *
  generalize cutN b 32 = y at *
  have HX := Lib.hid hx
  have HY := Lib.hid hy
  clear hx hy
  have HQ := Lib.hid (fun W => quot_any_32 x y true W HX.out HY.out)
  obtain ⟨q, r, t, u, hR⟩ : ∃ q r t u, (quotN x y 32 true).1 = q ∧ (quotN x y 32 true).2.1 = r ∧ (quotN x y 32 true).2.2.1 = t ∧ (quotN x y 32 true).2.2.2 = u := ⟨_, _, _, _, rfl, rfl, rfl, rfl⟩
  unfold Quots at HQ
  rw [hR.1, hR.2.1, hR.2.2.1, hR.2.2.2] at HQ
  have HR := Lib.hid hR
  clear hR
  go_enter Tryd.func13, Tryd.ntmps13
  go_wp2_with fail
  refine (HCA.out _).mono ?_
  rintro e w' ⟨rfl, rfl⟩
  go_wp2_with fail
  refine (HCB.out _).mono ?_
  rintro e w' ⟨rfl, rfl⟩
  go_wp2_with fail
  refine (HQ.out _).mono ?_
  rintro e w' ⟨rfl, rfl⟩
  go_wp2
  go_ret3
  exact ⟨by rw [← HR.out.1, ← HR.out.2.2.1]; rfl, rfl⟩
set_option maxRecDepth 100000 in
theorem bin_110 (a b : Nat) (wo : World) (ha : a < 18446744073709551616) (hb : b < 18446744073709551616) :
    Calls Tryd.prog 13 #[.int .i64 110, .int .u64 (a : Int), .int .u64 (b : Int)] wo (Is3 wo (binVal 14 32 (cutN a 32) (cutN b 32)).1 (binVal 14 32 (cutN a 32) (cutN b 32)).2 true) := by
  have HCA := Lib.hid (fun W => cut_any a 32 32 wide32 ha W)
  have HCB := Lib.hid (fun W => cut_any b 32 32 wide32 hb W)
  have hx : cutN a 32 < 4294967296 := cut_lt a 32
  have hy : cutN b 32 < 4294967296 := cut_lt b 32
  clear ha hb
  generalize cutN a 32 = x at *
  generalize cutN b 32 = y at *
  have HX := Lib.hid hx
  have HY := Lib.hid hy
  clear hx hy
  have HQ := Lib.hid (fun W => quot_any_32 x y false W HX.out HY.out)
  obtain ⟨q, r, t, u, hR⟩ : ∃ q r t u, (quotN x y 32 false).1 = q ∧ (quotN x y 32 false).2.1 = r ∧ (quotN x y 32 false).2.2.1 = t ∧ (quotN x y 32 false).2.2.2 = u := ⟨_, _, _, _, rfl, rfl, rfl, rfl⟩
  unfold Quots at HQ
  rw [hR.1, hR.2.1, hR.2.2.1, hR.2.2.2] at HQ
  have HR := Lib.hid hR
  clear hR
  go_enter Tryd.func13, Tryd.ntmps13
  go_wp2_with fail
  refine (HCA.out _).mono ?_
  rintro e w' ⟨rfl, rfl⟩
  go_wp2_with fail
  refine (HCB.out _).mono ?_
  rintro e w' ⟨rfl, rfl⟩
  go_wp2_with fail
  refine (HQ.out _).mono ?_
  rintro e w' ⟨rfl, rfl⟩
  go_wp2
  go_ret3
  exact ⟨by rw [← HR.out.1, ← HR.out.2.2.1]; rfl, rfl⟩
set_option maxRecDepth 100000 in
theorem bin_111 (a b : Nat) (wo : World) (ha : a < 18446744073709551616) (hb : b < 18446744073709551616) :
    Calls Tryd.prog 13 #[.int .i64 111, .int .u64 (a : Int), .int .u64 (b : Int)] wo (Is3 wo (binVal 15 32 (cutN a 32) (cutN b 32)).1 (binVal 15 32 (cutN a 32) (cutN b 32)).2 true) := by
  have HCA := Lib.hid (fun W => cut_any a 32 32 wide32 ha W)
  have HCB := Lib.hid (fun W => cut_any b 32 32 wide32 hb W)
  have hx : cutN a 32 < 4294967296 := cut_lt a 32
  have hy : cutN b 32 < 4294967296 := cut_lt b 32
  clear ha hb
  generalize cutN a 32 = x at *
  generalize cutN b 32 = y at *
  have HX := Lib.hid hx
  have HY := Lib.hid hy
  clear hx hy
  have HQ := Lib.hid (fun W => quot_any_32 x y true W HX.out HY.out)
  obtain ⟨q, r, t, u, hR⟩ : ∃ q r t u, (quotN x y 32 true).1 = q ∧ (quotN x y 32 true).2.1 = r ∧ (quotN x y 32 true).2.2.1 = t ∧ (quotN x y 32 true).2.2.2 = u := ⟨_, _, _, _, rfl, rfl, rfl, rfl⟩
  unfold Quots at HQ
  rw [hR.1, hR.2.1, hR.2.2.1, hR.2.2.2] at HQ
  have HR := Lib.hid hR
  clear hR
  go_enter Tryd.func13, Tryd.ntmps13
  go_wp2_with fail
  refine (HCA.out _).mono ?_
  rintro e w' ⟨rfl, rfl⟩
  go_wp2_with fail
  refine (HCB.out _).mono ?_
  rintro e w' ⟨rfl, rfl⟩
  go_wp2_with fail
  refine (HQ.out _).mono ?_
  rintro e w' ⟨rfl, rfl⟩
  go_wp2
  go_ret3
  exact ⟨by rw [← HR.out.2.1, ← HR.out.2.2.2]; rfl, rfl⟩
set_option maxRecDepth 100000 in
theorem bin_112 (a b : Nat) (wo : World) (ha : a < 18446744073709551616) (hb : b < 18446744073709551616) :
    Calls Tryd.prog 13 #[.int .i64 112, .int .u64 (a : Int), .int .u64 (b : Int)] wo (Is3 wo (binVal 16 32 (cutN a 32) (cutN b 32)).1 (binVal 16 32 (cutN a 32) (cutN b 32)).2 true) := by
  have HCA := Lib.hid (fun W => cut_any a 32 32 wide32 ha W)
  have HCB := Lib.hid (fun W => cut_any b 32 32 wide32 hb W)
  have hx : cutN a 32 < 4294967296 := cut_lt a 32
  have hy : cutN b 32 < 4294967296 := cut_lt b 32
  clear ha hb
  generalize cutN a 32 = x at *
  generalize cutN b 32 = y at *
  have HX := Lib.hid hx
  have HY := Lib.hid hy
  clear hx hy
  have HQ := Lib.hid (fun W => quot_any_32 x y false W HX.out HY.out)
  obtain ⟨q, r, t, u, hR⟩ : ∃ q r t u, (quotN x y 32 false).1 = q ∧ (quotN x y 32 false).2.1 = r ∧ (quotN x y 32 false).2.2.1 = t ∧ (quotN x y 32 false).2.2.2 = u := ⟨_, _, _, _, rfl, rfl, rfl, rfl⟩
  unfold Quots at HQ
  rw [hR.1, hR.2.1, hR.2.2.1, hR.2.2.2] at HQ
  have HR := Lib.hid hR
  clear hR
  go_enter Tryd.func13, Tryd.ntmps13
  go_wp2_with fail
  refine (HCA.out _).mono ?_
  rintro e w' ⟨rfl, rfl⟩
  go_wp2_with fail
  refine (HCB.out _).mono ?_
  rintro e w' ⟨rfl, rfl⟩
  go_wp2_with fail
  refine (HQ.out _).mono ?_
  rintro e w' ⟨rfl, rfl⟩
  go_wp2
  go_ret3
  exact ⟨by rw [← HR.out.2.1, ← HR.out.2.2.2]; rfl, rfl⟩
set_option maxRecDepth 100000 in
theorem bin_127 (a b : Nat) (wo : World) (ha : a < 18446744073709551616) (hb : b < 18446744073709551616) :
    Calls Tryd.prog 13 #[.int .i64 127, .int .u64 (a : Int), .int .u64 (b : Int)] wo (Is3 wo (binVal 13 64 (cutN a 64) (cutN b 64)).1 (binVal 13 64 (cutN a 64) (cutN b 64)).2 true) := by
  have HCA := Lib.hid (fun W => cut_any a 64 64 wide64 ha W)
  have HCB := Lib.hid (fun W => cut_any b 64 64 wide64 hb W)
  have hx : cutN a 64 < 18446744073709551616 := cut_lt a 64
  have hy : cutN b 64 < 18446744073709551616 := cut_lt b 64
  clear ha hb
  generalize cutN a 64 = x at *
  generalize cutN b 64 = y at *
  have HX := Lib.hid hx
  have HY := Lib.hid hy
  clear hx hy
  have HQ := Lib.hid (fun W => quot_any_64 x y true W HX.out HY.out)
  obtain ⟨q, r, t, u, hR⟩ : ∃ q r t u, (quotN x y 64 true).1 = q ∧ (quotN x y 64 true).2.1 = r ∧ (quotN x y 64 true).2.2.1 = t ∧ (quotN x y 64 true).2.2.2 = u := ⟨_, _, _, _, rfl, rfl, rfl, rfl⟩
  unfold Quots at HQ
  rw [hR.1, hR.2.1, hR.2.2.1, hR.2.2.2] at HQ
  have HR := Lib.hid hR
  clear hR
  go_enter Tryd.func13, Tryd.ntmps13
  go_wp2_with fail
  refine (HCA.out _).mono ?_
  rintro e w' ⟨rfl, rfl⟩
  go_wp2_with fail
  refine (HCB.out _).mono ?_
  rintro e w' ⟨rfl, rfl⟩
  go_wp2_with fail
  refine (HQ.out _).mono ?_
  rintro e w' ⟨rfl, rfl⟩
  go_wp2
  go_ret3
  exact ⟨by rw [← HR.out.1, ← HR.out.2.2.1]; rfl, rfl⟩
set_option maxRecDepth 100000 in
theorem bin_128 (a b : Nat) (wo : World) (ha : a < 18446744073709551616) (hb : b < 18446744073709551616) :
    Calls Tryd.prog 13 #[.int .i64 128, .int .u64 (a : Int), .int .u64 (b : Int)] wo (Is3 wo (binVal 14 64 (cutN a 64) (cutN b 64)).1 (binVal 14 64 (cutN a 64) (cutN b 64)).2 true) := by
  have HCA := Lib.hid (fun W => cut_any a 64 64 wide64 ha W)
  have HCB := Lib.hid (fun W => cut_any b 64 64 wide64 hb W)
  have hx : cutN a 64 < 18446744073709551616 := cut_lt a 64
  have hy : cutN b 64 < 18446744073709551616 := cut_lt b 64
  clear ha hb
  generalize cutN a 64 = x at *
  generalize cutN b 64 = y at *
  have HX := Lib.hid hx
  have HY := Lib.hid hy
  clear hx hy
  have HQ := Lib.hid (fun W => quot_any_64 x y false W HX.out HY.out)
  obtain ⟨q, r, t, u, hR⟩ : ∃ q r t u, (quotN x y 64 false).1 = q ∧ (quotN x y 64 false).2.1 = r ∧ (quotN x y 64 false).2.2.1 = t ∧ (quotN x y 64 false).2.2.2 = u := ⟨_, _, _, _, rfl, rfl, rfl, rfl⟩
  unfold Quots at HQ
  rw [hR.1, hR.2.1, hR.2.2.1, hR.2.2.2] at HQ
  have HR := Lib.hid hR
  clear hR
  go_enter Tryd.func13, Tryd.ntmps13
  go_wp2_with fail
  refine (HCA.out _).mono ?_
  rintro e w' ⟨rfl, rfl⟩
  go_wp2_with fail
  refine (HCB.out _).mono ?_
  rintro e w' ⟨rfl, rfl⟩
  go_wp2_with fail
  refine (HQ.out _).mono ?_
  rintro e w' ⟨rfl, rfl⟩
  go_wp2
  go_ret3
  exact ⟨by rw [← HR.out.1, ← HR.out.2.2.1]; rfl, rfl⟩
set_option maxRecDepth 100000 in
theorem bin_129 (a b : Nat) (wo : World) (ha : a < 18446744073709551616) (hb : b < 18446744073709551616) :
    Calls Tryd.prog 13 #[.int .i64 129, .int .u64 (a : Int), .int .u64 (b : Int)] wo (Is3 wo (binVal 15 64 (cutN a 64) (cutN b 64)).1 (binVal 15 64 (cutN a 64) (cutN b 64)).2 true) := by
  have HCA := Lib.hid (fun W => cut_any a 64 64 wide64 ha W)
  have HCB := Lib.hid (fun W => cut_any b 64 64 wide64 hb W)
  have hx : cutN a 64 < 18446744073709551616 := cut_lt a 64
  have hy : cutN b 64 < 18446744073709551616 := cut_lt b 64
  clear ha hb
  generalize cutN a 64 = x at *
  generalize cutN b 64 = y at *
  have HX := Lib.hid hx
  have HY := Lib.hid hy
  clear hx hy
  have HQ := Lib.hid (fun W => quot_any_64 x y true W HX.out HY.out)
  obtain ⟨q, r, t, u, hR⟩ : ∃ q r t u, (quotN x y 64 true).1 = q ∧ (quotN x y 64 true).2.1 = r ∧ (quotN x y 64 true).2.2.1 = t ∧ (quotN x y 64 true).2.2.2 = u := ⟨_, _, _, _, rfl, rfl, rfl, rfl⟩
  unfold Quots at HQ
  rw [hR.1, hR.2.1, hR.2.2.1, hR.2.2.2] at HQ
  have HR := Lib.hid hR
  clear hR
  go_enter Tryd.func13, Tryd.ntmps13
  go_wp2_with fail
  refine (HCA.out _).mono ?_
  rintro e w' ⟨rfl, rfl⟩
  go_wp2_with fail
  refine (HCB.out _).mono ?_
  rintro e w' ⟨rfl, rfl⟩
  go_wp2_with fail
  refine (HQ.out _).mono ?_
  rintro e w' ⟨rfl, rfl⟩
  go_wp2
  go_ret3
  exact ⟨by rw [← HR.out.2.1, ← HR.out.2.2.2]; rfl, rfl⟩
set_option maxRecDepth 100000 in
theorem bin_130 (a b : Nat) (wo : World) (ha : a < 18446744073709551616) (hb : b < 18446744073709551616) :
    Calls Tryd.prog 13 #[.int .i64 130, .int .u64 (a : Int), .int .u64 (b : Int)] wo (Is3 wo (binVal 16 64 (cutN a 64) (cutN b 64)).1 (binVal 16 64 (cutN a 64) (cutN b 64)).2 true) := by
  have HCA := Lib.hid (fun W => cut_any a 64 64 wide64 ha W)
  have HCB := Lib.hid (fun W => cut_any b 64 64 wide64 hb W)
  have hx : cutN a 64 < 18446744073709551616 := cut_lt a 64
  have hy : cutN b 64 < 18446744073709551616 := cut_lt b 64
  clear ha hb
  generalize cutN a 64 = x at *
  generalize cutN b 64 = y at *
  have HX := Lib.hid hx
  have HY := Lib.hid hy
  clear hx hy
  have HQ := Lib.hid (fun W => quot_any_64 x y false W HX.out HY.out)
  obtain ⟨q, r, t, u, hR⟩ : ∃ q r t u, (quotN x y 64 false).1 = q ∧ (quotN x y 64 false).2.1 = r ∧ (quotN x y 64 false).2.2.1 = t ∧ (quotN x y 64 false).2.2.2 = u := ⟨_, _, _, _, rfl, rfl, rfl, rfl⟩
  unfold Quots at HQ
  rw [hR.1, hR.2.1, hR.2.2.1, hR.2.2.2] at HQ
  have HR := Lib.hid hR
  clear hR
  go_enter Tryd.func13, Tryd.ntmps13
  go_wp2_with fail
  refine (HCA.out _).mono ?_
  rintro e w' ⟨rfl, rfl⟩
  go_wp2_with fail
  refine (HCB.out _).mono ?_
  rintro e w' ⟨rfl, rfl⟩
  go_wp2_with fail
  refine (HQ.out _).mono ?_
  rintro e w' ⟨rfl, rfl⟩
  go_wp2
  go_ret3
  exact ⟨by rw [← HR.out.2.1, ← HR.out.2.2.2]; rfl, rfl⟩
end Go.Proofs.YtbgcafkdojoilaaDoor.Num
