/-
  num's own turn and combine: what they come to, for every code. Condition: the numbers are of w bits, w 32 or 64.
-/
import Derived.Test.YtbgcafkdojoilaaDoorNumOwnDiv
import Derived.Test.YtbgcafkdojoilaaDoorNumClosed
import Derived.Laws.Bits128
namespace Go.Proofs.YtbgcafkdojoilaaDoor.Num
open Go.RowKit

theorem turn_or (a n w : Nat) (ha : a < 2 ^ w) (hn : n ≤ w) (hw0 : 0 < w) (hw : w ≤ 64) : cutN ((a * 2 ^ n % 18446744073709551616) ||| (a / 2 ^ (w - n))) w = turnN a n w := by
  have hd : a / 2 ^ (w - n) < 2 ^ n := by
    rw [Nat.div_lt_iff_lt_mul (Nat.pow_pos (by omega)), ← Nat.pow_add, show n + (w - n) = w from by omega]
    exact ha
  have hm : a * 2 ^ n % 2 ^ w = 2 ^ n * (a % 2 ^ (w - n)) := by
    rw [Nat.mul_comm, show 2 ^ w = 2 ^ n * 2 ^ (w - n) from by rw [← Nat.pow_add]; congr 1; omega, Nat.mul_mod_mul_left]
  have hx : a * 2 ^ n % 18446744073709551616 % 2 ^ w = a * 2 ^ n % 2 ^ w := Nat.mod_mod_of_dvd _ (Nat.pow_dvd_pow 2 (show w ≤ 64 from hw))
  have hy : a / 2 ^ (w - n) % 2 ^ w = a / 2 ^ (w - n) := Nat.mod_eq_of_lt (Nat.lt_of_le_of_lt (Nat.div_le_self _ _) ha)
  have h1 : cutN ((a * 2 ^ n % 18446744073709551616) ||| (a / 2 ^ (w - n))) w = 2 ^ n * (a % 2 ^ (w - n)) + a / 2 ^ (w - n) := by
    unfold cutN
    rw [Nat.or_mod_two_pow, hx, hy, hm, Nat.two_pow_add_eq_or_of_lt hd]
  rw [h1]
  by_cases h : n < w
  · rw [turn_is a n w ha h, hm]
  · obtain rfl : n = w := by omega
    rw [turn_0 a n n hw0 (Nat.mod_self n) ha, Nat.sub_self, Nat.pow_zero, Nat.mod_one, Nat.div_one, Nat.mul_zero, Nat.zero_add]
theorem wrap_nat (n : Nat) : IntKind.u64.wrap (n : Int) = ((n % 18446744073709551616 : Nat) : Int) := by rw [IntKind.wrap_u64]; omega
theorem or_u64 (x y : Nat) (hx : x < 18446744073709551616) (hy : y < 18446744073709551616) : bits .or .u64 (x : Int) (y : Int) = ((x ||| y : Nat) : Int) := u64_or_nat x y hx hy
theorem pow_int (a n : Nat) : (a : Int) * 2 ^ n = ((a * 2 ^ n : Nat) : Int) := by simp
theorem div_int (a n : Nat) : (a : Int) / 2 ^ n = ((a / 2 ^ n : Nat) : Int) := by simp
theorem or_lt64 (x y : Nat) (hx : x < 18446744073709551616) (hy : y < 18446744073709551616) : x ||| y < 18446744073709551616 := Nat.or_lt_two_pow (n := 64) hx hy
set_option maxRecDepth 100000 in
theorem oturn_32 (a n : Nat) (wo : World) (ha : a < 4294967296) (hn : n ≤ 32) :
    Calls Tryd.prog 38 #[.int .u64 (a : Int), .int .u64 (n : Int), .int .u64 32] wo fun e w' => e = .returned (.int .u64 ((turnN a n 32 : Nat) : Int)) ∧ wo = w' := by
  have hd : a / 2 ^ (32 - n) < 18446744073709551616 := Nat.lt_of_le_of_lt (Nat.div_le_self _ _) (by omega)
  have hm : a * 2 ^ n % 18446744073709551616 < 18446744073709551616 := Nat.mod_lt _ (by omega)
  have hE : bits BinOp.or IntKind.u64 (IntKind.u64.wrap ((a : Int) * 2 ^ n)) ((a : Int) / 2 ^ (32 - n)) = (((a * 2 ^ n % 18446744073709551616) ||| (a / 2 ^ (32 - n)) : Nat) : Int) := by
    rw [pow_int, div_int, wrap_nat, or_u64 _ _ hm hd]
  have HC := Lib.hid (fun V => ocut_any _ 32 32 wide32 (or_lt64 _ _ hm hd) V)
  rw [turn_or a n 32 ha hn (by omega) (by omega)] at HC
  clear hd hm ha
  generalize (a * 2 ^ n % 18446744073709551616) ||| (a / 2 ^ (32 - n)) = s at *
  generalize turnN a n 32 = t at *
  go_enter Tryd.func38, Tryd.ntmps38
  go_wp2_with fail
  refine (HC.out _).mono ?_
  rintro e w' ⟨rfl, rfl⟩
  go_wp2
  go_ret
  exact ⟨rfl, rfl⟩
set_option maxRecDepth 100000 in
theorem oturn_64 (a n : Nat) (wo : World) (ha : a < 18446744073709551616) (hn : n ≤ 64) :
    Calls Tryd.prog 38 #[.int .u64 (a : Int), .int .u64 (n : Int), .int .u64 64] wo fun e w' => e = .returned (.int .u64 ((turnN a n 64 : Nat) : Int)) ∧ wo = w' := by
  have hd : a / 2 ^ (64 - n) < 18446744073709551616 := Nat.lt_of_le_of_lt (Nat.div_le_self _ _) (by omega)
  have hm : a * 2 ^ n % 18446744073709551616 < 18446744073709551616 := Nat.mod_lt _ (by omega)
  have hE : bits BinOp.or IntKind.u64 (IntKind.u64.wrap ((a : Int) * 2 ^ n)) ((a : Int) / 2 ^ (64 - n)) = (((a * 2 ^ n % 18446744073709551616) ||| (a / 2 ^ (64 - n)) : Nat) : Int) := by
    rw [pow_int, div_int, wrap_nat, or_u64 _ _ hm hd]
  have HC := Lib.hid (fun V => ocut_any _ 64 64 wide64 (or_lt64 _ _ hm hd) V)
  rw [turn_or a n 64 ha hn (by omega) (by omega)] at HC
  clear hd hm ha
  generalize (a * 2 ^ n % 18446744073709551616) ||| (a / 2 ^ (64 - n)) = s at *
  generalize turnN a n 64 = t at *
  go_enter Tryd.func38, Tryd.ntmps38
  go_wp2_with fail
  refine (HC.out _).mono ?_
  rintro e w' ⟨rfl, rfl⟩
  go_wp2
  go_ret
  exact ⟨rfl, rfl⟩
set_option maxRecDepth 100000 in
theorem comb_add_32 (a b n s q : Nat) (wo : World) (_hn : n < 32) (hb : (b : Int).tmod 32 = (n : Int)) (hE : IntKind.u64.wrap ((a : Int) + (b : Int)) = (s : Int)) (HC : Hid (∀ V, Calls Tryd.prog 18 #[.int .u64 (s : Int), .int .u64 32] V fun e w' => e = .returned (.int .u64 (q : Int)) ∧ V = w')) :
    Calls Tryd.prog 29 #[.int .i64 106, .int .u64 (a : Int), .int .u64 (b : Int), .int .u64 32] wo (Is2 wo (q) true) := by
  go_enter Tryd.func29, Tryd.ntmps29
  go_wp2_with fail
  refine (HC.out _).mono ?_
  rintro e w' ⟨rfl, rfl⟩
  go_wp2
  go_ret2
  exact ⟨rfl, rfl⟩
set_option maxRecDepth 100000 in
theorem comb_sub_32 (a b n s q : Nat) (wo : World) (_hn : n < 32) (hb : (b : Int).tmod 32 = (n : Int)) (hE : IntKind.u64.wrap ((a : Int) - (b : Int)) = (s : Int)) (HC : Hid (∀ V, Calls Tryd.prog 18 #[.int .u64 (s : Int), .int .u64 32] V fun e w' => e = .returned (.int .u64 (q : Int)) ∧ V = w')) :
    Calls Tryd.prog 29 #[.int .i64 107, .int .u64 (a : Int), .int .u64 (b : Int), .int .u64 32] wo (Is2 wo (q) true) := by
  go_enter Tryd.func29, Tryd.ntmps29
  go_wp2_with fail
  refine (HC.out _).mono ?_
  rintro e w' ⟨rfl, rfl⟩
  go_wp2
  go_ret2
  exact ⟨rfl, rfl⟩
set_option maxRecDepth 100000 in
theorem comb_mul_32 (a b n s q : Nat) (wo : World) (_hn : n < 32) (hb : (b : Int).tmod 32 = (n : Int)) (hE : IntKind.u64.wrap ((a : Int) * (b : Int)) = (s : Int)) (HC : Hid (∀ V, Calls Tryd.prog 18 #[.int .u64 (s : Int), .int .u64 32] V fun e w' => e = .returned (.int .u64 (q : Int)) ∧ V = w')) :
    Calls Tryd.prog 29 #[.int .i64 108, .int .u64 (a : Int), .int .u64 (b : Int), .int .u64 32] wo (Is2 wo (q) true) := by
  go_enter Tryd.func29, Tryd.ntmps29
  go_wp2_with fail
  refine (HC.out _).mono ?_
  rintro e w' ⟨rfl, rfl⟩
  go_wp2
  go_ret2
  exact ⟨rfl, rfl⟩
set_option maxRecDepth 100000 in
theorem comb_shl_32 (a b n s q : Nat) (wo : World) (hn : n < 32) (hb : (b : Int).tmod 32 = (n : Int)) (hE : IntKind.u64.wrap ((a : Int) * 2 ^ n) = (s : Int)) (HC : Hid (∀ V, Calls Tryd.prog 18 #[.int .u64 (s : Int), .int .u64 32] V fun e w' => e = .returned (.int .u64 (q : Int)) ∧ V = w')) :
    Calls Tryd.prog 29 #[.int .i64 116, .int .u64 (a : Int), .int .u64 (b : Int), .int .u64 32] wo (Is2 wo (q) true) := by
  go_enter Tryd.func29, Tryd.ntmps29
  go_wp2_with fail
  refine (HC.out _).mono ?_
  rintro e w' ⟨rfl, rfl⟩
  go_wp2
  go_ret2
  exact ⟨rfl, rfl⟩
set_option maxRecDepth 100000 in
theorem comb_and_32 (a b n _s q : Nat) (wo : World) (_hn : n < 32) (hb : (b : Int).tmod 32 = (n : Int)) (hE : bits BinOp.and IntKind.u64 (a : Int) (b : Int) = (q : Int)) :
    Calls Tryd.prog 29 #[.int .i64 113, .int .u64 (a : Int), .int .u64 (b : Int), .int .u64 32] wo (Is2 wo (q) true) := by
  go_enter Tryd.func29, Tryd.ntmps29
  go_wp2
  go_ret2
  exact ⟨rfl, rfl⟩
set_option maxRecDepth 100000 in
theorem comb_or_32 (a b n _s q : Nat) (wo : World) (_hn : n < 32) (hb : (b : Int).tmod 32 = (n : Int)) (hE : bits BinOp.or IntKind.u64 (a : Int) (b : Int) = (q : Int)) :
    Calls Tryd.prog 29 #[.int .i64 114, .int .u64 (a : Int), .int .u64 (b : Int), .int .u64 32] wo (Is2 wo (q) true) := by
  go_enter Tryd.func29, Tryd.ntmps29
  go_wp2
  go_ret2
  exact ⟨rfl, rfl⟩
set_option maxRecDepth 100000 in
theorem comb_xor_32 (a b n _s q : Nat) (wo : World) (_hn : n < 32) (hb : (b : Int).tmod 32 = (n : Int)) (hE : bits BinOp.xor IntKind.u64 (a : Int) (b : Int) = (q : Int)) :
    Calls Tryd.prog 29 #[.int .i64 115, .int .u64 (a : Int), .int .u64 (b : Int), .int .u64 32] wo (Is2 wo (q) true) := by
  go_enter Tryd.func29, Tryd.ntmps29
  go_wp2
  go_ret2
  exact ⟨rfl, rfl⟩
set_option maxRecDepth 100000 in
theorem comb_shr_32 (a b n _s q : Nat) (wo : World) (hn : n < 32) (hb : (b : Int).tmod 32 = (n : Int)) (hE : (a : Int) / 2 ^ n = (q : Int)) :
    Calls Tryd.prog 29 #[.int .i64 118, .int .u64 (a : Int), .int .u64 (b : Int), .int .u64 32] wo (Is2 wo (q) true) := by
  go_enter Tryd.func29, Tryd.ntmps29
  go_wp2
  go_ret2
  exact ⟨rfl, rfl⟩
set_option maxRecDepth 100000 in
theorem comb_sar_32 (a b n s q : Nat) (wo : World) (hn : n < 32) (hb : (b : Int).tmod 32 = (n : Int)) (x : Int) (hE : IntKind.u64.wrap (x / 2 ^ n) = (s : Int)) (HA : Hid (∀ V, Calls Tryd.prog 37 #[.int .u64 (a : Int), .int .u64 32] V fun e w' => e = .returned (.int .i64 x) ∧ V = w')) (HC : Hid (∀ V, Calls Tryd.prog 18 #[.int .u64 (s : Int), .int .u64 32] V fun e w' => e = .returned (.int .u64 (q : Int)) ∧ V = w')) :
    Calls Tryd.prog 29 #[.int .i64 117, .int .u64 (a : Int), .int .u64 (b : Int), .int .u64 32] wo (Is2 wo (q) true) := by
  go_enter Tryd.func29, Tryd.ntmps29
  go_wp2_with fail
  refine (HA.out _).mono ?_
  rintro e w' ⟨rfl, rfl⟩
  go_wp2_with fail
  refine (HC.out _).mono ?_
  rintro e w' ⟨rfl, rfl⟩
  go_wp2
  go_ret2
  exact ⟨rfl, rfl⟩
set_option maxRecDepth 100000 in
theorem comb_rol_32 (a b n _s q : Nat) (wo : World) (_hn : n < 32) (hb : (b : Int).tmod 32 = (n : Int)) (HR : Hid (∀ V, Calls Tryd.prog 38 #[.int .u64 (a : Int), .int .u64 (n : Int), .int .u64 32] V fun e w' => e = .returned (.int .u64 (q : Int)) ∧ V = w')) :
    Calls Tryd.prog 29 #[.int .i64 119, .int .u64 (a : Int), .int .u64 (b : Int), .int .u64 32] wo (Is2 wo (q) true) := by
  go_enter Tryd.func29, Tryd.ntmps29
  go_wp2_with fail
  refine (HR.out _).mono ?_
  rintro e w' ⟨rfl, rfl⟩
  go_wp2
  go_ret2
  exact ⟨rfl, rfl⟩
set_option maxRecDepth 100000 in
theorem comb_ror_32 (a b n _s q : Nat) (wo : World) (hn : n < 32) (hb : (b : Int).tmod 32 = (n : Int)) (HR : Hid (∀ V, Calls Tryd.prog 38 #[.int .u64 (a : Int), .int .u64 (32 - (n : Int)), .int .u64 32] V fun e w' => e = .returned (.int .u64 (q : Int)) ∧ V = w')) :
    Calls Tryd.prog 29 #[.int .i64 120, .int .u64 (a : Int), .int .u64 (b : Int), .int .u64 32] wo (Is2 wo (q) true) := by
  go_enter Tryd.func29, Tryd.ntmps29
  go_wp2_with fail
  refine (HR.out _).mono ?_
  rintro e w' ⟨rfl, rfl⟩
  go_wp2
  go_ret2
  exact ⟨rfl, rfl⟩
set_option maxRecDepth 100000 in
theorem comb_none_32 (c : Int) (a b n : Nat) (wo : World) (_hn : n < 32) (hb : (b : Int).tmod 32 = (n : Int)) (h : c ≠ 106 ∧ c ≠ 107 ∧ c ≠ 108 ∧ (c < 113 ∨ 120 < c)) :
    Calls Tryd.prog 29 #[.int .i64 c, .int .u64 (a : Int), .int .u64 (b : Int), .int .u64 32] wo (Is2 wo 0 false) := by
  have t106 : (c == 106) = false := by simp; omega
  have t107 : (c == 107) = false := by simp; omega
  have t108 : (c == 108) = false := by simp; omega
  have t113 : (c == 113) = false := by simp; omega
  have t114 : (c == 114) = false := by simp; omega
  have t115 : (c == 115) = false := by simp; omega
  have t116 : (c == 116) = false := by simp; omega
  have t117 : (c == 117) = false := by simp; omega
  have t118 : (c == 118) = false := by simp; omega
  have t119 : (c == 119) = false := by simp; omega
  have t120 : (c == 120) = false := by simp; omega
  clear h
  go_enter Tryd.func29, Tryd.ntmps29
  go_wp2
  go_ret2
  exact ⟨rfl, rfl⟩
set_option maxRecDepth 100000 in
theorem comb_add_64 (a b n s q : Nat) (wo : World) (_hn : n < 64) (hb : (b : Int).tmod 64 = (n : Int)) (hE : IntKind.u64.wrap ((a : Int) + (b : Int)) = (s : Int)) (HC : Hid (∀ V, Calls Tryd.prog 18 #[.int .u64 (s : Int), .int .u64 64] V fun e w' => e = .returned (.int .u64 (q : Int)) ∧ V = w')) :
    Calls Tryd.prog 29 #[.int .i64 106, .int .u64 (a : Int), .int .u64 (b : Int), .int .u64 64] wo (Is2 wo (q) true) := by
  go_enter Tryd.func29, Tryd.ntmps29
  go_wp2_with fail
  refine (HC.out _).mono ?_
  rintro e w' ⟨rfl, rfl⟩
  go_wp2
  go_ret2
  exact ⟨rfl, rfl⟩
set_option maxRecDepth 100000 in
theorem comb_sub_64 (a b n s q : Nat) (wo : World) (_hn : n < 64) (hb : (b : Int).tmod 64 = (n : Int)) (hE : IntKind.u64.wrap ((a : Int) - (b : Int)) = (s : Int)) (HC : Hid (∀ V, Calls Tryd.prog 18 #[.int .u64 (s : Int), .int .u64 64] V fun e w' => e = .returned (.int .u64 (q : Int)) ∧ V = w')) :
    Calls Tryd.prog 29 #[.int .i64 107, .int .u64 (a : Int), .int .u64 (b : Int), .int .u64 64] wo (Is2 wo (q) true) := by
  go_enter Tryd.func29, Tryd.ntmps29
  go_wp2_with fail
  refine (HC.out _).mono ?_
  rintro e w' ⟨rfl, rfl⟩
  go_wp2
  go_ret2
  exact ⟨rfl, rfl⟩
set_option maxRecDepth 100000 in
theorem comb_mul_64 (a b n s q : Nat) (wo : World) (_hn : n < 64) (hb : (b : Int).tmod 64 = (n : Int)) (hE : IntKind.u64.wrap ((a : Int) * (b : Int)) = (s : Int)) (HC : Hid (∀ V, Calls Tryd.prog 18 #[.int .u64 (s : Int), .int .u64 64] V fun e w' => e = .returned (.int .u64 (q : Int)) ∧ V = w')) :
    Calls Tryd.prog 29 #[.int .i64 108, .int .u64 (a : Int), .int .u64 (b : Int), .int .u64 64] wo (Is2 wo (q) true) := by
  go_enter Tryd.func29, Tryd.ntmps29
  go_wp2_with fail
  refine (HC.out _).mono ?_
  rintro e w' ⟨rfl, rfl⟩
  go_wp2
  go_ret2
  exact ⟨rfl, rfl⟩
set_option maxRecDepth 100000 in
theorem comb_shl_64 (a b n s q : Nat) (wo : World) (hn : n < 64) (hb : (b : Int).tmod 64 = (n : Int)) (hE : IntKind.u64.wrap ((a : Int) * 2 ^ n) = (s : Int)) (HC : Hid (∀ V, Calls Tryd.prog 18 #[.int .u64 (s : Int), .int .u64 64] V fun e w' => e = .returned (.int .u64 (q : Int)) ∧ V = w')) :
    Calls Tryd.prog 29 #[.int .i64 116, .int .u64 (a : Int), .int .u64 (b : Int), .int .u64 64] wo (Is2 wo (q) true) := by
  go_enter Tryd.func29, Tryd.ntmps29
  go_wp2_with fail
  refine (HC.out _).mono ?_
  rintro e w' ⟨rfl, rfl⟩
  go_wp2
  go_ret2
  exact ⟨rfl, rfl⟩
set_option maxRecDepth 100000 in
theorem comb_and_64 (a b n _s q : Nat) (wo : World) (_hn : n < 64) (hb : (b : Int).tmod 64 = (n : Int)) (hE : bits BinOp.and IntKind.u64 (a : Int) (b : Int) = (q : Int)) :
    Calls Tryd.prog 29 #[.int .i64 113, .int .u64 (a : Int), .int .u64 (b : Int), .int .u64 64] wo (Is2 wo (q) true) := by
  go_enter Tryd.func29, Tryd.ntmps29
  go_wp2
  go_ret2
  exact ⟨rfl, rfl⟩
set_option maxRecDepth 100000 in
theorem comb_or_64 (a b n _s q : Nat) (wo : World) (_hn : n < 64) (hb : (b : Int).tmod 64 = (n : Int)) (hE : bits BinOp.or IntKind.u64 (a : Int) (b : Int) = (q : Int)) :
    Calls Tryd.prog 29 #[.int .i64 114, .int .u64 (a : Int), .int .u64 (b : Int), .int .u64 64] wo (Is2 wo (q) true) := by
  go_enter Tryd.func29, Tryd.ntmps29
  go_wp2
  go_ret2
  exact ⟨rfl, rfl⟩
set_option maxRecDepth 100000 in
theorem comb_xor_64 (a b n _s q : Nat) (wo : World) (_hn : n < 64) (hb : (b : Int).tmod 64 = (n : Int)) (hE : bits BinOp.xor IntKind.u64 (a : Int) (b : Int) = (q : Int)) :
    Calls Tryd.prog 29 #[.int .i64 115, .int .u64 (a : Int), .int .u64 (b : Int), .int .u64 64] wo (Is2 wo (q) true) := by
  go_enter Tryd.func29, Tryd.ntmps29
  go_wp2
  go_ret2
  exact ⟨rfl, rfl⟩
set_option maxRecDepth 100000 in
theorem comb_shr_64 (a b n _s q : Nat) (wo : World) (hn : n < 64) (hb : (b : Int).tmod 64 = (n : Int)) (hE : (a : Int) / 2 ^ n = (q : Int)) :
    Calls Tryd.prog 29 #[.int .i64 118, .int .u64 (a : Int), .int .u64 (b : Int), .int .u64 64] wo (Is2 wo (q) true) := by
  go_enter Tryd.func29, Tryd.ntmps29
  go_wp2
  go_ret2
  exact ⟨rfl, rfl⟩
set_option maxRecDepth 100000 in
theorem comb_sar_64 (a b n s q : Nat) (wo : World) (hn : n < 64) (hb : (b : Int).tmod 64 = (n : Int)) (x : Int) (hE : IntKind.u64.wrap (x / 2 ^ n) = (s : Int)) (HA : Hid (∀ V, Calls Tryd.prog 37 #[.int .u64 (a : Int), .int .u64 64] V fun e w' => e = .returned (.int .i64 x) ∧ V = w')) (HC : Hid (∀ V, Calls Tryd.prog 18 #[.int .u64 (s : Int), .int .u64 64] V fun e w' => e = .returned (.int .u64 (q : Int)) ∧ V = w')) :
    Calls Tryd.prog 29 #[.int .i64 117, .int .u64 (a : Int), .int .u64 (b : Int), .int .u64 64] wo (Is2 wo (q) true) := by
  go_enter Tryd.func29, Tryd.ntmps29
  go_wp2_with fail
  refine (HA.out _).mono ?_
  rintro e w' ⟨rfl, rfl⟩
  go_wp2_with fail
  refine (HC.out _).mono ?_
  rintro e w' ⟨rfl, rfl⟩
  go_wp2
  go_ret2
  exact ⟨rfl, rfl⟩
set_option maxRecDepth 100000 in
theorem comb_rol_64 (a b n _s q : Nat) (wo : World) (_hn : n < 64) (hb : (b : Int).tmod 64 = (n : Int)) (HR : Hid (∀ V, Calls Tryd.prog 38 #[.int .u64 (a : Int), .int .u64 (n : Int), .int .u64 64] V fun e w' => e = .returned (.int .u64 (q : Int)) ∧ V = w')) :
    Calls Tryd.prog 29 #[.int .i64 119, .int .u64 (a : Int), .int .u64 (b : Int), .int .u64 64] wo (Is2 wo (q) true) := by
  go_enter Tryd.func29, Tryd.ntmps29
  go_wp2_with fail
  refine (HR.out _).mono ?_
  rintro e w' ⟨rfl, rfl⟩
  go_wp2
  go_ret2
  exact ⟨rfl, rfl⟩
set_option maxRecDepth 100000 in
theorem comb_ror_64 (a b n _s q : Nat) (wo : World) (hn : n < 64) (hb : (b : Int).tmod 64 = (n : Int)) (HR : Hid (∀ V, Calls Tryd.prog 38 #[.int .u64 (a : Int), .int .u64 (64 - (n : Int)), .int .u64 64] V fun e w' => e = .returned (.int .u64 (q : Int)) ∧ V = w')) :
    Calls Tryd.prog 29 #[.int .i64 120, .int .u64 (a : Int), .int .u64 (b : Int), .int .u64 64] wo (Is2 wo (q) true) := by
  go_enter Tryd.func29, Tryd.ntmps29
  go_wp2_with fail
  refine (HR.out _).mono ?_
  rintro e w' ⟨rfl, rfl⟩
  go_wp2
  go_ret2
  exact ⟨rfl, rfl⟩
set_option maxRecDepth 100000 in
theorem comb_none_64 (c : Int) (a b n : Nat) (wo : World) (_hn : n < 64) (hb : (b : Int).tmod 64 = (n : Int)) (h : c ≠ 106 ∧ c ≠ 107 ∧ c ≠ 108 ∧ (c < 113 ∨ 120 < c)) :
    Calls Tryd.prog 29 #[.int .i64 c, .int .u64 (a : Int), .int .u64 (b : Int), .int .u64 64] wo (Is2 wo 0 false) := by
  have t106 : (c == 106) = false := by simp; omega
  have t107 : (c == 107) = false := by simp; omega
  have t108 : (c == 108) = false := by simp; omega
  have t113 : (c == 113) = false := by simp; omega
  have t114 : (c == 114) = false := by simp; omega
  have t115 : (c == 115) = false := by simp; omega
  have t116 : (c == 116) = false := by simp; omega
  have t117 : (c == 117) = false := by simp; omega
  have t118 : (c == 118) = false := by simp; omega
  have t119 : (c == 119) = false := by simp; omega
  have t120 : (c == 120) = false := by simp; omega
  clear h
  go_enter Tryd.func29, Tryd.ntmps29
  go_wp2
  go_ret2
  exact ⟨rfl, rfl⟩
/-- What combine answers. -/
theorem ocomb_32 (k a b : Nat) (c : Int) (wo : World) (ha : a < 4294967296) (hb : b < 4294967296) (hk : (k = 10 ∧ c = 106) ∨ (k = 11 ∧ c = 107) ∨ (k = 12 ∧ c = 108) ∨ (k = 17 ∧ c = 113) ∨ (k = 18 ∧ c = 114) ∨ (k = 19 ∧ c = 115) ∨ (k = 20 ∧ c = 116) ∨ (k = 21 ∧ c = 117) ∨ (k = 22 ∧ c = 118) ∨ (k = 23 ∧ c = 119) ∨ (k = 24 ∧ c = 120)) :
    Calls Tryd.prog 29 #[.int .i64 c, .int .u64 (a : Int), .int .u64 (b : Int), .int .u64 32] wo (Is2 wo (binVal k 32 a b).1 true) := by
  have hn : b % 32 < 32 := Nat.mod_lt _ (by omega)
  have hm : (b : Int).tmod 32 = ((b % 32 : Nat) : Int) := (Int.ofNat_tmod b 32).symm
  have HC : ∀ s q : Nat, cutN s 32 = q → s < 18446744073709551616 → Hid (∀ V, Calls Tryd.prog 18 #[.int .u64 (s : Int), .int .u64 32] V fun e w' => e = .returned (.int .u64 (q : Int)) ∧ V = w') := fun s q hq hs => Lib.hid fun V => by rw [← hq]; exact ocut_any s 32 32 wide32 hs V
  have HM : ∀ N : Nat, N % 18446744073709551616 < 18446744073709551616 := fun N => Nat.mod_lt _ (by omega)
  have ha6 : a < 18446744073709551616 := by omega
  have hb6 : b < 18446744073709551616 := by omega
  rcases hk with ⟨rfl, rfl⟩ | ⟨rfl, rfl⟩ | ⟨rfl, rfl⟩ | ⟨rfl, rfl⟩ | ⟨rfl, rfl⟩ | ⟨rfl, rfl⟩ | ⟨rfl, rfl⟩ | ⟨rfl, rfl⟩ | ⟨rfl, rfl⟩ | ⟨rfl, rfl⟩ | ⟨rfl, rfl⟩
  · exact comb_add_32 a b _ _ _ wo hn hm (wrap_nat (a + b)) (HC _ _ (cut_cut (a + b) 32 (by omega)) (HM _))
  · have hE : IntKind.u64.wrap ((a : Int) - (b : Int)) = (((a + (18446744073709551616 - b)) % 18446744073709551616 : Nat) : Int) := by rw [IntKind.wrap_u64]; omega
    have hv : cutN ((a + (18446744073709551616 - b)) % 18446744073709551616) 32 = cutN (a + minusN b 32) 32 := by
      rw [cut_cut _ 32 (by omega)]
      unfold minusN cutN
      omega
    exact comb_sub_32 a b _ _ _ wo hn hm hE (HC _ _ hv (HM _))
  · exact comb_mul_32 a b _ _ _ wo hn hm (wrap_nat (a * b)) (HC _ _ (cut_cut (a * b) 32 (by omega)) (HM _))
  · exact comb_and_32 a b _ 0 _ wo hn hm (by rw [u64_and_nat a b ha6 hb6]; show _ = ((eachN a b 0 : Nat) : Int); rw [each_and a b ha6])
  · exact comb_or_32 a b _ 0 _ wo hn hm (by rw [u64_or_nat a b ha6 hb6]; show _ = ((eachN a b 1 : Nat) : Int); rw [each_or a b ha6 hb6])
  · exact comb_xor_32 a b _ 0 _ wo hn hm (by rw [u64_xor_nat a b ha6 hb6]; show _ = ((eachN a b 2 : Nat) : Int); rw [each_xor a b ha6 hb6])
  · have hv : cutN (a * 2 ^ (b % 32) % 18446744073709551616) 32 = upN a (b % 32) 32 := by rw [cut_cut _ 32 (by omega), up_is]; rfl
    exact comb_shl_32 a b _ _ _ wo hn hm (by rw [pow_int, wrap_nat]) (HC _ _ hv (HM _))
  · have h1 := down_sg32 a (b % 32) ha hn
    obtain ⟨s, hs, e1, e2, e3⟩ := into_32 _ _ h1
    exact comb_sar_32 a b _ s _ wo hn hm _ e2 (Lib.hid fun V => osigned_any a 32 32 wide32 ha V) (HC _ _ e3 hs)
  · exact comb_shr_32 a b _ 0 _ wo hn hm (by rw [div_int]; show _ = ((downN a (b % 32) 32 0 : Nat) : Int); rw [down_is a _ 32 ha])
  · exact comb_rol_32 a b _ 0 _ wo hn hm (Lib.hid fun V => oturn_32 a (b % 32) V ha (by omega))
  · exact comb_ror_32 a b _ 0 _ wo hn hm (Lib.hid fun V => by
      rw [show (32 : Int) - ((b % 32 : Nat) : Int) = ((32 - b % 32 : Nat) : Int) from by omega]
      exact oturn_32 a (32 - b % 32) V ha (by omega))
theorem ocomb_none_32 (a b : Nat) (c : Int) (wo : World) (h : c ≠ 106 ∧ c ≠ 107 ∧ c ≠ 108 ∧ (c < 113 ∨ 120 < c)) :
    Calls Tryd.prog 29 #[.int .i64 c, .int .u64 (a : Int), .int .u64 (b : Int), .int .u64 32] wo (Is2 wo 0 false) :=
  comb_none_32 c a b (b % 32) wo (Nat.mod_lt _ (by omega)) (Int.ofNat_tmod b 32).symm h
/-- What combine answers. -/
theorem ocomb_64 (k a b : Nat) (c : Int) (wo : World) (ha : a < 18446744073709551616) (hb : b < 18446744073709551616) (hk : (k = 10 ∧ c = 106) ∨ (k = 11 ∧ c = 107) ∨ (k = 12 ∧ c = 108) ∨ (k = 17 ∧ c = 113) ∨ (k = 18 ∧ c = 114) ∨ (k = 19 ∧ c = 115) ∨ (k = 20 ∧ c = 116) ∨ (k = 21 ∧ c = 117) ∨ (k = 22 ∧ c = 118) ∨ (k = 23 ∧ c = 119) ∨ (k = 24 ∧ c = 120)) :
    Calls Tryd.prog 29 #[.int .i64 c, .int .u64 (a : Int), .int .u64 (b : Int), .int .u64 64] wo (Is2 wo (binVal k 64 a b).1 true) := by
  have hn : b % 64 < 64 := Nat.mod_lt _ (by omega)
  have hm : (b : Int).tmod 64 = ((b % 64 : Nat) : Int) := (Int.ofNat_tmod b 64).symm
  have HC : ∀ s q : Nat, cutN s 64 = q → s < 18446744073709551616 → Hid (∀ V, Calls Tryd.prog 18 #[.int .u64 (s : Int), .int .u64 64] V fun e w' => e = .returned (.int .u64 (q : Int)) ∧ V = w') := fun s q hq hs => Lib.hid fun V => by rw [← hq]; exact ocut_any s 64 64 wide64 hs V
  have HM : ∀ N : Nat, N % 18446744073709551616 < 18446744073709551616 := fun N => Nat.mod_lt _ (by omega)
  have ha6 : a < 18446744073709551616 := by omega
  have hb6 : b < 18446744073709551616 := by omega
  rcases hk with ⟨rfl, rfl⟩ | ⟨rfl, rfl⟩ | ⟨rfl, rfl⟩ | ⟨rfl, rfl⟩ | ⟨rfl, rfl⟩ | ⟨rfl, rfl⟩ | ⟨rfl, rfl⟩ | ⟨rfl, rfl⟩ | ⟨rfl, rfl⟩ | ⟨rfl, rfl⟩ | ⟨rfl, rfl⟩
  · exact comb_add_64 a b _ _ _ wo hn hm (wrap_nat (a + b)) (HC _ _ (cut_cut (a + b) 64 (by omega)) (HM _))
  · have hE : IntKind.u64.wrap ((a : Int) - (b : Int)) = (((a + (18446744073709551616 - b)) % 18446744073709551616 : Nat) : Int) := by rw [IntKind.wrap_u64]; omega
    have hv : cutN ((a + (18446744073709551616 - b)) % 18446744073709551616) 64 = cutN (a + minusN b 64) 64 := by
      rw [cut_cut _ 64 (by omega)]
      unfold minusN cutN
      omega
    exact comb_sub_64 a b _ _ _ wo hn hm hE (HC _ _ hv (HM _))
  · exact comb_mul_64 a b _ _ _ wo hn hm (wrap_nat (a * b)) (HC _ _ (cut_cut (a * b) 64 (by omega)) (HM _))
  · exact comb_and_64 a b _ 0 _ wo hn hm (by rw [u64_and_nat a b ha6 hb6]; show _ = ((eachN a b 0 : Nat) : Int); rw [each_and a b ha6])
  · exact comb_or_64 a b _ 0 _ wo hn hm (by rw [u64_or_nat a b ha6 hb6]; show _ = ((eachN a b 1 : Nat) : Int); rw [each_or a b ha6 hb6])
  · exact comb_xor_64 a b _ 0 _ wo hn hm (by rw [u64_xor_nat a b ha6 hb6]; show _ = ((eachN a b 2 : Nat) : Int); rw [each_xor a b ha6 hb6])
  · have hv : cutN (a * 2 ^ (b % 64) % 18446744073709551616) 64 = upN a (b % 64) 64 := by rw [cut_cut _ 64 (by omega), up_is]; rfl
    exact comb_shl_64 a b _ _ _ wo hn hm (by rw [pow_int, wrap_nat]) (HC _ _ hv (HM _))
  · have h1 := down_sg64 a (b % 64) ha hn
    obtain ⟨s, hs, e1, e2, e3⟩ := into_64 _ _ h1
    exact comb_sar_64 a b _ s _ wo hn hm _ e2 (Lib.hid fun V => osigned_any a 64 64 wide64 ha V) (HC _ _ e3 hs)
  · exact comb_shr_64 a b _ 0 _ wo hn hm (by rw [div_int]; show _ = ((downN a (b % 64) 64 0 : Nat) : Int); rw [down_is a _ 64 ha])
  · exact comb_rol_64 a b _ 0 _ wo hn hm (Lib.hid fun V => oturn_64 a (b % 64) V ha (by omega))
  · exact comb_ror_64 a b _ 0 _ wo hn hm (Lib.hid fun V => by
      rw [show (64 : Int) - ((b % 64 : Nat) : Int) = ((64 - b % 64 : Nat) : Int) from by omega]
      exact oturn_64 a (64 - b % 64) V ha (by omega))
theorem ocomb_none_64 (a b : Nat) (c : Int) (wo : World) (h : c ≠ 106 ∧ c ≠ 107 ∧ c ≠ 108 ∧ (c < 113 ∨ 120 < c)) :
    Calls Tryd.prog 29 #[.int .i64 c, .int .u64 (a : Int), .int .u64 (b : Int), .int .u64 64] wo (Is2 wo 0 false) :=
  comb_none_64 c a b (b % 64) wo (Nat.mod_lt _ (by omega)) (Int.ofNat_tmod b 64).symm h
end Go.Proofs.YtbgcafkdojoilaaDoor.Num
